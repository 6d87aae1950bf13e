/-
  The contract of the document's own NextOf.
-/
import Derived.Test.YtbcjhkhndahdhaaDoorStepNext
import Derived.Test.YtbcjhkhndahdhaaDoorRefAfter
namespace Go.Proofs.YtbcjhkhndahdhaaDoor
open Go.ChangeShapes Go.WideShapes Go.ChangeAt Go.RowKit Go.Deep
open Terms Tm

/-- of the first so many numbers those that a list has. -/
def pickTo (raw : List Int) (c : Nat) : List Int := ((List.range c).filter (fun j : Nat => decide ((j : Int) ∈ raw))).map (fun j : Nat => (j : Int))
theorem pickTo_yes {raw : List Int} {c : Nat} (h : (c : Int) ∈ raw) : pickTo raw (c + 1) = pickTo raw c ++ [(c : Int)] := by simp [pickTo, List.range_succ, List.filter_append, h]
theorem pickTo_no {raw : List Int} {c : Nat} (h : ¬ (c : Int) ∈ raw) : pickTo raw (c + 1) = pickTo raw c := by simp [pickTo, List.range_succ, List.filter_append, h]
theorem pickTo_rise (raw : List Int) (c : Nat) : Rise (pickTo raw c) := by
  induction c with
  | zero => simp [pickTo]
  | succ c ih =>
    by_cases h : (c : Int) ∈ raw
    · rw [pickTo_yes h]
      refine List.pairwise_append.2 ⟨ih, by simp, fun x hx y hy => ?_⟩
      simp [pickTo] at hx
      obtain ⟨j, hj, rfl⟩ := hx
      simp at hy
      omega
    · rw [pickTo_no h]; exact ih
theorem pickTo_mem {raw : List Int} {c : Nat} (h : ∀ x ∈ raw, 0 ≤ x ∧ x < c) (x : Int) : x ∈ pickTo raw c ↔ x ∈ raw := by
  simp only [pickTo, List.mem_map, List.mem_filter, List.mem_range, decide_eq_true_eq]
  constructor
  · rintro ⟨j, ⟨_, h2⟩, rfl⟩; exact h2
  · intro hx
    obtain ⟨h0, h1⟩ := h x hx
    exact ⟨x.toNat, ⟨by omega, by rw [Int.toNat_of_nonneg h0]; exact hx⟩, by omega⟩
theorem pickTo_length (raw : List Int) (c : Nat) : (pickTo raw c).length ≤ c := by
  unfold pickTo
  rw [List.length_map]
  exact Nat.le_trans (List.length_filter_le _ _) (by simp)
theorem upL_one (c : Int) : upL [c] = [c] := (upL_eq (l := [c]) (by simp) (fun _ => Iff.rfl)).symm

set_option maxHeartbeats 3200000 in
set_option maxRecDepth 20000 in
/-- THE CONTRACT OF NextOf. -/
theorem rnext_own (va vr : Value) (m : Mo) (code : Int) (w : World) (hV : ModelV w va vr m) :
    Calls Tryd.prog 14 #[.agg #[va, vr], .int .i64 code] w fun e w' => ∃ v, e = .returned (.tuple #[v, .int .i64 (wcode m code)]) ∧ Below w.heap.size w w' ∧ w'.ownsRow w.heap.size 3 1 v (nxtL m code).length (ivals (nxtL m code)) := by
  have hA : ∀ o, Below w.heap.size w (w.alloc o) := fun o => (Below.refl _ _).alloc (Nat.le_refl _) o
  have hcn := fun o => rcount_any va vr m (w.alloc o) (hV.below (hA o))
  by_cases hm : mcode m = 0
  · rw [hm, if_pos rfl] at hcn
    have hok := mcode_vars hm
    have hN := hok.prod (j := m.vars.length) (Nat.le_refl _)
    by_cases hc : 0 ≤ code ∧ code < prodTo m.vars m.vars.length
    · have hw : wcode m code = 0 := wcode_yes hm hc
      obtain ⟨hr12, _⟩ := mcode_rules hm
      have HAf : Hid (∀ w' (_ : Below w.heap.size w w') k, k < m.rules.length → Calls Tryd.prog 27 #[.agg #[va, vr], .int .i64 code, .int .i64 k] w' fun e w2 => e = .returned (.tuple #[.int .i64 (optN (ruleDo m.vars (valsL m.vars code) (m.rules.getD k ru0))), .int .i64 (optC (ruleDo m.vars (valsL m.vars code) (m.rules.getD k ru0)))]) ∧ Below w'.heap.size w' w2) := fun w' hb k hk => rafter_in va vr m code k w' (hV.below hb) hw hk
      have HSt : Hid (∀ k x, ruleDo m.vars (valsL m.vars code) (m.rules.getD k ru0) = some x → 0 ≤ x ∧ x < prodTo m.vars m.vars.length) := fun k x h => ruleDo_state hok h
      have HNL : Hid (nxtL m code = upL (if rawTo m.vars (valsL m.vars code) m.rules m.rules.length = [] then [code] else rawTo m.vars (valsL m.vars code) m.rules m.rules.length)) := by show _ = _; unfold nxtL nextL rawL; rw [if_pos hw]
      have HRM : Hid (∀ x ∈ rawTo m.vars (valsL m.vars code) m.rules m.rules.length, 0 ≤ x ∧ x < prodTo m.vars m.vars.length) := fun x hx => by
        obtain ⟨j, _, e⟩ := (rawTo_mem (Nat.le_refl _) x).1 hx
        exact ruleDo_state hok e
      rw [hw]
      generalize nxtL m code = res at *
      generalize valsL m.vars code = env at *
      obtain ⟨pn, hpn⟩ : ∃ pn : Nat, prodTo m.vars m.vars.length = pn := ⟨(prodTo m.vars m.vars.length).toNat, by omega⟩
      rw [hpn] at hcn hN hc HSt HRM
      have hii := fun w => in_any code 0 ((pn : Int) - 1) w
      rw [decide_eq_true (show 0 ≤ code ∧ code ≤ (pn : Int) - 1 by omega)] at hii
      obtain ⟨ao, cap, rfl⟩ := hV.1.shape
      obtain ⟨ro, rc, rfl⟩ := hV.2.shape
      obtain ⟨rn, hrn⟩ : ∃ rn, rn = m.rules.length := ⟨_, rfl⟩
      have HRN : Hid (rn = m.rules.length) := hrn
      rw [← hrn] at hcn HAf HNL HRM hr12 ⊢
      have hmk := run_make_row' (P := Tryd.prog) 58 4 (.bool false) 1 Tryd.underlying58 infoBool rfl .i64 .i64 pn (by omega) (by omega)
      obtain ⟨i0, hi, hz0, hz1, hz2⟩ := info_parts infoInt
      obtain ⟨hN0, hN1⟩ := hN
      clear hV hw hm hok hrn hpn hc
      generalize m.vars.length = n at *
      go_enter Tryd.func14, Tryd.ntmps14
      go_wp2_with (first | (go_at_call 13; refine (hcn _).mono ?_; rintro e w1 ⟨rfl, hb1⟩; have hbw1 := (hA _).trans (hb1.mono (hA _).size); have k10 : w1.cell? ⟨w.heap.size, 0, none⟩ = some (.slice ao n cap) := (hb1.cell (p := ⟨w.heap.size, 0, none⟩) (by simp)).trans (by simp [go_sem]); have k11 : w1.cell? ⟨w.heap.size, 1, none⟩ = some (.slice ro rn rc) := (hb1.cell (p := ⟨w.heap.size, 1, none⟩) (by simp)).trans (by simp [go_sem]); have hs1 : w.heap.size < w1.heap.size := (by have := hb1.size; simp at this; omega)) | (go_at_call 26; refine (hii _).mono ?_; rintro e w9 ⟨rfl, rfl⟩))
      have hrow0 := World.rowIs_made w9 (.bool false) pn 4
      have HB1 : Hid (Below w.heap.size w w9) := hbw1
      have HK1 : Hid (∀ w', Below w9.heap.size w9 w' → w'.cell? ⟨w.heap.size, 0, none⟩ = some (.slice ao n cap) ∧ w'.cell? ⟨w.heap.size, 1, none⟩ = some (.slice ro rn rc)) := fun w' hb => ⟨(hb.cell (p := ⟨w.heap.size, 0, none⟩) hs1).trans k10, (hb.cell (p := ⟨w.heap.size, 1, none⟩) hs1).trans k11⟩
      clear hcn hii hmk hb1 hbw1 k10 k11
      go_loopw [9, 10] (fun sm i wr => ∃ k : Nat, k ≤ rn ∧ i = .int .i64 k ∧ sm = .bool (decide (rawTo m.vars env m.rules k ≠ [])) ∧ Hid (wr.rowIs w9.heap.size 4 pn (fun j => .bool (decide ((j : Int) ∈ rawTo m.vars env m.rules k)))) ∧ Hid (Below w9.heap.size w9 wr)) (fun _ i _ => rn - (intOf i).toNat)
      case atStart => exact ⟨0, Nat.zero_le _, rfl, by simp [rawTo], hrow0.congr (fun i hi => by simp [rawTo]), (Below.refl _ _).alloc (Nat.le_refl _) _⟩
      case round =>
        obtain ⟨k, hk, rfl, rfl, HRow, HBel⟩ := hrel
        have hbel := HBel.out
        have hbw := HB1.out.trans (hbel.mono HB1.out.size)
        obtain ⟨kr0, kr1⟩ := HK1.out wr hbel
        by_cases hlt : k < rn
        · have haf := HAf.out wr hbw k hlt
          have hk' : k < m.rules.length := by rw [← HRN.out]; exact hlt
          have HW4 : Hid (∀ w4, Below wr.heap.size wr w4 → Below w9.heap.size w9 w4 ∧ w4.rowIs w9.heap.size 4 pn (fun j => .bool (decide ((j : Int) ∈ rawTo m.vars env m.rules k)))) := fun w4 hb => ⟨hbel.trans (hb.mono hbel.size), row_later HRow.out hb⟩
          cases hres : ruleDo m.vars env (m.rules.getD k ru0) with
          | none =>
            rw [hres] at haf
            simp only [optN, optC] at haf
            have HN : Hid (rawTo m.vars env m.rules (k + 1) = rawTo m.vars env m.rules k) := rawTo_none hk' hres
            clear HAf hres hk' hbel hbw HSt
            go_wp2_with (go_at_call 27; refine haf.mono ?_; rintro e w4 ⟨rfl, hb4⟩; obtain ⟨hb94, hr4⟩ := HW4.out w4 hb4)
            exact ⟨⟨k + 1, hlt, by first | rfl | simp, by rw [HN.out]; simp, by rw [HN.out]; exact hr4, hb94⟩, by simp [intOf]; omega⟩
          | some x =>
            rw [hres] at haf
            simp only [optN, optC] at haf
            have HN : Hid (rawTo m.vars env m.rules (k + 1) = rawTo m.vars env m.rules k ++ [x]) := rawTo_some hk' hres
            obtain ⟨hx0, hx1⟩ := HSt.out k x hres
            obtain ⟨xn, rfl⟩ : ∃ xn : Nat, x = xn := ⟨x.toNat, by omega⟩
            have hxn : xn < pn := by omega
            clear HAf hres hk' hbel hbw HSt
            go_wp2_with (go_at_call 27; refine haf.mono ?_; rintro e w4 ⟨rfl, hb4⟩; obtain ⟨hb94, hr4⟩ := HW4.out w4 hb4; have hf := hr4.frozen xn; have hc := hr4.cell hxn; have HR4 : Hid (w4.rowIs w9.heap.size 4 pn (fun j => .bool (decide ((j : Int) ∈ rawTo m.vars env m.rules k)))) := hr4; clear hr4)
            refine ⟨⟨k + 1, hlt, by first | rfl | simp, by rw [HN.out]; simp, (HR4.out.set xn (.bool true)).congr fun i hi => ?_, hb94.setCell (Nat.le_refl _) _⟩, by simp [intOf]; omega⟩
            rw [HN.out]
            by_cases hix : i = xn
            · subst hix; simp
            · rw [if_neg hix]
              simp [show ¬ (i : Int) = (xn : Int) by omega]
        · have hkn : k = rn := by omega
          subst hkn
          generalize rawTo m.vars env m.rules k = raw at *
          clear HAf HSt kr0 kr1 hlt hk
          by_cases hraw : raw = []
          · have HRes : Hid (res = [code]) := by show _ = _; rw [HNL.out, if_pos hraw, upL_one]
            subst hraw
            obtain ⟨kr0, kr1⟩ := HK1.out wr hbel
            have HIl : Hid ((wr.alloc (.cells #[.int .i64 code] 3)).ownsRow w.heap.size 3 1 (.slice (some ⟨wr.heap.size, 0, none⟩) 1 1) 1 (ivals [code])) := World.ownsRow_lit wr #[.int .i64 code] 1 hbw.size (by decide) rfl
            go_wp2_with fail
            go_ret2
            exact ⟨_, rfl, hbw.alloc hbw.size _, by rw [HRes.out]; exact HIl.out⟩
          · have HRes : Hid (res = pickTo raw pn) := by
              show _ = _
              rw [HNL.out, if_neg hraw]
              exact (upL_eq (pickTo_rise raw pn) (pickTo_mem HRM.out)).symm
            obtain ⟨kr0, kr1⟩ := HK1.out wr hbel
            have HRow2 : Hid (wr.rowIs w9.heap.size 4 pn (fun j => .bool (decide ((j : Int) ∈ raw)))) := HRow.out
            obtain ⟨wo, hwo⟩ : ∃ wo, wo = wr := ⟨_, rfl⟩
            subst hwo
            rw [decide_eq_true hraw]
            clear hraw HNL
            go_wp2_with fail
            go_loopw [13, 14] (fun out i wr => ∃ c : Nat, c ≤ pn ∧ i = .int .i64 c ∧ Hid (wr.ownsRow wo.heap.size 3 1 out (pickTo raw c).length (ivals (pickTo raw c))) ∧ Hid (Below wo.heap.size wo wr)) (fun _ i _ => pn - (intOf i).toNat)
            case atStart => exact ⟨0, Nat.zero_le _, rfl, World.ownsRow_nil _ _ _ _, Below.refl _ _⟩
            case round =>
              obtain ⟨c, hc, rfl, HOwn, HBc⟩ := hrel
              have hbc := HBc.out
              have hrc := row_later HRow2.out hbc
              have hown := HOwn.out
              have hnb := hown.lt
              obtain ⟨oo, oc, rfl⟩ := owns_slice hown
              by_cases hlc : c < pn
              · have hcc := hrc.cell hlc
                have HPl : Hid ((pickTo raw c).length ≤ c) := pickTo_length _ _
                clear hrc
                by_cases hin : (c : Int) ∈ raw
                · simp only [hin, decide_true] at hcc
                  have HN : Hid (pickTo raw (c + 1) = pickTo raw c ++ [(c : Int)]) := pickTo_yes hin
                  obtain ⟨L, hL⟩ : ∃ L, L = (pickTo raw c).length := ⟨_, rfl⟩
                  have HL : Hid (L = (pickTo raw c).length) := hL
                  rw [← hL] at hown hnb HPl ⊢
                  have h63 : L + 1 ≤ maxLen := by have := HPl.out; unfold maxLen; omega
                  have hkb : (L + 1) * 8 ≤ 140737488355328 := by have := HPl.out; omega
                  have hown4 := fun o => hown.alloc o
                  have hbase : ∀ o, wo.heap.size ≤ (wr.alloc o).heap.size := fun o => by have := hbc.size; simp; omega
                  clear hL hin HOwn hown
                  go_wp2_with (at_builtin; refine wpList_append_own _ rfl (.tmp 62) (.tmp 64) 26 rfl wo.heap.size 3 i0 (.int .i64 0) 1 8 Tryd.underlying26 hi hz0 hz1 hz2 rfl (by decide) (.slice oo L oc) L _ rfl (hown4 _) ⟨wr.heap.size, 0, none⟩ 1 1 [.int .i64 c] rfl rfl (cell_one_new _ _ _) (by intro u hu; simp at hu; subst hu; rfl) h63 hkb (hbase _) ?_; intro v' w4 hown' hgrow _)
                  have hb4 : Below wo.heap.size wo w4 := (hbc.alloc hbc.size _).grown hgrow (hbase _) (fun z hz => (hnb z hz).1)
                  have ho4 : w4.ownsRow wo.heap.size 3 1 v' (pickTo raw (c + 1)).length (ivals (pickTo raw (c + 1))) := by
                    rw [HN.out, List.length_append, ← HL.out]
                    rw [show ivals (pickTo raw c ++ [(c : Int)]) = ivals (pickTo raw c) ++ [.int .i64 c] by simp [ivals]]
                    exact hown'
                  go_roundw
                  case rel => exact ⟨c + 1, hlc, by go_num, ho4, hb4⟩
                  case measure => simp [intOf]; omega
                · simp only [hin, decide_false] at hcc
                  have HN : Hid (pickTo raw (c + 1) = pickTo raw c) := pickTo_no hin
                  clear hin hown
                  go_wp2_with fail
                  exact ⟨⟨c + 1, hlc, by first | rfl | simp, by rw [HN.out]; exact HOwn.out, hbc⟩, by simp [intOf]; omega⟩
              · have hcn : c = pn := by omega
                subst hcn
                have hI : wr.ownsRow w.heap.size 3 1 (.slice oo (pickTo raw c).length oc) (pickTo raw c).length (ivals (pickTo raw c)) := owns_mono hown hbw.size
                have HI := (show Hid _ from hI)
                clear hI hown hrc HOwn
                go_wp2_with fail
                go_ret2
                exact ⟨_, rfl, hbw.trans (hbc.mono hbw.size), by rw [HRes.out]; exact HI.out⟩
    · have hw : wcode m code = 9 := wcode_no hm hc
      have hnl : nxtL m code = [] := by unfold nxtL; rw [if_neg (by rw [hw]; decide)]
      rw [hw, hnl]
      have hii := fun w => in_any code 0 (prodTo m.vars m.vars.length - 1) w
      rw [decide_eq_false (show ¬ (0 ≤ code ∧ code ≤ prodTo m.vars m.vars.length - 1) by omega)] at hii
      obtain ⟨ao, cap, rfl⟩ := hV.1.shape
      obtain ⟨ro, rc, rfl⟩ := hV.2.shape
      obtain ⟨hN0, hN1⟩ := hN
      generalize prodTo m.vars m.vars.length = N at *
      generalize m.vars.length = n at *
      generalize m.rules.length = rn at *
      clear hV hw hnl hm hok hc
      go_enter Tryd.func14, Tryd.ntmps14
      go_wp2_with (first | (go_at_call 13; refine (hcn _).mono ?_; rintro e w1 ⟨rfl, hb1⟩) | (go_at_call 26; refine (hii _).mono ?_; rintro e w9 ⟨rfl, rfl⟩))
      go_ret2
      exact ⟨_, rfl, (hA _).trans (hb1.mono (hA _).size), World.ownsRow_nil _ _ _ _⟩
  · have hw : wcode m code = mcode m := wcode_bad hm
    have hnl : nxtL m code = [] := by unfold nxtL; rw [if_neg (by rw [hw]; exact hm)]
    rw [hw, hnl]
    rw [if_neg hm] at hcn
    obtain ⟨ao, cap, rfl⟩ := hV.1.shape
    obtain ⟨ro, rc, rfl⟩ := hV.2.shape
    generalize mcode m = c at *
    generalize m.vars.length = n at *
    generalize m.rules.length = rn at *
    clear hV hw hnl
    go_enter Tryd.func14, Tryd.ntmps14
    go_wp2_with (go_at_call 13; refine (hcn _).mono ?_; rintro e w1 ⟨rfl, hb1⟩)
    go_ret2
    exact ⟨_, rfl, (hA _).trans (hb1.mono (hA _).size), World.ownsRow_nil _ _ _ _⟩
theorem rnext_any (va vr : Value) (m : Mo) (code : Int) (w : World) (hV : ModelV w va vr m) :
    Calls Tryd.prog 14 #[.agg #[va, vr], .int .i64 code] w fun e w' => ∃ v, e = .returned (.tuple #[v, .int .i64 (wcode m code)]) ∧ Below w.heap.size w w' ∧ IntsV w' v (nxtL m code) :=
  (rnext_own va vr m code w hV).mono fun _ _ ⟨v, h1, h2, h3⟩ => ⟨v, h1, h2, intsV_of_owns h3⟩
end Go.Proofs.YtbcjhkhndahdhaaDoor
