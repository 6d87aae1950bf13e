/-
  Joined out of RefNext, RefBeh, RefMet, RefEx2, PexWalk, in their order: a claim bears at most so many files.
-/
import Derived.Test.YtihmcoikgkacoaaGreatDoorLateC
import Derived.Test.YtihmcoikgkacoaaGreatDoorLateF
import Derived.Test.YtihmcoikgkacoaaGreatDoorLateE
import Derived.Test.YtihmcoikgkacoaaGreatDoorLateA
/-
  The contract of the document's own NextOf.
-/
namespace Go.Proofs.YtihmcoikgkacoaaGreatDoor
open Go.ChangeShapes Go.WideShapes Go.ChangeAt Go.RowKit Go.Deep
open Terms Tm

/-- of the first so many numbers those that a list has. -/
def pickTo (raw : List Int) (c : Nat) : List Int := ((List.range c).filter (fun j : Nat => decide ((j : Int) ∈ raw))).map (fun j : Nat => (j : Int))
theorem pickTo_yes {raw : List Int} {c : Nat} (h : (c : Int) ∈ raw) : pickTo raw (c + 1) = pickTo raw c ++ [(c : Int)] := by simp [pickTo, List.range_succ, List.filter_append, h]
theorem pickTo_no {raw : List Int} {c : Nat} (h : ¬ (c : Int) ∈ raw) : pickTo raw (c + 1) = pickTo raw c := by simp [pickTo, List.range_succ, List.filter_append, h]
theorem pickTo_rise (raw : List Int) (c : Nat) : Rise (pickTo raw c) := by
  induction c with
  | zero => simp [pickTo]
  | succ c ih =>
    by_cases h : (c : Int) ∈ raw
    · rw [pickTo_yes h]
      refine List.pairwise_append.2 ⟨ih, by simp, fun x hx y hy => ?_⟩
      simp [pickTo] at hx
      obtain ⟨j, hj, rfl⟩ := hx
      simp at hy
      omega
    · rw [pickTo_no h]; exact ih
theorem pickTo_mem {raw : List Int} {c : Nat} (h : ∀ x ∈ raw, 0 ≤ x ∧ x < c) (x : Int) : x ∈ pickTo raw c ↔ x ∈ raw := by
  simp only [pickTo, List.mem_map, List.mem_filter, List.mem_range, decide_eq_true_eq]
  constructor
  · rintro ⟨j, ⟨_, h2⟩, rfl⟩; exact h2
  · intro hx
    obtain ⟨h0, h1⟩ := h x hx
    exact ⟨x.toNat, ⟨by omega, by rw [Int.toNat_of_nonneg h0]; exact hx⟩, by omega⟩
theorem pickTo_length (raw : List Int) (c : Nat) : (pickTo raw c).length ≤ c := by
  unfold pickTo
  rw [List.length_map]
  exact Nat.le_trans (List.length_filter_le _ _) (by simp)
theorem upL_one (c : Int) : upL [c] = [c] := (upL_eq (l := [c]) (by simp) (fun _ => Iff.rfl)).symm

set_option maxHeartbeats 3200000 in
set_option maxRecDepth 20000 in
/-- THE CONTRACT OF NextOf. -/
theorem rnext_own (va vr : Value) (m : Mo) (code : Int) (w : World) (hV : ModelV w va vr m) :
    Calls Tryz.prog 24 #[.agg #[va, vr], .int .i64 code] w fun e w' => ∃ v, e = .returned (.tuple #[v, .int .i64 (wcode m code)]) ∧ Below w.heap.size w w' ∧ w'.ownsRow w.heap.size 3 1 v (nxtL m code).length (ivals (nxtL m code)) := by
  have hA : ∀ o, Below w.heap.size w (w.alloc o) := fun o => (Below.refl _ _).alloc (Nat.le_refl _) o
  have hcn := fun o => rcount_any va vr m (w.alloc o) (hV.below (hA o))
  by_cases hm : mcode m = 0
  · rw [hm, if_pos rfl] at hcn
    have hok := mcode_vars hm
    have hN := hok.prod (j := m.vars.length) (Nat.le_refl _)
    by_cases hc : 0 ≤ code ∧ code < prodTo m.vars m.vars.length
    · have hw : wcode m code = 0 := wcode_yes hm hc
      obtain ⟨hr12, _⟩ := mcode_rules hm
      have HAf : Hid (∀ w' (_ : Below w.heap.size w w') k, k < m.rules.length → Calls Tryz.prog 48 #[.agg #[va, vr], .int .i64 code, .int .i64 k] w' fun e w2 => e = .returned (.tuple #[.int .i64 (optN (ruleDo m.vars (valsL m.vars code) (m.rules.getD k ru0))), .int .i64 (optC (ruleDo m.vars (valsL m.vars code) (m.rules.getD k ru0)))]) ∧ Below w'.heap.size w' w2) := fun w' hb k hk => rafter_in va vr m code k w' (hV.below hb) hw hk
      have HSt : Hid (∀ k x, ruleDo m.vars (valsL m.vars code) (m.rules.getD k ru0) = some x → 0 ≤ x ∧ x < prodTo m.vars m.vars.length) := fun k x h => ruleDo_state hok h
      have HNL : Hid (nxtL m code = upL (if rawTo m.vars (valsL m.vars code) m.rules m.rules.length = [] then [code] else rawTo m.vars (valsL m.vars code) m.rules m.rules.length)) := by show _ = _; unfold nxtL nextL rawL; rw [if_pos hw]
      have HRM : Hid (∀ x ∈ rawTo m.vars (valsL m.vars code) m.rules m.rules.length, 0 ≤ x ∧ x < prodTo m.vars m.vars.length) := fun x hx => by
        obtain ⟨j, _, e⟩ := (rawTo_mem (Nat.le_refl _) x).1 hx
        exact ruleDo_state hok e
      rw [hw]
      generalize nxtL m code = res at *
      generalize valsL m.vars code = env at *
      obtain ⟨pn, hpn⟩ : ∃ pn : Nat, prodTo m.vars m.vars.length = pn := ⟨(prodTo m.vars m.vars.length).toNat, by omega⟩
      rw [hpn] at hcn hN hc HSt HRM
      have hii := fun w => in_any code 0 ((pn : Int) - 1) w
      rw [decide_eq_true (show 0 ≤ code ∧ code ≤ (pn : Int) - 1 by omega)] at hii
      obtain ⟨ao, cap, rfl⟩ := hV.1.shape
      obtain ⟨ro, rc, rfl⟩ := hV.2.shape
      obtain ⟨rn, hrn⟩ : ∃ rn, rn = m.rules.length := ⟨_, rfl⟩
      have HRN : Hid (rn = m.rules.length) := hrn
      rw [← hrn] at hcn HAf HNL HRM hr12 ⊢
      have hmk := run_make_row' (P := Tryz.prog) 61 4 (.bool false) 1 Tryz.underlying61 infoBool rfl .i64 .i64 pn (by omega) (by omega)
      obtain ⟨i0, hi, hz0, hz1, hz2⟩ := info_parts infoInt
      obtain ⟨hN0, hN1⟩ := hN
      clear hV hw hm hok hrn hpn hc
      generalize m.vars.length = n at *
      go_enter Tryz.func24, Tryz.ntmps24
      go_wp2_with (first | (go_at_call 20; refine (hcn _).mono ?_; rintro e w1 ⟨rfl, hb1⟩; have hbw1 := (hA _).trans (hb1.mono (hA _).size); have k10 : w1.cell? ⟨w.heap.size, 0, none⟩ = some (.slice ao n cap) := (hb1.cell (p := ⟨w.heap.size, 0, none⟩) (by simp)).trans (by simp [go_sem]); have k11 : w1.cell? ⟨w.heap.size, 1, none⟩ = some (.slice ro rn rc) := (hb1.cell (p := ⟨w.heap.size, 1, none⟩) (by simp)).trans (by simp [go_sem]); have hs1 : w.heap.size < w1.heap.size := (by have := hb1.size; simp at this; omega)) | (go_at_call 22; refine (hii _).mono ?_; rintro e w9 ⟨rfl, rfl⟩))
      have hrow0 := World.rowIs_made w9 (.bool false) pn 4
      have HB1 : Hid (Below w.heap.size w w9) := hbw1
      have HK1 : Hid (∀ w', Below w9.heap.size w9 w' → w'.cell? ⟨w.heap.size, 0, none⟩ = some (.slice ao n cap) ∧ w'.cell? ⟨w.heap.size, 1, none⟩ = some (.slice ro rn rc)) := fun w' hb => ⟨(hb.cell (p := ⟨w.heap.size, 0, none⟩) hs1).trans k10, (hb.cell (p := ⟨w.heap.size, 1, none⟩) hs1).trans k11⟩
      clear hcn hii hmk hb1 hbw1 k10 k11
      go_loopw [9, 10] (fun sm i wr => ∃ k : Nat, k ≤ rn ∧ i = .int .i64 k ∧ sm = .bool (decide (rawTo m.vars env m.rules k ≠ [])) ∧ Hid (wr.rowIs w9.heap.size 4 pn (fun j => .bool (decide ((j : Int) ∈ rawTo m.vars env m.rules k)))) ∧ Hid (Below w9.heap.size w9 wr)) (fun _ i _ => rn - (intOf i).toNat)
      case atStart => exact ⟨0, Nat.zero_le _, rfl, by simp [rawTo], hrow0.congr (fun i hi => by simp [rawTo]), (Below.refl _ _).alloc (Nat.le_refl _) _⟩
      case round =>
        obtain ⟨k, hk, rfl, rfl, HRow, HBel⟩ := hrel
        have hbel := HBel.out
        have hbw := HB1.out.trans (hbel.mono HB1.out.size)
        obtain ⟨kr0, kr1⟩ := HK1.out wr hbel
        by_cases hlt : k < rn
        · have haf := HAf.out wr hbw k hlt
          have hk' : k < m.rules.length := by rw [← HRN.out]; exact hlt
          have HW4 : Hid (∀ w4, Below wr.heap.size wr w4 → Below w9.heap.size w9 w4 ∧ w4.rowIs w9.heap.size 4 pn (fun j => .bool (decide ((j : Int) ∈ rawTo m.vars env m.rules k)))) := fun w4 hb => ⟨hbel.trans (hb.mono hbel.size), row_later HRow.out hb⟩
          cases hres : ruleDo m.vars env (m.rules.getD k ru0) with
          | none =>
            rw [hres] at haf
            simp only [optN, optC] at haf
            have HN : Hid (rawTo m.vars env m.rules (k + 1) = rawTo m.vars env m.rules k) := rawTo_none hk' hres
            clear HAf hres hk' hbel hbw HSt
            go_wp2_with (go_at_call 48; refine haf.mono ?_; rintro e w4 ⟨rfl, hb4⟩; obtain ⟨hb94, hr4⟩ := HW4.out w4 hb4)
            exact ⟨⟨k + 1, hlt, by first | rfl | simp, by rw [HN.out]; simp, by rw [HN.out]; exact hr4, hb94⟩, by simp [intOf]; omega⟩
          | some x =>
            rw [hres] at haf
            simp only [optN, optC] at haf
            have HN : Hid (rawTo m.vars env m.rules (k + 1) = rawTo m.vars env m.rules k ++ [x]) := rawTo_some hk' hres
            obtain ⟨hx0, hx1⟩ := HSt.out k x hres
            obtain ⟨xn, rfl⟩ : ∃ xn : Nat, x = xn := ⟨x.toNat, by omega⟩
            have hxn : xn < pn := by omega
            clear HAf hres hk' hbel hbw HSt
            go_wp2_with (go_at_call 48; refine haf.mono ?_; rintro e w4 ⟨rfl, hb4⟩; obtain ⟨hb94, hr4⟩ := HW4.out w4 hb4; have hf := hr4.frozen xn; have hc := hr4.cell hxn; have HR4 : Hid (w4.rowIs w9.heap.size 4 pn (fun j => .bool (decide ((j : Int) ∈ rawTo m.vars env m.rules k)))) := hr4; clear hr4)
            refine ⟨⟨k + 1, hlt, by first | rfl | simp, by rw [HN.out]; simp, (HR4.out.set xn (.bool true)).congr fun i hi => ?_, hb94.setCell (Nat.le_refl _) _⟩, by simp [intOf]; omega⟩
            rw [HN.out]
            by_cases hix : i = xn
            · subst hix; simp
            · rw [if_neg hix]
              simp [show ¬ (i : Int) = (xn : Int) by omega]
        · have hkn : k = rn := by omega
          subst hkn
          generalize rawTo m.vars env m.rules k = raw at *
          clear HAf HSt kr0 kr1 hlt hk
          by_cases hraw : raw = []
          · have HRes : Hid (res = [code]) := by show _ = _; rw [HNL.out, if_pos hraw, upL_one]
            subst hraw
            obtain ⟨kr0, kr1⟩ := HK1.out wr hbel
            have HIl : Hid ((wr.alloc (.cells #[.int .i64 code] 3)).ownsRow w.heap.size 3 1 (.slice (some ⟨wr.heap.size, 0, none⟩) 1 1) 1 (ivals [code])) := World.ownsRow_lit wr #[.int .i64 code] 1 hbw.size (by decide) rfl
            go_wp2_with fail
            go_ret2
            exact ⟨_, rfl, hbw.alloc hbw.size _, by rw [HRes.out]; exact HIl.out⟩
          · have HRes : Hid (res = pickTo raw pn) := by
              show _ = _
              rw [HNL.out, if_neg hraw]
              exact (upL_eq (pickTo_rise raw pn) (pickTo_mem HRM.out)).symm
            obtain ⟨kr0, kr1⟩ := HK1.out wr hbel
            have HRow2 : Hid (wr.rowIs w9.heap.size 4 pn (fun j => .bool (decide ((j : Int) ∈ raw)))) := HRow.out
            obtain ⟨wo, hwo⟩ : ∃ wo, wo = wr := ⟨_, rfl⟩
            subst hwo
            rw [decide_eq_true hraw]
            clear hraw HNL
            go_wp2_with fail
            go_loopw [13, 14] (fun out i wr => ∃ c : Nat, c ≤ pn ∧ i = .int .i64 c ∧ Hid (wr.ownsRow wo.heap.size 3 1 out (pickTo raw c).length (ivals (pickTo raw c))) ∧ Hid (Below wo.heap.size wo wr)) (fun _ i _ => pn - (intOf i).toNat)
            case atStart => exact ⟨0, Nat.zero_le _, rfl, World.ownsRow_nil _ _ _ _, Below.refl _ _⟩
            case round =>
              obtain ⟨c, hc, rfl, HOwn, HBc⟩ := hrel
              have hbc := HBc.out
              have hrc := row_later HRow2.out hbc
              have hown := HOwn.out
              have hnb := hown.lt
              obtain ⟨oo, oc, rfl⟩ := owns_slice hown
              by_cases hlc : c < pn
              · have hcc := hrc.cell hlc
                have HPl : Hid ((pickTo raw c).length ≤ c) := pickTo_length _ _
                clear hrc
                by_cases hin : (c : Int) ∈ raw
                · simp only [hin, decide_true] at hcc
                  have HN : Hid (pickTo raw (c + 1) = pickTo raw c ++ [(c : Int)]) := pickTo_yes hin
                  obtain ⟨L, hL⟩ : ∃ L, L = (pickTo raw c).length := ⟨_, rfl⟩
                  have HL : Hid (L = (pickTo raw c).length) := hL
                  rw [← hL] at hown hnb HPl ⊢
                  have h63 : L + 1 ≤ maxLen := by have := HPl.out; unfold maxLen; omega
                  have hkb : (L + 1) * 8 ≤ 140737488355328 := by have := HPl.out; omega
                  have hown4 := fun o => hown.alloc o
                  have hbase : ∀ o, wo.heap.size ≤ (wr.alloc o).heap.size := fun o => by have := hbc.size; simp; omega
                  clear hL hin HOwn hown
                  go_wp2_with (at_builtin; refine wpList_append_own _ rfl (.tmp 62) (.tmp 64) 40 rfl wo.heap.size 3 i0 (.int .i64 0) 1 8 Tryz.underlying40 hi hz0 hz1 hz2 rfl (by decide) (.slice oo L oc) L _ rfl (hown4 _) ⟨wr.heap.size, 0, none⟩ 1 1 [.int .i64 c] rfl rfl (cell_one_new _ _ _) (by intro u hu; simp at hu; subst hu; rfl) h63 hkb (hbase _) ?_; intro v' w4 hown' hgrow _)
                  have hb4 : Below wo.heap.size wo w4 := (hbc.alloc hbc.size _).grown hgrow (hbase _) (fun z hz => (hnb z hz).1)
                  have ho4 : w4.ownsRow wo.heap.size 3 1 v' (pickTo raw (c + 1)).length (ivals (pickTo raw (c + 1))) := by
                    rw [HN.out, List.length_append, ← HL.out]
                    rw [show ivals (pickTo raw c ++ [(c : Int)]) = ivals (pickTo raw c) ++ [.int .i64 c] by simp [ivals]]
                    exact hown'
                  go_roundw
                  case rel => exact ⟨c + 1, hlc, by go_num, ho4, hb4⟩
                  case measure => simp [intOf]; omega
                · simp only [hin, decide_false] at hcc
                  have HN : Hid (pickTo raw (c + 1) = pickTo raw c) := pickTo_no hin
                  clear hin hown
                  go_wp2_with fail
                  exact ⟨⟨c + 1, hlc, by first | rfl | simp, by rw [HN.out]; exact HOwn.out, hbc⟩, by simp [intOf]; omega⟩
              · have hcn : c = pn := by omega
                subst hcn
                have hI : wr.ownsRow w.heap.size 3 1 (.slice oo (pickTo raw c).length oc) (pickTo raw c).length (ivals (pickTo raw c)) := owns_mono hown hbw.size
                have HI := (show Hid _ from hI)
                clear hI hown hrc HOwn
                go_wp2_with fail
                go_ret2
                exact ⟨_, rfl, hbw.trans (hbc.mono hbw.size), by rw [HRes.out]; exact HI.out⟩
    · have hw : wcode m code = 9 := wcode_no hm hc
      have hnl : nxtL m code = [] := by unfold nxtL; rw [if_neg (by rw [hw]; decide)]
      rw [hw, hnl]
      have hii := fun w => in_any code 0 (prodTo m.vars m.vars.length - 1) w
      rw [decide_eq_false (show ¬ (0 ≤ code ∧ code ≤ prodTo m.vars m.vars.length - 1) by omega)] at hii
      obtain ⟨ao, cap, rfl⟩ := hV.1.shape
      obtain ⟨ro, rc, rfl⟩ := hV.2.shape
      obtain ⟨hN0, hN1⟩ := hN
      generalize prodTo m.vars m.vars.length = N at *
      generalize m.vars.length = n at *
      generalize m.rules.length = rn at *
      clear hV hw hnl hm hok hc
      go_enter Tryz.func24, Tryz.ntmps24
      go_wp2_with (first | (go_at_call 20; refine (hcn _).mono ?_; rintro e w1 ⟨rfl, hb1⟩) | (go_at_call 22; refine (hii _).mono ?_; rintro e w9 ⟨rfl, rfl⟩))
      go_ret2
      exact ⟨_, rfl, (hA _).trans (hb1.mono (hA _).size), World.ownsRow_nil _ _ _ _⟩
  · have hw : wcode m code = mcode m := wcode_bad hm
    have hnl : nxtL m code = [] := by unfold nxtL; rw [if_neg (by rw [hw]; exact hm)]
    rw [hw, hnl]
    rw [if_neg hm] at hcn
    obtain ⟨ao, cap, rfl⟩ := hV.1.shape
    obtain ⟨ro, rc, rfl⟩ := hV.2.shape
    generalize mcode m = c at *
    generalize m.vars.length = n at *
    generalize m.rules.length = rn at *
    clear hV hw hnl
    go_enter Tryz.func24, Tryz.ntmps24
    go_wp2_with (go_at_call 20; refine (hcn _).mono ?_; rintro e w1 ⟨rfl, hb1⟩)
    go_ret2
    exact ⟨_, rfl, (hA _).trans (hb1.mono (hA _).size), World.ownsRow_nil _ _ _ _⟩
theorem rnext_any (va vr : Value) (m : Mo) (code : Int) (w : World) (hV : ModelV w va vr m) :
    Calls Tryz.prog 24 #[.agg #[va, vr], .int .i64 code] w fun e w' => ∃ v, e = .returned (.tuple #[v, .int .i64 (wcode m code)]) ∧ Below w.heap.size w w' ∧ IntsV w' v (nxtL m code) :=
  (rnext_own va vr m code w hV).mono fun _ _ ⟨v, h1, h2, h3⟩ => ⟨v, h1, h2, intsV_of_owns h3⟩
end Go.Proofs.YtihmcoikgkacoaaGreatDoor

/-
  The document's own: the spots behind a spot.
-/
namespace Go.Proofs.YtihmcoikgkacoaaGreatDoor
open Go.ChangeShapes Go.WideShapes Go.ChangeAt Go.RowKit Go.Deep Go.Maps
open Terms Tm

set_option maxHeartbeats 3200000 in
set_option maxRecDepth 20000 in
theorem behindOf_bad (va vr pv fv : Value) (m : Mo) (ps : List (List (Int × Int))) (l : List (Int × Int)) (code c : Int) (w : World) (hp1 : ps.length * 24 ≤ 140737488355328) (hV : TaskV w va vr pv fv m ps l) (hk : tkcode m ps l ≠ 0) :
    Calls Tryz.prog 7 #[.agg #[va, vr, pv, fv], .agg #[.int .i64 code, .int .i64 c]] w (BdPost w m ps l code c) := by
  unfold BdPost
  rw [bhL_bad (by rw [bhC_bad hk]; exact hk), bhC_bad hk]
  obtain ⟨ao, ac, rfl⟩ := hV.mo.1.shape
  obtain ⟨ro, rc, rfl⟩ := hV.mo.2.shape
  obtain ⟨po, pc, rfl⟩ := hV.ps.shape
  obtain ⟨fo, fc, rfl, _⟩ := id hV.fo
  have hA : ∀ o o', Below w.heap.size w ((w.alloc o).alloc o') := fun o o' => ((Below.refl _ _).alloc (Nat.le_refl _) o).alloc (by simp) o'
  have hsv := taskFault_any _ _ _ _ m ps l _ hp1 (hV.below (hA (.cells #[.slice ao m.vars.length ac, .slice ro m.rules.length rc, .slice po ps.length pc, .slice fo l.length fc] 29) (.cells #[.int .i64 code, .int .i64 c] 31)))
  generalize tkcode m ps l = tc at *
  generalize m.vars.length = vn at *
  generalize m.rules.length = rn at *
  generalize ps.length = pn at *
  generalize l.length = fn at *
  clear hV
  go_enter Tryz.func7, Tryz.ntmps7
  go_wp2_with (first | (go_at_call 19; refine hsv.mono ?_; rintro e w1 ⟨rfl, hb1⟩; have hbw := (hA _ _).trans (hb1.mono (hA _ _).size)))
  go_ret2
  exact ⟨none, 0, rfl, hbw, SpO.nil _ _⟩

set_option maxHeartbeats 3200000 in
set_option maxRecDepth 20000 in
theorem behindOf_no (va vr pv fv : Value) (m : Mo) (ps : List (List (Int × Int))) (l : List (Int × Int)) (code c : Int) (w : World) (hp1 : ps.length * 24 ≤ 140737488355328) (hV : TaskV w va vr pv fv m ps l) (hk : tkcode m ps l = 0) (hno : ¬ ((0 ≤ code ∧ code < prodTo m.vars m.vars.length) ∧ (0 ≤ c ∧ c < ((2 ^ (aheadL l).length : Nat) : Int)))) :
    Calls Tryz.prog 7 #[.agg #[va, vr, pv, fv], .agg #[.int .i64 code, .int .i64 c]] w (BdPost w m ps l code c) := by
  obtain ⟨hp0, hl0⟩ := tk_zero hk
  have h6 := (lcode_zero hl0).2.2.2.2
  have hm0 := (pcode_m hp0).1
  have hbc : bhC m ps l code c = 9 := by
    by_cases h2 : 0 ≤ c ∧ c < ((2 ^ (aheadL l).length : Nat) : Int)
    · rw [bhC_ok hk h2, wcode_no hm0 (fun h => hno ⟨h, h2⟩)]
    · exact bhC_no hk h2
  unfold BdPost
  rw [bhL_bad (by rw [hbc]; decide), hbc]
  obtain ⟨ao, ac, rfl⟩ := hV.mo.1.shape
  obtain ⟨ro, rc, rfl⟩ := hV.mo.2.shape
  obtain ⟨po, pc, rfl⟩ := hV.ps.shape
  obtain ⟨fo, fc, rfl, _⟩ := id hV.fo
  have hA : ∀ o o', Below w.heap.size w ((w.alloc o).alloc o') := fun o o' => ((Below.refl _ _).alloc (Nat.le_refl _) o).alloc (by simp) o'
  obtain ⟨W2, hW2⟩ : ∃ W2, W2 = (w.alloc (.cells #[.slice ao m.vars.length ac, .slice ro m.rules.length rc, .slice po ps.length pc, .slice fo l.length fc] 29)).alloc (.cells #[.int .i64 code, .int .i64 c] 31) := ⟨_, rfl⟩
  have hb2 : Below w.heap.size w W2 := by rw [hW2]; exact hA _ _
  have hsv : Calls Tryz.prog 19 #[.agg #[.slice ao m.vars.length ac, .slice ro m.rules.length rc, .slice po ps.length pc, .slice fo l.length fc]] W2 fun e w' => e = .returned (.int .i64 0) ∧ Below W2.heap.size W2 w' := by
    have := taskFault_any _ _ _ _ m ps l W2 hp1 (hV.below hb2)
    rw [hk] at this
    exact this
  have HCo : Hid (∀ w', Below w.heap.size w w' → Calls Tryz.prog 20 #[.agg #[.slice ao m.vars.length ac, .slice ro m.rules.length rc]] w' fun e w'' => e = .returned (.tuple #[.int .i64 (prodTo m.vars m.vars.length), .int .i64 0]) ∧ Below w'.heap.size w' w'') := fun w' h => by
    have := rcount_any _ _ m w' (hV.mo.below h)
    rw [if_pos hm0, hm0] at this
    exact this
  have HMa : Hid (∀ w', Below w.heap.size w w' → Calls Tryz.prog 21 #[.agg #[.slice ao m.vars.length ac, .slice ro m.rules.length rc, .slice po ps.length pc, .slice fo l.length fc]] w' fun e w'' => e = .returned (.int .i64 ((2 ^ (aheadL l).length : Nat) : Int)) ∧ Below w'.heap.size w' w'') := fun w' h => many_any _ _ _ _ m ps l w' (hV.below h) hk
  have HBx : Hid (∀ w', Below W2.heap.size W2 w' → (w'.cell? ⟨w.heap.size, 0, none⟩ = some (.slice ao m.vars.length ac) ∧ w'.cell? ⟨w.heap.size, 1, none⟩ = some (.slice ro m.rules.length rc) ∧ w'.cell? ⟨w.heap.size, 2, none⟩ = some (.slice po ps.length pc) ∧ w'.cell? ⟨w.heap.size, 3, none⟩ = some (.slice fo l.length fc)) ∧ w'.cell? ⟨w.heap.size + 1, 0, none⟩ = some (.int .i64 code) ∧ w'.cell? ⟨w.heap.size + 1, 1, none⟩ = some (.int .i64 c)) := fun w' h => by
    have hz : W2.heap.size = w.heap.size + 2 := by rw [hW2]; simp
    refine ⟨⟨?_, ?_, ?_, ?_⟩, ?_, ?_⟩
    · exact (h.cell (p := ⟨w.heap.size, 0, none⟩) (by show w.heap.size < _; omega)).trans (by rw [hW2]; simp [go_sem])
    · exact (h.cell (p := ⟨w.heap.size, 1, none⟩) (by show w.heap.size < _; omega)).trans (by rw [hW2]; simp [go_sem])
    · exact (h.cell (p := ⟨w.heap.size, 2, none⟩) (by show w.heap.size < _; omega)).trans (by rw [hW2]; simp [go_sem])
    · exact (h.cell (p := ⟨w.heap.size, 3, none⟩) (by show w.heap.size < _; omega)).trans (by rw [hW2]; simp [go_sem])
    · exact (h.cell (p := ⟨w.heap.size + 1, 0, none⟩) (by show w.heap.size + 1 < _; omega)).trans (by rw [hW2]; simp [go_sem])
    · exact (h.cell (p := ⟨w.heap.size + 1, 1, none⟩) (by show w.heap.size + 1 < _; omega)).trans (by rw [hW2]; simp [go_sem])
  obtain ⟨hP1, hP2⟩ := (mcode_vars hm0).prod (Nat.le_refl m.vars.length)
  have hN64 : 2 ^ (aheadL l).length ≤ 64 := Nat.pow_le_pow_right (show 0 < 2 by decide) h6
  have hin := in_any
  generalize prodTo m.vars m.vars.length = P at *
  generalize 2 ^ (aheadL l).length = N at *
  generalize m.vars.length = vn at *
  generalize m.rules.length = rn at *
  generalize ps.length = pn at *
  generalize l.length = fn at *
  clear hV hk hbc hp0 hl0 h6 hm0
  subst hW2
  go_enter Tryz.func7, Tryz.ntmps7
  by_cases hc1 : 0 ≤ code ∧ code < P
  · have hd1 : decide (0 ≤ code ∧ code ≤ P - 1) = true := decide_eq_true (by omega)
    have hd2 : decide (0 ≤ c ∧ c ≤ (N : Int) - 1) = false := decide_eq_false (by omega)
    go_wp2_with (first
      | (go_at_call 19; refine hsv.mono ?_; rintro e w1 ⟨rfl, hb1⟩; have hbw1 := hb2.trans (hb1.mono hb2.size); obtain ⟨⟨a0, a1, a2, a3⟩, a4, a5⟩ := HBx.out w1 hb1; have hco := HCo.out w1 hbw1)
      | (go_at_call 20; refine hco.mono ?_; rintro e w2 ⟨rfl, hb22⟩; have hbw2 := hbw1.trans (hb22.mono hbw1.size); have hbb2 := hb1.trans (hb22.mono hb1.size); obtain ⟨⟨d0, d1, d2, d3⟩, d4, d5⟩ := HBx.out w2 hbb2; have hma := HMa.out w2 hbw2)
      | (go_at_call 21; refine hma.mono ?_; rintro e w3 ⟨rfl, hb3⟩; have hbw3 := hbw2.trans (hb3.mono hbw2.size); have hbb3 := hbb2.trans (hb3.mono hbb2.size); obtain ⟨⟨e0, e1, e2, e3⟩, e4, e5⟩ := HBx.out w3 hbb3)
      | (go_at_call 22; refine (hin _ _ _ _).mono ?_; rintro e w4 ⟨rfl, rfl⟩; first | rw [hd1] | rw [hd2]))
    go_ret2
    exact ⟨none, 0, rfl, hbw3, SpO.nil _ _⟩
  · have hd1 : decide (0 ≤ code ∧ code ≤ P - 1) = false := decide_eq_false (by omega)
    go_wp2_with (first
      | (go_at_call 19; refine hsv.mono ?_; rintro e w1 ⟨rfl, hb1⟩; have hbw1 := hb2.trans (hb1.mono hb2.size); obtain ⟨⟨a0, a1, a2, a3⟩, a4, a5⟩ := HBx.out w1 hb1; have hco := HCo.out w1 hbw1)
      | (go_at_call 20; refine hco.mono ?_; rintro e w2 ⟨rfl, hb22⟩; have hbw2 := hbw1.trans (hb22.mono hbw1.size); have hbb2 := hb1.trans (hb22.mono hb1.size); obtain ⟨⟨d0, d1, d2, d3⟩, d4, d5⟩ := HBx.out w2 hbb2; have hma := HMa.out w2 hbw2)
      | (go_at_call 21; refine hma.mono ?_; rintro e w3 ⟨rfl, hb3⟩; have hbw3 := hbw2.trans (hb3.mono hbw2.size); have hbb3 := hbb2.trans (hb3.mono hbb2.size); obtain ⟨⟨e0, e1, e2, e3⟩, e4, e5⟩ := HBx.out w3 hbb3)
      | (go_at_call 22; refine (hin _ _ _ _).mono ?_; rintro e w4 ⟨rfl, rfl⟩; rw [hd1]))
    go_ret2
    exact ⟨none, 0, rfl, hbw3, SpO.nil _ _⟩

set_option maxHeartbeats 6400000 in
set_option maxRecDepth 20000 in
theorem behindOf_ok (va vr pv fv : Value) (m : Mo) (ps : List (List (Int × Int))) (l : List (Int × Int)) (code : Int) (c : Nat) (w : World) (hp1 : ps.length * 24 ≤ 140737488355328) (hV : TaskV w va vr pv fv m ps l) (hk : tkcode m ps l = 0) (hcr : 0 ≤ code ∧ code < prodTo m.vars m.vars.length) (hcN : c < 2 ^ (aheadL l).length) :
    Calls Tryz.prog 7 #[.agg #[va, vr, pv, fv], .agg #[.int .i64 code, .int .i64 (c : Int)]] w (BdPost w m ps l code (c : Int)) := by
  obtain ⟨hp0, hl0⟩ := tk_zero hk
  have h6 := (lcode_zero hl0).2.2.2.2
  have hm0 := (pcode_m hp0).1
  have hw0 := wcode_yes hm0 hcr
  have hbc : bhC m ps l code (c : Int) = 0 := by rw [bhC_ok hk ⟨by omega, by omega⟩, hw0]
  unfold BdPost
  rw [bhL_ok hbc, hbc]
  obtain ⟨ao, ac, rfl⟩ := hV.mo.1.shape
  obtain ⟨ro, rc, rfl⟩ := hV.mo.2.shape
  obtain ⟨po, pc, rfl⟩ := hV.ps.shape
  obtain ⟨fo, fc, rfl, _⟩ := id hV.fo
  have hA : ∀ o o', Below w.heap.size w ((w.alloc o).alloc o') := fun o o' => ((Below.refl _ _).alloc (Nat.le_refl _) o).alloc (by simp) o'
  obtain ⟨W2, hW2⟩ : ∃ W2, W2 = (w.alloc (.cells #[.slice ao m.vars.length ac, .slice ro m.rules.length rc, .slice po ps.length pc, .slice fo l.length fc] 29)).alloc (.cells #[.int .i64 code, .int .i64 (c : Int)] 31) := ⟨_, rfl⟩
  have hb2 : Below w.heap.size w W2 := by rw [hW2]; exact hA _ _
  have hsv : Calls Tryz.prog 19 #[.agg #[.slice ao m.vars.length ac, .slice ro m.rules.length rc, .slice po ps.length pc, .slice fo l.length fc]] W2 fun e w' => e = .returned (.int .i64 0) ∧ Below W2.heap.size W2 w' := by
    have := taskFault_any _ _ _ _ m ps l W2 hp1 (hV.below hb2)
    rw [hk] at this
    exact this
  have HCo : Hid (∀ w', Below w.heap.size w w' → Calls Tryz.prog 20 #[.agg #[.slice ao m.vars.length ac, .slice ro m.rules.length rc]] w' fun e w'' => e = .returned (.tuple #[.int .i64 (prodTo m.vars m.vars.length), .int .i64 0]) ∧ Below w'.heap.size w' w'') := fun w' h => by
    have := rcount_any _ _ m w' (hV.mo.below h)
    rw [if_pos hm0, hm0] at this
    exact this
  have HMa : Hid (∀ w', Below w.heap.size w w' → Calls Tryz.prog 21 #[.agg #[.slice ao m.vars.length ac, .slice ro m.rules.length rc, .slice po ps.length pc, .slice fo l.length fc]] w' fun e w'' => e = .returned (.int .i64 ((2 ^ (aheadL l).length : Nat) : Int)) ∧ Below w'.heap.size w' w'') := fun w' h => many_any _ _ _ _ m ps l w' (hV.below h) hk
  have HBx : Hid (∀ w', Below W2.heap.size W2 w' → (w'.cell? ⟨w.heap.size, 0, none⟩ = some (.slice ao m.vars.length ac) ∧ w'.cell? ⟨w.heap.size, 1, none⟩ = some (.slice ro m.rules.length rc) ∧ w'.cell? ⟨w.heap.size, 2, none⟩ = some (.slice po ps.length pc) ∧ w'.cell? ⟨w.heap.size, 3, none⟩ = some (.slice fo l.length fc)) ∧ w'.cell? ⟨w.heap.size + 1, 0, none⟩ = some (.int .i64 code) ∧ w'.cell? ⟨w.heap.size + 1, 1, none⟩ = some (.int .i64 (c : Int))) := fun w' h => by
    have hz : W2.heap.size = w.heap.size + 2 := by rw [hW2]; simp
    refine ⟨⟨?_, ?_, ?_, ?_⟩, ?_, ?_⟩
    · exact (h.cell (p := ⟨w.heap.size, 0, none⟩) (by show w.heap.size < _; omega)).trans (by rw [hW2]; simp [go_sem])
    · exact (h.cell (p := ⟨w.heap.size, 1, none⟩) (by show w.heap.size < _; omega)).trans (by rw [hW2]; simp [go_sem])
    · exact (h.cell (p := ⟨w.heap.size, 2, none⟩) (by show w.heap.size < _; omega)).trans (by rw [hW2]; simp [go_sem])
    · exact (h.cell (p := ⟨w.heap.size, 3, none⟩) (by show w.heap.size < _; omega)).trans (by rw [hW2]; simp [go_sem])
    · exact (h.cell (p := ⟨w.heap.size + 1, 0, none⟩) (by show w.heap.size + 1 < _; omega)).trans (by rw [hW2]; simp [go_sem])
    · exact (h.cell (p := ⟨w.heap.size + 1, 1, none⟩) (by show w.heap.size + 1 < _; omega)).trans (by rw [hW2]; simp [go_sem])
  obtain ⟨hP1, hP2⟩ := (mcode_vars hm0).prod (Nat.le_refl m.vars.length)
  have hN64 : 2 ^ (aheadL l).length ≤ 64 := Nat.pow_le_pow_right (show 0 < 2 by decide) h6
  have hin := in_any
  have HLe : Hid (∀ (c' : Int) (w' : World), 0 ≤ c' ∧ c' < prodTo m.vars m.vars.length → Below w.heap.size w w' → Calls Tryz.prog 23 #[.agg #[.slice ao m.vars.length ac, .slice ro m.rules.length rc], .slice po ps.length pc, .int .i64 c'] w' fun e w'' => ∃ lo lc, e = .returned (.tuple #[.slice lo ps.length lc, .int .i64 0]) ∧ Below w'.heap.size w' w'' ∧ Hid (BoolsV w'' (.slice lo ps.length lc) (letL m ps c') ∧ RowTy w'' (.slice lo ps.length lc) 4)) := fun c' w' hc' h => by
    refine (rletter_own _ _ _ m ps c' w' hp1 (hV.mo.below h) (hV.ps.below h)).mono fun e w'' ⟨v, h1, h2, h3, h4⟩ => ?_
    obtain ⟨t1, t2⟩ := tk_let hk hc'
    obtain ⟨lo, lc, rfl, hx⟩ := h3
    rw [t2] at h1 h4
    exact ⟨lo, lc, by rw [h1, t1], h2, ⟨lo, lc, by rw [t2], hx⟩, h4⟩
  have HNe : Hid (∀ w', Below w.heap.size w w' → Calls Tryz.prog 24 #[.agg #[.slice ao m.vars.length ac, .slice ro m.rules.length rc], .int .i64 code] w' fun e w'' => ∃ no nc, e = .returned (.tuple #[.slice no (nextL m code).length nc, .int .i64 0]) ∧ Below w'.heap.size w' w'' ∧ Hid (IntsV w'' (.slice no (nextL m code).length nc) (nextL m code))) := fun w' h => by
    refine (rnext_any _ _ m code w' (hV.mo.below h)).mono fun e w'' ⟨v, h1, h2, h3⟩ => ?_
    have e1 : nxtL m code = nextL m code := by unfold nxtL; rw [if_pos hw0]
    rw [e1] at h3
    obtain ⟨no, nc, rfl, hx⟩ := h3
    exact ⟨no, nc, by rw [h1, hw0], h2, ⟨no, nc, rfl, hx⟩⟩
  have HFo : Hid (∀ (c' : Int) (d : Nat) (w' : World) (lo lo2 : Option Addr) (lc lc2 : Nat), 0 ≤ c' ∧ c' < prodTo m.vars m.vars.length → d < 2 ^ (aheadL l).length → Below w.heap.size w w' → BoolsV w' (.slice lo ps.length lc) (letL m ps code) → BoolsV w' (.slice lo2 ps.length lc2) (letL m ps c') → Calls Tryz.prog 25 #[.slice fo l.length fc, .slice lo ps.length lc, .int .i64 (c : Int), .slice lo2 ps.length lc2, .int .i64 (d : Int)] w' fun e w'' => e = .returned (.tuple #[.bool (folR l (letL m ps code) (c : Int) (letL m ps c') (d : Int)), .int .i64 0]) ∧ Below w'.heap.size w' w'') := fun c' d w' lo lo2 lc lc2 hc' hd h hx hy => by
    have := rfol_any _ _ _ l (letL m ps code) (letL m ps c') (c : Int) (d : Int) w' (hV.fo.below h) hx hy
    have hf : fcode l (letL m ps code) (c : Int) (letL m ps c') (d : Int) = 0 := by
      unfold fcode
      rw [if_neg (by rw [(tk_let hk hcr).2, (tk_let hk hc').2]; simp), if_neg (by rw [(tk_tru hk hcr hcN).1]; simp)]
      exact (tk_tru hk hc' hd).1
    rw [hf] at this
    exact this
  have hnn := nextL_len hm0 hcr
  have HNx : Hid (∀ i, i < (nextL m code).length → 0 ≤ (nextL m code).getD i 0 ∧ (nextL m code).getD i 0 < prodTo m.vars m.vars.length) := fun i hi => nextL_st hm0 hcr (by rw [List.getD_eq_getElem?_getD, List.getElem?_eq_getElem hi]; exact List.getElem_mem hi)
  have HBt : Hid (∀ i, behTo m ps l code (c : Int) (i + 1) = behTo m ps l code (c : Int) i ++ foTo l (letL m ps code) (c : Int) (letL m ps ((nextL m code).getD i 0)) ((nextL m code).getD i 0) (2 ^ (aheadL l).length)) := fun _ => rfl
  have HB0 : Hid (behTo m ps l code (c : Int) 0 = []) := rfl
  have HGet : Hid (∀ (w' : World) (no : Option Addr) (nc : Nat), IntsV w' (.slice no (nextL m code).length nc) (nextL m code) → ∀ i, i < (nextL m code).length → ∃ b off, no = some ⟨b, off, none⟩ ∧ b < w'.heap.size ∧ w'.cell? ⟨b, off + i, none⟩ = some (.int .i64 ((nextL m code).getD i 0))) := fun w' no nc hx i hi => by
    obtain ⟨ao, cap, e2, h1⟩ := hx
    injection e2 with e2 _ _
    subst e2
    obtain ⟨b, off, rfl, hb, hat⟩ := h1 (by intro e; rw [e] at hi; simp at hi)
    exact ⟨b, off, rfl, hb, hat i hi⟩
  have hcrP : 0 ≤ code ∧ code < prodTo m.vars m.vars.length := hcr
  unfold behL
  generalize (nextL m code).length = nn at *
  generalize behTo m ps l code (c : Int) = bt at *
  generalize prodTo m.vars m.vars.length = P at *
  generalize 2 ^ (aheadL l).length = N at *
  generalize m.vars.length = vn at *
  generalize m.rules.length = rn at *
  generalize ps.length = pn at *
  generalize l.length = fn at *
  clear hV hk hbc hp0 hl0 h6 hm0 hw0
  subst hW2
  go_enter Tryz.func7, Tryz.ntmps7
  have hd1 : decide (0 ≤ code ∧ code ≤ P - 1) = true := decide_eq_true (by omega)
  have hd2 : decide (0 ≤ (c : Int) ∧ (c : Int) ≤ (N : Int) - 1) = true := decide_eq_true (by omega)
  go_wp2_with (first
    | (go_at_call 19; refine hsv.mono ?_; rintro e w1 ⟨rfl, hb1⟩; have hbw1 := hb2.trans (hb1.mono hb2.size); obtain ⟨⟨a0, a1, a2, a3⟩, a4, a5⟩ := HBx.out w1 hb1; have hco := HCo.out w1 hbw1)
    | (go_at_call 20; refine hco.mono ?_; rintro e w2 ⟨rfl, hb22⟩; have hbw2 := hbw1.trans (hb22.mono hbw1.size); have hbb2 := hb1.trans (hb22.mono hb1.size); obtain ⟨⟨d0, d1, d2, d3⟩, d4, d5⟩ := HBx.out w2 hbb2; have hma := HMa.out w2 hbw2)
    | (go_at_call 21; refine hma.mono ?_; rintro e w3 ⟨rfl, hb3⟩; have hbw3 := hbw2.trans (hb3.mono hbw2.size); have hbb3 := hbb2.trans (hb3.mono hbb2.size); obtain ⟨⟨e0, e1, e2, e3⟩, e4, e5⟩ := HBx.out w3 hbb3; have hle := HLe.out code w3 hcr hbw3)
    | (go_at_call 22; refine (hin _ _ _ _).mono ?_; rintro e w4 ⟨rfl, rfl⟩; first | rw [hd1] | rw [hd2])
    | (go_at_call 23; refine hle.mono ?_; rintro e w5 ⟨lo, lc, rfl, hb5, HLv⟩; have hbw5 := hbw3.trans (hb5.mono hbw3.size); have hbb5 := hbb3.trans (hb5.mono hbb3.size); obtain ⟨⟨f0, f1, f2, f3⟩, f4, f5⟩ := HBx.out w5 hbb5; have hne := HNe.out w5 hbw5)
    | (go_at_call 24; refine hne.mono ?_; rintro e w6 ⟨no, nc, rfl, hb6, HNv⟩; have hbw6 := hbw5.trans (hb6.mono hbw5.size); have hbb6 := hbb5.trans (hb6.mono hbb5.size)))
  have HX6 : Hid (∀ w', Below w6.heap.size w6 w' → BoolsV w' (.slice lo pn lc) (letL m ps code) ∧ IntsV w' (.slice no nn nc) (nextL m code) ∧ (w'.cell? ⟨w.heap.size, 0, none⟩ = some (.slice ao vn ac) ∧ w'.cell? ⟨w.heap.size, 1, none⟩ = some (.slice ro rn rc) ∧ w'.cell? ⟨w.heap.size, 2, none⟩ = some (.slice po pn pc) ∧ w'.cell? ⟨w.heap.size, 3, none⟩ = some (.slice fo fn fc)) ∧ w'.cell? ⟨w.heap.size + 1, 1, none⟩ = some (.int .i64 (c : Int))) := fun w' h => by
    obtain ⟨q1, _, q3⟩ := HBx.out w' (hbb6.trans (h.mono hbb6.size))
    exact ⟨(HLv.out.1.below hb6).below h, HNv.out.below h, q1, q3⟩
  clear a0 a1 a2 a3 a4 a5 d0 d1 d2 d3 d4 d5 e0 e1 e2 e3 e4 e5 f0 f1 f2 f3 f4 f5 hsv hco hma hle hne HCo HMa HNe HBx HLv HNv
  go_loopw [14, 15] (fun u i wr => ∃ k : Nat, k ≤ nn ∧ i = .int .i64 k ∧ (∃ qo qk qc, u = .slice qo qk qc ∧ qk ≤ k * 64 ∧ Hid ((bt k).length = qk ∧ SpO wr w6.heap.size (.slice qo qk qc) (bt k))) ∧ Below w6.heap.size w6 wr) (fun _ i _ => nn - (intOf i).toNat)
  case atStart => exact ⟨0, Nat.zero_le _, rfl, ⟨none, 0, 0, rfl, Nat.zero_le _, by rw [HB0.out]; rfl, by rw [HB0.out]; exact SpO.nil _ _⟩, Below.refl _ _⟩
  case round =>
    obtain ⟨k, hkn, rfl, ⟨qo, qk, qc, rfl, hqk, HSp⟩, hbr⟩ := hrel
    by_cases hlt : k < nn
    · obtain ⟨_, hiv, ⟨x0, x1, x2, x3⟩, x4⟩ := HX6.out wr hbr
      obtain ⟨nb, noff, rfl, hnb, hcell⟩ := HGet.out wr no nc hiv k hlt
      have hbwr := hbw6.trans (hbr.mono hbw6.size)
      have hinr := HNx.out k hlt
      have hle := HLe.out _ wr.drew hinr hbwr.drew
      have hki : (k : Int) < (nn : Int) := by omega
      have HBk := (show Hid _ from HBt.out k)
      have HGk : Hid (∀ w', Below w6.heap.size w6 w' → w'.cell? ⟨nb, noff + k, none⟩ = some (.int .i64 ((nextL m code).getD k 0))) := fun w' h => by
        obtain ⟨b', off', e1, _, e2⟩ := HGet.out w' _ nc (HX6.out w' h).2.1 k hlt
        injection e1 with e1
        injection e1 with e3 e4
        subst e3 e4
        exact e2
      have HFk : Hid (∀ (d : Nat) (w' : World) (lo2 : Option Addr) (lc2 : Nat), d < N → Below w6.heap.size w6 w' → BoolsV w' (.slice lo2 pn lc2) (letL m ps ((nextL m code).getD k 0)) → Calls Tryz.prog 25 #[.slice fo fn fc, .slice lo pn lc, .int .i64 (c : Int), .slice lo2 pn lc2, .int .i64 (d : Int)] w' fun e w'' => e = .returned (.tuple #[.bool (folR l (letL m ps code) (c : Int) (letL m ps ((nextL m code).getD k 0)) (d : Int)), .int .i64 0]) ∧ Below w'.heap.size w' w'') := fun d w' lo2 lc2 h1 h2 h3 => HFo.out _ d w' lo lo2 lc lc2 hinr h1 (hbw6.trans (h2.mono hbw6.size)) (HX6.out w' h2).1 h3
      have HF0 : Hid (foTo l (letL m ps code) (c : Int) (letL m ps ((nextL m code).getD k 0)) ((nextL m code).getD k 0) 0 = []) := rfl
      have HFS : Hid (∀ d : Nat, foTo l (letL m ps code) (c : Int) (letL m ps ((nextL m code).getD k 0)) ((nextL m code).getD k 0) (d + 1) = if folR l (letL m ps code) (c : Int) (letL m ps ((nextL m code).getD k 0)) (d : Int) = true then foTo l (letL m ps code) (c : Int) (letL m ps ((nextL m code).getD k 0)) ((nextL m code).getD k 0) d ++ [((nextL m code).getD k 0, (d : Int))] else foTo l (letL m ps code) (c : Int) (letL m ps ((nextL m code).getD k 0)) ((nextL m code).getD k 0) d) := fun _ => rfl
      generalize foTo l (letL m ps code) (c : Int) (letL m ps ((nextL m code).getD k 0)) ((nextL m code).getD k 0) = ft at *
      generalize hfr : (fun d : Nat => folR l (letL m ps code) (c : Int) (letL m ps ((nextL m code).getD k 0)) (d : Int)) = fr at *
      have HFr : Hid (∀ d : Nat, folR l (letL m ps code) (c : Int) (letL m ps ((nextL m code).getD k 0)) (d : Int) = fr d) := fun d => by rw [← hfr]
      clear hfr HNx HBt HB0 HFo HGet HLe hiv
      generalize letL m ps ((nextL m code).getD k 0) = lt2 at *
      generalize (nextL m code).getD k 0 = cd at *
      have HSl : Hid ((bt k).length = qk) := HSp.out.1
      have HSpk : Hid (∀ w', Below wr.heap.size wr w' → SpO w' w6.heap.size (.slice qo qk qc) (bt k)) := fun w' h => HSp.out.2.later h (Nat.le_refl _)
      have HSB : Hid (∀ w', Below w6.heap.size w6 w' → w'.cell? ⟨w.heap.size, 0, none⟩ = some (.slice ao vn ac) ∧ w'.cell? ⟨w.heap.size, 1, none⟩ = some (.slice ro rn rc) ∧ w'.cell? ⟨w.heap.size, 2, none⟩ = some (.slice po pn pc) ∧ w'.cell? ⟨nb, noff + k, none⟩ = some (.int .i64 cd)) := fun w' h => by
        obtain ⟨_, _, ⟨p0, p1, p2, _⟩, _⟩ := HX6.out w' h
        exact ⟨p0, p1, p2, HGk.out w' h⟩
      clear HSp
      go_wp2_with fail
      go_region_held3 (fun w' => w'.cell? ⟨w.heap.size, 0, none⟩ = some (.slice ao vn ac) ∧ w'.cell? ⟨w.heap.size, 1, none⟩ = some (.slice ro rn rc) ∧ w'.cell? ⟨w.heap.size, 2, none⟩ = some (.slice po pn pc) ∧ w'.cell? ⟨nb, noff + k, none⟩ = some (.int .i64 cd))
        (first | exact HSB.out _ hbc7 | exact HSB.out _ hbr.drew | exact HSB.out _ hbr)
        (first
          | (go_at_call 23; refine hle.mono ?_; rintro e w7 ⟨lo2, lc2, rfl, hb7, HLv7⟩; have hb7w := hb7; have hbc7 := hbr.drew.trans (hb7.mono hbr.drew.size)))
      have hb7r : Below wr.heap.size wr w7 := ⟨hb7w.os, hb7w.tape, hb7w.output, hb7w.size, hb7w.block⟩
      clear hle hcell x0 x1 x2 x3 x4
      go_wp2_with fail
      go_loopw [14, 18] (fun u i wr2 => ∃ d : Nat, d ≤ N ∧ i = .int .i64 d ∧ (∃ qo2 qk2 qc2, u = .slice qo2 qk2 qc2 ∧ qk2 ≤ qk + d ∧ Hid ((bt k ++ ft d).length = qk2 ∧ SpO wr2 w6.heap.size (.slice qo2 qk2 qc2) (bt k ++ ft d))) ∧ Below w6.heap.size w6 wr2 ∧ Hid (BoolsV wr2 (.slice lo2 pn lc2) lt2 ∧ RowTy wr2 (.slice lo2 pn lc2) 4)) (fun _ i _ => N - (intOf i).toNat)
      case atStart => exact ⟨0, Nat.zero_le _, rfl, ⟨qo, qk, qc, rfl, Nat.le_refl _, by rw [HF0.out, List.append_nil]; exact HSl.out, by rw [HF0.out, List.append_nil]; exact HSpk.out _ hb7r⟩, hbc7, HLv7⟩
      case round =>
        obtain ⟨d, hdN, rfl, ⟨qo2, qk2, qc2, rfl, hqk2, HSp2⟩, hbr2, HL2⟩ := hrel
        by_cases hd : d < N
        · obtain ⟨_, _, ⟨y0, y1, y2, y3⟩, y4⟩ := HX6.out wr hbr2
          have hfo := HFk.out d wr lo2 lc2 hd hbr2 HL2.out.1
          rw [HFr.out] at hfo
          have HE := (show Hid _ from HFS.out d)
          rw [HFr.out] at HE
          have HSl2 : Hid ((bt k ++ ft d).length = qk2) := HSp2.out.1
          have HN2 : Hid (∀ w', Below wr.heap.size wr w' → SpO w' w6.heap.size (.slice qo2 qk2 qc2) (bt k ++ ft d) ∧ BoolsV w' (.slice lo2 pn lc2) lt2 ∧ RowTy w' (.slice lo2 pn lc2) 4) := fun w' h => ⟨HSp2.out.2.later h (Nat.le_refl _), HL2.out.1.below h, HL2.out.2.below h⟩
          clear HSp2 HL2
          cases hfd : fr d with
          | false =>
            rw [hfd] at hfo HE
            have HE2 : Hid (ft (d + 1) = ft d) := by have := HE.out; rw [if_neg (by simp)] at this; exact this
            clear HE hfd
            go_wp2_with (first | (go_at_call 25; refine hfo.mono ?_; rintro e w8 ⟨rfl, hb8⟩; have hbc8 := hbr2.trans (hb8.mono hbr2.size)))
            go_roundw
            case rel => exact ⟨d + 1, by omega, by go_num, ⟨qo2, qk2, qc2, rfl, by omega, by rw [HE2.out]; exact HSl2.out, by rw [HE2.out]; exact (HN2.out _ hb8).1⟩, hbc8, (HN2.out _ hb8).2⟩
            case measure => simp [intOf]; omega
          | true =>
            rw [hfd] at hfo HE
            have HE2 : Hid (ft (d + 1) = ft d ++ [(cd, (d : Int))]) := by have := HE.out; rw [if_pos rfl] at this; exact this
            clear HE hfd
            go_wp2_with (first | (go_at_call 25; refine hfo.mono ?_; rintro e w8 ⟨rfl, hb8⟩; have hbc8 := hbr2.trans (hb8.mono hbr2.size); have hg8 := HGk.out w8 hbc8; have hsp8 := (HN2.out _ hb8).1; have hsz8 := hbc8.size) | (at_builtin; refine push_sp cd (d : Int) rfl _ _ rfl w6.heap.size qk2 qc2 qo2 (bt k ++ ft d) HSl2.out rfl hsp8 rfl (by omega) hsz8 ?_; intro vo9 cap9 w9 ho9 hb9 hg9))
            have hown := hsp8.own (.cells #[.int .i64 cd, .int .i64 (d : Int)] 31)
            have HQ9 : Hid (SpO w9 w6.heap.size (.slice vo9 (qk2 + 1) cap9) (bt k ++ ft d ++ [(cd, (d : Int))]) ∧ Below w6.heap.size w6 w9 ∧ BoolsV w9 (.slice lo2 pn lc2) lt2 ∧ RowTy w9 (.slice lo2 pn lc2) 4) := by
              have ha : Below w8.heap.size w8 (w8.alloc (.cells #[.int .i64 cd, .int .i64 (d : Int)] 31)) := (Below.refl _ _).alloc (Nat.le_refl _) _
              obtain ⟨_, h1, h2⟩ := HN2.out _ hb8
              exact ⟨ho9, hbc8.trans hb9, (h1.below ha).grown (h2.below ha) hg9 (fun g e => (hown g e).2), (h2.below ha).grown hg9 (by decide) (fun g e => (hown g e).2)⟩
            clear hown ho9 hb9 hg9 hsp8
            go_wp2_with fail
            go_roundw
            case rel => exact ⟨d + 1, by omega, by go_num, ⟨vo9, qk2 + 1, cap9, rfl, by omega, by rw [HE2.out, ← List.append_assoc, List.length_append, HSl2.out]; rfl, by rw [HE2.out, ← List.append_assoc]; exact HQ9.out.1⟩, HQ9.out.2.1, HQ9.out.2.2⟩
            case measure => simp [intOf]; omega
        · obtain rfl : d = N := by omega
          have HSl2 : Hid ((bt (k + 1)).length = qk2 ∧ SpO wr w6.heap.size (.slice qo2 qk2 qc2) (bt (k + 1))) := by rw [HBk.out]; exact HSp2.out
          clear HSp2 HL2
          go_wp2_with fail
          go_roundw
          case rel => exact ⟨k + 1, by omega, by go_num, ⟨qo2, qk2, qc2, rfl, by omega, HSl2.out.1, HSl2.out.2⟩, hbr2⟩
          case measure => simp [intOf]; omega
    · obtain rfl : k = nn := by omega
      have HSl : Hid ((bt k).length = qk) := HSp.out.1
      have HSpp : Hid (SpO wr w6.heap.size (.slice qo qk qc) (bt k)) := HSp.out.2
      have hbF := hbw6.trans (hbr.mono hbw6.size)
      clear HSp
      go_wp2_with fail
      go_ret2
      exact ⟨qo, qc, by rw [HSl.out]; rfl, hbF, by rw [HSl.out]; exact owns_mono HSpp.out hbw6.size⟩
/-- THE CONTRACT OF BehindOf. -/
theorem behindOf_any (va vr pv fv : Value) (m : Mo) (ps : List (List (Int × Int))) (l : List (Int × Int)) (code c : Int) (w : World) (hp1 : ps.length * 24 ≤ 140737488355328) (hV : TaskV w va vr pv fv m ps l) :
    Calls Tryz.prog 7 #[.agg #[va, vr, pv, fv], .agg #[.int .i64 code, .int .i64 c]] w (BdPost w m ps l code c) := by
  by_cases hk : tkcode m ps l = 0
  · by_cases hc : (0 ≤ code ∧ code < prodTo m.vars m.vars.length) ∧ (0 ≤ c ∧ c < ((2 ^ (aheadL l).length : Nat) : Int))
    · obtain ⟨k, rfl⟩ : ∃ k : Nat, c = (k : Int) := ⟨c.toNat, by omega⟩
      exact behindOf_ok va vr pv fv m ps l code k w hp1 hV hk hc.1 (by omega)
    · exact behindOf_no va vr pv fv m ps l code c w hp1 hV hk hc
  · exact behindOf_bad va vr pv fv m ps l code c w hp1 hV hk
end Go.Proofs.YtihmcoikgkacoaaGreatDoor

/-
  The contract of the document's own MetBy.
-/
namespace Go.Proofs.YtihmcoikgkacoaaGreatDoor
open Go.ChangeShapes Go.WideShapes Go.ChangeAt Go.RowKit Go.Deep
open Terms

theorem ahead_conv {l : List (Int × Int)} {q : Nat} (hq : q < l.length) (hk : lookB (l.getD q (0, 0)).1 = true) : (aheadTo l q).length < (aheadL l).length ∧ ((aheadL l).getD (aheadTo l q).length 0).toNat = q := by
  have h := aheadTo_lt l hq hk
  refine ⟨h, ?_⟩
  obtain ⟨p, h1, h2, h3, h4⟩ := aheadTo_get l l.length (aheadTo l q).length h
  have h1' : (aheadL l).getD (aheadTo l q).length 0 = (p : Int) := h1
  have : p = q := by
    rcases Nat.lt_trichotomy p q with h | h | h
    · have := aheadTo_lt l h h3; omega
    · exact h
    · have := aheadTo_lt l h hk; omega
  rw [h1', this]; rfl

set_option maxHeartbeats 1600000 in
set_option maxRecDepth 20000 in
/-- THE CONTRACT OF the document's MetBy. -/
theorem rmet_any (v lv : Value) (l : List (Int × Int)) (letter : List Bool) (claim : Int) (w : World) (hV : OpsV w v l) (hL : BoolsV w lv letter) :
    Calls Tryz.prog 32 #[v, lv, .int .i64 claim] w fun e w' => e = .returned (.tuple #[.int .i64 (metN l letter claim), .int .i64 (tcode l letter claim)]) ∧ Below w.heap.size w w' := by
  have htr := rtruths_any v lv l letter claim w hV hL
  obtain ⟨lo, lc, rfl, hl⟩ := id hL
  by_cases hc : tcode l letter claim = 0
  · have hlc : lcode letter.length l = 0 := by
      by_cases h : lcode letter.length l = 0
      · exact h
      · rw [tcode_bad h] at hc; exact absurd hc h
    obtain ⟨_, _, hz, hlf, h6⟩ := lcode_zero hlc
    obtain ⟨hne, h60⟩ := ends_ne hz
    rw [List.length_map] at h60
    obtain ⟨ao, cap, rfl, _, hvv⟩ := id hV
    obtain ⟨b, off, rfl, hbl, hat⟩ := hvv (by rintro rfl; exact hne rfl)
    rw [hc, show metN l letter claim = metTo l (tru l letter claim) (aheadL l).length by unfold metN; rw [hc]; rfl]
    have htl : truL l letter claim = truTo l letter claim l.length := by unfold truL truTo; rw [hc]; rfl
    rw [hc, htl] at htr
    have hl0 : 0 < l.length := by
      cases l with
      | nil => exact absurd rfl hne
      | cons _ _ => simp
    have htr2 : Calls Tryz.prog 49 #[.slice (some ⟨b, off, none⟩) l.length cap, .slice lo letter.length lc, .int .i64 claim] w fun e w' => ∃ tb toff tc, e = .returned (.tuple #[.slice (some ⟨tb, toff, none⟩) l.length tc, .int .i64 0]) ∧ Below w.heap.size w w' ∧ tb < w'.heap.size ∧ Hid (∀ q, q < l.length → w'.cell? ⟨tb, toff + q, none⟩ = some (.bool (tru l letter claim q))) := htr.mono fun e w' ⟨v', he, hb, hv'⟩ => by
      obtain ⟨to', tc, rfl, ht⟩ := hv'
      rw [truTo_length] at he
      obtain ⟨tb, toff, rfl, htl, hta⟩ := ht (by intro h; have := truTo_length l letter claim l.length; rw [h] at this; simp at this; omega)
      refine ⟨tb, toff, tc, he, hb, htl, fun q hq => ?_⟩
      rw [hta q (by rw [truTo_length]; exact hq)]
      simp [truTo, List.getD_eq_getElem?_getD, hq]
    have HA : Hid (OpsAt w b off l) := hat
    have HSe : Hid (∀ w' p, Below w.heap.size w w' → p < l.length → pn (l.getD p (0, 0)).1 = 2 → Calls Tryz.prog 51 #[.slice (some ⟨b, off, none⟩) l.length cap, .int .i64 (p : Int)] w' fun e w2 => e = .returned (.int .i64 (sec l p : Int)) ∧ w2 = w') := fun w' p hb hp h2 => rsec_any b off cap p l w' h60 hz hp h2 (hat.below hb hbl)
    have HPt : Hid (∀ p, p < l.length → (1 ≤ pn (l.getD p (0, 0)).1 → p + 1 < l.length) ∧ (pn (l.getD p (0, 0)).1 = 2 → p + 1 < sec l p ∧ sec l p < l.length)) := fun p hp => part_in hz hp
    have HAc : Hid (∀ p, p < l.length → lookB (l.getD p (0, 0)).1 = true → (aheadTo l p).length < (aheadL l).length ∧ metTo l (tru l letter claim) ((aheadTo l p).length + 1) = metTo l (tru l letter claim) (aheadTo l p).length + if waitB (l.getD p (0, 0)).1 (tru l letter claim p) (tru l letter claim (p + 1)) (tru l letter claim (sec l p)) = true then 0 else 2 ^ (aheadTo l p).length) := fun p hp hk => by
      obtain ⟨h1, h2⟩ := ahead_conv hp hk
      refine ⟨h1, ?_⟩
      simp only [metTo]
      rw [h2]
      rfl
    have HMB : Hid (∀ k, 0 ≤ metTo l (tru l letter claim) k ∧ metTo l (tru l letter claim) k < 2 ^ k) := metTo_bounds _ _
    have HEnd : Hid (aheadTo l l.length = aheadL l) := rfl
    have HM0 : Hid (metTo l (tru l letter claim) 0 = 0) := rfl
    generalize metTo l (tru l letter claim) = mt at *
    generalize tru l letter claim = tr at *
    obtain ⟨n, hn⟩ : ∃ n, n = l.length := ⟨_, rfl⟩
    have HN : Hid (n = l.length) := hn
    rw [← hn] at htr2 HSe HPt HAc HEnd h60 ⊢
    generalize letter.length = ln at *
    clear htr hV hL hl hvv hat hc hlc hz hlf hne htl hn hl0
    go_enter Tryz.func32, Tryz.ntmps32
    go_wp2_with (go_at_call 49; refine htr2.mono ?_; rintro e w1 ⟨tb, toff, tc, rfl, hb1, htl, HT⟩)
    clear htr2
    go_loopw [10, 11, 12] (fun out pw i wr => ∃ q : Nat, q ≤ n ∧ i = .int .i64 (q : Int) ∧ out = .int .i64 (mt (aheadTo l q).length) ∧ pw = .int .i64 (2 ^ (aheadTo l q).length) ∧ Hid (Below w1.heap.size w1 wr)) (fun _ _ i _ => n - (intOf i).toNat)
    case atStart => exact ⟨0, Nat.zero_le _, rfl, by rw [show (aheadTo l 0).length = 0 from rfl, HM0.out], rfl, Below.refl _ _⟩
    case round =>
      obtain ⟨q, hq, rfl, rfl, rfl, HBel⟩ := hrel
      have hbel := HBel.out
      have hbw := hb1.trans (hbel.mono hb1.size)
      by_cases hlt : q < n
      · obtain ⟨c0, c1⟩ := (HA.out.below hbw hbl) q (by rw [← HN.out]; exact hlt)
        obtain ⟨hp1, hp2⟩ := HPt.out q hlt
        have hsc := HSe.out wr q hbw hlt
        have hac := HAc.out q hlt
        have HY : Hid (lookB (l.getD q (0, 0)).1 = true → (aheadTo l (q + 1)).length = (aheadTo l q).length + 1) := fun h => by rw [aheadTo_yes h]; simp
        have HNo : Hid (lookB (l.getD q (0, 0)).1 = false → aheadTo l (q + 1) = aheadTo l q) := aheadTo_no
        have hcv : ∀ j, j < n → wr.cell? ⟨tb, toff + j, none⟩ = some (.bool (tr j)) := fun j hj => (hbel.cell (p := ⟨tb, toff + j, none⟩) htl).trans (HT.out j hj)
        have t0 := hcv q hlt
        generalize l.getD q (0, 0) = xy at c0 c1 hp1 hp2 hsc hac HY HNo
        obtain ⟨kx, vx⟩ := xy
        simp only at c0 c1 hp1 hp2 hsc hac HY HNo
        have hlk := fun w => rlook_any kx w
        cases hb : lookB kx with
        | false =>
          have HAh : Hid ((aheadTo l (q + 1)).length = (aheadTo l q).length) := by show _ = _; rw [HNo.out hb]
          rw [hb] at hlk
          clear hb HY HNo hac hsc hp1 hp2 hcv t0 HAc HPt HSe HA HMB
          generalize (aheadTo l q).length = ix at *
          go_wp2_with (go_at_call 50; refine (hlk _).mono ?_; rintro e w3 ⟨rfl, hw3⟩; obtain rfl := hw3.symm)
          exact ⟨⟨q + 1, hlt, by first | rfl | simp, by rw [HAh.out], by rw [HAh.out], hbel⟩, by simp [intOf]; omega⟩
        | true =>
          have HAh := (show Hid _ from HY.out hb)
          obtain ⟨hix, hmt⟩ := hac hb
          rw [hb] at hlk
          have hkk : 14 ≤ kx ∧ kx ≤ 18 := by simpa [lookB] using hb
          have hpn : 1 ≤ pn kx := by
            unfold pn
            split
            · omega
            · split
              · omega
              · omega
          have hq1 := hp1 hpn
          have t1 := hcv (q + 1) hq1
          obtain ⟨hm0, hm1⟩ := HMB.out (aheadTo l q).length
          have hps := pow_small (k := (aheadTo l q).length) (by omega)
          have h2k : (0 : Int) < 2 ^ (aheadTo l q).length := Int.pow_pos (by decide)
          have HPw : Hid ((2 : Int) ^ ((aheadTo l q).length + 1) = 2 ^ (aheadTo l q).length * 2) := Int.pow_succ 2 _
          generalize (aheadTo l q).length = ix at *
          have hcase : kx = 14 ∨ kx = 15 ∨ kx = 16 ∨ kx = 17 ∨ kx = 18 := by omega
          clear hb HY HNo hac hkk hpn hp1 HAc HPt HSe HA HMB
          rcases hcase with rfl | rfl | rfl | rfl | rfl
          · have HMt : Hid (mt (ix + 1) = mt ix + 2 ^ ix) := by show _ = _; rw [hmt]; simp [waitB]
            generalize tr q = z at *
            generalize tr (q + 1) = x at *
            generalize mt ix = m0 at *
            generalize (2 : Int) ^ ix = pw at *
            clear hmt hcv hsc hp2
            go_wp2_with (go_at_call 50; refine (hlk _).mono ?_; rintro e w3 ⟨rfl, hw3⟩; obtain rfl := hw3.symm)
            exact ⟨⟨q + 1, hlt, by first | rfl | simp, by rw [HAh.out, HMt.out], by rw [HAh.out, HPw.out], hbel⟩, by simp [intOf]; omega⟩
          · obtain ⟨hs1, hs2⟩ := hp2 (by decide)
            have t2 := hcv (sec l q) hs2
            have hsq := hsc (by decide)
            generalize hsn : sec l q = sn at *
            rw [show waitB 15 (tr q) (tr (q + 1)) (tr sn) = (tr q && !tr sn) by simp [waitB]] at hmt
            have HMt := (show Hid _ from hmt)
            generalize tr q = z at *
            generalize tr (q + 1) = x at *
            generalize tr sn = y at *
            generalize mt ix = m0 at *
            generalize (2 : Int) ^ ix = pw at *
            clear hmt hcv hsc hp2 hsn
            cases z <;> cases y
            all_goals
              go_wp2_with (first | (go_at_call 50; refine (hlk _).mono ?_; rintro e w3 ⟨rfl, hw3⟩; obtain rfl := hw3.symm) | (go_at_call 51; refine hsq.mono ?_; rintro e w3 ⟨rfl, hw3⟩; obtain rfl := hw3.symm))
              exact ⟨⟨q + 1, hlt, by first | rfl | simp, by rw [HAh.out, HMt.out]; simp, by rw [HAh.out, HPw.out], hbel⟩, by simp [intOf]; omega⟩
          · obtain ⟨hs1, hs2⟩ := hp2 (by decide)
            have t2 := hcv (sec l q) hs2
            have hsq := hsc (by decide)
            generalize hsn : sec l q = sn at *
            rw [show waitB 16 (tr q) (tr (q + 1)) (tr sn) = (!tr q && tr sn) by simp [waitB]] at hmt
            have HMt := (show Hid _ from hmt)
            generalize tr q = z at *
            generalize tr (q + 1) = x at *
            generalize tr sn = y at *
            generalize mt ix = m0 at *
            generalize (2 : Int) ^ ix = pw at *
            clear hmt hcv hsc hp2 hsn
            cases z <;> cases y
            all_goals
              go_wp2_with (first | (go_at_call 50; refine (hlk _).mono ?_; rintro e w3 ⟨rfl, hw3⟩; obtain rfl := hw3.symm) | (go_at_call 51; refine hsq.mono ?_; rintro e w3 ⟨rfl, hw3⟩; obtain rfl := hw3.symm))
              exact ⟨⟨q + 1, hlt, by first | rfl | simp, by rw [HAh.out, HMt.out]; simp, by rw [HAh.out, HPw.out], hbel⟩, by simp [intOf]; omega⟩
          · rw [show waitB 17 (tr q) (tr (q + 1)) (tr (sec l q)) = (tr q && !tr (q + 1)) by simp [waitB]] at hmt
            have HMt := (show Hid _ from hmt)
            generalize tr q = z at *
            generalize tr (q + 1) = x at *
            generalize mt ix = m0 at *
            generalize (2 : Int) ^ ix = pw at *
            clear hmt hcv hsc hp2
            cases z <;> cases x
            all_goals
              go_wp2_with (go_at_call 50; refine (hlk _).mono ?_; rintro e w3 ⟨rfl, hw3⟩; obtain rfl := hw3.symm)
              exact ⟨⟨q + 1, hlt, by first | rfl | simp, by rw [HAh.out, HMt.out]; simp, by rw [HAh.out, HPw.out], hbel⟩, by simp [intOf]; omega⟩
          · rw [show waitB 18 (tr q) (tr (q + 1)) (tr (sec l q)) = (!tr q && tr (q + 1)) by simp [waitB]] at hmt
            have HMt := (show Hid _ from hmt)
            generalize tr q = z at *
            generalize tr (q + 1) = x at *
            generalize mt ix = m0 at *
            generalize (2 : Int) ^ ix = pw at *
            clear hmt hcv hsc hp2
            cases z <;> cases x
            all_goals
              go_wp2_with (go_at_call 50; refine (hlk _).mono ?_; rintro e w3 ⟨rfl, hw3⟩; obtain rfl := hw3.symm)
              exact ⟨⟨q + 1, hlt, by first | rfl | simp, by rw [HAh.out, HMt.out]; simp, by rw [HAh.out, HPw.out], hbel⟩, by simp [intOf]; omega⟩
      · obtain rfl : q = n := by omega
        go_wp2_with fail
        go_ret2
        rw [← HEnd.out]
        exact ⟨rfl, hbw⟩
  · rw [show metN l letter claim = 0 by unfold metN; rw [if_neg hc]]
    have htl : truL l letter claim = [] := by unfold truL; rw [if_neg hc]
    rw [htl] at htr
    obtain ⟨oo, oc, rfl, _⟩ := id hV
    generalize tcode l letter claim = x at *
    generalize letter.length = ln at *
    generalize l.length = n at *
    clear hV hL hl htl
    go_enter Tryz.func32, Tryz.ntmps32
    go_wp2_with (go_at_call 49; refine htr.mono ?_; rintro e w1 ⟨tv, rfl, hb1, ht1⟩; obtain ⟨to', tc, rfl, _⟩ := ht1)
    go_ret2
    exact ⟨rfl, hb1⟩
end Go.Proofs.YtihmcoikgkacoaaGreatDoor

/-
  The contract of the document's Explored.
-/
namespace Go.Proofs.YtihmcoikgkacoaaGreatDoor
open Go.ChangeShapes Go.WideShapes Go.ChangeAt Go.RowKit Go.Deep Go.Maps
open Terms Tm

set_option maxRecDepth 20000 in
theorem plTo_self {l : List (Int × Int)} : ∀ {S : List (Int × Int)}, (S ++ l).Nodup → plTo S l = S ++ l := by
  induction l with
  | nil => intro S _; simp [plTo_nil]
  | cons p l ih =>
    intro S h
    have hp : p ∉ S := fun hm => by
      have := (List.nodup_append.1 h).2.2 p hm p (List.mem_cons_self)
      exact this rfl
    rw [plTo_cons, plOne_out hp, ih (by rw [List.append_assoc]; exact h), List.append_assoc]
    rfl
set_option maxRecDepth 20000 in
theorem begTo_nodup (m : Mo) (ps : List (List (Int × Int))) (l : List (Int × Int)) : ∀ k, (begTo m ps l k).Nodup
  | 0 => by simp [begTo]
  | k + 1 => by
    rw [begTo]
    split
    · exact begTo_nodup m ps l k
    · refine List.nodup_append.2 ⟨begTo_nodup m ps l k, by simp, fun a ha b hb e => ?_⟩
      rw [List.mem_singleton] at hb
      subst hb
      subst e
      obtain ⟨_, d, h2, h3, _⟩ := xbg_mem _ ha
      simp only at h3
      omega
set_option maxRecDepth 20000 in
theorem xpP0 (m : Mo) (ps : List (List (Int × Int))) (l : List (Int × Int)) : xpP m ps l 0 = begL m ps l := by
  show plTo [] (begL m ps l) = _
  rw [plTo_self (by rw [List.nil_append]; exact begTo_nodup m ps l _)]
  rfl
set_option maxRecDepth 20000 in
theorem take_snoc {α : Type} {l : List α} {k : Nat} (h : k < l.length) (d : α) : l.take (k + 1) = l.take k ++ [l.getD k d] := by
  rw [List.take_add_one, List.getElem?_eq_getElem h]
  simp [List.getD_eq_getElem?_getD, h]

set_option maxHeartbeats 1600000 in
set_option maxRecDepth 20000 in
theorem explored_bad (va vr pv fv : Value) (m : Mo) (ps : List (List (Int × Int))) (l : List (Int × Int)) (w : World) (hZ : m.vars.length * 40 ≤ 140737488355328) (hp1 : ps.length * 24 ≤ 140737488355328) (hV : TaskV w va vr pv fv m ps l) (hk : tkcode m ps l ≠ 0) :
    Calls Tryz.prog 10 #[.agg #[va, vr, pv, fv]] w (ExAns w m ps l) := by
  unfold ExAns
  obtain ⟨ao, ac, rfl⟩ := hV.mo.1.shape
  obtain ⟨ro, rc, rfl⟩ := hV.mo.2.shape
  obtain ⟨po, pc, rfl⟩ := hV.ps.shape
  obtain ⟨fo, fc, rfl, _⟩ := id hV.fo
  obtain ⟨W0, hW0⟩ : ∃ W0, W0 = (w.alloc (.cells #[.slice ao m.vars.length ac, .slice ro m.rules.length rc, .slice po ps.length pc, .slice fo l.length fc] 29)).alloc (.cells #[.slice none 0 0, .int .i64 0, .slice none 0 0, .slice none 0 0, .int .i64 0] 42) := ⟨_, rfl⟩
  have hbW : Below w.heap.size w W0 := by rw [hW0]; exact ((Below.refl _ _).alloc (Nat.le_refl _) _).alloc (by simp) _
  have hzW : W0.heap.size = w.heap.size + 2 := by rw [hW0]; simp
  have hX0 : W0.heap[w.heap.size + 1]? = some (grB (.slice none 0 0) (.slice none 0 0) (.slice none 0 0) 0 0) := by
    rw [hW0]
    have := (MapKept.heap_alloc (w.alloc (.cells #[.slice ao m.vars.length ac, .slice ro m.rules.length rc, .slice po ps.length pc, .slice fo l.length fc] 29)) (.cells #[.slice none 0 0, .int .i64 0, .slice none 0 0, .slice none 0 0, .int .i64 0] 42)).1
    rw [World.size_alloc] at this
    exact this
  have hbg := beginOf_any _ _ _ _ m ps l W0 hZ hp1 (hV.below hbW)
  unfold BegPost at hbg
  rw [begR_bad hk] at hbg
  have HFin : Hid (∀ w1, Below W0.heap.size W0 w1 → (w1.cell? ⟨w.heap.size + 1, 0, none⟩ = some (.slice none 0 0) ∧ w1.cell? ⟨w.heap.size + 1, 1, none⟩ = some (.int .i64 0) ∧ w1.cell? ⟨w.heap.size + 1, 2, none⟩ = some (.slice none 0 0) ∧ w1.cell? ⟨w.heap.size + 1, 3, none⟩ = some (.slice none 0 0) ∧ w1.cell? ⟨w.heap.size + 1, 4, none⟩ = some (.int .i64 0)) ∧ (∀ i, w1.frozen? ⟨w.heap.size + 1, i, none⟩ = false) ∧ Below w.heap.size w w1) := fun w1 h => by
    have hb := (h.block (w.heap.size + 1) (by omega)).trans hX0
    exact ⟨grB_cells hb, grB_free hb, hbW.trans (h.mono hbW.size)⟩
  have HK : Hid (tkcode m ps l ≠ 0) := hk
  generalize tkcode m ps l = tc at *
  generalize m.vars.length = vn at *
  generalize m.rules.length = rn at *
  generalize ps.length = pn at *
  generalize l.length = fn at *
  clear hV
  go_enter Tryz.func10, Tryz.ntmps10
  go_wp2_with (first | (go_at_call 29; rw [← hW0]; refine hbg.mono ?_; rintro e w1 ⟨so, sc, rfl, hb1, _⟩; obtain ⟨⟨x0, x1, x2, x3, x4⟩, xf, hbw⟩ := HFin.out w1 hb1; have f0 := xf 0; have f1 := xf 1; have f2 := xf 2; have f3 := xf 3; have f4 := xf 4))
  have hbF : Below w.heap.size w (((((w1.setCell ⟨w.heap.size + 1, 0, none⟩ (.slice none 0 0)).setCell ⟨w.heap.size + 1, 1, none⟩ (.int .i64 0)).setCell ⟨w.heap.size + 1, 2, none⟩ (.slice none 0 0)).setCell ⟨w.heap.size + 1, 3, none⟩ (.slice none 0 0)).setCell ⟨w.heap.size + 1, 4, none⟩ (.int .i64 0)) := hbw.trans ((chg_box w1 (w.heap.size + 1) _ _ _ _ _).below (fun i e => by omega) (by have := hbw.size; omega))
  refine bodyPost_ret (v := .tuple #[.agg #[.slice none 0 0, .int .i64 0, .slice none 0 0, .slice none 0 0, .int .i64 0], .int .i64 tc]) ?_ rfl (.inr (.inr ⟨HK.out, rfl, hbF⟩))
  simp [results, Tryz.results10, go_sem, x0, x1, x2, x3, x4]

set_option maxHeartbeats 12800000 in
set_option maxRecDepth 20000 in
theorem explored_ok (va vr pv fv : Value) (m : Mo) (ps : List (List (Int × Int))) (l : List (Int × Int)) (w : World) (hZ : m.vars.length * 40 ≤ 140737488355328) (hp1 : ps.length * 24 ≤ 140737488355328) (hV : TaskV w va vr pv fv m ps l) (hk : tkcode m ps l = 0) :
    Calls Tryz.prog 10 #[.agg #[va, vr, pv, fv]] w (ExAns w m ps l) := by
  unfold ExAns
  obtain ⟨hp0, hl0⟩ := tk_zero hk
  obtain ⟨hm0, _⟩ := pcode_m hp0
  have h6 := (lcode_zero hl0).2.2.2.2
  obtain ⟨ao, ac, rfl⟩ := hV.mo.1.shape
  obtain ⟨ro, rc, rfl⟩ := hV.mo.2.shape
  obtain ⟨po, pc, rfl⟩ := hV.ps.shape
  obtain ⟨fo, fc, rfl, _⟩ := id hV.fo
  obtain ⟨W0, hW0⟩ : ∃ W0, W0 = (w.alloc (.cells #[.slice ao m.vars.length ac, .slice ro m.rules.length rc, .slice po ps.length pc, .slice fo l.length fc] 29)).alloc (.cells #[.slice none 0 0, .int .i64 0, .slice none 0 0, .slice none 0 0, .int .i64 0] 42) := ⟨_, rfl⟩
  have hbW : Below w.heap.size w W0 := by rw [hW0]; exact ((Below.refl _ _).alloc (Nat.le_refl _) _).alloc (by simp) _
  have hzW : W0.heap.size = w.heap.size + 2 := by rw [hW0]; simp
  have hX0 : W0.heap[w.heap.size + 1]? = some (grB (.slice none 0 0) (.slice none 0 0) (.slice none 0 0) 0 0) := by
    rw [hW0]
    have := (MapKept.heap_alloc (w.alloc (.cells #[.slice ao m.vars.length ac, .slice ro m.rules.length rc, .slice po ps.length pc, .slice fo l.length fc] 29)) (.cells #[.slice none 0 0, .int .i64 0, .slice none 0 0, .slice none 0 0, .int .i64 0] 42)).1
    rw [World.size_alloc] at this
    exact this
  have hQ0 : W0.cell? ⟨w.heap.size, 0, none⟩ = some (.slice ao m.vars.length ac) ∧ W0.cell? ⟨w.heap.size, 1, none⟩ = some (.slice ro m.rules.length rc) ∧ W0.cell? ⟨w.heap.size, 2, none⟩ = some (.slice po ps.length pc) ∧ W0.cell? ⟨w.heap.size, 3, none⟩ = some (.slice fo l.length fc) := by
    rw [hW0]
    refine ⟨?_, ?_, ?_, ?_⟩ <;> simp [go_sem]
  have hV0 := hV.below hbW
  have hbg := beginOf_any _ _ _ _ m ps l W0 hZ hp1 hV0
  unfold BegPost at hbg
  rw [begR_ok hk, hk] at hbg
  have HAh : Hid (∀ w1, Below W0.heap.size W0 w1 → Calls Tryz.prog 30 #[.slice fo l.length fc, .int .i64 (ps.length : Nat)] w1 fun e w2 => ∃ ho hc, e = .returned (.tuple #[.slice ho (aheadL l).length hc, .int .i64 0]) ∧ Below w1.heap.size w1 w2) := fun w1 h => (aheadOf_any _ l (ps.length : Nat) w1 (hV0.fo.below h)).mono fun e w2 ⟨av, h1, h2, h3⟩ => by
    have e1 : ahL ps.length l = aheadL l := by unfold ahL; rw [if_pos hl0]
    rw [e1] at h3
    rw [hl0] at h1
    obtain ⟨ho, hc, rfl⟩ := owns_slice h3
    exact ⟨ho, hc, h1, h2⟩
  have HQ : Hid (∀ w1, Below W0.heap.size W0 w1 → w1.cell? ⟨w.heap.size, 0, none⟩ = some (.slice ao m.vars.length ac) ∧ w1.cell? ⟨w.heap.size, 1, none⟩ = some (.slice ro m.rules.length rc) ∧ w1.cell? ⟨w.heap.size, 2, none⟩ = some (.slice po ps.length pc) ∧ w1.cell? ⟨w.heap.size, 3, none⟩ = some (.slice fo l.length fc)) := fun w1 h => by
    have hlt : w.heap.size < W0.heap.size := by omega
    obtain ⟨a, b, c, d⟩ := hQ0
    exact ⟨(h.cell (p := ⟨w.heap.size, 0, none⟩) hlt).trans a, (h.cell (p := ⟨w.heap.size, 1, none⟩) hlt).trans b, (h.cell (p := ⟨w.heap.size, 2, none⟩) hlt).trans c, (h.cell (p := ⟨w.heap.size, 3, none⟩) hlt).trans d⟩
  have HFin : Hid (∀ w1, Below W0.heap.size W0 w1 → (w1.cell? ⟨w.heap.size + 1, 0, none⟩ = some (.slice none 0 0) ∧ w1.cell? ⟨w.heap.size + 1, 1, none⟩ = some (.int .i64 0) ∧ w1.cell? ⟨w.heap.size + 1, 2, none⟩ = some (.slice none 0 0) ∧ w1.cell? ⟨w.heap.size + 1, 3, none⟩ = some (.slice none 0 0) ∧ w1.cell? ⟨w.heap.size + 1, 4, none⟩ = some (.int .i64 0)) ∧ (∀ i, w1.frozen? ⟨w.heap.size + 1, i, none⟩ = false) ∧ TyB w1 (w.heap.size + 1) 42 ∧ Below w.heap.size w w1) := fun w1 h => by
    have hb := (h.block (w.heap.size + 1) (by omega)).trans hX0
    exact ⟨grB_cells hb, grB_free hb, ⟨_, _, hb⟩, hbW.trans (h.mono hbW.size)⟩
  have HBh : Hid (∀ (w1 : World) (p : Int × Int), Below W0.heap.size W0 w1 → spOk m l p → Calls Tryz.prog 7 #[.agg #[.slice ao m.vars.length ac, .slice ro m.rules.length rc, .slice po ps.length pc, .slice fo l.length fc], .agg #[.int .i64 p.1, .int .i64 p.2]] w1 fun e w2 => ∃ bo bc, e = .returned (.tuple #[.slice bo (xpBh m ps l p).length bc, .int .i64 0]) ∧ Below w1.heap.size w1 w2 ∧ Hid (SpO w2 w1.heap.size (.slice bo (xpBh m ps l p).length bc) (xpBh m ps l p))) := fun w1 p h hs => (behindOf_any _ _ _ _ m ps l p.1 p.2 w1 hp1 (hV0.below h)).mono fun e w2 ⟨so, sc, h1, h2, h3⟩ => by
    obtain ⟨g1, d, g2, g3⟩ := hs
    have hc0 : bhC m ps l p.1 p.2 = 0 := by rw [g3, bhC_ok hk ⟨by omega, by omega⟩, wcode_yes hm0 g1]
    rw [bhL_ok hc0] at h1 h3
    rw [hc0] at h1
    exact ⟨so, sc, h1, h2, h3⟩
  have HLt : Hid (∀ (w1 : World) (p : Int × Int), Below W0.heap.size W0 w1 → spOk m l p → Calls Tryz.prog 23 #[.agg #[.slice ao m.vars.length ac, .slice ro m.rules.length rc], .slice po ps.length pc, .int .i64 p.1] w1 fun e w2 => ∃ lo ln lc ec, e = .returned (.tuple #[.slice lo ln lc, .int .i64 ec]) ∧ Below w1.heap.size w1 w2 ∧ Hid (BoolsV w2 (.slice lo ln lc) (letL m ps p.1))) := fun w1 p h hs => (rletter_any _ _ _ m ps p.1 w1 hp1 (hV0.mo.below h) (hV0.ps.below h)).mono fun e w2 ⟨v, h1, h2, h3⟩ => by
    obtain ⟨lo, lc, rfl, hx⟩ := h3
    exact ⟨lo, _, lc, _, h1, h2, ⟨lo, lc, rfl, hx⟩⟩
  have HMt : Hid (∀ (w1 : World) (p : Int × Int) (lv : Value), Below W0.heap.size W0 w1 → BoolsV w1 lv (letL m ps p.1) → Calls Tryz.prog 32 #[.slice fo l.length fc, lv, .int .i64 p.2] w1 fun e w2 => ∃ ec, e = .returned (.tuple #[.int .i64 (metN l (letL m ps p.1) p.2), .int .i64 ec]) ∧ Below w1.heap.size w1 w2) := fun w1 p lv h hl => (rmet_any _ lv l (letL m ps p.1) p.2 w1 (hV0.fo.below h) hl).mono fun e w2 ⟨h1, h2⟩ => ⟨_, h1, h2⟩
  have HP0 : Hid ((∀ p ∈ xpP m ps l 0, spOk m l p) ∧ (xpP m ps l 0).length ≤ 20000 ∧ xpP m ps l 0 = begL m ps l) := ⟨xpP_zero hk, by
    rw [xpP0]
    have := begL_len hk
    omega, xpP0 m ps l⟩
  have HPn : Hid (∀ k, k < (xpP m ps l k).length → (∀ p ∈ xpP m ps l k, spOk m l p) → ∀ p ∈ xpP m ps l (k + 1), spOk m l p) := fun k h1 h2 => xpP_next hk h1 h2
  have HBl : Hid (∀ p, spOk m l p → (xpBh m ps l p).length ≤ 262144) := fun p h => behL_len hm0 h.1 h6
  have HK : Hid (tkcode m ps l = 0) := hk
  have hbn := begL_len hk
  clear hV hV0 hk hp0 hl0 hm0 hZ hp1 hQ0 hX0
  generalize hbl : (begL m ps l).length = bn at *
  generalize hal : (aheadL l).length = an at *
  generalize m.vars.length = vn at *
  generalize m.rules.length = rn at *
  generalize hpn : ps.length = pn at *
  generalize hfn : l.length = fn at *
  clear hpn hfn
  go_enter Tryz.func10, Tryz.ntmps10
  go_wp2_with (first | (go_at_call 29; rw [← hW0]; refine hbg.mono ?_; rintro e w1 ⟨so, sc, rfl, hb1, HSp⟩; obtain ⟨q0, q1, q2, q3⟩ := HQ.out w1 hb1; have hah := HAh.out w1 hb1) | (go_at_call 30; refine hah.mono ?_; rintro e w2 ⟨ho, hc, rfl, hb2⟩))
  have hb02 := hb1.trans (hb2.mono hb1.size)
  have HD0 : Hid (DgX (w2.alloc (.cells #[.slice so bn sc, .int .i64 (bn : Nat), .slice none 0 0, .slice none 0 0, .int .i64 (an : Nat)] 42)) W0.heap.size w2.heap.size (xpP m ps l 0) (xpN m ps l 0) (xpT m ps l 0) (bn : Nat) (an : Nat) (.slice so bn sc) (.slice none 0 0) (.slice none 0 0) ∧ Below W0.heap.size W0 (w2.alloc (.cells #[.slice so bn sc, .int .i64 (bn : Nat), .slice none 0 0, .slice none 0 0, .int .i64 (an : Nat)] 42))) := by
    have hb3 : Below w2.heap.size w2 (w2.alloc (.cells #[.slice so bn sc, .int .i64 (bn : Nat), .slice none 0 0, .slice none 0 0, .int .i64 (an : Nat)] 42)) := (Below.refl _ _).alloc (Nat.le_refl _) _
    refine ⟨⟨(MapKept.heap_alloc w2 _).1, hb02.size, ?_, ⟨[], World.ownsRow_nil _ _ _ _, rfl, fun i hi => by simp [xpN] at hi⟩, World.ownsRow_nil _ _ _ _⟩, hb02.trans (hb3.mono hb02.size)⟩
    rw [HP0.out.2.2]
    exact (HSp.out.later hb2 (Nat.le_refl _)).later hb3 (Nat.le_refl _)
  generalize w2.alloc (.cells #[.slice so bn sc, .int .i64 (bn : Nat), .slice none 0 0, .slice none 0 0, .int .i64 (an : Nat)] 42) = W3 at *
  generalize w2.heap.size = G at *
  clear hbg hah HAh HSp q0 q1 q2 q3 hb1 hb2 hb02
  go_loopw [9] (fun i wr => ∃ k pk : Nat, i = .int .i64 k ∧ k ≤ pk ∧ pk ≤ 20000 ∧ Hid ((xpP m ps l k).length = pk ∧ (∀ p ∈ xpP m ps l k, spOk m l p) ∧ ∀ j, j < k → j < (xpP m ps l j).length) ∧ ∃ vo vc nv tv, Hid (DgX wr W0.heap.size G (xpP m ps l k) (xpN m ps l k) (xpT m ps l k) (bn : Nat) (an : Nat) (.slice vo pk vc) nv tv ∧ Below W0.heap.size W0 wr)) (fun i _ => 20001 - (intOf i).toNat)
  case atStart => exact ⟨0, bn, rfl, Nat.zero_le _, by omega, ⟨by rw [HP0.out.2.2]; exact hbl, HP0.out.1, fun j hj => by omega⟩, so, sc, .slice none 0 0, .slice none 0 0, HD0.out⟩
  case round =>
    obtain ⟨k, pk, rfl, hkp, hpk, HK2, vo, vc, nv, tv, HX⟩ := hrel
    obtain ⟨a0, a1, a2, a3, a4⟩ := grB_cells HX.out.1.box
    by_cases hlt : k < pk
    · have hki : (k : Int) < (pk : Int) := by omega
      have hlt2 : k < (xpP m ps l k).length := by rw [HK2.out.1]; exact hlt
      obtain ⟨b, off, rfl, hbb, c0, c1⟩ := HX.out.1.sp.v.get hlt2
      have e1 : (xpP m ps l k).getD k (0, 0) = xpAt m ps l k := rfl
      rw [e1] at c0 c1
      have hsk := HK2.out.2.1 _ (xpAt_mem hlt2)
      have HSk : Hid (spOk m l (xpAt m ps l k)) := hsk
      have hbh := HBh.out wr.drew (xpAt m ps l k) HX.out.2.drew hsk
      have hbl2 := HBl.out _ hsk
      have HKn : Hid ((∀ p ∈ xpP m ps l (k + 1), spOk m l p) ∧ ∀ j, j < k + 1 → j < (xpP m ps l j).length) := ⟨HPn.out k hlt2 HK2.out.2.1, fun j hj => by
        by_cases h : j < k
        · exact HK2.out.2.2 j h
        · obtain rfl : j = k := by omega
          exact hlt2⟩
      have HE1 : Hid (xpP m ps l (k + 1) = plTo (xpP m ps l k) (xpBh m ps l (xpAt m ps l k)) ∧ xpN m ps l (k + 1) = xpN m ps l k ++ [plIx (xpP m ps l k) (xpBh m ps l (xpAt m ps l k))] ∧ xpT m ps l (k + 1) = xpT m ps l k ++ [metN l (letL m ps (xpAt m ps l k).1) (xpAt m ps l k).2]) := ⟨rfl, rfl, rfl⟩
      have HLt2 : Hid (∀ (w1 : World), Below W0.heap.size W0 w1 → Calls Tryz.prog 23 #[.agg #[.slice ao vn ac, .slice ro rn rc], .slice po pn pc, .int .i64 (xpAt m ps l k).1] w1 fun e w2 => ∃ lo ln lc ec, e = .returned (.tuple #[.slice lo ln lc, .int .i64 ec]) ∧ Below w1.heap.size w1 w2 ∧ Hid (BoolsV w2 (.slice lo ln lc) (letL m ps (xpAt m ps l k).1))) := fun w1 h => HLt.out w1 _ h hsk
      have HMt2 : Hid (∀ (w1 : World) (lv : Value), Below W0.heap.size W0 w1 → BoolsV w1 lv (letL m ps (xpAt m ps l k).1) → Calls Tryz.prog 32 #[.slice fo fn fc, lv, .int .i64 (xpAt m ps l k).2] w1 fun e w2 => ∃ ec, e = .returned (.tuple #[.int .i64 (metN l (letL m ps (xpAt m ps l k).1) (xpAt m ps l k).2), .int .i64 ec]) ∧ Below w1.heap.size w1 w2) := fun w1 lv h h2 => HMt.out w1 _ lv h h2
      have HNl : Hid ((xpN m ps l k).length = k ∧ (xpT m ps l k).length = k) := ⟨xpN_len k, xpT_len k⟩
      have HF9 : Hid (∀ w1, Below wr.heap.size wr w1 → (w1.cell? ⟨w.heap.size, 0, none⟩ = some (.slice ao vn ac) ∧ w1.cell? ⟨w.heap.size, 1, none⟩ = some (.slice ro rn rc) ∧ w1.cell? ⟨w.heap.size, 2, none⟩ = some (.slice po pn pc) ∧ w1.cell? ⟨w.heap.size, 3, none⟩ = some (.slice fo fn fc)) ∧ w1.cell? ⟨G, 0, none⟩ = some (.slice (some ⟨b, off, none⟩) pk vc) ∧ w1.cell? ⟨b, off + k * 2, none⟩ = some (.int .i64 (xpAt m ps l k).1) ∧ w1.cell? ⟨b, off + k * 2 + 1, none⟩ = some (.int .i64 (xpAt m ps l k).2)) := fun w1 h => ⟨HQ.out w1 (HX.out.2.trans (h.mono HX.out.2.size)), (h.cell (p := ⟨G, 0, none⟩) HX.out.1.lt).trans a0, (h.cell (p := ⟨b, off + k * 2, none⟩) hbb).trans c0, (h.cell (p := ⟨b, off + k * 2 + 1, none⟩) hbb).trans c1⟩
      have HAt : Hid ((xpP m ps l k).getD k (0, 0) = xpAt m ps l k) := rfl
      clear HBh HLt HMt HPn hsk e1
      generalize xpBh m ps l (xpAt m ps l k) = beh at *
      generalize metN l (letL m ps (xpAt m ps l k).1) (xpAt m ps l k).2 = mt at *
      generalize letL m ps (xpAt m ps l k).1 = ltr at *
      generalize xpAt m ps l k = s at *
      obtain ⟨x, y⟩ := s
      simp only at c0 c1 hbh HF9 HLt2 HMt2
      generalize hbhn : beh.length = bhn at *
      have hB0 : Below wr.heap.size wr wr := Below.refl _ _
      go_upto_region 9 with fail
      go_cut [10] (fun u10 wx => ∃ bo bc, u10 = .slice bo bhn bc ∧ Below wr.heap.size wr wx ∧ Hid (SpO wx wr.heap.size (.slice bo bhn bc) beh))
      case first =>
        go_region_held3 (fun w' => (w'.cell? ⟨w.heap.size, 0, none⟩ = some (.slice ao vn ac) ∧ w'.cell? ⟨w.heap.size, 1, none⟩ = some (.slice ro rn rc) ∧ w'.cell? ⟨w.heap.size, 2, none⟩ = some (.slice po pn pc) ∧ w'.cell? ⟨w.heap.size, 3, none⟩ = some (.slice fo fn fc)) ∧ w'.cell? ⟨G, 0, none⟩ = some (.slice (some ⟨b, off, none⟩) pk vc) ∧ w'.cell? ⟨b, off + k * 2, none⟩ = some (.int .i64 x) ∧ w'.cell? ⟨b, off + k * 2 + 1, none⟩ = some (.int .i64 y))
          (first | exact HF9.out _ hb4 | exact HF9.out _ hB0.drew | exact HF9.out _ hB0)
          (first | (go_at_call 7; refine hbh.mono ?_; rintro e w4 ⟨bo, bc, rfl, hb4', HO4⟩; have hb4 := hB0.drew.trans (hb4'.mono hB0.drew.size)))
        go_wp2_with fail
        go_meet
        exact ⟨bo, bc, rfl, hb4, HO4⟩
      case rest =>
        obtain ⟨bo, bc, rfl, hb4, HO4⟩ := hcut
        obtain ⟨w4, rfl⟩ : ∃ w4, w4 = wc := ⟨_, rfl⟩
        have HD4 : Hid (DgX w4 W0.heap.size G (xpP m ps l k) (xpN m ps l k) (xpT m ps l k) (bn : Nat) (an : Nat) (.slice (some ⟨b, off, none⟩) pk vc) nv tv ∧ Below W0.heap.size W0 w4) := ⟨HX.out.1.below hb4, HX.out.2.trans (hb4.mono HX.out.2.size)⟩
        have hsep : ∀ a, bo = some a → ¬ (a.block = G ∨ (Value.slice (some ⟨b, off, none⟩) pk vc).ownBlock = some a.block) := fun a e z => by
          have hge := owns_ge HO4.out a _ _ (by rw [e])
          rcases z with z | z
          · have := HX.out.1.lt; omega
          · have := (owns_ty HX.out.1.sp z).2.lt; omega
        have HLs : Hid (∀ w1, Chg (fun i => i = G ∨ (Value.slice (some ⟨b, off, none⟩) pk vc).ownBlock = some i) w4 w1 → SpV w1 (.slice bo bhn bc) beh) := fun w1 h => HO4.out.v.chg h hsep
        have HF10 : Hid (∀ w1, Below W0.heap.size W0 w1 → w1.cell? ⟨w.heap.size, 0, none⟩ = some (.slice ao vn ac) ∧ w1.cell? ⟨w.heap.size, 1, none⟩ = some (.slice ro rn rc) ∧ w1.cell? ⟨w.heap.size, 2, none⟩ = some (.slice po pn pc) ∧ w1.cell? ⟨w.heap.size, 3, none⟩ = some (.slice fo fn fc)) := HQ.out
        clear HX hbh HF9 hsep HO4 a0 a1 a2 a3 a4 c0 c1 hbb hB0
        have HSk0 : Hid ((xpP m ps l k).length = pk) := HK2.out.1
        have HBn : Hid (beh.length = bhn) := hbhn
        have HIx : Hid ((plIx (xpP m ps l k) beh).length = bhn) := by show _ = _; rw [plIx_len, hbhn]
        clear hbhn
        have HZ0 : Hid (plTo (xpP m ps l k) (beh.take 0) = xpP m ps l k) := rfl
        generalize hSk : xpP m ps l k = Sk at *
        generalize hNk : xpN m ps l k = Nk at *
        generalize hTk : xpT m ps l k = Tk at *
        go_wp2_with fail
        go_loopw [12, 13] (fun u i wr2 => ∃ j pj : Nat, j ≤ bhn ∧ i = .int .i64 j ∧ pj ≤ 20000 + j ∧ Hid ((plTo Sk (beh.take j)).length = pj) ∧ ∃ uo uc vo2 vc2, u = .slice uo j uc ∧ Hid (RnB w4 wr2 W0.heap.size G (plTo Sk (beh.take j)) (.slice (some ⟨b, off, none⟩) pk vc) (.slice vo2 pj vc2) nv tv (bn : Nat) (an : Nat) (.slice uo j uc) ((plIx Sk beh).take j))) (fun _ i _ => bhn - (intOf i).toNat)
        case atStart => exact ⟨0, pk, Nat.zero_le _, rfl, by omega, HSk0, none, 0, some ⟨b, off, none⟩, vc, rfl, HD4.out.1.box, HD4.out.1.sp, World.ownsRow_nil _ _ _ _, Chg.refl _ _, .inl rfl⟩
        case round =>
          obtain ⟨j, pj, hjb, rfl, hpj, HPj, uo, uc, vo2, vc2, rfl, HR⟩ := hrel
          by_cases hjlt : j < bhn
          · have hjlt2 : j < beh.length := by rw [HBn.out]; exact hjlt
            have hji : (j : Int) < (bhn : Int) := by omega
            obtain ⟨gb, goff, rfl, _, d0, d1⟩ := (HLs.out wr HR.out.chg).get hjlt2
            obtain ⟨g0, _⟩ := grB_cells HR.out.box
            have HTk := (show Hid _ from plTo_take (S := Sk) hjlt2)
            have HDk := (show Hid _ from plTo_idx (S := Sk) hjlt2)
            have HIk : Hid ((plIx Sk beh).take (j + 1) = (plIx Sk beh).take j ++ [(((plTo Sk beh).idxOf (beh.getD j (0, 0)) : Nat) : Int)]) := by
              show _ = _
              rw [take_snoc (by rw [HIx.out]; exact hjlt) 0, plIx_at hjlt2]
            have hXl : ((plIx Sk beh).take j).length = j := by rw [List.length_take, HIx.out]; omega
            have hsa := spotAt_any vo2 vc2 (plTo Sk (beh.take j)) (beh.getD j (0, 0)).1 (beh.getD j (0, 0)).2 wr.drew (by rw [HPj.out]; omega) (by have := (HR.out.below (Below.refl wr.heap.size wr).drew).sp.v; rw [HPj.out]; exact this)
            rw [HPj.out] at hsa
            generalize plTo Sk (beh.take j) = Sj at *
            generalize (plIx Sk beh).take j = xj at *
            generalize hpq : beh.getD j (0, 0) = pq at *
            obtain ⟨p, q⟩ := pq
            simp only at d0 d1 hsa
            have hB0 : Below wr.heap.size wr wr := Below.refl _ _
            have HRb : Hid (∀ w1, Below wr.heap.size wr w1 → RnB w4 w1 W0.heap.size G Sj (.slice (some ⟨b, off, none⟩) pk vc) (.slice vo2 pj vc2) nv tv (bn : Nat) (an : Nat) (.slice uo j uc) xj ∧ w1.cell? ⟨G, 0, none⟩ = some (.slice vo2 pj vc2) ∧ w1.cell? ⟨gb, goff + j * 2, none⟩ = some (.int .i64 p) ∧ w1.cell? ⟨gb, goff + j * 2 + 1, none⟩ = some (.int .i64 q)) := fun w1 h => ⟨HR.out.below h, (h.cell (p := ⟨G, 0, none⟩) (World.block_lt_of_cell? _ _ g0)).trans g0, (h.cell (p := ⟨gb, goff + j * 2, none⟩) (World.block_lt_of_cell? _ _ d0)).trans d0, (h.cell (p := ⟨gb, goff + j * 2 + 1, none⟩) (World.block_lt_of_cell? _ _ d1)).trans d1⟩
            have HRc : Hid (∀ w1, Below wr.heap.size wr w1 → w1.cell? ⟨G, 0, none⟩ = some (.slice vo2 pj vc2) ∧ w1.cell? ⟨gb, goff + j * 2, none⟩ = some (.int .i64 p) ∧ w1.cell? ⟨gb, goff + j * 2 + 1, none⟩ = some (.int .i64 q)) := fun w1 h => (HRb.out w1 h).2
            obtain ⟨j0, hj, jz0, jz1, jz2⟩ := info_parts infoInt
            have HPu : Hid (∀ (wz : World) (Sz : List (Int × Int)) (svz : Value) (z : Int), RnB w4 wz W0.heap.size G Sz (.slice (some ⟨b, off, none⟩) pk vc) svz nv tv (bn : Nat) (an : Nat) (.slice uo j uc) xj → World.ownsRow (wz.alloc (.cells #[.int .i64 z] 3)) w4.heap.size 3 1 (.slice uo j uc) j (ivals xj) ∧ w4.heap.size ≤ (wz.alloc (.cells #[.int .i64 z] 3)).heap.size ∧ Hid (∀ g cap w9, World.ownsRow w9 w4.heap.size 3 1 (.slice (some ⟨g, 0, none⟩) (j + 1) cap) (j + 1) (ivals xj ++ [.int .i64 z]) → (wz.alloc (.cells #[.int .i64 z] 3)).grownBy w9 (Value.slice uo j uc).ownBlock → RnB w4 w9 W0.heap.size G Sz (.slice (some ⟨b, off, none⟩) pk vc) svz nv tv (bn : Nat) (an : Nat) (.slice (some ⟨g, 0, none⟩) (j + 1) cap) (xj ++ [z]))) := fun wz Sz svz z h => by
              have hbz : Below wz.heap.size wz (wz.alloc (.cells #[.int .i64 z] 3)) := (Below.refl _ _).alloc (Nat.le_refl _) _
              have h2 := h.below hbz
              have h3 := h2.row
              rw [hXl] at h3
              exact ⟨h3, h2.chg.size, fun g cap w9 g1 g2 => h2.push g2 (by rw [hXl]; exact g1)⟩
            clear HR g0 d0 d1
            go_upto_region 14 with fail
            go_cut [14] (fun u14 wx => u14 = .int .i64 (spAt Sj (p, q)) ∧ Below wr.heap.size wr wx)
            case first =>
              go_region_held3 (fun w' => w'.cell? ⟨G, 0, none⟩ = some (.slice vo2 pj vc2) ∧ w'.cell? ⟨gb, goff + j * 2, none⟩ = some (.int .i64 p) ∧ w'.cell? ⟨gb, goff + j * 2 + 1, none⟩ = some (.int .i64 q))
                (first | exact HRc.out _ hb5 | exact HRc.out _ hB0.drew | exact HRc.out _ hB0)
                (first | (go_at_call 31; refine hsa.mono ?_; rintro e w5 ⟨rfl, hb5'⟩; have hb5 := hB0.drew.trans (hb5'.mono hB0.drew.size)))
              go_wp2_with fail
              go_meet
              exact ⟨rfl, hb5⟩
            case rest =>
              obtain ⟨rfl, hb5⟩ := hcut
              obtain ⟨hR5, g5, d50, d51⟩ := HRb.out wc hb5
              by_cases hmem : (p, q) ∈ Sj
              · have hsp : spAt Sj (p, q) = ((Sj.idxOf (p, q) : Nat) : Int) := by unfold spAt; rw [if_pos hmem]
                rw [hsp]
                have HV : Hid ((plTo Sk beh).idxOf (p, q) = Sj.idxOf (p, q)) := by show _ = _; rw [HDk.out, plOne_in hmem]
                have HT2 : Hid (plTo Sk (beh.take (j + 1)) = Sj) := by show _ = _; rw [HTk.out, plOne_in hmem]
                generalize Sj.idxOf (p, q) = ix at *
                have hix : ¬ (ix : Int) < 0 := by omega
                obtain ⟨hown6, hba6, HA6⟩ := HPu.out wc Sj _ (ix : Int) hR5
                clear hR5 HRb HRc HPu hsa hsp
                go_wp2_with (first | (at_builtin; refine wpList_append_lies _ rfl (.tmp 87) (.tmp 89) 40 rfl w4.heap.size 3 j0 _ 1 8 Tryz.underlying40 hj jz0 jz1 jz2 rfl (by decide) (.slice uo j uc) j (ivals xj) rfl hown6 ⟨wc.heap.size, 0, none⟩ 1 1 [.int .i64 (ix : Int)] rfl rfl (cell_one_new _ _ _) (by intro u hu; simp at hu; subst hu; rfl) (by decide) (by unfold maxLen; omega) (by omega) hba6 _ rfl ?_; intro g9 cap9 w9 hown hgrow hat hlt9; have HR9 := (show Hid _ from HA6.out g9 cap9 w9 hown hgrow); clear hown hgrow hat))
                go_roundw
                case rel => exact ⟨j + 1, pj, by omega, by go_num, by omega, by rw [HT2.out]; exact HPj.out, some ⟨g9, 0, none⟩, cap9, vo2, vc2, rfl, by rw [HT2.out, HIk.out, HV.out]; exact HR9.out⟩
                case measure => simp [intOf]; omega
              · have hsp : spAt Sj (p, q) = -1 := by unfold spAt; rw [if_neg hmem]
                rw [hsp]
                have HV : Hid ((plTo Sk beh).idxOf (p, q) = pj) := by show _ = _; rw [HDk.out, plOne_idx hmem, HPj.out]
                have HT2 : Hid (plTo Sk (beh.take (j + 1)) = Sj ++ [(p, q)]) := by show _ = _; rw [HTk.out, plOne_out hmem]
                obtain ⟨w6, rfl⟩ : ∃ w6, w6 = wc := ⟨_, rfl⟩
                obtain ⟨i0, hi, hz0, hz1, hz2⟩ := info_parts infoSpot
                have hbA : Below w6.heap.size w6 (w6.drew.alloc (.cells #[.int .i64 p, .int .i64 q] 31)) := ((Below.refl _ _).drew).alloc (Nat.le_refl _) _
                have hRA := hR5.below hbA
                have hown9 : World.ownsRow (w6.drew.alloc (.cells #[.int .i64 p, .int .i64 q] 31)) W0.heap.size 31 2 (.slice vo2 pj vc2) pj (flat Sj) := by have := hRA.sp; unfold SpO at this; rw [HPj.out] at this; exact this
                have hbase9 : W0.heap.size ≤ (w6.drew.alloc (.cells #[.int .i64 p, .int .i64 q] 31)).heap.size := Nat.le_trans HD4.out.2.size hRA.chg.size
                have g5A : (w6.drew.alloc (.cells #[.int .i64 p, .int .i64 q] 31)).cell? ⟨G, 0, none⟩ = some (.slice vo2 pj vc2) := (grB_cells hRA.box).1
                have hnews : ∀ j u, [Value.int .i64 p, Value.int .i64 q][j]? = some u → (w6.drew.alloc (.cells #[.int .i64 p, .int .i64 q] 31)).cell? ((⟨w6.heap.size, 0, none⟩ : Addr).add j) = some u := two_new w6.drew _ _ _
                have HApp : Hid (∀ g cap w9, World.ownsRow w9 W0.heap.size 31 2 (.slice (some ⟨g, 0, none⟩) (pj + 1) cap) (pj + 1) (flat Sj ++ [.int .i64 p, .int .i64 q]) → (w6.drew.alloc (.cells #[.int .i64 p, .int .i64 q] 31)).grownBy w9 (Value.slice vo2 pj vc2).ownBlock → ((Value.slice vo2 pj vc2).ownBlock = some g ∨ g = (w6.drew.alloc (.cells #[.int .i64 p, .int .i64 q] 31)).heap.size) → (w9.cell? ⟨G, 0, none⟩ = some (.slice vo2 pj vc2) ∧ w9.frozen? ⟨G, 0, none⟩ = false) ∧ RnB w4 (w9.setCell ⟨G, 0, none⟩ (.slice (some ⟨g, 0, none⟩) (pj + 1) cap)) W0.heap.size G (Sj ++ [(p, q)]) (.slice (some ⟨b, off, none⟩) pk vc) (.slice (some ⟨g, 0, none⟩) (pj + 1) cap) nv tv (bn : Nat) (an : Nat) (.slice uo j uc) xj) := fun g cap w9 h1 h2 h3 => by
                  refine hRA.app h2 ?_ ?_
                  · unfold SpO
                    rw [flat_append, List.length_append, HPj.out]
                    exact h1
                  · rcases h3 with h | h
                    · exact .inl (by rw [h]; rfl)
                    · exact .inr ⟨g, rfl, by have := hRA.chg.size; omega⟩
                generalize hWA : w6.drew.alloc (.cells #[.int .i64 p, .int .i64 q] 31) = WA at *
                clear hR5 HRb HRc hsa hsp hRA
                go_upto_if 74 with fail
                go_cut [14] (fun u14 wy => u14 = .int .i64 (pj : Nat) ∧ ∃ vo3 vc3, Hid (RnB w4 wy W0.heap.size G (Sj ++ [(p, q)]) (.slice (some ⟨b, off, none⟩) pk vc) (.slice vo3 (pj + 1) vc3) nv tv (bn : Nat) (an : Nat) (.slice uo j uc) xj))
                case first =>
                  go_upto_region 17 with fail
                  go_region_law (first
                    | (refine step_append_lies _ (by rfl) (.tmp 79) (.tmp 84) 32 (by rfl) W0.heap.size 31 i0 _ 2 16 Tryz.underlying32 hi hz0 hz1 hz2 (by rfl) (by decide) (.slice vo2 pj vc2) pj (flat Sj) (by rfl) hown9 ⟨w6.heap.size, 0, none⟩ 1 1 [.int .i64 p, .int .i64 q] (by rfl) (by rfl) hnews (by intro u hu; simp at hu; rcases hu with rfl | rfl <;> rfl) (by decide) (by unfold maxLen; omega) (by omega) hbase9 _ rfl ?_; intro g9 cap9 w9 hown hgrow hat hlt9; obtain ⟨⟨z0, zf⟩, hx9⟩ := HApp.out g9 cap9 w9 hown hgrow hat; have HX9 := (show Hid _ from hx9); clear hx9 hown hgrow hat))
                  all_goals go_wp2_with fail
                  all_goals go_meet
                  all_goals exact ⟨rfl, _, _, HX9⟩
                case rest =>
                  obtain ⟨rfl, vo3, vc3, HR7⟩ := hcut
                  obtain ⟨hown6, hba6, HA6⟩ := HPu.out wc _ _ (pj : Int) HR7.out
                  clear HPu HApp hown9 hbase9 hnews g5 d50 d51 g5A hWA
                  go_wp2_with (first | (at_builtin; refine wpList_append_lies _ rfl (.tmp 87) (.tmp 89) 40 rfl w4.heap.size 3 j0 _ 1 8 Tryz.underlying40 hj jz0 jz1 jz2 rfl (by decide) (.slice uo j uc) j (ivals xj) rfl hown6 ⟨wc.heap.size, 0, none⟩ 1 1 [.int .i64 (pj : Int)] rfl rfl (cell_one_new _ _ _) (by intro u hu; simp at hu; subst hu; rfl) (by decide) (by unfold maxLen; omega) (by omega) hba6 _ rfl ?_; intro g9 cap9 w9 hown hgrow hat hlt9; have HR9 := (show Hid _ from HA6.out g9 cap9 w9 hown hgrow); clear hown hgrow hat))
                  go_roundw
                  case rel => exact ⟨j + 1, pj + 1, by omega, by go_num, by omega, by rw [HT2.out, List.length_append, HPj.out]; rfl, some ⟨g9, 0, none⟩, cap9, vo3, vc3, rfl, by rw [HT2.out, HIk.out, HV.out]; exact HR9.out⟩
                  case measure => simp [intOf]; omega
          · obtain rfl : j = bhn := by omega
            have HT3 : Hid (beh.take j = beh ∧ (plIx Sk beh).take j = plIx Sk beh) := ⟨List.take_of_length_le (by rw [HBn.out]; exact Nat.le_refl _), List.take_of_length_le (by rw [HIx.out]; exact Nat.le_refl _)⟩
            have hR8 := HR.out
            have hP8 := HPj.out
            rw [HT3.out.1] at hP8
            rw [HT3.out.1, HT3.out.2] at hR8
            have hD8 := HD4.out.1.put hR8.chg hR8.box hR8.sp
            have hb08 : Below W0.heap.size W0 wr := HD4.out.2.trans (hR8.chg.below (fun i z => by
              rcases z with rfl | z
              · exact HD4.out.1.bG
              · exact (owns_ty HD4.out.1.sp z).1) HD4.out.2.size)
            have HRow : Hid (IntsV wr (.slice uo j uc) (plIx Sk beh) ∧ RowTy wr (.slice uo j uc) 3 ∧ ∀ a, uo = some a → tv.ownBlock ≠ some a.block ∧ W0.heap.size ≤ a.block) := ⟨intsV_of_owns hR8.row, RowTy.owns hR8.row, fun a e => by
              have hge := owns_ge hR8.row a _ _ (by rw [e])
              have h0 := HD4.out.2.size
              refine ⟨fun e2 => ?_, by omega⟩
              have := (owns_ty HD4.out.1.st e2).2.lt
              omega⟩
            have HPn1 : Hid (xpP m ps l (k + 1) = plTo Sk beh ∧ (plTo Sk beh).length = pj) := ⟨HE1.out.1, hP8⟩
            have HD8 : Hid (DgX wr W0.heap.size G (plTo Sk beh) Nk Tk (bn : Nat) (an : Nat) (.slice vo2 pj vc2) nv tv ∧ Below W0.heap.size W0 wr) := ⟨hD8, hb08⟩
            have g8 := (grB_cells hR8.box).1
            clear hR8 HR HLs
            by_cases hfull : 20000 < pj
            · have hfi : (20000 : Int) < (pj : Int) := by omega
              obtain ⟨⟨x0, x1, x2, x3, x4⟩, xf, _, hbw⟩ := HFin.out wr hb08
              have f0 := xf 0
              have f1 := xf 1
              have f2 := xf 2
              have f3 := xf 3
              have f4 := xf 4
              have HFu : Hid (ExFull m ps l) := ⟨k, fun j hj => HKn.out.2 j (by omega), by rw [HPn1.out.1, HPn1.out.2]; exact hfull⟩
              clear HD8 hD8 HRow HLt2 HMt2
              go_wp2_with fail
              have hbF : Below w.heap.size w (((((wr.setCell ⟨w.heap.size + 1, 0, none⟩ (.slice none 0 0)).setCell ⟨w.heap.size + 1, 1, none⟩ (.int .i64 0)).setCell ⟨w.heap.size + 1, 2, none⟩ (.slice none 0 0)).setCell ⟨w.heap.size + 1, 3, none⟩ (.slice none 0 0)).setCell ⟨w.heap.size + 1, 4, none⟩ (.int .i64 0)) := hbw.trans ((chg_box wr (w.heap.size + 1) _ _ _ _ _).below (fun i e => by omega) (by have := hbw.size; omega))
              refine bodyPost_ret (v := .tuple #[.agg #[.slice none 0 0, .int .i64 0, .slice none 0 0, .slice none 0 0, .int .i64 0], .int .i64 12]) ?_ rfl (.inr (.inl ⟨HK.out, HFu.out, rfl, hbF⟩))
              simp [results, Tryz.results10, go_sem, x0, x1, x2, x3, x4]
            · have hfi : ¬ (20000 : Int) < (pj : Int) := by omega
              have hkj : k < (plTo Sk beh).length := Nat.lt_of_lt_of_le (by rw [HSk0.out]; exact hlt) (plTo_pre beh Sk).length_le
              have hget : (plTo Sk beh).getD k (0, 0) = (x, y) := by
                obtain ⟨R, hR⟩ := plTo_pre beh Sk
                rw [← hR, List.getD_eq_getElem?_getD, List.getElem?_append_left (by rw [HSk0.out]; exact hlt), ← List.getD_eq_getElem?_getD]
                exact HAt.out
              obtain ⟨b2, off2, rfl, hbb2, c20, c21⟩ := hD8.sp.v.get hkj
              rw [hget] at c20 c21
              simp only at c20 c21
              have hki2 : (k : Int) < (pj : Int) := by rw [HPn1.out.2] at hkj; omega
              have hlet := HLt2.out wr.drew hb08.drew
              have HF21 : Hid (∀ w1, Below wr.heap.size wr w1 → (w1.cell? ⟨w.heap.size, 0, none⟩ = some (.slice ao vn ac) ∧ w1.cell? ⟨w.heap.size, 1, none⟩ = some (.slice ro rn rc) ∧ w1.cell? ⟨w.heap.size, 2, none⟩ = some (.slice po pn pc) ∧ w1.cell? ⟨w.heap.size, 3, none⟩ = some (.slice fo fn fc)) ∧ w1.cell? ⟨G, 0, none⟩ = some (.slice (some ⟨b2, off2, none⟩) pj vc2) ∧ w1.cell? ⟨b2, off2 + k * 2, none⟩ = some (.int .i64 x) ∧ w1.cell? ⟨b2, off2 + k * 2 + 1, none⟩ = some (.int .i64 y)) := fun w1 h => ⟨HF10.out w1 (HD8.out.2.trans (h.mono HD8.out.2.size)), (h.cell (p := ⟨G, 0, none⟩) HD8.out.1.lt).trans g8, (h.cell (p := ⟨b2, off2 + k * 2, none⟩) hbb2).trans c20, (h.cell (p := ⟨b2, off2 + k * 2 + 1, none⟩) hbb2).trans c21⟩
              have hB0 : Below wr.heap.size wr wr := Below.refl _ _
              clear hD8 hget hkj c20 c21 HLt2
              go_upto_region 21 with fail
              go_cut [15] (fun u15 wy => ∃ lo ln lc, u15 = .slice lo ln lc ∧ Below wr.heap.size wr wy ∧ Hid (BoolsV wy (.slice lo ln lc) ltr))
              case first =>
                go_region_held3 (fun w' => (w'.cell? ⟨w.heap.size, 0, none⟩ = some (.slice ao vn ac) ∧ w'.cell? ⟨w.heap.size, 1, none⟩ = some (.slice ro rn rc) ∧ w'.cell? ⟨w.heap.size, 2, none⟩ = some (.slice po pn pc) ∧ w'.cell? ⟨w.heap.size, 3, none⟩ = some (.slice fo fn fc)) ∧ w'.cell? ⟨G, 0, none⟩ = some (.slice (some ⟨b2, off2, none⟩) pj vc2) ∧ w'.cell? ⟨b2, off2 + k * 2, none⟩ = some (.int .i64 x) ∧ w'.cell? ⟨b2, off2 + k * 2 + 1, none⟩ = some (.int .i64 y))
                  (first | exact HF21.out _ hb9 | exact HF21.out _ hB0.drew | exact HF21.out _ hB0)
                  (first | (go_at_call 23; refine hlet.mono ?_; rintro e w9 ⟨lo, ln, lc, ec, rfl, hb9', HBo⟩; have hb9 := hB0.drew.trans (hb9'.mono hB0.drew.size)))
                go_wp2_with fail
                go_meet
                exact ⟨lo, ln, lc, rfl, hb9, HBo⟩
              case rest =>
                obtain ⟨lo, ln, lc, rfl, hb9, HBo⟩ := hcut
                obtain ⟨w9, rfl⟩ : ∃ w9, w9 = wc := ⟨_, rfl⟩
                have hb09 : Below W0.heap.size W0 w9 := HD8.out.2.trans (hb9.mono HD8.out.2.size)
                have hbd : Below w9.heap.size w9 w9.drew := (Below.refl _ _).drew
                have hmet := HMt2.out w9.drew (.slice lo ln lc) hb09.drew (HBo.out.below hbd)
                have HF22 : Hid (∀ w1, Below w9.heap.size w9 w1 → (w1.cell? ⟨w.heap.size, 0, none⟩ = some (.slice ao vn ac) ∧ w1.cell? ⟨w.heap.size, 1, none⟩ = some (.slice ro rn rc) ∧ w1.cell? ⟨w.heap.size, 2, none⟩ = some (.slice po pn pc) ∧ w1.cell? ⟨w.heap.size, 3, none⟩ = some (.slice fo fn fc)) ∧ w1.cell? ⟨G, 0, none⟩ = some (.slice (some ⟨b2, off2, none⟩) pj vc2) ∧ w1.cell? ⟨b2, off2 + k * 2, none⟩ = some (.int .i64 x) ∧ w1.cell? ⟨b2, off2 + k * 2 + 1, none⟩ = some (.int .i64 y)) := fun w1 h => HF21.out w1 (hb9.trans (h.mono hb9.size))
                have hB9 : Below w9.heap.size w9 w9 := Below.refl _ _
                clear hlet HF21 HMt2
                go_upto_region 22 with fail
                go_cut [17] (fun u17 wy => u17 = .int .i64 mt ∧ Below w9.heap.size w9 wy)
                case first =>
                  go_region_held3 (fun w' => (w'.cell? ⟨w.heap.size, 0, none⟩ = some (.slice ao vn ac) ∧ w'.cell? ⟨w.heap.size, 1, none⟩ = some (.slice ro rn rc) ∧ w'.cell? ⟨w.heap.size, 2, none⟩ = some (.slice po pn pc) ∧ w'.cell? ⟨w.heap.size, 3, none⟩ = some (.slice fo fn fc)) ∧ w'.cell? ⟨G, 0, none⟩ = some (.slice (some ⟨b2, off2, none⟩) pj vc2) ∧ w'.cell? ⟨b2, off2 + k * 2, none⟩ = some (.int .i64 x) ∧ w'.cell? ⟨b2, off2 + k * 2 + 1, none⟩ = some (.int .i64 y))
                    (first | exact HF22.out _ hb10 | exact HF22.out _ hB9.drew | exact HF22.out _ hB9)
                    (first | (go_at_call 32; refine hmet.mono ?_; rintro e w10 ⟨ec, rfl, hb10'⟩; have hb10 := hB9.drew.trans (hb10'.mono hB9.drew.size)))
                  go_wp2_with fail
                  go_meet
                  exact ⟨rfl, hb10⟩
                case rest =>
                  obtain ⟨rfl, hb10⟩ := hcut
                  obtain ⟨w10, rfl⟩ : ∃ w10, w10 = wc := ⟨_, rfl⟩
                  have hb8 : Below wr.heap.size wr w10 := hb9.trans (hb10.mono hb9.size)
                  have hb010 : Below W0.heap.size W0 w10 := HD8.out.2.trans (hb8.mono HD8.out.2.size)
                  have hbA : Below w10.heap.size w10 (w10.alloc (.cells #[.slice uo j uc] 40)) := (Below.refl _ _).alloc (Nat.le_refl _) _
                  have hD10 := HD8.out.1.below hb8
                  have hDA := hD10.below hbA
                  obtain ⟨us, hus⟩ := id hDA.nx
                  obtain ⟨no, nc, rfl⟩ := owns_slice hus.1
                  have a2 := (grB_cells hD10.box).2.2.1
                  have hown23 := hus.1
                  have hba23 := hDA.base_le
                  obtain ⟨i0, hi, hz0, hz1, hz2⟩ := info_parts infoIL
                  obtain ⟨j0, hj, jz0, jz1, jz2⟩ := info_parts infoInt
                  have hNl := HNl.out.1
                  have hTl := HNl.out.2
                  rw [hNl] at hown23 a2
                  have HA23 : Hid (∀ g cap w11, World.ownsRow w11 W0.heap.size 40 1 (.slice (some ⟨g, 0, none⟩) (k + 1) cap) (k + 1) (us ++ [.slice uo j uc]) → (w10.alloc (.cells #[.slice uo j uc] 40)).grownBy w11 (Value.slice no k nc).ownBlock → (w11.cell? ⟨G, 2, none⟩ = some (.slice no k nc) ∧ w11.frozen? ⟨G, 2, none⟩ = false) ∧ Hid (DgX (w11.setCell ⟨G, 2, none⟩ (.slice (some ⟨g, 0, none⟩) (k + 1) cap)) W0.heap.size G (plTo Sk beh) (Nk ++ [plIx Sk beh]) Tk (bn : Nat) (an : Nat) (.slice (some ⟨b2, off2, none⟩) pj vc2) (.slice (some ⟨g, 0, none⟩) (k + 1) cap) tv ∧ Below W0.heap.size W0 (w11.setCell ⟨G, 2, none⟩ (.slice (some ⟨g, 0, none⟩) (k + 1) cap)))) := fun g cap w11 h1 h2 => by
                    rw [hNl] at hDA hus
                    have hbx : w11.heap[G]? = some (grB (.slice (some ⟨b2, off2, none⟩) pj vc2) (.slice no k nc) tv (bn : Nat) (an : Nat)) := (h2.block G hDA.lt fun e => by have := hDA.ty.eq (owns_ty hus.1 e.symm).2; exact absurd this (by decide)).trans hDA.box
                    have eI := HIx.out
                    have r1 := (HRow.out.1.below hb8).below hbA
                    have r2 := (HRow.out.2.1.below hb8).below hbA
                    have hap := hDA.appN (r := plIx Sk beh) (ao := uo) (c := uc) (by rw [hNl]; exact hus) (by rw [eI]; exact r1) (by rw [eI]; exact r2) HRow.out.2.2 h2 (by rw [hNl, eI]; exact h1)
                    refine ⟨⟨(grB_cells hbx).2.2.1, grB_free hbx 2⟩, hap, ?_⟩
                    have hb1 : Below W0.heap.size W0 w11 := (hb010.trans (hbA.mono hb010.size)).grown h2 (Nat.le_trans hb010.size hbA.size) (fun q hq => (owns_ty hus.1 hq).1)
                    exact hb1.setCell (p := ⟨G, 2, none⟩) hDA.bG _
                  clear hD10 hDA hus HRow hmet HF22 HBo HD8 HD4 HF10
                  have hkz : k ≤ 20000 := by omega
                  go_upto_region 24 with (first | (at_builtin; refine wpList_append_lies _ rfl (.tmp 124) (.tmp 126) 39 rfl W0.heap.size 40 i0 _ 1 24 Tryz.underlying39 hi hz0 hz1 hz2 rfl (by decide) (.slice no k nc) k us rfl hown23 ⟨w10.heap.size, 0, none⟩ 1 1 [.slice uo j uc] rfl rfl (cell_one_new _ _ _) (by intro u hu; simp at hu; subst hu; rfl) (by decide) (by unfold maxLen; omega) (by omega) hba23 _ rfl ?_; intro g11 cap11 w11 hown hgrow hat hlt9; obtain ⟨⟨z0, zf⟩, HD11⟩ := HA23.out g11 cap11 w11 hown hgrow; clear hown hgrow hat))
                  generalize w11.setCell ⟨G, 2, none⟩ (.slice (some ⟨g11, 0, none⟩) (k + 1) cap11) = w12 at *
                  obtain ⟨xo, xc, rfl⟩ := owns_slice HD11.out.1.st
                  have hbB : Below w12.heap.size w12 (w12.alloc (.cells #[.int .i64 mt] 3)) := (Below.refl _ _).alloc (Nat.le_refl _) _
                  have hDB := HD11.out.1.below hbB
                  have hownT := hDB.st
                  have hbaT := hDB.base_le
                  have a3 := (grB_cells HD11.out.1.box).2.2.2.1
                  rw [hTl] at hownT a3
                  have HA24 : Hid (∀ g cap w13, World.ownsRow w13 W0.heap.size 3 1 (.slice (some ⟨g, 0, none⟩) (k + 1) cap) (k + 1) (ivals Tk ++ [.int .i64 mt]) → (w12.alloc (.cells #[.int .i64 mt] 3)).grownBy w13 (Value.slice xo k xc).ownBlock → ((Value.slice xo k xc).ownBlock = some g ∨ g = (w12.alloc (.cells #[.int .i64 mt] 3)).heap.size) → (w13.cell? ⟨G, 3, none⟩ = some (.slice xo k xc) ∧ w13.frozen? ⟨G, 3, none⟩ = false) ∧ Hid (DgX (w13.setCell ⟨G, 3, none⟩ (.slice (some ⟨g, 0, none⟩) (k + 1) cap)) W0.heap.size G (plTo Sk beh) (Nk ++ [plIx Sk beh]) (Tk ++ [mt]) (bn : Nat) (an : Nat) (.slice (some ⟨b2, off2, none⟩) pj vc2) (.slice (some ⟨g11, 0, none⟩) (k + 1) cap11) (.slice (some ⟨g, 0, none⟩) (k + 1) cap) ∧ Below W0.heap.size W0 (w13.setCell ⟨G, 3, none⟩ (.slice (some ⟨g, 0, none⟩) (k + 1) cap)))) := fun g cap w13 h1 h2 h3 => by
                    have hDB' := hDB
                    rw [hTl] at hDB'
                    have hbx : w13.heap[G]? = some (grB (.slice (some ⟨b2, off2, none⟩) pj vc2) (.slice (some ⟨g11, 0, none⟩) (k + 1) cap11) (.slice xo k xc) (bn : Nat) (an : Nat)) := (h2.block G hDB'.lt fun e => by have := hDB'.ty.eq (owns_ty hDB'.st e.symm).2; exact absurd this (by decide)).trans hDB'.box
                    have hap := hDB'.appT h2 (by rw [hTl]; exact h1) (by
                      rcases h3 with h | h
                      · exact .inl (by rw [h]; rfl)
                      · exact .inr ⟨g, rfl, by omega⟩)
                    refine ⟨⟨(grB_cells hbx).2.2.2.1, grB_free hbx 3⟩, hap, ?_⟩
                    have hb0 := HD11.out.2
                    have hb1 : Below W0.heap.size W0 w13 := (hb0.trans (hbB.mono hb0.size)).grown h2 (Nat.le_trans hb0.size hbB.size) (fun q hq => (owns_ty hDB'.st hq).1)
                    exact hb1.setCell (p := ⟨G, 3, none⟩) hDB'.bG _
                  clear hDB HD11 HA23 hown23 a2 z0 zf
                  go_wp2_with (first | (at_builtin; refine wpList_append_lies _ rfl (.tmp 130) (.tmp 132) 40 rfl W0.heap.size 3 j0 _ 1 8 Tryz.underlying40 hj jz0 jz1 jz2 rfl (by decide) (.slice xo k xc) k (ivals Tk) rfl hownT ⟨w12.heap.size, 0, none⟩ 1 1 [.int .i64 mt] rfl rfl (cell_one_new _ _ _) (by intro u hu; simp at hu; subst hu; rfl) (by decide) (by unfold maxLen; omega) (by omega) hbaT _ rfl ?_; intro g13 cap13 w13 hown hgrow hat hlt9; obtain ⟨⟨z0, zf⟩, HD13⟩ := HA24.out g13 cap13 w13 hown hgrow hat; clear hown hgrow hat))
                  go_roundw
                  case rel =>
                    refine ⟨k + 1, pj, by go_num, by omega, by omega, ⟨by rw [HPn1.out.1]; exact HPn1.out.2, HKn.out⟩, some ⟨b2, off2, none⟩, vc2, .slice (some ⟨g11, 0, none⟩) (k + 1) cap11, .slice (some ⟨g13, 0, none⟩) (k + 1) cap13, ?_⟩
                    rw [HE1.out.1, HE1.out.2.1, HE1.out.2.2]
                    exact HD13.out
                  case measure => simp [intOf]; omega
    · obtain rfl : k = pk := by omega
      obtain ⟨⟨x0, x1, x2, x3, x4⟩, xf, hty, hbw⟩ := HFin.out wr HX.out.2
      have f0 := xf 0
      have f1 := xf 1
      have f2 := xf 2
      have f3 := xf 3
      have f4 := xf 4
      have HDn : Hid (ExDone m ps l k) := ⟨HK2.out.1, hpk, HK2.out.2.2, HK2.out.2.1⟩
      have HG : Hid (GrX wr w.heap.size m ps l k (.slice vo k vc) nv tv) := ⟨owns_mono HX.out.1.sp hbW.size, HX.out.1.nx.mono hbW.size, owns_mono HX.out.1.st hbW.size⟩
      obtain ⟨no, nn, nc, rfl⟩ : ∃ no nn nc, nv = .slice no nn nc := by
        obtain ⟨us, h1, _⟩ := HX.out.1.nx
        obtain ⟨x, y, e⟩ := owns_slice h1
        exact ⟨_, _, _, e⟩
      obtain ⟨xo, xn, xc, rfl⟩ : ∃ xo xn xc, tv = .slice xo xn xc := by
        obtain ⟨x, y, e⟩ := owns_slice HX.out.1.st
        exact ⟨_, _, _, e⟩
      have HBF : Hid (∀ w8, Chg (fun i => i = w.heap.size + 1) wr w8 → Below w.heap.size w w8 ∧ GrX w8 w.heap.size m ps l k (.slice vo k vc) (.slice no nn nc) (.slice xo xn xc)) := fun w8 h => ⟨hbw.trans (h.below (fun i e => by omega) (by have := hbw.size; omega)), HG.out.chg h hty⟩
      clear HX HK2 HG hty HBh HLt HMt HPn
      go_wp2_with fail
      obtain ⟨r1, r2⟩ := HBF.out _ (chg_box wr (w.heap.size + 1) _ _ _ _ _)
      refine bodyPost_ret (v := .tuple #[.agg #[.slice vo k vc, .int .i64 (bn : Nat), .slice no nn nc, .slice xo xn xc, .int .i64 (an : Nat)], .int .i64 0]) ?_ rfl (.inl ⟨HK.out, k, HDn.out, _, _, _, rfl, r1, r2⟩)
      simp [results, Tryz.results10, go_sem, x0, x1, x2, x3, x4]
set_option maxRecDepth 20000 in
/-- THE CONTRACT OF the document's Explored. -/
theorem explored_any (va vr pv fv : Value) (m : Mo) (ps : List (List (Int × Int))) (l : List (Int × Int)) (w : World) (hZ : m.vars.length * 40 ≤ 140737488355328) (hp1 : ps.length * 24 ≤ 140737488355328) (hV : TaskV w va vr pv fv m ps l) :
    Calls Tryz.prog 10 #[.agg #[va, vr, pv, fv]] w (ExAns w m ps l) := by
  by_cases hk : tkcode m ps l = 0
  · exact explored_ok va vr pv fv m ps l w hZ hp1 hV hk
  · exact explored_bad va vr pv fv m ps l w hZ hp1 hV hk
end Go.Proofs.YtihmcoikgkacoaaGreatDoor

/-
  The walk of the law ProductExplores.
-/
namespace Go.Proofs.YtihmcoikgkacoaaGreatDoor
open Go.ChangeShapes Go.WideShapes Go.ChangeAt Go.RowKit Go.Deep Go.Joins
open Terms Tm

set_option maxHeartbeats 1600000 in
set_option maxRecDepth 20000 in
theorem productExplores_walk (va vr pv fv : Value) (m : Mo) (ps : List (List (Int × Int))) (l : List (Int × Int)) (w : World) (hB : 0 < w.heap.size) (hT : TabAt w) (hZ : TkSz m ps l) (hV : TaskV w va vr pv fv m ps l) :
    Calls Tryz.prog 4 #[.agg #[va, vr, pv, fv]] w fun e w' => e = .returned (.bool true) ∧ Below w.heap.size w w' := by
  obtain ⟨ao, ac, rfl⟩ := hV.mo.1.shape
  obtain ⟨ro, rc, rfl⟩ := hV.mo.2.shape
  obtain ⟨po, pc, rfl⟩ := hV.ps.shape
  obtain ⟨fo, fc, rfl, _⟩ := id hV.fo
  obtain ⟨SS, NN, TT, ini, man, code, z1, z2, z3, z4, hform⟩ := ex_form m ps l
  obtain ⟨W1, hW1⟩ : ∃ W1, W1 = w.alloc (.cells #[.slice ao m.vars.length ac, .slice ro m.rules.length rc, .slice po ps.length pc, .slice fo l.length fc] 29) := ⟨_, rfl⟩
  have hb1 : Below w.heap.size w W1 := by rw [hW1]; exact (Below.refl _ _).alloc (Nat.le_refl _) _
  have hz1 : W1.heap.size = w.heap.size + 1 := by rw [hW1]; simp
  have hq1 : W1.cell? ⟨w.heap.size, 0, none⟩ = some (.slice ao m.vars.length ac) ∧ W1.cell? ⟨w.heap.size, 1, none⟩ = some (.slice ro m.rules.length rc) ∧ W1.cell? ⟨w.heap.size, 2, none⟩ = some (.slice po ps.length pc) ∧ W1.cell? ⟨w.heap.size, 3, none⟩ = some (.slice fo l.length fc) := by
    rw [hW1]
    refine ⟨?_, ?_, ?_, ?_⟩ <;> simp [go_sem]
  have htk : Calls Tryz.prog 6 #[.agg #[.slice ao m.vars.length ac, .slice ro m.rules.length rc, .slice po ps.length pc, .slice fo l.length fc]] W1 fun e w' => ∃ ao vn ac ro rn rc po pn pc fo fn fc, e = .returned (.agg #[.slice ao vn ac, .slice ro rn rc, .slice po pn pc, .slice fo fn fc]) ∧ Below W1.heap.size W1 w' ∧ Hid (TaskV w' (.slice ao vn ac) (.slice ro rn rc) (.slice po pn pc) (.slice fo fn fc) m ps l) := tasks_any _ _ _ _ m ps l W1 hZ (hV.below hb1)
  have HCk : Hid (∀ w1 va vr pv fv, Below w.heap.size w w1 → TaskV w1 va vr pv fv m ps l → Calls Tryz.prog 9 #[.agg #[va, vr, pv, fv]] w1 (ExForm w1 SS NN TT ini man code)) := fun w1 va vr pv fv h hv => (explore_any va vr pv fv m ps l w1 (Nat.lt_of_lt_of_le hB h.size) (hT.below h hB) hv).mono fun e w' hx => hform w1 e w' hx
  have HRf : Hid (∀ w1, Below w.heap.size w w1 → Calls Tryz.prog 10 #[.agg #[.slice ao m.vars.length ac, .slice ro m.rules.length rc, .slice po ps.length pc, .slice fo l.length fc]] w1 (ExForm w1 SS NN TT ini man code)) := fun w1 h => (explored_any _ _ _ _ m ps l w1 hZ.mo.1 hZ.p1 (hV.below h)).mono fun e w' hx => hform w1 e w' hx
  have HSm : Hid (∀ (w1 : World) (so no xo so' no' xo' : Option Addr) (sc nc xc sc' nc' xc' : Nat), (SpV w1 (.slice so SS.length sc) SS ∧ LsR w1 (.slice no NN.length nc) NN ∧ IntsV w1 (.slice xo TT.length xc) TT) → (SpV w1 (.slice so' SS.length sc') SS ∧ LsR w1 (.slice no' NN.length nc') NN ∧ IntsV w1 (.slice xo' TT.length xc') TT) → Calls Tryz.prog 11 #[.agg #[.slice so SS.length sc, .int .i64 ini, .slice no NN.length nc, .slice xo TT.length xc, .int .i64 man], .agg #[.slice so' SS.length sc', .int .i64 ini, .slice no' NN.length nc', .slice xo' TT.length xc', .int .i64 man]] w1 fun e w' => e = .returned (.bool true) ∧ Below w1.heap.size w1 w') := fun w1 so no xo so' no' xo' sc nc xc sc' nc' xc' h1 h2 => sameGraph_true so no xo so' no' xo' sc nc xc sc' nc' xc' SS NN TT ini man w1 z1 z2 z3 z4 h1 h2
  have HSt : Hid (∀ (w1 : World) (va vr pv fv : Value), Below w.heap.size w w1 → TaskV w1 va vr pv fv m ps l → Calls Tryz.prog 12 #[.agg #[va, vr, pv, fv], .agg #[.slice ao m.vars.length ac, .slice ro m.rules.length rc, .slice po ps.length pc, .slice fo l.length fc]] w1 fun e w' => e = .returned (.bool true) ∧ Below w1.heap.size w1 w') := fun w1 va vr pv fv h hv => sameTask_b va vr pv fv _ _ _ _ m ps l w1 hZ hv (hV.below h)
  have HQ1 : Hid (∀ w1, Below W1.heap.size W1 w1 → w1.cell? ⟨w.heap.size, 0, none⟩ = some (.slice ao m.vars.length ac) ∧ w1.cell? ⟨w.heap.size, 1, none⟩ = some (.slice ro m.rules.length rc) ∧ w1.cell? ⟨w.heap.size, 2, none⟩ = some (.slice po ps.length pc) ∧ w1.cell? ⟨w.heap.size, 3, none⟩ = some (.slice fo l.length fc)) := fun w1 h => by
    have hlt : w.heap.size < W1.heap.size := by omega
    obtain ⟨a, b, c, d⟩ := hq1
    exact ⟨(h.cell (p := ⟨w.heap.size, 0, none⟩) hlt).trans a, (h.cell (p := ⟨w.heap.size, 1, none⟩) hlt).trans b, (h.cell (p := ⟨w.heap.size, 2, none⟩) hlt).trans c, (h.cell (p := ⟨w.heap.size, 3, none⟩) hlt).trans d⟩
  unfold ExForm at HCk HRf
  clear hform z1 z2 z3 z4
  generalize SS.length = sn at *
  generalize NN.length = nn at *
  generalize TT.length = xn at *
  generalize m.vars.length = vn at *
  generalize m.rules.length = rn at *
  generalize ps.length = pn at *
  generalize l.length = fn at *
  clear hV hZ hT hq1
  go_enter Tryz.func4, Tryz.ntmps4
  go_upto_region 2 with (first | (go_at_call 6; rw [← hW1]; refine htk.mono ?_; rintro e w2 ⟨a1, n1, c1, a2, n2, c2, a3, n3, c3, a4, n4, c4, rfl, hb2, HV2⟩))
  have hbA : Below w2.heap.size w2 (w2.alloc (.cells #[.slice a1 n1 c1, .slice a2 n2 c2, .slice a3 n3 c3, .slice a4 n4 c4] 29)) := (Below.refl _ _).alloc (Nat.le_refl _) _
  have hb12 : Below W1.heap.size W1 (w2.alloc (.cells #[.slice a1 n1 c1, .slice a2 n2 c2, .slice a3 n3 c3, .slice a4 n4 c4] 29)) := hb2.trans (hbA.mono hb2.size)
  have hbw2 := hb1.trans (hb12.mono hb1.size)
  have HV3 : Hid (TaskV (w2.alloc (.cells #[.slice a1 n1 c1, .slice a2 n2 c2, .slice a3 n3 c3, .slice a4 n4 c4] 29)) (.slice a1 n1 c1) (.slice a2 n2 c2) (.slice a3 n3 c3) (.slice a4 n4 c4) m ps l) := HV2.out.below hbA
  have hp3 : (w2.alloc (.cells #[.slice a1 n1 c1, .slice a2 n2 c2, .slice a3 n3 c3, .slice a4 n4 c4] 29)).cell? ⟨w2.heap.size, 0, none⟩ = some (.slice a1 n1 c1) ∧ (w2.alloc (.cells #[.slice a1 n1 c1, .slice a2 n2 c2, .slice a3 n3 c3, .slice a4 n4 c4] 29)).cell? ⟨w2.heap.size, 1, none⟩ = some (.slice a2 n2 c2) ∧ (w2.alloc (.cells #[.slice a1 n1 c1, .slice a2 n2 c2, .slice a3 n3 c3, .slice a4 n4 c4] 29)).cell? ⟨w2.heap.size, 2, none⟩ = some (.slice a3 n3 c3) ∧ (w2.alloc (.cells #[.slice a1 n1 c1, .slice a2 n2 c2, .slice a3 n3 c3, .slice a4 n4 c4] 29)).cell? ⟨w2.heap.size, 3, none⟩ = some (.slice a4 n4 c4) := by
    refine ⟨?_, ?_, ?_, ?_⟩ <;> simp [go_sem]
  have hz3 : w2.heap.size < (w2.alloc (.cells #[.slice a1 n1 c1, .slice a2 n2 c2, .slice a3 n3 c3, .slice a4 n4 c4] 29)).heap.size := by simp
  generalize w2.alloc (.cells #[.slice a1 n1 c1, .slice a2 n2 c2, .slice a3 n3 c3, .slice a4 n4 c4] 29) = W3 at *
  generalize w2.heap.size = X2 at *
  have HP3 : Hid (∀ w1, Below W3.heap.size W3 w1 → w1.cell? ⟨X2, 0, none⟩ = some (.slice a1 n1 c1) ∧ w1.cell? ⟨X2, 1, none⟩ = some (.slice a2 n2 c2) ∧ w1.cell? ⟨X2, 2, none⟩ = some (.slice a3 n3 c3) ∧ w1.cell? ⟨X2, 3, none⟩ = some (.slice a4 n4 c4)) := fun w1 h => by
    obtain ⟨a, b, c, d⟩ := hp3
    exact ⟨(h.cell (p := ⟨X2, 0, none⟩) hz3).trans a, (h.cell (p := ⟨X2, 1, none⟩) hz3).trans b, (h.cell (p := ⟨X2, 2, none⟩) hz3).trans c, (h.cell (p := ⟨X2, 3, none⟩) hz3).trans d⟩
  obtain ⟨p0, p1, p2, p3⟩ := id hp3
  have hck := HCk.out W3 _ _ _ _ hbw2 HV3.out
  clear hp3 htk HCk HV2
  go_upto_region 3 with (first | (go_at_call 9; refine hck.mono ?_; rintro e w4 ⟨so, sc, no, nc, xo, xc, rfl, hb4, HG4⟩))
  have hbB : Below w4.heap.size w4 (w4.alloc (.cells #[.slice so sn sc, .int .i64 ini, .slice no nn nc, .slice xo xn xc, .int .i64 man] 42)) := (Below.refl _ _).alloc (Nat.le_refl _) _
  have hb34 : Below W3.heap.size W3 (w4.alloc (.cells #[.slice so sn sc, .int .i64 ini, .slice no nn nc, .slice xo xn xc, .int .i64 man] 42)) := hb4.trans (hbB.mono hb4.size)
  have hbx5 : (w4.alloc (.cells #[.slice so sn sc, .int .i64 ini, .slice no nn nc, .slice xo xn xc, .int .i64 man] 42)).heap[w4.heap.size]? = some (grB (.slice so sn sc) (.slice no nn nc) (.slice xo xn xc) ini man) := (MapKept.heap_alloc w4 _).1
  have HG5 : Hid (SpV (w4.alloc (.cells #[.slice so sn sc, .int .i64 ini, .slice no nn nc, .slice xo xn xc, .int .i64 man] 42)) (.slice so sn sc) SS ∧ LsR (w4.alloc (.cells #[.slice so sn sc, .int .i64 ini, .slice no nn nc, .slice xo xn xc, .int .i64 man] 42)) (.slice no nn nc) NN ∧ IntsV (w4.alloc (.cells #[.slice so sn sc, .int .i64 ini, .slice no nn nc, .slice xo xn xc, .int .i64 man] 42)) (.slice xo xn xc) TT) := ⟨HG4.out.1.below hbB, HG4.out.2.1.below hbB, HG4.out.2.2.below hbB⟩
  generalize w4.alloc (.cells #[.slice so sn sc, .int .i64 ini, .slice no nn nc, .slice xo xn xc, .int .i64 man] 42) = W5 at *
  generalize w4.heap.size = X4 at *
  have hb15 := hb12.trans (hb34.mono hb12.size)
  have hbw5 := hb1.trans (hb15.mono hb1.size)
  obtain ⟨q0, q1, q2, q3⟩ := HQ1.out W5 hb15
  have hrf := HRf.out W5 hbw5
  clear hck HRf HG4 p0 p1 p2 p3
  go_upto_region 4 with (first | (go_at_call 10; refine hrf.mono ?_; rintro e w6 ⟨so', sc', no', nc', xo', xc', rfl, hb6, HG6⟩))
  have hbC : Below w6.heap.size w6 (w6.alloc (.cells #[.slice so' sn sc', .int .i64 ini, .slice no' nn nc', .slice xo' xn xc', .int .i64 man] 42)) := (Below.refl _ _).alloc (Nat.le_refl _) _
  have hb56 : Below W5.heap.size W5 (w6.alloc (.cells #[.slice so' sn sc', .int .i64 ini, .slice no' nn nc', .slice xo' xn xc', .int .i64 man] 42)) := hb6.trans (hbC.mono hb6.size)
  have hbx7 : (w6.alloc (.cells #[.slice so' sn sc', .int .i64 ini, .slice no' nn nc', .slice xo' xn xc', .int .i64 man] 42)).heap[w6.heap.size]? = some (grB (.slice so' sn sc') (.slice no' nn nc') (.slice xo' xn xc') ini man) := (MapKept.heap_alloc w6 _).1
  have hbx57 := (hb56.block X4 (Array.getElem?_eq_some_iff.1 hbx5).1).trans hbx5
  have hsm := HSm.out (w6.alloc (.cells #[.slice so' sn sc', .int .i64 ini, .slice no' nn nc', .slice xo' xn xc', .int .i64 man] 42)) so no xo so' no' xo' sc nc xc sc' nc' xc' ⟨HG5.out.1.below hb56, HG5.out.2.1.below hb56, HG5.out.2.2.below hb56⟩ ⟨HG6.out.1.below hbC, HG6.out.2.1.below hbC, HG6.out.2.2.below hbC⟩
  generalize w6.alloc (.cells #[.slice so' sn sc', .int .i64 ini, .slice no' nn nc', .slice xo' xn xc', .int .i64 man] 42) = W7 at *
  generalize w6.heap.size = X6 at *
  obtain ⟨r0, r1, r2, r3, r4⟩ := grB_cells hbx57
  obtain ⟨s0, s1, s2, s3, s4⟩ := grB_cells hbx7
  have hb17 := hb15.trans (hb56.mono hb15.size)
  have hb37 := hb34.trans (hb56.mono hb34.size)
  have hbw7 := hb1.trans (hb17.mono hb1.size)
  have HSt7 : Hid (∀ w8, Below W7.heap.size W7 w8 → (w8.cell? ⟨w.heap.size, 0, none⟩ = some (.slice ao vn ac) ∧ w8.cell? ⟨w.heap.size, 1, none⟩ = some (.slice ro rn rc) ∧ w8.cell? ⟨w.heap.size, 2, none⟩ = some (.slice po pn pc) ∧ w8.cell? ⟨w.heap.size, 3, none⟩ = some (.slice fo fn fc)) ∧ (w8.cell? ⟨X2, 0, none⟩ = some (.slice a1 n1 c1) ∧ w8.cell? ⟨X2, 1, none⟩ = some (.slice a2 n2 c2) ∧ w8.cell? ⟨X2, 2, none⟩ = some (.slice a3 n3 c3) ∧ w8.cell? ⟨X2, 3, none⟩ = some (.slice a4 n4 c4)) ∧ Calls Tryz.prog 12 #[.agg #[.slice a1 n1 c1, .slice a2 n2 c2, .slice a3 n3 c3, .slice a4 n4 c4], .agg #[.slice ao vn ac, .slice ro rn rc, .slice po pn pc, .slice fo fn fc]] w8 fun e w' => e = .returned (.bool true) ∧ Below w.heap.size w w') := fun w8 h => by
    have h18 := hb17.trans (h.mono hb17.size)
    have h38 := hb37.trans (h.mono hb37.size)
    have hw8 := hbw7.trans (h.mono hbw7.size)
    exact ⟨HQ1.out w8 h18, HP3.out w8 h38, (HSt.out w8 _ _ _ _ hw8 (HV3.out.below h38)).mono fun e w' ⟨g1, g2⟩ => ⟨g1, hw8.trans (g2.mono hw8.size)⟩⟩
  clear HSm HSt HQ1 HP3 HG5 HG6 hrf q0 q1 q2 q3 HV3
  go_wp2_with (first
    | (go_at_call 11; refine hsm.mono ?_; rintro e w8 ⟨rfl, hb8⟩; obtain ⟨⟨u0, u1, u2, u3⟩, ⟨v0, v1, v2, v3⟩, hst⟩ := HSt7.out w8 hb8)
    | (go_at_call 12; refine hst.mono ?_; rintro e w9 ⟨rfl, hb9⟩))
  go_ret
  exact ⟨by first | rfl | simp, hb9⟩
end Go.Proofs.YtihmcoikgkacoaaGreatDoor
