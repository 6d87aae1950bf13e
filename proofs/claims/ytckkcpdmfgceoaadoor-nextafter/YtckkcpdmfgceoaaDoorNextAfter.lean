/-
  Proved: foretellkeep.NextAfter answers true at every design and every number (what comes next is what comes behind the rules, or the state itself where none can be done), given that the table polish.partCounts reads as its initialiser lays it, which the card ties to the program's text. No other condition.
-/
import Derived.Test.YtckkcpdmfgceoaaDoorCards
import Derived.Test.YtckkcpdmfgceoaaDoorTie
import Derived.Test.YtckkcpdmfgceoaaDoorRow
import Derived.Test.YtckkcpdmfgceoaaDoorKeepDesign
import Derived.Test.YtckkcpdmfgceoaaDoorLate
import Derived.Deep.AppendLies
import Derived.Deep.RegionHeld3
namespace Go.Proofs.YtckkcpdmfgceoaaDoor
open Go.ChangeShapes Go.WideShapes Go.ChangeAt Go.RowKit Go.Deep
open Terms Tm

set_option maxHeartbeats 3200000 in
set_option maxRecDepth 20000 in
theorem nextAfter_walk (c0 c1 c2 c3 c4 c5 c6 : Value) (a b : Vr) (code : Int) (w : World) (hB : 0 < w.heap.size) (hT : TabAt w) (hG : GV a b) (hc : I64 code)
    (hmd : ∀ w', Below w.heap.size w w' → Calls Tryd.prog 9 #[.agg #[c0, c1, c2, c3, c4, c5, c6]] w' fun e w2 => ∃ va vr, e = .returned (.agg #[va, vr]) ∧ Below w'.heap.size w' w2 ∧ GModel w2 va vr [a, b]) :
    Calls Tryd.prog 4 #[.agg #[c0, c1, c2, c3, c4, c5, c6], .int .i64 code] w fun e w' => e = .returned (.bool true) ∧ Below w.heap.size w w' := by
  have HT : Hid (∀ w', Below w.heap.size w w' → 0 < w'.heap.size ∧ TabAt w') := fun w' hb => ⟨Nat.lt_of_lt_of_le hB hb.size, hT.below hb hB⟩
  have hA : ∀ o, Below w.heap.size w (w.alloc o) := fun o => (Below.refl _ _).alloc (Nat.le_refl _) o
  clear hB hT
  go_enter Tryd.func4, Tryd.ntmps4
  go_wp2_with (go_at_call 9; refine (hmd _ (hA _)).mono ?_; rintro e w1 ⟨va, vr, rfl, hb1, hM⟩; obtain ⟨ao, cap, ro, rn, rc, rfl, rfl, hrn⟩ := hM.shape)
  obtain ⟨hbW, hk⟩ := kept (a := a) (b := b) (t := 29) HT.out ((hA _).trans (hb1.mono (hA _).size)) hM rfl
  generalize w1.alloc (.cells #[.slice ao 2 cap, .slice ro rn rc] 29) = W2 at hbW hk ⊢
  have HK : Hid (∀ w', Below W2.heap.size W2 w' → (0 < w'.heap.size ∧ TabAt w' ∧ GModel w' (.slice ao 2 cap) (.slice ro rn rc) [a, b]) ∧ w'.cell? ⟨w1.heap.size, 0, none⟩ = some (.slice ao 2 cap) ∧ w'.cell? ⟨w1.heap.size, 1, none⟩ = some (.slice ro rn rc)) := hk
  have HBW : Hid (Below w.heap.size w W2) := hbW
  obtain ⟨⟨z0, z1, z2⟩, z3, z4⟩ := hk W2 (Below.refl _ _)
  have hcn := kcount hG z0 z1 z2
  have hP := hG.prod
  have hpk := fun w => picked_is code (vspan a * vspan b) w hc (by omega) (by omega)
  have hpr := pk_range (n := code) (m := vspan a * vspan b) (by omega)
  generalize pk code (vspan a * vspan b) = c at hpk hpr
  obtain ⟨rules, g1, g2, g3⟩ := z2
  obtain ⟨hru, _⟩ : rn = rules.length ∧ True := by
    obtain ⟨ao', cap', e, _⟩ := g1.2
    injection e with _ e2 _
    exact ⟨e2, trivial⟩
  have HRN : Hid (rn = rules.length) := hru
  have hw0 := gwcode hG (by omega) g3 hpr
  have HMV : Hid (∀ w', Below W2.heap.size W2 w' → ModelV w' (.slice ao 2 cap) (.slice ro rn rc) ⟨[a, b], rules⟩) := fun w' hb => g1.below hb
  have hnx := fun w' (hb : Below W2.heap.size W2 w') => next_any _ _ ⟨[a, b], rules⟩ c w' (hk w' hb).1.1 (hk w' hb).1.2.1 (g1.below hb)
  have hnl : nxtL ⟨[a, b], rules⟩ c = upL (rawL ⟨[a, b], rules⟩ c) := by unfold nxtL nextL; rw [if_pos hw0]
  rw [hw0, hnl] at hnx
  have HAf : Hid (∀ w' (_ : Below W2.heap.size W2 w') (k : Nat), k < rn → Calls Tryd.prog 13 #[.agg #[.slice ao 2 cap, .slice ro rn rc], .int .i64 c, .int .i64 k] w' fun e w2 => e = .returned (.tuple #[.int .i64 (optN (ruleDo [a, b] (valsL [a, b] c) (rules.getD k ru0))), .int .i64 (optC (ruleDo [a, b] (valsL [a, b] c) (rules.getD k ru0)))]) ∧ Below w'.heap.size w' w2) := fun w' hb k hk' => by
    have h := after_any _ _ ⟨[a, b], rules⟩ c (k : Int) w' (hk w' hb).1.1 (hk w' hb).1.2.1 (g1.below hb)
    have hin : (0 : Int) ≤ k ∧ (k : Int) < ((⟨[a, b], rules⟩ : Mo).rules.length : Nat) := ⟨by omega, by show (k : Int) < (rules.length : Nat); omega⟩
    unfold aftN aftC at h
    rw [if_pos hw0, if_pos hw0, if_pos hin, if_pos hin, Int.toNat_natCast] at h
    exact h
  have HRaw : Hid (rawL ⟨[a, b], rules⟩ c = if rawTo [a, b] (valsL [a, b] c) rules rn = [] then [c] else rawTo [a, b] (valsL [a, b] c) rules rn) := by show _ = _; rw [hru]; rfl
  have HLen : Hid ((upL (rawL ⟨[a, b], rules⟩ c)).length ≤ 6) := by
    have h1 := upL_length (rawL ⟨[a, b], rules⟩ c)
    have h2 := (rawL_facts hG (rules := rules) hpr).2.2
    show _ ≤ _
    omega
  generalize valsL [a, b] c = env at HAf HRaw
  generalize rawL ⟨[a, b], rules⟩ c = rawl at HRaw HLen hnx
  generalize vspan a * vspan b = N at hP hpk hpr hcn
  obtain ⟨hp1, hp2⟩ := hP
  obtain ⟨i0, hi, hz0, hz1, hz2⟩ := info_parts infoInt
  clear hk hbW hM hb1 hmd hc hG z0 z1 g1 g2 g3 hw0 hnl hru
  go_wp2_with (first | (go_at_call 10; refine hcn.mono ?_; rintro e w3 ⟨rfl, hb3⟩; obtain ⟨k30, k31⟩ := (HK.out w3 hb3).2) | (go_at_call 12; refine (hpk _).mono ?_; rintro e w9 ⟨rfl, rfl⟩) | (go_at_call 11; refine (hnx _ hb3).mono ?_; rintro e w4 ⟨v4, rfl, hb4, hI4⟩; have hb24 := hb3.trans (hb4.mono hb3.size); obtain ⟨k40, k41⟩ := (HK.out w4 hb24).2; obtain ⟨vo, vc, rfl⟩ := hI4.shape))
  obtain ⟨ln, hln⟩ : ∃ ln, ln = (upL rawl).length := ⟨_, rfl⟩
  have HLN : Hid (ln = (upL rawl).length) := hln
  have HI4 : Hid (IntsV w4 (.slice vo ln vc) (upL rawl)) := by rw [hln]; exact hI4
  have HL6 : Hid (ln ≤ 6) := by rw [hln]; exact HLen.out
  rw [← hln]
  have HKr : Hid (∀ w', Below w4.heap.size w4 w' → w'.cell? ⟨w1.heap.size, 0, none⟩ = some (.slice ao 2 cap) ∧ w'.cell? ⟨w1.heap.size, 1, none⟩ = some (.slice ro rn rc)) := fun w' hb => (HK.out w' (hb24.trans (hb.mono hb24.size))).2
  have HB4 : Hid (Below W2.heap.size W2 w4) := hb24
  clear hnx hcn hpk hb3 hb4 hI4 k30 k31 k40 k41 z3 z4 hln HLen hb24
  go_loopw [11, 12] (fun bh i wr => ∃ k : Nat, k ≤ rn ∧ i = .int .i64 k ∧ Hid (wr.ownsRow w4.heap.size 3 1 bh (rawTo [a, b] env rules k).length (ivals (rawTo [a, b] env rules k))) ∧ Hid (Below w4.heap.size w4 wr)) (fun _ i _ => rn - (intOf i).toNat)
  case atStart => exact ⟨0, Nat.zero_le _, rfl, World.ownsRow_nil _ _ _ _, Below.refl _ _⟩
  case round =>
    obtain ⟨k, hk, rfl, HOwn, HBel⟩ := hrel
    have hbel := HBel.out
    have hb2r := HB4.out.trans (hbel.mono HB4.out.size)
    obtain ⟨kr0, kr1⟩ := HKr.out wr hbel
    have hown := HOwn.out
    have hnb := hown.lt
    obtain ⟨oo, oc, rfl⟩ := owns_slice hown
    by_cases hlt : k < rn
    · have haf := HAf.out wr hb2r k hlt
      have hk' : k < rules.length := by rw [← HRN.out]; exact hlt
      cases hres : ruleDo [a, b] env (rules.getD k ru0) with
      | none =>
        rw [hres] at haf
        simp only [optN, optC] at haf
        have HN : Hid (rawTo [a, b] env rules (k + 1) = rawTo [a, b] env rules k) := rawTo_none hk' hres
        have HW4 : Hid (∀ w5, Below wr.heap.size wr w5 → Below w4.heap.size w4 w5 ∧ w5.ownsRow w4.heap.size 3 1 (.slice oo (rawTo [a, b] env rules k).length oc) (rawTo [a, b] env rules k).length (ivals (rawTo [a, b] env rules k))) := fun w5 hb => ⟨hbel.trans (hb.mono hbel.size), owns_later hown hb (Nat.le_refl _)⟩
        clear HAf hres hk' hbel hb2r hown
        go_wp2_with (go_at_call 13; refine haf.mono ?_; rintro e w5 ⟨rfl, hb5⟩; obtain ⟨hb45, ho5⟩ := HW4.out w5 hb5)
        exact ⟨⟨k + 1, hlt, by first | rfl | simp, by rw [HN.out]; exact ho5, hb45⟩, by simp [intOf]; omega⟩
      | some x =>
        rw [hres] at haf
        simp only [optN, optC] at haf
        have HN : Hid (rawTo [a, b] env rules (k + 1) = rawTo [a, b] env rules k ++ [x]) := rawTo_some hk' hres
        have HRl : Hid ((rawTo [a, b] env rules k).length ≤ k) := rawTo_length _ _ _ _
        obtain ⟨L, hL⟩ : ∃ L, L = (rawTo [a, b] env rules k).length := ⟨_, rfl⟩
        have HL : Hid (L = (rawTo [a, b] env rules k).length) := hL
        rw [← hL] at hown hnb HRl ⊢
        have h63 : L + 1 ≤ maxLen := by have := HRl.out; unfold maxLen; omega
        have hkb : (L + 1) * 8 ≤ 140737488355328 := by have := HRl.out; omega
        clear HAf hres hk' hL
        go_wp2_with (first | (go_at_call 13; refine haf.mono ?_; rintro e w5 ⟨rfl, hb5⟩; have hb45 := hbel.trans (hb5.mono hbel.size); have hown5 := fun o => (owns_later hown hb5 (Nat.le_refl _)).alloc o; have hbase : ∀ o, w4.heap.size ≤ (w5.alloc o).heap.size := (fun o => by have := hb45.size; simp; omega)) | (at_builtin; refine wpList_append_own _ rfl (.tmp 55) (.tmp 57) 34 rfl w4.heap.size 3 i0 (.int .i64 0) 1 8 Tryd.underlying34 hi hz0 hz1 hz2 rfl (by decide) (.slice oo L oc) L _ rfl (hown5 _) ⟨w5.heap.size, 0, none⟩ 1 1 [.int .i64 x] rfl rfl (cell_one_new _ _ _) (by intro u hu; simp at hu; subst hu; rfl) h63 hkb (hbase _) ?_; intro v' w6 hown' hgrow _))
        have hb6 : Below w4.heap.size w4 w6 := (hb45.alloc hb45.size _).grown hgrow (hbase _) (fun z hz => (hnb z hz).1)
        have ho6 : w6.ownsRow w4.heap.size 3 1 v' (rawTo [a, b] env rules (k + 1)).length (ivals (rawTo [a, b] env rules (k + 1))) := by
          rw [HN.out, List.length_append, ← HL.out]
          rw [show ivals (rawTo [a, b] env rules k ++ [x]) = ivals (rawTo [a, b] env rules k) ++ [.int .i64 x] by simp [ivals]]
          exact hown'
        go_roundw
        case rel => exact ⟨k + 1, hlt, by go_num, ho6, hb6⟩
        case measure => simp [intOf]; omega
    · have hkn : k = rn := by omega
      subst hkn
      have HRl : Hid ((rawTo [a, b] env rules k).length ≤ k) := rawTo_length _ _ _ _
      generalize rawTo [a, b] env rules k = raw at *
      clear HAf HOwn hlt hk
      obtain ⟨wo, hwo⟩ : ∃ wo, wo = wr := ⟨_, rfl⟩
      subst hwo
      by_cases hraw : raw = []
      · have hr1 : rawl = [c] := by rw [HRaw.out, if_pos hraw]
        have hu1 : upL rawl = [c] := by rw [hr1]; exact (upL_eq (l := [c]) (by simp) (fun _ => Iff.rfl)).symm
        have hI1 := HI4.out.below hbel
        rw [hu1] at hI1
        have hln1 : ln = 1 := by rw [HLN.out, hu1]; rfl
        subst hraw hln1
        obtain ⟨vb, voff, rfl, hvl, hvc⟩ := hI1.at (i := 0) (by simp)
        simp only [Nat.add_zero, List.getD_cons_zero] at hvc
        clear hr1 hu1 hI1 HRaw HI4 HLN HL6
        go_wp2_with fail
        all_goals go_ret
        all_goals exact ⟨by first | rfl | simp, HBW.out.trans ((HB4.out.trans (hbel.mono HB4.out.size)).mono HBW.out.size)⟩
      · have hr1 : rawl = raw := by rw [HRaw.out, if_neg hraw]
        have HM : Hid (∀ x, x ∈ upL rawl ↔ x ∈ raw) := fun x => by rw [(upL_spec rawl).2, hr1]
        have HIb : Hid (IntsV wo (.slice oo raw.length oc) raw) := intsV_of_owns hown
        have hpos : 0 < raw.length := List.length_pos_iff.2 hraw
        obtain ⟨L, hL⟩ : ∃ L, L = raw.length := ⟨_, rfl⟩
        have HL : Hid (L = raw.length) := hL
        rw [← hL] at HIb hpos HRl ⊢
        have HL5 : Hid (L ≤ 5) := by have := HRl.out; show _ ≤ _; omega
        have HIl : Hid (IntsV wo (.slice vo ln vc) (upL rawl)) := HI4.out.below hbel
        have HBo : Hid (Below w.heap.size w wo) := HBW.out.trans ((HB4.out.trans (hbel.mono HB4.out.size)).mono HBW.out.size)
        clear hr1 HRaw HI4 hown hnb hL HRl hbel hb2r hraw
        have hn0 : ¬ (L : Int) = 0 := by omega
        have hn1 : ((L : Int) == 0) = false := by simp; omega
        have hn2 : decide ((L : Int) = 0) = false := decide_eq_false hn0
        have hn3 : ¬ L = 0 := by omega
        have hn4 : decide (L = 0) = false := decide_eq_false hn3
        have hn5 : (L == 0) = false := by simp; omega
        go_wp2_with fail
        clear hn0 hn1 hn2 hn3 hn4 hn5 hpos
        go_loopw [15] (fun i wr => ∃ j : Nat, j ≤ L ∧ i = .int .i64 j ∧ Hid (Below wo.heap.size wo wr)) (fun i _ => L - (intOf i).toNat)
        case atStart => exact ⟨0, Nat.zero_le _, rfl, Below.refl _ _⟩
        case round =>
          obtain ⟨j, hj, rfl, HBj⟩ := hrel
          have hL5 : L ≤ 5 := HL5.out
          have hl6 : ln ≤ 6 := HL6.out
          have hbj := HBj.out
          by_cases hlj : j < L
          · obtain ⟨xb, xoff, rfl, hxl, hxc⟩ := (HIb.out.below hbj).at (i := j) (by rw [← HL.out]; exact hlj)
            have hmem : raw.getD j 0 ∈ upL rawl := (HM.out _).2 (by
              rw [show raw.getD j 0 = raw[j]'(by rw [← HL.out]; exact hlj) by simp [List.getD_eq_getElem?_getD, show j < raw.length by rw [← HL.out]; exact hlj]]
              exact List.getElem_mem _)
            have hha := has_any (.slice vo ln vc) (upL rawl) (raw.getD j 0) wr (by have := HL6.out; rw [← HLN.out]; omega) (HIl.out.below hbj)
            rw [decide_eq_true hmem] at hha
            generalize raw.getD j 0 = x at hha hxc
            clear hmem
            go_wp2_with (go_at_call 14; refine hha.mono ?_; rintro e w6 ⟨rfl, hb6⟩)
            exact ⟨⟨j + 1, hlj, by first | rfl | simp, hbj.trans (hb6.mono hbj.size)⟩, by simp [intOf]; omega⟩
          · have hjL : j = L := by omega
            subst hjL
            obtain ⟨wq, hwq⟩ : ∃ wq, wq = wr := ⟨_, rfl⟩
            subst hwq
            clear hlj hj
            go_wp2_with fail
            go_loopw [16] (fun i wr => ∃ q : Nat, q ≤ ln ∧ i = .int .i64 q ∧ Hid (Below wq.heap.size wq wr)) (fun i _ => ln - (intOf i).toNat)
            case atStart => exact ⟨0, Nat.zero_le _, rfl, Below.refl _ _⟩
            case round =>
              obtain ⟨q, hq, rfl, HBq⟩ := hrel
              have hbq := HBq.out
              have hboq := hbj.trans (hbq.mono hbj.size)
              by_cases hlq : q < ln
              · obtain ⟨xb, xoff, rfl, hxl, hxc⟩ := (HIl.out.below hboq).at (i := q) (by rw [← HLN.out]; exact hlq)
                have hq' : q < (upL rawl).length := by rw [← HLN.out]; exact hlq
                have hmem : (upL rawl).getD q 0 ∈ raw := (HM.out _).1 (by
                  rw [show (upL rawl).getD q 0 = (upL rawl)[q] by simp [List.getD_eq_getElem?_getD, hq']]
                  exact List.getElem_mem _)
                have hha := has_any (.slice oo j oc) raw ((upL rawl).getD q 0) wr (by have := HL5.out; rw [← HL.out]; omega) (HIb.out.below hboq)
                rw [decide_eq_true hmem] at hha
                generalize (upL rawl).getD q 0 = x at hha hxc
                clear hmem hq'
                go_wp2_with (go_at_call 14; refine hha.mono ?_; rintro e w6 ⟨rfl, hb6⟩)
                exact ⟨⟨q + 1, hlq, by first | rfl | simp, hbq.trans (hb6.mono hbq.size)⟩, by simp [intOf]; omega⟩
              · have hqn : q = ln := by omega
                subst hqn
                clear hlq hq
                go_wp2_with fail
                all_goals go_ret
                all_goals exact ⟨by first | rfl | simp, HBo.out.trans (hboq.mono HBo.out.size)⟩

set_option maxRecDepth 20000 in
theorem nextAfter_contract (H : Type) (enc : TypeId × Value → H) (W : World) (base : Nat) (args : Array Value) (ds gs : List (DataW H)) (before : List MemPlace)
    (hval : ∀ (j : Nat) t v, Tryd.f4.params[j]? = some t → args[j]? = some v → Value.okWide Tryd.prog W .any base t v)
    (hW : DataW.Whole enc Tryd.prog Tryd.f4.params.toList Rows.nextAfterSpec.vars false W args.toList ds gs before)
    (hsz0 : (DataW.weightsEach Tryd.prog (Tryd.f4.params.toList ++ (OpenSpec.ofChange Rows.nextAfterSpec).bare.plain.varTypes Tryd.prog) (ds ++ gs)).all (· ≤ reachBytes) = true)
    (hL : laidMetH Tryd.prog Rows.nextAfterRow.laid W) :
    Calls Tryd.prog 4 args W fun e W' => ∃ v, e = .returned v ∧ Rows.nextAfterSpec.post enc Tryd.prog Tryd.f4 false true false false W args v W' := by
  have hW' := hW
  obtain ⟨p, q, hA0, hV, rfl, hfz, hnd⟩ := hW
  have hA : DataW.TrodAll enc Tryd.prog W 0 (fun _ => true) true Tryd.f4.params.toList args.toList ds p := hA0
  rw [Tryd.params4] at hA hval
  obtain ⟨v0, vs0, d0, ds0, p0, q0, hargs, rfl, rfl, h0, r0⟩ := trodAll_cons hA
  obtain ⟨v1, vs1, d1, ds1, p1, q1, rfl, rfl, rfl, h1, r1⟩ := trodAll_cons r0
  obtain ⟨rfl, rfl, rfl⟩ := trodAll_nil r1
  obtain rfl : args = #[v0, v1] := by cases args; simp_all
  obtain ⟨rfl, rfl⟩ := trodVars_none hV
  have hsz : (DataW.weightsEach Tryd.prog [25, 3] [d0, d1]).all (· ≤ reachBytes) = true := hsz0
  obtain ⟨vars, hD⟩ := open_design (hval 0 25 v0 rfl rfl) h0 hsz (j := 0) rfl rfl
  obtain ⟨c0, c1, c2, c3, c4, c5, c6, a, b, rfl, hG, hmd⟩ := design_model hD
  obtain ⟨code, rfl, rfl, rfl, wf1⟩ := open_int Tryd.underlying3 (hval 1 3 v1 rfl rfl) h1
  have hT := tabAt hL
  refine (nextAfter_walk c0 c1 c2 c3 c4 c5 c6 a b code W (tab_size hT) hT hG (bounds_i64 wf1) hmd).mono fun e W' ⟨he, hb⟩ => ⟨_, he, ?_⟩
  refine law_post (fun t ht => ?_) rfl (by kernel_rfl) hW' rfl rfl rfl hb
  rw [Tryd.params4] at ht
  simp only [List.mem_cons, List.not_mem_nil, or_false] at ht
  rcases ht with rfl | rfl
  · exact ⟨by kernel_rfl, of_decide_eq_true (by kernel_rfl)⟩
  · exact ⟨by kernel_rfl, of_decide_eq_true (by kernel_rfl)⟩

/-- A WORLD FOR THE WITNESS: the settled one, the table (block 0) holding what its initialiser lays. -/
noncomputable def nextAfterWorld (os : Os) : World :=
  { World.holding Tryd.prog os ⟨#[], #[], []⟩ with heap := (World.holding Tryd.prog os ⟨#[], #[], []⟩).heap.modify 0 fun
      | .cells _ t frozen => .cells #[.int .i64 0, .int .i64 0, .int .i64 0, .int .i64 2, .int .i64 2, .int .i64 2, .int .i64 2, .int .i64 2, .int .i64 2, .int .i64 2, .int .i64 1, .int .i64 0, .int .i64 0, .int .i64 0, .int .i64 1, .int .i64 2, .int .i64 2, .int .i64 1, .int .i64 1] t frozen
      | o => o }
set_option maxRecDepth 20000 in
theorem nextAfter_met (os : Os) : laidMet Tryd.prog Rows.nextAfterRow.laid ((nextAfterWorld os).forCall (fun _ _ => 0) ⟨#[], #[.agg #[.int .i64 0, .int .i64 0, .int .i64 0, .int .i64 0, .int .i64 0, .int .i64 0, .slice none 0 0], .int .i64 0], []⟩).memory :=
  laidMet_of_run' 8 (by kernel_rfl) (by kernel_rfl)
set_option maxRecDepth 20000 in
theorem nextAfter_reads (os : Os) {H : Type} (enc : TypeId × Value → H) : ∃ places, DataW.whole enc Tryd.prog ((nextAfterWorld os).forCall (fun _ _ => 0) ⟨#[], #[.agg #[.int .i64 0, .int .i64 0, .int .i64 0, .int .i64 0, .int .i64 0, .int .i64 0, .slice none 0 0], .int .i64 0], []⟩).memory Tryd.f4.params.toList Rows.nextAfterSpec.vars false #[Value.agg #[.int .i64 0, .int .i64 0, .int .i64 0, .int .i64 0, .int .i64 0, .int .i64 0, .slice none 0 0], .int .i64 0].toList 8 = some ([.agg [.agg [.lit (.int .i64 0), .lit (.int .i64 0)], .agg [.lit (.int .i64 0), .lit (.int .i64 0)], .agg [.lit (.int .i64 0), .lit (.int .i64 0)], .nil], .lit (.int .i64 0)], [], places) :=
  ⟨[], by kernel_rfl⟩

set_option maxRecDepth 100000 in
theorem nextAfter_lifted (os : Os) (started : os.Started) (H : Type) (enc : TypeId × Value → H) (F : Stop.Interp) :
    ReturnsInHanded {} Tryd.checked os 4 .any ((OpenSpec.ofChange Rows.nextAfterSpec).preRow enc Tryd.prog Tryd.f4 Rows.nextAfterRow.domain false Rows.nextAfterRow.laid) (((OpenSpec.ofChange Rows.nextAfterSpec).at F).post enc Tryd.prog Tryd.f4 false true false false) := by
  obtain ⟨places, hx⟩ := nextAfter_reads os enc
  refine returnsInHanded_of_row (C := Tryd.checked) (s := OpenSpec.ofChange Rows.nextAfterSpec) own started (by kernel_rfl) Tryd.func4
    (witness_row_at (enc := enc) (C := Tryd.checked) false (nextAfterWorld os) #[.agg #[.int .i64 0, .int .i64 0, .int .i64 0, .int .i64 0, .int .i64 0, .int .i64 0, .slice none 0 0], .int .i64 0] rfl (by kernel_rfl) (by kernel_rfl) (by kernel_rfl)
      (OpenSpec.preRow_of_cond 8 hx (by kernel_rfl) (fun k hk => by cases hk) (by kernel_rfl) (nextAfter_met os))) ?_
  intro W base args ds gs before hval hW _ _ hsz hL _ _
  exact nextAfter_contract H enc W base args ds gs before hval hW hsz hL

set_option maxRecDepth 20000 in
theorem nextAfter_said : Rows.NextAfterSaid :=
  OpenClaim.holds_of_cond 4 Tryd.f4 rfl rfl rfl rfl rfl rfl rfl ⟨rfl, rfl, rfl, rfl, rfl⟩ rfl rfl rfl rfl rfl (by kernel_rfl) Tryd.func4 (by kernel_rfl)
    (of_decide_eq_true (by kernel_rfl)) (by unfold Func.isWrapper; first | (rw [if_pos (by decide +kernel)]; kernel_rfl) | (rw [if_neg (by decide +kernel)]; exact ⟨rfl, rfl⟩))
    (fun os started H enc _ F => by rw [OpenClaim.pre_eq_preRow]; exact nextAfter_lifted os started H enc F)

set_option maxRecDepth 20000 in
theorem nextAfter_plain (f : FuncId) (fn : Func) (hf : Tryd.pinned.checked.prog.funcNamed "foretell/foretellkeep.NextAfter" = some f) (hfn : Tryd.pinned.checked.prog.funcs[f]? = some fn) :
    true = Tryd.pinned.checked.prog.looks [] ∧ ∀ (j : Nat) t, fn.params[j]? = some t → Tryd.pinned.checked.prog.wantsStandIn t = false := by
  obtain rfl : f = 4 := Option.some.inj ((show Tryd.prog.funcNamed "foretell/foretellkeep.NextAfter" = some 4 by kernel_rfl).symm.trans hf) |>.symm
  obtain rfl : fn = Tryd.f4 := (Option.some.inj (Tryd.func4.symm.trans hfn)).symm
  refine ⟨by kernel_rfl, fun j t ht => ?_⟩
  rw [Tryd.params4] at ht
  have ht' := Array.mem_of_getElem? ht
  simp only [List.mem_toArray, List.mem_cons, List.not_mem_nil, or_false] at ht'
  rcases ht' with rfl | rfl
  · exact (show Tryd.prog.wantsStandIn 25 = false by kernel_rfl)
  · exact (show Tryd.prog.wantsStandIn 3 = false by kernel_rfl)

set_option maxRecDepth 20000 in
/-- THE CARD. -/
theorem nextAfter_card : Rows.NextAfterCardSaid :=
  Claim7.holds_tied_plain_at .later [] _ _ _ _ nextAfter_said (fun _ h => by cases h) (by kernel_rfl) (fun _ h => by cases h) nextAfter_row_tie rfl ⟨rfl, rfl⟩ (by kernel_rfl) rfl nextAfter_plain (by kernel_rfl)
#print axioms nextAfter_card
end Go.Proofs.YtckkcpdmfgceoaaDoor
