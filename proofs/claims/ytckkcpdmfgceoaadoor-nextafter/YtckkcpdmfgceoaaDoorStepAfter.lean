/-
  The contract of step.After.
-/
import Derived.Test.YtckkcpdmfgceoaaDoorStepRule
import Derived.Test.YtckkcpdmfgceoaaDoorMValues
namespace Go.Proofs.YtckkcpdmfgceoaaDoor
open Go.ChangeShapes Go.WideShapes Go.ChangeAt Go.RowKit Go.Deep
open Terms Tm

/-- what After answers. -/
noncomputable def aftN (m : Mo) (code rule : Int) : Int := if wcode m code = 0 then (if 0 ≤ rule ∧ rule < m.rules.length then optN (ruleDo m.vars (valsL m.vars code) (m.rules.getD rule.toNat ru0)) else 0) else 0
noncomputable def aftC (m : Mo) (code rule : Int) : Int := if wcode m code = 0 then (if 0 ≤ rule ∧ rule < m.rules.length then optC (ruleDo m.vars (valsL m.vars code) (m.rules.getD rule.toNat ru0)) else 2) else wcode m code
set_option maxRecDepth 20000 in
theorem wcode_zero {m : Mo} {code : Int} (h : wcode m code = 0) : mcode m = 0 ∧ 0 ≤ code ∧ code < prodTo m.vars m.vars.length := by
  unfold wcode at h
  split at h
  · rename_i h1
    split at h
    · rename_i h2; exact ⟨h1, h2⟩
    · cases h
  · rename_i h1; exact absurd h h1
set_option maxRecDepth 20000 in
/-- THE CONTRACT OF Values, where there are some: a block of their own. -/
theorem svalues_any (va vr : Value) (m : Mo) (code : Int) (w : World) (hB : 0 < w.heap.size) (hT : TabAt w) (hV : ModelV w va vr m) (h : wcode m code = 0) :
    Calls Tryd.prog 17 #[.agg #[va, vr], .int .i64 code] w fun e w' => ∃ B, e = .returned (.tuple #[.slice (some ⟨B, 0, none⟩) (valsL m.vars code).length (valsL m.vars code).length, .int .i64 0]) ∧ w.heap.size ≤ B ∧ Below w.heap.size w w' ∧ w'.rowIs B 3 (valsL m.vars code).length (fun j => .int .i64 ((valsL m.vars code).getD j 0)) := by
  obtain ⟨h1, h2⟩ := wcode_zero h
  refine (mvalues_loop va vr m code w hB hT hV h1 h2).mono fun e w' ⟨B, he, hl, hb, hr⟩ => ?_
  rw [← valsL_length m.vars code] at he hr
  refine ⟨B, he, hl, hb, hr.congr fun j hj => ?_⟩
  rw [valsL_length] at hj
  simp [valsL, List.getD_eq_getElem?_getD, hj]

set_option maxHeartbeats 3200000 in
set_option maxRecDepth 20000 in
/-- THE CONTRACT OF After. -/
theorem after_any (va vr : Value) (m : Mo) (code rule : Int) (w : World) (hB : 0 < w.heap.size) (hT : TabAt w) (hV : ModelV w va vr m) :
    Calls Tryd.prog 13 #[.agg #[va, vr], .int .i64 code, .int .i64 rule] w fun e w' => e = .returned (.tuple #[.int .i64 (aftN m code rule), .int .i64 (aftC m code rule)]) ∧ Below w.heap.size w w' := by
  have hA : ∀ o, Below w.heap.size w (w.alloc o) := fun o => (Below.refl _ _).alloc (Nat.le_refl _) o
  by_cases hw : wcode m code = 0
  · obtain ⟨hm, _⟩ := wcode_zero hw
    obtain ⟨hr12, hrs⟩ := mcode_rules hm
    have hvl := fun o => svalues_any va vr m code (w.alloc o) (Nat.lt_of_lt_of_le hB (hA o).size) (hT.below (hA o) hB) (hV.below (hA o)) hw
    have he := valsL_length m.vars code
    have HDo : Hid (∀ w' (_ : Below w.heap.size w w') B k gv sv, k < m.rules.length → w'.rowIs B 3 (valsL m.vars code).length (fun j => .int .i64 ((valsL m.vars code).getD j 0)) → OpsV w' gv (m.rules.getD k ru0).guard → SetsV w' sv (m.rules.getD k ru0).sets → Calls Tryd.prog 26 #[.agg #[va, vr], .slice (some ⟨B, 0, none⟩) (valsL m.vars code).length (valsL m.vars code).length, .agg #[gv, sv]] w' fun e w2 => e = .returned (.tuple #[.int .i64 (optN (ruleDo m.vars (valsL m.vars code) (m.rules.getD k ru0))), .int .i64 (optC (ruleDo m.vars (valsL m.vars code) (m.rules.getD k ru0)))]) ∧ Below w'.heap.size w' w2) := fun w' hb B k gv sv hk hrow hg hs =>
      doRule_any va vr gv sv B m (valsL m.vars code) (m.rules.getD k ru0) w' (Nat.lt_of_lt_of_le hB hb.size) (hT.below hb hB) (hV.below hb) hm (hrs k hk) he hrow hg hs
    have HR : Hid (RulesV w vr m.rules) := hV.2
    obtain ⟨ao, cap, rfl⟩ := hV.1.shape
    obtain ⟨ro, rc, rfl⟩ := hV.2.shape
    unfold aftN aftC
    rw [if_pos hw, if_pos hw]
    generalize hrr : (fun k => ruleDo m.vars (valsL m.vars code) (m.rules.getD k ru0)) = rr
    have HRR : Hid (∀ k, ruleDo m.vars (valsL m.vars code) (m.rules.getD k ru0) = rr k) := fun k => by rw [← hrr]
    have HDo2 := (show Hid _ from HDo.out)
    clear HDo
    have hrr2 := HRR.out
    simp only [hrr2] at HDo2 ⊢
    generalize (valsL m.vars code).length = vn at *
    generalize m.vars.length = n at *
    obtain ⟨rn, hrn⟩ : ∃ rn, rn = m.rules.length := ⟨_, rfl⟩
    have HRN : Hid (rn = m.rules.length) := hrn
    rw [← hrn] at hvl HR HDo2 ⊢
    rw [← hrn] at hr12
    clear hV hT hw hm hrs he hrr hrr2 hrn HRR
    by_cases hin : 0 ≤ rule ∧ rule < rn
    · rw [if_pos hin, if_pos hin]
      obtain ⟨hi0, hi1⟩ := hin
      obtain ⟨k, rfl⟩ : ∃ k : Nat, rule = k := ⟨rule.toNat, by omega⟩
      have hkn : k < rn := by omega
      rw [Int.toNat_natCast]
      obtain ⟨b, off, rfl, hblt, hat⟩ := HR.out.at (i := k) (by rw [← HRN.out]; exact hkn)
      clear HR hi1
      go_enter Tryd.func13, Tryd.ntmps13
      go_wp2_with (go_at_call 17; refine (hvl _).mono ?_; rintro e w1 ⟨B, rfl, hBl, hb1, hrow⟩; have hbw1 := (hA _).trans (hb1.mono (hA _).size); have k10 : w1.cell? ⟨w.heap.size, 0, none⟩ = some (.slice ao n cap) := (hb1.cell (p := ⟨w.heap.size, 0, none⟩) (by simp)).trans (by simp [go_sem]); have k11 : w1.cell? ⟨w.heap.size, 1, none⟩ = some (.slice (some ⟨b, off, none⟩) rn rc) := (hb1.cell (p := ⟨w.heap.size, 1, none⟩) (by simp)).trans (by simp [go_sem]))
      obtain ⟨⟨u, c0, hou⟩, u', c1, hsu⟩ := hat.below hbw1 hblt
      obtain ⟨uo, uc, rfl⟩ := hou.shape
      obtain ⟨so, sc, rfl⟩ := hsu.shape
      have hdo := HDo2.out w1.drew hbw1.drew B k _ _ hkn hrow hou hsu
      have HBW1 : Hid (Below w.heap.size w w1) := hbw1
      generalize (m.rules.getD k ru0).guard.length = gl at *
      generalize (m.rules.getD k ru0).sets.length = sl at *
      clear hvl hb1 hbw1 hrow hou hsu HDo2 hat
      go_region_with (go_at_call 26; refine hdo.mono ?_; rintro e w3 ⟨rfl, hb3⟩)
      all_goals go_wp2_with fail
      all_goals go_ret2
      all_goals exact ⟨rfl, HBW1.out.drew.trans (hb3.mono HBW1.out.drew.size)⟩
    · have HIN : Hid (¬ (0 ≤ rule ∧ rule < rn)) := hin
      rw [if_neg hin, if_neg hin]
      by_cases h0 : rule < 0
      · clear hin HDo2 HR
        go_enter Tryd.func13, Tryd.ntmps13
        go_wp2_with (go_at_call 17; refine (hvl _).mono ?_; rintro e w1 ⟨B, rfl, hBl, hb1, hrow⟩; have hbw1 := (hA _).trans (hb1.mono (hA _).size); have k11 : w1.cell? ⟨w.heap.size, 1, none⟩ = some (.slice ro rn rc) := (hb1.cell (p := ⟨w.heap.size, 1, none⟩) (by simp)).trans (by simp [go_sem]))
        go_ret2
        exact ⟨rfl, hbw1⟩
      · have h1 : (rn : Int) ≤ rule := by omega
        clear hin HDo2 HR
        go_enter Tryd.func13, Tryd.ntmps13
        go_wp2_with (go_at_call 17; refine (hvl _).mono ?_; rintro e w1 ⟨B, rfl, hBl, hb1, hrow⟩; have hbw1 := (hA _).trans (hb1.mono (hA _).size); have k11 : w1.cell? ⟨w.heap.size, 1, none⟩ = some (.slice ro rn rc) := (hb1.cell (p := ⟨w.heap.size, 1, none⟩) (by simp)).trans (by simp [go_sem]))
        go_ret2
        exact ⟨rfl, hbw1⟩
  · have hvl := fun o => mvalues_any va vr m code (w.alloc o) (Nat.lt_of_lt_of_le hB (hA o).size) (hT.below (hA o) hB) (hV.below (hA o))
    obtain ⟨ao, cap, rfl⟩ := hV.1.shape
    obtain ⟨ro, rc, rfl⟩ := hV.2.shape
    unfold aftN aftC
    rw [if_neg hw, if_neg hw]
    generalize wcode m code = c at *
    generalize m.vars.length = n at *
    generalize m.rules.length = rn at *
    clear hV hT
    go_enter Tryd.func13, Tryd.ntmps13
    go_wp2_with (go_at_call 17; refine (hvl _).mono ?_; rintro e w1 ⟨v, rfl, hb1, _⟩)
    go_ret2
    exact ⟨rfl, (hA _).trans (hb1.mono (hA _).size)⟩
end Go.Proofs.YtckkcpdmfgceoaaDoor
