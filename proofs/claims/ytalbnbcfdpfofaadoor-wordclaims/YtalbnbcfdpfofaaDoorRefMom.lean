/-
  The contracts of the document's own formulaAndWord, MomentsOf and HoldsOf.
-/
import Derived.Test.YtalbnbcfdpfofaaDoorRefRows
import Derived.Test.YtalbnbcfdpfofaaDoorWMom
namespace Go.Proofs.YtalbnbcfdpfofaaDoor
open Go.ChangeShapes Go.WideShapes Go.ChangeAt Go.RowKit Go.Deep
open Terms

theorem RowT.boolsC {W : World} {rb m : Nat} {h : Nat → Bool} (r : RowT W rb m h) (c : Nat) : BoolsV W (.slice (some ⟨rb, 0, none⟩) m c) ((List.range m).map h) :=
  ⟨some ⟨rb, 0, none⟩, c, by simp, fun _ => ⟨rb, 0, rfl, r.1, fun i hi => by
    simp only [List.length_map, List.length_range] at hi
    rw [Nat.zero_add, r.2 i hi]
    simp [List.getD_eq_getElem?_getD, hi]⟩⟩

set_option maxHeartbeats 800000 in
set_option maxRecDepth 20000 in
/-- THE CONTRACT OF formulaAndWord. -/
theorem fw_any (v sv lv : Value) (l : List (Int × Int)) (ss ll : List (List Bool)) (props : Int) (w : World) (hV : OpsV w v l) (hzs : ss.length ≤ 140737488355328) (hzl : ll.length ≤ 140737488355328) (hS : LettersV w sv ss) (hL : LettersV w lv ll) :
    Calls Tryd.prog 16 #[v, .agg #[sv, lv], .int .i64 props] w fun e w' => e = .returned (.int .i64 (mocode props l ss ll)) ∧ Below w.heap.size w w' := by
  have hA : ∀ o, Below w.heap.size w (w.alloc o) := fun o => (Below.refl _ _).alloc (Nat.le_refl _) o
  have hff : ∀ w1, Below w.heap.size w w1 → Calls Tryd.prog 27 #[v, .int .i64 props] w1 fun e w' => e = .returned (.int .i64 (lcode props l)) ∧ Below w1.heap.size w1 w' := fun w1 hb => fault_any v l props w1 (hV.below hb)
  have hwf : ∀ w1, Below w.heap.size w w1 → Calls Tryd.prog 28 #[.agg #[sv, lv], .int .i64 props] w1 fun e w' => e = .returned (.int .i64 (wcode props ss ll)) ∧ Below w.heap.size w w' := fun w1 hb => (wfault_any sv lv ss ll props w1 hzs hzl (hS.below hb) (hL.below hb)).mono fun e w' ⟨h1, h2⟩ => ⟨h1, hb.trans (h2.mono hb.size)⟩
  obtain ⟨so, sc, rfl⟩ := hS.shape
  obtain ⟨lo, lc, rfl⟩ := hL.shape
  obtain ⟨vo, vc, rfl, _⟩ := id hV
  unfold mocode
  generalize lcode props l = x at *
  generalize wcode props ss ll = y at *
  generalize ss.length = sn at *
  generalize ll.length = ln at *
  generalize l.length = n at *
  clear hV hS hL hzs hzl
  by_cases hx : x = 0
  · rw [if_neg (by simpa using hx)]
    subst hx
    go_enter Tryd.func16, Tryd.ntmps16
    go_wp2_with (first | (go_at_call 27; refine (hff _ (hA _)).mono ?_; rintro e w1 ⟨rfl, hb1⟩; have hbw := (hA _).trans (hb1.mono (hA _).size); have k0 : w1.cell? ⟨w.heap.size, 0, none⟩ = some (.slice so sn sc) := (hb1.cell (p := ⟨w.heap.size, 0, none⟩) (by simp)).trans (by simp [go_sem]); have k1 : w1.cell? ⟨w.heap.size, 1, none⟩ = some (.slice lo ln lc) := (hb1.cell (p := ⟨w.heap.size, 1, none⟩) (by simp)).trans (by simp [go_sem])) | (go_at_call 28; refine (hwf _ hbw).mono ?_; rintro e w2 ⟨rfl, hb2⟩))
    go_ret
    exact ⟨rfl, hb2⟩
  · rw [if_pos hx]
    go_enter Tryd.func16, Tryd.ntmps16
    go_wp2_with (go_at_call 27; refine (hff _ (hA _)).mono ?_; rintro e w1 ⟨rfl, hb1⟩; have hbw := (hA _).trans (hb1.mono (hA _).size))
    go_ret
    exact ⟨rfl, hbw⟩

set_option maxHeartbeats 800000 in
set_option maxRecDepth 20000 in
theorem rmoments_bad (v sv lv : Value) (l : List (Int × Int)) (ss ll : List (List Bool)) (props : Int) (w : World) (hV : OpsV w v l) (hzs : ss.length ≤ 140737488355328) (hzl : ll.length ≤ 140737488355328) (hS : LettersV w sv ss) (hL : LettersV w lv ll) (hc : mocode props l ss ll ≠ 0) :
    Calls Tryd.prog 8 #[v, .agg #[sv, lv], .int .i64 props] w fun e w' => e = .returned (.tuple #[.slice none 0 0, .int .i64 (mocode props l ss ll)]) ∧ Below w.heap.size w w' := by
  have hA : ∀ o, Below w.heap.size w (w.alloc o) := fun o => (Below.refl _ _).alloc (Nat.le_refl _) o
  have hff : ∀ w1, Below w.heap.size w w1 → Calls Tryd.prog 16 #[v, .agg #[sv, lv], .int .i64 props] w1 fun e w' => e = .returned (.int .i64 (mocode props l ss ll)) ∧ Below w.heap.size w w' := fun w1 hb => (fw_any v sv lv l ss ll props w1 (hV.below hb) hzs hzl (hS.below hb) (hL.below hb)).mono fun e w' ⟨h1, h2⟩ => ⟨h1, hb.trans (h2.mono hb.size)⟩
  obtain ⟨so, sc, rfl⟩ := hS.shape
  obtain ⟨lo, lc, rfl⟩ := hL.shape
  obtain ⟨vo, vc, rfl, _⟩ := id hV
  generalize mocode props l ss ll = x at *
  generalize ss.length = sn at *
  generalize ll.length = ln at *
  generalize l.length = n at *
  clear hV hS hL hzs hzl
  go_enter Tryd.func8, Tryd.ntmps8
  go_wp2_with (go_at_call 16; refine (hff _ (by first | exact hA _ | exact Below.refl _ _)).mono ?_; rintro e w1 ⟨rfl, hb1⟩)
  go_ret2
  exact ⟨rfl, hb1⟩

set_option maxHeartbeats 800000 in
set_option maxRecDepth 20000 in
theorem rmoments_ok (v sv lv : Value) (l : List (Int × Int)) (ss ll : List (List Bool)) (props : Int) (t : Tm) (w : World) (hV : OpsV w v l) (hS : LettersV w sv ss) (hL : LettersV w lv ll) (hc : mocode props l ss ll = 0) (hwf : t.Wf) (hto : t.ops = l) :
    Calls Tryd.prog 8 #[v, .agg #[sv, lv], .int .i64 props] w fun e w' => ∃ rb rc, e = .returned (.tuple #[.slice (some ⟨rb, 0, none⟩) (ss.length + ll.length) rc, .int .i64 0]) ∧ Below w.heap.size w w' ∧ Hid (RowT w' rb (ss.length + ll.length) (t.hb (sig (ss ++ ll) ss.length))) := by
  obtain ⟨hc1, hc2⟩ := mocode_zero hc
  obtain ⟨_, _, hz, hlf, _⟩ := lcode_zero hc1
  obtain ⟨hne, h60⟩ := ends_ne hz
  obtain ⟨_, h12, h1, hl12, hbad⟩ := wcode_zero hc2
  rw [List.length_map] at h60
  have hA : ∀ o, Below w.heap.size w (w.alloc o) := fun o => (Below.refl _ _).alloc (Nat.le_refl _) o
  have hff : ∀ w1, Below w.heap.size w w1 → Calls Tryd.prog 16 #[v, .agg #[sv, lv], .int .i64 props] w1 fun e w' => e = .returned (.int .i64 0) ∧ Below w1.heap.size w1 w' := fun w1 hb => (fw_any v sv lv l ss ll props w1 (hV.below hb) (by omega) (by omega) (hS.below hb) (hL.below hb)).mono fun e w' ⟨h1, h2⟩ => ⟨by rw [h1, hc], h2⟩
  obtain ⟨so, sc, rfl⟩ := hS.shape
  obtain ⟨lo, lc, rfl⟩ := hL.shape
  obtain ⟨vo, vc, rfl, _, hvv⟩ := id hV
  obtain ⟨b, off, rfl, hbl, hat⟩ := hvv (by rintro rfl; exact hne rfl)
  have hl0 : 0 < l.length := by
    cases l with
    | nil => exact absurd rfl hne
    | cons _ _ => simp
  have hro : ∀ w1, Below w.heap.size w w1 → Calls Tryd.prog 17 #[.slice (some ⟨b, off, none⟩) l.length vc, .agg #[.slice so ss.length sc, .slice lo ll.length lc]] w1 fun e w' => ∃ RB rb rc, e = .returned (.slice (some ⟨RB, 0, none⟩) l.length l.length) ∧ Below w.heap.size w w' ∧ w'.cell? ⟨RB, 0, none⟩ = some (.slice (some ⟨rb, 0, none⟩) (ss.length + ll.length) rc) ∧ Hid (RowT w' rb (ss.length + ll.length) (t.hb (sig (ss ++ ll) ss.length))) := fun w1 hb => (rows_any b off l.length vc so lo ss.length sc ll.length lc (ss.length + ll.length) l ss ll t props w1 hwf hto rfl h60 hz (fun q hq => lfirst_all hlf q hq) hbad rfl rfl h12 h1 hl12 rfl (hS.below hb) (hL.below hb) (hat.below hb hbl) (Nat.lt_of_lt_of_le hbl hb.size)).mono fun e w' ⟨e1, s⟩ => by
    obtain ⟨f, r1, r2⟩ := s.rows
    obtain ⟨rb, rc, q1, _, q3, q4⟩ := r2 0 (by omega) hl0
    refine ⟨_, rb, rc, e1, hb.trans (s.below.mono hb.size), by rw [r1.cell hl0, q1], q3, fun j hj => ?_⟩
    rw [q4 j hj, Tm.sub_zero]
  have hln0 : (0 : Int) < (l.length : Int) := by omega
  generalize t.hb (sig (ss ++ ll) ss.length) = hh at *
  generalize ss.length = sn at *
  generalize ll.length = ln at *
  generalize l.length = n at *
  clear hV hS hL hc hc1 hc2 hz hne hvv hat hto hlf hbad
  go_enter Tryd.func8, Tryd.ntmps8
  go_wp2_with (first | (go_at_call 16; refine (hff _ (hA _)).mono ?_; rintro e w1 ⟨rfl, hb1⟩; have hbw := (hA _).trans (hb1.mono (hA _).size); have k0 : w1.cell? ⟨w.heap.size, 0, none⟩ = some (.slice so sn sc) := (hb1.cell (p := ⟨w.heap.size, 0, none⟩) (by simp)).trans (by simp [go_sem]); have k1 : w1.cell? ⟨w.heap.size, 1, none⟩ = some (.slice lo ln lc) := (hb1.cell (p := ⟨w.heap.size, 1, none⟩) (by simp)).trans (by simp [go_sem])) | (go_at_call 17; refine (hro _ hbw).mono ?_; rintro e w2 ⟨RB, rb, rc, rfl, hb2, hcr, HR⟩))
  go_ret2
  exact ⟨rb, rc, rfl, hb2, HR⟩

end Go.Proofs.YtalbnbcfdpfofaaDoor
