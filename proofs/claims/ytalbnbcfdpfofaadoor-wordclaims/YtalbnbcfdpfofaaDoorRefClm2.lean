/-
  The contracts of the document's own ClaimsOf, of what is right and what is none.
-/
import Derived.Test.YtalbnbcfdpfofaaDoorRefMom
import Derived.Test.YtalbnbcfdpfofaaDoorRefClm
namespace Go.Proofs.YtalbnbcfdpfofaaDoor
open Go.ChangeShapes Go.WideShapes Go.ChangeAt Go.RowKit Go.Deep
open Terms

set_option maxHeartbeats 800000 in
set_option maxRecDepth 20000 in
theorem rclaims_bad (v sv lv : Value) (l : List (Int × Int)) (ss ll : List (List Bool)) (props : Int) (w : World) (hV : OpsV w v l) (hzs : ss.length ≤ 140737488355328) (hzl : ll.length ≤ 140737488355328) (hS : LettersV w sv ss) (hL : LettersV w lv ll) (hc : mocode props l ss ll ≠ 0) :
    Calls Tryd.prog 12 #[v, .agg #[sv, lv], .int .i64 props] w fun e w' => e = .returned (.tuple #[.slice none 0 0, .int .i64 (mocode props l ss ll)]) ∧ Below w.heap.size w w' := by
  have hA : ∀ o, Below w.heap.size w (w.alloc o) := fun o => (Below.refl _ _).alloc (Nat.le_refl _) o
  have hff : ∀ w1, Below w.heap.size w w1 → Calls Tryd.prog 16 #[v, .agg #[sv, lv], .int .i64 props] w1 fun e w' => e = .returned (.int .i64 (mocode props l ss ll)) ∧ Below w.heap.size w w' := fun w1 hb => (fw_any v sv lv l ss ll props w1 (hV.below hb) hzs hzl (hS.below hb) (hL.below hb)).mono fun e w' ⟨h1, h2⟩ => ⟨h1, hb.trans (h2.mono hb.size)⟩
  obtain ⟨so, sc, rfl⟩ := hS.shape
  obtain ⟨lo, lc, rfl⟩ := hL.shape
  obtain ⟨vo, vc, rfl, _⟩ := id hV
  generalize mocode props l ss ll = x at *
  generalize ss.length = sn at *
  generalize ll.length = ln at *
  generalize l.length = n at *
  clear hV hS hL hzs hzl
  go_enter Tryd.func12, Tryd.ntmps12
  go_wp2_with (go_at_call 16; refine (hff _ (by first | exact hA _ | exact Below.refl _ _)).mono ?_; rintro e w1 ⟨rfl, hb1⟩)
  go_ret2
  exact ⟨rfl, hb1⟩

set_option maxRecDepth 20000 in
/-- THE CONTRACT OF ClaimsOf. -/
theorem rclaims_ok (v sv lv : Value) (l : List (Int × Int)) (ss ll : List (List Bool)) (props : Int) (t : Tm) (w : World) (hV : OpsV w v l) (hS : LettersV w sv ss) (hL : LettersV w lv ll) (hc : mocode props l ss ll = 0) (hwf : t.Wf) (hto : t.ops = l) :
    Calls Tryd.prog 12 #[v, .agg #[sv, lv], .int .i64 props] w fun e w' => ∃ cv, e = .returned (.tuple #[cv, .int .i64 0]) ∧ Below w.heap.size w w' ∧ Hid (w'.ownsRow w.heap.size 3 1 cv (ss.length + ll.length) (ivals (clmL (aheadL l) (fun q => (t.sub q).hb (sig (ss ++ ll) ss.length)) (ss.length + ll.length)))) := by
  obtain ⟨hc1, hc2⟩ := mocode_zero hc
  obtain ⟨_, _, hz, hlf, h6⟩ := lcode_zero hc1
  obtain ⟨hne, h60⟩ := ends_ne hz
  obtain ⟨_, h12, h1, hl12, hbad⟩ := wcode_zero hc2
  rw [List.length_map] at h60
  have hff : ∀ w1, Below w.heap.size w w1 → Calls Tryd.prog 16 #[v, .agg #[sv, lv], .int .i64 props] w1 fun e w' => e = .returned (.int .i64 0) ∧ Below w1.heap.size w1 w' := fun w1 hb => (fw_any v sv lv l ss ll props w1 (hV.below hb) (by omega) (by omega) (hS.below hb) (hL.below hb)).mono fun e w' ⟨h1, h2⟩ => ⟨by rw [h1, hc], h2⟩
  obtain ⟨so, sc, rfl⟩ := hS.shape
  obtain ⟨lo, lc, rfl⟩ := hL.shape
  obtain ⟨vo, vc, rfl, _, hvv⟩ := id hV
  obtain ⟨b, off, rfl, hbl, hat⟩ := hvv (by rintro rfl; exact hne rfl)
  have hl0 : 0 < l.length := by
    cases l with
    | nil => exact absurd rfl hne
    | cons _ _ => simp
  refine rclaims_of b off l.length vc so lo ss.length sc ll.length lc (ss.length + ll.length) props l _ w (by omega) hl0 h60 rfl h6 hbl hat hff fun w1 hb => (rows_any b off l.length vc so lo ss.length sc ll.length lc (ss.length + ll.length) l ss ll t props w1 hwf hto rfl h60 hz (fun q hq => lfirst_all hlf q hq) hbad rfl rfl h12 h1 hl12 rfl (hS.below hb) (hL.below hb) (hat.below hb hbl) (Nat.lt_of_lt_of_le hbl hb.size)).mono fun e w' ⟨e1, s⟩ => ?_
  obtain ⟨f, r1, r2⟩ := s.rows
  refine ⟨_, e1, hb.trans (s.below.mono hb.size), r1.lt, fun q hq => ?_⟩
  obtain ⟨rb, rc, q1, _, q3, q4⟩ := r2 q (by omega) hq
  exact ⟨rb, rc, by rw [r1.cell hq, q1], q3, q4⟩
end Go.Proofs.YtalbnbcfdpfofaaDoor
