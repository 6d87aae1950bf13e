/-
  The contracts of word.Claims, of what is right and what is none.
-/
import Derived.Test.YtoeagklgfaoejaaDoorWMom
import Derived.Test.YtoeagklgfaoejaaDoorWClm
namespace Go.Proofs.YtoeagklgfaoejaaDoor
open Go.ChangeShapes Go.WideShapes Go.ChangeAt Go.RowKit Go.Deep
open Terms

set_option maxHeartbeats 800000 in
set_option maxRecDepth 20000 in
theorem claims_bad (v sv lv : Value) (l : List (Int × Int)) (ss ll : List (List Bool)) (props : Int) (w : World) (hB : 0 < w.heap.size) (hT : TabAt w) (hV : OpsV w v l) (hzs : ss.length ≤ 140737488355328) (hzl : ll.length ≤ 140737488355328) (hS : LettersV w sv ss) (hL : LettersV w lv ll) (hc : mocode props l ss ll ≠ 0) :
    Calls Tryd.prog 6 #[v, .agg #[sv, lv], .int .i64 props] w fun e w' => e = .returned (.tuple #[.slice none 0 0, .int .i64 (mocode props l ss ll)]) ∧ Below w.heap.size w w' := by
  obtain ⟨so, sc, rfl⟩ := hS.shape
  obtain ⟨lo, lc, rfl⟩ := hL.shape
  obtain ⟨vo, vc, rfl, _⟩ := id hV
  have hA : ∀ o, Below w.heap.size w (w.alloc o) := fun o => (Below.refl _ _).alloc (Nat.le_refl _) o
  have hfa := fun o => (fill_bad _ so lo _ sc _ lc l ss ll props (w.alloc o) (by simp) (hT.below (hA o) hB) (hV.below (hA o)) hzs hzl (hS.below (hA o)) (hL.below (hA o)) hc).mono fun e w' (⟨h1, h2⟩ : _ ∧ _) => (show _ ∧ Below w.heap.size w w' from ⟨h1, (hA o).trans (h2.mono (hA o).size)⟩)
  generalize mocode props l ss ll = x at *
  generalize ss.length = sn at *
  generalize ll.length = ln at *
  generalize l.length = n at *
  clear hT hV hS hL hzs hzl
  go_enter Tryd.func6, Tryd.ntmps6
  go_wp2_with (go_at_call 13; refine (hfa _).mono ?_; rintro e w1 ⟨rfl, hb1⟩)
  go_ret2
  exact ⟨rfl, by first | exact hb1 | exact hb1.alloc hb1.size _⟩

set_option maxRecDepth 20000 in
/-- THE CONTRACT OF word.Claims. -/
theorem claims_ok (v sv lv : Value) (l : List (Int × Int)) (ss ll : List (List Bool)) (props : Int) (t : Tm) (w : World) (hB : 0 < w.heap.size) (hT : TabAt w) (hV : OpsV w v l) (hS : LettersV w sv ss) (hL : LettersV w lv ll) (hc : mocode props l ss ll = 0) (hwf : t.Wf) (hto : t.ops = l) :
    Calls Tryd.prog 6 #[v, .agg #[sv, lv], .int .i64 props] w fun e w' => ∃ rb, e = .returned (.tuple #[.slice (some ⟨rb, 0, none⟩) (ss.length + ll.length) (ss.length + ll.length), .int .i64 0]) ∧ Below w.heap.size w w' ∧ Hid (w'.rowIs rb 3 (ss.length + ll.length) (fun j => .int .i64 (clmTo (aheadL l) (fun q => (t.sub q).hb (sig (ss ++ ll) ss.length)) j (aheadL l).length))) := by
  obtain ⟨hc1, hc2⟩ := mocode_zero hc
  obtain ⟨_, _, hz, _, h6⟩ := lcode_zero hc1
  obtain ⟨hne, h60⟩ := ends_ne hz
  obtain ⟨_, h12, h1, hl12, _⟩ := wcode_zero hc2
  rw [List.length_map] at h60
  obtain ⟨so, sc, rfl⟩ := hS.shape
  obtain ⟨lo, lc, rfl⟩ := hL.shape
  obtain ⟨vo, vc, rfl, ⟨hcap, _⟩, hvv⟩ := id hV
  obtain ⟨b, off, rfl, hbl, hat⟩ := hvv (by rintro rfl; exact hne rfl)
  refine claims_of b off l.length vc so lo ss.length sc ll.length lc (ss.length + ll.length) (aheadL l).length props (aheadL l) _ w (by omega) h6 fun w0 hb => (fill_ok b off vc l.length so lo ss.length sc ll.length lc l ss ll props t w0 (Nat.lt_of_lt_of_le hB hb.size) (hT.below hb hB) rfl (Nat.lt_of_lt_of_le hbl hb.size) (hat.below hb hbl) hcap rfl rfl (hS.below hb) (hL.below hb) hc1 hc2 hwf hto).mono fun e w' ⟨B, aao, ac, CB, ccap, RB, h1, h2, h3, h4, h5⟩ => ⟨B, aao, ac, CB, ccap, RB, h1, hb.trans (h2.mono hb.size), fun k hk => ?_, h4, h5⟩
  obtain ⟨ao', ac', hsl, hai⟩ := h3
  injection hsl with e1 e2 e3
  subst e1
  obtain ⟨ab, aoff, rfl, habl, haat⟩ := hai (by intro h; rw [h] at hk; simp at hk)
  obtain ⟨p, q1, q2, q3, q4⟩ := aheadTo_get l l.length k hk
  have q1' : (aheadL l).getD k 0 = (p : Int) := q1
  exact ⟨p, ab, aoff, rfl, habl, by rw [haat k hk, q1'], q2, by rw [q1']; rfl⟩
end Go.Proofs.YtoeagklgfaoejaaDoor
