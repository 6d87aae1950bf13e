import Derived.Test.YtepefdhdcfnmkaaGreatDoorGrownRules
import Derived.Test.YtepefdhdcfnmkaaGreatDoorMCode
import Derived.Test.YtepefdhdcfnmkaaGreatDoorMValues
import Derived.Test.YtepefdhdcfnmkaaGreatDoorMFirst
namespace Go.Proofs.YtepefdhdcfnmkaaGreatDoor
open Go.ChangeShapes Go.WideShapes Go.ChangeAt Go.RowKit Go.Deep
open Terms Tm
set_option maxHeartbeats 6400000
set_option maxRecDepth 20000
structure GV (a b : Vr) : Prop where
 na : a.name = bX
 nb : b.name = bY
 a0 : -1 <= a.lo
 a1 : a.lo <= 1
 a2 : a.lo <= a.hi
 a3 : a.hi <= a.lo + 3
 a4 : a.lo <= a.ini
 a5 : a.ini <= a.hi
 b0 : -1 <= b.lo
 b1 : b.lo <= 1
 b2 : b.lo <= b.hi
 b3 : b.hi <= b.lo + 3
 b4 : b.lo <= b.ini
 b5 : b.ini <= b.hi
theorem gvars_gv (sp0 sp1 lw0 lw1 iv0 iv1 : Int) : ∃ a b, gvars sp0 sp1 lw0 lw1 iv0 iv1 = [a, b] /\ GV a b := by
 obtain ⟨p0, p1, p2, p3, p4, p5⟩ := gvar_bounds bX sp0 lw0 iv0; obtain ⟨q0, q1, q2, q3, q4, q5⟩ := gvar_bounds bY sp1 lw1 iv1; exact ⟨_, _, rfl, ⟨rfl, rfl, p0, p1, p2, p3, p4, p5, q0, q1, q2, q3, q4, q5⟩⟩
theorem GV.sa {a b : Vr} (h : GV a b) : 1 <= vspan a /\ vspan a <= 4 := by
 have := h.a2; have := h.a3
 unfold vspan; omega
theorem GV.sb {a b : Vr} (h : GV a b) : 1 <= vspan b /\ vspan b <= 4 := by
 have := h.b2; have := h.b3
 unfold vspan; omega
theorem GV.prod {a b : Vr} (h : GV a b) : 1 <= vspan a * vspan b /\ vspan a * vspan b <= 16 := by
 have h1 := h.sa; have h2 := h.sb
 have h3 := Int.mul_le_mul h1.1 h2.1 (by omega) (by omega)
 have h4 := Int.mul_le_mul h1.2 h2.2 (by omega) (by omega)
 omega
theorem metXY {a b : Vr} (h : GV a b) (l : List Vr) : metName (a :: b :: l) 1 b.name = false := by
 show (decide (a.name = b.name) || false) = false
 rw [h.na, h.nb]; simp [bXY]
theorem GV.vAt {a b : Vr} (h : GV a b) (l : List Vr) : vAt (a :: b :: l) 0 = 0 /\ vAt (a :: b :: l) 1 = 0 := by
 have h1 := h.sa; have h2 := h.sb
 obtain ⟨na, nb, p0, p1, p2, p3, p4, p5, q0, q1, q2, q3, q4, q5⟩ := h; have v0 : vbound a = true := by simp only [vbound, decide_eq_true_eq]; omega
 have v1 : vbound b = true := by simp only [vbound, decide_eq_true_eq]; omega
 refine ⟨(vAt_eq (l := a :: b :: l) (k := 0) rfl rfl).2.2.2.2 (by rw [show ((a :: b :: l).getD 0 vr0).name = bX from na]; exact name_bX) rfl v0 ?_, (vAt_eq (l := a :: b :: l) (k := 1) rfl rfl).2.2.2.2 (by rw [show ((a :: b :: l).getD 1 vr0).name = bY from nb]; exact name_bY) (metXY ⟨na, nb, p0, p1, p2, p3, p4, p5, q0, q1, q2, q3, q4, q5⟩ l) v1 ?_⟩
 ·show ¬ (64 < vspan a \/ 4096 < 1 * vspan a)
  omega
 ·show ¬ (64 < vspan b \/ 4096 < (1 * vspan a) * vspan b)
  rw [Int.one_mul]; have := Int.mul_le_mul h1.2 h2.2 (by omega) (by omega)
  omega
theorem GV.vcode {a b : Vr} (h : GV a b) : vcode [a, b] = 0 := by
 unfold Go.Proofs.YtepefdhdcfnmkaaGreatDoor.vcode; rw [if_neg (by simp)]
 refine firstOf_none fun j hj => ?_
 have hj2 : j = 0 \/ j = 1 := by simp at hj; omega
 rcases hj2 with rfl | rfl
 ·exact (h.vAt []).1
 ·exact (h.vAt []).2
theorem GV.mcode {a b : Vr} (h : GV a b) {rules : List Ru} (h5 : rules.length <= 12) (hr : ∀ j, j < rules.length -> rcode 2 (rules.getD j ru0) = 0) : mcode ⟨[a, b], rules⟩ = 0 := by
 unfold Go.Proofs.YtepefdhdcfnmkaaGreatDoor.mcode; rw [if_pos h.vcode, if_neg (show ¬ 12 < rules.length by omega)]
 exact firstOf_none hr
theorem prod_two (a b : Vr) : prodTo [a, b] 2 = vspan a * vspan b := by
 show (1 * vspan a) * vspan b = _
 rw [Int.one_mul]
section
variable {a b : Vr} {va vr : Value} {w : World}
theorem GModel.shape {w : World} {va vr : Value} {x y : Vr} (h : GModel w va vr [x, y]) : ∃ ao cap ro rn rc, va = .slice ao 2 cap /\ vr = .slice ro rn rc /\ rn <= 5 := by
 obtain ⟨rules, h1, h2, h3⟩ := h; obtain ⟨ao, cap, e1⟩ := h1.1.shape; obtain ⟨ro, rc, e2⟩ := h1.2.shape; exact ⟨ao, cap, ro, _, rc, e1, e2, h2⟩
end
end Go.Proofs.YtepefdhdcfnmkaaGreatDoor
