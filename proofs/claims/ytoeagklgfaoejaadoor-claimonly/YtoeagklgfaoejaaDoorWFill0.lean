/-
  The contract of word's fill: what it refuses.
-/
import Derived.Test.YtoeagklgfaoejaaDoorWCheck
import Derived.Test.YtoeagklgfaoejaaDoorWSettle
import Derived.Test.YtoeagklgfaoejaaDoorLogicRead
namespace Go.Proofs.YtoeagklgfaoejaaDoor
open Go.ChangeShapes Go.WideShapes Go.ChangeAt Go.RowKit Go.Deep
open Terms

/-- six cells of a block that may be written. -/
structure Six (w : World) (b : Nat) (x0 x1 x2 x3 x4 x5 : Value) : Prop where
  k0 : w.cell? ⟨b, 0, none⟩ = some x0
  f0 : w.frozen? ⟨b, 0, none⟩ = false
  k1 : w.cell? ⟨b, 1, none⟩ = some x1
  f1 : w.frozen? ⟨b, 1, none⟩ = false
  k2 : w.cell? ⟨b, 2, none⟩ = some x2
  f2 : w.frozen? ⟨b, 2, none⟩ = false
  k3 : w.cell? ⟨b, 3, none⟩ = some x3
  f3 : w.frozen? ⟨b, 3, none⟩ = false
  k4 : w.cell? ⟨b, 4, none⟩ = some x4
  f4 : w.frozen? ⟨b, 4, none⟩ = false
  k5 : w.cell? ⟨b, 5, none⟩ = some x5
  f5 : w.frozen? ⟨b, 5, none⟩ = false
  hl : b < w.heap.size
theorem Six.below {w w' : World} {B b : Nat} {x0 x1 x2 x3 x4 x5 : Value} (h : Six w b x0 x1 x2 x3 x4 x5) (hb : Below B w w') (hB : b < B) : Six w' b x0 x1 x2 x3 x4 x5 :=
  ⟨(hb.cell (p := ⟨b, 0, none⟩) hB).trans h.k0, (hb.frozen (p := ⟨b, 0, none⟩) hB).trans h.f0, (hb.cell (p := ⟨b, 1, none⟩) hB).trans h.k1, (hb.frozen (p := ⟨b, 1, none⟩) hB).trans h.f1, (hb.cell (p := ⟨b, 2, none⟩) hB).trans h.k2, (hb.frozen (p := ⟨b, 2, none⟩) hB).trans h.f2, (hb.cell (p := ⟨b, 3, none⟩) hB).trans h.k3, (hb.frozen (p := ⟨b, 3, none⟩) hB).trans h.f3, (hb.cell (p := ⟨b, 4, none⟩) hB).trans h.k4, (hb.frozen (p := ⟨b, 4, none⟩) hB).trans h.f4, (hb.cell (p := ⟨b, 5, none⟩) hB).trans h.k5, (hb.frozen (p := ⟨b, 5, none⟩) hB).trans h.f5, Nat.lt_of_lt_of_le h.hl hb.size⟩
theorem Six.new (w : World) (x0 x1 x2 x3 x4 x5 : Value) (t : TypeId) : Six (w.alloc (.cells #[x0, x1, x2, x3, x4, x5] t)) w.heap.size x0 x1 x2 x3 x4 x5 :=
  ⟨by simp [go_sem], by simp [go_sem], by simp [go_sem], by simp [go_sem], by simp [go_sem], by simp [go_sem], by simp [go_sem], by simp [go_sem], by simp [go_sem], by simp [go_sem], by simp [go_sem], by simp [go_sem], by simp⟩
theorem Six.read {w : World} {b : Nat} {x0 x1 x2 x3 x4 x5 : Value} (h : Six w b x0 x1 x2 x3 x4 x5) (u0 u1 u2 u3 u4 u5 : Value) : ((w.setCell ⟨b, 0, none⟩ u0)).cell? ⟨b, 0, none⟩ = some u0 ∧ (((w.setCell ⟨b, 0, none⟩ u0).setCell ⟨b, 1, none⟩ u1)).cell? ⟨b, 1, none⟩ = some u1 ∧ ((((w.setCell ⟨b, 0, none⟩ u0).setCell ⟨b, 1, none⟩ u1).setCell ⟨b, 2, none⟩ u2)).cell? ⟨b, 2, none⟩ = some u2 ∧ (((((w.setCell ⟨b, 0, none⟩ u0).setCell ⟨b, 1, none⟩ u1).setCell ⟨b, 2, none⟩ u2).setCell ⟨b, 3, none⟩ u3)).cell? ⟨b, 3, none⟩ = some u3 ∧ ((((((w.setCell ⟨b, 0, none⟩ u0).setCell ⟨b, 1, none⟩ u1).setCell ⟨b, 2, none⟩ u2).setCell ⟨b, 3, none⟩ u3).setCell ⟨b, 4, none⟩ u4)).cell? ⟨b, 4, none⟩ = some u4 ∧ (((((((w.setCell ⟨b, 0, none⟩ u0).setCell ⟨b, 1, none⟩ u1).setCell ⟨b, 2, none⟩ u2).setCell ⟨b, 3, none⟩ u3).setCell ⟨b, 4, none⟩ u4).setCell ⟨b, 5, none⟩ u5)).cell? ⟨b, 5, none⟩ = some u5 := by
  obtain ⟨k0, _, k1, _, k2, _, k3, _, k4, _, k5, _, _⟩ := h
  refine ⟨World.cell?_setCell_same' _ _ _ ?_, World.cell?_setCell_same' _ _ _ ?_, World.cell?_setCell_same' _ _ _ ?_, World.cell?_setCell_same' _ _ _ ?_, World.cell?_setCell_same' _ _ _ ?_, World.cell?_setCell_same' _ _ _ ?_⟩
  · simp [go_sem, k0]
  · simp [go_sem, k1]
  · simp [go_sem, k2]
  · simp [go_sem, k3]
  · simp [go_sem, k4]
  · simp [go_sem, k5]

set_option maxHeartbeats 800000 in
set_option maxRecDepth 20000 in
theorem fill_bad1 (v : Value) (so lo : Option Addr) (sn sc ln lc : Nat) (l : List (Int × Int)) (props : Int) (w : World) (hB : 0 < w.heap.size) (hT : TabAt w) (hV : OpsV w v l) (hc : lcode props l ≠ 0) :
    Calls Tryd.prog 13 #[v, .agg #[.slice so sn sc, .slice lo ln lc], .int .i64 props] w fun e w' => e = .returned (.tuple #[.agg #[.slice none 0 0, .slice none 0 0, .slice none 0 0, .slice none 0 0, .int .i64 0, .slice none 0 0], .int .i64 (lcode props l)]) ∧ Below w.heap.size w w' := by
  have hA : Below w.heap.size w ((w.alloc (.cells #[.slice so sn sc, .slice lo ln lc] 28)).alloc (.cells #[.slice none 0 0, .slice none 0 0, .slice none 0 0, .slice none 0 0, .int .i64 0, .slice none 0 0] 49)) := ((Below.refl _ _).alloc (Nat.le_refl _) _).alloc (by simp) _
  have hah := lahead_any v l props ((w.alloc (.cells #[.slice so sn sc, .slice lo ln lc] 28)).alloc (.cells #[.slice none 0 0, .slice none 0 0, .slice none 0 0, .slice none 0 0, .int .i64 0, .slice none 0 0] 49)) (Nat.lt_of_lt_of_le hB hA.size) (hT.below hA hB) (hV.below hA)
  have h6 := Six.new (w.alloc (.cells #[.slice so sn sc, .slice lo ln lc] 28)) (.slice none 0 0) (.slice none 0 0) (.slice none 0 0) (.slice none 0 0) (.int .i64 0) (.slice none 0 0) 49
  simp only [World.size_alloc] at h6 hah
  obtain ⟨vo, vc, rfl, _⟩ := hV
  generalize lcode props l = x at *
  clear hT
  go_enter Tryd.func13, Tryd.ntmps13
  go_wp2_with (go_at_call 7; refine hah.mono ?_; rintro e w1 ⟨av, rfl, hb1, hi1⟩; obtain ⟨ao, acap, rfl, _⟩ := hi1; have g6 := h6.below hb1 (by omega); obtain ⟨k0, f0, k1, f1, k2, f2, k3, f3, k4, f4, k5, f5, _⟩ := id g6)
  refine bodyPost_ret (v := .tuple #[.agg #[.slice none 0 0, .slice none 0 0, .slice none 0 0, .slice none 0 0, .int .i64 0, .slice none 0 0], .int .i64 x]) ?_ rfl ⟨rfl, ?_⟩
  · obtain ⟨q0, q1, q2, q3, q4, q5⟩ := g6.read (.slice none 0 0) (.slice none 0 0) (.slice none 0 0) (.slice none 0 0) (.int .i64 0) (.slice none 0 0)
    simp [results, Tryd.results13, go_sem, q0, q1, q2, q3, q4, q5]
  · have hbw := hA.trans (hb1.mono (by omega))
    exact (((((hbw.setCell (by simp) _).setCell (by simp) _).setCell (by simp) _).setCell (by simp) _).setCell (by simp) _).setCell (by simp) _

set_option maxHeartbeats 800000 in
set_option maxRecDepth 20000 in
theorem fill_bad2 (v : Value) (so lo : Option Addr) (sn sc ln lc : Nat) (l : List (Int × Int)) (ss ll : List (List Bool)) (props : Int) (w : World) (hB : 0 < w.heap.size) (hT : TabAt w) (hV : OpsV w v l) (hzs : ss.length ≤ 140737488355328) (hzl : ll.length ≤ 140737488355328) (hS : LettersV w (.slice so sn sc) ss) (hL : LettersV w (.slice lo ln lc) ll) (hc : lcode props l = 0) (hd : wcode props ss ll ≠ 0) :
    Calls Tryd.prog 13 #[v, .agg #[.slice so sn sc, .slice lo ln lc], .int .i64 props] w fun e w' => e = .returned (.tuple #[.agg #[.slice none 0 0, .slice none 0 0, .slice none 0 0, .slice none 0 0, .int .i64 0, .slice none 0 0], .int .i64 (wcode props ss ll)]) ∧ Below w.heap.size w w' := by
  have hA : Below w.heap.size w ((w.alloc (.cells #[.slice so sn sc, .slice lo ln lc] 28)).alloc (.cells #[.slice none 0 0, .slice none 0 0, .slice none 0 0, .slice none 0 0, .int .i64 0, .slice none 0 0] 49)) := ((Below.refl _ _).alloc (Nat.le_refl _) _).alloc (by simp) _
  have hah := lahead_any v l props ((w.alloc (.cells #[.slice so sn sc, .slice lo ln lc] 28)).alloc (.cells #[.slice none 0 0, .slice none 0 0, .slice none 0 0, .slice none 0 0, .int .i64 0, .slice none 0 0] 49)) (Nat.lt_of_lt_of_le hB hA.size) (hT.below hA hB) (hV.below hA)
  have h6 := Six.new (w.alloc (.cells #[.slice so sn sc, .slice lo ln lc] 28)) (.slice none 0 0) (.slice none 0 0) (.slice none 0 0) (.slice none 0 0) (.int .i64 0) (.slice none 0 0) 49
  have hch := fun w1 (hb : Below w.heap.size w w1) => wcheck_any _ _ ss ll props w1 hzs hzl (hS.below hb) (hL.below hb)
  have hw0 : ((w.alloc (.cells #[.slice so sn sc, .slice lo ln lc] 28)).alloc (.cells #[.slice none 0 0, .slice none 0 0, .slice none 0 0, .slice none 0 0, .int .i64 0, .slice none 0 0] 49)).cell? ⟨w.heap.size, 0, none⟩ = some (.slice so sn sc) := by simp [go_sem]
  have hw1 : ((w.alloc (.cells #[.slice so sn sc, .slice lo ln lc] 28)).alloc (.cells #[.slice none 0 0, .slice none 0 0, .slice none 0 0, .slice none 0 0, .int .i64 0, .slice none 0 0] 49)).cell? ⟨w.heap.size, 1, none⟩ = some (.slice lo ln lc) := by simp [go_sem]
  simp only [World.size_alloc] at h6 hah
  rw [hc] at hah
  obtain ⟨vo, vc, rfl, _⟩ := hV
  generalize wcode props ss ll = x at *
  clear hT hS hL hc
  go_enter Tryd.func13, Tryd.ntmps13
  go_wp2_with (first | (go_at_call 7; refine hah.mono ?_; rintro e w1 ⟨av, rfl, hb1, hi1⟩; obtain ⟨ao, acap, rfl, _⟩ := hi1; have g6 := h6.below hb1 (by omega); have hbw := hA.trans (hb1.mono (by omega)); have hc1 := hch w1 hbw; have d0 := (hb1.cell (p := ⟨w.heap.size, 0, none⟩) (by show w.heap.size < _; omega)).trans hw0; have d1 := (hb1.cell (p := ⟨w.heap.size, 1, none⟩) (by show w.heap.size < _; omega)).trans hw1) | (go_at_call 20; refine hc1.mono ?_; rintro e w2 ⟨rfl, hb2⟩; have g7 := g6.below hb2 g6.hl; obtain ⟨k0, f0, k1, f1, k2, f2, k3, f3, k4, f4, k5, f5, _⟩ := id g7))
  refine bodyPost_ret (v := .tuple #[.agg #[.slice none 0 0, .slice none 0 0, .slice none 0 0, .slice none 0 0, .int .i64 0, .slice none 0 0], .int .i64 x]) ?_ rfl ⟨rfl, ?_⟩
  · obtain ⟨q0, q1, q2, q3, q4, q5⟩ := g7.read (.slice none 0 0) (.slice none 0 0) (.slice none 0 0) (.slice none 0 0) (.int .i64 0) (.slice none 0 0)
    simp [results, Tryd.results13, go_sem, q0, q1, q2, q3, q4, q5]
  · have hbw2 := hbw.trans (hb2.mono hbw.size)
    exact (((((hbw2.setCell (by simp) _).setCell (by simp) _).setCell (by simp) _).setCell (by simp) _).setCell (by simp) _).setCell (by simp) _
end Go.Proofs.YtoeagklgfaoejaaDoor
