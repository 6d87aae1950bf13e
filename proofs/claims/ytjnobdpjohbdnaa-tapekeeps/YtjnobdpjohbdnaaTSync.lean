/-
  tape.Sync and Crash, and the document's own.
-/
import Derived.Test.YtjnobdpjohbdnaaTCut
namespace Go.Proofs.Ytjnobdpjohbdnaa
open Go.ChangeShapes Go.WideShapes Go.ChangeAt Go.RowKit Go.Deep

/-- two boxes: the argument's and the result's. -/
structure Bx (w w1 : World) (x0 x1 : Value) : Prop where
  b : Below w.heap.size w w1
  z : w.heap.size + 1 + 1 ≤ w1.heap.size
  a0 : w1.cell? ⟨w.heap.size, 0, none⟩ = some x0
  a1 : w1.cell? ⟨w.heap.size, 1, none⟩ = some x1
  r0 : w1.cell? ⟨w.heap.size + 1, 0, none⟩ = some (.slice none 0 0)
  r1 : w1.cell? ⟨w.heap.size + 1, 1, none⟩ = some (.int .i64 0)
  f0 : w1.frozen? ⟨w.heap.size + 1, 0, none⟩ = false
  f1 : w1.frozen? ⟨w.heap.size + 1, 1, none⟩ = false
theorem Bx.start (w : World) (x0 x1 : Value) (t t' : TypeId) : Bx w ((w.alloc (.cells #[x0, x1] t)).alloc (.cells #[.slice none 0 0, .int .i64 0] t')) x0 x1 := by
  refine ⟨((Below.refl _ _).alloc (Nat.le_refl _) _).alloc (by simp) _, by simp, ?_, ?_, ?_, ?_, ?_, ?_⟩ <;> simp [go_sem]
theorem Bx.later {w w1 w2 : World} {x0 x1 : Value} (h : Bx w w1 x0 x1) (hb : Below w1.heap.size w1 w2) : Bx w w2 x0 x1 := by
  have hz := h.z
  exact ⟨h.b.trans (hb.mono h.b.size), Nat.le_trans h.z hb.size, (hb.cell (p := ⟨w.heap.size, 0, none⟩) (by show w.heap.size < _; omega)).trans h.a0, (hb.cell (p := ⟨w.heap.size, 1, none⟩) (by show w.heap.size < _; omega)).trans h.a1, (hb.cell (p := ⟨w.heap.size + 1, 0, none⟩) (by show w.heap.size + 1 < _; omega)).trans h.r0, (hb.cell (p := ⟨w.heap.size + 1, 1, none⟩) (by show w.heap.size + 1 < _; omega)).trans h.r1, (hb.frozen (p := ⟨w.heap.size + 1, 0, none⟩) (by show w.heap.size + 1 < _; omega)).trans h.f0, (hb.frozen (p := ⟨w.heap.size + 1, 1, none⟩) (by show w.heap.size + 1 < _; omega)).trans h.f1⟩
/-- the result is laid in its box. -/
theorem Bx.done {w w1 : World} {x0 x1 : Value} (h : Bx w w1 x0 x1) (v0 v1 : Value) : Below w.heap.size w ((w1.setCell ⟨w.heap.size + 1, 0, none⟩ v0).setCell ⟨w.heap.size + 1, 1, none⟩ v1) :=
  (h.b.setCell (p := ⟨w.heap.size + 1, 0, none⟩) (by simp) _).setCell (p := ⟨w.heap.size + 1, 1, none⟩) (by simp) _
theorem owns_done {w w1 : World} {v : Value} {n : Nat} {xs : List Value} {base : Nat} (h : w1.ownsRow base 5 1 v n xs) (hb : w.heap.size + 1 + 1 ≤ base) (v0 v1 : Value) : ((w1.setCell ⟨w.heap.size + 1, 0, none⟩ v0).setCell ⟨w.heap.size + 1, 1, none⟩ v1).ownsRow w.heap.size 5 1 v n xs :=
  owns_mono (owns_setCell (owns_setCell h (by show w.heap.size + 1 < _; omega) _) (by show w.heap.size + 1 < _; omega) _) (by omega)

/-- AN ANSWER: a tape and a code. -/
def TAns (w : World) (l : List UInt8) (s c : Int) (e : Ending) (w' : World) : Prop :=
  ∃ ao cap, e = .returned (.tuple #[.agg #[.slice ao l.length cap, .int .i64 s], .int .i64 c]) ∧ Below w.heap.size w w' ∧ Hid (w'.ownsRow w.heap.size 5 1 (.slice ao l.length cap) l.length (bvals l))
theorem take_len {l : List UInt8} {n : Nat} (h : n ≤ l.length) : (l.take n).length = n := by rw [List.length_take]; omega

set_option maxHeartbeats 800000 in
set_option maxRecDepth 20000 in
theorem sync_bad (ao : Option Addr) (cap : Nat) (l : List UInt8) (s : Int) (w : World) (hm : mayB l.length s = false) :
    Calls Try.prog 15 #[.agg #[.slice ao l.length cap, .int .i64 s]] w (TAns w [] 0 9) := by
  have hst := Bx.start w (.slice ao l.length cap) (.int .i64 s) 29 29
  have hmb := mayBe_any ao l.length cap s ((w.alloc (.cells #[.slice ao l.length cap, .int .i64 s] 29)).alloc (.cells #[.slice none 0 0, .int .i64 0] 29))
  rw [hm] at hmb
  have HBx : Hid (∀ w1, Below ((w.alloc (.cells #[.slice ao l.length cap, .int .i64 s] 29)).alloc (.cells #[.slice none 0 0, .int .i64 0] 29)).heap.size ((w.alloc (.cells #[.slice ao l.length cap, .int .i64 s] 29)).alloc (.cells #[.slice none 0 0, .int .i64 0] 29)) w1 → Bx w w1 (.slice ao l.length cap) (.int .i64 s)) := fun w1 hb => hst.later hb
  generalize l.length = n at *
  clear hst hm
  go_enter Try.func15, Try.ntmps15
  go_wp2_with (go_at_call 21; refine hmb.mono ?_; rintro e w1 ⟨rfl, hb1⟩; have hx := HBx.out w1 hb1; obtain ⟨_, _, a0, a1, r0, r1, f0, f1⟩ := id hx)
  refine bodyPost_ret (v := .tuple #[.agg #[.slice none 0 0, .int .i64 0], .int .i64 9]) ?_ rfl ⟨none, 0, rfl, hx.done _ _, World.ownsRow_nil _ _ _ _⟩
  simp [results, Try.results15, go_sem, r0, r1]

set_option maxHeartbeats 800000 in
set_option maxRecDepth 20000 in
theorem sync_ok (ao : Option Addr) (cap : Nat) (l : List UInt8) (s : Int) (w : World) (hm : mayB l.length s = true) (hV : BytesV w (.slice ao l.length cap) l) :
    Calls Try.prog 15 #[.agg #[.slice ao l.length cap, .int .i64 s]] w (TAns w l l.length 0) := by
  have hl : l.length ≤ 1048576 := by simp [mayB] at hm; omega
  have hst := Bx.start w (.slice ao l.length cap) (.int .i64 s) 29 29
  have hmb := mayBe_any ao l.length cap s ((w.alloc (.cells #[.slice ao l.length cap, .int .i64 s] 29)).alloc (.cells #[.slice none 0 0, .int .i64 0] 29))
  rw [hm] at hmb
  have HBx : Hid (∀ w1, Below ((w.alloc (.cells #[.slice ao l.length cap, .int .i64 s] 29)).alloc (.cells #[.slice none 0 0, .int .i64 0] 29)).heap.size ((w.alloc (.cells #[.slice ao l.length cap, .int .i64 s] 29)).alloc (.cells #[.slice none 0 0, .int .i64 0] 29)) w1 → Bx w w1 (.slice ao l.length cap) (.int .i64 s)) := fun w1 hb => hst.later hb
  have HCu : Hid (∀ w1, Bx w w1 (.slice ao l.length cap) (.int .i64 s) → Calls Try.prog 24 #[.agg #[.slice ao l.length cap, .int .i64 s], .int .i64 l.length, .int .i64 l.length] w1 fun e w' => ∃ ao' cap', e = .returned (.agg #[.slice ao' l.length cap', .int .i64 l.length]) ∧ Below w1.heap.size w1 w' ∧ Hid (w'.ownsRow w1.heap.size 5 1 (.slice ao' l.length cap') l.length (bvals l))) := fun w1 hx => by
    have := cut_any ao cap l s l.length l.length w1 hl (Nat.le_refl _) (hV.below hx.b)
    rw [List.take_length] at this
    exact this
  have HT : TAns w l l.length 0 = fun e w' => ∃ ao cap, e = .returned (.tuple #[.agg #[.slice ao l.length cap, .int .i64 l.length], .int .i64 0]) ∧ Below w.heap.size w w' ∧ Hid (w'.ownsRow w.heap.size 5 1 (.slice ao l.length cap) l.length (bvals l)) := rfl
  rw [HT]
  clear HT
  generalize bvals l = xs at *
  generalize l.length = n at *
  clear hst hm hV
  go_enter Try.func15, Try.ntmps15
  go_wp2_with (first | (go_at_call 21; refine hmb.mono ?_; rintro e w1 ⟨rfl, hb1⟩; have hx := HBx.out w1 hb1; have hcu := HCu.out w1 hx; obtain ⟨_, _, a0, a1, _, _, _, _⟩ := id hx) | (go_at_call 24; refine hcu.mono ?_; rintro e w2 ⟨bo, bc, rfl, hb2, HO⟩; have hx2 := hx.later hb2; obtain ⟨_, _, _, _, r0, r1, f0, f1⟩ := id hx2))
  refine bodyPost_ret (v := .tuple #[.agg #[.slice bo n bc, .int .i64 n], .int .i64 0]) ?_ rfl ⟨bo, bc, rfl, hx2.done _ _, owns_done HO.out hx.z _ _⟩
  simp [results, Try.results15, go_sem, r0, r1]
end Go.Proofs.Ytjnobdpjohbdnaa
