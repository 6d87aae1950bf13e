/-
  A tape that came in; boxes that a law makes.
-/
import Derived.Test.YtjnobdpjohbdnaaTSync2
namespace Go.Proofs.Ytjnobdpjohbdnaa
open Go.ChangeShapes Go.WideShapes Go.ChangeAt Go.RowKit Go.Deep Go.Joins

theorem array2 {α : Type} {cs : Array α} (h : cs.size = 2) : ∃ c0 c1, cs = #[c0, c1] := by
  obtain ⟨l⟩ := cs
  match l, h with
  | [c0, c1], _ => exact ⟨c0, c1, rfl⟩
section
variable {H : Type} {enc : TypeId × Value → H} {W : World}
set_option maxRecDepth 20000 in
theorem open_tape {base : Nat} {v : Value} {d : DataW H} {p : List MemPlace} {ts : List TypeId} {ds : List (DataW H)} {j : Nat}
    (hv : Value.okWide Try.prog W .any base 29 v) (h : DataW.Trod enc Try.prog W 0 (fun _ => true) true 29 v d p)
    (hsz : (DataW.weightsEach Try.prog ts ds).all (· ≤ reachBytes) = true) (ht : ts[j]? = some 29) (hd : ds[j]? = some d) : ∃ bv s l, v = .agg #[bv, .int .i64 s] ∧ BytesV W bv l ∧ l.length ≤ 140737488355328 := by
  obtain ⟨cs, rfl, hs⟩ := okWide_struct Try.underlying29 hv
  obtain ⟨c0, c1, rfl⟩ := array2 (hs.trans cellsTape)
  obtain ⟨fuel, hf⟩ := h
  obtain ⟨xs, n, _, hx, hl, hlen, hg⟩ := DataW.trod_struct Try.underlying29 hf
  match xs, hlen with
  | [y0, y1], _ =>
    have g0 : DataW.trod enc Try.prog W 0 (fun _ => true) true n 22 [c0] = some y0 := by simpa [Value.cells, cellsBytes] using hg 0 _ rfl
    have g1 : DataW.trod enc Try.prog W 0 (fun _ => true) true n 3 [c1] = some y1 := by simpa [Value.cells, cellsInt] using hg 1 _ rfl
    have hd' : d = .agg [y0.1, y1.1] := by simpa using congrArg Prod.fst hx
    have hw : LightW 29 (.agg [y0.1, y1.1]) := by have := light_of hsz ht hd; rwa [hd'] at this
    have w0 : LightW 22 y0.1 := fun n hn => hw n (by simp [DataW.weights, Try.underlying29, DataW.weightsEach, hn])
    obtain ⟨l, h1, h2⟩ := open_bytes_c g0 w0
    obtain ⟨x1, e1, _, _⟩ := DataW.trod_int Try.underlying3 g1
    simp at e1
    exact ⟨c0, x1, l, by rw [e1], h1, h2⟩
end

/-- a box that a law makes. -/
theorem box_new (w : World) (x0 x1 y0 y1 : Value) (t : TypeId) : Below w.heap.size w (((w.alloc (.cells #[x0, x1] t)).setCell ⟨w.heap.size, 0, none⟩ y0).setCell ⟨w.heap.size, 1, none⟩ y1) ∧ w.heap.size < (((w.alloc (.cells #[x0, x1] t)).setCell ⟨w.heap.size, 0, none⟩ y0).setCell ⟨w.heap.size, 1, none⟩ y1).heap.size ∧ (((w.alloc (.cells #[x0, x1] t)).setCell ⟨w.heap.size, 0, none⟩ y0).setCell ⟨w.heap.size, 1, none⟩ y1).cell? ⟨w.heap.size, 0, none⟩ = some y0 ∧ (((w.alloc (.cells #[x0, x1] t)).setCell ⟨w.heap.size, 0, none⟩ y0).setCell ⟨w.heap.size, 1, none⟩ y1).cell? ⟨w.heap.size, 1, none⟩ = some y1 := by
  refine ⟨(((Below.refl _ _).alloc (Nat.le_refl _) _).setCell (p := ⟨w.heap.size, 0, none⟩) (Nat.le_refl _) _).setCell (p := ⟨w.heap.size, 1, none⟩) (Nat.le_refl _) _, by simp, ?_, ?_⟩ <;> simp [go_sem]
/-- what a box holds. -/
def Bc (w1 : World) (b : Nat) (y0 y1 : Value) : Prop := b < w1.heap.size ∧ w1.cell? ⟨b, 0, none⟩ = some y0 ∧ w1.cell? ⟨b, 1, none⟩ = some y1
theorem Bc.later {w1 w2 : World} {b : Nat} {y0 y1 : Value} (h : Bc w1 b y0 y1) (hb : Below w1.heap.size w1 w2) : Bc w2 b y0 y1 :=
  ⟨Nat.lt_of_lt_of_le h.1 hb.size, (hb.cell (p := ⟨b, 0, none⟩) h.1).trans h.2.1, (hb.cell (p := ⟨b, 1, none⟩) h.1).trans h.2.2⟩
theorem Bc.arg (w : World) (y0 y1 : Value) (t : TypeId) : Below w.heap.size w (w.alloc (.cells #[y0, y1] t)) ∧ Bc (w.alloc (.cells #[y0, y1] t)) w.heap.size y0 y1 := by
  refine ⟨(Below.refl _ _).alloc (Nat.le_refl _) _, by simp, ?_, ?_⟩ <;> simp [go_sem]
theorem Bc.new (w : World) (x0 x1 y0 y1 : Value) (t : TypeId) : Below w.heap.size w (((w.alloc (.cells #[x0, x1] t)).setCell ⟨w.heap.size, 0, none⟩ y0).setCell ⟨w.heap.size, 1, none⟩ y1) ∧ Bc (((w.alloc (.cells #[x0, x1] t)).setCell ⟨w.heap.size, 0, none⟩ y0).setCell ⟨w.heap.size, 1, none⟩ y1) w.heap.size y0 y1 :=
  ⟨(box_new w x0 x1 y0 y1 t).1, (box_new w x0 x1 y0 y1 t).2⟩
end Go.Proofs.Ytjnobdpjohbdnaa
