/-
  The contract of polish.Ends.
-/
import Derived.Test.YtknneajaklcjdaaPolish
namespace Go.Proofs.Ytknneajaklcjdaa
open Go.RowKit Go.Deep
open Terms

theorem infoInt : (Try.prog.info? 3).map (fun i => (i.zero, i.size, i.bytes)) = some (some (.int .i64 0), 1, 8) := by kernel_rfl
theorem hmakeFunc (fn : Fn) (first cap : Array Value) (w : World) : (Instr.makeFunc fn first cap).run Try.prog w = .ok (.func fn first cap) w := rfl

/-- What Ends leaves of a list of so many kinds: an error's number, or where each ends, in new memory. -/
def endsCode (ks : List Int) : Int := if 60 < ks.length then 1 else match cnt ks 1 with
  | .no x => x
  | .ok m => if m < ks.length then 3 else 0

def EndsPost (ks : List Int) (w : World) (e : Ending) (w' : World) : Prop :=
  Below w.heap.size w w' ∧
  (endsCode ks ≠ 0 → e = .returned (.tuple #[.slice none 0 0, .int .i64 (endsCode ks)])) ∧
  (endsCode ks = 0 → ∃ B, w.heap.size ≤ B ∧ e = .returned (.tuple #[.slice (some ⟨B, 0, none⟩) ks.length ks.length, .int .i64 0]) ∧ w'.rowIs B 3 ks.length (fun q => .int .i64 (endAt ks q)))

/-- the two results' cells and the new row, as Ends has laid them when it reads. -/
def laid3 (w : World) (n : Nat) : World :=
  ((w.alloc (.cells #[.slice (some ⟨w.heap.size + 1 + 1, 0, none⟩) n n] 24)).alloc (.cells #[.int .i64 0] 28)).alloc (.cells (madeCells #[.int .i64 0] n) 3)
theorem laid3_below (w : World) (n : Nat) : Below w.heap.size w (laid3 w n) :=
  (((Below.refl _ _).alloc (Nat.le_refl _) _).alloc (by simp) _).alloc (by simp; omega) _
theorem laid3_row (w : World) (n : Nat) : (laid3 w n).rowIs (w.heap.size + 1 + 1) 3 n (fun _ => .int .i64 0) := by
  have := World.rowIs_made ((w.alloc (.cells #[.slice (some ⟨w.heap.size + 1 + 1, 0, none⟩) n n] 24)).alloc (.cells #[.int .i64 0] 28)) (.int .i64 0) n 3
  simpa [laid3] using this
theorem laid3_cells (w : World) (n : Nat) {w' : World} (h : Below (w.heap.size + 1 + 1) (laid3 w n) w') :
    w'.cell? ⟨w.heap.size, 0, none⟩ = some (.slice (some ⟨w.heap.size + 1 + 1, 0, none⟩) n n) ∧ w'.cell? ⟨w.heap.size + 1, 0, none⟩ = some (.int .i64 0) ∧
      w'.frozen? ⟨w.heap.size, 0, none⟩ = false ∧ w'.frozen? ⟨w.heap.size + 1, 0, none⟩ = false ∧ w.heap.size + 1 + 1 < w'.heap.size := by
  have hs := h.size
  refine ⟨?_, ?_, ?_, ?_, ?_⟩
  · rw [h.cell (p := ⟨w.heap.size, 0, none⟩) (by simp; omega)]; simp [laid3, go_sem]
  · rw [h.cell (p := ⟨w.heap.size + 1, 0, none⟩) (by simp)]; simp [laid3, go_sem]
  · rw [h.frozen (p := ⟨w.heap.size, 0, none⟩) (by simp; omega)]; simp [laid3, go_sem]
  · rw [h.frozen (p := ⟨w.heap.size + 1, 0, none⟩) (by simp)]; simp [laid3, go_sem]
  · simp [laid3] at hs; omega

/-- a slice of ops of these kinds, below a block's number. -/
def Kinds (w : World) (v : Value) (ks : List Int) : Prop := ∃ ao cap, v = .slice ao ks.length cap ∧ (ks ≠ [] → ∃ b off, ao = some ⟨b, off, none⟩ ∧ b < w.heap.size ∧ KindsAt w b off ks)
theorem Kinds.below {w w' : World} {v : Value} {ks : List Int} (h : Kinds w v ks) (hb : Below w.heap.size w w') : Kinds w' v ks := by
  obtain ⟨ao, cap, rfl, h⟩ := h
  refine ⟨ao, cap, rfl, fun hne => ?_⟩
  obtain ⟨b, off, rfl, hlt, hk⟩ := h hne
  exact ⟨b, off, rfl, Nat.lt_of_lt_of_le hlt hb.size, hk.below hb hlt⟩

end Go.Proofs.Ytknneajaklcjdaa
