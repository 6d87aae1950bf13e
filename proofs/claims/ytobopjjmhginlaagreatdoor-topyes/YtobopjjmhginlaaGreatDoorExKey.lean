import Derived.Test.YtobopjjmhginlaaGreatDoorPFol0
import Derived.Test.YtobopjjmhginlaaGreatDoorExM
namespace Go.Proofs.YtobopjjmhginlaaGreatDoor
open Go.ChangeShapes Go.WideShapes Go.ChangeAt Go.RowKit Go.Deep Go.Maps
open Terms Tm
set_option maxHeartbeats 6400000
set_option maxRecDepth 20000
theorem rowSpot : (87 : TypeId) < Tryz.prog.types.size := of_decide_eq_true (by kernel_rfl)
theorem keyedSpot : Keyed Tryz.prog 87 := Keyed.of_law (deep_law_laid laidOutP (m := 3) (by omega) rowSpot (by kernel_rfl) (by rw [Tryz.underlying87]))
theorem keyTypeSpot : Tryz.prog.keyType 87 = true := by kernel_rfl
theorem cellsSpot2 : Tryz.prog.cellsOf 87 = 2 := by kernel_rfl
def spotV (p : Int × Int) : Value := .agg #[.int .i64 p.1, .int .i64 p.2]
def I64s (p : Int × Int) : Prop := (-9223372036854775808 <= p.1 /\ p.1 <= 9223372036854775807) /\ (-9223372036854775808 <= p.2 /\ p.2 <= 9223372036854775807)
def spotK (p : Int × Int) : Lit := .string (keyBytes [.int .i64 p.1, .int .i64 p.2])
theorem keySpot {p : Int × Int} (h : I64s p) : keyOf Tryz.prog 87 (spotV p) = some (spotK p) := by
  obtain ⟨d, hd⟩ := sizeTwo; have hwc : (Lit.int .i64 p.1).wf = true := WalkArith.wf_i64 (by have := h.1; omega)
  have hws : (Lit.int .i64 p.2).wf = true := WalkArith.wf_i64 (by have := h.2; omega)
  unfold keyOf spotV spotK; rw [Tryz.underlying87]; simp only [keyTypeSpot, Value.formed, Tryz.underlying87, cellsSpot2, hd]; simp [Program.keyLits, Tryz.underlying87, Tryz.underlying3, cellsSpot2, cellsI, Value.cells, hwc, hws, List.range]
theorem spotK_inj {p q : Int × Int} (hp : I64s p) (hq : I64s q) (h : spotK p = spotK q) : p = q := by
  have e := keyedSpot.inj (keySpot hp) (h ▸ keySpot hq); simp only [spotV, Value.agg.injEq] at e; simp at e
  exact Prod.ext e.1 e.2
def LiesAt (w : World) (b : Nat) (S : List (Int × Int)) : Prop :=
  ∃ f, MapIs w 87 b S.length f /\ ∀ p, I64s p -> f (spotK p) = if p ∈ S then some (.int .i64 (S.idxOf p : Nat)) else none
theorem LiesAt.new {w : World} {b : Nat} (h : w.heap[b]? = some (.map #[] 0)) : LiesAt w b [] := ⟨_, MapIs.new _ h, fun p _ => by simp⟩
theorem LiesAt.kept {w w' : World} {b : Nat} {S : List (Int × Int)} (h : LiesAt w b S) (e : w'.heap[b]? = w.heap[b]?) : LiesAt w' b S := by
  obtain ⟨f, h1, h2⟩ := h; exact ⟨f, h1.kept e, h2⟩
theorem LiesAt.look {w : World} {b : Nat} {S : List (Int × Int)} (h : LiesAt w b S) {p : Int × Int} (hp : I64s p) : (Instr.lookup 81 (.map (some b)) (spotV p) true).run Tryz.prog w = .ok (.tuple #[if p ∈ S then .int .i64 (S.idxOf p : Nat) else .int .i64 0, .bool (decide (p ∈ S))]) w := by
  obtain ⟨f, h1, h2⟩ := h; rw [h1.look keyedSpot Tryz.underlying81 (z := .int .i64 0) (zeroInt w) (keySpot hp), h2 p hp]
  split <;> simp [*]
theorem LiesAt.put {w : World} {b : Nat} {S : List (Int × Int)} (h : LiesAt w b S) {p : Int × Int} (hp : I64s p) (hS : p ∉ S) (hn : S.length < maxLen) : ∃ w', (Instr.mapUpdate 81 (.map (some b)) (spotV p) (.int .i64 (S.length : Nat))).run Tryz.prog w = .ok () w' /\ LiesAt w' b (plOne S p) /\ w.grownBy w' (some b) := by
  obtain ⟨f, h1, h2⟩ := h; obtain ⟨w', hr, hm, hg⟩ := h1.put keyedSpot Tryz.underlying81 hn (val := .int .i64 (S.length : Nat)) (keySpot hp) (keyedSpot.key (keySpot hp)); have e : plOne S p = S ++ [p] := by unfold plOne; rw [if_neg hS]; refine ⟨w', hr, ⟨_, by rw [e, List.length_append, List.length_singleton]; exact hm, fun q hq => ?_⟩, hg⟩
  by_cases hqp : q = p
  · subst hqp
    rw [fput_same, if_pos (plOne_mem S q), plOne_idx hS]
  · rw [fput_other (fun e => hqp (spotK_inj hq hp e)), h2 q hq]
    by_cases hqS : q ∈ S
    · rw [if_pos hqS, if_pos (plOne_iff.2 (.inl hqS)), idx_pre (plOne_pre S p) hqS]
    · rw [if_neg hqS, if_neg (fun e => (plOne_iff.1 e).elim hqS hqp)]
end Go.Proofs.YtobopjjmhginlaaGreatDoor
