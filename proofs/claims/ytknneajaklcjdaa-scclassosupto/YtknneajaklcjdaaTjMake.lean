/-
  The statement of scc.partsOf that makes the walk: four rows and a box, in whatever order.
-/
import Derived.Test.YtknneajaklcjdaaTjGo
namespace Go.Proofs.Ytknneajaklcjdaa
open Go.ChangeShapes Go.WideShapes Go.ChangeAt Go.RowKit Go.Deep
open Terms

/-- A REGION IN WHATEVER ORDER, BY WHAT EACH STEP KEEPS. -/
theorem wpAny_inv {P : Program} {md : Region.Mode} {ops : Array Oper} {Q : Exit → Act → World → Prop} (I : Nat → Array Bool → Act → World → Prop)
    (hs : ∀ k l a w, I k l a w → (Region.ready md ops l = [] → Q .normal a w) ∧ (k = 0 → Region.ready md ops l = []) ∧ ∀ k', k = k' + 1 → ∀ i ∈ Region.ready md ops l, wpOp P ops Q i (fun a' w' => I k' (l.setIfInBounds i true) a' w') a w) :
    ∀ k l a w, I k l a w → wpAny P md ops Q k l a w
  | 0, l, a, w, h => ⟨(hs 0 l a w h).2.1 rfl, (hs 0 l a w h).1 ((hs 0 l a w h).2.1 rfl)⟩
  | k + 1, l, a, w, h => ⟨(hs _ l a w h).1, fun i hi => wpOp_mono (fun a' w' h' => wpAny_inv I hs k _ a' w' h') ((hs _ l a w h).2.2 k rfl i hi)⟩
theorem wpOp_val {P : Program} {ops : Array Oper} {Q : Exit → Act → World → Prop} {i : Nat} {K : Act → World → Prop} {a a' : Act} {w w' : World} {o : Oper} (v : Value) (hi : ops[i]? = some o) (hg : o.guard = none) (hr : (execOp a.eval o).run P w = .ok (.value v) w') (ha : a.put o.dst v = a') (h : K a' w') : wpOp P ops Q i K a w := by
  unfold wpOp
  simp only [hi]
  rw [if_pos (by unfold Region.wanted; rw [hg])]
  refine Or.inl ?_
  unfold Oper.wp
  rw [hr]
  simp only [Oper.upon]
  rw [ha]
  exact h
theorem wpOp_unit {P : Program} {ops : Array Oper} {Q : Exit → Act → World → Prop} {i : Nat} {K : Act → World → Prop} {a : Act} {w w' : World} {o : Oper} (hi : ops[i]? = some o) (hg : o.guard = none) (hd : o.dst = none) (hr : (execOp a.eval o).run P w = .ok .skip w') (h : K a w') : wpOp P ops Q i K a w := by
  unfold wpOp
  simp only [hi]
  rw [if_pos (by unfold Region.wanted; rw [hg])]
  refine Or.inl ?_
  unfold Oper.wp
  rw [hr]
  simp only [Oper.upon]
  rw [hd]
  exact h
def bN : Bool → Nat
  | true => 0
  | false => 1
def fr (r : Nat → Value) : Act := ⟨#[r 0, r 1, r 2, r 3, r 4, r 5, r 6, r 7, r 8, r 9, r 10, r 11, r 12, r 13, r 14, r 15, r 16, r 17, r 18, r 19, r 20, r 21, r 22, r 23, r 24, r 25, r 26, r 27, r 28, r 29, r 30, r 31, r 32, r 33, r 34, r 35, r 36, r 37, r 38, r 39, r 40, r 41, r 42, r 43, r 44, r 45, r 46], []⟩
def lst (d : Nat → Bool) : Array Bool := #[d 0, d 1, d 2, d 3, d 4, d 5, d 6, d 7, d 8, d 9, d 10, d 11]
def nF (d : Nat → Bool) : Nat := bN (d 0) + bN (d 1) + bN (d 2) + bN (d 3) + bN (d 4) + bN (d 5) + bN (d 6) + bN (d 7) + bN (d 8) + bN (d 9) + bN (d 10) + bN (d 11)
def updB (d : Nat → Bool) (i : Nat) : Nat → Bool := fun j => if j = i then true else d j
def updV (r : Nat → Value) (i : Nat) (v : Value) : Nat → Value := fun j => if j = i then v else r j
def e1 (i : Nat) : Array Edge := #[⟨i, .data⟩, ⟨i, .data⟩]
def partsOps (s : String) : Array Oper := #[
  ⟨some 10, .load 26 (.tmp 1), 26, s, #[], none⟩,
  ⟨some 11, .move (.tmp 3), 3, s, #[], none⟩,
  ⟨some 12, .makeSlice 24 (.tmp 11) (.tmp 11), 24, s, #[⟨1, .data⟩, ⟨1, .data⟩], none⟩,
  ⟨some 13, .move (.tmp 3), 3, s, #[], none⟩,
  ⟨some 14, .makeSlice 24 (.tmp 13) (.tmp 13), 24, s, #[⟨3, .data⟩, ⟨3, .data⟩], none⟩,
  ⟨some 15, .move (.tmp 3), 3, s, #[], none⟩,
  ⟨some 16, .makeSlice 24 (.tmp 15) (.tmp 15), 24, s, #[⟨5, .data⟩, ⟨5, .data⟩], none⟩,
  ⟨some 17, .move (.tmp 3), 3, s, #[], none⟩,
  ⟨some 18, .makeSlice 24 (.tmp 17) (.tmp 17), 24, s, #[⟨7, .data⟩, ⟨7, .data⟩], none⟩,
  ⟨some 19, .build 57 #[(0, .tmp 10), (3, .tmp 12), (4, .tmp 14), (5, .tmp 16), (7, .tmp 18)], 57, s, #[⟨0, .data⟩, ⟨2, .data⟩, ⟨4, .data⟩, ⟨6, .data⟩, ⟨8, .data⟩], none⟩,
  ⟨some 4, .alloc 57, 0, s, #[], none⟩,
  ⟨none, .store 57 (.tmp 4) (.tmp 19), 0, s, #[⟨10, .data⟩, ⟨9, .data⟩, ⟨0, .phase⟩, ⟨1, .phase⟩, ⟨2, .phase⟩, ⟨3, .phase⟩, ⟨4, .phase⟩, ⟨5, .phase⟩, ⟨6, .phase⟩, ⟨7, .phase⟩, ⟨8, .phase⟩, ⟨9, .phase⟩, ⟨10, .phase⟩], none⟩]
def RD (d : Nat → Bool) (i : Nat) : Prop := (i = 0 ∧ d 0 = false) ∨ (i = 1 ∧ d 1 = false) ∨ (i = 2 ∧ d 2 = false ∧ d 1 = true) ∨ (i = 3 ∧ d 3 = false) ∨ (i = 4 ∧ d 4 = false ∧ d 3 = true) ∨ (i = 5 ∧ d 5 = false) ∨ (i = 6 ∧ d 6 = false ∧ d 5 = true) ∨ (i = 7 ∧ d 7 = false) ∨ (i = 8 ∧ d 8 = false ∧ d 7 = true) ∨ (i = 9 ∧ d 9 = false ∧ d 0 = true ∧ d 2 = true ∧ d 4 = true ∧ d 6 = true ∧ d 8 = true) ∨ (i = 10 ∧ d 10 = false) ∨ (i = 11 ∧ d 11 = false ∧ d 10 = true ∧ d 9 = true)
theorem ready_is (s : String) (d : Nat → Bool) (i : Nat) (h : i ∈ Region.ready .any (partsOps s) (lst d)) : RD d i := by
  unfold Region.ready at h
  rw [List.mem_filter] at h
  obtain ⟨h1, h2⟩ := h
  have h3 : i < 12 := List.mem_range.1 h1
  have : i = 0 ∨ i = 1 ∨ i = 2 ∨ i = 3 ∨ i = 4 ∨ i = 5 ∨ i = 6 ∨ i = 7 ∨ i = 8 ∨ i = 9 ∨ i = 10 ∨ i = 11 := by omega
  unfold RD
  rcases this with rfl | rfl | rfl | rfl | rfl | rfl | rfl | rfl | rfl | rfl | rfl | rfl <;> simp [partsOps, lst, Region.binds] at h2 <;> simp [h2]
theorem ready_none (s : String) (d : Nat → Bool) (h : Region.ready .any (partsOps s) (lst d) = []) : ∀ i, i < 12 → d i = true := by
  have hh : ∀ i, i < 12 → (!(lst d).getD i true && (((partsOps s)[i]?).map (·.after.all fun e => !Region.binds .any e || (lst d).getD e.on false)).getD false) = false := fun i hi => by
    unfold Region.ready at h
    rw [List.filter_eq_nil_iff] at h
    have := h i (List.mem_range.2 hi)
    simpa using this
  have h0 : d 0 = true := by have := hh 0 (by omega); simpa [partsOps, lst] using this
  have h1 : d 1 = true := by have := hh 1 (by omega); simpa [partsOps, lst] using this
  have h3 : d 3 = true := by have := hh 3 (by omega); simpa [partsOps, lst] using this
  have h5 : d 5 = true := by have := hh 5 (by omega); simpa [partsOps, lst] using this
  have h7 : d 7 = true := by have := hh 7 (by omega); simpa [partsOps, lst] using this
  have h10 : d 10 = true := by have := hh 10 (by omega); simpa [partsOps, lst] using this
  have h2 : d 2 = true := by have := hh 2 (by omega); simpa [partsOps, lst, h1] using this
  have h4 : d 4 = true := by have := hh 4 (by omega); simpa [partsOps, lst, h3] using this
  have h6 : d 6 = true := by have := hh 6 (by omega); simpa [partsOps, lst, h5] using this
  have h8 : d 8 = true := by have := hh 8 (by omega); simpa [partsOps, lst, h7] using this
  have h9 : d 9 = true := by have := hh 9 (by omega); simpa [partsOps, lst, h0, h2, h4, h6, h8] using this
  have h11 : d 11 = true := by have := hh 11 (by omega); simpa [partsOps, lst, h0, h1, h2, h3, h4, h5, h6, h7, h8, h9, h10] using this
  intro i hi
  have : i = 0 ∨ i = 1 ∨ i = 2 ∨ i = 3 ∨ i = 4 ∨ i = 5 ∨ i = 6 ∨ i = 7 ∨ i = 8 ∨ i = 9 ∨ i = 10 ∨ i = 11 := by omega
  rcases this with rfl | rfl | rfl | rfl | rfl | rfl | rfl | rfl | rfl | rfl | rfl | rfl <;> assumption
theorem ready_all (s : String) (d : Nat → Bool) (h : ∀ i, i < 12 → d i = true) : Region.ready .any (partsOps s) (lst d) = [] := by
  unfold Region.ready
  rw [List.filter_eq_nil_iff]
  intro i hi
  have h3 : i < 12 := List.mem_range.1 hi
  have e : (lst d).getD i true = true := by
    have := h i h3
    have h4 : i = 0 ∨ i = 1 ∨ i = 2 ∨ i = 3 ∨ i = 4 ∨ i = 5 ∨ i = 6 ∨ i = 7 ∨ i = 8 ∨ i = 9 ∨ i = 10 ∨ i = 11 := by omega
    rcases h4 with rfl | rfl | rfl | rfl | rfl | rfl | rfl | rfl | rfl | rfl | rfl | rfl <;> simpa [lst] using this
  rw [e]; simp
/-- the walk's box, empty. -/
def zeroWalk : Array Value := #[.slice none 0 0, .int .i64 0, .slice none 0 0, .slice none 0 0, .int .i64 0, .slice none 0 0, .slice none 0 0, .slice none 0 0, .slice none 0 0, .slice none 0 0, .int .i64 0, .slice none 0 0]
set_option maxRecDepth 20000 in
theorem run_alloc (s : String) (r : Nat → Value) (w : World) : (execOp (fr r).eval ⟨some 4, .alloc 57, 0, s, #[], none⟩).run Try.prog w = .ok (.value (.pointer (some ⟨w.heap.size, 0, none⟩))) (w.alloc (.cells zeroWalk 57)) := by
  kernel_rfl
/-- the walk's box, as it is filled. -/
def fullWalk (so no bo : Option Addr) (sc nc bn bc n : Nat) (gi gm : Int) (b1 b2 b3 b4 : Nat) : Array Value := #[.slice so n sc, .int .i64 gi, .slice no n nc, .slice bo bn bc, .int .i64 gm, .slice none 0 0, .slice none 0 0, .slice (some ⟨b1, 0, none⟩) n n, .slice (some ⟨b2, 0, none⟩) n n, .slice (some ⟨b3, 0, none⟩) n n, .int .i64 0, .slice (some ⟨b4, 0, none⟩) n n]
def grV (so no bo : Option Addr) (sc nc bn bc n : Nat) (gi gm : Int) : Value := .agg #[.slice so n sc, .int .i64 gi, .slice no n nc, .slice bo bn bc, .int .i64 gm]
set_option maxRecDepth 20000 in
theorem run_build (s : String) (af : Array Edge) (r : Nat → Value) (w : World) (so no bo : Option Addr) (sc nc bn bc n : Nat) (gi gm : Int) (b1 b2 b3 b4 : Nat) (h10 : r 10 = grV so no bo sc nc bn bc n gi gm) (h12 : r 12 = .slice (some ⟨b1, 0, none⟩) n n) (h14 : r 14 = .slice (some ⟨b2, 0, none⟩) n n) (h16 : r 16 = .slice (some ⟨b3, 0, none⟩) n n) (h18 : r 18 = .slice (some ⟨b4, 0, none⟩) n n) : (execOp (fr r).eval ⟨some 19, .build 57 #[(0, .tmp 10), (3, .tmp 12), (4, .tmp 14), (5, .tmp 16), (7, .tmp 18)], 57, s, af, none⟩).run Try.prog w = .ok (.value (.agg (fullWalk so no bo sc nc bn bc n gi gm b1 b2 b3 b4))) w := by
  simp [execOp, fr, Act.eval, h10, grV, h12, h14, h16, h18, go_sem, fullWalk]
set_option maxRecDepth 20000 in
theorem run_load (s : String) (r : Nat → Value) (w : World) (b : Nat) (g0 g1 g2 g3 g4 : Value) (h1 : r 1 = .pointer (some ⟨b, 0, none⟩)) (c0 : w.cell? ⟨b, 0, none⟩ = some g0) (c1 : w.cell? ⟨b, 1, none⟩ = some g1) (c2 : w.cell? ⟨b, 2, none⟩ = some g2) (c3 : w.cell? ⟨b, 3, none⟩ = some g3) (c4 : w.cell? ⟨b, 4, none⟩ = some g4) : (execOp (fr r).eval ⟨some 10, .load 26 (.tmp 1), 26, s, #[], none⟩).run Try.prog w = .ok (.value (.agg #[g0, g1, g2, g3, g4])) w := by
  simp [execOp, fr, Act.eval, h1, go_sem, c0, c1, c2, c3, c4]
set_option maxRecDepth 20000 in
theorem run_move (s : String) (r : Nat → Value) (w : World) (dd : Nat) (v : Value) (h3 : r 3 = v) : (execOp (fr r).eval ⟨some dd, .move (.tmp 3), 3, s, #[], none⟩).run Try.prog w = .ok (.value v) w := by
  simp [execOp, fr, Act.eval, h3, go_sem]
set_option maxRecDepth 20000 in
theorem run_make (s : String) (af : Array Edge) (r : Nat → Value) (w : World) (dd t n : Nat) (hn : n ≤ 20000) (h : (fr r).eval (.tmp t) = .int .i64 (n : Int)) : (execOp (fr r).eval ⟨some dd, .makeSlice 24 (.tmp t) (.tmp t), 24, s, af, none⟩).run Try.prog w = .ok (.value (.slice (some ⟨w.heap.size, 0, none⟩) n n)) (w.alloc (.cells (madeCells #[.int .i64 0] n) 3)) := by
  have hmk := run_make_row' (P := Try.prog) 24 3 (.int .i64 0) 8 Try.underlying24 infoInt rfl .i64 .i64 n (by omega) (by omega) w
  have h' : (fr r).tmps[t]?.getD undef = .int .i64 (n : Int) := by simpa [Act.eval] using h
  simp [execOp, h', go_sem, hmk]
set_option maxHeartbeats 1600000 in
set_option maxRecDepth 20000 in
theorem run_store (s : String) (af : Array Edge) (r : Nat → Value) (w : World) (b : Nat) (so no bo : Option Addr) (sc nc bn bc n : Nat) (gi gm : Int) (b1 b2 b3 b4 : Nat) (h4 : r 4 = .pointer (some ⟨b, 0, none⟩)) (h19 : r 19 = .agg (fullWalk so no bo sc nc bn bc n gi gm b1 b2 b3 b4)) (hb : w.heap[b]? = some (.cells zeroWalk 57 (0, 0))) : ∃ w', (execOp (fr r).eval ⟨none, .store 57 (.tmp 4) (.tmp 19), 0, s, af, none⟩).run Try.prog w = .ok .skip w' ∧ w'.heap[b]? = some (.cells (fullWalk so no bo sc nc bn bc n gi gm b1 b2 b3 b4) 57 (0, 0)) ∧ (∀ i, i ≠ b → w'.heap[i]? = w.heap[i]?) ∧ ∀ B W, B ≤ b → Below B W w → Below B W w' := by
  have hc : ∀ j, w.cell? ⟨b, j, none⟩ = zeroWalk[j]? := fun j => by simp [World.cell?, hb]
  have hf : ∀ j, w.frozen? ⟨b, j, none⟩ = false := fun j => by simp [World.frozen?, hb]
  refine ⟨w.setCells b 0 (fullWalk so no bo sc nc bn bc n gi gm b1 b2 b3 b4).toList, ?_, ?_, ?_, ?_⟩
  · simp [execOp, fr, Act.eval, h4, h19, go_sem, hc, hf, zeroWalk, fullWalk, World.setCells]
  · simp [fullWalk, World.setCells, World.setCell, Array.getElem?_modify, hb, zeroWalk]
  · intro i hi
    simp [fullWalk, World.setCells, World.setCell, Array.getElem?_modify, Ne.symm hi]
  · intro B W hB h
    simp only [fullWalk, World.setCells]
    repeat (first | refine Below.setCell ?_ hB _ | exact h)

/-- what has come up so far, and what it left. -/
structure PGood (W0 : World) (gb : Nat) (so no bo : Option Addr) (sc nc bn bc n : Nat) (gi gm : Int) (d : Nat → Bool) (r : Nat → Value) (β : Nat → Nat) (w : World) : Prop where
  below : Below W0.heap.size W0 w
  r1 : r 1 = .pointer (some ⟨gb, 0, none⟩)
  r3 : r 3 = .int .i64 (n : Int)
  d0 : d 0 = true → r 10 = grV so no bo sc nc bn bc n gi gm
  d1 : d 1 = true → r 11 = .int .i64 (n : Int)
  d3 : d 3 = true → r 13 = .int .i64 (n : Int)
  d5 : d 5 = true → r 15 = .int .i64 (n : Int)
  d7 : d 7 = true → r 17 = .int .i64 (n : Int)
  d2 : d 2 = true → r 12 = .slice (some ⟨β 2, 0, none⟩) n n
  d4 : d 4 = true → r 14 = .slice (some ⟨β 4, 0, none⟩) n n
  d6 : d 6 = true → r 16 = .slice (some ⟨β 6, 0, none⟩) n n
  d8 : d 8 = true → r 18 = .slice (some ⟨β 8, 0, none⟩) n n
  d10 : d 10 = true → r 4 = .pointer (some ⟨β 10, 0, none⟩)
  row : ∀ i, i = 2 ∨ i = 4 ∨ i = 6 ∨ i = 8 → d i = true → w.rowIs (β i) 3 n (fun _ => .int .i64 0)
  box : d 10 = true → d 11 = false → w.heap[β 10]? = some (.cells zeroWalk 57 (0, 0))
  new : ∀ i, i = 2 ∨ i = 4 ∨ i = 6 ∨ i = 8 ∨ i = 10 → d i = true → W0.heap.size ≤ β i ∧ β i < w.heap.size
  ne : ∀ i j, i = 2 ∨ i = 4 ∨ i = 6 ∨ i = 8 ∨ i = 10 → j = 2 ∨ j = 4 ∨ j = 6 ∨ j = 8 ∨ j = 10 → i ≠ j → d i = true → d j = true → β i ≠ β j
  d9 : d 9 = true → (d 2 = true ∧ d 4 = true ∧ d 6 = true ∧ d 8 = true) ∧ r 19 = .agg (fullWalk so no bo sc nc bn bc n gi gm (β 2) (β 4) (β 6) (β 8))
  d11 : d 11 = true → w.heap[β 10]? = some (.cells (fullWalk so no bo sc nc bn bc n gi gm (β 2) (β 4) (β 6) (β 8)) 57 (0, 0))
  o11 : d 11 = true → d 9 = true ∧ d 10 = true
theorem updB_same (d : Nat → Bool) (i : Nat) : updB d i i = true := if_pos rfl
theorem updB_other {d : Nat → Bool} {i j : Nat} (h : j ≠ i) : updB d i j = d j := if_neg h
theorem updV_same (r : Nat → Value) (i : Nat) (v : Value) : updV r i v i = v := if_pos rfl
theorem updV_other {r : Nat → Value} {i j : Nat} {v : Value} (h : j ≠ i) : updV r i v j = r j := if_neg h
section
variable {W0 : World} {gb : Nat} {so no bo : Option Addr} {sc nc bn bc n : Nat} {gi gm : Int} {d : Nat → Bool} {r : Nat → Value} {β : Nat → Nat} {w : World}
/-- a slot that bears a plain value. -/
theorem PGood.plain (h : PGood W0 gb so no bo sc nc bn bc n gi gm d r β w) {i t : Nat} (v : Value) (hi : i = 0 ∧ t = 10 ∧ v = grV so no bo sc nc bn bc n gi gm ∨ (i = 1 ∧ t = 11 ∨ i = 3 ∧ t = 13 ∨ i = 5 ∧ t = 15 ∨ i = 7 ∧ t = 17) ∧ v = .int .i64 (n : Int)) : PGood W0 gb so no bo sc nc bn bc n gi gm (updB d i) (updV r t v) β w := by
  rcases hi with ⟨rfl, rfl, rfl⟩ | ⟨⟨rfl, rfl⟩ | ⟨rfl, rfl⟩ | ⟨rfl, rfl⟩ | ⟨rfl, rfl⟩, rfl⟩
  all_goals
    constructor
    case below => exact h.below
    case r1 => exact h.r1
    case r3 => exact h.r3
    case d0 => first | exact fun _ => rfl | exact h.d0
    case d1 => first | exact fun _ => rfl | exact h.d1
    case d3 => first | exact fun _ => rfl | exact h.d3
    case d5 => first | exact fun _ => rfl | exact h.d5
    case d7 => first | exact fun _ => rfl | exact h.d7
    case d2 => exact h.d2
    case d4 => exact h.d4
    case d6 => exact h.d6
    case d8 => exact h.d8
    case d10 => exact h.d10
    case row => exact fun j hj hd => h.row j hj (by rw [updB_other (by omega)] at hd; exact hd)
    case box => exact h.box
    case new => exact fun j hj hd => h.new j hj (by rw [updB_other (by omega)] at hd; exact hd)
    case ne => exact fun j k hj hk hjk hd hd2 => h.ne j k hj hk hjk (by rw [updB_other (by omega)] at hd; exact hd) (by rw [updB_other (by omega)] at hd2; exact hd2)
    case d9 => exact h.d9
    case d11 => exact h.d11
    case o11 => exact h.o11
/-- new memory. -/
theorem PGood.made (h : PGood W0 gb so no bo sc nc bn bc n gi gm d r β w) {i t : Nat} (o : Obj) (v : Value) (hd : d i = false) (h9 : d 9 = true → i = 10) (h11 : d 11 = false)
    (hi : (i = 2 ∧ t = 12 ∨ i = 4 ∧ t = 14 ∨ i = 6 ∧ t = 16 ∨ i = 8 ∧ t = 18) ∧ v = .slice (some ⟨w.heap.size, 0, none⟩) n n ∧ o = .cells (madeCells #[.int .i64 0] n) 3 ∨ (i = 10 ∧ t = 4) ∧ v = .pointer (some ⟨w.heap.size, 0, none⟩) ∧ o = .cells zeroWalk 57) :
    PGood W0 gb so no bo sc nc bn bc n gi gm (updB d i) (updV r t v) (upd β i w.heap.size) (w.alloc o) := by
  have hkeep : ∀ j, j < w.heap.size → (w.alloc o).heap[j]? = w.heap[j]? := fun j hj => ((Below.refl w.heap.size w).alloc (Nat.le_refl _) o).block j hj
  have hnew : ∀ j, j = 2 ∨ j = 4 ∨ j = 6 ∨ j = 8 ∨ j = 10 → j ≠ i → d j = true → upd β i w.heap.size j = β j ∧ W0.heap.size ≤ β j ∧ β j < w.heap.size := fun j hj hne hdj => ⟨upd_other hne, h.new j hj hdj⟩
  have hbs := h.below.size
  have hb : Below W0.heap.size W0 (w.alloc o) := h.below.alloc hbs o
  have hrow : ∀ j, j = 2 ∨ j = 4 ∨ j = 6 ∨ j = 8 → j ≠ i → updB d i j = true → (w.alloc o).rowIs (upd β i w.heap.size j) 3 n (fun _ => .int .i64 0) := fun j hj hne hdj => by
    rw [updB_other hne] at hdj
    rw [upd_other hne]
    exact (h.row j hj hdj).alloc o
  have hnw : ∀ j, j = 2 ∨ j = 4 ∨ j = 6 ∨ j = 8 ∨ j = 10 → updB d i j = true → W0.heap.size ≤ upd β i w.heap.size j ∧ upd β i w.heap.size j < (w.alloc o).heap.size := fun j hj hdj => by
    rw [World.size_alloc]
    by_cases e : j = i
    · rw [e, upd_same]; omega
    · rw [updB_other e] at hdj
      have := hnew j hj e hdj
      rw [this.1]; omega
  have hne : ∀ j k, j = 2 ∨ j = 4 ∨ j = 6 ∨ j = 8 ∨ j = 10 → k = 2 ∨ k = 4 ∨ k = 6 ∨ k = 8 ∨ k = 10 → j ≠ k → updB d i j = true → updB d i k = true → upd β i w.heap.size j ≠ upd β i w.heap.size k := fun j k hj hk hjk hdj hdk => by
    by_cases e : j = i
    · rw [updB_other (show k ≠ i by omega)] at hdk
      have := hnew k hk (by omega) hdk
      rw [e, upd_same, this.1]; omega
    · rw [updB_other e] at hdj
      have h1 := hnew j hj e hdj
      by_cases e2 : k = i
      · rw [e2, upd_same, h1.1]; omega
      · rw [updB_other e2] at hdk
        have h2 := hnew k hk e2 hdk
        rw [h1.1, h2.1]; exact h.ne j k hj hk hjk hdj hdk
  rcases hi with ⟨hit, rfl, rfl⟩ | ⟨⟨rfl, rfl⟩, rfl, rfl⟩
  · have hd9 : d 9 = false := by
      cases e : d 9 with
      | false => rfl
      | true => have := h9 e; omega
    have hrow' : ∀ j, j = 2 ∨ j = 4 ∨ j = 6 ∨ j = 8 → updB d i j = true → (w.alloc (.cells (madeCells #[.int .i64 0] n) 3)).rowIs (upd β i w.heap.size j) 3 n (fun _ => .int .i64 0) := fun j hj hdj => by
      by_cases e : j = i
      · rw [e, upd_same]; exact World.rowIs_made w (.int .i64 0) n 3
      · exact hrow j hj e hdj
    have hbox : d 10 = true → d 11 = false → (w.alloc (.cells (madeCells #[.int .i64 0] n) 3)).heap[upd β i w.heap.size 10]? = some (.cells zeroWalk 57 (0, 0)) := fun h10 _ => by
      have := hnew 10 (by omega) (by omega) h10
      rw [this.1, hkeep _ this.2.2]
      exact h.box h10 h11
    rcases hit with ⟨rfl, rfl⟩ | ⟨rfl, rfl⟩ | ⟨rfl, rfl⟩ | ⟨rfl, rfl⟩
    all_goals
      constructor
      case below => exact hb
      case r1 => exact h.r1
      case r3 => exact h.r3
      case d0 => exact h.d0
      case d1 => exact h.d1
      case d3 => exact h.d3
      case d5 => exact h.d5
      case d7 => exact h.d7
      case d2 => first | exact fun _ => rfl | exact h.d2
      case d4 => first | exact fun _ => rfl | exact h.d4
      case d6 => first | exact fun _ => rfl | exact h.d6
      case d8 => first | exact fun _ => rfl | exact h.d8
      case d10 => exact h.d10
      case row => exact hrow'
      case box => exact hbox
      case new => exact hnw
      case ne => exact hne
      case d9 => exact fun hh => absurd (show d 9 = true from hh) (by rw [hd9]; simp)
      case d11 => exact fun hh => absurd (show d 11 = true from hh) (by rw [h11]; simp)
      case o11 => exact fun hh => absurd (show d 11 = true from hh) (by rw [h11]; simp)
  · constructor
    case below => exact hb
    case r1 => exact h.r1
    case r3 => exact h.r3
    case d0 => exact h.d0
    case d1 => exact h.d1
    case d3 => exact h.d3
    case d5 => exact h.d5
    case d7 => exact h.d7
    case d2 => exact h.d2
    case d4 => exact h.d4
    case d6 => exact h.d6
    case d8 => exact h.d8
    case d10 => exact fun _ => rfl
    case row => exact fun j hj hdj => hrow j hj (by omega) hdj
    case box => exact fun _ _ => blk_alloc_new _ _
    case new => exact hnw
    case ne => exact hne
    case d9 => exact h.d9
    case d11 => exact fun hh => absurd (show d 11 = true from hh) (by rw [h11]; simp)
    case o11 => exact fun hh => absurd (show d 11 = true from hh) (by rw [h11]; simp)
/-- the value of the box. -/
theorem PGood.built (h : PGood W0 gb so no bo sc nc bn bc n gi gm d r β w) (h2 : d 2 = true) (h4 : d 4 = true) (h6 : d 6 = true) (h8 : d 8 = true) : PGood W0 gb so no bo sc nc bn bc n gi gm (updB d 9) (updV r 19 (.agg (fullWalk so no bo sc nc bn bc n gi gm (β 2) (β 4) (β 6) (β 8)))) β w := by
  constructor
  case below => exact h.below
  case r1 => exact h.r1
  case r3 => exact h.r3
  case d0 => exact h.d0
  case d1 => exact h.d1
  case d3 => exact h.d3
  case d5 => exact h.d5
  case d7 => exact h.d7
  case d2 => exact h.d2
  case d4 => exact h.d4
  case d6 => exact h.d6
  case d8 => exact h.d8
  case d10 => exact h.d10
  case row => exact fun j hj hd => h.row j hj (by rw [updB_other (by omega)] at hd; exact hd)
  case box => exact h.box
  case new => exact fun j hj hd => h.new j hj (by rw [updB_other (by omega)] at hd; exact hd)
  case ne => exact fun j k hj hk hjk hd hd2 => h.ne j k hj hk hjk (by rw [updB_other (by omega)] at hd; exact hd) (by rw [updB_other (by omega)] at hd2; exact hd2)
  case d9 => exact fun _ => ⟨⟨h2, h4, h6, h8⟩, rfl⟩
  case d11 => exact h.d11
  case o11 => exact fun hh => ⟨rfl, (h.o11 hh).2⟩
/-- the box is filled. -/
theorem PGood.stored (h : PGood W0 gb so no bo sc nc bn bc n gi gm d r β w) (h9 : d 9 = true) (h10 : d 10 = true) {w' : World} (hb : w'.heap[β 10]? = some (.cells (fullWalk so no bo sc nc bn bc n gi gm (β 2) (β 4) (β 6) (β 8)) 57 (0, 0))) (hk : ∀ i, i ≠ β 10 → w'.heap[i]? = w.heap[i]?) (hB : ∀ B W, B ≤ β 10 → Below B W w → Below B W w') : PGood W0 gb so no bo sc nc bn bc n gi gm (updB d 11) r β w' := by
  have hn10 := h.new 10 (by omega) h10
  have hsz := (hB (β 10) w (Nat.le_refl _) (Below.refl _ _)).size
  constructor
  case below => exact hB _ _ hn10.1 h.below
  case r1 => exact h.r1
  case r3 => exact h.r3
  case d0 => exact h.d0
  case d1 => exact h.d1
  case d3 => exact h.d3
  case d5 => exact h.d5
  case d7 => exact h.d7
  case d2 => exact h.d2
  case d4 => exact h.d4
  case d6 => exact h.d6
  case d8 => exact h.d8
  case d10 => exact h.d10
  case row =>
    intro j hj hd
    rw [updB_other (by omega)] at hd
    exact (h.row j hj hd).of_block (hk _ (h.ne j 10 (by omega) (by omega) (by omega) hd h10))
  case box => exact fun _ hh => absurd (show true = false from hh) (by simp)
  case new =>
    intro j hj hd
    have := h.new j hj (by rw [updB_other (by omega)] at hd; exact hd)
    omega
  case ne => exact fun j k hj hk2 hjk hd hd2 => h.ne j k hj hk2 hjk (by rw [updB_other (by omega)] at hd; exact hd) (by rw [updB_other (by omega)] at hd2; exact hd2)
  case d9 => exact h.d9
  case d11 => exact fun _ => hb
  case o11 => exact fun _ => ⟨h9, h10⟩
end
theorem put_is (r : Nat → Value) (t : Nat) (v : Value) (ht : t = 4 ∨ t = 10 ∨ t = 11 ∨ t = 12 ∨ t = 13 ∨ t = 14 ∨ t = 15 ∨ t = 16 ∨ t = 17 ∨ t = 18 ∨ t = 19) : (fr r).put (some t) v = fr (updV r t v) := by
  rcases ht with rfl | rfl | rfl | rfl | rfl | rfl | rfl | rfl | rfl | rfl | rfl <;> rfl
theorem lst_set (d : Nat → Bool) (i : Nat) (hi : i < 12) : (lst d).setIfInBounds i true = lst (updB d i) := by
  have h4 : i = 0 ∨ i = 1 ∨ i = 2 ∨ i = 3 ∨ i = 4 ∨ i = 5 ∨ i = 6 ∨ i = 7 ∨ i = 8 ∨ i = 9 ∨ i = 10 ∨ i = 11 := by omega
  rcases h4 with rfl | rfl | rfl | rfl | rfl | rfl | rfl | rfl | rfl | rfl | rfl | rfl <;> rfl
theorem nF_set (d : Nat → Bool) (i : Nat) (hi : i < 12) (hd : d i = false) {k : Nat} (hk : k + 1 = nF d) : k = nF (updB d i) := by
  have h4 : i = 0 ∨ i = 1 ∨ i = 2 ∨ i = 3 ∨ i = 4 ∨ i = 5 ∨ i = 6 ∨ i = 7 ∨ i = 8 ∨ i = 9 ∨ i = 10 ∨ i = 11 := by omega
  unfold nF at hk ⊢
  rcases h4 with rfl | rfl | rfl | rfl | rfl | rfl | rfl | rfl | rfl | rfl | rfl | rfl <;> (simp [updB, hd, bN] at hk ⊢; omega)
theorem nF_zero (d : Nat → Bool) (h : nF d = 0) : ∀ i, i < 12 → d i = true := by
  have hb : ∀ b, bN b = 0 → b = true := fun b hb => by cases b <;> simp_all [bN]
  unfold nF at h
  intro i hi
  have h4 : i = 0 ∨ i = 1 ∨ i = 2 ∨ i = 3 ∨ i = 4 ∨ i = 5 ∨ i = 6 ∨ i = 7 ∨ i = 8 ∨ i = 9 ∨ i = 10 ∨ i = 11 := by omega
  rcases h4 with rfl | rfl | rfl | rfl | rfl | rfl | rfl | rfl | rfl | rfl | rfl | rfl <;> exact hb _ (by omega)
theorem bool_not {b : Bool} (h : b = true → False) : b = false := by
  cases b with
  | false => rfl
  | true => exact (h rfl).elim
def OutR (j : Nat) : Prop := j ≠ 4 ∧ (j < 10 ∨ 19 < j)

set_option maxHeartbeats 3200000 in
set_option maxRecDepth 20000 in
/-- THE STATEMENT, IN WHATEVER ORDER. -/
theorem parts_region (s : String) {Q : Exit → Act → World → Prop} (W0 : World) (gb : Nat) (so no bo : Option Addr) (sc nc bn bc n : Nat) (gi gm : Int) (r0 : Nat → Value) (hn : n ≤ 20000) (hgb : gb < W0.heap.size) (h1 : r0 1 = .pointer (some ⟨gb, 0, none⟩)) (h3 : r0 3 = .int .i64 (n : Int))
    (c0 : W0.cell? ⟨gb, 0, none⟩ = some (.slice so n sc)) (c1 : W0.cell? ⟨gb, 1, none⟩ = some (.int .i64 gi)) (c2 : W0.cell? ⟨gb, 2, none⟩ = some (.slice no n nc)) (c3 : W0.cell? ⟨gb, 3, none⟩ = some (.slice bo bn bc)) (c4 : W0.cell? ⟨gb, 4, none⟩ = some (.int .i64 gm))
    (hQ : ∀ d r β w, (∀ i, i < 12 → d i = true) → (∀ j, OutR j → r j = r0 j) → PGood W0 gb so no bo sc nc bn bc n gi gm d r β w → Q .normal (fr r) w) :
    (Code.region 2 (partsOps s) true).wp Try.prog Q (fr r0) W0 := by
  refine wp_region_any rfl ?_
  refine wpAny_inv (fun k l a w => ∃ d r β, l = lst d ∧ a = fr r ∧ k = nF d ∧ (∀ j, OutR j → r j = r0 j) ∧ PGood W0 gb so no bo sc nc bn bc n gi gm d r β w) ?_ _ _ _ _ ⟨fun _ => false, r0, fun _ => 0, rfl, rfl, rfl, fun _ _ => rfl, ?_⟩
  · rintro k l a w ⟨d, r, β, rfl, rfl, hk, hfr, hg⟩
    refine ⟨fun hr => hQ d r β w (ready_none s d hr) hfr hg, fun h0 => ready_all s d (nF_zero d (by omega)), fun k' hk' i hi => ?_⟩
    have hrd := ready_is s d i hi
    have hkn : k' + 1 = nF d := by omega
    have hcell : ∀ j, w.cell? ⟨gb, j, none⟩ = W0.cell? ⟨gb, j, none⟩ := fun j => hg.below.cell (p := ⟨gb, j, none⟩) hgb
    rcases hrd with ⟨rfl, hdi⟩ | ⟨rfl, hdi⟩ | ⟨rfl, hdi, hpre⟩ | ⟨rfl, hdi⟩ | ⟨rfl, hdi, hpre⟩ | ⟨rfl, hdi⟩ | ⟨rfl, hdi, hpre⟩ | ⟨rfl, hdi⟩ | ⟨rfl, hdi, hpre⟩ | ⟨rfl, hdi, p0, p2, p4, p6, p8⟩ | ⟨rfl, hdi⟩ | ⟨rfl, hdi, p10, p9⟩
    · exact wpOp_val (grV so no bo sc nc bn bc n gi gm) rfl rfl (run_load s r w gb _ _ _ _ _ hg.r1 ((hcell 0).trans c0) ((hcell 1).trans c1) ((hcell 2).trans c2) ((hcell 3).trans c3) ((hcell 4).trans c4)) (put_is r 10 _ (by omega)) ⟨updB d 0, updV r 10 _, β, lst_set d 0 (by omega), rfl, nF_set d 0 (by omega) hdi hkn, fun j hj => (updV_other (by have := hj.1; have := hj.2; omega)).trans (hfr j hj), hg.plain (i := 0) (t := 10) _ (by simp)⟩
    · refine wpOp_val (.int .i64 (n : Int)) rfl rfl (run_move s r w 11 _ hg.r3) (put_is r 11 _ (by omega)) ⟨updB d 1, updV r 11 (.int .i64 (n : Int)), β, lst_set d 1 (by omega), rfl, nF_set d 1 (by omega) hdi hkn, fun j hj => (updV_other (by have := hj.1; have := hj.2; omega)).trans (hfr j hj), hg.plain (i := 1) (t := 11) _ (by simp)⟩
    · have h9 : d 9 = false := bool_not fun e => by have := (hg.d9 e).1; simp [hdi] at this
      have h11 : d 11 = false := bool_not fun e => by have := (hg.o11 e).1; simp [h9] at this
      exact wpOp_val (.slice (some ⟨w.heap.size, 0, none⟩) n n) rfl rfl (run_make s _ r w 12 11 n hn (by simp [fr, Act.eval, hg.d1 hpre])) (put_is r 12 _ (by omega)) ⟨updB d 2, updV r 12 _, upd β 2 w.heap.size, lst_set d 2 (by omega), rfl, nF_set d 2 (by omega) hdi hkn, fun j hj => (updV_other (by have := hj.1; have := hj.2; omega)).trans (hfr j hj), hg.made (i := 2) (t := 12) _ _ hdi (by rw [h9]; simp) h11 (by simp)⟩
    · refine wpOp_val (.int .i64 (n : Int)) rfl rfl (run_move s r w 13 _ hg.r3) (put_is r 13 _ (by omega)) ⟨updB d 3, updV r 13 (.int .i64 (n : Int)), β, lst_set d 3 (by omega), rfl, nF_set d 3 (by omega) hdi hkn, fun j hj => (updV_other (by have := hj.1; have := hj.2; omega)).trans (hfr j hj), hg.plain (i := 3) (t := 13) _ (by simp)⟩
    · have h9 : d 9 = false := bool_not fun e => by have := (hg.d9 e).1; simp [hdi] at this
      have h11 : d 11 = false := bool_not fun e => by have := (hg.o11 e).1; simp [h9] at this
      exact wpOp_val (.slice (some ⟨w.heap.size, 0, none⟩) n n) rfl rfl (run_make s _ r w 14 13 n hn (by simp [fr, Act.eval, hg.d3 hpre])) (put_is r 14 _ (by omega)) ⟨updB d 4, updV r 14 _, upd β 4 w.heap.size, lst_set d 4 (by omega), rfl, nF_set d 4 (by omega) hdi hkn, fun j hj => (updV_other (by have := hj.1; have := hj.2; omega)).trans (hfr j hj), hg.made (i := 4) (t := 14) _ _ hdi (by rw [h9]; simp) h11 (by simp)⟩
    · refine wpOp_val (.int .i64 (n : Int)) rfl rfl (run_move s r w 15 _ hg.r3) (put_is r 15 _ (by omega)) ⟨updB d 5, updV r 15 (.int .i64 (n : Int)), β, lst_set d 5 (by omega), rfl, nF_set d 5 (by omega) hdi hkn, fun j hj => (updV_other (by have := hj.1; have := hj.2; omega)).trans (hfr j hj), hg.plain (i := 5) (t := 15) _ (by simp)⟩
    · have h9 : d 9 = false := bool_not fun e => by have := (hg.d9 e).1; simp [hdi] at this
      have h11 : d 11 = false := bool_not fun e => by have := (hg.o11 e).1; simp [h9] at this
      exact wpOp_val (.slice (some ⟨w.heap.size, 0, none⟩) n n) rfl rfl (run_make s _ r w 16 15 n hn (by simp [fr, Act.eval, hg.d5 hpre])) (put_is r 16 _ (by omega)) ⟨updB d 6, updV r 16 _, upd β 6 w.heap.size, lst_set d 6 (by omega), rfl, nF_set d 6 (by omega) hdi hkn, fun j hj => (updV_other (by have := hj.1; have := hj.2; omega)).trans (hfr j hj), hg.made (i := 6) (t := 16) _ _ hdi (by rw [h9]; simp) h11 (by simp)⟩
    · refine wpOp_val (.int .i64 (n : Int)) rfl rfl (run_move s r w 17 _ hg.r3) (put_is r 17 _ (by omega)) ⟨updB d 7, updV r 17 (.int .i64 (n : Int)), β, lst_set d 7 (by omega), rfl, nF_set d 7 (by omega) hdi hkn, fun j hj => (updV_other (by have := hj.1; have := hj.2; omega)).trans (hfr j hj), hg.plain (i := 7) (t := 17) _ (by simp)⟩
    · have h9 : d 9 = false := bool_not fun e => by have := (hg.d9 e).1; simp [hdi] at this
      have h11 : d 11 = false := bool_not fun e => by have := (hg.o11 e).1; simp [h9] at this
      exact wpOp_val (.slice (some ⟨w.heap.size, 0, none⟩) n n) rfl rfl (run_make s _ r w 18 17 n hn (by simp [fr, Act.eval, hg.d7 hpre])) (put_is r 18 _ (by omega)) ⟨updB d 8, updV r 18 _, upd β 8 w.heap.size, lst_set d 8 (by omega), rfl, nF_set d 8 (by omega) hdi hkn, fun j hj => (updV_other (by have := hj.1; have := hj.2; omega)).trans (hfr j hj), hg.made (i := 8) (t := 18) _ _ hdi (by rw [h9]; simp) h11 (by simp)⟩
    · exact wpOp_val (.agg (fullWalk so no bo sc nc bn bc n gi gm (β 2) (β 4) (β 6) (β 8))) rfl rfl (run_build s _ r w so no bo sc nc bn bc n gi gm _ _ _ _ (hg.d0 p0) (hg.d2 p2) (hg.d4 p4) (hg.d6 p6) (hg.d8 p8)) (put_is r 19 _ (by omega)) ⟨updB d 9, updV r 19 _, β, lst_set d 9 (by omega), rfl, nF_set d 9 (by omega) hdi hkn, fun j hj => (updV_other (by have := hj.1; have := hj.2; omega)).trans (hfr j hj), hg.built p2 p4 p6 p8⟩
    · have h11 : d 11 = false := bool_not fun e => by have := (hg.o11 e).2; simp [hdi] at this
      exact wpOp_val (.pointer (some ⟨w.heap.size, 0, none⟩)) rfl rfl (run_alloc s r w) (put_is r 4 _ (by omega)) ⟨updB d 10, updV r 4 _, upd β 10 w.heap.size, lst_set d 10 (by omega), rfl, nF_set d 10 (by omega) hdi hkn, fun j hj => (updV_other (by have := hj.1; have := hj.2; omega)).trans (hfr j hj), hg.made (i := 10) (t := 4) _ _ hdi (fun _ => rfl) h11 (by simp)⟩
    · obtain ⟨w', h1', h2', h3', h4'⟩ := run_store s _ r w (β 10) so no bo sc nc bn bc n gi gm (β 2) (β 4) (β 6) (β 8) (hg.d10 p10) (hg.d9 p9).2 (hg.box p10 hdi)
      exact wpOp_unit rfl rfl rfl h1' ⟨updB d 11, r, β, lst_set d 11 (by omega), rfl, nF_set d 11 (by omega) hdi hkn, hfr, hg.stored p9 p10 h2' h3' h4'⟩
  · constructor
    case below => exact (Below.refl _ _).drew
    case r1 => exact h1
    case r3 => exact h3
    case new => exact fun _ _ h => by simp at h
    case ne => exact fun _ _ _ _ _ h => by simp at h
    case row => exact fun _ _ h => by simp at h
    all_goals exact fun h => by simp at h
end Go.Proofs.Ytknneajaklcjdaa
