/-
  Joined out of TjMake, TjParts, Look, RefReach, SReach, SParts, FairM, SFair0, SFair, ShelfRev, SWay, LoopM, in their order: a claim bears at most so many files.
-/
import Derived.Test.YtjdfdmamonjnoaaGreatDoorSccA
import Derived.Deep.RegionLaw
import Derived.Shelf.Slices.Reverse
import Derived.Lib.OwnBridge
import Derived.Lib.RowBridge
namespace Go.Proofs.YtjdfdmamonjnoaaGreatDoor
open Go.ChangeShapes Go.WideShapes Go.ChangeAt Go.RowKit Go.Deep
open Terms
set_option maxHeartbeats 6400000
set_option maxRecDepth 20000
theorem wpAny_inv {P : Program} {md : Region.Mode} {ops : Array Oper} {Q : Exit -> Act -> World -> Prop} (I : Nat -> Array Bool -> Act -> World -> Prop)
    (hs : ∀ k l a w, I k l a w -> (Region.ready md ops l = [] -> Q .normal a w) /\ (k = 0 -> Region.ready md ops l = []) /\ ∀ k', k = k' + 1 -> ∀ i ∈ Region.ready md ops l, wpOp P ops Q i (fun a' w' => I k' (l.setIfInBounds i true) a' w') a w) :
    ∀ k l a w, I k l a w -> wpAny P md ops Q k l a w
  | 0, l, a, w, h => ⟨(hs 0 l a w h).2.1 rfl, (hs 0 l a w h).1 ((hs 0 l a w h).2.1 rfl)⟩
  | k + 1, l, a, w, h => ⟨(hs _ l a w h).1, fun i hi => wpOp_mono (fun a' w' h' => wpAny_inv I hs k _ a' w' h') ((hs _ l a w h).2.2 k rfl i hi)⟩
theorem wpOp_val {P : Program} {ops : Array Oper} {Q : Exit -> Act -> World -> Prop} {i : Nat} {K : Act -> World -> Prop} {a a' : Act} {w w' : World} {o : Oper} (v : Value) (hi : ops[i]? = some o) (hg : o.guard = none) (hr : (execOp a.eval o).run P w = .ok (.value v) w') (ha : a.put o.dst v = a') (h : K a' w') : wpOp P ops Q i K a w := by
  unfold wpOp; simp only [hi]; rw [if_pos (by unfold Region.wanted; rw [hg])]
  refine Or.inl ?_
  unfold Oper.wp; rw [hr]; simp only [Oper.upon]; rw [ha]; exact h
theorem wpOp_unit {P : Program} {ops : Array Oper} {Q : Exit -> Act -> World -> Prop} {i : Nat} {K : Act -> World -> Prop} {a : Act} {w w' : World} {o : Oper} (hi : ops[i]? = some o) (hg : o.guard = none) (hd : o.dst = none) (hr : (execOp a.eval o).run P w = .ok .skip w') (h : K a w') : wpOp P ops Q i K a w := by
  unfold wpOp; simp only [hi]; rw [if_pos (by unfold Region.wanted; rw [hg])]
  refine Or.inl ?_
  unfold Oper.wp; rw [hr]; simp only [Oper.upon]; rw [hd]; exact h
def bN : Bool -> Nat
  | true => 0
  | false => 1
def fr (r : Nat -> Value) : Act := ⟨#[r 0, r 1, r 2, r 3, r 4, r 5, r 6, r 7, r 8, r 9, r 10, r 11, r 12, r 13, r 14, r 15, r 16, r 17, r 18, r 19, r 20, r 21, r 22, r 23, r 24, r 25, r 26, r 27, r 28, r 29, r 30, r 31, r 32, r 33, r 34, r 35, r 36, r 37, r 38, r 39, r 40, r 41, r 42, r 43, r 44, r 45, r 46], []⟩
def lst (d : Nat -> Bool) : Array Bool := #[d 0, d 1, d 2, d 3, d 4, d 5, d 6, d 7, d 8, d 9, d 10, d 11]
def nF (d : Nat -> Bool) : Nat := bN (d 0) + bN (d 1) + bN (d 2) + bN (d 3) + bN (d 4) + bN (d 5) + bN (d 6) + bN (d 7) + bN (d 8) + bN (d 9) + bN (d 10) + bN (d 11)
def updB (d : Nat -> Bool) (i : Nat) : Nat -> Bool := fun j => if j = i then true else d j
def updV (r : Nat -> Value) (i : Nat) (v : Value) : Nat -> Value := fun j => if j = i then v else r j
def e1 (i : Nat) : Array Edge := #[⟨i, .data⟩, ⟨i, .data⟩]
def partsOps (s : String) : Array Oper := #[
  ⟨some 10, .load 71 (.tmp 1), 71, s, #[], none⟩,
  ⟨some 11, .move (.tmp 3), 3, s, #[], none⟩,
  ⟨some 12, .makeSlice 36 (.tmp 11) (.tmp 11), 36, s, #[⟨1, .data⟩, ⟨1, .data⟩], none⟩,
  ⟨some 13, .move (.tmp 3), 3, s, #[], none⟩,
  ⟨some 14, .makeSlice 36 (.tmp 13) (.tmp 13), 36, s, #[⟨3, .data⟩, ⟨3, .data⟩], none⟩,
  ⟨some 15, .move (.tmp 3), 3, s, #[], none⟩,
  ⟨some 16, .makeSlice 36 (.tmp 15) (.tmp 15), 36, s, #[⟨5, .data⟩, ⟨5, .data⟩], none⟩,
  ⟨some 17, .move (.tmp 3), 3, s, #[], none⟩,
  ⟨some 18, .makeSlice 36 (.tmp 17) (.tmp 17), 36, s, #[⟨7, .data⟩, ⟨7, .data⟩], none⟩,
  ⟨some 19, .build 210 #[(0, .tmp 10), (3, .tmp 12), (4, .tmp 14), (5, .tmp 16), (7, .tmp 18)], 210, s, #[⟨0, .data⟩, ⟨2, .data⟩, ⟨4, .data⟩, ⟨6, .data⟩, ⟨8, .data⟩], none⟩,
  ⟨some 4, .alloc 210, 0, s, #[], none⟩,
  ⟨none, .store 210 (.tmp 4) (.tmp 19), 0, s, #[⟨10, .data⟩, ⟨9, .data⟩, ⟨0, .phase⟩, ⟨1, .phase⟩, ⟨2, .phase⟩, ⟨3, .phase⟩, ⟨4, .phase⟩, ⟨5, .phase⟩, ⟨6, .phase⟩, ⟨7, .phase⟩, ⟨8, .phase⟩, ⟨9, .phase⟩, ⟨10, .phase⟩], none⟩]
def RD (d : Nat -> Bool) (i : Nat) : Prop := (i = 0 /\ d 0 = false) \/ (i = 1 /\ d 1 = false) \/ (i = 2 /\ d 2 = false /\ d 1 = true) \/ (i = 3 /\ d 3 = false) \/ (i = 4 /\ d 4 = false /\ d 3 = true) \/ (i = 5 /\ d 5 = false) \/ (i = 6 /\ d 6 = false /\ d 5 = true) \/ (i = 7 /\ d 7 = false) \/ (i = 8 /\ d 8 = false /\ d 7 = true) \/ (i = 9 /\ d 9 = false /\ d 0 = true /\ d 2 = true /\ d 4 = true /\ d 6 = true /\ d 8 = true) \/ (i = 10 /\ d 10 = false) \/ (i = 11 /\ d 11 = false /\ d 10 = true /\ d 9 = true)
theorem ready_is (s : String) (d : Nat -> Bool) (i : Nat) (h : i ∈ Region.ready .any (partsOps s) (lst d)) : RD d i := by
  unfold Region.ready at h; rw [List.mem_filter] at h; obtain ⟨h1, h2⟩ := h; have h3 : i < 12 := List.mem_range.1 h1; have : i = 0 \/ i = 1 \/ i = 2 \/ i = 3 \/ i = 4 \/ i = 5 \/ i = 6 \/ i = 7 \/ i = 8 \/ i = 9 \/ i = 10 \/ i = 11 := by omega
  unfold RD
  rcases this with rfl | rfl | rfl | rfl | rfl | rfl | rfl | rfl | rfl | rfl | rfl | rfl <;> simp [partsOps, lst, Region.binds] at h2 <;> simp [h2]
theorem ready_none (s : String) (d : Nat -> Bool) (h : Region.ready .any (partsOps s) (lst d) = []) : ∀ i, i < 12 -> d i = true := by
  have hh : ∀ i, i < 12 -> (!(lst d).getD i true && (((partsOps s)[i]?).map (·.after.all fun e => !Region.binds .any e || (lst d).getD e.on false)).getD false) = false := fun i hi => by
    unfold Region.ready at h; rw [List.filter_eq_nil_iff] at h; have := h i (List.mem_range.2 hi); simpa using this
  have h0 : d 0 = true := by have := hh 0 (by omega); simpa [partsOps, lst] using this
  have h1 : d 1 = true := by have := hh 1 (by omega); simpa [partsOps, lst] using this
  have h3 : d 3 = true := by have := hh 3 (by omega); simpa [partsOps, lst] using this
  have h5 : d 5 = true := by have := hh 5 (by omega); simpa [partsOps, lst] using this
  have h7 : d 7 = true := by have := hh 7 (by omega); simpa [partsOps, lst] using this
  have h10 : d 10 = true := by have := hh 10 (by omega); simpa [partsOps, lst] using this
  have h2 : d 2 = true := by have := hh 2 (by omega); simpa [partsOps, lst, h1] using this
  have h4 : d 4 = true := by have := hh 4 (by omega); simpa [partsOps, lst, h3] using this
  have h6 : d 6 = true := by have := hh 6 (by omega); simpa [partsOps, lst, h5] using this
  have h8 : d 8 = true := by have := hh 8 (by omega); simpa [partsOps, lst, h7] using this
  have h9 : d 9 = true := by have := hh 9 (by omega); simpa [partsOps, lst, h0, h2, h4, h6, h8] using this
  have h11 : d 11 = true := by have := hh 11 (by omega); simpa [partsOps, lst, h0, h1, h2, h3, h4, h5, h6, h7, h8, h9, h10] using this
  intro i hi; have : i = 0 \/ i = 1 \/ i = 2 \/ i = 3 \/ i = 4 \/ i = 5 \/ i = 6 \/ i = 7 \/ i = 8 \/ i = 9 \/ i = 10 \/ i = 11 := by omega
  rcases this with rfl | rfl | rfl | rfl | rfl | rfl | rfl | rfl | rfl | rfl | rfl | rfl <;> assumption
theorem ready_all (s : String) (d : Nat -> Bool) (h : ∀ i, i < 12 -> d i = true) : Region.ready .any (partsOps s) (lst d) = [] := by
  unfold Region.ready; rw [List.filter_eq_nil_iff]; intro i hi; have h3 : i < 12 := List.mem_range.1 hi
  have e : (lst d).getD i true = true := by
    have := h i h3; have h4 : i = 0 \/ i = 1 \/ i = 2 \/ i = 3 \/ i = 4 \/ i = 5 \/ i = 6 \/ i = 7 \/ i = 8 \/ i = 9 \/ i = 10 \/ i = 11 := by omega
    rcases h4 with rfl | rfl | rfl | rfl | rfl | rfl | rfl | rfl | rfl | rfl | rfl | rfl <;> simpa [lst] using this
  rw [e]; simp
def zeroWalk : Array Value := #[.slice none 0 0, .int .i64 0, .slice none 0 0, .slice none 0 0, .int .i64 0, .slice none 0 0, .slice none 0 0, .slice none 0 0, .slice none 0 0, .slice none 0 0, .int .i64 0, .slice none 0 0]
theorem run_alloc (s : String) (r : Nat -> Value) (w : World) : (execOp (fr r).eval ⟨some 4, .alloc 210, 0, s, #[], none⟩).run Tryz.prog w = .ok (.value (.pointer (some ⟨w.heap.size, 0, none⟩))) (w.alloc (.cells zeroWalk 210)) := by
  kernel_rfl
def fullWalk (so no bo : Option Addr) (sc nc bn bc n : Nat) (gi gm : Int) (b1 b2 b3 b4 : Nat) : Array Value := #[.slice so n sc, .int .i64 gi, .slice no n nc, .slice bo bn bc, .int .i64 gm, .slice none 0 0, .slice none 0 0, .slice (some ⟨b1, 0, none⟩) n n, .slice (some ⟨b2, 0, none⟩) n n, .slice (some ⟨b3, 0, none⟩) n n, .int .i64 0, .slice (some ⟨b4, 0, none⟩) n n]
def grV (so no bo : Option Addr) (sc nc bn bc n : Nat) (gi gm : Int) : Value := .agg #[.slice so n sc, .int .i64 gi, .slice no n nc, .slice bo bn bc, .int .i64 gm]
theorem run_build (s : String) (af : Array Edge) (r : Nat -> Value) (w : World) (so no bo : Option Addr) (sc nc bn bc n : Nat) (gi gm : Int) (b1 b2 b3 b4 : Nat) (h10 : r 10 = grV so no bo sc nc bn bc n gi gm) (h12 : r 12 = .slice (some ⟨b1, 0, none⟩) n n) (h14 : r 14 = .slice (some ⟨b2, 0, none⟩) n n) (h16 : r 16 = .slice (some ⟨b3, 0, none⟩) n n) (h18 : r 18 = .slice (some ⟨b4, 0, none⟩) n n) : (execOp (fr r).eval ⟨some 19, .build 210 #[(0, .tmp 10), (3, .tmp 12), (4, .tmp 14), (5, .tmp 16), (7, .tmp 18)], 210, s, af, none⟩).run Tryz.prog w = .ok (.value (.agg (fullWalk so no bo sc nc bn bc n gi gm b1 b2 b3 b4))) w := by
  simp [execOp, fr, Act.eval, h10, grV, h12, h14, h16, h18, go_sem, fullWalk]
theorem run_load (s : String) (r : Nat -> Value) (w : World) (b : Nat) (g0 g1 g2 g3 g4 : Value) (h1 : r 1 = .pointer (some ⟨b, 0, none⟩)) (c0 : w.cell? ⟨b, 0, none⟩ = some g0) (c1 : w.cell? ⟨b, 1, none⟩ = some g1) (c2 : w.cell? ⟨b, 2, none⟩ = some g2) (c3 : w.cell? ⟨b, 3, none⟩ = some g3) (c4 : w.cell? ⟨b, 4, none⟩ = some g4) : (execOp (fr r).eval ⟨some 10, .load 71 (.tmp 1), 71, s, #[], none⟩).run Tryz.prog w = .ok (.value (.agg #[g0, g1, g2, g3, g4])) w := by
  simp [execOp, fr, Act.eval, h1, go_sem, c0, c1, c2, c3, c4]
theorem run_move (s : String) (r : Nat -> Value) (w : World) (dd : Nat) (v : Value) (h3 : r 3 = v) : (execOp (fr r).eval ⟨some dd, .move (.tmp 3), 3, s, #[], none⟩).run Tryz.prog w = .ok (.value v) w := by
  simp [execOp, fr, Act.eval, h3, go_sem]
theorem run_make (s : String) (af : Array Edge) (r : Nat -> Value) (w : World) (dd t n : Nat) (hn : n <= 20000) (h : (fr r).eval (.tmp t) = .int .i64 (n : Int)) : (execOp (fr r).eval ⟨some dd, .makeSlice 36 (.tmp t) (.tmp t), 36, s, af, none⟩).run Tryz.prog w = .ok (.value (.slice (some ⟨w.heap.size, 0, none⟩) n n)) (w.alloc (.cells (madeCells #[.int .i64 0] n) 3)) := by
  have hmk := run_make_row' (P := Tryz.prog) 36 3 (.int .i64 0) 8 Tryz.underlying36 infoInt rfl .i64 .i64 n (by omega) (by omega) w
  have h' : (fr r).tmps[t]?.getD undef = .int .i64 (n : Int) := by simpa [Act.eval] using h
  simp [execOp, h', go_sem, hmk]
theorem run_store (s : String) (af : Array Edge) (r : Nat -> Value) (w : World) (b : Nat) (so no bo : Option Addr) (sc nc bn bc n : Nat) (gi gm : Int) (b1 b2 b3 b4 : Nat) (h4 : r 4 = .pointer (some ⟨b, 0, none⟩)) (h19 : r 19 = .agg (fullWalk so no bo sc nc bn bc n gi gm b1 b2 b3 b4)) (hb : w.heap[b]? = some (.cells zeroWalk 210 (0, 0))) : ∃ w', (execOp (fr r).eval ⟨none, .store 210 (.tmp 4) (.tmp 19), 0, s, af, none⟩).run Tryz.prog w = .ok .skip w' /\ w'.heap[b]? = some (.cells (fullWalk so no bo sc nc bn bc n gi gm b1 b2 b3 b4) 210 (0, 0)) /\ (∀ i, i ≠ b -> w'.heap[i]? = w.heap[i]?) /\ ∀ B W, B <= b -> Below B W w -> Below B W w' := by
  have hc : ∀ j, w.cell? ⟨b, j, none⟩ = zeroWalk[j]? := fun j => by simp [World.cell?, hb]
  have hf : ∀ j, w.frozen? ⟨b, j, none⟩ = false := fun j => by simp [World.frozen?, hb]
  refine ⟨w.setCells b 0 (fullWalk so no bo sc nc bn bc n gi gm b1 b2 b3 b4).toList, ?_, ?_, ?_, ?_⟩
  · simp [execOp, fr, Act.eval, h4, h19, go_sem, hc, hf, zeroWalk, fullWalk, World.setCells]
  · simp [fullWalk, World.setCells, World.setCell, Array.getElem?_modify, hb, zeroWalk]
  · intro i hi
    simp [fullWalk, World.setCells, World.setCell, Array.getElem?_modify, Ne.symm hi]
  · intro B W hB h
    simp only [fullWalk, World.setCells]
    repeat (first | refine Below.setCell ?_ hB _ | exact h)
structure PGood (W0 : World) (gb : Nat) (so no bo : Option Addr) (sc nc bn bc n : Nat) (gi gm : Int) (d : Nat -> Bool) (r : Nat -> Value) (β : Nat -> Nat) (w : World) : Prop where
  below : Below W0.heap.size W0 w
  r1 : r 1 = .pointer (some ⟨gb, 0, none⟩)
  r3 : r 3 = .int .i64 (n : Int)
  d0 : d 0 = true -> r 10 = grV so no bo sc nc bn bc n gi gm
  d1 : d 1 = true -> r 11 = .int .i64 (n : Int)
  d3 : d 3 = true -> r 13 = .int .i64 (n : Int)
  d5 : d 5 = true -> r 15 = .int .i64 (n : Int)
  d7 : d 7 = true -> r 17 = .int .i64 (n : Int)
  d2 : d 2 = true -> r 12 = .slice (some ⟨β 2, 0, none⟩) n n
  d4 : d 4 = true -> r 14 = .slice (some ⟨β 4, 0, none⟩) n n
  d6 : d 6 = true -> r 16 = .slice (some ⟨β 6, 0, none⟩) n n
  d8 : d 8 = true -> r 18 = .slice (some ⟨β 8, 0, none⟩) n n
  d10 : d 10 = true -> r 4 = .pointer (some ⟨β 10, 0, none⟩)
  row : ∀ i, i = 2 \/ i = 4 \/ i = 6 \/ i = 8 -> d i = true -> w.rowIs (β i) 3 n (fun _ => .int .i64 0)
  box : d 10 = true -> d 11 = false -> w.heap[β 10]? = some (.cells zeroWalk 210 (0, 0))
  new : ∀ i, i = 2 \/ i = 4 \/ i = 6 \/ i = 8 \/ i = 10 -> d i = true -> W0.heap.size <= β i /\ β i < w.heap.size
  ne : ∀ i j, i = 2 \/ i = 4 \/ i = 6 \/ i = 8 \/ i = 10 -> j = 2 \/ j = 4 \/ j = 6 \/ j = 8 \/ j = 10 -> i ≠ j -> d i = true -> d j = true -> β i ≠ β j
  d9 : d 9 = true -> (d 2 = true /\ d 4 = true /\ d 6 = true /\ d 8 = true) /\ r 19 = .agg (fullWalk so no bo sc nc bn bc n gi gm (β 2) (β 4) (β 6) (β 8))
  d11 : d 11 = true -> w.heap[β 10]? = some (.cells (fullWalk so no bo sc nc bn bc n gi gm (β 2) (β 4) (β 6) (β 8)) 210 (0, 0))
  o11 : d 11 = true -> d 9 = true /\ d 10 = true
theorem updB_other {d : Nat -> Bool} {i j : Nat} (h : j ≠ i) : updB d i j = d j := if_neg h
theorem updV_other {r : Nat -> Value} {i j : Nat} {v : Value} (h : j ≠ i) : updV r i v j = r j := if_neg h
section
variable {W0 : World} {gb : Nat} {so no bo : Option Addr} {sc nc bn bc n : Nat} {gi gm : Int} {d : Nat -> Bool} {r : Nat -> Value} {β : Nat -> Nat} {w : World}
theorem PGood.plain (h : PGood W0 gb so no bo sc nc bn bc n gi gm d r β w) {i t : Nat} (v : Value) (hi : i = 0 /\ t = 10 /\ v = grV so no bo sc nc bn bc n gi gm \/ (i = 1 /\ t = 11 \/ i = 3 /\ t = 13 \/ i = 5 /\ t = 15 \/ i = 7 /\ t = 17) /\ v = .int .i64 (n : Int)) : PGood W0 gb so no bo sc nc bn bc n gi gm (updB d i) (updV r t v) β w := by
  rcases hi with ⟨rfl, rfl, rfl⟩ | ⟨⟨rfl, rfl⟩ | ⟨rfl, rfl⟩ | ⟨rfl, rfl⟩ | ⟨rfl, rfl⟩, rfl⟩
  all_goals
    constructor
    case below => exact h.below
    case r1 => exact h.r1
    case r3 => exact h.r3
    case d0 => first | exact fun _ => rfl | exact h.d0
    case d1 => first | exact fun _ => rfl | exact h.d1
    case d3 => first | exact fun _ => rfl | exact h.d3
    case d5 => first | exact fun _ => rfl | exact h.d5
    case d7 => first | exact fun _ => rfl | exact h.d7
    case d2 => exact h.d2
    case d4 => exact h.d4
    case d6 => exact h.d6
    case d8 => exact h.d8
    case d10 => exact h.d10
    case row => exact fun j hj hd => h.row j hj (by rw [updB_other (by omega)] at hd; exact hd)
    case box => exact h.box
    case new => exact fun j hj hd => h.new j hj (by rw [updB_other (by omega)] at hd; exact hd)
    case ne => exact fun j k hj hk hjk hd hd2 => h.ne j k hj hk hjk (by rw [updB_other (by omega)] at hd; exact hd) (by rw [updB_other (by omega)] at hd2; exact hd2)
    case d9 => exact h.d9
    case d11 => exact h.d11
    case o11 => exact h.o11
theorem PGood.made (h : PGood W0 gb so no bo sc nc bn bc n gi gm d r β w) {i t : Nat} (o : Obj) (v : Value) (hd : d i = false) (h9 : d 9 = true -> i = 10) (h11 : d 11 = false)
    (hi : (i = 2 /\ t = 12 \/ i = 4 /\ t = 14 \/ i = 6 /\ t = 16 \/ i = 8 /\ t = 18) /\ v = .slice (some ⟨w.heap.size, 0, none⟩) n n /\ o = .cells (madeCells #[.int .i64 0] n) 3 \/ (i = 10 /\ t = 4) /\ v = .pointer (some ⟨w.heap.size, 0, none⟩) /\ o = .cells zeroWalk 210) :
    PGood W0 gb so no bo sc nc bn bc n gi gm (updB d i) (updV r t v) (upd β i w.heap.size) (w.alloc o) := by
  have hkeep : ∀ j, j < w.heap.size -> (w.alloc o).heap[j]? = w.heap[j]? := fun j hj => ((Below.refl w.heap.size w).alloc (Nat.le_refl _) o).block j hj
  have hnew : ∀ j, j = 2 \/ j = 4 \/ j = 6 \/ j = 8 \/ j = 10 -> j ≠ i -> d j = true -> upd β i w.heap.size j = β j /\ W0.heap.size <= β j /\ β j < w.heap.size := fun j hj hne hdj => ⟨upd_other hne, h.new j hj hdj⟩
  have hbs := h.below.size; have hb : Below W0.heap.size W0 (w.alloc o) := h.below.alloc hbs o
  have hrow : ∀ j, j = 2 \/ j = 4 \/ j = 6 \/ j = 8 -> j ≠ i -> updB d i j = true -> (w.alloc o).rowIs (upd β i w.heap.size j) 3 n (fun _ => .int .i64 0) := fun j hj hne hdj => by
    rw [updB_other hne] at hdj; rw [upd_other hne]; exact (h.row j hj hdj).alloc o
  have hnw : ∀ j, j = 2 \/ j = 4 \/ j = 6 \/ j = 8 \/ j = 10 -> updB d i j = true -> W0.heap.size <= upd β i w.heap.size j /\ upd β i w.heap.size j < (w.alloc o).heap.size := fun j hj hdj => by
    rw [World.size_alloc]
    by_cases e : j = i
    · rw [e, upd_same]; omega
    · rw [updB_other e] at hdj
      have := hnew j hj e hdj; rw [this.1]; omega
  have hne : ∀ j k, j = 2 \/ j = 4 \/ j = 6 \/ j = 8 \/ j = 10 -> k = 2 \/ k = 4 \/ k = 6 \/ k = 8 \/ k = 10 -> j ≠ k -> updB d i j = true -> updB d i k = true -> upd β i w.heap.size j ≠ upd β i w.heap.size k := fun j k hj hk hjk hdj hdk => by
    by_cases e : j = i
    · rw [updB_other (show k ≠ i by omega)] at hdk
      have := hnew k hk (by omega) hdk
      rw [e, upd_same, this.1]; omega
    · rw [updB_other e] at hdj
      have h1 := hnew j hj e hdj
      by_cases e2 : k = i
      · rw [e2, upd_same, h1.1]; omega
      · rw [updB_other e2] at hdk
        have h2 := hnew k hk e2 hdk; rw [h1.1, h2.1]; exact h.ne j k hj hk hjk hdj hdk
  rcases hi with ⟨hit, rfl, rfl⟩ | ⟨⟨rfl, rfl⟩, rfl, rfl⟩
  · have hd9 : d 9 = false := by
      cases e : d 9 with
      | false => rfl
      | true => have := h9 e; omega
    have hrow' : ∀ j, j = 2 \/ j = 4 \/ j = 6 \/ j = 8 -> updB d i j = true -> (w.alloc (.cells (madeCells #[.int .i64 0] n) 3)).rowIs (upd β i w.heap.size j) 3 n (fun _ => .int .i64 0) := fun j hj hdj => by
      by_cases e : j = i
      · rw [e, upd_same]; exact World.rowIs_made w (.int .i64 0) n 3
      · exact hrow j hj e hdj
    have hbox : d 10 = true -> d 11 = false -> (w.alloc (.cells (madeCells #[.int .i64 0] n) 3)).heap[upd β i w.heap.size 10]? = some (.cells zeroWalk 210 (0, 0)) := fun h10 _ => by
      have := hnew 10 (by omega) (by omega) h10
      rw [this.1, hkeep _ this.2.2]; exact h.box h10 h11
    rcases hit with ⟨rfl, rfl⟩ | ⟨rfl, rfl⟩ | ⟨rfl, rfl⟩ | ⟨rfl, rfl⟩
    all_goals
      constructor
      case below => exact hb
      case r1 => exact h.r1
      case r3 => exact h.r3
      case d0 => exact h.d0
      case d1 => exact h.d1
      case d3 => exact h.d3
      case d5 => exact h.d5
      case d7 => exact h.d7
      case d2 => first | exact fun _ => rfl | exact h.d2
      case d4 => first | exact fun _ => rfl | exact h.d4
      case d6 => first | exact fun _ => rfl | exact h.d6
      case d8 => first | exact fun _ => rfl | exact h.d8
      case d10 => exact h.d10
      case row => exact hrow'
      case box => exact hbox
      case new => exact hnw
      case ne => exact hne
      case d9 => exact fun hh => absurd (show d 9 = true from hh) (by rw [hd9]; simp)
      case d11 => exact fun hh => absurd (show d 11 = true from hh) (by rw [h11]; simp)
      case o11 => exact fun hh => absurd (show d 11 = true from hh) (by rw [h11]; simp)
  · constructor
    case below => exact hb
    case r1 => exact h.r1
    case r3 => exact h.r3
    case d0 => exact h.d0
    case d1 => exact h.d1
    case d3 => exact h.d3
    case d5 => exact h.d5
    case d7 => exact h.d7
    case d2 => exact h.d2
    case d4 => exact h.d4
    case d6 => exact h.d6
    case d8 => exact h.d8
    case d10 => exact fun _ => rfl
    case row => exact fun j hj hdj => hrow j hj (by omega) hdj
    case box => exact fun _ _ => blk_alloc_new _ _
    case new => exact hnw
    case ne => exact hne
    case d9 => exact h.d9
    case d11 => exact fun hh => absurd (show d 11 = true from hh) (by rw [h11]; simp)
    case o11 => exact fun hh => absurd (show d 11 = true from hh) (by rw [h11]; simp)
theorem PGood.built (h : PGood W0 gb so no bo sc nc bn bc n gi gm d r β w) (h2 : d 2 = true) (h4 : d 4 = true) (h6 : d 6 = true) (h8 : d 8 = true) : PGood W0 gb so no bo sc nc bn bc n gi gm (updB d 9) (updV r 19 (.agg (fullWalk so no bo sc nc bn bc n gi gm (β 2) (β 4) (β 6) (β 8)))) β w := by
  constructor
  case below => exact h.below
  case r1 => exact h.r1
  case r3 => exact h.r3
  case d0 => exact h.d0
  case d1 => exact h.d1
  case d3 => exact h.d3
  case d5 => exact h.d5
  case d7 => exact h.d7
  case d2 => exact h.d2
  case d4 => exact h.d4
  case d6 => exact h.d6
  case d8 => exact h.d8
  case d10 => exact h.d10
  case row => exact fun j hj hd => h.row j hj (by rw [updB_other (by omega)] at hd; exact hd)
  case box => exact h.box
  case new => exact fun j hj hd => h.new j hj (by rw [updB_other (by omega)] at hd; exact hd)
  case ne => exact fun j k hj hk hjk hd hd2 => h.ne j k hj hk hjk (by rw [updB_other (by omega)] at hd; exact hd) (by rw [updB_other (by omega)] at hd2; exact hd2)
  case d9 => exact fun _ => ⟨⟨h2, h4, h6, h8⟩, rfl⟩
  case d11 => exact h.d11
  case o11 => exact fun hh => ⟨rfl, (h.o11 hh).2⟩
theorem PGood.stored (h : PGood W0 gb so no bo sc nc bn bc n gi gm d r β w) (h9 : d 9 = true) (h10 : d 10 = true) {w' : World} (hb : w'.heap[β 10]? = some (.cells (fullWalk so no bo sc nc bn bc n gi gm (β 2) (β 4) (β 6) (β 8)) 210 (0, 0))) (hk : ∀ i, i ≠ β 10 -> w'.heap[i]? = w.heap[i]?) (hB : ∀ B W, B <= β 10 -> Below B W w -> Below B W w') : PGood W0 gb so no bo sc nc bn bc n gi gm (updB d 11) r β w' := by
  have hn10 := h.new 10 (by omega) h10
  have hsz := (hB (β 10) w (Nat.le_refl _) (Below.refl _ _)).size
  constructor
  case below => exact hB _ _ hn10.1 h.below
  case r1 => exact h.r1
  case r3 => exact h.r3
  case d0 => exact h.d0
  case d1 => exact h.d1
  case d3 => exact h.d3
  case d5 => exact h.d5
  case d7 => exact h.d7
  case d2 => exact h.d2
  case d4 => exact h.d4
  case d6 => exact h.d6
  case d8 => exact h.d8
  case d10 => exact h.d10
  case row =>
    intro j hj hd; rw [updB_other (by omega)] at hd
    exact (h.row j hj hd).of_block (hk _ (h.ne j 10 (by omega) (by omega) (by omega) hd h10))
  case box => exact fun _ hh => absurd (show true = false from hh) (by simp)
  case new =>
    intro j hj hd; have := h.new j hj (by rw [updB_other (by omega)] at hd; exact hd)
    omega
  case ne => exact fun j k hj hk2 hjk hd hd2 => h.ne j k hj hk2 hjk (by rw [updB_other (by omega)] at hd; exact hd) (by rw [updB_other (by omega)] at hd2; exact hd2)
  case d9 => exact h.d9
  case d11 => exact fun _ => hb
  case o11 => exact fun _ => ⟨h9, h10⟩
end
theorem put_is (r : Nat -> Value) (t : Nat) (v : Value) (ht : t = 4 \/ t = 10 \/ t = 11 \/ t = 12 \/ t = 13 \/ t = 14 \/ t = 15 \/ t = 16 \/ t = 17 \/ t = 18 \/ t = 19) : (fr r).put (some t) v = fr (updV r t v) := by
  rcases ht with rfl | rfl | rfl | rfl | rfl | rfl | rfl | rfl | rfl | rfl | rfl <;> rfl
theorem lst_set (d : Nat -> Bool) (i : Nat) (hi : i < 12) : (lst d).setIfInBounds i true = lst (updB d i) := by
  have h4 : i = 0 \/ i = 1 \/ i = 2 \/ i = 3 \/ i = 4 \/ i = 5 \/ i = 6 \/ i = 7 \/ i = 8 \/ i = 9 \/ i = 10 \/ i = 11 := by omega
  rcases h4 with rfl | rfl | rfl | rfl | rfl | rfl | rfl | rfl | rfl | rfl | rfl | rfl <;> rfl
theorem nF_set (d : Nat -> Bool) (i : Nat) (hi : i < 12) (hd : d i = false) {k : Nat} (hk : k + 1 = nF d) : k = nF (updB d i) := by
  have h4 : i = 0 \/ i = 1 \/ i = 2 \/ i = 3 \/ i = 4 \/ i = 5 \/ i = 6 \/ i = 7 \/ i = 8 \/ i = 9 \/ i = 10 \/ i = 11 := by omega
  unfold nF at hk ⊢
  rcases h4 with rfl | rfl | rfl | rfl | rfl | rfl | rfl | rfl | rfl | rfl | rfl | rfl <;> (simp [updB, hd, bN] at hk ⊢; omega)
theorem nF_zero (d : Nat -> Bool) (h : nF d = 0) : ∀ i, i < 12 -> d i = true := by
  have hb : ∀ b, bN b = 0 -> b = true := fun b hb => by cases b <;> simp_all [bN]
  unfold nF at h; intro i hi; have h4 : i = 0 \/ i = 1 \/ i = 2 \/ i = 3 \/ i = 4 \/ i = 5 \/ i = 6 \/ i = 7 \/ i = 8 \/ i = 9 \/ i = 10 \/ i = 11 := by omega
  rcases h4 with rfl | rfl | rfl | rfl | rfl | rfl | rfl | rfl | rfl | rfl | rfl | rfl <;> exact hb _ (by omega)
theorem bool_not {b : Bool} (h : b = true -> False) : b = false := by
  cases b with
  | false => rfl
  | true => exact (h rfl).elim
def OutR (j : Nat) : Prop := j ≠ 4 /\ (j < 10 \/ 19 < j)
theorem parts_region (s : String) {Q : Exit -> Act -> World -> Prop} (W0 : World) (gb : Nat) (so no bo : Option Addr) (sc nc bn bc n : Nat) (gi gm : Int) (r0 : Nat -> Value) (hn : n <= 20000) (hgb : gb < W0.heap.size) (h1 : r0 1 = .pointer (some ⟨gb, 0, none⟩)) (h3 : r0 3 = .int .i64 (n : Int))
    (c0 : W0.cell? ⟨gb, 0, none⟩ = some (.slice so n sc)) (c1 : W0.cell? ⟨gb, 1, none⟩ = some (.int .i64 gi)) (c2 : W0.cell? ⟨gb, 2, none⟩ = some (.slice no n nc)) (c3 : W0.cell? ⟨gb, 3, none⟩ = some (.slice bo bn bc)) (c4 : W0.cell? ⟨gb, 4, none⟩ = some (.int .i64 gm))
    (hQ : ∀ d r β w, (∀ i, i < 12 -> d i = true) -> (∀ j, OutR j -> r j = r0 j) -> PGood W0 gb so no bo sc nc bn bc n gi gm d r β w -> Q .normal (fr r) w) :
    (Code.region 2 (partsOps s) true).wp Tryz.prog Q (fr r0) W0 := by
  refine wp_region_any rfl ?_
  refine wpAny_inv (fun k l a w => ∃ d r β, l = lst d /\ a = fr r /\ k = nF d /\ (∀ j, OutR j -> r j = r0 j) /\ PGood W0 gb so no bo sc nc bn bc n gi gm d r β w) ?_ _ _ _ _ ⟨fun _ => false, r0, fun _ => 0, rfl, rfl, rfl, fun _ _ => rfl, ?_⟩
  · rintro k l a w ⟨d, r, β, rfl, rfl, hk, hfr, hg⟩
    refine ⟨fun hr => hQ d r β w (ready_none s d hr) hfr hg, fun h0 => ready_all s d (nF_zero d (by omega)), fun k' hk' i hi => ?_⟩
    have hrd := ready_is s d i hi; have hkn : k' + 1 = nF d := by omega
    have hcell : ∀ j, w.cell? ⟨gb, j, none⟩ = W0.cell? ⟨gb, j, none⟩ := fun j => hg.below.cell (p := ⟨gb, j, none⟩) hgb
    rcases hrd with ⟨rfl, hdi⟩ | ⟨rfl, hdi⟩ | ⟨rfl, hdi, hpre⟩ | ⟨rfl, hdi⟩ | ⟨rfl, hdi, hpre⟩ | ⟨rfl, hdi⟩ | ⟨rfl, hdi, hpre⟩ | ⟨rfl, hdi⟩ | ⟨rfl, hdi, hpre⟩ | ⟨rfl, hdi, p0, p2, p4, p6, p8⟩ | ⟨rfl, hdi⟩ | ⟨rfl, hdi, p10, p9⟩
    · exact wpOp_val (grV so no bo sc nc bn bc n gi gm) rfl rfl (run_load s r w gb _ _ _ _ _ hg.r1 ((hcell 0).trans c0) ((hcell 1).trans c1) ((hcell 2).trans c2) ((hcell 3).trans c3) ((hcell 4).trans c4)) (put_is r 10 _ (by omega)) ⟨updB d 0, updV r 10 _, β, lst_set d 0 (by omega), rfl, nF_set d 0 (by omega) hdi hkn, fun j hj => (updV_other (by have := hj.1; have := hj.2; omega)).trans (hfr j hj), hg.plain (i := 0) (t := 10) _ (by simp)⟩
    · refine wpOp_val (.int .i64 (n : Int)) rfl rfl (run_move s r w 11 _ hg.r3) (put_is r 11 _ (by omega)) ⟨updB d 1, updV r 11 (.int .i64 (n : Int)), β, lst_set d 1 (by omega), rfl, nF_set d 1 (by omega) hdi hkn, fun j hj => (updV_other (by have := hj.1; have := hj.2; omega)).trans (hfr j hj), hg.plain (i := 1) (t := 11) _ (by simp)⟩
    · have h9 : d 9 = false := bool_not fun e => by have := (hg.d9 e).1; simp [hdi] at this
      have h11 : d 11 = false := bool_not fun e => by have := (hg.o11 e).1; simp [h9] at this
      exact wpOp_val (.slice (some ⟨w.heap.size, 0, none⟩) n n) rfl rfl (run_make s _ r w 12 11 n hn (by simp [fr, Act.eval, hg.d1 hpre])) (put_is r 12 _ (by omega)) ⟨updB d 2, updV r 12 _, upd β 2 w.heap.size, lst_set d 2 (by omega), rfl, nF_set d 2 (by omega) hdi hkn, fun j hj => (updV_other (by have := hj.1; have := hj.2; omega)).trans (hfr j hj), hg.made (i := 2) (t := 12) _ _ hdi (by rw [h9]; simp) h11 (by simp)⟩
    · refine wpOp_val (.int .i64 (n : Int)) rfl rfl (run_move s r w 13 _ hg.r3) (put_is r 13 _ (by omega)) ⟨updB d 3, updV r 13 (.int .i64 (n : Int)), β, lst_set d 3 (by omega), rfl, nF_set d 3 (by omega) hdi hkn, fun j hj => (updV_other (by have := hj.1; have := hj.2; omega)).trans (hfr j hj), hg.plain (i := 3) (t := 13) _ (by simp)⟩
    · have h9 : d 9 = false := bool_not fun e => by have := (hg.d9 e).1; simp [hdi] at this
      have h11 : d 11 = false := bool_not fun e => by have := (hg.o11 e).1; simp [h9] at this
      exact wpOp_val (.slice (some ⟨w.heap.size, 0, none⟩) n n) rfl rfl (run_make s _ r w 14 13 n hn (by simp [fr, Act.eval, hg.d3 hpre])) (put_is r 14 _ (by omega)) ⟨updB d 4, updV r 14 _, upd β 4 w.heap.size, lst_set d 4 (by omega), rfl, nF_set d 4 (by omega) hdi hkn, fun j hj => (updV_other (by have := hj.1; have := hj.2; omega)).trans (hfr j hj), hg.made (i := 4) (t := 14) _ _ hdi (by rw [h9]; simp) h11 (by simp)⟩
    · refine wpOp_val (.int .i64 (n : Int)) rfl rfl (run_move s r w 15 _ hg.r3) (put_is r 15 _ (by omega)) ⟨updB d 5, updV r 15 (.int .i64 (n : Int)), β, lst_set d 5 (by omega), rfl, nF_set d 5 (by omega) hdi hkn, fun j hj => (updV_other (by have := hj.1; have := hj.2; omega)).trans (hfr j hj), hg.plain (i := 5) (t := 15) _ (by simp)⟩
    · have h9 : d 9 = false := bool_not fun e => by have := (hg.d9 e).1; simp [hdi] at this
      have h11 : d 11 = false := bool_not fun e => by have := (hg.o11 e).1; simp [h9] at this
      exact wpOp_val (.slice (some ⟨w.heap.size, 0, none⟩) n n) rfl rfl (run_make s _ r w 16 15 n hn (by simp [fr, Act.eval, hg.d5 hpre])) (put_is r 16 _ (by omega)) ⟨updB d 6, updV r 16 _, upd β 6 w.heap.size, lst_set d 6 (by omega), rfl, nF_set d 6 (by omega) hdi hkn, fun j hj => (updV_other (by have := hj.1; have := hj.2; omega)).trans (hfr j hj), hg.made (i := 6) (t := 16) _ _ hdi (by rw [h9]; simp) h11 (by simp)⟩
    · refine wpOp_val (.int .i64 (n : Int)) rfl rfl (run_move s r w 17 _ hg.r3) (put_is r 17 _ (by omega)) ⟨updB d 7, updV r 17 (.int .i64 (n : Int)), β, lst_set d 7 (by omega), rfl, nF_set d 7 (by omega) hdi hkn, fun j hj => (updV_other (by have := hj.1; have := hj.2; omega)).trans (hfr j hj), hg.plain (i := 7) (t := 17) _ (by simp)⟩
    · have h9 : d 9 = false := bool_not fun e => by have := (hg.d9 e).1; simp [hdi] at this
      have h11 : d 11 = false := bool_not fun e => by have := (hg.o11 e).1; simp [h9] at this
      exact wpOp_val (.slice (some ⟨w.heap.size, 0, none⟩) n n) rfl rfl (run_make s _ r w 18 17 n hn (by simp [fr, Act.eval, hg.d7 hpre])) (put_is r 18 _ (by omega)) ⟨updB d 8, updV r 18 _, upd β 8 w.heap.size, lst_set d 8 (by omega), rfl, nF_set d 8 (by omega) hdi hkn, fun j hj => (updV_other (by have := hj.1; have := hj.2; omega)).trans (hfr j hj), hg.made (i := 8) (t := 18) _ _ hdi (by rw [h9]; simp) h11 (by simp)⟩
    · exact wpOp_val (.agg (fullWalk so no bo sc nc bn bc n gi gm (β 2) (β 4) (β 6) (β 8))) rfl rfl (run_build s _ r w so no bo sc nc bn bc n gi gm _ _ _ _ (hg.d0 p0) (hg.d2 p2) (hg.d4 p4) (hg.d6 p6) (hg.d8 p8)) (put_is r 19 _ (by omega)) ⟨updB d 9, updV r 19 _, β, lst_set d 9 (by omega), rfl, nF_set d 9 (by omega) hdi hkn, fun j hj => (updV_other (by have := hj.1; have := hj.2; omega)).trans (hfr j hj), hg.built p2 p4 p6 p8⟩
    · have h11 : d 11 = false := bool_not fun e => by have := (hg.o11 e).2; simp [hdi] at this
      exact wpOp_val (.pointer (some ⟨w.heap.size, 0, none⟩)) rfl rfl (run_alloc s r w) (put_is r 4 _ (by omega)) ⟨updB d 10, updV r 4 _, upd β 10 w.heap.size, lst_set d 10 (by omega), rfl, nF_set d 10 (by omega) hdi hkn, fun j hj => (updV_other (by have := hj.1; have := hj.2; omega)).trans (hfr j hj), hg.made (i := 10) (t := 4) _ _ hdi (fun _ => rfl) h11 (by simp)⟩
    · obtain ⟨w', h1', h2', h3', h4'⟩ := run_store s _ r w (β 10) so no bo sc nc bn bc n gi gm (β 2) (β 4) (β 6) (β 8) (hg.d10 p10) (hg.d9 p9).2 (hg.box p10 hdi)
      exact wpOp_unit rfl rfl rfl h1' ⟨updB d 11, r, β, lst_set d 11 (by omega), rfl, nF_set d 11 (by omega) hdi hkn, hfr, hg.stored p9 p10 h2' h3' h4'⟩
  · constructor
    case below => exact (Below.refl _ _).drew
    case r1 => exact h1
    case r3 => exact h3
    case new => exact fun _ _ h => by simp at h
    case ne => exact fun _ _ _ _ _ h => by simp at h
    case row => exact fun _ _ h => by simp at h
    all_goals exact fun h => by simp at h
def madeA (s t b1 b2 b3 b4 b5 : Nat) : TA := ⟨s, t, b1, b2, b3, b4, b5⟩
def made_ok (w w5 : World) (no : Option Addr) (n nc b bw bl bg bp : Nat) : Prop := TAOk (madeA w.heap.size w5.heap.size b bw bl bg bp) /\ (madeA w.heap.size w5.heap.size b bw bl bg bp).s = w.heap.size /\ TjW w w5 (madeA w.heap.size w5.heap.size b bw bl bg bp) (.slice no n nc) n (.slice none 0 0) (.slice none 0 0) [] [] (fun _ => 0) (fun _ => 0) (fun _ => 0) (fun _ => 0) 0
theorem PGood.ok {w W0 : World} {so no bo : Option Addr} {sc nc bn bc n : Nat} {gi gm : Int} {d : Nat -> Bool} {r : Nat -> Value} {β : Nat -> Nat} {w5 : World} (h : PGood W0 w.heap.size so no bo sc nc bn bc n gi gm d r β w5) (hd : ∀ i, i < 12 -> d i = true) (hs : W0.heap.size = w.heap.size + 1) (hb0 : Below w.heap.size w W0) : made_ok w w5 no n nc (β 10) (β 2) (β 4) (β 6) (β 8) := by
  have n2 := h.new 2 (by omega) (hd 2 (by omega))
  have n4 := h.new 4 (by omega) (hd 4 (by omega))
  have n6 := h.new 6 (by omega) (hd 6 (by omega))
  have n8 := h.new 8 (by omega) (hd 8 (by omega))
  have n10 := h.new 10 (by omega) (hd 10 (by omega))
  have hne := fun i j hi hj hij => h.ne i j hi hj hij (hd i (by omega)) (hd j (by omega))
  have hbox := h.d11 (hd 11 (by omega))
  have hc : ∀ j, w5.cell? ⟨β 10, j, none⟩ = (fullWalk so no bo sc nc bn bc n gi gm (β 2) (β 4) (β 6) (β 8))[j]? := fun j => by simp [World.cell?, hbox]
  have hf : ∀ j, w5.frozen? ⟨β 10, j, none⟩ = false := fun j => by simp [World.frozen?, hbox]
  refine ⟨⟨?_, ?_, ?_, ?_, ?_, ?_, ?_, ?_, ?_, ?_, ?_, ?_, ?_, ?_, ?_, ?_, ?_, ?_, ?_, ?_⟩, rfl, ⟨?_, ?_, hf, hc 2, hc 5, hc 6, hc 7, hc 8, hc 9, hc 10, hc 11, h.row 2 (by omega) (hd 2 (by omega)), h.row 4 (by omega) (hd 4 (by omega)), h.row 6 (by omega) (hd 6 (by omega)), h.row 8 (by omega) (hd 8 (by omega)), World.ownsRow_nil _ _ _ _, World.ownsRow_nil _ _ _ _, fun k hk => by cases hk⟩⟩
  all_goals show _
  all_goals simp only [madeA]
  · omega
  · omega
  · omega
  · omega
  · omega
  · omega
  · omega
  · omega
  · omega
  · omega
  · exact hne 10 2 (by omega) (by omega) (by omega)
  · exact hne 10 4 (by omega) (by omega) (by omega)
  · exact hne 10 6 (by omega) (by omega) (by omega)
  · exact hne 10 8 (by omega) (by omega) (by omega)
  · exact hne 2 4 (by omega) (by omega) (by omega)
  · exact hne 2 6 (by omega) (by omega) (by omega)
  · exact hne 2 8 (by omega) (by omega) (by omega)
  · exact hne 4 6 (by omega) (by omega) (by omega)
  · exact hne 4 8 (by omega) (by omega) (by omega)
  · exact hne 6 8 (by omega) (by omega) (by omega)
  · exact hb0.trans (h.below.mono (by omega))
  · exact Nat.le_refl _
theorem partsOf_any (so no bo : Option Addr) (sc nc bn bc : Nat) (gi gm : Int) (n : Nat) (nx : Nat -> List Nat) (w : World) (hn : n <= 20000) (hnx : ∀ i, i < n -> ∀ k ∈ nx i, k < n) (hxl : ∀ i, i < n -> (nx i).length <= 140737488355328) (hR : NextRows w no n nx) :
    Calls Tryz.prog 92 #[.agg #[.slice so n sc, .int .i64 gi, .slice no n nc, .slice bo bn bc, .int .i64 gm]] w fun e w' => ∃ B, e = .returned (.slice (some ⟨B, 0, none⟩) n n) /\ Below w.heap.size w w' /\ Hid (∃ pt, w.heap.size <= B /\ w'.rowIs B 3 n (intRow pt) /\ ∀ x, x < n -> PartIs nx x (pt x)) := by
  have hmk := run_make_row' (P := Tryz.prog) 36 3 (.int .i64 0) 8 Tryz.underlying36 infoInt rfl .i64 .i64 n (by omega) (by omega)
  obtain ⟨W0, hW0⟩ : ∃ W0, W0 = w.alloc (.cells #[.slice so n sc, .int .i64 gi, .slice no n nc, .slice bo bn bc, .int .i64 gm] 71) := ⟨_, rfl⟩
  have hs0 : W0.heap.size = w.heap.size + 1 := by rw [hW0]; simp
  have hb0 : Below w.heap.size w W0 := by rw [hW0]; exact (Below.refl _ _).alloc (Nat.le_refl _) _
  have c0 : W0.cell? ⟨w.heap.size, 0, none⟩ = some (.slice so n sc) := by rw [hW0]; simp [go_sem]
  have c1 : W0.cell? ⟨w.heap.size, 1, none⟩ = some (.int .i64 gi) := by rw [hW0]; simp [go_sem]
  have c2 : W0.cell? ⟨w.heap.size, 2, none⟩ = some (.slice no n nc) := by rw [hW0]; simp [go_sem]
  have c3 : W0.cell? ⟨w.heap.size, 3, none⟩ = some (.slice bo bn bc) := by rw [hW0]; simp [go_sem]
  have c4 : W0.cell? ⟨w.heap.size, 4, none⟩ = some (.int .i64 gm) := by rw [hW0]; simp [go_sem]
  go_enter Tryz.func92, Tryz.ntmps92
  go_upto_region 2 with fail
  rw [<- hW0]
  go_cut [4] (fun s4 wx => ∃ A : TA, s4 = .pointer (some ⟨A.b, 0, none⟩) /\ Hid (TAOk A /\ A.s = w.heap.size /\ TjW w wx A (.slice no n nc) n (.slice none 0 0) (.slice none 0 0) [] [] (fun _ => 0) (fun _ => 0) (fun _ => 0) (fun _ => 0) 0))
  case first =>
    refine parts_region _ W0 w.heap.size so no bo sc nc bn bc n gi gm (fun i => List.getD [_, _, _, _, _, _, _, _, _, _, _, _, _, _, _, _, _, _, _, _, _, _, _, _, _, _, _, _, _, _, _, _, _, _, _, _, _, _, _, _, _, _, _, _, _, _, _] i undef) hn (by omega) rfl rfl c0 c1 c2 c3 c4 ?_
    intro d r β w5 hd hfr hg; have HX : Hid (made_ok w w5 no n nc (β 10) (β 2) (β 4) (β 6) (β 8)) := PGood.ok hg hd hs0 hb0; have e4 := hg.d10 (hd 10 (by omega))
    unfold fr
    simp only [hfr 0 (by unfold OutR; omega), hfr 1 (by unfold OutR; omega), hfr 2 (by unfold OutR; omega), hfr 3 (by unfold OutR; omega), hfr 5 (by unfold OutR; omega), hfr 6 (by unfold OutR; omega), hfr 7 (by unfold OutR; omega), hfr 8 (by unfold OutR; omega), hfr 9 (by unfold OutR; omega), hfr 20 (by unfold OutR; omega), hfr 21 (by unfold OutR; omega), hfr 22 (by unfold OutR; omega), hfr 23 (by unfold OutR; omega), hfr 24 (by unfold OutR; omega), hfr 25 (by unfold OutR; omega), hfr 26 (by unfold OutR; omega), hfr 27 (by unfold OutR; omega), hfr 28 (by unfold OutR; omega), hfr 29 (by unfold OutR; omega), hfr 30 (by unfold OutR; omega), hfr 31 (by unfold OutR; omega), hfr 32 (by unfold OutR; omega), hfr 33 (by unfold OutR; omega), hfr 34 (by unfold OutR; omega), hfr 35 (by unfold OutR; omega), hfr 36 (by unfold OutR; omega), hfr 37 (by unfold OutR; omega), hfr 38 (by unfold OutR; omega), hfr 39 (by unfold OutR; omega), hfr 40 (by unfold OutR; omega), hfr 41 (by unfold OutR; omega), hfr 42 (by unfold OutR; omega), hfr 43 (by unfold OutR; omega), hfr 44 (by unfold OutR; omega), hfr 45 (by unfold OutR; omega), hfr 46 (by unfold OutR; omega), List.getD_cons_zero, List.getD_cons_succ]
    have hu : (Value.tuple #[] : Value) = undef := rfl; simp only [hu]; clear hu; clear hfr hg hd
    go_wp2_with fail
    go_meet
    exact ⟨madeA w.heap.size w5.heap.size (β 10) (β 2) (β 4) (β 6) (β 8), rfl, HX⟩
  case rest =>
    obtain ⟨A, rfl, HA0⟩ := hcut; obtain ⟨hA, hAs, hW⟩ := HA0.out; have HA : Hid (TAOk A) := hA; have H0 : Hid (TjW w wc A (.slice no n nc) n (.slice none 0 0) (.slice none 0 0) [] [] (fun _ => 0) (fun _ => 0) (fun _ => 0) (fun j => if j < 0 then -1 else 0) 0) := hW
    have HR : Hid (NextRows w no n nx) := hR; have HNX : Hid (∀ i, i < n -> ∀ k ∈ nx i, k < n) := hnx
    have HXL : Hid (∀ i, i < n -> (nx i).length <= 140737488355328) := hxl
    have k11 := H0.out.cp; clear HA0 hW hmk c0 c1 c2 c3 c4 hb0 hR hnx hxl hs0 hW0
    go_wp2_with fail
    go_loopw [23] (fun i wr => ∃ k : Nat, k <= n /\ i = .int .i64 k /\ Hid (TjW w wr A (.slice no n nc) n (.slice none 0 0) (.slice none 0 0) [] [] (fun _ => 0) (fun _ => 0) (fun _ => 0) (fun j => if j < k then -1 else 0) 0)) (fun i _ => n - (intOf i).toNat)
    case atStart => exact ⟨0, Nat.zero_le _, rfl, H0⟩
    case round =>
      obtain ⟨k, hk, rfl, HK⟩ := hrel
      by_cases hlt : k < n
      · have k11 := HK.out.cp
        have r1 := HK.out.rp.cell hlt; have r2 := HK.out.rp.frozen k
        have HN : Hid (TjW w (wr.setCell ⟨A.bp, k, none⟩ (.int .i64 (-1))) A (.slice no n nc) n (.slice none 0 0) (.slice none 0 0) [] [] (fun _ => 0) (fun _ => 0) (fun _ => 0) (fun j => if j < k + 1 then -1 else 0) 0) := by
          have := HK.out.setP HA.out k (-1)
          have e : updI (fun j => if j < k then (-1 : Int) else 0) k (-1) = fun j => if j < k + 1 then -1 else 0 := by
            funext j
            unfold updI
            by_cases hj : j = k
            · subst hj; simp
            · rw [if_neg hj]
              show (if j < k then (-1 : Int) else 0) = _
              by_cases hjk : j < k
              · rw [if_pos hjk, if_pos (by omega)]
              · rw [if_neg hjk, if_neg (by omega)]
          rw [e] at this; exact this
        generalize intRow (fun j => if j < k then (-1 : Int) else 0) k = old at *
        clear HK
        go_wp2_with fail
        go_roundw
        case rel => exact ⟨k + 1, hlt, by go_num, HN⟩
        case measure => simp [intOf]; omega
      · obtain rfl : k = n := by omega
        have HT0 : Hid (∃ wh lo go pt met, TjAt w wr A (.slice no k nc) k nx [] wh lo go pt met /\ ∀ x, x < 0 -> wh x ≠ 0) := by
          have h := HK.out; refine ⟨_, _, _, _, _, ⟨.slice none 0 0, .slice none 0 0, Tj.start k nx, ?_⟩, fun x hx => by omega⟩
          exact ⟨h.below, h.size, h.fz, h.gn, h.dn, h.on, h.cw, h.cl, h.cg, h.cm, h.cp, h.rw, h.rl, h.rg, h.rp.congr (fun j hj => by simp [intRow, hj]), h.od, h.oo, h.ap⟩
        clear HK H0 k11; generalize wr = w1 at *
        go_wp2_with fail
        go_loopw [32] (fun i wr => ∃ q : Nat, q <= k /\ i = .int .i64 q /\ Hid (TjEnd w wr A (.slice no k nc) k nx (fun x => x < q))) (fun i _ => k - (intOf i).toNat)
        case atStart => exact ⟨0, Nat.zero_le _, rfl, HT0⟩
        case round =>
          obtain ⟨q, hq, rfl, HE⟩ := hrel; obtain ⟨wh, lo, go, pt, met, ⟨dv, ov, hT, hW⟩, hseen⟩ := HE.out; have HT : Hid (Tj k nx [] wh lo go pt met) := hT; have HW : Hid (TjW w wr A (.slice no k nc) k dv ov [] [] wh lo go pt met) := hW; have HS : Hid (∀ x, x < q -> wh x ≠ 0) := hseen
          clear hT hW hseen HE HT0
          by_cases hlt2 : q < k
          · have k7 := HW.out.cw
            have r7 : wr.cell? ⟨A.bw, q, none⟩ = some (.int .i64 (wh q : Int)) := HW.out.rw.cell hlt2
            by_cases hwq : wh q = 0
            · have hmet : met < k := by rw [HT.out.few]; exact nz_lt hwq hlt2
              have hme := tjmeet_any w wr A (.slice no k nc) k dv ov [] [] wh lo go pt met q HA.out hlt2 (by omega) (by simp) (by simp) HW.out
              have HTb : Hid (Tj k nx [(q, [])] (upd wh q (met + 1)) (upd lo q (met + 1)) go pt (met + 1)) := HT.out.begin hlt2 hwq
              have HSq : Hid (∀ x, x < q + 1 -> upd wh q (met + 1) x ≠ 0) := fun x hx => by
                by_cases e : x = q
                · subst e; rw [upd_same]; omega
                · rw [upd_other e]; exact HS.out x (by omega)
              have hgo := fun w2 (hh : TjK w w2 A (.slice no k nc) k nx (fun x => x < q + 1) (2 * left nx go k + 1)) => tjgo_any w w2 A no nc k nx (fun x => x < q + 1) (2 * left nx go k + 1) HA.out hn HNX.out HXL.out (by rw [hAs]; exact Nat.le_refl _) HR.out hh
              rw [hwq] at r7; clear HT HW HS
              go_wp2_with (first | (go_at_call 134; refine hme.mono ?_; rintro e w2 ⟨rfl, HW2⟩; have hgo2 := hgo w2 (by obtain ⟨dv', ov', h6⟩ := HW2.out; exact ⟨_, _, _, _, _, _, ⟨dv', ov', HTb.out, h6⟩, rfl, HSq.out⟩)) | (go_at_call 135; refine hgo2.mono ?_; rintro e w3 ⟨rfl, HW3⟩))
              go_roundw
              case rel => exact ⟨q + 1, hlt2, by go_num, HW3⟩
              case measure => simp [intOf]; omega
            · have hwq2 : ¬ (wh q : Int) = 0 := by omega
              have HN : Hid (TjEnd w wr A (.slice no k nc) k nx (fun x => x < q + 1)) := ⟨wh, lo, go, pt, met, ⟨dv, ov, HT.out, HW.out⟩, fun x hx => by
                by_cases e : x = q
                · subst e; exact hwq
                · exact HS.out x (by omega)⟩
              generalize wh q = b at *; clear HT HW HS
              go_wp2_with fail
              go_roundw
              case rel => exact ⟨q + 1, hlt2, by go_num, HN⟩
              case measure => simp [intOf]; omega
          · obtain rfl : q = k := by omega
            have k11 := HW.out.cp; have hbw : Below w.heap.size w wr := by rw [<- hAs]; exact HW.out.below
            have HF : Hid (∃ pt, w.heap.size <= A.bp /\ wr.rowIs A.bp 3 q (intRow pt) /\ ∀ x, x < q -> PartIs nx x (pt x)) := ⟨pt, by rw [<- hAs]; exact HA.out.sp, HW.out.rp, HT.out.done HS.out⟩
            clear HT HW HS
            go_wp2_with fail
            go_ret
            exact ⟨_, rfl, hbw, HF⟩
end Go.Proofs.YtjdfdmamonjnoaaGreatDoor
namespace Go.Proofs.YtjdfdmamonjnoaaGreatDoor
open Go.ChangeShapes Go.WideShapes Go.ChangeAt Go.RowKit Go.Deep Go.Maps
open Terms
set_option maxHeartbeats 6400000
set_option maxRecDepth 20000
def LookPost (g : Gr) (ins want : Nat -> Bool) (bs : List Nat) (L : Met) (r : Int) : Prop := LOk g.spots.length ins (nxt g) bs L /\ ((r = -1 /\ Through ins want (nxt g) bs L L.length) \/ ∃ i, i < L.length /\ r = ((L.getD i (0, 0)).1 : Int) /\ want (L.getD i (0, 0)).1 = true)
theorem nvals_at (L : Met) {i : Nat} (hi : i < L.length) : (nvals (keys L))[i]? = some (.int .i64 ((L.getD i (0, 0)).1 : Int)) := by
  simp [nvals, keys, List.getD_eq_getElem?_getD, hi]
theorem lookG_any (so no bo po : Option Addr) (sc nc bc pc : Nat) (g : Gr) (bs : List Nat) (fi fw : FuncId) (ci cw : Array Value) (ins want : Nat -> Bool) (w : World) (hg : GOk g) (hzn : ∀ i, i < g.spots.length -> (g.next.getD i []).length <= 140737488355328)
    (hV : GraphV w (.slice so g.spots.length sc) (.slice no g.next.length nc) (.slice bo g.sets.length bc) g) (hP : NatsV w (.slice po bs.length pc) bs) (hbl : bs.length <= 140737488355328) (hbs : ∀ x ∈ bs, x < g.spots.length)
    (hI : FnB w w.heap.size g.spots.length (.func (.func fi) #[] ci) ins) (hW : FnB w w.heap.size g.spots.length (.func (.func fw) #[] cw) want) :
    Calls Tryz.prog 94 #[.agg #[.slice so g.spots.length sc, .int .i64 g.init, .slice no g.next.length nc, .slice bo g.sets.length bc, .int .i64 g.many], .slice po bs.length pc, .func (.func fi) #[] ci, .func (.func fw) #[] cw] w fun e w' => ∃ L r, e = .returned (.tuple #[.int .i64 r, .map (some (w.heap.size + 2))]) /\ Below w.heap.size w w' /\ Hid (CameIs w' (w.heap.size + 2) L /\ LookPost g ins want bs L r) := by
  have hn := hg.head.n; have hnl := hg.head.next
  have HMeet : Hid (∀ (po : Option Addr) (pc : Nat) (ps : List Nat) (f : Int) (w1 : World) (L : Met) (v : Value), (∀ x ∈ ps, x < g.spots.length) -> -1 <= f /\ f <= 20000 -> ps.length <= 140737488355328 -> NatsV w (.slice po ps.length pc) ps -> LOk g.spots.length ins (nxt g) bs L -> ((f = -1 /\ ∀ x ∈ ps, x ∈ bs) \/ ∃ j, j < L.length /\ f = ((L.getD j (0, 0)).1 : Int) /\ ∀ x ∈ ps, x ∈ nxt g (L.getD j (0, 0)).1) -> LookSt w w1 w.heap.size (.slice no g.next.length nc) (.func (.func fi) #[] ci) L v ->
      Calls Tryz.prog 136 #[.slice po ps.length pc, .int .i64 f, .pointer (some ⟨w.heap.size + 3, 0, none⟩), .pointer (some ⟨w.heap.size + 1, 0, none⟩), .pointer (some ⟨w.heap.size + 4, 0, none⟩)] w1 fun e w' => e = .returned (.tuple #[]) /\ ∃ v', LookSt w w' w.heap.size (.slice no g.next.length nc) (.func (.func fi) #[] ci) (meetTo ins f L ps ps.length) v' /\ LOk g.spots.length ins (nxt g) bs (meetTo ins f L ps ps.length)) := fun po pc ps f w1 L v h1 h2 h3 h4 h5 h6 h7 =>
    (meet_any po pc ps f w w1 g.spots.length _ fi ci ins L v hn h1 h2 h3 h4 hI (fun k hk => (meetTo_ok h5 h1 h6 k hk).length) h7).mono fun e w' ⟨e1, v', e2⟩ => ⟨e1, v', e2, meetTo_ok h5 h1 h6 _ (Nat.le_refl _)⟩
  have HV : Hid (GraphV w (.slice so g.spots.length sc) (.slice no g.next.length nc) (.slice bo g.sets.length bc) g) := hV
  have HRow : Hid (∀ p, p < g.spots.length -> ∃ b off, no = some ⟨b, off, none⟩ /\ b < w.heap.size /\ ∃ uo uc, w.cell? ⟨b, off + p, none⟩ = some (.slice uo (nxt g p).length uc) /\ NatsV w (.slice uo (nxt g p).length uc) (nxt g p) /\ (nxt g p).length <= 140737488355328 /\ ∀ x ∈ nxt g p, x < g.spots.length) := fun p hp => by
    obtain ⟨b, off, e, hb, uo, uc, h1, h2⟩ := hV.next.row (i := p) (by rw [hnl]; exact hp)
    have h3 := hzn p hp; refine ⟨b, off, e, hb, uo, uc, by rw [nxt_length]; exact h1, row_nats hg hp h2, by rw [nxt_length]; exact h3, fun x hx => nxt_lt hg hp hx⟩
  have HBs : Hid (∀ x ∈ bs, x < g.spots.length) := hbs
  have HP : Hid (NatsV w (.slice po bs.length pc) bs) := hP; obtain ⟨fw', cw', e1, hen, hwn⟩ := hW
  injection e1 with e1 e2 e3
  injection e1 with e1
  subst e1 e3; clear e2; have HWn : Hid (∀ w', Below w.heap.size w w' -> ∀ p : Nat, p < g.spots.length -> Calls Tryz.prog fw (#[.int .i64 (p : Int)] ++ cw) w' fun e w2 => e = .returned (.bool (want p)) /\ Below w'.heap.size w' w2) := hwn
  have HPost : Hid (∀ L r, LOk g.spots.length ins (nxt g) bs L -> ((r = -1 /\ Through ins want (nxt g) bs L L.length) \/ ∃ i, i < L.length /\ r = ((L.getD i (0, 0)).1 : Int) /\ want (L.getD i (0, 0)).1 = true) -> LookPost g ins want bs L r) := fun L r h1 h2 => ⟨h1, h2⟩
  have HTh0 : Hid (∀ f, Through ins want (nxt g) bs (meetTo ins f [] bs bs.length) 0) := fun f => ⟨fun x hx hy => by
      obtain ⟨k, hk, rfl⟩ := List.getElem_of_mem hx; have := meetTo_has (ins := ins) (f := f) (L := []) (Nat.le_refl bs.length) k hk; rw [List.getD_eq_getElem?_getD, List.getElem?_eq_getElem hk] at this
      exact this hy, fun j hj => by omega, fun j hj => by omega⟩
  generalize LookPost g ins want bs = LP at *; generalize nxt g = nx at *; rw [hnl] at HMeet ⊢; generalize g.sets.length = bn at *; generalize g.spots.length = n at *; generalize g.init = gi at *; generalize g.many = gm at *; clear hV hg hzn hnl hbs hP hI hwn HV
  have HS1 : Hid (LookSt w (((((w.alloc (.cells #[.slice so n sc, .int .i64 gi, .slice no n nc, .slice bo bn bc, .int .i64 gm] 71)).alloc (.cells #[.func (.func fi) #[] ci] 138)).alloc (.map #[] 0)).alloc (.cells #[.map (some (w.heap.size + 1 + 1))] 177)).alloc (.cells #[.slice none 0 0] 36)) w.heap.size (.slice no n nc) (.func (.func fi) #[] ci) [] (.slice none 0 0)) := by
    refine ⟨?_, by simp, by simp [go_sem], by simp [go_sem], by simp [go_sem], ?_, by simp [go_sem], by simp [go_sem], World.ownsRow_nil _ _ _ _⟩
    · exact (((((Below.refl _ _).alloc (Nat.le_refl _) _).alloc (by simp) _).alloc (by simp; omega) _).alloc (by simp; omega) _).alloc (by simp; omega) _
    · have h0 := World.ownsMap_made ((w.alloc (.cells #[.slice so n sc, .int .i64 gi, .slice no n nc, .slice bo bn bc, .int .i64 gm] 71)).alloc (.cells #[.func (.func fi) #[] ci] 138)) Tryz.prog 3 (plainElem (H := Unit) Tryz.prog 3)
      have h1 := (h0.kept (grown_below ((Below.refl _ _).alloc (Nat.le_refl _) (.cells #[.map (some (w.heap.size + 1 + 1))] 177))) (by simp)).kept (grown_below ((Below.refl _ _).alloc (Nat.le_refl _) (.cells #[.slice none 0 0] 36))) (by simp)
      exact ⟨_, by simpa using h1, fun x => ⟨by simp [Maps.has, keys], fun h => by simp [keys] at h⟩⟩
  have hme := HMeet.out po pc bs (-1) _ [] _ HBs.out (by omega) hbl HP.out (LOk.nil _ _ _ _) (.inl ⟨rfl, fun x hx => hx⟩) HS1.out
  have hmm := @run_makeMap Tryz.prog; have hmf : ∀ (fn : Fn) (first cap : Array Value) (w : World), (Instr.makeFunc fn first cap).run Tryz.prog w = .ok (.func fn first cap) w := fun _ _ _ _ => rfl
  go_enter Tryz.func94, Tryz.ntmps94
  go_wp2_with (go_at_call 136; refine hme.mono ?_; rintro e w1 ⟨rfl, v1, hst1, hok1⟩)
  have HTh := HTh0.out (-1); generalize meetTo ins (-1) [] bs bs.length = L1 at *; have HI : Hid (∃ L v, 0 <= L.length /\ LookSt w w1 w.heap.size (.slice no n nc) (.func (.func fi) #[] ci) L v /\ LOk n ins nx bs L /\ Through ins want nx bs L 0) := ⟨L1, v1, Nat.zero_le _, hst1, hok1, HTh⟩
  clear hst1 hok1 HTh HTh0 hme HS1 hmm hmf HP HBs
  go_loopw [13] (fun i wr => ∃ k : Nat, k <= n /\ i = .int .i64 k /\ Hid (∃ L v, k <= L.length /\ LookSt w wr w.heap.size (.slice no n nc) (.func (.func fi) #[] ci) L v /\ LOk n ins nx bs L /\ Through ins want nx bs L k)) (fun i _ => n - (intOf i).toNat)
  case atStart => exact ⟨0, Nat.zero_le _, rfl, HI.out⟩
  case round =>
    obtain ⟨k, hk, rfl, HK⟩ := hrel; obtain ⟨L, v, hkL, hst, hok, hth⟩ := HK.out; obtain ⟨lo, lc, rfl⟩ := owns_slice hst.ow; have hln : wr.cell? ⟨w.heap.size + 1 + 1 + 1 + 1, 0, none⟩ = some (.slice lo L.length lc) := hst.ln; have hcm : wr.cell? ⟨w.heap.size + 1 + 1 + 1, 0, none⟩ = some (.map (some (w.heap.size + 1 + 1))) := hst.cm; have hgn := hst.gn; have hLn := hok.length
    by_cases hlt : k < L.length
    · obtain ⟨lb, hlo⟩ : ∃ lb, lo = some ⟨lb, 0, none⟩ := by
        rcases hst.ow.2 with ⟨e, h0⟩ | ⟨lb, cap, cur, e, _⟩
        · omega
        · injection e with e1 _ _; exact ⟨lb, e1⟩
      subst hlo
      have hcl : wr.cell? ⟨lb, k, none⟩ = some (.int .i64 ((L.getD k (0, 0)).1 : Int)) := by
        rw [hst.ow.cellAt k (by omega)]
        exact nvals_at L hlt
      have hpn : (L.getD k (0, 0)).1 < n := hok.lt _ (key_at hlt); have hwa := HWn.out wr hst.below (L.getD k (0, 0)).1 hpn; have HLa : Hid (∀ w4, Below wr.heap.size wr w4 -> LookSt w w4 w.heap.size (.slice no n nc) (.func (.func fi) #[] ci) L (.slice (some ⟨lb, 0, none⟩) L.length lc)) := fun w4 hb => hst.later hb
      have hlbs : lb < wr.heap.size := World.block_lt_of_cell? wr _ hcl
      cases hwt : want (L.getD k (0, 0)).1 with
      | true =>
        rw [hwt] at hwa; have HP2 : Hid (LP L ((L.getD k (0, 0)).1 : Int)) := HPost.out L _ hok (.inr ⟨k, hlt, rfl, hwt⟩); generalize (L.getD k (0, 0)).1 = p at *; obtain ⟨q, hq⟩ : ∃ q, q = L.length := ⟨_, rfl⟩
        rw [<- hq] at hlt hln hLn HLa; clear hst hok hth HK hwt hq hkL
        go_wp2_with ((refine hwa.mono ?_; rintro e w4 ⟨rfl, hb4⟩; have hst4 := HLa.out w4 hb4; have hln4 : w4.cell? ⟨w.heap.size + 1 + 1 + 1 + 1, 0, none⟩ = some (.slice (some ⟨lb, 0, none⟩) q lc) := hst4.ln; have hcm4 : w4.cell? ⟨w.heap.size + 1 + 1 + 1, 0, none⟩ = some (.map (some (w.heap.size + 1 + 1))) := hst4.cm; have hcl4 := (hb4.cell (p := ⟨lb, k, none⟩) hlbs).trans hcl; have hbw4 := hst4.below; have HM4 : Hid (CameIs w4 (w.heap.size + 2) L) := hst4.mp; clear hst4))
        go_region
        go_wp2_with fail
        go_ret2
        exact ⟨L, (p : Int), rfl, by first | exact hbw4.drew | exact hbw4, HM4.out, HP2.out⟩
      | false =>
        rw [hwt] at hwa; obtain ⟨nb, noff, rfl, hnb, uo, uc, hcu0, hnat, hnl, hnlt⟩ := HRow.out (L.getD k (0, 0)).1 hpn; have HTh : Hid (∀ f, Through ins want nx bs (meetTo ins f L (nx (L.getD k (0, 0)).1) (nx (L.getD k (0, 0)).1).length) (k + 1)) := fun f => hth.step hlt hwt
        have HLe : Hid (∀ f, k + 1 <= (meetTo ins f L (nx (L.getD k (0, 0)).1) (nx (L.getD k (0, 0)).1).length).length) := fun f => Nat.le_trans hlt (meetTo_grown _ _ _ _ _).length
        have hme := fun w4 hb => HMeet.out uo uc (nx (L.getD k (0, 0)).1) ((L.getD k (0, 0)).1 : Int) w4 L _ hnlt (by omega) hnl hnat hok (.inr ⟨k, hlt, rfl, fun x hx => hx⟩) (HLa.out w4 hb)
        generalize (L.getD k (0, 0)).1 = p at *; obtain ⟨q, hq⟩ : ∃ q, q = L.length := ⟨_, rfl⟩
        have HQ : Hid (q = L.length) := hq; rw [<- hq] at hlt hln hLn HLa
        have HME : Hid (∀ w4, Below wr.heap.size wr w4 -> Calls Tryz.prog 136 #[.slice uo (nx p).length uc, .int .i64 (p : Int), .pointer (some ⟨w.heap.size + 1 + 1 + 1, 0, none⟩), .pointer (some ⟨w.heap.size + 1, 0, none⟩), .pointer (some ⟨w.heap.size + 1 + 1 + 1 + 1, 0, none⟩)] w4 fun e w' => e = .returned (.tuple #[]) /\ ∃ v', LookSt w w' w.heap.size (.slice (some ⟨nb, noff, none⟩) n nc) (.func (.func fi) #[] ci) (meetTo ins (p : Int) L (nx p) (nx p).length) v' /\ LOk n ins nx bs (meetTo ins (p : Int) L (nx p) (nx p).length)) := hme
        clear hst hok hth HK hwt hq hkL hme hnat hnlt HRow; have HN := HTh.out (p : Int); have HN2 := HLe.out (p : Int); generalize meetTo ins (p : Int) L (nx p) (nx p).length = L2 at *; generalize (nx p).length = rn at *
        have hS : ∀ w', Below wr.heap.size wr w' -> w'.cell? ⟨w.heap.size, 2, none⟩ = some (.slice (some ⟨nb, noff, none⟩) n nc) /\ w'.cell? ⟨w.heap.size + 1 + 1 + 1 + 1, 0, none⟩ = some (.slice (some ⟨lb, 0, none⟩) q lc) /\ w'.cell? ⟨lb, k, none⟩ = some (.int .i64 (p : Int)) /\ w'.cell? ⟨nb, noff + p, none⟩ = some (.slice uo rn uc) := fun w' hb => by
          have hst4 := HLa.out w' hb; exact ⟨hst4.gn, hst4.ln, (hb.cell (p := ⟨lb, k, none⟩) hlbs).trans hcl, (hst4.below.cell (p := ⟨nb, noff + p, none⟩) hnb).trans hcu0⟩
        go_wp2_with ((refine hwa.mono ?_; rintro e w4 ⟨rfl, hb4⟩; obtain ⟨a1, a2, a3, a4⟩ := hS w4 hb4))
        have hm4 := HME.out w4.drew hb4.drew
        have HGo : Hid (∀ w5 v5, LookSt w w5 w.heap.size (.slice (some ⟨nb, noff, none⟩) n nc) (.func (.func fi) #[] ci) L2 v5 -> LOk n ins nx bs L2 -> ∃ L v, k + 1 <= L.length /\ LookSt w w5 w.heap.size (.slice (some ⟨nb, noff, none⟩) n nc) (.func (.func fi) #[] ci) L v /\ LOk n ins nx bs L /\ Through ins want nx bs L (k + 1)) := fun w5 v5 h1 h2 => ⟨L2, v5, HN2, h1, h2, HN⟩
        clear HN HN2 HTh HLe HME HMeet HLa HWn HPost hS hwa hcl hcu0 hln hcm hgn; have hkn : k < n := by omega
        go_region_with ((go_at_call 136; refine hm4.mono ?_; rintro e w5 ⟨rfl, v5, hst5, hok5⟩; have HK5 : Hid (∃ L v, k + 1 <= L.length /\ LookSt w w5 w.heap.size (.slice (some ⟨nb, noff, none⟩) n nc) (.func (.func fi) #[] ci) L v /\ LOk n ins nx bs L /\ Through ins want nx bs L (k + 1)) := (HGo.out w5 v5 hst5 hok5); clear hst5 hok5))
        all_goals
          go_wp2_with fail
          go_roundw
          case rel => exact ⟨k + 1, hkn, by go_num, HK5⟩
          case measure => simp [intOf]; omega
    · obtain rfl : k = L.length := by omega
      have HF : Hid (CameIs wr (w.heap.size + 2) L /\ LP L (-1)) := ⟨hst.mp, HPost.out L (-1) hok (.inl ⟨rfl, hth⟩)⟩; have hbw := hst.below; generalize L.length = q at *; clear hst hok hth HK
      go_wp2_with fail
      go_region
      go_wp2_with fail
      go_ret2
      exact ⟨L, -1, rfl, by first | exact hbw.drew | exact hbw, HF.out⟩
end Go.Proofs.YtjdfdmamonjnoaaGreatDoor
namespace Go.Proofs.YtjdfdmamonjnoaaGreatDoor
open Go.ChangeShapes Go.WideShapes Go.ChangeAt Go.RowKit Go.Deep
open Terms
set_option maxHeartbeats 6400000
set_option maxRecDepth 20000
end Go.Proofs.YtjdfdmamonjnoaaGreatDoor
namespace Go.Proofs.YtjdfdmamonjnoaaGreatDoor
open Go.ChangeShapes Go.WideShapes Go.ChangeAt Go.RowKit Go.Deep Go.Maps
open Terms
set_option maxHeartbeats 6400000
set_option maxRecDepth 20000
structure GrLe (g : Gr) : Prop where
  spots : g.spots.length <= 140737488355328
  next : g.next.length <= 140737488355328
  sets : g.sets.length <= 140737488355328
  rows : ∀ i, i < g.next.length -> (g.next.getD i []).length <= 140737488355328
end Go.Proofs.YtjdfdmamonjnoaaGreatDoor
namespace Go.Proofs.YtjdfdmamonjnoaaGreatDoor
open Go.ChangeShapes Go.WideShapes Go.ChangeAt Go.RowKit Go.Deep
open Terms
set_option maxHeartbeats 6400000
set_option maxRecDepth 20000
theorem graph_rows {w : World} {g : Gr} {so no bo : Option Addr} {sc nc bc : Nat} (h : GOk g) (hV : GraphV w (.slice so g.spots.length sc) (.slice no g.next.length nc) (.slice bo g.sets.length bc) g) : NextRows w no g.spots.length (nxt g) := fun p hp => by
  obtain ⟨b, off, e, hb, uo, uc, hc, hi⟩ := hV.next.row (i := p) (by rw [h.head.next]; exact hp)
  exact ⟨b, off, e, hb, uo, uc, by rw [nxt_length]; exact hc, row_nats h hp hi⟩
def PartsOk (g : Gr) (pt : Nat -> Int) : Prop := ∀ x, x < g.spots.length -> PartIs (nxt g) x (pt x)
theorem partsOf_gr (so no bo : Option Addr) (sc nc bc : Nat) (g : Gr) (w : World) (hz : GrLe g) (hV : GraphV w (.slice so g.spots.length sc) (.slice no g.next.length nc) (.slice bo g.sets.length bc) g) (hok : GOk g) :
    Calls Tryz.prog 92 #[.agg #[.slice so g.spots.length sc, .int .i64 g.init, .slice no g.next.length nc, .slice bo g.sets.length bc, .int .i64 g.many]] w fun e w' => ∃ B, e = .returned (.slice (some ⟨B, 0, none⟩) g.spots.length g.spots.length) /\ Below w.heap.size w w' /\ Hid (∃ pt, w.heap.size <= B /\ w'.rowIs B 3 g.spots.length (intRow pt) /\ PartsOk g pt) := by
  have hn := hok.head.next; have h := partsOf_any so no bo sc nc g.sets.length bc g.init g.many g.spots.length (nxt g) w hok.head.n (fun i hi k hk => nxt_lt hok hi hk) (fun i hi => by rw [nxt_length]; exact hz.rows i (by rw [hn]; exact hi)) (graph_rows hok hV)
  rw [hn]; exact h
theorem sparts_ok (so no bo : Option Addr) (sc nc bc : Nat) (g : Gr) (w : World) (hz : GrLe g) (hV : GraphV w (.slice so g.spots.length sc) (.slice no g.next.length nc) (.slice bo g.sets.length bc) g) (hc : gcode g = 0) :
    Calls Tryz.prog 55 #[.agg #[.slice so g.spots.length sc, .int .i64 g.init, .slice no g.next.length nc, .slice bo g.sets.length bc, .int .i64 g.many]] w fun e w' => ∃ B, e = .returned (.tuple #[.slice (some ⟨B, 0, none⟩) g.spots.length g.spots.length, .int .i64 0]) /\ Below w.heap.size w w' /\ Hid (∃ pt, w.heap.size <= B /\ w'.rowIs B 3 g.spots.length (intRow pt) /\ PartsOk g pt) := by
  have hok := gcode_zero hc; obtain ⟨W0, hW0⟩ : ∃ W0, W0 = w.alloc (.cells #[.slice so g.spots.length sc, .int .i64 g.init, .slice no g.next.length nc, .slice bo g.sets.length bc, .int .i64 g.many] 71) := ⟨_, rfl⟩
  have hA : Below w.heap.size w W0 := by rw [hW0]; exact (Below.refl _ _).alloc (Nat.le_refl _) _
  have hs0 : w.heap.size < W0.heap.size := by rw [hW0]; simp
  have HD : Hid (∀ w1, Below W0.heap.size W0 w1 -> w1.cell? ⟨w.heap.size, 0, none⟩ = some (.slice so g.spots.length sc) /\ w1.cell? ⟨w.heap.size, 1, none⟩ = some (.int .i64 g.init) /\ w1.cell? ⟨w.heap.size, 2, none⟩ = some (.slice no g.next.length nc) /\ w1.cell? ⟨w.heap.size, 3, none⟩ = some (.slice bo g.sets.length bc) /\ w1.cell? ⟨w.heap.size, 4, none⟩ = some (.int .i64 g.many)) := fun w1 hb => by
    have c : ∀ j, w1.cell? ⟨w.heap.size, j, none⟩ = W0.cell? ⟨w.heap.size, j, none⟩ := fun j => hb.cell (p := ⟨w.heap.size, j, none⟩) hs0
    refine ⟨(c _).trans ?_, (c _).trans ?_, (c _).trans ?_, (c _).trans ?_, (c _).trans ?_⟩ <;> (rw [hW0]; simp [go_sem])
  have hch := scheck_any so no bo sc nc bc g W0 hz.spots hz.next hz.sets hz.rows (hV.below hA); rw [hc] at hch
  have HPa : Hid (∀ w1, Below W0.heap.size W0 w1 -> Calls Tryz.prog 92 #[.agg #[.slice so g.spots.length sc, .int .i64 g.init, .slice no g.next.length nc, .slice bo g.sets.length bc, .int .i64 g.many]] w1 fun e w' => ∃ B, e = .returned (.slice (some ⟨B, 0, none⟩) g.spots.length g.spots.length) /\ Below w1.heap.size w1 w' /\ Hid (∃ pt, w1.heap.size <= B /\ w'.rowIs B 3 g.spots.length (intRow pt) /\ PartsOk g pt)) := fun w1 hb => partsOf_gr so no bo sc nc bc g w1 hz ((hV.below hA).below hb) hok
  rw [hW0] at hch; have HW0 : Hid (W0 = w.alloc (.cells #[.slice so g.spots.length sc, .int .i64 g.init, .slice no g.next.length nc, .slice bo g.sets.length bc, .int .i64 g.many] 71)) := hW0; clear hV hz hc hok hW0; generalize PartsOk g = PO at *; generalize g.spots.length = sn at *; generalize g.next.length = nn at *; generalize g.sets.length = bn at *; generalize g.init = gi at *
  generalize g.many = gm at *
  go_enter Tryz.func55, Tryz.ntmps55
  go_wp2_with (first | (go_at_call 91; refine hch.mono ?_; rintro e w1 ⟨rfl, hb1⟩; rw [<- HW0.out] at hb1; obtain ⟨a0, a1, a2, a3, a4⟩ := HD.out w1 hb1; have hpa := HPa.out w1 hb1) | (go_at_call 92; refine hpa.mono ?_; rintro e w2 ⟨B, rfl, hb2, HB⟩))
  go_ret2
  refine ⟨_, rfl, hA.trans ((hb1.trans (hb2.mono hb1.size)).mono hA.size), ?_⟩
  obtain ⟨pt, h1, h2, h3⟩ := HB.out; exact ⟨pt, by have := hb1.size; omega, h2, h3⟩
theorem or_nat0 : ∀ a, a < 64 -> ∀ b, b < 64 -> bits BinOp.or IntKind.i64 ((a : Nat) : Int) ((b : Nat) : Int) = ((a ||| b : Nat) : Int) := by decide +kernel
theorem pow64 {m : Nat} (h : m <= 6) : 2 ^ m <= 64 := Nat.pow_le_pow_right (n := 2) (by decide) h
theorem GOk.sN {g : Gr} (h : GOk g) {x : Nat} (hx : x < g.spots.length) : g.sets.getD x 0 = (sN g x : Int) /\ Go.Proofs.YtjdfdmamonjnoaaGreatDoor.sN g x < 2 ^ mN g := by
  have h1 := (h.row x hx).1; unfold GSet top at h1; have h2 : ((2 ^ g.many.toNat : Nat) : Int) = 2 ^ g.many.toNat := by simp
  unfold Go.Proofs.YtjdfdmamonjnoaaGreatDoor.sN mN; omega
theorem GOk.mN {g : Gr} (h : GOk g) : mN g <= 6 /\ g.many = (Go.Proofs.YtjdfdmamonjnoaaGreatDoor.mN g : Int) /\ top g = ((2 ^ Go.Proofs.YtjdfdmamonjnoaaGreatDoor.mN g - 1 : Nat) : Int) := by
  have h1 := h.head.many0; have h2 := h.head.many6; have h3 : ((2 ^ g.many.toNat : Nat) : Int) = 2 ^ g.many.toNat := by simp
  have h4 : 0 < 2 ^ g.many.toNat := Nat.pow_pos (by decide)
  unfold Go.Proofs.YtjdfdmamonjnoaaGreatDoor.mN top; omega
def orTo (s pz : Nat -> Nat) (p : Nat) : Nat -> Nat
  | 0 => 0
  | k + 1 => if pz k = p then orTo s pz p k ||| s k else orTo s pz p k
theorem orTo_lt {s pz : Nat -> Nat} {p m n : Nat} (hs : ∀ x, x < n -> s x < 2 ^ m) : ∀ k, k <= n -> orTo s pz p k < 2 ^ m
  | 0, _ => Nat.pow_pos (by decide)
  | k + 1, hk => by
    have ih := orTo_lt (p := p) (pz := pz) hs k (by omega)
    unfold orTo
    split
    · exact Nat.or_lt_two_pow ih (hs k (by omega))
    · exact ih
theorem orTo_bit {s pz : Nat -> Nat} {p i : Nat} : ∀ k, (orTo s pz p k).testBit i = true ↔ ∃ x, x < k /\ pz x = p /\ (s x).testBit i = true
  | 0 => by
    unfold orTo
    simp
  | k + 1 => by
    have ih := orTo_bit (s := s) (pz := pz) (p := p) (i := i) k; unfold orTo
    split
    · rename_i hp
      rw [Nat.testBit_or, Bool.or_eq_true, ih]
      constructor
      · rintro (⟨x, h1, h2⟩ | h)
        · exact ⟨x, by omega, h2⟩
        · exact ⟨k, by omega, hp, h⟩
      · rintro ⟨x, h1, h2, h3⟩
        by_cases e : x = k
        · subst e; exact .inr h3
        · exact .inl ⟨x, by omega, h2, h3⟩
    · rename_i hp
      rw [ih]
      constructor
      · rintro ⟨x, h1, h2⟩; exact ⟨x, by omega, h2⟩
      · rintro ⟨x, h1, h2, h3⟩
        by_cases e : x = k
        · subst e; exact absurd h2 hp
        · exact ⟨x, by omega, h2, h3⟩
theorem full_bits {a m : Nat} (ha : a < 2 ^ m) : a = 2 ^ m - 1 ↔ ∀ i, i < m -> a.testBit i = true := by
  constructor
  · rintro rfl i hi
    rw [Nat.testBit_two_pow_sub_one]; simp [hi]
  · intro h
    refine Nat.eq_of_testBit_eq fun i => ?_
    rw [Nat.testBit_two_pow_sub_one]
    by_cases hi : i < m
    · rw [h i hi]; simp [hi]
    · rw [Nat.testBit_lt_two_pow (Nat.lt_of_lt_of_le ha (Nat.pow_le_pow_right (by decide) (by omega)))]; simp [hi]
open Classical in
noncomputable def lpB (nx : Nat -> List Nat) (pz : Nat -> Nat) (k q : Nat) (p : Nat) : Bool := decide ((∃ x, x < k /\ pz x = p /\ ∃ y ∈ nx x, pz y = p) \/ (pz k = p /\ ∃ j, j < q /\ j < (nx k).length /\ pz ((nx k).getD j 0) = p))
theorem lpB_zero (nx : Nat -> List Nat) (pz : Nat -> Nat) (p : Nat) : lpB nx pz 0 0 p = false := by
  unfold lpB
  exact decide_eq_false fun h => by
    rcases h with ⟨x, hx, _⟩ | ⟨_, j, hj, _⟩ <;> omega
theorem lpB_next (nx : Nat -> List Nat) (pz : Nat -> Nat) (k p : Nat) : lpB nx pz (k + 1) 0 p = lpB nx pz k (nx k).length p := by
  unfold lpB; rw [decide_eq_decide]
  constructor
  · rintro (⟨x, hx, h1, y, h2, h3⟩ | ⟨_, j, hj, _⟩)
    · by_cases e : x = k
      · subst e
        obtain ⟨j, hj, rfl⟩ := List.getElem_of_mem h2; exact .inr ⟨h1, j, hj, hj, by rw [List.getD_eq_getElem?_getD, List.getElem?_eq_getElem hj]; exact h3⟩
      · exact .inl ⟨x, by omega, h1, y, h2, h3⟩
    · omega
  · rintro (⟨x, hx, h⟩ | ⟨h1, j, _, hj, h2⟩)
    · exact .inl ⟨x, by omega, h⟩
    · refine .inl ⟨k, by omega, h1, _, ?_, h2⟩
      rw [List.getD_eq_getElem?_getD, List.getElem?_eq_getElem hj]; exact List.getElem_mem _
theorem lpB_no {nx : Nat -> List Nat} {pz : Nat -> Nat} {k q p : Nat} (h : pz ((nx k).getD q 0) ≠ pz k) : lpB nx pz k (q + 1) p = lpB nx pz k q p := by
  unfold lpB; rw [decide_eq_decide]
  constructor
  · rintro (h1 | ⟨h1, j, h2, h3, h4⟩)
    · exact .inl h1
    · by_cases e : j = q
      · subst e; exact absurd (h4.trans h1.symm) h
      · exact .inr ⟨h1, j, by omega, h3, h4⟩
  · rintro (h1 | ⟨h1, j, h2, h3, h4⟩)
    · exact .inl h1
    · exact .inr ⟨h1, j, by omega, h3, h4⟩
theorem lpB_yes {nx : Nat -> List Nat} {pz : Nat -> Nat} {k q p : Nat} (hq : q < (nx k).length) (h : pz ((nx k).getD q 0) = pz k) : lpB nx pz k (q + 1) p = if p = pz k then true else lpB nx pz k q p := by
  by_cases e : p = pz k
  · rw [if_pos e]
    unfold lpB; exact decide_eq_true (.inr ⟨e.symm, q, by omega, hq, h.trans e.symm⟩)
  · rw [if_neg e]
    unfold lpB; rw [decide_eq_decide]
    constructor
    · rintro (h1 | ⟨h1, _⟩)
      · exact .inl h1
      · exact absurd h1.symm e
    · rintro (h1 | ⟨h1, _⟩)
      · exact .inl h1
      · exact absurd h1.symm e
def FairP (g : Gr) (pz : Nat -> Nat) (p : Nat) : Prop := (∃ x, x < g.spots.length /\ pz x = p /\ ∃ y ∈ nxt g x, pz y = p) /\ ∀ i, i < mN g -> ∃ x, x < g.spots.length /\ pz x = p /\ (sN g x).testBit i = true
open Classical in
noncomputable def fairB (g : Gr) (pz : Nat -> Nat) (x : Nat) : Bool := decide (FairP g pz (pz x))
theorem fairB_is {g : Gr} (hg : GOk g) (pz : Nat -> Nat) (x : Nat) : fairB g pz x = (lpB (nxt g) pz g.spots.length 0 (pz x) && decide (orTo (sN g) pz (pz x) g.spots.length = 2 ^ mN g - 1)) := by
  have hlt := orTo_lt (p := pz x) (pz := pz) (fun x hx => (hg.sN hx).2) g.spots.length (Nat.le_refl _)
  unfold fairB lpB; rw [Bool.eq_iff_iff, Bool.and_eq_true]; simp only [decide_eq_true_eq]; rw [full_bits hlt]; unfold FairP
  constructor
  · rintro ⟨h1, h2⟩
    exact ⟨.inl h1, fun i hi => (orTo_bit _).2 (h2 i hi)⟩
  · rintro ⟨h1 | ⟨_, j, hj, _⟩, h2⟩
    · exact ⟨h1, fun i hi => (orTo_bit _).1 (h2 i hi)⟩
    · omega
structure FsSt (W0 wr : World) (s0 n : Nat) (nx : Nat -> List Nat) (s pz : Nat -> Nat) (k q kk : Nat) : Prop where
  below : Below s0 W0 wr
  size : s0 + 2 <= wr.heap.size
  loops : wr.rowIs s0 4 n (fun p => .bool (lpB nx pz k q p))
  sets : wr.rowIs (s0 + 1) 3 n (fun p => .int .i64 (orTo s pz p kk : Int))
theorem FsSt.later {W0 wr w' : World} {s0 n : Nat} {nx : Nat -> List Nat} {s pz : Nat -> Nat} {k q kk : Nat} (h : FsSt W0 wr s0 n nx s pz k q kk) (hb : Below (s0 + 2) wr w') : FsSt W0 w' s0 n nx s pz k q kk :=
  ⟨h.below.trans (hb.mono (by omega)), Nat.le_trans h.size hb.size, h.loops.of_block (hb.block _ (by omega)), h.sets.of_block (hb.block _ (by omega))⟩
theorem FsSt.drew {W0 wr : World} {s0 n : Nat} {nx : Nat -> List Nat} {s pz : Nat -> Nat} {k q kk : Nat} (h : FsSt W0 wr s0 n nx s pz k q kk) : FsSt W0 wr.drew s0 n nx s pz k q kk := ⟨h.below.drew, h.size, h.loops, h.sets⟩
theorem FsSt.putSets {W0 wr : World} {s0 n : Nat} {nx : Nat -> List Nat} {s pz : Nat -> Nat} {k : Nat} (h : FsSt W0 wr s0 n nx s pz k 0 k) : FsSt W0 (wr.setCell ⟨s0 + 1, pz k, none⟩ (.int .i64 ((orTo s pz (pz k) k ||| s k : Nat) : Int))) s0 n nx s pz k 0 (k + 1) := by
  refine ⟨h.below.setCell (by show s0 <= s0 + 1; omega) _, by simpa using h.size, h.loops.setOther (by show s0 ≠ s0 + 1; omega) _, (h.sets.set (pz k) _).congr fun p _ => ?_⟩
  by_cases e : p = pz k
  · subst e; simp [orTo]
  · rw [if_neg e]; simp [orTo, Ne.symm e]
theorem FsSt.next {W0 wr : World} {s0 n : Nat} {nx : Nat -> List Nat} {s pz : Nat -> Nat} {k kk : Nat} (h : FsSt W0 wr s0 n nx s pz k (nx k).length kk) : FsSt W0 wr s0 n nx s pz (k + 1) 0 kk :=
  ⟨h.below, h.size, h.loops.congr fun p _ => by rw [lpB_next], h.sets⟩
theorem FsSt.no {W0 wr : World} {s0 n : Nat} {nx : Nat -> List Nat} {s pz : Nat -> Nat} {k q kk : Nat} (h : FsSt W0 wr s0 n nx s pz k q kk) (hp : pz ((nx k).getD q 0) ≠ pz k) : FsSt W0 wr s0 n nx s pz k (q + 1) kk :=
  ⟨h.below, h.size, h.loops.congr fun p _ => by rw [lpB_no hp], h.sets⟩
theorem FsSt.yes {W0 wr : World} {s0 n : Nat} {nx : Nat -> List Nat} {s pz : Nat -> Nat} {k q kk : Nat} (h : FsSt W0 wr s0 n nx s pz k q kk) (hq : q < (nx k).length) (hp : pz ((nx k).getD q 0) = pz k) : FsSt W0 (wr.setCell ⟨s0, pz k, none⟩ (.bool true)) s0 n nx s pz k (q + 1) kk := by
  refine ⟨h.below.setCell (Nat.le_refl _) _, by simpa using h.size, (h.loops.set (pz k) _).congr fun p _ => ?_, h.sets.setOther (by show s0 + 1 ≠ s0; omega) _⟩
  rw [lpB_yes hq hp]
  by_cases e : p = pz k
  · rw [if_pos e, if_pos e]
  · rw [if_neg e, if_neg e]
theorem fsSt_zero (W0 : World) (n : Nat) (nx : Nat -> List Nat) (s pz : Nat -> Nat) : FsSt W0 ((W0.alloc (.cells (madeCells #[.bool false] n) 4)).alloc (.cells (madeCells #[.int .i64 0] n) 3)) W0.heap.size n nx s pz 0 0 0 := by
  refine ⟨((Below.refl _ _).alloc (Nat.le_refl _) _).alloc (by simp) _, by simp, ?_, ?_⟩
  · exact ((World.rowIs_made W0 (.bool false) n 4).alloc _).congr fun p _ => by rw [lpB_zero]
  · have := World.rowIs_made (W0.alloc (.cells (madeCells #[.bool false] n) 4)) (.int .i64 0) n 3
    rw [World.size_alloc] at this; exact this
theorem fairSpots_any (so no bo : Option Addr) (sc nc bc B : Nat) (g : Gr) (pz : Nat -> Nat) (w : World) (hz : GrLe g) (hV : GraphV w (.slice so g.spots.length sc) (.slice no g.next.length nc) (.slice bo g.sets.length bc) g) (hok : GOk g) (hP : w.rowIs B 3 g.spots.length (natRow pz)) (hpz : ∀ x, x < g.spots.length -> pz x < g.spots.length) :
    Calls Tryz.prog 56 #[.agg #[.slice so g.spots.length sc, .int .i64 g.init, .slice no g.next.length nc, .slice bo g.sets.length bc, .int .i64 g.many], .slice (some ⟨B, 0, none⟩) g.spots.length g.spots.length] w fun e w' => ∃ Bf, e = .returned (.slice (some ⟨Bf, 0, none⟩) g.spots.length g.spots.length) /\ Below w.heap.size w w' /\ Hid (w.heap.size <= Bf /\ w'.rowIs Bf 4 g.spots.length (fun x => .bool (fairB g pz x))) := by
  have hn := hok.head.n; have hmk1 := run_make_row' (P := Tryz.prog) 60 4 (.bool false) 1 Tryz.underlying60 infoBool rfl .i64 .i64 g.spots.length (by omega) (by omega)
  have hmk2 := run_make_row' (P := Tryz.prog) 36 3 (.int .i64 0) 8 Tryz.underlying36 infoInt rfl .i64 .i64 g.spots.length (by omega) (by omega)
  obtain ⟨W0, hW0⟩ : ∃ W0, W0 = w.alloc (.cells #[.slice so g.spots.length sc, .int .i64 g.init, .slice no g.next.length nc, .slice bo g.sets.length bc, .int .i64 g.many] 71) := ⟨_, rfl⟩
  have hA : Below w.heap.size w W0 := by rw [hW0]; exact (Below.refl _ _).alloc (Nat.le_refl _) _
  have hs0 : W0.heap.size = w.heap.size + 1 := by rw [hW0]; simp
  have HD : Hid (∀ w1, Below (w.heap.size + 1) W0 w1 -> Below w.heap.size w w1 /\ w1.rowIs B 3 g.spots.length (natRow pz) /\ w1.cell? ⟨w.heap.size, 0, none⟩ = some (.slice so g.spots.length sc) /\ w1.cell? ⟨w.heap.size, 1, none⟩ = some (.int .i64 g.init) /\ w1.cell? ⟨w.heap.size, 2, none⟩ = some (.slice no g.next.length nc) /\ w1.cell? ⟨w.heap.size, 3, none⟩ = some (.slice bo g.sets.length bc) /\ w1.cell? ⟨w.heap.size, 4, none⟩ = some (.int .i64 g.many)) := fun w1 hb => by
    have c : ∀ j, w1.cell? ⟨w.heap.size, j, none⟩ = W0.cell? ⟨w.heap.size, j, none⟩ := fun j => hb.cell (p := ⟨w.heap.size, j, none⟩) (by show w.heap.size < w.heap.size + 1; omega)
    have hb2 := hA.trans (hb.mono (by omega))
    refine ⟨hb2, hP.of_block (hb2.block B hP.lt), (c _).trans ?_, (c _).trans ?_, (c _).trans ?_, (c _).trans ?_, (c _).trans ?_⟩ <;> (rw [hW0]; simp [go_sem])
  have HRow : Hid (NextRows w no g.spots.length (nxt g)) := graph_rows hok hV; have HNX : Hid (∀ i, i < g.spots.length -> ∀ k ∈ nxt g i, k < g.spots.length) := fun i hi k hk => nxt_lt hok hi hk
  have HXL : Hid (∀ i, i < g.spots.length -> (nxt g i).length <= 140737488355328) := fun i hi => by rw [nxt_length]; exact hz.rows i (by rw [hok.head.next]; exact hi)
  have HSet : Hid (∀ k, k < g.spots.length -> ∃ b off, bo = some ⟨b, off, none⟩ /\ b < w.heap.size /\ w.cell? ⟨b, off + k, none⟩ = some (.int .i64 (sN g k : Int))) := fun k hk => by
    obtain ⟨b, off, e, hb, hc⟩ := hV.sets.num (i := k) (by rw [hok.head.sets]; exact hk)
    exact ⟨b, off, e, hb, by rw [hc, (hok.sN hk).1]⟩
  have HOr : Hid (∀ k, k < g.spots.length -> bits BinOp.or IntKind.i64 (orTo (sN g) pz (pz k) k : Int) (sN g k : Int) = ((orTo (sN g) pz (pz k) k ||| sN g k : Nat) : Int)) := fun k hk => by
    have h6 := pow64 hok.mN.1; have h1 := orTo_lt (p := pz k) (pz := pz) (fun x hx => (hok.sN hx).2) k (by omega)
    have h2 := (hok.sN hk).2; exact or_nat0 _ (by omega) _ (by omega)
  have HAll : Hid (∀ w1, Calls Tryz.prog 93 #[.agg #[.slice so g.spots.length sc, .int .i64 g.init, .slice no g.next.length nc, .slice bo g.sets.length bc, .int .i64 g.many]] w1 fun e w' => e = .returned (.int .i64 ((2 ^ mN g - 1 : Nat) : Int)) /\ Below w1.heap.size w1 w') := fun w1 => by
    have := allSets_any so no bo g.spots.length sc g.next.length nc g.sets.length bc g w1 hok.head.many0 hok.head.many6; rw [hok.mN.2.2] at this; exact this
  have HFair : Hid (∀ x, fairB g pz x = (lpB (nxt g) pz g.spots.length 0 (pz x) && decide (orTo (sN g) pz (pz x) g.spots.length = 2 ^ mN g - 1))) := fairB_is hok pz
  have HPz : Hid (∀ x, x < g.spots.length -> pz x < g.spots.length) := hpz
  have H0 : Hid (FsSt W0 ((W0.alloc (.cells (madeCells #[.bool false] g.spots.length) 4)).alloc (.cells (madeCells #[.int .i64 0] g.spots.length) 3)) (w.heap.size + 1) g.spots.length (nxt g) (sN g) pz 0 0 0) := by rw [<- hs0]; exact fsSt_zero W0 _ _ _ _
  have hgn := hok.head.next; generalize fairB g pz = FB at *; generalize nxt g = nx at *; generalize sN g = s at *; generalize 2 ^ mN g - 1 = tp at *; rw [hgn] at hW0 HD HAll ⊢; have hgs := hok.head.sets; rw [hgs] at hW0 HD HAll ⊢; clear hV hok hz hP hpz hgn hgs hA; generalize g.spots.length = n at *; generalize g.init = gi at *; generalize g.many = gm at *
  go_enter Tryz.func56, Tryz.ntmps56
  go_wp2_with fail
  rw [<- hW0]; clear hW0; generalize (W0.alloc (.cells (madeCells #[.bool false] n) 4)).alloc (.cells (madeCells #[.int .i64 0] n) 3) = W3 at H0 ⊢; clear hs0
  go_loopw [22] (fun i wr => ∃ k : Nat, k <= n /\ i = .int .i64 k /\ Hid (FsSt W0 wr (w.heap.size + 1) n nx s pz k 0 k)) (fun i _ => n - (intOf i).toNat)
  case atStart => exact ⟨0, Nat.zero_le _, rfl, H0⟩
  case round =>
    obtain ⟨k, hk, rfl, HK⟩ := hrel; obtain ⟨hbw, hrB, d0, d1, d2, d3, d4⟩ := HD.out wr HK.out.below
    by_cases hlt : k < n
    · have hpk := HPz.out k hlt
      have e0 : wr.cell? ⟨B, k, none⟩ = some (.int .i64 (pz k : Int)) := hrB.cell hlt; have e1 : wr.cell? ⟨w.heap.size + 1 + 1, pz k, none⟩ = some (.int .i64 (orTo s pz (pz k) k : Int)) := HK.out.sets.cell hpk; have f1 := HK.out.sets.frozen (pz k); obtain ⟨sb, soff, rfl, hsb, hcs⟩ := HSet.out k hlt; have e2 := (hbw.cell (p := ⟨sb, soff + k, none⟩) hsb).trans hcs; have hor := HOr.out k hlt
      have H5 : Hid (FsSt W0 (wr.setCell ⟨w.heap.size + 1 + 1, pz k, none⟩ (.int .i64 ((orTo s pz (pz k) k ||| s k : Nat) : Int))).drew (w.heap.size + 1) n nx s pz k 0 (k + 1)) := HK.out.putSets.drew; rw [<- hor] at H5; obtain ⟨p, hp⟩ : ∃ p, p = pz k := ⟨_, rfl⟩
      have HPk : Hid (p = pz k) := hp; rw [<- hp] at hpk e0 e1 f1 H5; clear hor hp hcs HK; generalize orTo s pz p k = x at *; generalize s k = y at *
      go_upto_region 6 with fail
      go_region
      generalize (wr.setCell ⟨w.heap.size + 1 + 1, p, none⟩ (.int .i64 (bits BinOp.or IntKind.i64 (x : Int) (y : Int)))).drew = w5 at H5 ⊢; obtain ⟨hbw5, hrB5, g0, g1, g2, g3, g4⟩ := HD.out w5 H5.out.below; obtain ⟨nb, noff, rfl, hnb, uo, uc, hcu0, hnv0⟩ := HRow.out k hlt; have hcu := (hbw5.cell (p := ⟨nb, noff + k, none⟩) hnb).trans hcu0; have hxl := HXL.out k hlt
      have HNv : Hid (NatsV w (.slice uo (nx k).length uc) (nx k)) := hnv0; obtain ⟨ln, hln⟩ : ∃ ln, ln = (nx k).length := ⟨_, rfl⟩
      have HLN : Hid (ln = (nx k).length) := hln; rw [<- hln] at hcu hxl HNv; clear hcu0 hnv0 hln d0 d1 d2 d3 d4 e0 e1 e2 f1 hrB hbw
      go_wp2_with fail
      generalize wr = wo at *
      go_loopw [44] (fun i wr => ∃ q : Nat, q <= ln /\ i = .int .i64 q /\ Hid (FsSt W0 wr (w.heap.size + 1) n nx s pz k q (k + 1))) (fun i _ => ln - (intOf i).toNat)
      case atStart => exact ⟨0, Nat.zero_le _, rfl, H5⟩
      case round =>
        obtain ⟨q, hq, rfl, HQ⟩ := hrel; obtain ⟨hbwq, hrBq, _⟩ := HD.out wr HQ.out.below
        by_cases hlq : q < ln
        · have hql : q < (nx k).length := by rw [<- HLN.out]; exact hlq
          obtain ⟨ub, uoff, rfl, hub, hcy0⟩ := (HNv.out.below hbwq).num (i := q) hql; have hyn : (nx k).getD q 0 < n := HNX.out k hlt _ (by rw [List.getD_eq_getElem?_getD, List.getElem?_eq_getElem hql]; exact List.getElem_mem _)
          have e5 : wr.cell? ⟨B, (nx k).getD q 0, none⟩ = some (.int .i64 (pz ((nx k).getD q 0) : Int)) := hrBq.cell hyn
          have HYes : Hid (pz ((nx k).getD q 0) = p -> FsSt W0 (wr.setCell ⟨w.heap.size + 1, p, none⟩ (.bool true)) (w.heap.size + 1) n nx s pz k (q + 1) (k + 1)) := fun h => by
            rw [HPk.out] at h ⊢; exact HQ.out.yes hql h
          have HNo : Hid (pz ((nx k).getD q 0) ≠ p -> FsSt W0 wr (w.heap.size + 1) n nx s pz k (q + 1) (k + 1)) := fun h => HQ.out.no (by rw [<- HPk.out]; exact h)
          have l1 := HQ.out.loops.cell hpk; have l2 := HQ.out.loops.frozen p; generalize lpB nx pz k q p = old at *; generalize (nx k).getD q 0 = y2 at *; generalize pz y2 = p2 at *; clear HQ hrBq hbwq
          by_cases hpp : p2 = p
          · subst hpp
            have HN := HYes.out rfl; have HN' : Hid (FsSt W0 (wr.setCell ⟨w.heap.size + 1, p2, none⟩ (.bool true)) (w.heap.size + 1) n nx s pz k (q + 1) (k + 1)) := HN; clear HN HYes HNo
            go_wp2_with fail
            go_roundw
            case rel => exact ⟨q + 1, hlq, by go_num, HN'⟩
            case measure => simp [intOf]; omega
          · have hpp2 : ¬ (p2 : Int) = (p : Int) := by omega
            have HN' : Hid (FsSt W0 wr (w.heap.size + 1) n nx s pz k (q + 1) (k + 1)) := HNo.out hpp; clear HYes HNo
            go_wp2_with fail
            go_roundw
            case rel => exact ⟨q + 1, hlq, by go_num, HN'⟩
            case measure => simp [intOf]; omega
        · have HN' : Hid (FsSt W0 wr (w.heap.size + 1) n nx s pz (k + 1) 0 (k + 1)) := by
            have h := HQ.out; have e : q = (nx k).length := by rw [<- HLN.out]; omega
            rw [e] at h; exact h.next
          clear HQ hrBq hbwq
          go_wp2_with fail
          go_roundw
          case rel => exact ⟨k + 1, hlt, by go_num, HN'⟩
          case measure => simp [intOf]; omega
    · obtain rfl : k = n := by omega
      have HE : Hid (FsSt W0 wr (w.heap.size + 1) k nx s pz k 0 k) := HK; have hsz := HK.out.size; have hr0 := World.rowIs_made wr (.bool false) k 4; have HR0 : Hid ((wr.alloc (.cells (madeCells #[.bool false] k) 4)).rowIs wr.heap.size 4 k (fun j => .bool (if j < 0 then FB j else false))) := hr0.congr fun j _ => by simp
      have HB0 : Hid (Below wr.heap.size wr (wr.alloc (.cells (madeCells #[.bool false] k) 4))) := (Below.refl _ _).alloc (Nat.le_refl _) _; clear hr0 d0 d1 d2 d3 d4 hrB HK
      go_wp2_with fail
      generalize wr.alloc (.cells (madeCells #[.bool false] k) 4) = W5 at HR0 HB0 ⊢; generalize wr = wE at *
      go_loopw [64] (fun i wr => ∃ q : Nat, q <= k /\ i = .int .i64 q /\ Hid (wr.rowIs wE.heap.size 4 k (fun j => .bool (if j < q then FB j else false))) /\ Hid (Below wE.heap.size wE wr)) (fun i _ => k - (intOf i).toNat)
      case atStart => exact ⟨0, Nat.zero_le _, rfl, HR0, HB0⟩
      case round =>
        obtain ⟨q, hq, rfl, HQ, HBq⟩ := hrel; have hFS := HE.out.later (HBq.out.mono hsz); obtain ⟨hbwq, hrBq, d0, d1, d2, d3, d4⟩ := HD.out wr hFS.below
        by_cases hlq : q < k
        · have hpq := HPz.out q hlq
          have e0 : wr.cell? ⟨B, q, none⟩ = some (.int .i64 (pz q : Int)) := hrBq.cell hlq; have e1 : wr.cell? ⟨w.heap.size + 1, pz q, none⟩ = some (.bool (lpB nx pz k 0 (pz q))) := hFS.loops.cell hpq; have e2 : wr.cell? ⟨w.heap.size + 1 + 1, pz q, none⟩ = some (.int .i64 (orTo s pz (pz q) k : Int)) := hFS.sets.cell hpq; have l1 := HQ.out.cell hlq; have l2 := HQ.out.frozen q
          have HF : Hid (FB q = (lpB nx pz k 0 (pz q) && decide (orTo s pz (pz q) k = tp))) := HFair.out q
          have HN : Hid (∀ w9, w9.rowIs wE.heap.size 4 k (fun j => .bool (if j < q then FB j else false)) -> Below wE.heap.size wE w9 -> (w9.setCell ⟨wE.heap.size, q, none⟩ (.bool (FB q))).rowIs wE.heap.size 4 k (fun j => .bool (if j < q + 1 then FB j else false)) /\ Below wE.heap.size wE (w9.setCell ⟨wE.heap.size, q, none⟩ (.bool (FB q)))) := fun w9 h hb => by
            refine ⟨(h.set q (.bool (FB q))).congr fun j _ => ?_, hb.setCell (Nat.le_refl _) _⟩
            by_cases hj : j = q
            · subst hj; simp
            · rw [if_neg hj]
              by_cases hjq : j < q
              · rw [if_pos hjq, if_pos (by omega)]
              · rw [if_neg hjq, if_neg (by omega)]
          have hwl : wE.heap.size < wr.heap.size := HQ.out.lt; generalize (if q < q then FB q else false) = old at *
          generalize pz q = p at *; generalize orTo s pz p k = x at *
          cases hb : lpB nx pz k 0 p with
          | false =>
            rw [hb] at e1 HF; have HFq : Hid (FB q = false) := HF.out.trans (by simp)
            rw [HFq.out] at HN; clear hFS HF hb
            go_upto_region 18 with fail
            go_region
            go_wp2_with fail
            have HX := HN.out wr HQ.out HBq.out; have HX1 : Hid ((wr.setCell ⟨wE.heap.size, q, none⟩ (.bool false)).drew.rowIs wE.heap.size 4 k (fun j => .bool (if j < q + 1 then FB j else false))) := HX.1
            have HX2 : Hid (Below wE.heap.size wE (wr.setCell ⟨wE.heap.size, q, none⟩ (.bool false)).drew) := HX.2.drew
            go_roundw
            case rel => exact ⟨q + 1, hlq, by go_num, HX1, HX2⟩
            case measure => simp [intOf]; omega
          | true =>
            rw [hb] at e1 HF; have HFq : Hid (FB q = decide (x = tp)) := HF.out.trans (by simp)
            have hS : ∀ w', Below wE.heap.size wr w' -> w'.cell? ⟨w.heap.size, 0, none⟩ = some (.slice so k sc) /\ w'.cell? ⟨w.heap.size, 1, none⟩ = some (.int .i64 gi) /\ w'.cell? ⟨w.heap.size, 2, none⟩ = some (.slice no k nc) /\ w'.cell? ⟨w.heap.size, 3, none⟩ = some (.slice bo k bc) /\ w'.cell? ⟨w.heap.size, 4, none⟩ = some (.int .i64 gm) /\ w'.cell? ⟨w.heap.size + 1, p, none⟩ = some (.bool true) /\ w'.cell? ⟨w.heap.size + 1 + 1, p, none⟩ = some (.int .i64 (x : Int)) := fun w' hb => by
              have c : ∀ b j, b < wE.heap.size -> w'.cell? ⟨b, j, none⟩ = wr.cell? ⟨b, j, none⟩ := fun b j h => hb.cell (p := ⟨b, j, none⟩) h
              exact ⟨(c _ _ (by omega)).trans d0, (c _ _ (by omega)).trans d1, (c _ _ (by omega)).trans d2, (c _ _ (by omega)).trans d3, (c _ _ (by omega)).trans d4, (c _ _ (by omega)).trans e1, (c _ _ (by omega)).trans e2⟩
            have hal := HAll.out wr.drew; clear hFS HF hb
            go_upto_region 18 with fail
            go_region_held3 (fun w' => w'.cell? ⟨w.heap.size, 0, none⟩ = some (.slice so k sc) /\ w'.cell? ⟨w.heap.size, 1, none⟩ = some (.int .i64 gi) /\ w'.cell? ⟨w.heap.size, 2, none⟩ = some (.slice no k nc) /\ w'.cell? ⟨w.heap.size, 3, none⟩ = some (.slice bo k bc) /\ w'.cell? ⟨w.heap.size, 4, none⟩ = some (.int .i64 gm) /\ w'.cell? ⟨w.heap.size + 1, p, none⟩ = some (.bool true) /\ w'.cell? ⟨w.heap.size + 1 + 1, p, none⟩ = some (.int .i64 (x : Int)))
              (exact hS _ (by first | exact (Below.refl _ _).drew | exact Below.refl _ _ | exact hbx | exact hbx.setCell (Nat.le_refl _) _))
              ((go_at_call 93; refine hal.mono ?_; rintro e w4 ⟨rfl, hb4⟩; have hbx : Below wE.heap.size wr w4 := ((Below.refl _ _).drew).trans (hb4.mono (Nat.le_of_lt hwl)); have l14 := (hb4.cell (p := ⟨wE.heap.size, q, none⟩) hwl).trans l1; have l24 := (hb4.frozen (p := ⟨wE.heap.size, q, none⟩) hwl).trans l2))
            go_wp2_with fail
            have e9 : ((x : Int) == (tp : Int)) = FB q := by
              rw [HFq.out]
              show decide ((x : Int) = (tp : Int)) = _
              rw [decide_eq_decide]; omega
            have HX := HN.out w4 (row_laterG HQ.out ⟨hb4.os, hb4.tape, hb4.output, hb4.size, hb4.block⟩) (HBq.out.trans hbx); rw [<- e9] at HX; have HX1 : Hid _ := HX.1; have HX2 : Hid _ := HX.2
            go_roundw
            case rel => exact ⟨q + 1, hlq, by go_num, HX1, HX2⟩
            case measure => simp [intOf]; omega
        · obtain rfl : q = k := by omega
          have HR : Hid (wr.rowIs wE.heap.size 4 q (fun x => .bool (FB x))) := HQ.out.congr fun j hj => by rw [if_pos hj]
          have hle : w.heap.size <= wE.heap.size := by omega
          clear hFS
          go_wp2_with fail
          go_ret
          exact ⟨_, rfl, hbwq, hle, HR.out⟩
theorem Mut.lt {g : Gr} (hg : GOk g) {x y : Nat} (hx : x < g.spots.length) (h : Mut g x y) : y < g.spots.length := h.1.lt (fun _ hi _ hk => nxt_lt hg hi hk) hx
def PzOk (g : Gr) (pz : Nat -> Nat) : Prop := ∀ x, x < g.spots.length -> PartIs (nxt g) x (pz x : Int)
theorem PzOk.iff {g : Gr} {pz : Nat -> Nat} (h : PzOk g pz) {x y : Nat} (hx : x < g.spots.length) (hy : y < g.spots.length) : pz x = pz y ↔ Mut g x y := by
  obtain ⟨z, h1, h2, h3, h4⟩ := h x hx; obtain ⟨z', g1, g2, g3, g4⟩ := h y hy
  constructor
  · intro e
    have : z = z' := by omega
    subst this; exact ⟨h2.trans g3, g2.trans h3⟩
  · rintro ⟨a, b⟩
    have e1 := h4 z' (a.trans g2) (g3.trans b); have e2 := g4 z (b.trans h2) (h3.trans a); omega
theorem PzOk.le {g : Gr} {pz : Nat -> Nat} (h : PzOk g pz) {x : Nat} (hx : x < g.spots.length) : pz x <= x := by
  obtain ⟨z, h1, h2, h3, h4⟩ := h x hx; have := h4 x .stay .stay; omega
theorem PartsOk.pz {g : Gr} {pt : Nat -> Int} (h : PartsOk g pt) : PzOk g (fun x => (pt x).toNat) /\ ∀ x, x < g.spots.length -> pt x = ((pt x).toNat : Int) := by
  have h1 : ∀ x, x < g.spots.length -> pt x = ((pt x).toNat : Int) := fun x hx => by
    obtain ⟨z, h1, _⟩ := h x hx; omega
  exact ⟨fun x hx => by have := h x hx; rw [h1 x hx] at this; exact this, h1⟩
open Classical in
theorem fairB_x {g : Gr} (hg : GOk g) {pz : Nat -> Nat} (h : PzOk g pz) {x : Nat} (hx : x < g.spots.length) : fairB g pz x = decide (FairX g x) := by
  unfold fairB; rw [decide_eq_decide]
  constructor
  · rintro ⟨⟨a, ha, hp, b, hb, hq⟩, h2⟩
    have hbl := nxt_lt hg ha hb; refine ⟨⟨a, b, (h.iff hx ha).1 hp.symm, (h.iff hx hbl).1 hq.symm, hb⟩, fun i hi => ?_⟩
    obtain ⟨y, hy, h3, h4⟩ := h2 i hi; exact ⟨y, (h.iff hx hy).1 h3.symm, h4⟩
  · rintro ⟨⟨a, b, h1, h2, h3⟩, h4⟩
    have hal := h1.lt hg hx; have hbl := h2.lt hg hx; refine ⟨⟨a, hal, ((h.iff hx hal).2 h1).symm, b, h3, ((h.iff hx hbl).2 h2).symm⟩, fun i hi => ?_⟩
    obtain ⟨y, hy, h5⟩ := h4 i hi; have hyl := hy.lt hg hx; exact ⟨y, hyl, ((h.iff hx hyl).2 hy).symm, h5⟩
theorem find_none {p : Nat -> Bool} {n : Nat} (hno : ∀ j, j < n -> p j = false) : (List.range n).find? p = none := by
  rw [List.find?_eq_none]
  intro a ha; rw [hno a (List.mem_range.1 ha)]; simp
open Classical in
theorem fair_none {g : Gr} (hno : ∀ j, j < g.spots.length -> ¬ (ReachX g j /\ FairX g j)) : fairV g = 0 /\ fairC g = 11 := by
  have e : fairR g = none := find_none (fun j hj => decide_eq_false (hno j hj))
  unfold fairV fairC; rw [e]; exact ⟨rfl, rfl⟩
end Go.Proofs.YtjdfdmamonjnoaaGreatDoor
namespace Go.Proofs.YtjdfdmamonjnoaaGreatDoor
open Go.Shelf Go.RowKit
set_option maxHeartbeats 6400000
set_option maxRecDepth 20000
def laysRev_ren : Go.Shelf.Ren := ⟨fun | 112 => 95 | n => n, fun | 28 => 36 | 3 => 3 | 4 => 4 | 0 => 0 | n => n, fun | n => n⟩
theorem laysRev : Go.Proofs.Lays.n112 Tryz.prog laysRev_ren := {
  mixed := by kernel_rfl
  f112 := Tryz.func95.trans (congrArg some (by kernel_rfl))
  t0 := Tryz.underlying0
  a0 := Tryz.isAgg0
  z0 := Tryz.sizeOf0
  v0 := Tryz.zeroValue0
  t3 := Tryz.underlying3
  a3 := Tryz.isAgg3
  z3 := Tryz.sizeOf3
  v3 := Tryz.zeroValue3
  t4 := Tryz.underlying4
  a4 := Tryz.isAgg4
  z4 := Tryz.sizeOf4
  v4 := Tryz.zeroValue4
  t28 := Tryz.underlying36
  a28 := Tryz.isAgg36
  z28 := Tryz.sizeOf36
  v28 := Tryz.zeroValue36 }
open Go.Lib Go.Sort in
theorem slices_Reverse_int (blk off cap : Nat) (zs : List Int) (w : World) (hH : Holds (Value.int .i64) w blk off zs.toArray) (hsz : zs.length <= 9223372036854775807) :
    Calls Tryz.prog 95 #[.slice (some ⟨blk, off, none⟩) zs.length cap] w fun e w' => e = .returned (.tuple #[]) /\ ∃ n, w' = putRow (Value.int .i64) (Sort.ahead w n) blk off zs.reverse.toArray := Any.slices_Reverse_int laysRev blk off cap zs w hH hsz
open Go.Sort in
theorem reverse_own (g cap base : Nat) (l : List Nat) (w : World) (hz : l.length <= 100000) (ho : w.ownsRow base 3 1 (.slice (some ⟨g, 0, none⟩) l.length cap) l.length (nvals l)) :
    Calls Tryz.prog 95 #[.slice (some ⟨g, 0, none⟩) l.length cap] w fun e w' => e = .returned (.tuple #[]) /\ w.grownBy w' (some g) /\ w'.ownsRow base 3 1 (.slice (some ⟨g, 0, none⟩) l.length cap) l.length (nvals l.reverse) := by
  obtain ⟨zs, hzs⟩ : ∃ zs : List Int, zs = l.map (fun x : Nat => (x : Int)) := ⟨_, rfl⟩
  have hl : zs.length = l.length := by rw [hzs]; simp
  have e1 : nvals l = zs.map (Value.int .i64) := by rw [hzs, nvals, List.map_map]; rfl
  have e2 : nvals l.reverse = zs.reverse.map (Value.int .i64) := by rw [hzs, nvals, <- List.map_reverse, List.map_map]; rfl
  rw [e1] at ho; rw [e2]; rw [<- hl] at ho hz ⊢; obtain ⟨g', cap', hv, hbg, hlt, hn, hm, hl2, hH⟩ := Lib.holds_of_ownsRow ho (by simp)
  injection hv with h1 h2 h3
  injection h1 with h1
  injection h1 with h1
  subst h1 h3; refine (slices_Reverse_int g 0 cap zs w hH (by omega)).mono fun e w' ⟨he, q, hw⟩ => ⟨he, ?_, ?_⟩
  · rw [hw]
    refine ⟨rfl, rfl, rfl, by simp [putRow, mapBlock, Sort.ahead], fun k _ hne => ?_⟩
    have : g ≠ k := fun e => hne (by rw [e])
    simp [putRow, mapBlock, Sort.ahead, Array.getElem?_modify, this]
  · rw [hw]
    have h := Lib.ownsRow_putRow (q := q) (k := zs.length) (ys := zs.reverse) ho (by simp) (Nat.le_refl _)
    rw [List.take_of_length_le (by simp)] at h
    exact h
theorem reverse_none (ao : Option Addr) (c : Nat) (w : World) :
    Calls Tryz.prog 95 #[.slice ao 0 c] w fun e w' => e = .returned (.tuple #[]) /\ w' = w := by
  go_enter Tryz.func95, Tryz.ntmps95
  go_wp2_with fail
  go_loopw [2, 3] (fun i j wr => i = .int .i64 0 /\ j = .int .i64 (-1) /\ wr = w) (fun _ _ _ => 0)
  case atStart => exact ⟨rfl, rfl, rfl⟩
  case round =>
    obtain ⟨rfl, rfl, rfl⟩ := hrel
    go_wp2_with fail
    go_end0
    exact ⟨rfl, rfl⟩
end Go.Proofs.YtjdfdmamonjnoaaGreatDoor
namespace Go.Proofs.YtjdfdmamonjnoaaGreatDoor
open Go.ChangeShapes Go.WideShapes Go.ChangeAt Go.RowKit Go.Deep Go.Maps
open Terms
set_option maxHeartbeats 6400000
set_option maxRecDepth 20000
structure WayOk (n : Nat) (ins want : Nat -> Bool) (nx : Nat -> List Nat) (bs l : List Nat) : Prop where
  ne : l ≠ []
  head : l.getD 0 0 ∈ bs
  trail : Trail nx l
  last : want (l.getD (l.length - 1) 0) = true
  ins : ∀ x ∈ l, ins x = true /\ x < n
  len : l.length <= n
def NoWay (ins want : Nat -> Bool) (nx : Nat -> List Nat) (bs : List Nat) : Prop := ∀ f ∈ bs, ins f = true -> ∀ x, Way (fun i => (nx i).filter ins) f x -> want x = false
def WayPost (n : Nat) (ins want : Nat -> Bool) (nx : Nat -> List Nat) (bs l : List Nat) : Prop := (l = [] /\ NoWay ins want nx bs) \/ WayOk n ins want nx bs l
theorem Through.noWay {n : Nat} {ins want : Nat -> Bool} {nx : Nat -> List Nat} {bs : List Nat} {L : Met} (h : Through ins want nx bs L L.length) (hl : LOk n ins nx bs L) : NoWay ins want nx bs := fun f hf hi x hx => by
  obtain ⟨h1, h2, h3⟩ := h.all hl; refine h3 x (Way.closed (S := fun y => y ∈ keys L) (fun y hy k hk => ?_) (h1 f hf hi) hx)
  obtain ⟨h4, h5⟩ := List.mem_filter.1 hk; exact h2 y hy k h4 h5
theorem fromOf_at {L : Met} (h : (keys L).Nodup) {i : Nat} (hi : i < L.length) : fromOf L (L.getD i (0, 0)).1 = (L.getD i (0, 0)).2 := by
  have hg : L.getD i (0, 0) = L[i] := by rw [List.getD_eq_getElem?_getD, List.getElem?_eq_getElem hi]; rfl
  rw [hg]; unfold fromOf
  cases hf : L.find? (fun p => decide (p.1 = L[i].1)) with
  | none =>
    have := List.find?_eq_none.1 hf L[i] (List.getElem_mem hi)
    simp at this
  | some z =>
    have h1 := List.find?_some hf
    have h2 := List.mem_of_find?_eq_some hf
    obtain ⟨j, hj, rfl⟩ := List.getElem_of_mem h2; simp only [decide_eq_true_eq] at h1
    have hij : j = i := by
      have e1 : (keys L)[j]'(by rw [keys_length]; exact hj) = (keys L)[i]'(by rw [keys_length]; exact hi) := by simp [keys]; exact h1
      have hp := List.pairwise_iff_getElem.1 h
      rcases Nat.lt_trichotomy j i with hlt | hlt | hlt
      · exact absurd e1 (hp j i _ _ hlt)
      · exact hlt
      · exact absurd e1.symm (hp i j _ _ hlt)
    subst hij; rfl
structure Bk (n : Nat) (ins want : Nat -> Bool) (nx : Nat -> List Nat) (bs : List Nat) (L : Met) (l : List Nat) (f : Int) (k : Nat) : Prop where
  trail : Trail nx l
  mem : ∀ x ∈ l, x ∈ keys L
  last : l ≠ [] -> want (l.getD (l.length - 1) 0) = true
  next : (f = -1 /\ k = 0 /\ l ≠ [] /\ l.getD 0 0 ∈ bs /\ l.length <= L.length) \/ ∃ i, k = i + 1 /\ i < L.length /\ f = ((L.getD i (0, 0)).1 : Int) /\ l.length + i + 1 <= L.length /\ (l = [] -> want (L.getD i (0, 0)).1 = true) /\ (l ≠ [] -> l.getD 0 0 ∈ nx (L.getD i (0, 0)).1)
theorem Bk.step {n : Nat} {ins want : Nat -> Bool} {nx : Nat -> List Nat} {bs : List Nat} {L : Met} {l : List Nat} {i : Nat} (hL : LOk n ins nx bs L) (h : Bk n ins want nx bs L l ((L.getD i (0, 0)).1 : Int) (i + 1)) (hi : i < L.length) : ∃ k, k < i + 1 /\ Bk n ins want nx bs L ((L.getD i (0, 0)).1 :: l) (fromOf L (L.getD i (0, 0)).1) k := by
  have hn : l.length + i + 1 <= L.length /\ (l = [] -> want (L.getD i (0, 0)).1 = true) /\ (l ≠ [] -> l.getD 0 0 ∈ nx (L.getD i (0, 0)).1) := by
    rcases h.next with ⟨h1, h2, _⟩ | ⟨j, h1, h2, h3, h4⟩
    · omega
    · have : j = i := by omega
      subst this; exact h4
  obtain ⟨h1, h2, h3⟩ := hn; rw [fromOf_at hL.nodup hi]
  have htr : Trail nx ((L.getD i (0, 0)).1 :: l) := by
    cases l with
    | nil => trivial
    | cons a l => exact ⟨h3 (by simp), h.trail⟩
  have hme : ∀ x ∈ (L.getD i (0, 0)).1 :: l, x ∈ keys L := fun x hx => by
    rcases List.mem_cons.1 hx with rfl | hx
    · exact key_at hi
    · exact h.mem x hx
  have hla : (L.getD i (0, 0)).1 :: l ≠ [] -> want (((L.getD i (0, 0)).1 :: l).getD (((L.getD i (0, 0)).1 :: l).length - 1) 0) = true := fun _ => by
    cases l with
    | nil => exact h2 rfl
    | cons a l =>
      have := h.last (by simp)
      simpa using this
  rcases hL.src i hi with ⟨e1, e2⟩ | ⟨j, hj, e1, e2⟩
  · exact ⟨0, by omega, htr, hme, hla, .inl ⟨e1, rfl, by simp, e2, by simp; omega⟩⟩
  · exact ⟨j + 1, by omega, htr, hme, hla, .inr ⟨j, rfl, by omega, e1, by simp; omega, fun h => by simp at h, fun _ => e2⟩⟩
theorem Bk.done {n : Nat} {ins want : Nat -> Bool} {nx : Nat -> List Nat} {bs : List Nat} {L : Met} {l : List Nat} {k : Nat} (hL : LOk n ins nx bs L) (h : Bk n ins want nx bs L l (-1) k) : WayOk n ins want nx bs l := by
  rcases h.next with ⟨_, _, h1, h2, h3⟩ | ⟨i, _, _, h3, _⟩
  · exact ⟨h1, h2, h.trail, h.last h1, fun x hx => ⟨hL.ins x (h.mem x hx), hL.lt x (h.mem x hx)⟩, Nat.le_trans h3 hL.length⟩
  · omega
theorem way_any (so no bo po : Option Addr) (sc nc bc pc : Nat) (g : Gr) (bs : List Nat) (fi fw : FuncId) (ci cw : Array Value) (ins want : Nat -> Bool) (w : World) (hg : GOk g) (hzn : ∀ i, i < g.spots.length -> (g.next.getD i []).length <= 140737488355328)
    (hV : GraphV w (.slice so g.spots.length sc) (.slice no g.next.length nc) (.slice bo g.sets.length bc) g) (hP : NatsV w (.slice po bs.length pc) bs) (hbl : bs.length <= 140737488355328) (hbs : ∀ x ∈ bs, x < g.spots.length)
    (hI : FnB w w.heap.size g.spots.length (.func (.func fi) #[] ci) ins) (hW : FnB w w.heap.size g.spots.length (.func (.func fw) #[] cw) want) :
    Calls Tryz.prog 57 #[.agg #[.slice so g.spots.length sc, .int .i64 g.init, .slice no g.next.length nc, .slice bo g.sets.length bc, .int .i64 g.many], .slice po bs.length pc, .func (.func fi) #[] ci, .func (.func fw) #[] cw] w fun e w' => ∃ vo vc q, e = .returned (.slice vo q vc) /\ Below w.heap.size w w' /\ Hid (∃ l, l.length = q /\ WayPost g.spots.length ins want (nxt g) bs l /\ w'.ownsRow w.heap.size 3 1 (.slice vo q vc) q (nvals l)) := by
  obtain ⟨W0, hW0⟩ : ∃ W0, W0 = w.alloc (.cells #[.slice so g.spots.length sc, .int .i64 g.init, .slice no g.next.length nc, .slice bo g.sets.length bc, .int .i64 g.many] 71) := ⟨_, rfl⟩
  have hA : Below w.heap.size w W0 := by rw [hW0]; exact (Below.refl _ _).alloc (Nat.le_refl _) _
  have fnb : ∀ {F : Value} {p : Nat -> Bool}, FnB w w.heap.size g.spots.length F p -> FnB W0 W0.heap.size g.spots.length F p := fun {F p} h => by
    obtain ⟨fn, caps, h1, h2, h3⟩ := h; exact ⟨fn, caps, h1, h2, fun w' hb q hq => h3 w' (hA.trans (hb.mono hA.size)) q hq⟩
  have hlo := lookG_any so no bo po sc nc bc pc g bs fi fw ci cw ins want W0 hg hzn (hV.below hA) (hP.below hA) hbl hbs (fnb hI) (fnb hW); have hn := hg.head.n; obtain ⟨i0, hi0, hz0, hz1, hz2⟩ := info_parts infoInt; clear hV hP hI hW fnb hzn; unfold LookPost at hlo; generalize nxt g = nx at *; generalize g.next.length = nn at *; generalize g.sets.length = bn at *
  generalize g.spots.length = n at *; generalize g.init = gi at *; generalize g.many = gm at *; subst hW0
  go_enter Tryz.func57, Tryz.ntmps57
  go_wp2_with (go_at_call 94; refine hlo.mono ?_; rintro e w1 ⟨L, r, rfl, hb1, HC⟩)
  have hbw1 : Below w.heap.size w w1 := hA.trans (hb1.mono hA.size); obtain ⟨⟨D, hown, hcd⟩, hLok, hpost⟩ := HC.out; have hLn := hLok.length; have HL : Hid (LOk n ins nx bs L) := hLok; have HCd : Hid (CameD D L) := hcd; have hwl : w.heap.size < w1.heap.size := by have := hb1.size; simp at this; omega
  have HOw : Hid (w1.ownsMap Tryz.prog 3 (plainElem Tryz.prog 3) (w.heap.size + 1 + 2) L.length D) := by
    have := hown; rw [World.size_alloc] at this; exact this
  clear hown hcd hlo hb1 hA HC
  rcases hpost with ⟨rfl, hth⟩ | ⟨i, hi, rfl, hwi⟩
  · have HN : Hid (NoWay ins want nx bs) := hth.noWay hLok
    clear hth hLok HL HCd HOw
    go_loopg [9, 11] 0 (fun _ f v wr => f = .int .i64 (-1) /\ v = .slice none 0 0 /\ wr = w1)
    case atStart => exact ⟨rfl, rfl, rfl⟩
    case round =>
      obtain ⟨rfl, rfl, rfl⟩ := hrel; have hrv := reverse_none none 0 wr
      go_wp2_with (go_at_call 95; refine hrv.mono ?_; rintro e w2 ⟨rfl, rfl⟩)
      go_ret
      exact ⟨_, _, _, rfl, hbw1, [], rfl, .inl ⟨rfl, HN.out⟩, World.ownsRow_nil _ _ _ _⟩
  · have HB0 : Hid (Bk n ins want nx bs L [] ((L.getD i (0, 0)).1 : Int) (i + 1)) := ⟨trivial, fun x hx => by simp at hx, fun h => absurd rfl h, .inr ⟨i, rfl, hi, rfl, by simp; omega, fun _ => hwi, fun h => absurd rfl h⟩⟩
    clear hLok hwi; generalize ((L.getD i (0, 0)).1 : Int) = f0 at *
    go_loopg [9, 11] (i + 1) (fun k f v wr => ∃ (fI : Int) (ll : Nat), f = .int .i64 fI /\ Hid (∃ l : List Nat, l.length = ll /\ Bk n ins want nx bs L l fI k /\ wr.ownsRow w1.heap.size 3 1 v ll (nvals l.reverse)) /\ Hid (Below w1.heap.size w1 wr))
    case atStart => exact ⟨f0, 0, rfl, ⟨[], rfl, HB0.out, World.ownsRow_nil _ _ _ _⟩, Below.refl _ _⟩
    case round =>
      obtain ⟨fI, ll, rfl, HBk, HBr⟩ := hrel; obtain ⟨l, hll, hbk, hro⟩ := HBk.out; obtain ⟨vo, vc, rfl⟩ := owns_slice hro; have hbwr : Below w.heap.size w wr := hbw1.trans (HBr.out.mono hbw1.size)
      rcases hbk.next with ⟨rfl, rfl, hne, _, hlen⟩ | ⟨j, rfl, hj, rfl, hlen, _, _⟩
      · have HWk : Hid (WayOk n ins want nx bs l) := hbk.done HL.out
        obtain ⟨g9, c9, hvv, hg1, hg2⟩ := hro.form (by cases l with | nil => exact absurd rfl hne | cons a l => simp at hll; omega)
        injection hvv with e1 e2 e3
        subst e1 e3; have hrv := reverse_own g9 vc w1.heap.size l.reverse wr (by simp; omega) (by rw [List.length_reverse, hll]; exact hro)
        rw [List.length_reverse, hll, List.reverse_reverse] at hrv; clear hbk hro HBk hne
        go_wp2_with (go_at_call 95; refine hrv.mono ?_; rintro e w2 ⟨rfl, hg3, ho3⟩)
        go_ret
        exact ⟨_, _, _, rfl, hbwr.grown hg3 hbwr.size (fun k hk => by cases hk; omega), l, hll, .inr HWk.out, owns_mono ho3 (by omega)⟩
      · obtain ⟨k', hk', hbk'⟩ := hbk.step HL.out hj
        have hpn : (L.getD j (0, 0)).1 < n := HL.out.lt _ (key_at hj); have hmem := key_at hj; have hat0 := (HCd.out (L.getD j (0, 0)).1).2 hmem; have hk1 := keyG (L.getD j (0, 0)).1 (by omega)
        have HB' : Hid (Bk n ins want nx bs L ((L.getD j (0, 0)).1 :: l) (fromOf L (L.getD j (0, 0)).1) k') := hbk'; have HK' : Hid (k' < j + 1) := hk'; have HLL : Hid (l.length = ll) := hll; generalize fromOf L (L.getD j (0, 0)).1 = f2 at *; generalize (L.getD j (0, 0)).1 = p at *; have h63 : ll + 1 <= maxLen := by unfold maxLen; omega
        have hkb : (ll + 1) * 8 <= 140737488355328 := by omega
        have hown4 := fun o => hro.alloc o
        have hnb2 := hro.lt; have hbase : ∀ o, w1.heap.size <= (wr.alloc o).heap.size := fun o => by have := HBr.out.size; simp; omega
        have hpm1 : ¬ (p : Int) = -1 := by omega
        clear hbk hro HBk hbk' hk' hll
        go_wp2_with (first | (at_builtin; refine wpList_append_own _ rfl (.tmp 22) (.tmp 24) 36 rfl w1.heap.size 3 i0 (.int .i64 0) 1 8 Tryz.underlying36 hi0 hz0 hz1 hz2 rfl (by decide) (.slice vo ll vc) ll _ rfl (hown4 _) ⟨wr.heap.size, 0, none⟩ 1 1 [.int .i64 (p : Int)] rfl rfl (cell_one_new _ _ _) (by intro u hu; simp at hu; subst hu; rfl) h63 hkb (hbase _) ?_; intro v' w5 hown' hgrow _; have hb5 : Below w1.heap.size w1 w5 := (HBr.out.alloc HBr.out.size _).grown hgrow (hbase _) (fun z hz => (hnb2 z hz).1); have hmo := HOw.out.kept (grown_below hb5) (by simp)) | (at_lookup; refine wpList_lookup_own_int _ rfl _ _ 177 rfl 3 3 .i64 keyIntG Tryz.underlying177 Tryz.underlying3 (zeroIntG _) (w.heap.size + 1 + 2) _ D rfl hmo _ _ rfl hk1 ?_; intro c hat hwc))
        have hc2 : c = f2 := by rw [hat0] at hat; injection hat with hat; injection hat with _ hat; exact hat.symm
        subst hc2
        go_roundg k'
        case measure => exact HK'.out
        case rel => exact ⟨c, ll + 1, rfl, ⟨p :: l, by simp [HLL.out], HB'.out, by rw [List.reverse_cons, nvals, List.map_append]; exact hown'⟩, hb5⟩
end Go.Proofs.YtjdfdmamonjnoaaGreatDoor
namespace Go.Proofs.YtjdfdmamonjnoaaGreatDoor
open Go.ChangeShapes Go.WideShapes Go.ChangeAt Go.RowKit Go.Deep
open Terms
set_option maxHeartbeats 6400000
set_option maxRecDepth 20000
theorem andnot_nat0 : ∀ a, a < 64 -> ∀ b, b < 64 -> decide (bits BinOp.andNot IntKind.i64 ((a : Nat) : Int) ((b : Nat) : Int) = 0) = decide (b ||| a = b) := by decide +kernel
def orL (s : Nat -> Nat) (m : Nat) (l : List Nat) : Nat := l.foldl (fun a x => a ||| s x) m
theorem orL_snoc (s : Nat -> Nat) (m : Nat) (l : List Nat) (x : Nat) : orL s m (l ++ [x]) = orL s m l ||| s x := by simp [orL]
theorem orL_append (s : Nat -> Nat) (m : Nat) (l k : List Nat) : orL s m (l ++ k) = orL s (orL s m l) k := by simp [orL]
theorem orL_bit {s : Nat -> Nat} {i : Nat} : ∀ (l : List Nat) (m : Nat), (orL s m l).testBit i = true ↔ m.testBit i = true \/ ∃ x ∈ l, (s x).testBit i = true
  | [], m => by simp [orL]
  | a :: l, m => by
    have := orL_bit (s := s) (i := i) l (m ||| s a)
    show (orL s (m ||| s a) l).testBit i = true ↔ _
    rw [this, Nat.testBit_or, Bool.or_eq_true]
    constructor
    · rintro ((h | h) | ⟨x, hx, h⟩)
      · exact .inl h
      · exact .inr ⟨a, by simp, h⟩
      · exact .inr ⟨x, by simp [hx], h⟩
    · rintro (h | ⟨x, hx, h⟩)
      · exact .inl (.inl h)
      · rcases List.mem_cons.1 hx with rfl | hx
        · exact .inl (.inr h)
        · exact .inr ⟨x, hx, h⟩
theorem orL_lt {s : Nat -> Nat} {k : Nat} : ∀ (l : List Nat) (m : Nat), m < 2 ^ k -> (∀ x ∈ l, s x < 2 ^ k) -> orL s m l < 2 ^ k
  | [], _, hm, _ => hm
  | a :: l, m, hm, h => orL_lt l (m ||| s a) (Nat.or_lt_two_pow hm (h a (by simp))) (fun x hx => h x (by simp [hx]))
theorem orL_le {s : Nat -> Nat} : ∀ (l : List Nat) (m : Nat), m <= orL s m l
  | [], _ => Nat.le_refl _
  | a :: l, m => Nat.le_trans Nat.left_le_or (orL_le l (m ||| s a))
theorem orL_grows {s : Nat -> Nat} {m x : Nat} {l : List Nat} (hx : x ∈ l) (h : m ||| s x ≠ m) : m < orL s m l := by
  refine Nat.lt_of_le_of_ne (orL_le l m) fun e => h (Nat.eq_of_testBit_eq fun i => ?_)
  rw [Nat.testBit_or]
  cases hm : m.testBit i with
  | true => rfl
  | false =>
    cases hs : (s x).testBit i with
    | false => rfl
    | true =>
      have := (orL_bit (s := s) (i := i) l m).2 (.inr ⟨x, hx, hs⟩); rw [<- e, hm] at this
      cases this
theorem new_bit {m a i : Nat} (hm : m.testBit i = false) (ha : a.testBit i = true) : m ||| a ≠ m := fun e => by
  have : (m ||| a).testBit i = true := by rw [Nat.testBit_or, ha]; simp
  rw [e, hm] at this
  cases this
theorem Trail.append {nx : Nat -> List Nat} : ∀ {a b : List Nat}, Trail nx a -> Trail nx b -> (a ≠ [] -> b ≠ [] -> b.getD 0 0 ∈ nx (a.getD (a.length - 1) 0)) -> Trail nx (a ++ b)
  | [], _, _, hb, _ => hb
  | [x], [], _, _, _ => trivial
  | [x], y :: b, _, hb, h => ⟨h (by simp) (by simp), hb⟩
  | x :: y :: a, b, ha, hb, h => ⟨ha.1, Trail.append (a := y :: a) ha.2 hb (fun _ hn => by simpa using h (by simp) hn)⟩
def InPart (g : Gr) (f : Nat) (ins : Nat -> Bool) : Prop := ∀ x, x < g.spots.length -> (ins x = true ↔ Mut g f x)
theorem Mut.symm {g : Gr} {x y : Nat} (h : Mut g x y) : Mut g y x := ⟨h.2, h.1⟩
theorem inner_way {g : Gr} {f : Nat} {ins : Nat -> Bool} (hg : GOk g) (hf : f < g.spots.length) (hi : InPart g f ins) {x y : Nat} (hx : Mut g f x) (hw : Way (nxt g) x y) (hy : Way (nxt g) y f) : Way (fun i => (nxt g i).filter ins) x y := by
  induction hw with
  | stay => exact .stay
  | step hw hk ih =>
    rename_i j k; have hj : Way (nxt g) j f := (Way.one hk).trans hy; have hkm : Mut g f k := ⟨(hx.1.trans hw).step hk, hy⟩; exact (ih hj).step (List.mem_filter.2 ⟨hk, (hi k (hkm.lt hg hf)).2 hkm⟩)
theorem step_way {g : Gr} {f : Nat} {ins want : Nat -> Bool} (hg : GOk g) (hf : f < g.spots.length) (hi : InPart g f ins) {x k y : Nat} (hx : Mut g f x) (hk : k ∈ nxt g x) (hky : Way (nxt g) k y) (hy : Mut g f y) (hw : want y = true) (hno : NoWay ins want (nxt g) (nxt g x)) : False := by
  have hkm : Mut g f k := ⟨hx.1.step hk, hky.trans hy.2⟩; have := hno k hk ((hi k (hkm.lt hg hf)).2 hkm) y (inner_way hg hf hi hkm hky hy.2); rw [hw] at this
  cases this
structure LpOk (g : Gr) (f : Nat) (lp : List Nat) (met : Nat) : Prop where
  ne : lp ≠ []
  head : lp.getD 0 0 = f
  trail : Trail (nxt g) lp
  mem : ∀ x ∈ lp, Mut g f x /\ x < g.spots.length
  met : met = orL (sN g) 0 lp
theorem last_mem {l : List Nat} (h : l ≠ []) : l.getD (l.length - 1) 0 ∈ l := by
  have : 0 < l.length := by
    cases l with
    | nil => exact absurd rfl h
    | cons a l => simp
  rw [List.getD_eq_getElem?_getD, List.getElem?_eq_getElem (by omega)]
  exact List.getElem_mem _
theorem LpOk.start {g : Gr} {f : Nat} (hf : f < g.spots.length) : LpOk g f [f] (sN g f) := ⟨by simp, rfl, trivial, fun x hx => by simp at hx; subst hx; exact ⟨⟨.stay, .stay⟩, hf⟩, by simp [orL]⟩
theorem LpOk.lt {g : Gr} {f : Nat} {lp : List Nat} {met : Nat} (hg : GOk g) (h : LpOk g f lp met) : met < 2 ^ mN g := by
  rw [h.met]; exact orL_lt lp 0 (Nat.pow_pos (by decide)) fun x hx => (hg.sN (h.mem x hx).2).2
theorem LpOk.more {g : Gr} {f : Nat} {lp : List Nat} {met : Nat} {ins want : Nat -> Bool} (hg : GOk g) (hf : f < g.spots.length) (hF : FairX g f) (hi : InPart g f ins) (h : LpOk g f lp met) (hm : met ≠ 2 ^ mN g - 1) (hw : ∀ x, x < g.spots.length -> want x = decide (met ||| sN g x ≠ met)) : ¬ NoWay ins want (nxt g) (nxt g (lp.getD (lp.length - 1) 0)) := fun hno => by
  have hlm := last_mem h.ne; obtain ⟨hl1, hl2⟩ := h.mem _ hlm
  have hbit : ∃ i, i < mN g /\ met.testBit i = false := by
    apply Classical.byContradiction
    intro hc; refine hm ((full_bits (h.lt hg)).2 fun i hi => ?_)
    cases e : met.testBit i with
    | true => rfl
    | false => exact absurd ⟨i, hi, e⟩ hc
  obtain ⟨i, hi1, hi2⟩ := hbit; obtain ⟨a, ha, hab⟩ := hF.2 i hi1; have han := ha.lt hg hf; have hwa : want a = true := by rw [hw a han]; exact decide_eq_true (new_bit hi2 hab)
  have hwy : Way (nxt g) (lp.getD (lp.length - 1) 0) a := hl1.2.trans ha.1
  rcases hwy.first with e | ⟨k, hk, hka⟩
  · have : met.testBit i = true := by rw [h.met]; exact (orL_bit lp 0).2 (.inr ⟨_, hlm, by rw [e]; exact hab⟩)
    rw [hi2] at this
    cases this
  · exact step_way hg hf hi hl1 hk hka ha hwa hno
theorem LpOk.home {g : Gr} {f : Nat} {lp : List Nat} {met : Nat} {ins want : Nat -> Bool} (hg : GOk g) (hf : f < g.spots.length) (hF : FairX g f) (hi : InPart g f ins) (h : LpOk g f lp met) (hw : ∀ x, x < g.spots.length -> want x = decide (x = f)) : ¬ NoWay ins want (nxt g) (nxt g (lp.getD (lp.length - 1) 0)) := fun hno => by
  have hlm := last_mem h.ne; obtain ⟨hl1, hl2⟩ := h.mem _ hlm; have hwf : want f = true := by rw [hw f hf]; simp
  have hff : Mut g f f := ⟨.stay, .stay⟩
  rcases hl1.2.first with e | ⟨k, hk, hka⟩
  · obtain ⟨a, b, ha, hb, hab⟩ := hF.1
    have hxa : Way (nxt g) (lp.getD (lp.length - 1) 0) a := by rw [e]; exact ha.1
    rcases hxa.first with e2 | ⟨k, hk, hka⟩
    · exact step_way hg hf hi hl1 (k := b) (by rw [e2]; exact hab) hb.2 hff hwf hno
    · exact step_way hg hf hi hl1 hk (hka.trans ha.2) hff hwf hno
  · exact step_way hg hf hi hl1 hk hka hff hwf hno
theorem getD_append_zero {a b : List Nat} (h : a ≠ []) : (a ++ b).getD 0 0 = a.getD 0 0 := by
  cases a with
  | nil => exact absurd rfl h
  | cons x a => rfl
theorem LpOk.put {g : Gr} {f : Nat} {lp l : List Nat} {met : Nat} {ins want : Nat -> Bool} (hi : InPart g f ins) (h : LpOk g f lp met) (hl : WayOk g.spots.length ins want (nxt g) (nxt g (lp.getD (lp.length - 1) 0)) l) (hw : ∀ x, x < g.spots.length -> want x = decide (met ||| sN g x ≠ met)) : LpOk g f (lp ++ l) (orL (sN g) met l) /\ met < orL (sN g) met l := by
  refine ⟨⟨by simp [h.ne], (getD_append_zero h.ne).trans h.head, h.trail.append hl.trail (fun _ _ => hl.head), fun x hx => ?_, by rw [orL_append, <- h.met]⟩, ?_⟩
  · rcases List.mem_append.1 hx with hx | hx
    · exact h.mem x hx
    · obtain ⟨h1, h2⟩ := hl.ins x hx
      exact ⟨(hi x h2).1 h1, h2⟩
  · have hm := last_mem hl.ne
    have h1 := hl.last; rw [hw _ (hl.ins _ hm).2] at h1; exact orL_grows hm (of_decide_eq_true h1)
structure LoopOk (g : Gr) (f : Nat) (l : List Nat) : Prop where
  ne : l ≠ []
  head : l.getD 0 0 = f
  trail : Trail (nxt g) (l ++ [f])
  lt : ∀ x ∈ l, x < g.spots.length
  bits : ∀ i, i < mN g -> ∃ x ∈ l, (sN g x).testBit i = true
theorem LpOk.close {g : Gr} {f : Nat} {lp l : List Nat} {met : Nat} {ins want : Nat -> Bool} (hg : GOk g) (h : LpOk g f lp met) (hm : met = 2 ^ mN g - 1) (hl : WayOk g.spots.length ins want (nxt g) (nxt g (lp.getD (lp.length - 1) 0)) l) (hw : ∀ x, x < g.spots.length -> want x = decide (x = f)) : LoopOk g f (lp ++ l.take (l.length - 1)) := by
  have hlm := last_mem hl.ne
  have e1 : l.getD (l.length - 1) 0 = f := by
    have := hl.last; rw [hw _ (hl.ins _ hlm).2] at this; exact of_decide_eq_true this
  have hpos : 0 < l.length := by
    cases l with
    | nil => exact absurd rfl hl.ne
    | cons a l => simp
  have e2 : l.take (l.length - 1) ++ [f] = l := by
    rw [<- e1]; have h3 : l = l.take (l.length - 1 + 1) := by rw [List.take_of_length_le (by omega)]
    conv => rhs; rw [h3, List.take_succ_eq_append_getElem (by omega)]
    rw [List.getD_eq_getElem?_getD, List.getElem?_eq_getElem (by omega)]; rfl
  refine ⟨by simp [h.ne], (getD_append_zero h.ne).trans h.head, ?_, fun x hx => ?_, fun i hi => ?_⟩
  · rw [List.append_assoc, e2]
    exact h.trail.append hl.trail (fun _ _ => hl.head)
  · rcases List.mem_append.1 hx with hx | hx
    · exact (h.mem x hx).2
    · exact (hl.ins x (List.mem_of_mem_take hx)).2
  · have h1 := (full_bits (h.lt hg)).1 hm i hi
    rw [h.met] at h1
    rcases (orL_bit lp 0).1 h1 with h2 | ⟨x, hx, h2⟩
    · simp at h2
    · exact ⟨x, List.mem_append.2 (.inl hx), h2⟩
end Go.Proofs.YtjdfdmamonjnoaaGreatDoor
