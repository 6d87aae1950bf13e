/-
  Joined out of Bools, StepLetter, ShelfSort, SortOwn, Nexts, StepNext, Reaches, MFirst, StepReach, StepReach2, StepReach3, ReachSM, RefWorked, RefEval, RefCount, RefCode, RefValues, RefAfter, RefNext, RefFirst, RefReachS, SameInts, in their order: a claim bears at most so many files.
-/
import Derived.Test.YtbcjhkhndahdhaaDoorMem
import Derived.Deep.OwnRows
import Derived.Test.YtbcjhkhndahdhaaDoorStepAfter
import Derived.Test.YtbcjhkhndahdhaaDoorMProps
import Derived.Shelf.Sort.Plain
import Derived.Ground.Names2Prog
import Derived.Shelf.Slices.CompactI
import Derived.Test.YtbcjhkhndahdhaaDoorIntsOf
import Derived.Sort.OwnSortedInts
import Derived.Lib.OwnBridge
import Derived.Lib.RowBridge
import Derived.Test.YtbcjhkhndahdhaaDoorSteps
import Derived.Deep.AppendLies
import Derived.Test.YtbcjhkhndahdhaaDoorMCode
import Derived.Test.YtbcjhkhndahdhaaDoorValRes
import Derived.Test.YtbcjhkhndahdhaaDoorPairs
import Derived.Maps.OwnSet
import Derived.Test.YtbcjhkhndahdhaaDoorRefExpr2
import Derived.Test.YtbcjhkhndahdhaaDoorEval
import Derived.Test.YtbcjhkhndahdhaaDoorRefModel
import Derived.Test.YtbcjhkhndahdhaaDoorStates
import Derived.Test.YtbcjhkhndahdhaaDoorCodeRes
import Derived.Deep.RegionHeld3
/-
  Slices of truths; the contract of the laws' own sameTruths.
-/
namespace Go.Proofs.YtbcjhkhndahdhaaDoor
open Go.ChangeShapes Go.WideShapes Go.ChangeAt Go.RowKit Go.Deep
open Terms

theorem infoBool : (Tryd.prog.info? 4).map (fun i => (i.zero, i.size, i.bytes)) = some (some (.bool false), 1, 1) := by kernel_rfl
/-- a slice of truths. -/
def BoolsAt (w : World) (b off : Nat) (l : List Bool) : Prop := ∀ i, i < l.length → w.cell? ⟨b, off + i, none⟩ = some (.bool (l.getD i false))
def BoolsV (w : World) (v : Value) (l : List Bool) : Prop := ∃ ao cap, v = .slice ao l.length cap ∧ (l ≠ [] → ∃ b off, ao = some ⟨b, off, none⟩ ∧ b < w.heap.size ∧ BoolsAt w b off l)
theorem BoolsV.below {w w' : World} {v : Value} {l : List Bool} (h : BoolsV w v l) (hb : Below w.heap.size w w') : BoolsV w' v l := by
  obtain ⟨ao, cap, rfl, h⟩ := h
  refine ⟨ao, cap, rfl, fun hne => ?_⟩
  obtain ⟨b, off, rfl, hlt, hat⟩ := h hne
  exact ⟨b, off, rfl, Nat.lt_of_lt_of_le hlt hb.size, fun i hi => (hb.cell (p := ⟨b, _, none⟩) hlt).trans (hat i hi)⟩
def bvals (l : List Bool) : List Value := l.map fun x => .bool x
theorem boolsV_of_owns {w : World} {base : Nat} {v : Value} {l : List Bool} (h : w.ownsRow base 4 1 v l.length (bvals l)) : BoolsV w v l := by
  rcases h.2 with ⟨rfl, h0⟩ | ⟨g, cap, cur, rfl, hb, hg, hnc, hcm, hcs, htake⟩
  · have : l = [] := by simpa using h0
    subst this
    exact ⟨none, 0, rfl, fun h => absurd rfl h⟩
  · refine ⟨_, cap, rfl, fun _ => ⟨g, 0, rfl, (Array.getElem?_eq_some_iff.1 hg).1, fun i hi => ?_⟩⟩
    rw [Nat.zero_add, h.cellAt i (by omega)]
    simp [bvals, List.getD_eq_getElem?_getD, hi]
theorem boolsV_of_row {w : World} {B : Nat} {l : List Bool} (h : w.rowIs B 4 l.length (fun j => .bool (l.getD j false))) : BoolsV w (.slice (some ⟨B, 0, none⟩) l.length l.length) l :=
  ⟨some ⟨B, 0, none⟩, l.length, rfl, fun _ => ⟨B, 0, rfl, h.lt, fun i hi => by rw [Nat.zero_add, h.cell hi]⟩⟩

end Go.Proofs.YtbcjhkhndahdhaaDoor

/-
  The contract of step.Letter.
-/
namespace Go.Proofs.YtbcjhkhndahdhaaDoor
open Go.ChangeShapes Go.WideShapes Go.ChangeAt Go.RowKit Go.Deep
open Terms Tm

/-- what Letter answers. -/
noncomputable def letC (m : Mo) (ps : List (List (Int × Int))) (code : Int) : Int := if pcode m ps = 0 then wcode m code else pcode m ps
noncomputable def letL (m : Mo) (ps : List (List (Int × Int))) (code : Int) : List Bool := if letC m ps code = 0 then ps.map (fun p => holdsB p (valsL m.vars code)) else []
theorem pcode_m {m : Mo} {ps : List (List (Int × Int))} (h : pcode m ps = 0) : mcode m = 0 ∧ ps.length ≤ 6 := by
  unfold pcode at h
  split at h
  · rename_i h1
    split at h
    · simp at h
    · exact ⟨h1, by omega⟩
  · rename_i h1; exact absurd h h1
theorem wcode_bare {m : Mo} (code : Int) (h : mcode m = 0) : wcode ⟨m.vars, []⟩ code = wcode m code := by
  unfold wcode
  rw [if_pos h, if_pos (mcode_bare h)]

end Go.Proofs.YtbcjhkhndahdhaaDoor

/-
  The library's slices.Sort and slices.Compact at lists of numbers: their contracts at this program, in plain words.
-/
namespace Go.Proofs.YtbcjhkhndahdhaaDoor
open Go.Shelf
def lays189_ren : Go.Shelf.Ren := ⟨fun | 189 => 10 | 125 => 22 | 257 => 21 | 128 => 45 | 129 => 46 | 294 => 36 | 295 => 37 | 296 => 38 | 297 => 39 | 298 => 40 | 299 => 41 | 216 => 42 | 300 => 43 | 301 => 44 | 328 => 60 | 329 => 61 | 330 => 62 | 331 => 63 | 332 => 64 | 215 => 65 | 343 => 82 | n => n, fun | 28 => 26 | 3 => 3 | 46 => 54 | 0 => 0 | 51 => 75 | 53 => 77 | 4 => 4 | 183 => 68 | 182 => 67 | 131 => 37 | 5 => 5 | 9 => 9 | 218 => 90 | 222 => 94 | 228 => 105 | 229 => 106 | n => n, fun | n => n⟩
theorem lays189 : Go.Proofs.Lays.n189 Tryd.prog lays189_ren := {
  mixed := by kernel_rfl
  f125 := Tryd.func22.trans (congrArg some (by kernel_rfl))
  f128 := Tryd.func45.trans (congrArg some (by kernel_rfl))
  f129 := Tryd.func46.trans (congrArg some (by kernel_rfl))
  f189 := Tryd.func10.trans (congrArg some (by kernel_rfl))
  f215 := Tryd.func65.trans (congrArg some (by kernel_rfl))
  f216 := Tryd.func42.trans (congrArg some (by kernel_rfl))
  f257 := Tryd.func21.trans (congrArg some (by kernel_rfl))
  f294 := Tryd.func36.trans (congrArg some (by kernel_rfl))
  f295 := Tryd.func37.trans (congrArg some (by kernel_rfl))
  f296 := Tryd.func38.trans (congrArg some (by kernel_rfl))
  f297 := Tryd.func39.trans (congrArg some (by kernel_rfl))
  f298 := Tryd.func40.trans (congrArg some (by kernel_rfl))
  f299 := Tryd.func41.trans (congrArg some (by kernel_rfl))
  f300 := Tryd.func43.trans (congrArg some (by kernel_rfl))
  f301 := Tryd.func44.trans (congrArg some (by kernel_rfl))
  f328 := Tryd.func60.trans (congrArg some (by kernel_rfl))
  f329 := Tryd.func61.trans (congrArg some (by kernel_rfl))
  f330 := Tryd.func62.trans (congrArg some (by kernel_rfl))
  f331 := Tryd.func63.trans (congrArg some (by kernel_rfl))
  f332 := Tryd.func64.trans (congrArg some (by kernel_rfl))
  f343 := Tryd.func82.trans (congrArg some (by kernel_rfl))
  t0 := Tryd.underlying0
  a0 := Tryd.isAgg0
  z0 := Tryd.sizeOf0
  v0 := Tryd.zeroValue0
  t3 := Tryd.underlying3
  a3 := Tryd.isAgg3
  z3 := Tryd.sizeOf3
  v3 := Tryd.zeroValue3
  t4 := Tryd.underlying4
  a4 := Tryd.isAgg4
  z4 := Tryd.sizeOf4
  v4 := Tryd.zeroValue4
  t5 := Tryd.underlying5
  a5 := Tryd.isAgg5
  z5 := Tryd.sizeOf5
  v5 := Tryd.zeroValue5
  t9 := Tryd.underlying9
  a9 := Tryd.isAgg9
  z9 := Tryd.sizeOf9
  v9 := Tryd.zeroValue9
  t28 := Tryd.underlying26
  a28 := Tryd.isAgg26
  z28 := Tryd.sizeOf26
  v28 := Tryd.zeroValue26
  t46 := Tryd.underlying54
  a46 := Tryd.isAgg54
  z46 := Tryd.sizeOf54
  v46 := Tryd.zeroValue54
  t51 := Tryd.underlying75
  a51 := Tryd.isAgg75
  z51 := Tryd.sizeOf75
  v51 := Tryd.zeroValue75
  t53 := Tryd.underlying77
  a53 := Tryd.isAgg77
  z53 := Tryd.sizeOf77
  v53 := Tryd.zeroValue77
  t131 := Tryd.underlying37
  a131 := Tryd.isAgg37
  z131 := Tryd.sizeOf37
  v131 := Tryd.zeroValue37
  t182 := Tryd.underlying67
  a182 := Tryd.isAgg67
  z182 := Tryd.sizeOf67
  v182 := Tryd.zeroValue67
  t183 := Tryd.underlying68
  a183 := Tryd.isAgg68
  z183 := Tryd.sizeOf68
  v183 := Tryd.zeroValue68
  t218 := Tryd.underlying90
  a218 := Tryd.isAgg90
  z218 := Tryd.sizeOf90
  v218 := Tryd.zeroValue90
  t222 := Tryd.underlying94
  a222 := Tryd.isAgg94
  z222 := Tryd.sizeOf94
  v222 := Tryd.zeroValue94
  t228 := Tryd.underlying105
  a228 := Tryd.isAgg105
  z228 := Tryd.sizeOf105
  v228 := Tryd.zeroValue105
  t229 := Tryd.underlying106
  a229 := Tryd.isAgg106
  z229 := Tryd.sizeOf106
  v229 := Tryd.zeroValue106 }
open Go.Sort Go.RowKit in
theorem slices_Sort_int (blk off cap : Nat) (zs : List Int) (w : World) (hH : Holds (Value.int .i64) w blk off zs.toArray) (hblk : blk < w.heap.size) (hsz : zs.length < 4611686018427387904) :
    Calls Tryd.prog 10 #[.slice (some ⟨blk, off, none⟩) zs.length cap] w fun e w' =>
      e = .returned (.tuple #[]) ∧ ∃ n os, w' = grow (putRow (Value.int .i64) (Sort.ahead w n) blk off (zs.mergeSort fun x y => decide (x ≤ y)).toArray) os := Any.slices_Sort_int lays189 blk off cap zs w hH hblk hsz
def laysNm220_ren : Go.Shelf.Ren := ⟨fun | 20 => 20 | n => n, fun | 22 => 26 | 3 => 3 | 4 => 4 | 0 => 0 | n => n, fun | n => n⟩
theorem laysNm220 : Go.Proofs.Lays2.n20 Tryd.prog laysNm220_ren := {
  mixed := by kernel_rfl
  f20 := Tryd.func20.trans (congrArg some (by kernel_rfl))
  t0 := Tryd.underlying0
  a0 := Tryd.isAgg0
  z0 := Tryd.sizeOf0
  v0 := Tryd.zeroValue0
  t3 := Tryd.underlying3
  a3 := Tryd.isAgg3
  z3 := Tryd.sizeOf3
  v3 := Tryd.zeroValue3
  t4 := Tryd.underlying4
  a4 := Tryd.isAgg4
  z4 := Tryd.sizeOf4
  v4 := Tryd.zeroValue4
  t22 := Tryd.underlying26
  a22 := Tryd.isAgg26
  z22 := Tryd.sizeOf26
  v22 := Tryd.zeroValue26
  i3 := by kernel_rfl }
open Go.RowKit Go.Lib Go.Sort in
theorem slices_Compact_int (blk off cap : Nat) (zs : List Int) (w : World) (hH : Holds (Value.int .i64) w blk off zs.toArray) (hsz : zs.length ≤ 9223372036854775807) (hcap : zs.length ≤ cap) :
    Calls Tryd.prog 20 #[.slice (some ⟨blk, off, none⟩) zs.length cap] w fun e w' => e = .returned (.slice (some ⟨blk, off, none⟩) (Lib.compact zs).length cap) ∧ ∃ q, w' = putRow (Value.int .i64) (Sort.ahead w q) blk off (Lib.compact zs ++ List.replicate (zs.length - (Lib.compact zs).length) 0).toArray := Any.slices_Compact_int laysNm220 blk off cap zs w hH hsz hcap
end Go.Proofs.YtbcjhkhndahdhaaDoor

/-
  The library's Sort and Compact of numbers that lie in a row of one's own; and what comes of them.
-/
namespace Go.Proofs.YtbcjhkhndahdhaaDoor
open Go.RowKit Go.Sort

def leB (x y : Int) : Bool := decide (x ≤ y)
/-- slices.Sort. -/
theorem sort_own (g cap base : Nat) (zs : List Int) (w : World) (hz : zs.length ≤ 100000) (ho : w.ownsRow base 3 1 (.slice (some ⟨g, 0, none⟩) zs.length cap) zs.length (ivals zs)) :
    Calls Tryd.prog 10 #[.slice (some ⟨g, 0, none⟩) zs.length cap] w fun e w' => e = .returned (.tuple #[]) ∧ w.grownBy w' (some g) ∧ w'.ownsRow base 3 1 (.slice (some ⟨g, 0, none⟩) zs.length cap) zs.length (ivals (zs.mergeSort leB)) := by
  have ho' : w.ownsRow base 3 1 (.slice (some ⟨g, 0, none⟩) zs.length cap) zs.length (zs.map (Value.int .i64)) := ho
  obtain ⟨g', cap', hv, hbg, hlt, hn, hm, hl, hH⟩ := Lib.holds_of_ownsRow ho' (by simp)
  injection hv with h1 h2 h3
  injection h1 with h1
  injection h1 with h1
  subst h1 h3
  rcases ho.2 with ⟨e0, _⟩ | ⟨g2, cap2, cur, e0, hb, hg, hnc, hcm, hcs, ht⟩
  · cases e0
  · injection e0 with e1 _ e3
    injection e1 with e1
    injection e1 with e1
    subst e1 e3
    refine (slices_Sort_int g 0 cap zs w hH hlt (by omega)).mono fun e w' ⟨he, n, os, hw⟩ => ⟨he, ?_, ?_⟩
    · rw [hw]; exact grownBy_sortedI _
    · rw [hw]; exact ownsRow_sortedI (ts := zs.mergeSort leB) (by simp) hbg hg hnc hcm hcs
/-- slices.Compact. -/
theorem compact_own (g cap base : Nat) (zs : List Int) (w : World) (hz : zs.length ≤ 100000) (ho : w.ownsRow base 3 1 (.slice (some ⟨g, 0, none⟩) zs.length cap) zs.length (ivals zs)) :
    Calls Tryd.prog 20 #[.slice (some ⟨g, 0, none⟩) zs.length cap] w fun e w' => e = .returned (.slice (some ⟨g, 0, none⟩) (Lib.compact zs).length cap) ∧ w.grownBy w' (some g) ∧ w'.ownsRow base 3 1 (.slice (some ⟨g, 0, none⟩) (Lib.compact zs).length cap) (Lib.compact zs).length (ivals (Lib.compact zs)) := by
  have ho' : w.ownsRow base 3 1 (.slice (some ⟨g, 0, none⟩) zs.length cap) zs.length (zs.map (Value.int .i64)) := ho
  obtain ⟨g', cap', hv, hbg, hlt, hn, hm, hl, hH⟩ := Lib.holds_of_ownsRow ho' (by simp)
  injection hv with h1 h2 h3
  injection h1 with h1
  injection h1 with h1
  subst h1 h3
  have hcl := Lib.compact_length_le zs
  refine (slices_Compact_int g 0 cap zs w hH (by omega) hn).mono fun e w' ⟨he, q, hw⟩ => ⟨he, ?_, ?_⟩
  · rw [hw]
    refine ⟨rfl, rfl, rfl, by simp [putRow, mapBlock, Sort.ahead], fun k _ hne => ?_⟩
    have : g ≠ k := fun e => hne (by rw [e])
    simp [putRow, mapBlock, Sort.ahead, Array.getElem?_modify, this]
  · rw [hw]
    have h := Lib.ownsRow_putRow (q := q) (k := (Lib.compact zs).length) (ys := Lib.compact zs ++ List.replicate (zs.length - (Lib.compact zs).length) 0) ho' (by simp; omega) hcl
    rw [List.take_left] at h
    exact h

/-! ### lists that rise -/

abbrev Rise (l : List Int) : Prop := l.Pairwise (· < ·)
theorem rise_eq : ∀ {l l' : List Int}, Rise l → Rise l' → (∀ x, x ∈ l ↔ x ∈ l') → l = l'
  | [], [], _, _, _ => rfl
  | [], y :: l', _, _, h => absurd ((h y).2 (by simp)) (by simp)
  | x :: l, [], _, _, h => absurd ((h x).1 (by simp)) (by simp)
  | x :: l, y :: l', h1, h2, h => by
    obtain ⟨hx, t1⟩ := List.pairwise_cons.1 h1
    obtain ⟨hy, t2⟩ := List.pairwise_cons.1 h2
    have e : x = y := by
      rcases List.mem_cons.1 ((h x).1 (by simp)) with e | e
      · exact e
      · rcases List.mem_cons.1 ((h y).2 (by simp)) with e' | e'
        · exact e'.symm
        · have := hx y e'; have := hy x e; omega
    subst e
    refine congrArg (x :: ·) (rise_eq t1 t2 fun z => ⟨fun hz => ?_, fun hz => ?_⟩)
    · rcases List.mem_cons.1 ((h z).1 (by simp [hz])) with e | e
      · subst e; have := hx z hz; omega
      · exact e
    · rcases List.mem_cons.1 ((h z).2 (by simp [hz])) with e | e
      · subst e; have := hy z hz; omega
      · exact e
theorem compact_step {d : Array Int} {n : Nat} (hs : ∀ i j, i ≤ j → j < n → d[i]! ≤ d[j]!) : ∀ m, m ≤ n → Rise (Lib.compactUpTo d m) ∧ ∀ x, x ∈ Lib.compactUpTo d m ↔ ∃ j, j < m ∧ d[j]! = x := by
  intro m
  induction m with
  | zero => intro _; exact ⟨by simp [Lib.compactUpTo], fun x => by simp [Lib.compactUpTo]⟩
  | succ m ih =>
    intro hm
    obtain ⟨h1, h2⟩ := ih (by omega)
    rw [Lib.compactUpTo_succ]
    by_cases hk : Lib.keeps d m = true
    · rw [if_pos hk]
      refine ⟨List.pairwise_append.2 ⟨h1, by simp, fun x hx y hy => ?_⟩, fun x => ?_⟩
      · simp at hy
        subst hy
        obtain ⟨j, hj, rfl⟩ := (h2 x).1 hx
        have h3 := hs j m (by omega) (by omega)
        have h4 := hs j (m - 1) (by omega) (by omega)
        have h5 := hs (m - 1) m (by omega) (by omega)
        have h6 : d[m]! ≠ d[m - 1]! := by
          have : m ≠ 0 := by omega
          simpa [Lib.keeps, this] using hk
        omega
      · simp only [List.mem_append, List.mem_singleton, h2]
        constructor
        · rintro (⟨j, hj, e⟩ | e)
          · exact ⟨j, by omega, e⟩
          · exact ⟨m, by omega, e.symm⟩
        · rintro ⟨j, hj, e⟩
          by_cases hjm : j = m
          · subst hjm; exact .inr e.symm
          · exact .inl ⟨j, by omega, e⟩
    · rw [if_neg hk, List.append_nil]
      refine ⟨h1, fun x => ?_⟩
      rw [h2]
      constructor
      · rintro ⟨j, hj, e⟩; exact ⟨j, by omega, e⟩
      · rintro ⟨j, hj, e⟩
        by_cases hjm : j = m
        · subst hjm
          have h7 : j ≠ 0 ∧ d[j]! = d[j - 1]! := by simpa [Lib.keeps] using hk
          exact ⟨j - 1, by omega, by rw [← h7.2]; exact e⟩
        · exact ⟨j, by omega, e⟩
/-- the numbers of a list, each once, rising. -/
def upL (l : List Int) : List Int := Lib.compact (l.mergeSort leB)
theorem upL_spec (l : List Int) : Rise (upL l) ∧ ∀ x, x ∈ upL l ↔ x ∈ l := by
  have hp : (l.mergeSort leB).Pairwise (fun x y => leB x y = true) := List.pairwise_mergeSort (le := leB) (by intro a b c; simp only [leB, decide_eq_true_eq]; omega) (by intro a b; simp only [leB, Bool.or_eq_true, decide_eq_true_eq]; omega) l
  have hs : ∀ i j, i ≤ j → j < (l.mergeSort leB).length → (l.mergeSort leB).toArray[i]! ≤ (l.mergeSort leB).toArray[j]! := fun i j hij hj => by
    rw [getElem!_pos _ i (by simpa using (by omega : i < (l.mergeSort leB).length)), getElem!_pos _ j (by simpa using hj)]
    rcases Nat.lt_or_eq_of_le hij with h | h
    · have := List.pairwise_iff_getElem.1 hp i j (by omega) hj h
      simpa [leB] using this
    · subst h; exact Int.le_refl _
  obtain ⟨h1, h2⟩ := compact_step hs (l.mergeSort leB).length (Nat.le_refl _)
  refine ⟨h1, fun x => ?_⟩
  show x ∈ Lib.compactUpTo _ _ ↔ _
  rw [h2, ← (List.mergeSort_perm l leB).mem_iff, List.mem_iff_getElem]
  constructor
  · rintro ⟨j, hj, e⟩
    exact ⟨j, hj, by rw [← e, getElem!_pos _ j (by simpa using hj)]; rfl⟩
  · rintro ⟨j, hj, e⟩
    exact ⟨j, hj, by rw [getElem!_pos _ j (by simpa using hj)]; exact e⟩
theorem upL_eq {l l' : List Int} (h : Rise l) (hm : ∀ x, x ∈ l ↔ x ∈ l') : l = upL l' := rise_eq h (upL_spec l').1 fun x => by rw [hm, (upL_spec l').2]
end Go.Proofs.YtbcjhkhndahdhaaDoor

/-
  Plain mathematics of what comes next.
-/
namespace Go.Proofs.YtbcjhkhndahdhaaDoor
open Terms Tm

/-- what comes behind the first so many rules. -/
noncomputable def rawTo (vars : List Vr) (env : List Int) (rules : List Ru) (k : Nat) : List Int := (rules.take k).filterMap (ruleDo vars env)
theorem rawTo_some {vars : List Vr} {env : List Int} {rules : List Ru} {k : Nat} (hk : k < rules.length) {x : Int} (h : ruleDo vars env (rules.getD k ru0) = some x) : rawTo vars env rules (k + 1) = rawTo vars env rules k ++ [x] := by
  unfold rawTo
  rw [List.take_succ_eq_append_getElem hk, List.filterMap_append, show rules[k] = rules.getD k ru0 by simp [List.getD_eq_getElem?_getD, hk]]
  generalize rules.getD k ru0 = r at h
  simp [h]
theorem rawTo_none {vars : List Vr} {env : List Int} {rules : List Ru} {k : Nat} (hk : k < rules.length) (h : ruleDo vars env (rules.getD k ru0) = none) : rawTo vars env rules (k + 1) = rawTo vars env rules k := by
  unfold rawTo
  rw [List.take_succ_eq_append_getElem hk, List.filterMap_append, show rules[k] = rules.getD k ru0 by simp [List.getD_eq_getElem?_getD, hk]]
  generalize rules.getD k ru0 = r at h
  simp [h]
theorem rawTo_length (vars : List Vr) (env : List Int) (rules : List Ru) (k : Nat) : (rawTo vars env rules k).length ≤ k := by
  unfold rawTo
  exact Nat.le_trans (List.length_filterMap_le _ _) (by simp; omega)
/-- what comes behind all rules, or the state itself. -/
noncomputable def rawL (m : Mo) (code : Int) : List Int := if rawTo m.vars (valsL m.vars code) m.rules m.rules.length = [] then [code] else rawTo m.vars (valsL m.vars code) m.rules m.rules.length
/-- the next states. -/
noncomputable def nextL (m : Mo) (code : Int) : List Int := upL (rawL m code)
/-- what Next answers. -/
noncomputable def nxtL (m : Mo) (code : Int) : List Int := if wcode m code = 0 then nextL m code else []
theorem rawTo_mem {vars : List Vr} {env : List Int} {rules : List Ru} {k : Nat} (hk : k ≤ rules.length) (x : Int) : x ∈ rawTo vars env rules k ↔ ∃ j, j < k ∧ ruleDo vars env (rules.getD j ru0) = some x := by
  unfold rawTo
  rw [List.mem_filterMap]
  constructor
  · rintro ⟨r, hr, e⟩
    obtain ⟨j, hj, rfl⟩ := List.mem_iff_getElem.1 hr
    rw [List.length_take] at hj
    refine ⟨j, by omega, ?_⟩
    rw [List.getElem_take] at e
    rw [show rules.getD j ru0 = rules[j]'(by omega) by simp [List.getD_eq_getElem?_getD, show j < rules.length by omega]]
    exact e
  · rintro ⟨j, hj, e⟩
    refine ⟨rules.getD j ru0, ?_, e⟩
    rw [List.mem_iff_getElem]
    exact ⟨j, by rw [List.length_take]; omega, by rw [List.getElem_take]; simp [List.getD_eq_getElem?_getD, show j < rules.length by omega]⟩
/-- a state behind a rule is a state. -/
theorem ruleDo_state {vars : List Vr} {env : List Int} {r : Ru} {x : Int} (hv : VarsOk vars) (h : ruleDo vars env r = some x) : 0 ≤ x ∧ x < prodTo vars vars.length := by
  unfold ruleDo at h
  split at h
  · rename_i hc
    injection h with h
    subst h
    exact code_bounds hv (Nat.le_refl _) hc.2.2
  · cases h
theorem upL_length (l : List Int) : (upL l).length ≤ l.length := Nat.le_trans (Lib.compact_length_le _) (by simp)
theorem nxtL_length (m : Mo) (code : Int) : (nxtL m code).length ≤ 1 + m.rules.length := by
  unfold nxtL nextL
  split
  · refine Nat.le_trans (upL_length _) ?_
    unfold rawL
    split
    · simp
    · exact Nat.le_trans (rawTo_length _ _ _ _) (by omega)
  · simp
end Go.Proofs.YtbcjhkhndahdhaaDoor

/-
  The contracts of step.nextOf and step.Next.
-/
namespace Go.Proofs.YtbcjhkhndahdhaaDoor
open Go.ChangeShapes Go.WideShapes Go.ChangeAt Go.RowKit Go.Deep
open Terms Tm

/-- numbers in a row of one's own, in a slice that is not nil. -/
def OwnI (base : Nat) (w : World) (v : Value) (l : List Int) : Prop := w.ownsRow base 3 1 v l.length (ivals l) ∧ v ≠ .slice none 0 0
theorem OwnI.form {base : Nat} {w : World} {v : Value} {l : List Int} (h : OwnI base w v l) : ∃ g cap, v = .slice (some ⟨g, 0, none⟩) l.length cap ∧ base ≤ g ∧ g < w.heap.size := by
  rcases h.1.2 with ⟨e0, _⟩ | ⟨g, cap, cur, rfl, hb, hg, _⟩
  · exact absurd e0 h.2
  · exact ⟨g, cap, rfl, hb, (Array.getElem?_eq_some_iff.1 hg).1⟩

set_option maxHeartbeats 3200000 in
set_option maxRecDepth 20000 in
/-- THE CONTRACT OF nextOf. -/
theorem nextOf_own (va vr : Value) (m : Mo) (code : Int) (w : World) (hB : 0 < w.heap.size) (hT : TabAt w) (hV : ModelV w va vr m) (hm : mcode m = 0) :
    Calls Tryd.prog 9 #[.agg #[va, vr], .int .i64 code] w fun e w' => ∃ v, e = .returned (.tuple #[v, .int .i64 (wcode m code)]) ∧ Below w.heap.size w w' ∧ IntsV w' v (nxtL m code) ∧ w'.ownsRow w.heap.size 3 1 v (nxtL m code).length (ivals (nxtL m code)) := by
  have hA : ∀ o, Below w.heap.size w (w.alloc o) := fun o => (Below.refl _ _).alloc (Nat.le_refl _) o
  have hVb : ∀ w', Below w.heap.size w w' → ∀ ao cap, va = .slice ao m.vars.length cap → ModelV w' (.slice ao m.vars.length cap) (.slice none 0 0) ⟨m.vars, []⟩ := fun w' hb ao cap e => ⟨e ▸ hV.1.below hb, ⟨none, 0, rfl, ⟨by simp, fun _ => ⟨rfl, rfl⟩⟩, fun h => by simp at h⟩⟩
  obtain ⟨ao, cap, rfl⟩ := hV.1.shape
  obtain ⟨ro, rc, hro⟩ := hV.2.shape
  have hba := fun w => bare_any ao ro m.vars.length cap m.rules.length rc w
  by_cases hw : wcode m code = 0
  · have hvl : ∀ w', Below w.heap.size w w' → Calls Tryd.prog 17 #[.agg #[.slice ao m.vars.length cap, .slice none 0 0], .int .i64 code] w' fun e w2 => ∃ B, e = .returned (.tuple #[.slice (some ⟨B, 0, none⟩) (valsL m.vars code).length (valsL m.vars code).length, .int .i64 0]) ∧ w'.heap.size ≤ B ∧ Below w'.heap.size w' w2 ∧ w2.rowIs B 3 (valsL m.vars code).length (fun j => .int .i64 ((valsL m.vars code).getD j 0)) := fun w' hb =>
      svalues_any _ _ ⟨m.vars, []⟩ code w' (Nat.lt_of_lt_of_le hB hb.size) (hT.below hb hB) (hVb w' hb ao cap rfl) (by rw [wcode_bare _ hm]; exact hw)
    obtain ⟨hr12, hrs⟩ := mcode_rules hm
    have HDo : Hid (∀ w' (_ : Below w.heap.size w w') B k gv sv, k < m.rules.length → w'.rowIs B 3 (valsL m.vars code).length (fun j => .int .i64 ((valsL m.vars code).getD j 0)) → OpsV w' gv (m.rules.getD k ru0).guard → SetsV w' sv (m.rules.getD k ru0).sets → Calls Tryd.prog 19 #[.agg #[.slice ao m.vars.length cap, vr], .slice (some ⟨B, 0, none⟩) (valsL m.vars code).length (valsL m.vars code).length, .agg #[gv, sv]] w' fun e w2 => e = .returned (.tuple #[.int .i64 (optN (ruleDo m.vars (valsL m.vars code) (m.rules.getD k ru0))), .int .i64 (optC (ruleDo m.vars (valsL m.vars code) (m.rules.getD k ru0)))]) ∧ Below w'.heap.size w' w2) := fun w' hb B k gv sv hk hrow hg hs =>
      doRule_any _ vr gv sv B m (valsL m.vars code) (m.rules.getD k ru0) w' (Nat.lt_of_lt_of_le hB hb.size) (hT.below hb hB) (hV.below hb) hm (hrs k hk) (valsL_length _ _) hrow hg hs
    have HR : Hid (RulesV w vr m.rules) := hV.2
    have HNL : Hid (nxtL m code = upL (if rawTo m.vars (valsL m.vars code) m.rules m.rules.length = [] then [code] else rawTo m.vars (valsL m.vars code) m.rules m.rules.length)) := by show _ = _; unfold nxtL nextL rawL; rw [if_pos hw]
    rw [hw]
    generalize nxtL m code = res at *
    generalize valsL m.vars code = env at *
    subst hro
    obtain ⟨rn, hrn⟩ : ∃ rn, rn = m.rules.length := ⟨_, rfl⟩
    have HRN : Hid (rn = m.rules.length) := hrn
    rw [← hrn] at hba HDo HR HNL hr12 ⊢
    obtain ⟨i0, hi, hz0, hz1, hz2⟩ := info_parts infoInt
    clear hV hT hVb hw hm hrs hrn
    generalize m.vars.length = n at *
    go_enter Tryd.func9, Tryd.ntmps9
    go_wp2_with (first | (go_at_call 18; refine (hba _).mono ?_; rintro e w1 ⟨rfl, hb1⟩; have hbw1 := (hA _).trans (hb1.mono (hA _).size); have k10 : w1.cell? ⟨w.heap.size, 0, none⟩ = some (.slice ao n cap) := (hb1.cell (p := ⟨w.heap.size, 0, none⟩) (by simp)).trans (by simp [go_sem]); have k11 : w1.cell? ⟨w.heap.size, 1, none⟩ = some (.slice ro rn rc) := (hb1.cell (p := ⟨w.heap.size, 1, none⟩) (by simp)).trans (by simp [go_sem]); have hs1 : w.heap.size < w1.heap.size := (by have := hb1.size; simp at this; omega)) | (go_at_call 17; refine (hvl _ hbw1).mono ?_; rintro e w2 ⟨B, rfl, hBl, hb2, hr2⟩; have k20 := (hb2.cell (p := ⟨w.heap.size, 0, none⟩) hs1).trans k10; have k21 := (hb2.cell (p := ⟨w.heap.size, 1, none⟩) hs1).trans k11; have hs2 := Nat.lt_of_lt_of_le hs1 hb2.size; have kA1 : ∀ o, (w2.alloc o).cell? ⟨w.heap.size, 1, none⟩ = some (.slice ro rn rc) := fun o => (((Below.refl w2.heap.size w2).alloc (Nat.le_refl _) o).cell (p := ⟨w.heap.size, 1, none⟩) hs2).trans k21))
    have hbw2 := hbw1.trans (hb2.mono hbw1.size)
    have hA2 : ∀ o, Below w2.heap.size w2 (w2.alloc o) := fun o => (Below.refl _ _).alloc (Nat.le_refl _) o
    have HRow : Hid (w2.rowIs B 3 env.length (fun j => .int .i64 (env.getD j 0))) := hr2
    have HB2 : Hid (Below w.heap.size w w2) := hbw2
    have HK2 : Hid (∀ w', Below w2.heap.size w2 w' → w'.cell? ⟨w.heap.size, 0, none⟩ = some (.slice ao n cap) ∧ w'.cell? ⟨w.heap.size, 1, none⟩ = some (.slice ro rn rc)) := fun w' hb => ⟨(hb.cell (p := ⟨w.heap.size, 0, none⟩) hs2).trans k20, (hb.cell (p := ⟨w.heap.size, 1, none⟩) hs2).trans k21⟩
    have HO0 : Hid (OwnI w2.heap.size (w2.alloc (.cells #[] 3)) (.slice (some ⟨w2.heap.size, 0, none⟩) 0 0) (rawTo m.vars env m.rules 0)) := ⟨World.ownsRow_lit w2 #[] 0 (Nat.le_refl _) (by decide) rfl, by simp⟩
    clear hvl hba hb1 hbw1 k10 k11 hs1 hb2 hr2 k20 k21 kA1 hbw2
    go_loopw [8, 27] (fun nx i wr => ∃ k : Nat, k ≤ rn ∧ i = .int .i64 k ∧ Hid (OwnI w2.heap.size wr nx (rawTo m.vars env m.rules k)) ∧ Hid (Below w2.heap.size w2 wr)) (fun _ i _ => rn - (intOf i).toNat)
    case atStart => exact ⟨0, Nat.zero_le _, rfl, HO0.out, hA2 _⟩
    case round =>
      obtain ⟨k, hk, rfl, HOwn, HBel⟩ := hrel
      have hbel := HBel.out
      have hbw := HB2.out.trans (hbel.mono HB2.out.size)
      obtain ⟨kr0, kr1⟩ := HK2.out wr hbel
      obtain ⟨g, gc, rfl, hg, hgl⟩ := HOwn.out.form
      have hown := HOwn.out.1
      by_cases hlt : k < rn
      · obtain ⟨b, off, rfl, hblt, hat⟩ := HR.out.at (i := k) (by rw [← HRN.out]; exact hlt)
        obtain ⟨⟨u, c0, hou⟩, u', c1, hsu⟩ := hat.below hbw hblt
        obtain ⟨uo, uc, rfl⟩ := hou.shape
        obtain ⟨so, sc, rfl⟩ := hsu.shape
        have hAr : ∀ o, Below wr.heap.size wr (wr.alloc o) := fun o => (Below.refl _ _).alloc (Nat.le_refl _) o
        have hkA0 : ∀ o, (wr.alloc o).cell? ⟨w.heap.size, 0, none⟩ = some (.slice ao n cap) := fun o => (HK2.out _ (hbel.trans ((hAr o).mono hbel.size))).1
        have hkA1 : ∀ o, (wr.alloc o).cell? ⟨w.heap.size, 1, none⟩ = some (.slice (some ⟨b, off, none⟩) rn rc) := fun o => (HK2.out _ (hbel.trans ((hAr o).mono hbel.size))).2
        have hdo := fun o => HDo.out (wr.alloc o) (hbw.trans ((hAr o).mono hbw.size)) B k _ _ hlt (row_later (row_later HRow.out hbel) (hAr o)) (hou.below (hAr o)) (hsu.below (hAr o))
        have HRl : Hid ((rawTo m.vars env m.rules k).length ≤ k) := rawTo_length _ _ _ _
        have hk' : k < m.rules.length := by rw [← HRN.out]; exact hlt
        generalize (m.rules.getD k ru0).guard.length = gl at *
        generalize (m.rules.getD k ru0).sets.length = sl at *
        obtain ⟨L, hL⟩ : ∃ L, L = (rawTo m.vars env m.rules k).length := ⟨_, rfl⟩
        have HL : Hid (L = (rawTo m.vars env m.rules k).length) := hL
        rw [← hL] at hown HRl ⊢
        cases hres : ruleDo m.vars env (m.rules.getD k ru0) with
        | none =>
          rw [hres] at hdo
          simp only [optN, optC] at hdo
          have HN : Hid (rawTo m.vars env m.rules (k + 1) = rawTo m.vars env m.rules k) := rawTo_none hk' hres
          have HW4 : Hid (∀ o w4, Below (wr.alloc o).heap.size (wr.alloc o) w4 → Below w2.heap.size w2 w4 ∧ OwnI w2.heap.size w4 (.slice (some ⟨g, 0, none⟩) L gc) (rawTo m.vars env m.rules k)) := fun o w4 hb => ⟨(hbel.alloc hbel.size o).trans (hb.mono (hbel.alloc hbel.size o).size), by
            refine ⟨?_, by simp⟩
            rw [← HL.out]
            exact owns_later (owns_later hown (hAr o) (Nat.le_refl _)) hb (Nat.le_refl _)⟩
          clear hat hou hsu HDo HR hres hk' hown hL
          go_wp2_with (go_at_call 19; refine (hdo _).mono ?_; rintro e w4 ⟨rfl, hb4⟩; obtain ⟨hb24, ho4⟩ := HW4.out _ w4 hb4)
          exact ⟨⟨k + 1, hlt, by first | rfl | simp, by rw [HN.out]; exact ho4, hb24⟩, by simp [intOf]; omega⟩
        | some x =>
          rw [hres] at hdo
          simp only [optN, optC] at hdo
          have HN : Hid (rawTo m.vars env m.rules (k + 1) = rawTo m.vars env m.rules k ++ [x]) := rawTo_some hk' hres
          have h63 : L + 1 ≤ maxLen := by have := HRl.out; unfold maxLen; omega
          have hkb : (L + 1) * 8 ≤ 140737488355328 := by have := HRl.out; omega
          clear hat hou hsu HDo HR hres hk' hL
          go_wp2_with (first | (go_at_call 19; refine (hdo _).mono ?_; rintro e w4 ⟨rfl, hb4⟩; have hb24 := (hbel.alloc hbel.size _).trans (hb4.mono (hbel.alloc hbel.size _).size); have hown4 := fun o => (owns_later (owns_later hown (hAr _) (Nat.le_refl _)) hb4 (Nat.le_refl _)).alloc o; have hbase : ∀ o, w2.heap.size ≤ (w4.alloc o).heap.size := (fun o => by have := hb24.size; simp; omega)) | (at_builtin; refine wpList_append_lies _ rfl (.tmp 40) (.tmp 42) 26 rfl w2.heap.size 3 i0 (.int .i64 0) 1 8 Tryd.underlying26 hi hz0 hz1 hz2 rfl (by decide) (.slice (some ⟨g, 0, none⟩) L gc) L _ rfl (hown4 _) ⟨w4.heap.size, 0, none⟩ 1 1 [.int .i64 x] rfl rfl (cell_one_new _ _ _) (by intro u hu; simp at hu; subst hu; rfl) (by decide) h63 hkb (hbase _) _ rfl ?_; intro g5 cp5 w5 hown5 hgrow5 hat5 hgl5))
          have hb25 : Below w2.heap.size w2 w5 := (hb24.alloc hb24.size _).grown hgrow5 (hbase _) (fun z hz => by have hgz : g = z := (by simpa [Value.ownBlock] using hz); rw [← hgz]; exact hg)
          have ho5 : OwnI w2.heap.size w5 (.slice (some ⟨g5, 0, none⟩) (L + 1) cp5) (rawTo m.vars env m.rules (k + 1)) := by
            refine ⟨?_, by simp⟩
            rw [HN.out, List.length_append, ← HL.out]
            rw [show ivals (rawTo m.vars env m.rules k ++ [x]) = ivals (rawTo m.vars env m.rules k) ++ [.int .i64 x] by simp [ivals]]
            exact hown5
          exact ⟨⟨k + 1, hlt, by first | rfl | simp, ho5, hb25⟩, by simp [intOf]; omega⟩
      · have hkn : k = rn := by omega
        subst hkn
        have HRl : Hid ((rawTo m.vars env m.rules k).length ≤ k) := rawTo_length _ _ _ _
        generalize rawTo m.vars env m.rules k = raw at *
        clear HDo HR HOwn kr0 kr1 hlt hk
        by_cases hraw : raw = []
        · have HRes : Hid (res = upL [code]) := by show _ = _; rw [HNL.out, if_pos hraw]
          subst hraw
          have hown0 : wr.ownsRow w2.heap.size 3 1 (.slice (some ⟨g, 0, none⟩) 0 gc) 0 [] := hown
          have hown4 := fun o => hown0.alloc o
          have hbase : ∀ o, w2.heap.size ≤ (wr.alloc o).heap.size := fun o => by have := hbel.size; simp; omega
          have hAr : ∀ o, Below wr.heap.size wr (wr.alloc o) := fun o => (Below.refl _ _).alloc (Nat.le_refl _) o
          clear hown HNL HRl
          simp only [List.length_nil]
          have hso := fun (w5 : World) g5 cp5 (ho : w5.ownsRow w2.heap.size 3 1 (.slice (some ⟨g5, 0, none⟩) 1 cp5) 1 (ivals [code])) => sort_own g5 cp5 w2.heap.size [code] w5 (by simp) ho
          have hms : [code].mergeSort leB = [code] := List.mergeSort_singleton _
          have HUp : Hid (Lib.compact [code] = upL [code]) := by show _ = Lib.compact _; rw [hms]
          rw [hms] at hso
          simp only [List.length_cons, List.length_nil, Nat.zero_add] at hso
          have hco := fun (w5 : World) g5 cp5 (ho : w5.ownsRow w2.heap.size 3 1 (.slice (some ⟨g5, 0, none⟩) 1 cp5) 1 (ivals [code])) => compact_own g5 cp5 w2.heap.size [code] w5 (by simp) ho
          simp only [List.length_cons, List.length_nil, Nat.zero_add] at hco
          rw [HUp.out] at hco
          go_wp2_with (first | (at_builtin; refine wpList_append_lies _ rfl (.tmp 48) (.tmp 50) 26 rfl w2.heap.size 3 i0 (.int .i64 0) 1 8 Tryd.underlying26 hi hz0 hz1 hz2 rfl (by decide) (.slice (some ⟨g, 0, none⟩) 0 gc) 0 _ rfl (hown4 _) ⟨wr.heap.size, 0, none⟩ 1 1 [.int .i64 code] rfl rfl (cell_one_new _ _ _) (by intro u hu; simp at hu; subst hu; rfl) (by decide) (by decide) (by decide) (hbase _) _ rfl ?_; intro g5 cp5 w5 hown5 hgrow5 hat5 hgl5; have hg5 : w2.heap.size ≤ g5 := (by rcases hat5 with h5 | h5; (have hgz : g = g5 := (by simpa [Value.ownBlock] using h5)); (rw [← hgz]; exact hg); (rw [h5]; exact hbase _))) | (go_at_call 10; refine (hso _ _ _ hown5).mono ?_; rintro e w6 ⟨rfl, hgr6, ho6⟩) | (go_at_call 20; refine (hco _ _ _ ho6).mono ?_; rintro e w7 ⟨rfl, hgr7, ho7⟩))
          have hb5 : Below w2.heap.size w2 w5 := (hbel.alloc hbel.size _).grown hgrow5 (hbase _) (fun z hz => by have hgz : g = z := (by simpa [Value.ownBlock] using hz); rw [← hgz]; exact hg)
          have hb7 : Below w2.heap.size w2 w7 := (hb5.grown hgr6 hb5.size (fun z hz => by rw [← Option.some.inj hz]; exact hg5)).grown hgr7 (Nat.le_trans hb5.size hgr6.size) (fun z hz => by rw [← Option.some.inj hz]; exact hg5)
          have hI7 : IntsV w7 (.slice (some ⟨g5, 0, none⟩) (upL [code]).length cp5) (upL [code]) := intsV_of_owns ho7
          go_ret2
          exact ⟨_, rfl, HB2.out.trans (hb7.mono HB2.out.size), by rw [HRes.out]; exact ⟨hI7, owns_mono ho7 HB2.out.size⟩⟩
        · have HRes : Hid (res = upL raw) := by show _ = _; rw [HNL.out, if_neg hraw]
          have hpos : 0 < raw.length := List.length_pos_iff.2 hraw
          have hso := sort_own g gc w2.heap.size raw wr (by have := HRl.out; omega) hown
          obtain ⟨L, hL⟩ : ∃ L, L = raw.length := ⟨_, rfl⟩
          have HL : Hid (L = raw.length) := hL
          have HLs : Hid ((raw.mergeSort leB).length = L) := by show _ = _; rw [List.length_mergeSort, hL]
          have hL12 : L ≤ 12 := by have := HRl.out; omega
          rw [← hL] at hso hpos ⊢
          clear hown HNL HRl hraw hL
          have HCo : Hid (∀ w5 : World, w5.ownsRow w2.heap.size 3 1 (.slice (some ⟨g, 0, none⟩) L gc) L (ivals (raw.mergeSort leB)) → Calls Tryd.prog 20 #[.slice (some ⟨g, 0, none⟩) L gc] w5 fun e w' => e = .returned (.slice (some ⟨g, 0, none⟩) (upL raw).length gc) ∧ w5.grownBy w' (some g) ∧ w'.ownsRow w2.heap.size 3 1 (.slice (some ⟨g, 0, none⟩) (upL raw).length gc) (upL raw).length (ivals (upL raw))) := fun w5 ho => by
            rw [← HLs.out] at ho ⊢
            exact compact_own g gc w2.heap.size (raw.mergeSort leB) w5 (by rw [HLs.out]; omega) ho
          go_wp2_with (first | (go_at_call 10; refine hso.mono ?_; rintro e w6 ⟨rfl, hgr6, ho6⟩; have hco := HCo.out w6 ho6) | (go_at_call 20; refine hco.mono ?_; rintro e w7 ⟨rfl, hgr7, ho7⟩))
          have hb7 : Below w2.heap.size w2 w7 := (hbel.grown hgr6 hbel.size (fun z hz => by rw [← Option.some.inj hz]; exact hg)).grown hgr7 (Nat.le_trans hbel.size hgr6.size) (fun z hz => by rw [← Option.some.inj hz]; exact hg)
          have hI7 : IntsV w7 (.slice (some ⟨g, 0, none⟩) (upL raw).length gc) (upL raw) := intsV_of_owns ho7
          go_ret2
          exact ⟨_, rfl, HB2.out.trans (hb7.mono HB2.out.size), by rw [HRes.out]; exact ⟨hI7, owns_mono ho7 HB2.out.size⟩⟩
  · have hvl := fun w' (hb : Below w.heap.size w w') => mvalues_any _ _ ⟨m.vars, []⟩ code w' (Nat.lt_of_lt_of_le hB hb.size) (hT.below hb hB) (hVb w' hb ao cap rfl)
    rw [wcode_bare _ hm] at hvl
    have hnl : nxtL m code = [] := by unfold nxtL; rw [if_neg hw]
    rw [hnl]
    subst hro
    generalize wcode m code = c at *
    generalize wvals ⟨m.vars, []⟩ code = vs at *
    generalize m.vars.length = n at *
    generalize m.rules.length = rn at *
    clear hV hT hVb hnl hm
    go_enter Tryd.func9, Tryd.ntmps9
    go_wp2_with (first | (go_at_call 18; refine (hba _).mono ?_; rintro e w2 ⟨rfl, hb2⟩; have hbw2 := (hA _).trans (hb2.mono (hA _).size)) | (go_at_call 17; refine (hvl _ hbw2).mono ?_; rintro e w3 ⟨v, rfl, hb3, _⟩))
    go_ret2
    exact ⟨_, rfl, hbw2.trans (hb3.mono hbw2.size), ⟨none, 0, rfl, fun h => absurd rfl h⟩, World.ownsRow_nil _ _ _ _⟩

theorem nextOf_any (va vr : Value) (m : Mo) (code : Int) (w : World) (hB : 0 < w.heap.size) (hT : TabAt w) (hV : ModelV w va vr m) (hm : mcode m = 0) :
    Calls Tryd.prog 9 #[.agg #[va, vr], .int .i64 code] w fun e w' => ∃ v, e = .returned (.tuple #[v, .int .i64 (wcode m code)]) ∧ Below w.heap.size w w' ∧ IntsV w' v (nxtL m code) :=
  (nextOf_own va vr m code w hB hT hV hm).mono fun _ _ ⟨v, h1, h2, h3, _⟩ => ⟨v, h1, h2, h3⟩

end Go.Proofs.YtbcjhkhndahdhaaDoor

/-
  Plain mathematics of what is reached.
-/
namespace Go.Proofs.YtbcjhkhndahdhaaDoor
open Terms Tm

/-- reached from the first state on. -/
inductive RSt (nx : Int → List Int) (first : Int) : Int → Prop where
  | first : RSt nx first first
  | next {x y : Int} : RSt nx first x → y ∈ nx x → RSt nx first y
open Classical in
/-- the states that are reached, rising. -/
noncomputable def reachN (nx : Int → List Int) (first : Int) (N : Nat) : List Int := ((List.range N).filter (fun j : Nat => decide (RSt nx first (j : Int)))).map (fun j : Nat => (j : Int))
theorem reachN_rise (nx : Int → List Int) (first : Int) (N : Nat) : Rise (reachN nx first N) := by
  unfold reachN Rise
  rw [List.pairwise_map]
  refine List.Pairwise.imp (fun {a b} h => ?_) (List.Pairwise.filter _ List.pairwise_lt_range)
  omega
theorem reachN_mem (nx : Int → List Int) (first : Int) (N : Nat) (x : Int) : x ∈ reachN nx first N ↔ (0 ≤ x ∧ x < N) ∧ RSt nx first x := by
  unfold reachN
  simp only [List.mem_map, List.mem_filter, List.mem_range, decide_eq_true_eq]
  constructor
  · rintro ⟨j, ⟨h1, h2⟩, rfl⟩; exact ⟨⟨by omega, by omega⟩, h2⟩
  · rintro ⟨⟨h0, h1⟩, h2⟩; exact ⟨x.toNat, ⟨by omega, by rw [Int.toNat_of_nonneg h0]; exact h2⟩, by omega⟩
/-- states that are reached are states. -/
theorem RSt.in {nx : Int → List Int} {first : Int} {N : Nat} (hf : 0 ≤ first ∧ first < N) (hn : ∀ x y : Int, 0 ≤ x ∧ x < N → y ∈ nx x → 0 ≤ y ∧ y < N) {x : Int} (h : RSt nx first x) : 0 ≤ x ∧ x < N := by
  induction h with
  | first => exact hf
  | next _ hy ih => exact hn _ _ ih hy
/-- a list without a number twice, sorted, rises. -/
theorem sorted_rise {l : List Int} (h : l.Nodup) : Rise (l.mergeSort leB) := by
  have hp : (l.mergeSort leB).Pairwise (fun x y => leB x y = true) := List.pairwise_mergeSort (le := leB) (by intro a b c; simp only [leB, decide_eq_true_eq]; omega) (by intro a b; simp only [leB, Bool.or_eq_true, decide_eq_true_eq]; omega) l
  have hn : (l.mergeSort leB).Nodup := (List.mergeSort_perm l leB).nodup_iff.2 h
  refine (hp.and hn).imp fun {a b} hab => ?_
  have h1 : a ≤ b := by simpa [leB] using hab.1
  have h2 : a ≠ b := hab.2
  omega
/-- what goes through a list that is closed is all that is reached. -/
theorem closed_reach {nx : Int → List Int} {first : Int} {l : List Int} (hf : first ∈ l) (hr : ∀ x ∈ l, RSt nx first x) (hc : ∀ x ∈ l, ∀ y ∈ nx x, y ∈ l) (x : Int) : x ∈ l ↔ RSt nx first x := by
  refine ⟨hr x, fun h => ?_⟩
  induction h with
  | first => exact hf
  | next _ hy ih => exact hc _ ih _ hy
theorem rise_length : ∀ {l : List Int} {lo N : Int}, Rise l → (∀ x ∈ l, lo ≤ x ∧ x < N) → lo ≤ N → (l.length : Int) ≤ N - lo
  | [], lo, N, _, _, h => by simp; omega
  | x :: l, lo, N, h1, h2, _ => by
    obtain ⟨hx, t⟩ := List.pairwise_cons.1 h1
    have h3 := h2 x (by simp)
    have := rise_length (lo := x + 1) (N := N) t (fun y hy => ⟨by have := hx y hy; omega, (h2 y (by simp [hy])).2⟩) (by omega)
    simp only [List.length_cons]
    omega
/-- how long a list of states may be. -/
theorem nodup_length {l : List Int} {N : Nat} (h : l.Nodup) (hi : ∀ x ∈ l, 0 ≤ x ∧ x < N) : l.length ≤ N := by
  have h1 := rise_length (lo := 0) (N := N) (sorted_rise h) (fun x hx => hi x ((List.mergeSort_perm l leB).mem_iff.1 hx)) (by omega)
  rw [List.length_mergeSort] at h1
  omega
end Go.Proofs.YtbcjhkhndahdhaaDoor

/-
  The contract of the program's First.
-/
namespace Go.Proofs.YtbcjhkhndahdhaaDoor
open Go.ChangeShapes Go.WideShapes Go.ChangeAt Go.RowKit Go.Deep
open Terms Tm

set_option maxRecDepth 20000 in
theorem initsL_length (l : List Vr) : (initsL l).length = l.length := by simp [initsL]
set_option maxRecDepth 20000 in
theorem initsL_get {l : List Vr} {i : Nat} (h : i < l.length) : (initsL l).getD i 0 = (l.getD i vr0).ini := by
  simp [initsL, List.getD_eq_getElem?_getD, h]

set_option maxRecDepth 20000 in
set_option maxHeartbeats 1600000 in
theorem mfirst_loop (va vr : Value) (m : Mo) (w : World) (hB : 0 < w.heap.size) (hT : TabAt w) (hV : ModelV w va vr m) (h : mcode m = 0) :
    Calls Tryd.prog 8 #[.agg #[va, vr]] w fun e w' => e = .returned (.tuple #[.int .i64 (codeTo m.vars (initsL m.vars) m.vars.length), .int .i64 0]) ∧ Below w.heap.size w w' := by
  have hA : ∀ o, Below w.heap.size w (w.alloc o) := fun o => (Below.refl _ _).alloc (Nat.le_refl _) o
  have hch := fun o => mcheck_any va vr m (w.alloc o) (Nat.lt_of_lt_of_le hB (hA o).size) (hT.below (hA o) hB) (hV.below (hA o))
  rw [h] at hch
  have hok := mcode_vars h
  have h6 := hok.1
  have hcf := (fun vv w1 (hb : Below w.heap.size w w1) (hI : IntsV w1 vv (initsL m.vars)) => codeOf_any va vv m.vars (initsL m.vars) w1 hok (initsL_length _) (inits_in hok) (hV.1.below hb) hI)
  obtain ⟨ao, cap, rfl⟩ := hV.1.shape
  obtain ⟨ro, rc, rfl⟩ := hV.2.shape
  have HCF := (show Hid _ from hcf)
  have HV : Hid (VarsV w (.slice ao m.vars.length cap) m.vars) := hV.1
  have HIn : Hid (∀ i, i < m.vars.length → (initsL m.vars).getD i 0 = (m.vars.getD i vr0).ini) := fun i hi => initsL_get hi
  have HLn : Hid ((initsL m.vars).length = m.vars.length) := initsL_length _
  generalize codeTo m.vars (initsL m.vars) m.vars.length = res at *
  obtain ⟨n, hn⟩ : ∃ n, n = m.vars.length := ⟨_, rfl⟩
  have HN : Hid (n = m.vars.length) := hn
  rw [← hn] at h6 hch HCF HV HIn HLn ⊢
  generalize m.rules.length = rn at *
  have hmk := run_make_row' (P := Tryd.prog) 26 3 (.int .i64 0) 8 Tryd.underlying26 infoInt rfl .i64 .i64 n (by omega) (by omega)
  clear hV hT hn hok h hcf
  go_enter Tryd.func8, Tryd.ntmps8
  go_wp2_with (go_at_call 15; refine (hch _).mono ?_; rintro e w1 ⟨rfl, hb1⟩; have hcb : w1.cell? ⟨w.heap.size, 0, none⟩ = some (.slice ao n cap) := (hb1.cell (p := ⟨w.heap.size, 0, none⟩) (by simp)).trans (by simp [go_sem]); have hs1 : w.heap.size < w1.heap.size := (by have := hb1.size; simp at this; omega); have hcbA : ∀ o, (w1.alloc o).cell? ⟨w.heap.size, 0, none⟩ = some (.slice ao n cap) := (fun o => (((Below.refl w1.heap.size w1).alloc (Nat.le_refl _) o).cell (p := ⟨w.heap.size, 0, none⟩) hs1).trans hcb))
  have hbw := (hA _).trans (hb1.mono (hA _).size)
  have hrow0 := World.rowIs_made w1 (.int .i64 0) n 3
  have HB1 : Hid (Below w.heap.size w w1) := hbw
  clear hch hmk hb1 hbw hcbA
  go_loopw [20] (fun i wr => ∃ k : Nat, k ≤ n ∧ i = .int .i64 k ∧ Hid (wr.rowIs w1.heap.size 3 n (fun j => if j < k then .int .i64 ((initsL m.vars).getD j 0) else .int .i64 0)) ∧ Hid (Below w1.heap.size w1 wr)) (fun i _ => n - (intOf i).toNat)
  case atStart => exact ⟨0, Nat.zero_le _, rfl, hrow0.congr (fun i hi => by rw [if_neg (by omega)]), (Below.refl _ _).alloc (Nat.le_refl _) _⟩
  case round =>
    obtain ⟨k, hk, rfl, HRow, HBel⟩ := hrel
    have hbel := HBel.out
    have hrow := HRow.out
    have hbw := HB1.out.trans (hbel.mono HB1.out.size)
    have hszr := hrow.lt
    have cb := (hbel.cell (p := ⟨w.heap.size, 0, none⟩) hs1).trans hcb
    by_cases hlt : k < n
    · obtain ⟨b, off, rfl, hblt, hat⟩ := HV.out.at (i := k) (by rw [← HN.out]; exact hlt)
      obtain ⟨c0, c1, c2, c3⟩ := hat.below hbw hblt
      have HIk := (show Hid _ from HIn.out k hlt)
      have hA2 := fun o => hrow.alloc o
      have hf : ∀ o, (wr.alloc o).frozen? ⟨w1.heap.size, k, none⟩ = false := fun o => (hA2 o).frozen k
      have hcl : ∀ o, (wr.alloc o).cell? ⟨w1.heap.size, k, none⟩ = some (.int .i64 0) := fun o => by rw [(hA2 o).cell hlt, if_neg (by omega)]
      generalize m.vars.getD k vr0 = x at *
      obtain ⟨s, lo, hi, ini⟩ := x
      simp only at c0 c1 c2 c3 HIk
      have hfin : (((wr.setCell ⟨w1.heap.size, k, none⟩ (.int .i64 ini)).alloc (.cells #[.string s, .int .i64 lo, .int .i64 hi, .int .i64 ini] 48)).rowIs w1.heap.size 3 n (fun j => if j < k + 1 then .int .i64 ((initsL m.vars).getD j 0) else .int .i64 0)) := ((hrow.set k (.int .i64 ini)).alloc _).congr fun j hj => by
        by_cases hjk : j = k
        · subst hjk; rw [if_pos rfl, if_pos (by omega), HIk.out]
        · rw [if_neg hjk]
          by_cases hlk : j < k
          · rw [if_pos hlk, if_pos (by omega)]
          · rw [if_neg hlk, if_neg (by omega)]
      have hbA := (hbel.setCell (p := ⟨w1.heap.size, k, none⟩) (Nat.le_refl _) (.int .i64 ini)).alloc (by simp; omega) (.cells #[.string s, .int .i64 lo, .int .i64 hi, .int .i64 ini] 48)
      have HF := (show Hid _ from hfin)
      have HBA := (show Hid _ from hbA)
      have hfs := hf (.cells #[.string s, .int .i64 lo, .int .i64 hi, .int .i64 ini] 48)
      have hcs := hcl (.cells #[.string s, .int .i64 lo, .int .i64 hi, .int .i64 ini] 48)
      clear hat hA2 hf hcl hfin hbA hrow hbel hrow0
      go_wp2_with fail
      go_roundw
      case rel => exact ⟨k + 1, hlt, by go_num, HF.out, HBA.out⟩
      case measure => simp [intOf]; omega
    · have hkn : k = n := by omega
      subst hkn
      have hI : IntsV wr (.slice (some ⟨w1.heap.size, 0, none⟩) k k) (initsL m.vars) := by
        have := intsV_of_row (hrow.congr (g := fun j => .int .i64 ((initsL m.vars).getD j 0)) (fun i hi => by rw [if_pos hi]))
        have e : (List.range k).map (fun j => (initsL m.vars).getD j 0) = initsL m.vars := by
          apply List.ext_getElem?
          intro i
          by_cases hi : i < k
          · simp [hi, List.getD_eq_getElem?_getD, show i < (initsL m.vars).length by rw [HLn.out]; exact hi]
          · simp [hi, show ¬ i < (initsL m.vars).length by rw [HLn.out]; exact hi]
        rwa [e] at this
      have hcf := HCF.out _ wr hbw hI
      clear hI hrow HCF HRow hrow0
      go_wp2_with (go_at_call 16; refine hcf.mono ?_; rintro e w2 ⟨rfl, hb2⟩)
      go_ret2
      exact ⟨rfl, hbw.trans (hb2.mono hbw.size)⟩

set_option maxRecDepth 20000 in
theorem mfirst_bad (va vr : Value) (m : Mo) (w : World) (hB : 0 < w.heap.size) (hT : TabAt w) (hV : ModelV w va vr m) (h : mcode m ≠ 0) :
    Calls Tryd.prog 8 #[.agg #[va, vr]] w fun e w' => e = .returned (.tuple #[.int .i64 0, .int .i64 (mcode m)]) ∧ Below w.heap.size w w' := by
  have hA : ∀ o, Below w.heap.size w (w.alloc o) := fun o => (Below.refl _ _).alloc (Nat.le_refl _) o
  have hch := fun o => mcheck_any va vr m (w.alloc o) (Nat.lt_of_lt_of_le hB (hA o).size) (hT.below (hA o) hB) (hV.below (hA o))
  obtain ⟨ao, cap, rfl⟩ := hV.1.shape
  obtain ⟨ro, rc, rfl⟩ := hV.2.shape
  generalize mcode m = x at *
  generalize m.vars.length = n at *
  generalize m.rules.length = rn at *
  clear hV hT
  go_enter Tryd.func8, Tryd.ntmps8
  go_wp2_with (go_at_call 15; refine (hch _).mono ?_; rintro e w1 ⟨rfl, hb1⟩)
  go_ret2
  exact ⟨rfl, (hA _).trans (hb1.mono (hA _).size)⟩
set_option maxRecDepth 20000 in
/-- THE CONTRACT OF First. -/
theorem mfirst_any (va vr : Value) (m : Mo) (w : World) (hB : 0 < w.heap.size) (hT : TabAt w) (hV : ModelV w va vr m) :
    Calls Tryd.prog 8 #[.agg #[va, vr]] w fun e w' => e = .returned (.tuple #[.int .i64 (if mcode m = 0 then codeTo m.vars (initsL m.vars) m.vars.length else 0), .int .i64 (mcode m)]) ∧ Below w.heap.size w w' := by
  by_cases h : mcode m = 0
  · rw [if_pos h, h]
    exact mfirst_loop va vr m w hB hT hV h
  · rw [if_neg h]
    exact mfirst_bad va vr m w hB hT hV h
end Go.Proofs.YtbcjhkhndahdhaaDoor

/-
  The contract of step.Reach.
-/
namespace Go.Proofs.YtbcjhkhndahdhaaDoor
open Go.ChangeShapes Go.WideShapes Go.ChangeAt Go.RowKit Go.Deep Go.Maps
open Terms Tm

/-- the first state's code. -/
def firstC (m : Mo) : Int := codeTo m.vars (initsL m.vars) m.vars.length
set_option maxRecDepth 20000 in
theorem firstC_in {m : Mo} (h : mcode m = 0) : 0 ≤ firstC m ∧ firstC m < prodTo m.vars m.vars.length := code_bounds (mcode_vars h) (Nat.le_refl _) (fun i hi => inits_in (mcode_vars h) i hi)
/-- the states that are reached. -/
noncomputable def reachL (m : Mo) : List Int := if mcode m = 0 then reachN (nextL m) (firstC m) (prodTo m.vars m.vars.length).toNat else []
set_option maxRecDepth 20000 in
theorem nextL_in {m : Mo} (hm : mcode m = 0) {x : Int} (hx : 0 ≤ x ∧ x < prodTo m.vars m.vars.length) {y : Int} (hy : y ∈ nextL m x) : 0 ≤ y ∧ y < prodTo m.vars m.vars.length := by
  have h1 := ((upL_spec _).2 y).1 hy
  unfold rawL at h1
  split at h1
  · simp at h1; subst h1; exact hx
  · obtain ⟨j, _, e⟩ := (rawTo_mem (Nat.le_refl _) y).1 h1
    exact ruleDo_state (mcode_vars hm) e
/-- the states that were met, by their codes. -/
def MetIs (w : World) (b : Nat) (l : List Int) : Prop := ∃ D : DataW Unit, w.ownsMap Tryd.prog 3 (plainElem Tryd.prog 3) b l.length D ∧ ∀ x : Int, 0 ≤ x ∧ x ≤ 5000 → Maps.has D (.int .i64 x) = decide (x ∈ l)
set_option maxRecDepth 20000 in
theorem keyS (x : Int) (h : 0 ≤ x ∧ x ≤ 5000) : keyOf Tryd.prog 3 (.int .i64 x) = some (.int .i64 x) := keyOf_int_mk Tryd.underlying3 (WalkArith.wf_i64 (by omega))
set_option maxRecDepth 20000 in
theorem MetIs.put {w w' : World} {b : Nat} {l : List Int} {D : DataW Unit} {x : Int} {d : DataW Unit} (hD : w.ownsMap Tryd.prog 3 (plainElem Tryd.prog 3) b l.length D) (h : ∀ y : Int, 0 ≤ y ∧ y ≤ 5000 → Maps.has D (.int .i64 y) = decide (y ∈ l)) (h' : w'.ownsMap Tryd.prog 3 (plainElem Tryd.prog 3) b (l.length + 1) (D.put (.int .i64 x) d)) : MetIs w' b (l ++ [x]) := by
  refine ⟨_, by simpa using h', fun y hy => ?_⟩
  by_cases hyx : y = x
  · subst hyx
    rw [has_put_same hD.isMap (by simp [WideAt.IsKeyLit])]
    simp
  · rw [has_put_other (by simpa using hyx), h y hy]
    simp [hyx]

set_option maxRecDepth 20000 in
theorem MetIs.below {w w' : World} {b : Nat} {l : List Int} (h : MetIs w b l) (hb : Below w.heap.size w w') : MetIs w' b l := by
  obtain ⟨D, h1, h2⟩ := h
  exact ⟨D, h1.kept (row := none) ⟨hb.os, hb.tape, hb.output, hb.size, fun i hi _ => hb.block i hi⟩ (by simp), h2⟩
set_option maxRecDepth 20000 in
theorem undrewB {a b : World} (h : Below a.drew.heap.size a.drew b) : Below a.heap.size a b := ⟨h.os, h.tape, h.output, h.size, h.block⟩
/-- the list of states that were met, and the map, as the search goes on. -/
structure Met (nx : Int → List Int) (first : Int) (N b : Nat) (w1 wr : World) (v : Value) (R : List Int) (p : Nat) : Prop where
  nodup : R.Nodup
  fst : first ∈ R
  all : ∀ x ∈ R, (0 ≤ x ∧ x < N) ∧ RSt nx first x
  closed : ∀ i, i < p → ∀ y ∈ nx (R.getD i 0), y ∈ R
  own : wr.ownsRow (b + 1) 3 1 v R.length (ivals R)
  ne : v ≠ .slice none 0 0
  met : MetIs wr b R
  bel : Below w1.heap.size w1 wr
set_option maxRecDepth 20000 in
theorem Met.below {nx : Int → List Int} {first : Int} {N b : Nat} {w1 wr w' : World} {v : Value} {R : List Int} {p : Nat} (h : Met nx first N b w1 wr v R p) (hb : Below wr.heap.size wr w') : Met nx first N b w1 w' v R p :=
  ⟨h.nodup, h.fst, h.all, h.closed, owns_later h.own hb (Nat.le_refl _), h.ne, h.met.below hb, h.bel.trans (hb.mono h.bel.size)⟩
set_option maxRecDepth 20000 in
theorem Met.length {nx : Int → List Int} {first : Int} {N b : Nat} {w1 wr : World} {v : Value} {R : List Int} {p : Nat} (h : Met nx first N b w1 wr v R p) : R.length ≤ N := nodup_length h.nodup fun x hx => (h.all x hx).1
set_option maxRecDepth 20000 in
theorem Met.form {nx : Int → List Int} {first : Int} {N b : Nat} {w1 wr : World} {v : Value} {R : List Int} {p : Nat} (h : Met nx first N b w1 wr v R p) : ∃ g cap, v = .slice (some ⟨g, 0, none⟩) R.length cap ∧ b + 1 ≤ g ∧ g < wr.heap.size := OwnI.form ⟨h.own, h.ne⟩
/-- so far gone through. -/
def MetTo (nx : Int → List Int) (first : Int) (N b : Nat) (w1 wr : World) (v : Value) (p : Nat) : Prop := ∃ R, p ≤ R.length ∧ Met nx first N b w1 wr v R p
/-- and so far through the next states of the one at hand. -/
def MetAt (nx : Int → List Int) (first : Int) (N b : Nat) (w1 wr : World) (v : Value) (p : Nat) (x : Int) (nl : List Int) (q : Nat) : Prop := ∃ R, p < R.length ∧ R.getD p 0 = x ∧ (∀ j, j < q → nl.getD j 0 ∈ R) ∧ Met nx first N b w1 wr v R p
end Go.Proofs.YtbcjhkhndahdhaaDoor

/-
  The contract of step.Reach.
-/
namespace Go.Proofs.YtbcjhkhndahdhaaDoor
open Go.ChangeShapes Go.WideShapes Go.ChangeAt Go.RowKit Go.Deep Go.Maps
open Terms Tm

/-- in the round of a state: the next states lie apart from the list and the map. -/
def MIn (nx : Int → List Int) (first : Int) (N b : Nat) (w1 wr : World) (v : Value) (p : Nat) (x : Int) (nl : List Int) (q bs h4 : Nat) (nv : Value) : Prop :=
  MetAt nx first N b w1 wr v p x nl q ∧ (∃ g cap n, v = .slice (some ⟨g, 0, none⟩) n cap ∧ (g < bs ∨ h4 ≤ g)) ∧ wr.ownsRow bs 3 1 nv nl.length (ivals nl) ∧ h4 ≤ wr.heap.size ∧ (∀ k, nv.ownBlock = some k → k < h4) ∧ b < bs
set_option maxRecDepth 20000 in
theorem MIn.put {nx : Int → List Int} {first : Int} {N b : Nat} {w1 wr : World} {p : Nat} {x : Int} {nl : List Int} {q bs h4 : Nat} {nv : Value} {R : List Int} {g2 gc2 : Nat} {D : DataW Unit} (hpR : p < R.length) (hRx : R.getD p 0 = x) (hin : ∀ j, j < q → nl.getD j 0 ∈ R) (hM : Met nx first N b w1 wr (.slice (some ⟨g2, 0, none⟩) R.length gc2) R p)
    (hyN : 0 ≤ nl.getD q 0 ∧ nl.getD q 0 < N) (hyr : RSt nx first (nl.getD q 0)) (hyR : ¬ nl.getD q 0 ∈ R) (hhas : ∀ y : Int, 0 ≤ y ∧ y ≤ 5000 → Maps.has D (.int .i64 y) = decide (y ∈ R)) (hown : wr.ownsMap Tryd.prog 3 (plainElem Tryd.prog 3) b R.length D) (hg2 : g2 < bs ∨ h4 ≤ g2)
    (how : wr.ownsRow bs 3 1 nv nl.length (ivals nl)) (hh4 : h4 ≤ wr.heap.size) (hnvl : ∀ k, nv.ownBlock = some k → k < h4) (hbs : b < bs) (hb1 : w1.heap.size = b) {w5 w6 : World} {o : Obj} {g6 c6 : Nat} (h1 : w5.ownsMap Tryd.prog 3 (plainElem Tryd.prog 3) b (R.length + 1) (D.put (.int .i64 (nl.getD q 0)) (.lit (.int .i64 (R.length : Int))))) (h2 : wr.grownBy w5 (some b)) (h3 : (w5.alloc o).grownBy w6 (some g2))
    (h4o : w6.ownsRow (b + 1) 3 1 (.slice (some ⟨g6, 0, none⟩) (R.length + 1) c6) (R.length + 1) (ivals R ++ [.int .i64 (nl.getD q 0)])) (h5 : g2 = g6 ∨ g6 = (w5.alloc o).heap.size) : MIn nx first N b w1 w6 (.slice (some ⟨g6, 0, none⟩) (R.length + 1) c6) p x nl (q + 1) bs h4 nv := by
  have hs2 := h2.size
  have hs3 := h3.size
  simp only [World.size_alloc] at hs3
  have hlt := hM.own.lt g2 rfl
  have hgr : Below b wr w6 := by
    have e1 : Below b wr w5 := (Below.refl _ _).grown h2 (by have := hlt.1; have := hlt.2; omega) (fun k hk => by rw [← Option.some.inj hk]; exact Nat.le_refl _)
    exact (e1.alloc (by have := hlt.1; have := hlt.2; omega) o).grown h3 (by simp; have := hlt.1; have := hlt.2; omega) (fun k hk => by rw [← Option.some.inj hk]; have := hlt.1; omega)
  refine ⟨⟨R ++ [nl.getD q 0], by simp; omega, ?_, fun j hj => ?_, ?_, ?_, fun z hz => ?_, fun i hi y hy => ?_, ?_, by simp, ?_, ?_⟩, ⟨g6, c6, _, rfl, ?_⟩, ?_, by omega, hnvl, hbs⟩
  · rw [List.getD_eq_getElem?_getD, List.getElem?_append_left hpR, ← List.getD_eq_getElem?_getD]; exact hRx
  · by_cases hjq : j < q
    · exact List.mem_append.2 (.inl (hin j hjq))
    · obtain rfl : j = q := by omega
      simp
  · rw [List.nodup_append]
    refine ⟨hM.nodup, by simp, fun a ha c hc => ?_⟩
    rw [List.mem_singleton] at hc
    subst hc
    exact fun e => hyR (e ▸ ha)
  · exact List.mem_append.2 (.inl hM.fst)
  · rcases List.mem_append.1 hz with hz | hz
    · exact hM.all z hz
    · simp at hz; subst hz; exact ⟨hyN, hyr⟩
  · have hil : i < R.length := by omega
    rw [List.getD_eq_getElem?_getD, List.getElem?_append_left hil, ← List.getD_eq_getElem?_getD] at hy
    exact List.mem_append.2 (.inl (hM.closed i hi y hy))
  · have : ivals (R ++ [nl.getD q 0]) = ivals R ++ [.int .i64 (nl.getD q 0)] := by simp [ivals]
    rw [this, List.length_append]
    exact h4o
  · have hm6 : w6.ownsMap Tryd.prog 3 (plainElem Tryd.prog 3) b (R.length + 1) (D.put (.int .i64 (nl.getD q 0)) (.lit (.int .i64 (R.length : Int)))) := by
      have hb5 : Below w5.heap.size w5 (w5.alloc o) := (Below.refl _ _).alloc (Nat.le_refl _) o
      have := h1.kept (row := none) ⟨hb5.os, hb5.tape, hb5.output, hb5.size, fun i hi _ => hb5.block i hi⟩ (by simp)
      exact this.kept h3 (fun e => by have := Option.some.inj e; omega)
    exact MetIs.put hown hhas hm6
  · exact hM.bel.trans (hgr.mono (by omega))
  · rcases h5 with rfl | h5
    · exact hg2
    · right; rw [h5]; simp; omega
  · have hnv : ∀ k, nv.ownBlock = some k → bs ≤ k ∧ k < h4 := fun k hk => ⟨(how.lt k hk).1, hnvl k hk⟩
    have e1 := how.kept h2 (by cases hx : nv.ownBlock with | none => exact .inl rfl | some k => exact .inr (fun e => by have := hnv k hx; have := Option.some.inj e; omega))
    exact (e1.alloc o).kept h3 (by cases hx : nv.ownBlock with | none => exact .inl rfl | some k => exact .inr (fun e => by have := hnv k hx; have := Option.some.inj e; omega))
set_option maxHeartbeats 3200000 in
set_option maxRecDepth 20000 in
theorem reach_loop (va vr : Value) (m : Mo) (w : World) (hB : 0 < w.heap.size) (hT : TabAt w) (hV : ModelV w va vr m) (hm : mcode m = 0) :
    Calls Tryd.prog 4 #[.agg #[va, vr]] w fun e w' => ∃ v, e = .returned (.tuple #[v, .int .i64 0]) ∧ Below w.heap.size w w' ∧ IntsV w' v (reachN (nextL m) (firstC m) (prodTo m.vars m.vars.length).toNat) := by
  have hA : ∀ o, Below w.heap.size w (w.alloc o) := fun o => (Below.refl _ _).alloc (Nat.le_refl _) o
  have hfi : ∀ o, Calls Tryd.prog 8 #[.agg #[va, vr]] (w.alloc o) fun e w' => e = .returned (.tuple #[.int .i64 (firstC m), .int .i64 0]) ∧ Below (w.alloc o).heap.size (w.alloc o) w' := fun o => by
    have h := mfirst_any va vr m (w.alloc o) (Nat.lt_of_lt_of_le hB (hA o).size) (hT.below (hA o) hB) (hV.below (hA o))
    rw [hm, if_pos rfl] at h
    exact h
  obtain ⟨hf0, hf1⟩ := firstC_in hm
  have hN := (mcode_vars hm).prod (j := m.vars.length) (Nat.le_refl _)
  obtain ⟨N, hNe⟩ : ∃ N : Nat, prodTo m.vars m.vars.length = N := ⟨(prodTo m.vars m.vars.length).toNat, by omega⟩
  have HNx : Hid (∀ w' (_ : Below w.heap.size w w') (c : Int), 0 ≤ c ∧ c < N → Calls Tryd.prog 9 #[.agg #[va, vr], .int .i64 c] w' fun e w2 => ∃ v, e = .returned (.tuple #[v, .int .i64 0]) ∧ Below w'.heap.size w' w2 ∧ IntsV w2 v (nextL m c) ∧ w2.ownsRow w'.heap.size 3 1 v (nextL m c).length (ivals (nextL m c))) := fun w' hb c hc => by
    have hw : wcode m c = 0 := wcode_yes hm (by rw [hNe]; exact hc)
    have h := nextOf_own va vr m c w' (Nat.lt_of_lt_of_le hB hb.size) (hT.below hb hB) (hV.below hb) hm
    rw [hw, show nxtL m c = nextL m c by unfold nxtL; rw [if_pos hw]] at h
    exact h
  have HIn : Hid (∀ x y : Int, 0 ≤ x ∧ x < N → y ∈ nextL m x → 0 ≤ y ∧ y < N) := fun x y hx hy => by rw [← hNe] at hx ⊢; exact nextL_in hm hx hy
  have HLe : Hid (∀ x : Int, 0 ≤ x ∧ x < N → (nextL m x).length ≤ 20) := fun x hx => by
    have hw : wcode m x = 0 := wcode_yes hm (by rw [hNe]; exact hx)
    have h1 := nxtL_length m x
    rw [show nxtL m x = nextL m x by unfold nxtL; rw [if_pos hw]] at h1
    have h2 := (mcode_rules hm).1
    omega
  rw [hNe] at hf1 hN ⊢
  rw [Int.toNat_natCast]
  obtain ⟨ao, cap, rfl⟩ := hV.1.shape
  obtain ⟨ro, rc, rfl⟩ := hV.2.shape
  generalize firstC m = first at *
  generalize nextL m = nx at *
  obtain ⟨hN0, hN1⟩ := hN
  clear hV hT hm hNe
  generalize m.vars.length = n at *
  generalize m.rules.length = rn at *
  have hmm := @run_makeMap Tryd.prog
  obtain ⟨i0, hi, hz0, hz1, hz2⟩ := info_parts infoInt
  have hlen : first ≤ 5000 := by omega
  go_enter Tryd.func4, Tryd.ntmps4
  go_wp2_with (first | (go_at_call 8; refine (hfi _).mono ?_; rintro e w1 ⟨rfl, hb1⟩; have h0 := World.ownsMap_made w1 Tryd.prog 3 (plainElem (H := Unit) Tryd.prog 3)) | (refine wpList_insert_own _ rfl _ _ _ 35 rfl 3 3 keyInt Tryd.underlying35 (plainElem Tryd.prog 3) w1.heap.size 0 _ rfl h0 (by unfold maxLen; omega) _ _ _ rfl rfl (keyS first ⟨hf0, hlen⟩) _ [] (plainElem_int Tryd.underlying3 (by decide)) ?_; intro w2 hm2 hg2))
  have hb2 : Below w1.heap.size w1 w2 := ((Below.refl _ _).alloc (Nat.le_refl _) _).grown hg2 (by simp) (fun z hz => by rw [← Option.some.inj hz]; exact Nat.le_refl _)
  have hs2 : w1.heap.size + 1 ≤ w2.heap.size := by have := hg2.size; simp at this; omega
  have hA2 : ∀ o, Below w2.heap.size w2 (w2.alloc o) := fun o => (Below.refl _ _).alloc (Nat.le_refl _) o
  have hbw1 := (hA _).trans (hb1.mono (hA _).size)
  have hs1 : w.heap.size < w1.heap.size := by have := hb1.size; simp at this; omega
  have k10 : w1.cell? ⟨w.heap.size, 0, none⟩ = some (.slice ao n cap) := (hb1.cell (p := ⟨w.heap.size, 0, none⟩) (by simp)).trans (by simp [go_sem])
  have k11 : w1.cell? ⟨w.heap.size, 1, none⟩ = some (.slice ro rn rc) := (hb1.cell (p := ⟨w.heap.size, 1, none⟩) (by simp)).trans (by simp [go_sem])
  have HK1 : Hid (∀ w', Below w1.heap.size w1 w' → w'.cell? ⟨w.heap.size, 0, none⟩ = some (.slice ao n cap) ∧ w'.cell? ⟨w.heap.size, 1, none⟩ = some (.slice ro rn rc)) := fun w' hb => ⟨(hb.cell (p := ⟨w.heap.size, 0, none⟩) hs1).trans k10, (hb.cell (p := ⟨w.heap.size, 1, none⟩) hs1).trans k11⟩
  have HB1 : Hid (Below w.heap.size w w1) := hbw1
  have HM0 : Hid (Met nx first N w1.heap.size w1 (w2.alloc (.cells #[.int .i64 first] 3)) (.slice (some ⟨w2.heap.size, 0, none⟩) 1 1) [first] 0) := ⟨by simp, by simp, fun x hx => by simp at hx; subst hx; exact ⟨⟨hf0, hf1⟩, .first⟩, fun i hi => by omega, World.ownsRow_lit w2 #[.int .i64 first] 1 hs2 (by decide) rfl, by simp, (MetIs.put (l := []) h0 (fun y _ => by simp [Maps.has]) hm2).below (hA2 _), hb2.trans ((hA2 _).mono hb2.size)⟩
  clear hmm hfi hb1 h0 hm2 hg2 hb2 hbw1 k10 k11 hA2
  go_loopw [7, 8] (fun v i wr => ∃ p : Nat, p ≤ N ∧ i = .int .i64 p ∧ Hid (MetTo nx first N w1.heap.size w1 wr v p)) (fun _ i _ => N - (intOf i).toNat)
  case atStart => exact ⟨0, Nat.zero_le _, rfl, [first], by simp, HM0.out⟩
  case round =>
    obtain ⟨p, hp, rfl, HM⟩ := hrel
    obtain ⟨R, hpR, hM⟩ := HM.out
    obtain ⟨g, gc, rfl, hg, hgl⟩ := hM.form
    have hRN := hM.length
    have hbw := HB1.out.trans (hM.bel.mono HB1.out.size)
    obtain ⟨kr0, kr1⟩ := HK1.out wr hM.bel
    obtain ⟨L, hL⟩ : ∃ L, L = R.length := ⟨_, rfl⟩
    have HL : Hid (L = R.length) := hL
    have HMe : Hid (Met nx first N w1.heap.size w1 wr (.slice (some ⟨g, 0, none⟩) L gc) R p) := by rw [hL]; exact hM
    rw [← hL] at hpR hRN ⊢
    by_cases hlt : p < L
    · have hp' : p < R.length := by rw [← HL.out]; exact hlt
      have hc : wr.cell? ⟨g, p, none⟩ = some (.int .i64 (R.getD p 0)) := by
        have := hM.own.cellAt p (by omega)
        rw [this]
        simp [ivals, List.getD_eq_getElem?_getD, hp']
      have hxin := (hM.all (R.getD p 0) (by rw [show R.getD p 0 = R[p] by simp [List.getD_eq_getElem?_getD, hp']]; exact List.getElem_mem _)).1
      have hne := HNx.out wr.drew hbw.drew (R.getD p 0) hxin
      have HX : Hid (∀ w4, Below wr.heap.size wr w4 → MetAt nx first N w1.heap.size w1 w4 (.slice (some ⟨g, 0, none⟩) L gc) p (R.getD p 0) (nx (R.getD p 0)) 0) := fun w4 hb => ⟨R, hp', rfl, fun j hj => by omega, HMe.out.below hb⟩
      generalize R.getD p 0 = x at hc hxin hne HX
      clear hM hL hpR HM hp' HMe
      have hS : ∀ w', Below wr.heap.size wr w' → w'.cell? ⟨w.heap.size, 0, none⟩ = some (.slice ao n cap) ∧ w'.cell? ⟨w.heap.size, 1, none⟩ = some (.slice ro rn rc) ∧ w'.cell? ⟨g, p, none⟩ = some (.int .i64 x) := fun w' hb => ⟨(hb.cell (p := ⟨w.heap.size, 0, none⟩) (World.block_lt_of_cell? wr _ kr0)).trans kr0, (hb.cell (p := ⟨w.heap.size, 1, none⟩) (World.block_lt_of_cell? wr _ kr1)).trans kr1, (hb.cell (p := ⟨g, p, none⟩) hgl).trans hc⟩
      go_wp2_with fail
      go_region_held3 (fun w' => w'.cell? ⟨w.heap.size, 0, none⟩ = some (.slice ao n cap) ∧ w'.cell? ⟨w.heap.size, 1, none⟩ = some (.slice ro rn rc) ∧ w'.cell? ⟨g, p, none⟩ = some (.int .i64 x)) (exact hS _ (by first | exact (Below.refl _ _).drew | exact undrewB hb4 | exact Below.refl _ _)) (first | (go_at_call 9; refine hne.mono ?_; rintro e w4 ⟨nv, rfl, hb4, hI4, ho4⟩; obtain ⟨no, nc, rfl⟩ := hI4.shape))
      have hb4' := undrewB hb4
      obtain ⟨nn, hnn⟩ : ∃ nn, nn = (nx x).length := ⟨_, rfl⟩
      have HNN : Hid (nn = (nx x).length) := hnn
      have HO4 : Hid (w4.ownsRow wr.heap.size 3 1 (.slice no nn nc) nn (ivals (nx x))) := by rw [hnn]; exact ho4
      have HNxi : Hid (∀ j, j < nn → (0 ≤ (nx x).getD j 0 ∧ (nx x).getD j 0 < N) ∧ (nx x).getD j 0 ∈ nx x) := fun j hj => by
        have hm : (nx x).getD j 0 ∈ nx x := by rw [List.getD_eq_getElem?_getD, List.getElem?_eq_getElem (by rw [← hnn]; exact hj)]; exact List.getElem_mem _
        exact ⟨HIn.out x _ hxin hm, hm⟩
      have hrow : g < wr.heap.size := hgl
      have HX4 : Hid (MetAt nx first N w1.heap.size w1 w4 (.slice (some ⟨g, 0, none⟩) L gc) p x (nx x) 0) := HX.out w4 hb4'
      rw [← hnn]
      have hbs : w1.heap.size < wr.heap.size := by
        obtain ⟨R', _, _, _, hM'⟩ := HX.out wr (Below.refl _ _)
        obtain ⟨D', h1', _⟩ := hM'.met
        exact World.ownsMap.lt h1'
      have HI0 : Hid (MIn nx first N w1.heap.size w1 w4 (.slice (some ⟨g, 0, none⟩) L gc) p x (nx x) 0 wr.heap.size w4.heap.size (.slice no nn nc)) := ⟨HX4.out, ⟨g, gc, L, rfl, .inl hgl⟩, by rw [← hnn]; exact HO4.out, Nat.le_refl _, fun k hk => (HO4.out.lt k hk).2, hbs⟩
      have hbs4 := hb4'.size
      have hnn20 : nn ≤ 20 := by rw [hnn]; exact HLe.out x hxin
      clear hnn hI4 ho4 hS hne HX kr0 kr1 hc hb4 hrow HO4 HX4
      go_wp2_with fail
      generalize wr.heap.size = bs at *
      generalize wr = wo at *
      go_loopw [7, 48] (fun v i wr => ∃ q : Nat, q ≤ nn ∧ i = .int .i64 q ∧ Hid (MIn nx first N w1.heap.size w1 wr v p x (nx x) q bs w4.heap.size (.slice no nn nc))) (fun _ i _ => nn - (intOf i).toNat)
      case atStart => exact ⟨0, Nat.zero_le _, rfl, HI0⟩
      case round =>
        obtain ⟨q, hq, rfl, HQ⟩ := hrel
        obtain ⟨⟨R, hpR, hRx, hin, hM⟩, ⟨g2, gc2, n2, rfl, hg2⟩, how, hh4, hnvl, hbs2⟩ := HQ.out
        have hn2 : n2 = R.length := by
          obtain ⟨ga, ca, e1, _⟩ := hM.form
          injection e1 with _ e2 _
        subst hn2
        have hRN := hM.length
        by_cases hlq : q < nn
        · obtain ⟨⟨hy0, hy1⟩, hymem⟩ := HNxi.out q hlq
          have hnvq : ∃ nb, no = some ⟨nb, 0, none⟩ ∧ wr.cell? ⟨nb, q, none⟩ = some (.int .i64 ((nx x).getD q 0)) := by
            rcases how.2 with ⟨e, h0⟩ | ⟨nb, cap, cur, e, _⟩
            · have := HNN.out; omega
            · injection e with e1 _ _
              subst e1
              refine ⟨nb, rfl, ?_⟩
              have how' : wr.ownsRow bs 3 1 (.slice (some ⟨nb, 0, none⟩) (nx x).length nc) (nx x).length (ivals (nx x)) := by rw [HNN.out] at how; exact how
              have hql : q < (nx x).length * 1 := by have := HNN.out; omega
              rw [how'.cellAt q hql]
              have : q < (nx x).length := by rw [← HNN.out]; exact hlq
              simp [ivals, List.getD_eq_getElem?_getD, this]
          obtain ⟨nb, rfl, hcy⟩ := hnvq
          have HMi := hin
          obtain ⟨D, hown, hhas⟩ := hM.met
          have hk1 := keyS ((nx x).getD q 0) ⟨hy0, by omega⟩
          have hh := hhas ((nx x).getD q 0) ⟨hy0, by omega⟩
          by_cases hyR : (nx x).getD q 0 ∈ R
          · have HN : Hid (MIn nx first N w1.heap.size w1 wr (.slice (some ⟨g2, 0, none⟩) R.length gc2) p x (nx x) (q + 1) bs w4.heap.size (.slice (some ⟨nb, 0, none⟩) nn nc)) := ⟨⟨R, hpR, hRx, fun j hj => by
                by_cases hjq : j < q
                · exact hin j hjq
                · obtain rfl : j = q := by omega
                  exact hyR, hM⟩, ⟨g2, gc2, _, rfl, hg2⟩, how, hh4, hnvl, hbs2⟩
            rw [decide_eq_true hyR] at hh
            generalize (nx x).getD q 0 = y at *
            generalize R.length = L2 at *
            clear HQ hin hM hhas HMi how hRx hyR hymem
            go_wp2_with (at_lookup; refine wpList_lookup_own_ok_int _ rfl _ _ 35 rfl 3 3 .i64 keyInt Tryd.underlying35 Tryd.underlying3 (zeroInt _) w1.heap.size _ D rfl hown _ _ rfl hk1 ?_; intro c hat hwc; rw [hh]; clear hat hwc)
            go_roundw
            case rel => exact ⟨q + 1, hlq, by go_num, HN⟩
            case measure => simp [intOf]; omega
          · rw [decide_eq_false hyR] at hh
            have hyr : RSt nx first ((nx x).getD q 0) := RSt.next (hM.all x (by rw [← hRx, List.getD_eq_getElem?_getD, List.getElem?_eq_getElem hpR]; exact List.getElem_mem _)).2 hymem
            have HN : Hid (∀ (w5 w6 : World) (o : Obj) (g6 c6 : Nat), w5.ownsMap Tryd.prog 3 (plainElem Tryd.prog 3) w1.heap.size (R.length + 1) (D.put (.int .i64 ((nx x).getD q 0)) (.lit (.int .i64 (R.length : Int)))) → wr.grownBy w5 (some w1.heap.size) → (w5.alloc o).grownBy w6 (some g2) → w6.ownsRow (w1.heap.size + 1) 3 1 (.slice (some ⟨g6, 0, none⟩) (R.length + 1) c6) (R.length + 1) (ivals R ++ [.int .i64 ((nx x).getD q 0)]) → (g2 = g6 ∨ g6 = (w5.alloc o).heap.size) → MIn nx first N w1.heap.size w1 w6 (.slice (some ⟨g6, 0, none⟩) (R.length + 1) c6) p x (nx x) (q + 1) bs w4.heap.size (.slice (some ⟨nb, 0, none⟩) nn nc)) := fun w5 w6 o g6 c6 h1 h2 h3 h4 h5 => MIn.put hpR hRx hin hM ⟨hy0, hy1⟩ hyr hyR hhas hown hg2 how hh4 hnvl hbs2 rfl h1 h2 h3 h4 h5
            have hownL := hM.own
            have hlt2 := hownL.lt
            generalize (nx x).getD q 0 = y at *
            obtain ⟨L2, hL2⟩ : ∃ L2, L2 = R.length := ⟨_, rfl⟩
            rw [← hL2] at HN hown hownL hRN hlt2 ⊢
            have hkm : L2 < maxLen := by unfold maxLen; omega
            have h63 : L2 + 1 ≤ maxLen := by unfold maxLen; omega
            have hkb : (L2 + 1) * 8 ≤ 140737488355328 := by omega
            have hwf : (Lit.int .i64 (L2 : Int)).wf = true := WalkArith.wf_i64 (by omega)
            have hszr : w1.heap.size + 1 ≤ wr.heap.size := by omega
            clear HQ hin hM hhas HMi how hRx hyR hymem hyr hL2
            go_wp2_with (first
              | (at_lookup; refine wpList_lookup_own_ok_int _ rfl _ _ 35 rfl 3 3 .i64 keyInt Tryd.underlying35 Tryd.underlying3 (zeroInt _) w1.heap.size _ D rfl hown _ _ rfl hk1 ?_; intro c hat hwc; rw [hh]; clear hat hwc)
              | (at_mapUpdate; refine wpList_mapUpdate_own _ rfl _ _ _ 35 rfl 3 3 keyInt Tryd.underlying35 _ w1.heap.size L2 D rfl hown hkm _ _ _ rfl rfl hk1 _ [] (plainElem_int Tryd.underlying3 hwf) ?_; intro w5 hown5 hg5; have how5 := fun o => (hownL.kept hg5 (.inr (fun e => by have := (hlt2 w1.heap.size e).1; omega))).alloc o; have hsz5 := hg5.size; have hbase : ∀ o, w1.heap.size + 1 ≤ (w5.alloc o).heap.size := (fun o => by simp; omega))
              | (at_builtin; refine wpList_append_lies _ rfl (.tmp 64) (.tmp 66) 26 rfl (w1.heap.size + 1) 3 i0 (.int .i64 0) 1 8 Tryd.underlying26 hi hz0 hz1 hz2 rfl (by decide) (.slice (some ⟨g2, 0, none⟩) L2 gc2) L2 _ rfl (how5 _) ⟨w5.heap.size, 0, none⟩ 1 1 [.int .i64 y] rfl rfl (cell_one_new _ _ _) (by intro u hu; simp at hu; subst hu; rfl) (by decide) h63 hkb (hbase _) _ rfl ?_; intro g6 c6 w6 hown6 hg6 hor6 hlt6))
            have HN6 : Hid (MIn nx first N w1.heap.size w1 w6 (.slice (some ⟨g6, 0, none⟩) (L2 + 1) c6) p x (nx x) (q + 1) bs w4.heap.size (.slice (some ⟨nb, 0, none⟩) nn nc)) := HN.out w5 w6 _ g6 c6 hown5 hg5 hg6 hown6 (by rcases hor6 with h | h; exact .inl (by simpa [Value.ownBlock] using h); exact .inr h)
            go_roundw
            case rel => exact ⟨q + 1, hlq, by go_num, HN6⟩
            case measure => simp [intOf]; omega
        · obtain rfl : q = nn := by omega
          have HN : Hid (MetTo nx first N w1.heap.size w1 wr (.slice (some ⟨g2, 0, none⟩) R.length gc2) (p + 1)) := ⟨R, hpR, hM.nodup, hM.fst, hM.all, fun i hi => by
            by_cases hip : i < p
            · exact hM.closed i hip
            · obtain rfl : i = p := by omega
              intro y hy
              rw [hRx] at hy
              obtain ⟨j, hj, rfl⟩ := List.getElem_of_mem hy
              have := hin j (by rw [HNN.out]; exact hj)
              rwa [List.getD_eq_getElem?_getD, List.getElem?_eq_getElem hj] at this, hM.own, hM.ne, hM.met, hM.bel⟩
          have hpN : p + 1 ≤ N := by omega
          generalize R.length = L2 at *
          clear HQ hin hM how hRx
          go_wp2_with fail
          go_roundw
          case rel => exact ⟨p + 1, hpN, by go_num, HN⟩
          case measure => simp [intOf]; omega
    · have hpl : p = L := by omega
      subst hpl
      have HRes : Hid (R.mergeSort leB = reachN nx first N) := by
        refine rise_eq (sorted_rise hM.nodup) (reachN_rise _ _ _) fun y => ?_
        rw [reachN_mem, (List.mergeSort_perm R leB).mem_iff]
        have hc := closed_reach (nx := nx) (l := R) hM.fst (fun x hx => (hM.all x hx).2) (fun x hx y hy => by
          obtain ⟨i, hi, rfl⟩ := List.getElem_of_mem hx
          exact hM.closed i (by rw [HL.out]; exact hi) y (by rw [List.getD_eq_getElem?_getD, List.getElem?_eq_getElem hi]; exact hy))
        rw [hc y]
        exact ⟨fun h => ⟨h.in ⟨hf0, hf1⟩ HIn.out, h⟩, fun h => h.2⟩
      have hown := HMe.out.own
      have hso := sort_own g gc (w1.heap.size + 1) R wr (by rw [← HL.out]; omega) (by rw [HL.out] at hown; exact hown)
      rw [← HL.out] at hso
      clear hM HMe HM hown hL
      go_wp2_with (go_at_call 10; refine hso.mono ?_; rintro e w6 ⟨rfl, hgr6, ho6⟩)
      go_ret2
      refine ⟨_, rfl, ?_, ?_⟩
      · exact hbw.grown hgr6 hbw.size (fun z hz => by rw [← Option.some.inj hz]; have := HB1.out.size; omega)
      · rw [← HRes.out]
        exact intsV_of_owns (by rw [List.length_mergeSort, ← HL.out]; exact ho6)
end Go.Proofs.YtbcjhkhndahdhaaDoor

/-
  The contract of step.Reach, for every model.
-/
namespace Go.Proofs.YtbcjhkhndahdhaaDoor
open Go.ChangeShapes Go.WideShapes Go.ChangeAt Go.RowKit Go.Deep Go.Maps
open Terms Tm

set_option maxHeartbeats 1600000 in
set_option maxRecDepth 20000 in
/-- THE CONTRACT OF Reach. -/
theorem reach_any (va vr : Value) (m : Mo) (w : World) (hB : 0 < w.heap.size) (hT : TabAt w) (hV : ModelV w va vr m) :
    Calls Tryd.prog 4 #[.agg #[va, vr]] w fun e w' => ∃ v, e = .returned (.tuple #[v, .int .i64 (mcode m)]) ∧ Below w.heap.size w w' ∧ IntsV w' v (reachL m) := by
  by_cases hm : mcode m = 0
  · have h := reach_loop va vr m w hB hT hV hm
    unfold reachL
    rw [if_pos hm, hm]
    exact h
  · have hA : ∀ o, Below w.heap.size w (w.alloc o) := fun o => (Below.refl _ _).alloc (Nat.le_refl _) o
    have hfi := fun o => mfirst_any va vr m (w.alloc o) (Nat.lt_of_lt_of_le hB (hA o).size) (hT.below (hA o) hB) (hV.below (hA o))
    have hRL : reachL m = [] := by unfold reachL; rw [if_neg hm]
    rw [if_neg hm] at hfi
    rw [hRL]
    obtain ⟨ao, cap, rfl⟩ := hV.1.shape
    obtain ⟨ro, rc, rfl⟩ := hV.2.shape
    generalize mcode m = c at *
    generalize m.vars.length = n at *
    generalize m.rules.length = rn at *
    clear hV hRL hT
    go_enter Tryd.func4, Tryd.ntmps4
    go_wp2_with (go_at_call 8; refine (hfi _).mono ?_; rintro e w1 ⟨rfl, hb1⟩)
    go_ret2
    exact ⟨_, rfl, (hA _).trans (hb1.mono (hA _).size), none, 0, rfl, fun h => absurd rfl h⟩
theorem reachL_length (m : Mo) : (reachL m).length ≤ 5000 := by
  unfold reachL
  split
  · rename_i hm
    have hN := (mcode_vars hm).prod (j := m.vars.length) (Nat.le_refl _)
    unfold reachN
    rw [List.length_map]
    refine Nat.le_trans (List.length_filter_le _ _) ?_
    rw [List.length_range]
    omega
  · simp
end Go.Proofs.YtbcjhkhndahdhaaDoor

/-
  Plain mathematics: states marked round by round.
-/
namespace Go.Proofs.YtbcjhkhndahdhaaDoor
open Terms Tm

def upd (st : Nat → Nat) (i v : Nat) : Nat → Nat := fun j => if j = i then v else st j
theorem upd_same (st : Nat → Nat) (i v : Nat) : upd st i v i = v := if_pos rfl
theorem upd_other {st : Nat → Nat} {i v j : Nat} (h : j ≠ i) : upd st i v j = st j := if_neg h
/-- those that are not gone through yet. -/
def cntN (st : Nat → Nat) (n : Nat) : Nat := ((List.range n).filter fun j => decide (st j ≠ 2)).length
theorem cntN_zero (st : Nat → Nat) : cntN st 0 = 0 := rfl
theorem cntN_succ (st : Nat → Nat) (n : Nat) : cntN st (n + 1) = cntN st n + if st n = 2 then 0 else 1 := by
  unfold cntN
  rw [List.range_succ, List.filter_append, List.length_append]
  by_cases h : st n = 2 <;> simp [h]
theorem cntN_congr {st st' : Nat → Nat} : ∀ {n : Nat}, (∀ j, j < n → (st j = 2 ↔ st' j = 2)) → cntN st n = cntN st' n
  | 0, _ => rfl
  | n + 1, h => by
    rw [cntN_succ, cntN_succ, cntN_congr (n := n) (fun j hj => h j (by omega))]
    have := h n (by omega)
    by_cases h2 : st n = 2
    · rw [if_pos h2, if_pos (this.1 h2)]
    · rw [if_neg h2, if_neg (fun x => h2 (this.2 x))]
theorem cntN_two {st : Nat → Nat} {i : Nat} (hi : st i ≠ 2) : ∀ {n : Nat}, i < n → cntN (upd st i 2) n < cntN st n
  | 0, h => by omega
  | n + 1, h => by
    rw [cntN_succ, cntN_succ]
    by_cases hin : i = n
    · subst hin
      rw [upd_same, if_pos rfl, if_neg hi, cntN_congr (st := upd st i 2) (st' := st) (fun j hj => by rw [upd_other (by omega)])]
      omega
    · have := cntN_two hi (n := n) (by omega)
      rw [upd_other (show n ≠ i by omega)]
      omega
theorem cntN_one {st : Nat → Nat} {i n : Nat} (hi : st i ≠ 2) : cntN (upd st i 1) n = cntN st n := cntN_congr fun j _ => by
  by_cases hj : j = i
  · subst hj; rw [upd_same]; omega
  · rw [upd_other hj]

/-- what is marked is reached, and where one went through leads to marked ones. -/
structure SInv (N : Nat) (nx : Int → List Int) (first : Int) (st : Nat → Nat) : Prop where
  vals : ∀ i, st i ≤ 2
  fst : 0 < st first.toNat
  src : ∀ i : Nat, 0 < st i → RSt nx first (i : Int)
  next : ∀ i : Nat, i < N → st i = 2 → ∀ y ∈ nx (i : Int), 0 < st y.toNat
structure SAt (N : Nat) (nx : Int → List Int) (first : Int) (st : Nat → Nat) (c q : Nat) : Prop where
  vals : ∀ i, st i ≤ 2
  fst : 0 < st first.toNat
  src : ∀ i : Nat, 0 < st i → RSt nx first (i : Int)
  next : ∀ i : Nat, i < N → i ≠ c → st i = 2 → ∀ y ∈ nx (i : Int), 0 < st y.toNat
  two : st c = 2
  here : ∀ j, j < q → 0 < st ((nx (c : Int)).getD j 0).toNat
theorem SInv.mark {N : Nat} {nx : Int → List Int} {first : Int} {st : Nat → Nat} {c : Nat} (h : SInv N nx first st) (hc : st c = 1) : SAt N nx first (upd st c 2) c 0 := by
  have hp : ∀ i, 0 < st i → 0 < upd st c 2 i := fun i hi => by
    by_cases h1 : i = c
    · subst h1; rw [upd_same]; omega
    · rw [upd_other h1]; exact hi
  refine ⟨fun i => ?_, hp _ h.fst, fun i hi => ?_, fun i hi hne h2 k hk => ?_, upd_same _ _ _, fun j hj => by omega⟩
  · by_cases h1 : i = c
    · subst h1; rw [upd_same]; omega
    · rw [upd_other h1]; exact h.vals i
  · by_cases h1 : i = c
    · subst h1; exact h.src i (by omega)
    · rw [upd_other h1] at hi; exact h.src i hi
  · rw [upd_other hne] at h2
    exact hp _ (h.next i hi h2 k hk)
theorem SAt.pass {N : Nat} {nx : Int → List Int} {first : Int} {st : Nat → Nat} {c q : Nat} (h : SAt N nx first st c q) (hq : 0 < st ((nx (c : Int)).getD q 0).toNat) : SAt N nx first st c (q + 1) :=
  ⟨h.vals, h.fst, h.src, h.next, h.two, fun j hj => by
    by_cases h1 : j < q
    · exact h.here j h1
    · obtain rfl : j = q := by omega
      exact hq⟩
theorem SAt.new {N : Nat} {nx : Int → List Int} {first : Int} {st : Nat → Nat} {c q : Nat} (h : SAt N nx first st c q) (hql : q < (nx (c : Int)).length) (h0 : 0 ≤ (nx (c : Int)).getD q 0) (hq : st ((nx (c : Int)).getD q 0).toNat = 0) : SAt N nx first (upd st ((nx (c : Int)).getD q 0).toNat 1) c (q + 1) := by
  have hmem : (nx (c : Int)).getD q 0 ∈ nx (c : Int) := by rw [List.getD_eq_getElem?_getD, List.getElem?_eq_getElem hql]; exact List.getElem_mem _
  obtain ⟨z, hz⟩ : ∃ z, (nx (c : Int)).getD q 0 = z := ⟨_, rfl⟩
  obtain ⟨y, hy⟩ : ∃ y : Nat, ((nx (c : Int)).getD q 0).toNat = y := ⟨_, rfl⟩
  rw [hy] at hq ⊢
  have hyz : ((y : Nat) : Int) = z := by rw [← hy, hz]; rw [hz] at h0; omega
  have hp : ∀ i, 0 < st i → 0 < upd st y 1 i := fun i hi => by
    by_cases h1 : i = y
    · subst h1; omega
    · rw [upd_other h1]; exact hi
  have hyc : y ≠ c := by rintro rfl; have := h.two; omega
  refine ⟨fun i => ?_, hp _ h.fst, fun i hi => ?_, fun i hi hne h2 k hk => ?_, ?_, fun j hj => ?_⟩
  · by_cases h1 : i = y
    · subst h1; rw [upd_same]; omega
    · rw [upd_other h1]; exact h.vals i
  · by_cases h1 : i = y
    · subst h1
      rw [hyz, ← hz]
      exact (h.src c (by rw [h.two]; omega)).next hmem
    · rw [upd_other h1] at hi; exact h.src i hi
  · by_cases h1 : i = y
    · subst h1; rw [upd_same] at h2; omega
    · rw [upd_other h1] at h2; exact hp _ (h.next i hi hne h2 k hk)
  · rw [upd_other hyc.symm]; exact h.two
  · by_cases h1 : j < q
    · exact hp _ (h.here j h1)
    · obtain rfl : j = q := by omega
      rw [hy, upd_same]; omega
theorem SAt.done {N : Nat} {nx : Int → List Int} {first : Int} {st : Nat → Nat} {c : Nat} (h : SAt N nx first st c (nx (c : Int)).length) : SInv N nx first st := by
  refine ⟨h.vals, h.fst, h.src, fun i hi h2 k hk => ?_⟩
  by_cases h1 : i = c
  · subst h1
    obtain ⟨j, hj, rfl⟩ := List.getElem_of_mem hk
    have := h.here j hj
    rwa [List.getD_eq_getElem?_getD, List.getElem?_eq_getElem hj] at this
  · exact h.next i hi h1 h2 k hk
theorem SInv.all {N : Nat} {nx : Int → List Int} {first : Int} {st : Nat → Nat} (h : SInv N nx first st) (hf : 0 ≤ first ∧ first < N) (hn : ∀ x y : Int, 0 ≤ x ∧ x < N → y ∈ nx x → 0 ≤ y ∧ y < N) (h1 : ∀ j, j < N → st j ≠ 1) (i : Nat) : 0 < st i ↔ RSt nx first (i : Int) := by
  refine ⟨h.src i, fun hr => ?_⟩
  have : ∀ x : Int, RSt nx first x → (0 ≤ x ∧ x < N) ∧ 0 < st x.toNat := by
    intro x hx
    induction hx with
    | first => exact ⟨hf, h.fst⟩
    | next _ hy ih =>
      refine ⟨hn _ _ ih.1 hy, ?_⟩
      rename_i x y _
      have h4 := h1 x.toNat (by omega)
      have h5 := h.vals x.toNat
      have h6 := h.next x.toNat (by omega) (by omega)
      rw [show ((x.toNat : Nat) : Int) = x by omega] at h6
      exact h6 y hy
  have := (this (i : Int) hr).2
  simpa using this
theorem SInv.start {N : Nat} {nx : Int → List Int} {first : Int} (hf : 0 ≤ first) : SInv N nx first (upd (fun _ => 0) first.toNat 1) := by
  refine ⟨fun i => ?_, by rw [upd_same]; omega, fun i hi => ?_, fun i _ h2 => ?_⟩
  · by_cases h : i = first.toNat
    · subst h; rw [upd_same]; omega
    · rw [upd_other h]; omega
  · by_cases h : i = first.toNat
    · subst h; rw [show ((first.toNat : Nat) : Int) = first by omega]; exact .first
    · rw [upd_other h] at hi; omega
  · by_cases h : i = first.toNat
    · subst h; rw [upd_same] at h2; omega
    · rw [upd_other h] at h2; omega
/-- the states that are marked, up to one. -/
def markTo (st : Nat → Nat) (c : Nat) : List Int := ((List.range c).filter (fun j => decide (0 < st j))).map (fun j : Nat => (j : Int))
theorem markTo_yes {st : Nat → Nat} {c : Nat} (h : 0 < st c) : markTo st (c + 1) = markTo st c ++ [(c : Int)] := by simp [markTo, List.range_succ, List.filter_append, h]
theorem markTo_no {st : Nat → Nat} {c : Nat} (h : ¬ 0 < st c) : markTo st (c + 1) = markTo st c := by simp [markTo, List.range_succ, List.filter_append, show st c = 0 by omega]
theorem markTo_length (st : Nat → Nat) (c : Nat) : (markTo st c).length ≤ c := by
  unfold markTo
  rw [List.length_map]
  exact Nat.le_trans (List.length_filter_le _ _) (by simp)
theorem markTo_reach {st : Nat → Nat} {nx : Int → List Int} {first : Int} {N : Nat} (h : ∀ i : Nat, (0 < st i ↔ RSt nx first (i : Int))) : markTo st N = reachN nx first N := by
  classical
  unfold markTo reachN
  congr 1
  refine List.filter_congr fun j _ => ?_
  by_cases hj : 0 < st j
  · rw [decide_eq_true hj, decide_eq_true ((h j).1 hj)]
  · rw [decide_eq_false hj, decide_eq_false (fun x => hj ((h j).2 x))]
end Go.Proofs.YtbcjhkhndahdhaaDoor

/-
  The contract of the document's own worked.
-/
namespace Go.Proofs.YtbcjhkhndahdhaaDoor
open Go.ChangeShapes Go.WideShapes Go.ChangeAt Go.RowKit Go.Deep
open Terms Tm

def wkN (r : Option Int) : Int := match r with
  | some x => x
  | none => 0
def wkC (r : Option Int) : Int := match r with
  | some _ => 0
  | none => 8

/-- what the row of the parts' values is, when those from k on are in it. -/
def RowF (t : Tm) (env : List Int) (base np : Nat) (vao : Option Addr) (wr : World) (k : Nat) : Prop :=
  np = 0 ∨ ∃ g, vao = some ⟨g, 0, none⟩ ∧ base ≤ g ∧ g < wr.heap.size ∧ (∀ j, j < np → wr.frozen? ⟨g, j, none⟩ = false ∧ ∃ u, wr.cell? ⟨g, j, none⟩ = some u) ∧ (∀ j, k ≤ j → j < np → ∃ x, (t.kids.getD j t).eval env = some x ∧ wr.cell? ⟨g, j, none⟩ = some (.int .i64 x))
theorem RowF.later {t : Tm} {env : List Int} {base np k : Nat} {vao : Option Addr} {w w' : World} (h : RowF t env base np vao w k) (hb : Below w.heap.size w w') : RowF t env base np vao w' k := by
  rcases h with h | ⟨g, h1, h2, h3, h4, h5⟩
  · exact .inl h
  · refine .inr ⟨g, h1, h2, Nat.lt_of_lt_of_le h3 hb.size, fun j hj => ?_, fun j hk hj => ?_⟩
    · obtain ⟨f, u, c⟩ := h4 j hj
      exact ⟨(hb.frozen (p := ⟨g, j, none⟩) h3).trans f, u, (hb.cell (p := ⟨g, j, none⟩) h3).trans c⟩
    · obtain ⟨x, e, c⟩ := h5 j hk hj
      exact ⟨x, e, (hb.cell (p := ⟨g, j, none⟩) h3).trans c⟩
theorem RowF.store {t : Tm} {env : List Int} {base np k g : Nat} {x : Int} {w : World} (h : RowF t env base np (some ⟨g, 0, none⟩) w (k + 1)) (hk : k < np) (hx : (t.kids.getD k t).eval env = some x) : RowF t env base np (some ⟨g, 0, none⟩) (w.setCell ⟨g, k, none⟩ (.int .i64 x)) k := by
  rcases h with h | ⟨g', h1, h2, h3, h4, h5⟩
  · omega
  · obtain rfl : g = g' := by simpa using h1
    refine .inr ⟨g, rfl, h2, by simpa using h3, fun j hj => ?_, fun j hkj hj => ?_⟩
    · obtain ⟨f, u, c⟩ := h4 j hj
      refine ⟨by simpa [go_sem] using f, ?_⟩
      by_cases hjk : j = k
      · subst hjk; exact ⟨.int .i64 x, by simp [go_sem, c]⟩
      · exact ⟨u, by rw [← c]; exact World.cell?_setCell_other _ _ _ _ (by intro h; injection h with _ h2; omega)⟩
    · by_cases hjk : j = k
      · subst hjk
        obtain ⟨f, u, c⟩ := h4 j hj
        exact ⟨x, hx, by simp [go_sem, c]⟩
      · obtain ⟨y, e, c⟩ := h5 j (by omega) hj
        exact ⟨y, e, by rw [← c]; exact World.cell?_setCell_other _ _ _ _ (by intro h; injection h with _ h2; omega)⟩

theorem wrE {x : Int} (h1 : -9223372036854775808 ≤ x) (h2 : x ≤ 9223372036854775807) : IntKind.i64.wrap x = x := by
  rw [IntWalk.i64_left]
  exact IntWalk.wrap64_in x ⟨h1, h2⟩
theorem mul_big {x y : Int} (hx : -1000000 ≤ x ∧ x ≤ 1000000) (hy : -1000000 ≤ y ∧ y ≤ 1000000) : -1000000000000 ≤ x * y ∧ x * y ≤ 1000000000000 := by
  have h : (x * y).natAbs ≤ 1000000000000 := by
    rw [Int.natAbs_mul]
    exact Nat.mul_le_mul (show x.natAbs ≤ 1000000 by omega) (show y.natAbs ≤ 1000000 by omega)
  omega
theorem IntsV.atE {w : World} {ao : Option Addr} {cap n : Nat} {l : List Int} (h : IntsV w (.slice ao n cap) l) {i : Nat} (hi : i < l.length) : ∃ b off, ao = some ⟨b, off, none⟩ ∧ b < w.heap.size ∧ w.cell? ⟨b, off + i, none⟩ = some (.int .i64 (l.getD i 0)) := by
  obtain ⟨ao', cap', h1, h3⟩ := h
  injection h1 with e1 e2 e3
  subst e1
  obtain ⟨b, off, e, hb, hh⟩ := h3 (by intro h; subst h; simp at hi)
  exact ⟨b, off, e, hb, hh i hi⟩
theorem eval_kid_none {t : Tm} {env : List Int} {k : Nat} (hk : k < t.kids.length) (h : (t.kids.getD k t).eval env = none) : t.eval env = none := by
  cases t with
  | leaf a b => simp [kids] at hk
  | un a b s =>
    have : k = 0 := by simp [kids] at hk; exact hk
    subst this
    simp only [kids, List.getD_cons_zero] at h
    simp [eval, h]
  | bi a b s u =>
    have hk2 : k = 0 ∨ k = 1 := by simp [kids] at hk; omega
    rcases hk2 with rfl | rfl
    · simp only [kids, List.getD_cons_zero] at h
      simp [eval, h]
    · simp only [kids, List.getD_cons_succ, List.getD_cons_zero] at h
      cases hs : s.eval env <;> simp [eval, h, hs]

set_option maxHeartbeats 1600000 in
set_option maxRecDepth 20000 in
theorem worked_any (eao : Option Addr) (ecap en : Nat) (env : List Int) (hev : Hid (EnvOk env)) (hen : Hid (env.length = en)) (d : Nat) : ∀ (t : Tm) (v : Value) (w : World), t.size ≤ d → t.size ≤ 60 → t.Good en → t.typed = true → OpsV w v t.ops → IntsV w (.slice eao en ecap) env →
    Calls Tryd.prog 69 #[v, .slice eao en ecap] w fun e w' => e = .returned (.tuple #[.int .i64 (wkN (t.eval env)), .int .i64 (wkC (t.eval env))]) ∧ Below w.heap.size w w' := by
  induction d with
  | zero => intro t v w hd; have := t.size_pos; omega
  | succ d ih =>
    intro t v w hd h60 hg hty hV hE
    have hsp := splitOf_any v t.ops w hV
    rw [splitL_tree hg.wf h60, tree_code hg.wf h60] at hsp
    obtain ⟨i0, hi, hz0, hz1, hz2⟩ := info_parts infoInt
    have HV : Hid (OpsV w v t.ops) := hV
    have HE : Hid (IntsV w (.slice eao en ecap) env) := hE
    have HGT : Hid (t.Good en ∧ t.typed = true) := ⟨hg, hty⟩
    obtain ⟨va, vn, vc, hvs⟩ : ∃ a n c, v = .slice a n c := by obtain ⟨a, c, rfl, _⟩ := hV; exact ⟨_, _, _, rfl⟩
    subst hvs
    have hk2 := t.kids_le
    have HS : Hid (∀ i, i < t.kids.length → (t.kids.getD i t).size ≤ d ∧ (t.kids.getD i t).size ≤ 60 ∧ (t.kids.getD i t).Good en ∧ (t.kids.getD i t).typed = true) := fun i hi => by
      have := t.kid_at hi
      exact ⟨by omega, by omega, hg.kid hi, ((typed_kids t).1 hty i hi).2⟩
    obtain ⟨np, hnp⟩ : ∃ np, np = t.kids.length := ⟨_, rfl⟩
    have HNP : Hid (np = t.kids.length) := hnp
    rw [← hnp] at hk2
    obtain ⟨res, hres⟩ : ∃ res, t.eval env = res := ⟨_, rfl⟩
    rw [hres]
    have HRS : Hid (t.eval env = res) := hres
    clear hV hE hnp hres hg hty
    go_enter Tryd.func69, Tryd.ntmps69
    go_wp2_with (go_at_call 86; refine hsp.mono ?_; rintro e w1 ⟨tv, rfl, hb1, ht⟩; obtain ⟨tao, tcap, htv, htat⟩ := ht; rw [List.length_map, ← HNP.out] at htv; subst htv)
    have HT := (show Hid _ from htat)
    clear htat hsp
    go_loopw [8, 9] (fun vv c wr => ∃ i : Nat, i ≤ np ∧ c = .int .i64 i ∧ wr.ownsRow w1.heap.size 3 1 vv i (List.replicate i (.int .i64 0)) ∧ Below w1.heap.size w1 wr) (fun _ c _ => np - (intOf c).toNat)
    case atStart => exact ⟨0, Nat.zero_le _, rfl, World.ownsRow_nil _ _ _ _, Below.refl _ _⟩
    case round =>
      obtain ⟨i, hile, rfl, hown, hbel⟩ := hrel
      by_cases hlt : i < np
      · have hsz := hbel.size
        go_wp2_with (at_builtin; refine wpList_append_own _ rfl (.tmp 26) (.tmp 27) 26 rfl w1.heap.size 3 i0 (.int .i64 0) 1 8 Tryd.underlying26 hi hz0 hz1 hz2 rfl (by decide) _ _ _ rfl (hown.alloc _) ⟨_, 0, none⟩ 1 1 [.int .i64 0] rfl rfl (cell_one_new _ _ _) ?c2 ?c3 ?c4 ?c5 ?_)
        case c2 => intro u hu; simp at hu; subst hu; rfl
        case c3 => unfold maxLen; omega
        case c4 => omega
        case c5 => simp; omega
        intro v' w4 hown' hgrow _
        have hb4 : Below w1.heap.size w1 w4 := (hbel.alloc (by omega) _).grown hgrow (by simp; omega) (fun q hq => (hown.lt q hq).1)
        have ho4 : w4.ownsRow w1.heap.size 3 1 v' (i + 1) (List.replicate (i + 1) (.int .i64 0)) := by
          rw [List.replicate_succ']; exact hown'
        clear hown' hgrow hown
        go_wp2
        go_roundw
        case rel => exact ⟨i + 1, by omega, by go_num, ho4, hb4⟩
        case measure => simp [intOf]; omega
      · have hin : i = np := by omega
        subst hin
        clear hlt hile
        generalize wr = wo at *
        go_wp2_with fail
        obtain ⟨vao, vcap, rfl⟩ := owns_slice hown
        have HR0 : Hid (RowF t env w1.heap.size i vao wo i) := by
          show RowF _ _ _ _ _ _ _
          rcases hown.2 with ⟨h1, h2⟩ | ⟨g, cap, cur, h1, h2, h3, h4⟩
          · exact .inl h2
          · injection h1 with e1 e2 e3
            refine .inr ⟨g, e1, h2, (Array.getElem?_eq_some_iff.1 h3).1, fun j hj => ⟨by simp [World.frozen?, h3], ?_⟩, fun j hkj hj => by omega⟩
            exact ⟨.int .i64 0, by rw [e1, e3] at hown; rw [hown.cellAt j (by omega)]; simp [hj]⟩
        have HBo : Hid (Below w1.heap.size w1 wo) := hbel
        clear hown hbel
        go_loopw [10] (fun c wr => ∃ k : Nat, k ≤ i ∧ c = .int .i64 ((k : Int) - 1) ∧ Below w1.heap.size w1 wr ∧ Hid (RowF t env w1.heap.size i vao wr k)) (fun c _ => ((intOf c) + 1).toNat)
        case atStart => exact ⟨i, Nat.le_refl _, by go_num, HBo.out, HR0.out⟩
        case round =>
          obtain ⟨k, hki, rfl, hbel, HR⟩ := hrel
          by_cases hk : 0 < k
          · obtain ⟨k, rfl⟩ : ∃ k', k = k' + 1 := ⟨k - 1, by omega⟩
            rw [show (((k + 1 : Nat) : Int) - 1) = (k : Int) by omega]
            have hltk : k < t.kids.length := by rw [← HNP.out]; omega
            obtain ⟨tb, toff, rfl, hbl, hcs⟩ := HT.out (by intro h; have := congrArg List.length h; rw [List.length_map] at this; simp at this; rw [this] at hltk; simp at hltk)
            obtain ⟨u, hu, hou⟩ := hcs k (by rw [List.length_map]; exact hltk)
            have hgd : (t.kids.map ops).getD k [] = (t.kids.getD k t).ops := by
              rw [List.getD_eq_getElem?_getD, List.getElem?_map, List.getD_eq_getElem?_getD, List.getElem?_eq_getElem hltk]
              rfl
            rw [hgd] at hou
            obtain ⟨hs1, hs2, hs3, hs4⟩ := HS.out k hltk
            have hbw := hb1.trans (hbel.mono hb1.size)
            have hrec := ih (t.kids.getD k t) u wr hs1 hs2 hs3 hs4 (hou.below hbel) (HE.out.below hbw)
            clear ih
            have hcu := (hbel.cell (p := ⟨tb, toff + k, none⟩) hbl).trans hu
            obtain ⟨ua, un, uc, hus⟩ : ∃ a n c, u = .slice a n c := by obtain ⟨a, c, rfl, _⟩ := hou; exact ⟨_, _, _, rfl⟩
            subst hus
            have HBw : Hid (Below w.heap.size w wr) := hbw
            have HBe : Hid (Below w1.heap.size w1 wr) := hbel
            cases hx : (t.kids.getD k t).eval env with
            | none =>
              rw [hx] at hrec
              have HX : Hid (res = none) := by
                show _ = _
                rw [← HRS.out]
                exact eval_kid_none hltk hx
              simp only [wkN, wkC] at hrec
              clear hgd hou hu hcs hs1 hs2 hs3 hs4 hx hbel hbw
              go_wp2_with (go_at_call 69; refine hrec.mono ?_; rintro e w2 ⟨rfl, hb2⟩)
              go_ret2
              rw [HX.out]
              exact ⟨rfl, HBw.out.trans (hb2.mono HBw.out.size)⟩
            | some x =>
              rw [hx] at hrec
              simp only [wkN, wkC] at hrec
              obtain ⟨g, rfl, hg1, hg2, hg3, _⟩ := HR.out.resolve_left (by omega)
              have HX : Hid ((t.kids.getD k t).eval env = some x) := hx
              have HFZ := (show Hid _ from hg3 k (by omega))
              clear hgd hou hu hcs hs1 hs2 hs3 hs4 hx hbel hbw hg3
              go_wp2_with (go_at_call 69; refine hrec.mono ?_; rintro e w2 ⟨rfl, hb2⟩; obtain ⟨hf0, u0, hc0⟩ := HFZ.out; have hf2 := (hb2.frozen (p := ⟨g, k, none⟩) hg2).trans hf0; have hc2 := (hb2.cell (p := ⟨g, k, none⟩) hg2).trans hc0)
              go_roundw
              case rel => exact ⟨k, by omega, by go_num, (HBe.out.trans (hb2.mono HBe.out.size)).setCell (p := ⟨g, k, none⟩) hg1 _, RowF.store (HR.out.later hb2) (by omega) HX.out⟩
              case measure => simp [intOf]
          · have hk0 : k = 0 := by omega
            subst hk0
            have hbw := hb1.trans (hbel.mono hb1.size)
            obtain ⟨bo, bcap, hbe, _, hbh⟩ := HV.out
            obtain ⟨b, off, rfl, hblt, hbat⟩ := hbh t.ops_ne
            injection hbe with e1 e2 e3
            subst e1 e2 e3
            have hhd := hbat 0 (by rw [ops_length]; exact t.size_pos)
            rw [t.ops_head] at hhd
            simp only [Nat.zero_mul, Nat.add_zero] at hhd
            have c0 := (hbw.cell (p := ⟨b, off, none⟩) hblt).trans hhd.1
            have c1 := (hbw.cell (p := ⟨b, off + 1, none⟩) hblt).trans hhd.2
            have hln : 0 < t.ops.length := by rw [ops_length]; exact t.size_pos
            generalize hol : t.ops.length = ol at *
            have HHE : Hid (IntsV wr (.slice eao en ecap) env) := HE.out.below hbw
            have hrow := HR.out
            clear hbat hbh hol hhd HV HT HS HR HR0 HBo ih hk hki
            cases t with
            | leaf k v =>
              have hi0 : i = 0 := HNP.out
              subst hi0
              simp only [kind, val] at c0 c1
              have HRv : Hid (res = some (if k = 1 then v else if k = 2 then env.getD v.toNat 0 else if k = 11 then 1 else 0)) := HRS.out.symm
              have hgd : (k = 1 ∧ -1000 ≤ v ∧ v ≤ 1000) ∨ (k = 2 ∧ 0 ≤ v ∧ v ≤ (en : Int) - 1) ∨ ((k = 11 ∨ k = 12) ∧ v = 0) := HGT.out.1
              clear HRS HGT HNP hrow
              rcases hgd with ⟨rfl, hv1, hv2⟩ | ⟨rfl, hv1, hv2⟩ | ⟨rfl | rfl, rfl⟩
              · have hin := fun w => in_any v (-1000000) 1000000 w
                rw [decide_eq_true (show -1000000 ≤ v ∧ v ≤ 1000000 by omega)] at hin
                go_wp2_with (go_at_call 26; refine (hin _).mono ?_; rintro e w2 ⟨rfl, rfl⟩)
                go_ret2
                rw [HRv.out]
                exact ⟨rfl, hbw⟩
              · obtain ⟨j, rfl⟩ : ∃ j : Nat, v = (j : Int) := ⟨v.toNat, by omega⟩
                have hj : j < env.length := by rw [hen.out]; omega
                obtain ⟨eb, eoff, hea, _, hec⟩ := (show IntsV wr (.slice eao en ecap) env from HHE.out) |> fun h => IntsV.atE h hj
                subst hea
                have hb := hev.out j hj
                have HEV : Hid (res = some (env.getD j 0)) := by show _ = _; rw [HRv.out]; simp
                generalize env.getD j 0 = y at *
                have hin := fun w => in_any y (-1000000) 1000000 w
                rw [decide_eq_true hb] at hin
                have hj0 : (0 : Int) ≤ (j : Int) := Int.natCast_nonneg _
                have hj1 : (j : Int) < (en : Int) := by omega
                clear HRv HHE
                go_wp2_with (go_at_call 26; refine (hin _).mono ?_; rintro e w2 ⟨rfl, rfl⟩)
                go_ret2
                rw [HEV.out]
                exact ⟨rfl, hbw⟩
              · have hin := fun w => in_any 1 (-1000000) 1000000 w
                rw [decide_eq_true (by omega)] at hin
                go_wp2_with (go_at_call 26; refine (hin _).mono ?_; rintro e w2 ⟨rfl, rfl⟩)
                go_ret2
                rw [HRv.out]
                exact ⟨rfl, hbw⟩
              · have hin := fun w => in_any 0 (-1000000) 1000000 w
                rw [decide_eq_true (by omega)] at hin
                go_wp2_with (go_at_call 26; refine (hin _).mono ?_; rintro e w2 ⟨rfl, rfl⟩)
                go_ret2
                rw [HRv.out]
                exact ⟨rfl, hbw⟩
            | un k v a =>
              have hi0 : i = 1 := HNP.out
              subst hi0
              obtain ⟨g, rfl, hg1, hg2, _, hg4⟩ := hrow.resolve_left (by omega)
              obtain ⟨x, hx, cx⟩ := hg4 0 (Nat.le_refl _) (by omega)
              simp only [kids, List.getD_cons_zero] at hx
              obtain ⟨hgk, hgv, hga⟩ := HGT.out.1
              have hty := HGT.out.2
              simp only [typed, Bool.and_eq_true, beq_iff_eq] at hty
              subst hgk hgv
              have hxx := (eval_le hev.out hen.out hga hty.2 x hx).2 (by rw [hty.1]; rfl)
              have HRv : Hid (res = some (1 - x)) := by show _ = _; rw [← HRS.out]; simp [eval, hx]
              simp only [kind, val] at c0 c1
              clear HRS HGT HNP hrow hg4 hx hga hty HHE
              rcases hxx with rfl | rfl
              · have hin := fun w => in_any 1 (-1000000) 1000000 w
                rw [decide_eq_true (by omega)] at hin
                go_wp2_with (go_at_call 26; refine (hin _).mono ?_; rintro e w2 ⟨rfl, rfl⟩)
                go_ret2
                rw [HRv.out]
                exact ⟨rfl, hbw⟩
              · have hin := fun w => in_any 0 (-1000000) 1000000 w
                rw [decide_eq_true (by omega)] at hin
                go_wp2_with (go_at_call 26; refine (hin _).mono ?_; rintro e w2 ⟨rfl, rfl⟩)
                go_ret2
                rw [HRv.out]
                exact ⟨rfl, hbw⟩
            | bi k v a a' =>
              have hi0 : i = 2 := HNP.out
              subst hi0
              obtain ⟨g, rfl, hg1, hg2, _, hg4⟩ := hrow.resolve_left (by omega)
              obtain ⟨x, hx, cx⟩ := hg4 0 (Nat.zero_le _) (by omega)
              obtain ⟨y, hy, cy⟩ := hg4 1 (Nat.zero_le _) (by omega)
              simp only [kids, List.getD_cons_zero, List.getD_cons_succ] at hx hy
              obtain ⟨hk3, hk9, hgv, hga, hga'⟩ := HGT.out.1
              have hty := HGT.out.2
              simp only [typed, Bool.and_eq_true, beq_iff_eq] at hty
              subst hgv
              have hxb := eval_le hev.out hen.out hga hty.1.2 x hx
              have hyb := eval_le hev.out hen.out hga' hty.2.2 y hy
              rw [hty.1.1] at hxb
              rw [hty.2.1] at hyb
              have HRv : Hid (res = lid (bin k x y)) := by show _ = _; rw [← HRS.out]; simp [eval, hx, hy]
              simp only [kind, val] at c0 c1
              obtain ⟨⟨hx1, hx2⟩, hxt⟩ := hxb
              obtain ⟨⟨hy1, hy2⟩, hyt⟩ := hyb
              clear HRS HGT HNP hrow hg4 hx hy hga hga' hty HHE
              have hm1 : -1000000000000 ≤ x * y ∧ x * y ≤ 1000000000000 := mul_big ⟨hx1, hx2⟩ ⟨hy1, hy2⟩
              have hkk : k = 3 ∨ k = 4 ∨ k = 5 ∨ k = 6 ∨ k = 7 ∨ k = 8 ∨ k = 9 := by omega
              rcases hkk with rfl | rfl | rfl | rfl | rfl | rfl | rfl
              · have hw : IntKind.i64.wrap (x + y) = x + y := wrE (by omega) (by omega)
                have hbn : bin 3 x y = x + y := rfl
                rw [hbn] at HRv
                have hin := fun w => in_any (x + y) (-1000000) 1000000 w
                by_cases hr : -1000000 ≤ x + y ∧ x + y ≤ 1000000
                · rw [decide_eq_true hr] at hin
                  have HR2 : Hid (res = some (x + y)) := by show _ = _; rw [HRv.out]; unfold lid; rw [if_pos hr]
                  clear HRv hbn
                  go_wp2_with fail
                  go_quiet (fail)
                  go_wp2_with (go_at_call 26; refine (hin _).mono ?_; rintro e w2 ⟨rfl, rfl⟩)
                  go_ret2
                  rw [HR2.out]
                  exact ⟨rfl, below_drewN hbw _⟩
                · rw [decide_eq_false hr] at hin
                  have HR2 : Hid (res = none) := by show _ = _; rw [HRv.out]; unfold lid; rw [if_neg hr]
                  clear HRv hbn hr
                  go_wp2_with fail
                  go_quiet (fail)
                  go_wp2_with (go_at_call 26; refine (hin _).mono ?_; rintro e w2 ⟨rfl, rfl⟩)
                  go_ret2
                  rw [HR2.out]
                  exact ⟨rfl, below_drewN hbw _⟩
              · have hw : IntKind.i64.wrap (x - y) = x - y := wrE (by omega) (by omega)
                have hbn : bin 4 x y = x - y := rfl
                rw [hbn] at HRv
                have hin := fun w => in_any (x - y) (-1000000) 1000000 w
                by_cases hr : -1000000 ≤ x - y ∧ x - y ≤ 1000000
                · rw [decide_eq_true hr] at hin
                  have HR2 : Hid (res = some (x - y)) := by show _ = _; rw [HRv.out]; unfold lid; rw [if_pos hr]
                  clear HRv hbn
                  go_wp2_with fail
                  go_quiet (fail)
                  go_wp2_with (go_at_call 26; refine (hin _).mono ?_; rintro e w2 ⟨rfl, rfl⟩)
                  go_ret2
                  rw [HR2.out]
                  exact ⟨rfl, below_drewN hbw _⟩
                · rw [decide_eq_false hr] at hin
                  have HR2 : Hid (res = none) := by show _ = _; rw [HRv.out]; unfold lid; rw [if_neg hr]
                  clear HRv hbn hr
                  go_wp2_with fail
                  go_quiet (fail)
                  go_wp2_with (go_at_call 26; refine (hin _).mono ?_; rintro e w2 ⟨rfl, rfl⟩)
                  go_ret2
                  rw [HR2.out]
                  exact ⟨rfl, below_drewN hbw _⟩
              · have hw : IntKind.i64.wrap (x * y) = x * y := wrE (by omega) (by omega)
                have hbn : bin 5 x y = x * y := rfl
                rw [hbn] at HRv
                have hin := fun w => in_any (x * y) (-1000000) 1000000 w
                by_cases hr : -1000000 ≤ x * y ∧ x * y ≤ 1000000
                · rw [decide_eq_true hr] at hin
                  have HR2 : Hid (res = some (x * y)) := by show _ = _; rw [HRv.out]; unfold lid; rw [if_pos hr]
                  clear HRv hbn
                  go_wp2_with fail
                  go_quiet (fail)
                  go_wp2_with (go_at_call 26; refine (hin _).mono ?_; rintro e w2 ⟨rfl, rfl⟩)
                  go_ret2
                  rw [HR2.out]
                  exact ⟨rfl, below_drewN hbw _⟩
                · rw [decide_eq_false hr] at hin
                  have HR2 : Hid (res = none) := by show _ = _; rw [HRv.out]; unfold lid; rw [if_neg hr]
                  clear HRv hbn hr
                  go_wp2_with fail
                  go_quiet (fail)
                  go_wp2_with (go_at_call 26; refine (hin _).mono ?_; rintro e w2 ⟨rfl, rfl⟩)
                  go_ret2
                  rw [HR2.out]
                  exact ⟨rfl, below_drewN hbw _⟩
              · have hbn : bin 6 x y = if x = y then 1 else 0 := rfl
                rw [hbn] at HRv
                by_cases hc : x = y
                · have hin := fun w => in_any 1 (-1000000) 1000000 w
                  rw [decide_eq_true (by omega)] at hin
                  have HR2 : Hid (res = some 1) := by show _ = _; rw [HRv.out, if_pos hc]; rfl
                  clear HRv hbn
                  subst hc
                  go_wp2_with fail
                  go_quiet (fail)
                  go_wp2_with (go_at_call 26; refine (hin _).mono ?_; rintro e w2 ⟨rfl, rfl⟩)
                  go_ret2
                  rw [HR2.out]
                  exact ⟨rfl, below_drewN hbw _⟩
                · have hin := fun w => in_any 0 (-1000000) 1000000 w
                  rw [decide_eq_true (by omega)] at hin
                  have HR2 : Hid (res = some 0) := by show _ = _; rw [HRv.out, if_neg hc]; rfl
                  have hne : (x == y) = false := by simpa using hc
                  clear HRv hbn
                  go_wp2_with fail
                  go_quiet (fail)
                  go_wp2_with (go_at_call 26; refine (hin _).mono ?_; rintro e w2 ⟨rfl, rfl⟩)
                  go_ret2
                  rw [HR2.out]
                  exact ⟨rfl, below_drewN hbw _⟩
              · have hbn : bin 7 x y = if x < y then 1 else 0 := rfl
                rw [hbn] at HRv
                by_cases hc : x < y
                · have hin := fun w => in_any 1 (-1000000) 1000000 w
                  rw [decide_eq_true (by omega)] at hin
                  have HR2 : Hid (res = some 1) := by show _ = _; rw [HRv.out, if_pos hc]; rfl
                  clear HRv hbn
                  skip
                  go_wp2_with fail
                  go_quiet (fail)
                  go_wp2_with (go_at_call 26; refine (hin _).mono ?_; rintro e w2 ⟨rfl, rfl⟩)
                  go_ret2
                  rw [HR2.out]
                  exact ⟨rfl, below_drewN hbw _⟩
                · have hin := fun w => in_any 0 (-1000000) 1000000 w
                  rw [decide_eq_true (by omega)] at hin
                  have HR2 : Hid (res = some 0) := by show _ = _; rw [HRv.out, if_neg hc]; rfl
                  skip
                  clear HRv hbn
                  go_wp2_with fail
                  go_quiet (fail)
                  go_wp2_with (go_at_call 26; refine (hin _).mono ?_; rintro e w2 ⟨rfl, rfl⟩)
                  go_ret2
                  rw [HR2.out]
                  exact ⟨rfl, below_drewN hbw _⟩
              · have hxx := hxt rfl
                have hyy := hyt rfl
                rcases hxx with rfl | rfl <;> rcases hyy with rfl | rfl
                · have hin := fun w => in_any 0 (-1000000) 1000000 w
                  rw [decide_eq_true (by omega)] at hin
                  have HR2 : Hid (res = some 0) := by show _ = _; rw [HRv.out]; rfl
                  clear HRv
                  go_wp2_with (go_at_call 26; refine (hin _).mono ?_; rintro e w2 ⟨rfl, rfl⟩)
                  go_ret2
                  rw [HR2.out]
                  exact ⟨rfl, hbw⟩
                · have hin := fun w => in_any 0 (-1000000) 1000000 w
                  rw [decide_eq_true (by omega)] at hin
                  have HR2 : Hid (res = some 0) := by show _ = _; rw [HRv.out]; rfl
                  clear HRv
                  go_wp2_with (go_at_call 26; refine (hin _).mono ?_; rintro e w2 ⟨rfl, rfl⟩)
                  go_ret2
                  rw [HR2.out]
                  exact ⟨rfl, hbw⟩
                · have hin := fun w => in_any 0 (-1000000) 1000000 w
                  rw [decide_eq_true (by omega)] at hin
                  have HR2 : Hid (res = some 0) := by show _ = _; rw [HRv.out]; rfl
                  clear HRv
                  go_wp2_with (go_at_call 26; refine (hin _).mono ?_; rintro e w2 ⟨rfl, rfl⟩)
                  go_ret2
                  rw [HR2.out]
                  exact ⟨rfl, hbw⟩
                · have hin := fun w => in_any 1 (-1000000) 1000000 w
                  rw [decide_eq_true (by omega)] at hin
                  have HR2 : Hid (res = some 1) := by show _ = _; rw [HRv.out]; rfl
                  clear HRv
                  go_wp2_with (go_at_call 26; refine (hin _).mono ?_; rintro e w2 ⟨rfl, rfl⟩)
                  go_ret2
                  rw [HR2.out]
                  exact ⟨rfl, hbw⟩
              · have hxx := hxt rfl
                have hyy := hyt rfl
                rcases hxx with rfl | rfl <;> rcases hyy with rfl | rfl
                · have hin := fun w => in_any 0 (-1000000) 1000000 w
                  rw [decide_eq_true (by omega)] at hin
                  have HR2 : Hid (res = some 0) := by show _ = _; rw [HRv.out]; rfl
                  clear HRv
                  go_wp2_with (go_at_call 26; refine (hin _).mono ?_; rintro e w2 ⟨rfl, rfl⟩)
                  go_ret2
                  rw [HR2.out]
                  exact ⟨rfl, hbw⟩
                · have hin := fun w => in_any 1 (-1000000) 1000000 w
                  rw [decide_eq_true (by omega)] at hin
                  have HR2 : Hid (res = some 1) := by show _ = _; rw [HRv.out]; rfl
                  clear HRv
                  go_wp2_with (go_at_call 26; refine (hin _).mono ?_; rintro e w2 ⟨rfl, rfl⟩)
                  go_ret2
                  rw [HR2.out]
                  exact ⟨rfl, hbw⟩
                · have hin := fun w => in_any 1 (-1000000) 1000000 w
                  rw [decide_eq_true (by omega)] at hin
                  have HR2 : Hid (res = some 1) := by show _ = _; rw [HRv.out]; rfl
                  clear HRv
                  go_wp2_with (go_at_call 26; refine (hin _).mono ?_; rintro e w2 ⟨rfl, rfl⟩)
                  go_ret2
                  rw [HR2.out]
                  exact ⟨rfl, hbw⟩
                · have hin := fun w => in_any 1 (-1000000) 1000000 w
                  rw [decide_eq_true (by omega)] at hin
                  have HR2 : Hid (res = some 1) := by show _ = _; rw [HRv.out]; rfl
                  clear HRv
                  go_wp2_with (go_at_call 26; refine (hin _).mono ?_; rintro e w2 ⟨rfl, rfl⟩)
                  go_ret2
                  rw [HR2.out]
                  exact ⟨rfl, hbw⟩
end Go.Proofs.YtbcjhkhndahdhaaDoor

/-
  The contract of the document's own Evaluated.
-/
namespace Go.Proofs.YtbcjhkhndahdhaaDoor
open Go.ChangeShapes Go.WideShapes Go.ChangeAt Go.RowKit Go.Deep
open Terms Tm

set_option maxHeartbeats 1600000 in
/-- THE CONTRACT OF Evaluated. -/
theorem evaluated_any (v ev : Value) (l : List (Int × Int)) (env : List Int) (t : Tm) (w : World) (hV : OpsV w v l) (hE : IntsV w ev env) (ht : endsCode (l.map Prod.fst) = 0 → t.Wf ∧ t.ops = l) :
    Calls Tryd.prog 50 #[v, ev] w fun e w' => e = .returned (.tuple #[.int .i64 (evalN l t env), .int .i64 (evalC l t env)]) ∧ Below w.heap.size w w' := by
  have hch := exprChecked_any v l env.length t w hV ht
  obtain ⟨va, vc, rfl⟩ : ∃ ao cap, v = .slice ao l.length cap := by obtain ⟨ao, cap, h, _⟩ := hV; exact ⟨ao, cap, h⟩
  obtain ⟨eao, ecap, rfl⟩ : ∃ ao cap, ev = .slice ao env.length cap := by obtain ⟨ao, cap, h, _⟩ := hE; exact ⟨ao, cap, h⟩
  by_cases hx : xcode env.length l t = 0
  · obtain ⟨h0, h6, hops, hg, htt, h60⟩ := xcode_zero hx ht
    have HWK : Hid (EnvOk env → ∀ w1, Below w.heap.size w w1 → Calls Tryd.prog 69 #[.slice va l.length vc, .slice eao env.length ecap] w1 fun e w' => e = .returned (.tuple #[.int .i64 (wkN (t.eval env)), .int .i64 (wkC (t.eval env))]) ∧ Below w1.heap.size w1 w') :=
      fun hok w1 hb => worked_any eao ecap env.length env hok rfl _ t _ w1 (Nat.le_refl _) h60 hg htt (by rw [hops]; exact hV.below hb) (hE.below hb)
    have HE : Hid (IntsV w (.slice eao env.length ecap) env) := hE
    have HBad : Hid (envBad env = true → evalN l t env = 0 ∧ evalC l t env = 2) := fun h => by
      unfold evalN evalC
      simp [hx, h]
    have HOk : Hid (envBad env = false → evalN l t env = wkN (t.eval env) ∧ evalC l t env = wkC (t.eval env)) := fun h => by
      unfold evalN evalC wkN wkC
      simp only [hx, h]
      cases t.eval env <;> simp
    rw [hx] at hch
    generalize (decide ((0 : Int) = 0) && mkT t.kind) = bb at hch
    generalize evalN l t env = rn at *
    generalize evalC l t env = rc at *
    generalize wkN (t.eval env) = kn at *
    generalize wkC (t.eval env) = kc at *
    obtain ⟨n, hn⟩ : ∃ n, n = env.length := ⟨_, rfl⟩
    have HN : Hid (n = env.length) := hn
    rw [← hn] at h6 hch HWK HE ⊢
    generalize l.length = ln at *
    clear hV hE ht hx hops hg htt h60 h0 hn
    go_enter Tryd.func50, Tryd.ntmps50
    go_wp2_with (go_at_call 68; refine hch.mono ?_; rintro e w1 ⟨rfl, hb1⟩)
    go_loopw [8] (fun i wr => ∃ k : Nat, k ≤ n ∧ i = .int .i64 k ∧ Hid (∀ j, j < k → -1000000 ≤ env.getD j 0 ∧ env.getD j 0 ≤ 1000000) ∧ wr = w1) (fun i _ => n - (intOf i).toNat)
    case atStart => exact ⟨0, Nat.zero_le _, rfl, fun j hj => by omega, rfl⟩
    case round =>
      obtain ⟨k, hk, rfl, HJ, rfl⟩ := hrel
      by_cases hlt : k < n
      · obtain ⟨b, off, rfl, hblt, hc⟩ := IntsV.atE HE.out (i := k) (by rw [← HN.out]; exact hlt)
        have hc2 := (hb1.cell (p := ⟨b, off + k, none⟩) hblt).trans hc
        have HBk : Hid (¬ (-1000000 ≤ env.getD k 0 ∧ env.getD k 0 ≤ 1000000) → rn = 0 ∧ rc = 2) := fun h => HBad.out (envBad_at (by rw [← HN.out]; exact hlt) h)
        have HJ2 : Hid (-1000000 ≤ env.getD k 0 ∧ env.getD k 0 ≤ 1000000 → ∀ j, j < k + 1 → -1000000 ≤ env.getD j 0 ∧ env.getD j 0 ≤ 1000000) := fun h j hj => by
          by_cases hjk : j = k
          · subst hjk; exact h
          · exact HJ.out j (by omega)
        generalize env.getD k 0 = y at *
        have hin := fun w => in_any y (-1000000) 1000000 w
        clear hc HJ HWK hch
        by_cases hr : -1000000 ≤ y ∧ y ≤ 1000000
        · rw [decide_eq_true hr] at hin
          have HJ3 := (show Hid _ from HJ2.out hr)
          clear HJ2 HBk hr
          go_wp2_with (go_at_call 26; refine (hin _).mono ?_; rintro e w2 ⟨rfl, rfl⟩)
          go_roundw
          case rel => exact ⟨k + 1, hlt, by go_num, HJ3, by first | rfl | trivial⟩
          case measure => simp [intOf]; omega
        · rw [decide_eq_false hr] at hin
          have HR := (show Hid _ from HBk.out hr)
          clear HJ2 HBk hr
          go_wp2_with (go_at_call 26; refine (hin _).mono ?_; rintro e w2 ⟨rfl, rfl⟩)
          go_ret2
          rw [HR.out.1, HR.out.2]
          exact ⟨rfl, hb1⟩
      · have hok : ∀ i, i < env.length → -1000000 ≤ env.getD i 0 ∧ env.getD i 0 ≤ 1000000 := fun i hi => HJ.out i (by have := HN.out; omega)
        have HR := (show Hid _ from HOk.out (envBad_ok hok))
        have hwk := HWK.out hok _ hb1
        clear HJ HWK HOk HBad hok hch
        go_wp2_with (go_at_call 69; refine hwk.mono ?_; rintro e w2 ⟨rfl, hb2⟩)
        go_ret2
        rw [HR.out.1, HR.out.2]
        exact ⟨rfl, hb1.trans (hb2.mono hb1.size)⟩
  · have h1 : evalN l t env = 0 ∧ evalC l t env = xcode env.length l t := by
      unfold evalN evalC
      simp [hx]
    rw [h1.1, h1.2]
    generalize xcode env.length l t = x at *
    rw [show (decide (x = 0) && mkT t.kind) = false by simp [hx]] at hch
    generalize env.length = n at *
    generalize l.length = ln at *
    clear hV hE ht h1
    go_enter Tryd.func50, Tryd.ntmps50
    go_wp2_with (go_at_call 68; refine hch.mono ?_; rintro e w1 ⟨rfl, hb1⟩)
    go_ret2
    exact ⟨rfl, hb1⟩
end Go.Proofs.YtbcjhkhndahdhaaDoor

/-
  The contracts of the document's own behindVar, StateCount.
-/
namespace Go.Proofs.YtbcjhkhndahdhaaDoor
open Go.ChangeShapes Go.WideShapes Go.ChangeAt Go.RowKit Go.Deep
open Terms Tm

set_option maxHeartbeats 1600000 in
theorem behindVar_any (va : Value) (ro : Option Addr) (rn rc : Nat) (l : List Vr) (a : Nat) (w : World) (hok : VarsOk l) (ha : a ≤ l.length) (hV : VarsV w va l) :
    Calls Tryd.prog 25 #[.agg #[va, .slice ro rn rc], .int .i64 ((a : Int) - 1)] w fun e w' => e = .returned (.int .i64 (segP l a)) ∧ Below w.heap.size w w' := by
  obtain ⟨ao, cap, rfl⟩ := hV.shape
  have HV : Hid (VarsV w (.slice ao l.length cap) l) := hV
  have HOK : Hid (VarsOk l) := hok
  have h6 := hok.1
  unfold segP
  obtain ⟨n, hn⟩ : ∃ n, n = l.length := ⟨_, rfl⟩
  have HN : Hid (n = l.length) := hn
  rw [← hn] at h6 ha HV ⊢
  clear hV hn hok
  have hA : Below w.heap.size w (w.alloc (.cells #[.slice ao n cap, .slice ro rn rc] 25)) := (Below.refl _ _).alloc (Nat.le_refl _) _
  go_enter Tryd.func25, Tryd.ntmps25
  go_wp2
  go_loopw [5, 6] (fun st i wr => ∃ c : Nat, a + c ≤ n ∧ i = .int .i64 ((a + c : Nat) : Int) ∧ st = .int .i64 (prodSeg l a c) ∧ ∃ d, wr = (w.alloc (.cells #[.slice ao n cap, .slice ro rn rc] 25)).drewN d) (fun _ i _ => n - (intOf i).toNat)
  case atStart => exact ⟨0, by omega, by first | rfl | (congr 1; omega) | go_num, rfl, 0, rfl⟩
  case round =>
    obtain ⟨c, hc, rfl, rfl, d, rfl⟩ := hrel
    by_cases hlt : a + c < n
    · obtain ⟨b, off, rfl, hblt, hat⟩ := HV.out.at (i := a + c) (by rw [← HN.out]; exact hlt)
      obtain ⟨c0, c1, c2, c3⟩ := hat.below hA hblt
      have hpb1 := prodSeg_pos HOK.out (a := a) (c := c) (by rw [← HN.out]; exact hc)
      have hpb2 := prodSeg_le HOK.out (a := a) (c := c) (by rw [← HN.out]; exact hc)
      have hvb := HOK.out.at (j := a + c) (by rw [← HN.out]; exact hlt)
      have HPr : Hid (prodSeg l a (c + 1) = prodSeg l a c * vspan (l.getD (a + c) vr0)) := rfl
      generalize prodSeg l a c = st at *
      generalize l.getD (a + c) vr0 = x at *
      obtain ⟨s, lo, hi, ini⟩ := x
      simp only [vspan] at c0 c1 c2 c3 HPr hvb
      obtain ⟨hv1, hv2, hv3, hv4, hv5, hv6, hv7⟩ := hvb
      have hm1 : 1 ≤ st * (hi - lo + 1) := by have := Int.mul_le_mul hpb1 hv1 (by omega) (by omega); simpa using this
      have hm2 : st * (hi - lo + 1) ≤ 262144 := by have := Int.mul_le_mul hpb2 hv2 (by omega) (by omega); simpa using this
      obtain ⟨k, hk⟩ : ∃ k, k = a + c := ⟨_, rfl⟩
      have HK : Hid (k = a + c) := hk
      rw [← hk] at hlt c0 c1 c2 c3 ⊢
      clear hat hk
      have hi0 : (0 : Int) ≤ (k : Int) := Int.natCast_nonneg _
      have hi1 : (k : Int) < (n : Int) := by omega
      have hw1 : IntKind.i64.wrap (hi - lo) = hi - lo := wr64 (by omega) (by omega)
      have hw2 : IntKind.i64.wrap (hi - lo + 1) = hi - lo + 1 := wr64 (by omega) (by omega)
      have hw3 : IntKind.i64.wrap (st * (hi - lo + 1)) = st * (hi - lo + 1) := wr64 (by omega) (by omega)
      go_wp2_with fail
      go_quiet (fail)
      go_wp2_with fail
      go_roundw
      case rel => exact ⟨c + 1, by have := HK.out; omega, by have := HK.out; congr 1; omega, by rw [HPr.out], _, rfl⟩
      case measure => simp [intOf]; omega
    · have hce : c = n - a := by omega
      subst hce
      go_wp2_with fail
      go_ret
      exact ⟨rfl, below_drewN hA _⟩
/-- THE CONTRACT OF StateCount. -/
theorem rcount_any (va vr : Value) (m : Mo) (w : World) (hV : ModelV w va vr m) :
    Calls Tryd.prog 13 #[.agg #[va, vr]] w fun e w' => e = .returned (.tuple #[.int .i64 (if mcode m = 0 then prodTo m.vars m.vars.length else 0), .int .i64 (mcode m)]) ∧ Below w.heap.size w w' := by
  have hA : ∀ o, Below w.heap.size w (w.alloc o) := fun o => (Below.refl _ _).alloc (Nat.le_refl _) o
  have hch := fun o => rmodel_any va vr m (w.alloc o) (hV.below (hA o))
  have HV : Hid (ModelV w va vr m) := hV
  obtain ⟨ao, cap, rfl⟩ := hV.1.shape
  obtain ⟨ro, rc, rfl⟩ := hV.2.shape
  clear hV
  by_cases hz : mcode m = 0
  · have hok := mcode_vars hz
    have hcn := (fun w1 (hb : Below w.heap.size w w1) => behindVar_any _ ro m.rules.length rc m.vars 0 w1 hok (Nat.zero_le _) (HV.out.1.below hb))
    rw [segP_zero, show ((0 : Nat) : Int) - 1 = -1 by decide] at hcn
    rw [hz] at hch ⊢
    rw [if_pos rfl]
    generalize prodTo m.vars m.vars.length = N at *
    generalize m.vars.length = n at *
    generalize m.rules.length = rn at *
    clear hz hok HV
    go_enter Tryd.func13, Tryd.ntmps13
    go_wp2_with (first | (go_at_call 24; refine (hch _).mono ?_; rintro e w1 ⟨rfl, hb1⟩; have hcb0 : w1.cell? ⟨w.heap.size, 0, none⟩ = some (.slice ao n cap) := (hb1.cell (p := ⟨w.heap.size, 0, none⟩) (by simp)).trans (by simp [go_sem]); have hcb1 : w1.cell? ⟨w.heap.size, 1, none⟩ = some (.slice ro rn rc) := (hb1.cell (p := ⟨w.heap.size, 1, none⟩) (by simp)).trans (by simp [go_sem]); have hbw := (hA _).trans (hb1.mono (hA _).size)) | (go_at_call 25; refine (hcn _ hbw).mono ?_; rintro e w2 ⟨rfl, hb2⟩))
    go_ret2
    exact ⟨rfl, hbw.trans (hb2.mono hbw.size)⟩
  · rw [if_neg hz]
    generalize mcode m = x at *
    generalize m.vars.length = n at *
    generalize m.rules.length = rn at *
    clear HV
    go_enter Tryd.func13, Tryd.ntmps13
    go_wp2_with (go_at_call 24; refine (hch _).mono ?_; rintro e w1 ⟨rfl, hb1⟩)
    go_ret2
    exact ⟨rfl, (hA _).trans (hb1.mono (hA _).size)⟩
end Go.Proofs.YtbcjhkhndahdhaaDoor

/-
  The contract of the document's own CodeOf.
-/
namespace Go.Proofs.YtbcjhkhndahdhaaDoor
open Go.ChangeShapes Go.WideShapes Go.ChangeAt Go.RowKit Go.Deep
open Terms Tm

theorem rcode_bad (va vr vv : Value) (m : Mo) (w : World) (hV : ModelV w va vr m) (io : Option Addr) (il ic : Nat) (hv : vv = .slice io il ic) (h : mcode m ≠ 0) :
    Calls Tryd.prog 23 #[.agg #[va, vr], vv] w fun e w' => e = .returned (.tuple #[.int .i64 0, .int .i64 (mcode m)]) ∧ Below w.heap.size w w' := by
  subst hv
  have hA : ∀ o, Below w.heap.size w (w.alloc o) := fun o => (Below.refl _ _).alloc (Nat.le_refl _) o
  have hch := fun o => rmodel_any va vr m (w.alloc o) (hV.below (hA o))
  obtain ⟨ao, cap, rfl⟩ := hV.1.shape
  obtain ⟨ro, rc, rfl⟩ := hV.2.shape
  generalize mcode m = x at *
  generalize m.vars.length = n at *
  generalize m.rules.length = rn at *
  clear hV
  go_enter Tryd.func23, Tryd.ntmps23
  go_wp2_with (go_at_call 24; refine (hch _).mono ?_; rintro e w1 ⟨rfl, hb1⟩)
  go_ret2
  exact ⟨rfl, (hA _).trans (hb1.mono (hA _).size)⟩
theorem rcode_len (va vr vv : Value) (m : Mo) (w : World) (hV : ModelV w va vr m) (io : Option Addr) (il ic : Nat) (hv : vv = .slice io il ic) (h : mcode m = 0) (hl : il ≠ m.vars.length) :
    Calls Tryd.prog 23 #[.agg #[va, vr], vv] w fun e w' => e = .returned (.tuple #[.int .i64 0, .int .i64 9]) ∧ Below w.heap.size w w' := by
  subst hv
  have hA : ∀ o, Below w.heap.size w (w.alloc o) := fun o => (Below.refl _ _).alloc (Nat.le_refl _) o
  have hch := fun o => rmodel_any va vr m (w.alloc o) (hV.below (hA o))
  rw [h] at hch
  obtain ⟨ao, cap, rfl⟩ := hV.1.shape
  obtain ⟨ro, rc, rfl⟩ := hV.2.shape
  generalize m.vars.length = n at *
  generalize m.rules.length = rn at *
  have hne : ((il : Int) == (n : Int)) = false := by rw [beq_eq_false_iff_ne]; omega
  clear hV h
  go_enter Tryd.func23, Tryd.ntmps23
  go_wp2_with (go_at_call 24; refine (hch _).mono ?_; rintro e w1 ⟨rfl, hb1⟩; have hcb : w1.cell? ⟨w.heap.size, 0, none⟩ = some (.slice ao n cap) := (hb1.cell (p := ⟨w.heap.size, 0, none⟩) (by simp)).trans (by simp [go_sem]))
  all_goals first | (exfalso; omega) | go_ret2
  all_goals exact ⟨rfl, (hA _).trans (hb1.mono (hA _).size)⟩

set_option maxHeartbeats 3200000 in
theorem rcode_loop (va vr vv : Value) (m : Mo) (vals : List Int) (w : World) (hV : ModelV w va vr m) (hI : IntsV w vv vals) (h : mcode m = 0) (hlen : vals.length = m.vars.length) :
    Calls Tryd.prog 23 #[.agg #[va, vr], vv] w fun e w' => e = .returned (.tuple #[.int .i64 (cval m vals), .int .i64 (ccode m vals)]) ∧ Below w.heap.size w w' := by
  have hA : ∀ o, Below w.heap.size w (w.alloc o) := fun o => (Below.refl _ _).alloc (Nat.le_refl _) o
  have hch := fun o => rmodel_any va vr m (w.alloc o) (hV.below (hA o))
  rw [h] at hch
  have hok := mcode_vars h
  have HOK : Hid (VarsOk m.vars) := hok
  have h6 := hok.1
  obtain ⟨ao, cap, rfl⟩ := hV.1.shape
  obtain ⟨ro, rc, rfl⟩ := hV.2.shape
  obtain ⟨io, icap, rfl⟩ := hI.shape
  have hbv := (fun w1 (hb : Below w.heap.size w w1) a (ha : a ≤ m.vars.length) => behindVar_any (.slice ao m.vars.length cap) ro m.rules.length rc m.vars a w1 hok ha (hV.1.below hb))
  have HBV := (show Hid _ from hbv)
  have HV : Hid (VarsV w (.slice ao m.vars.length cap) m.vars) := hV.1
  have HI : Hid (IntsV w (.slice io vals.length icap) vals) := hI
  have HYes : Hid ((∀ i, i < m.vars.length → inB m.vars vals i) → ccode m vals = 0 ∧ cval m vals = sumTo m.vars vals m.vars.length) := fun hin => by
    have h1 := ccode_yes h ⟨hlen, hin⟩
    exact ⟨h1, by unfold cval; rw [if_pos h1, sum_all]⟩
  have HNo : Hid (∀ k, k < m.vars.length → ¬ inB m.vars vals k → ccode m vals = 9 ∧ cval m vals = 0) := fun k hk hin => by
    have h1 := ccode_no h (vals := vals) (fun h => hin (h.2 k hk))
    exact ⟨h1, by unfold cval; rw [h1, if_neg (by decide)]⟩
  have HLen : Hid (vals.length = m.vars.length) := hlen
  obtain ⟨n, hn⟩ : ∃ n, n = m.vars.length := ⟨_, rfl⟩
  have HN : Hid (n = m.vars.length) := hn
  rw [hlen] at HI ⊢
  rw [← hn] at h6 hch HBV HV HI HYes HNo ⊢
  generalize m.rules.length = rn at *
  generalize ccode m vals = cc at *
  generalize cval m vals = cv at *
  clear hV hI hbv hlen hn hok h
  go_enter Tryd.func23, Tryd.ntmps23
  go_wp2_with (go_at_call 24; refine (hch _).mono ?_; rintro e w1 ⟨rfl, hb1⟩; have hcb : w1.cell? ⟨w.heap.size, 0, none⟩ = some (.slice ao n cap) := (hb1.cell (p := ⟨w.heap.size, 0, none⟩) (by simp)).trans (by simp [go_sem]))
  have hb1' : Below (w.heap.size + 1) (w.alloc (.cells #[.slice ao n cap, .slice ro rn rc] 25)) w1 := hb1.mono (by simp)
  clear hch hcb hb1
  go_loopw [7, 8] (fun st i wr => ∃ k : Nat, k ≤ n ∧ i = .int .i64 k ∧ st = .int .i64 (sumTo m.vars vals k) ∧ Hid (∀ i, i < k → inB m.vars vals i) ∧ Below (w.heap.size + 1) (w.alloc (.cells #[.slice ao n cap, .slice ro rn rc] 25)) wr) (fun _ i _ => n - (intOf i).toNat)
  case atStart => exact ⟨0, Nat.zero_le _, rfl, rfl, fun j hj => by omega, hb1'⟩
  case round =>
    obtain ⟨k, hk, rfl, rfl, HJ, hbelB⟩ := hrel
    clear hb1'
    have hbel := (hA _).trans (hbelB.mono (Nat.le_succ _))
    have hszb : w.heap.size + 1 ≤ wr.heap.size := by have := hbelB.size; simp at this; omega
    have hlb : w.heap.size < wr.heap.size := by omega
    have cb := (hbelB.cell (p := ⟨w.heap.size, 0, none⟩) (by simp)).trans (show _ = some (.slice ao n cap) by simp [go_sem])
    have cb1 := (hbelB.cell (p := ⟨w.heap.size, 1, none⟩) (by simp)).trans (show _ = some (.slice ro rn rc) by simp [go_sem])
    by_cases hlt : k < n
    · obtain ⟨b, off, rfl, hblt, hat⟩ := HV.out.at (i := k) (by rw [← HN.out]; exact hlt)
      obtain ⟨ib, ioff, rfl, hilt, hic⟩ := HI.out.at (i := k) (by rw [HLen.out, ← HN.out]; exact hlt)
      obtain ⟨c0, c1, c2, c3⟩ := hat.below hbel hblt
      have hic2 := (hbel.cell (p := ⟨ib, ioff + k, none⟩) hilt).trans hic
      have HNk := (show Hid _ from HNo.out k hlt)
      unfold inB at HNk
      have hsb := sum_bounds HOK.out (k := k) (by rw [← HN.out]; exact hk) HJ.out
      have hgb := segP_bounds HOK.out (i := k + 1) (by rw [← HN.out]; exact hlt)
      have hvb := HOK.out.at (j := k) (by rw [← HN.out]; exact hlt)
      have HPr : Hid (sumTo m.vars vals (k + 1) = sumTo m.vars vals k + (vals.getD k 0 - (m.vars.getD k vr0).lo) * segP m.vars (k + 1)) := rfl
      have HJ3 : Hid ((m.vars.getD k vr0).lo ≤ vals.getD k 0 ∧ vals.getD k 0 ≤ (m.vars.getD k vr0).hi → ∀ i, i < k + 1 → inB m.vars vals i) := fun h i hi => by
        by_cases hik : i = k
        · subst hik; exact h
        · exact HJ.out i (by omega)
      have hbvk := (fun w1 hb => HBV.out w1 hb (k + 1) (by omega))
      rw [show ((k + 1 : Nat) : Int) - 1 = (k : Int) by omega] at hbvk
      generalize sumTo m.vars vals k = st at *
      generalize segP m.vars (k + 1) = sg at *
      generalize m.vars.getD k vr0 = x at *
      generalize vals.getD k 0 = y at *
      obtain ⟨s, lo, hi, ini⟩ := x
      simp only [vspan] at c0 c1 c2 c3 HNk HJ3 HPr hvb
      obtain ⟨hv1, hv2, hv3, hv4, hv5, hv6, hv7⟩ := hvb
      clear hat hic HJ
      have hi0 : (0 : Int) ≤ (k : Int) := Int.natCast_nonneg _
      have hi1 : (k : Int) < (n : Int) := by omega
      have hin0 := fun w => in_any y lo hi w
      have hbo : b < wr.heap.size := by omega
      have hio : ib < wr.heap.size := by omega
      by_cases hin : lo ≤ y ∧ y ≤ hi
      · rw [decide_eq_true hin] at hin0
        have HJ4 := (show Hid _ from HJ3.out hin)
        obtain ⟨hy1, hy2⟩ := hin
        have hm1 : 0 ≤ (y - lo) * sg := Int.mul_nonneg (by omega) (by omega)
        have hm2 : (y - lo) * sg ≤ 262144 := by
          have := Int.mul_le_mul (show y - lo ≤ 64 by omega) hgb.2 (by omega) (by omega); simpa using this
        have hw1 : IntKind.i64.wrap (y - lo) = y - lo := wr64 (by omega) (by omega)
        have hw2 : IntKind.i64.wrap ((y - lo) * sg) = (y - lo) * sg := wr64 (by omega) (by omega)
        have hw3 : IntKind.i64.wrap (st + (y - lo) * sg) = st + (y - lo) * sg := wr64 (by omega) (by omega)
        clear HJ3 HNk HNo HYes HBV
        go_wp2_with fail
        go_quiet ((go_at_call 26; exact Calls.quiet_of_same (hin0 _)))
        go_wp2_with fail
        have hB0 : Below wr.heap.size wr (wr.drewN nq) := below_drewN (Below.refl _ _) _
        have hbvk2 := fun w2 (hb2 : Below wr.heap.size wr w2) => hbvk w2 (hbel.trans (hb2.mono hbel.size))
        have hS0 : ∀ w', Below wr.heap.size wr w' → w'.cell? ⟨w.heap.size, 0, none⟩ = some (.slice (some ⟨b, off, none⟩) n cap) ∧ w'.cell? ⟨w.heap.size, 1, none⟩ = some (.slice ro rn rc) ∧ w'.cell? ⟨b, off + k * 4 + 1, none⟩ = some (.int .i64 lo) ∧ w'.cell? ⟨ib, ioff + k, none⟩ = some (.int .i64 y) := fun w' hw' =>
          ⟨(hw'.cell (p := ⟨w.heap.size, 0, none⟩) hlb).trans cb, (hw'.cell (p := ⟨w.heap.size, 1, none⟩) hlb).trans cb1, (hw'.cell (p := ⟨b, off + k * 4 + 1, none⟩) hbo).trans c1, (hw'.cell (p := ⟨ib, ioff + k, none⟩) hio).trans hic2⟩
        clear hbvk cb cb1 c0 c1 c2 c3 hic2
        go_region_held3 (fun w' => w'.cell? ⟨w.heap.size, 0, none⟩ = some (.slice (some ⟨b, off, none⟩) n cap) ∧ w'.cell? ⟨w.heap.size, 1, none⟩ = some (.slice ro rn rc) ∧ w'.cell? ⟨b, off + k * 4 + 1, none⟩ = some (.int .i64 lo) ∧ w'.cell? ⟨ib, ioff + k, none⟩ = some (.int .i64 y))
          (exact hS0 _ (by first | exact hB0 | exact hB0.drew | exact hB0.drew.trans (hb2.mono (by simp))))
          (first | (go_at_call 25; refine (hbvk2 _ hB0.drew).mono ?_; rintro e w2 ⟨rfl, hb2⟩))
        go_wp2_with fail
        go_roundw
        case rel => exact ⟨k + 1, hlt, by go_num, by rw [HPr.out], HJ4, hbelB.trans ((hB0.drew.trans (hb2.mono (by simp))).mono hszb)⟩
        case measure => simp [intOf]; omega
      · rw [decide_eq_false hin] at hin0
        have HR := (show Hid _ from HNk.out hin)
        clear hin HJ3 HNk HNo HYes HBV hbvk
        go_wp2_with fail
        go_quiet ((go_at_call 26; exact Calls.quiet_of_same (hin0 _)))
        go_wp2_with fail
        go_ret2
        rw [HR.out.1, HR.out.2]
        exact ⟨rfl, below_drewN hbel _⟩
    · have hkn : k = n := by omega
      subst hkn
      have HR := (show Hid _ from HYes.out HJ.out)
      generalize sumTo m.vars vals k = cd at *
      clear HJ HYes HNo HBV
      go_wp2
      go_ret2
      rw [HR.out.1, HR.out.2]
      exact ⟨rfl, hbel⟩

/-- THE CONTRACT OF CodeOf. -/
theorem rcodes_any (va vr vv : Value) (m : Mo) (vals : List Int) (w : World) (hV : ModelV w va vr m) (hI : IntsV w vv vals) :
    Calls Tryd.prog 23 #[.agg #[va, vr], vv] w fun e w' => e = .returned (.tuple #[.int .i64 (cval m vals), .int .i64 (ccode m vals)]) ∧ Below w.heap.size w w' := by
  obtain ⟨io, ic, hv⟩ := hI.shape
  by_cases h : mcode m = 0
  · by_cases hl : vals.length = m.vars.length
    · exact rcode_loop va vr vv m vals w hV hI h hl
    · have h9 := ccode_no h (vals := vals) (fun h => hl h.1)
      unfold cval
      rw [h9, if_neg (by decide)]
      exact rcode_len va vr vv m w hV io _ ic hv h hl
  · have h9 := ccode_bad (vals := vals) h
    unfold cval
    rw [h9, if_neg h]
    exact rcode_bad va vr vv m w hV io _ ic hv h
end Go.Proofs.YtbcjhkhndahdhaaDoor

/-
  The contract of the document's own ValuesOf.
-/
namespace Go.Proofs.YtbcjhkhndahdhaaDoor
open Go.ChangeShapes Go.WideShapes Go.ChangeAt Go.RowKit Go.Deep
open Terms Tm

theorem ivals_snoc (f : Nat → Int) (k : Nat) : ivals ((List.range (k + 1)).map f) = ivals ((List.range k).map f) ++ [.int .i64 (f k)] := by
  simp [ivals, List.range_succ]

theorem rvalues_bad (va vr : Value) (m : Mo) (code : Int) (w : World) (hV : ModelV w va vr m) (h : mcode m ≠ 0) :
    Calls Tryd.prog 49 #[.agg #[va, vr], .int .i64 code] w fun e w' => e = .returned (.tuple #[.slice none 0 0, .int .i64 (mcode m)]) ∧ Below w.heap.size w w' := by
  have hA : ∀ o, Below w.heap.size w (w.alloc o) := fun o => (Below.refl _ _).alloc (Nat.le_refl _) o
  have hch := fun o => rcount_any va vr m (w.alloc o) (hV.below (hA o))
  rw [if_neg h] at hch
  obtain ⟨ao, cap, rfl⟩ := hV.1.shape
  obtain ⟨ro, rc, rfl⟩ := hV.2.shape
  generalize mcode m = x at *
  generalize m.vars.length = n at *
  generalize m.rules.length = rn at *
  clear hV
  go_enter Tryd.func49, Tryd.ntmps49
  go_wp2_with (go_at_call 13; refine (hch _).mono ?_; rintro e w1 ⟨rfl, hb1⟩)
  go_ret2
  exact ⟨rfl, (hA _).trans (hb1.mono (hA _).size)⟩
theorem rvalues_no (va vr : Value) (m : Mo) (code : Int) (w : World) (hV : ModelV w va vr m) (h : mcode m = 0) (hc : ¬ (0 ≤ code ∧ code < prodTo m.vars m.vars.length)) :
    Calls Tryd.prog 49 #[.agg #[va, vr], .int .i64 code] w fun e w' => e = .returned (.tuple #[.slice none 0 0, .int .i64 9]) ∧ Below w.heap.size w w' := by
  have hA : ∀ o, Below w.heap.size w (w.alloc o) := fun o => (Below.refl _ _).alloc (Nat.le_refl _) o
  have hch := fun o => rcount_any va vr m (w.alloc o) (hV.below (hA o))
  rw [if_pos h, h] at hch
  have hN := (mcode_vars h).prod (j := m.vars.length) (Nat.le_refl _)
  obtain ⟨ao, cap, rfl⟩ := hV.1.shape
  obtain ⟨ro, rc, rfl⟩ := hV.2.shape
  generalize prodTo m.vars m.vars.length = N at *
  generalize m.vars.length = n at *
  generalize m.rules.length = rn at *
  have hin := fun w => in_any code 0 (N - 1) w
  rw [decide_eq_false (show ¬ (0 ≤ code ∧ code ≤ N - 1) by omega)] at hin
  clear hV h hc
  go_enter Tryd.func49, Tryd.ntmps49
  go_wp2_with (first | (go_at_call 13; refine (hch _).mono ?_; rintro e w1 ⟨rfl, hb1⟩) | (go_at_call 26; refine (hin _).mono ?_; rintro e w2 ⟨rfl, rfl⟩))
  go_ret2
  exact ⟨rfl, (hA _).trans (hb1.mono (hA _).size)⟩

set_option maxHeartbeats 3200000 in
theorem rvalues_loop (va vr : Value) (m : Mo) (code : Int) (w : World) (hV : ModelV w va vr m) (h : mcode m = 0) (hc : 0 ≤ code ∧ code < prodTo m.vars m.vars.length) :
    Calls Tryd.prog 49 #[.agg #[va, vr], .int .i64 code] w fun e w' => ∃ v, e = .returned (.tuple #[v, .int .i64 0]) ∧ Below w.heap.size w w' ∧ IntsV w' v (valsL m.vars code) := by
  have hA : ∀ o, Below w.heap.size w (w.alloc o) := fun o => (Below.refl _ _).alloc (Nat.le_refl _) o
  have hch := fun o => rcount_any va vr m (w.alloc o) (hV.below (hA o))
  rw [if_pos h, h] at hch
  have hok := mcode_vars h
  have HOK : Hid (VarsOk m.vars) := hok
  have h6 := hok.1
  obtain ⟨ao, cap, rfl⟩ := hV.1.shape
  obtain ⟨ro, rc, rfl⟩ := hV.2.shape
  have hbv := (fun w1 (hb : Below w.heap.size w w1) a (ha : a ≤ m.vars.length) => behindVar_any (.slice ao m.vars.length cap) ro m.rules.length rc m.vars a w1 hok ha (hV.1.below hb))
  have HBV := (show Hid _ from hbv)
  have HV : Hid (VarsV w (.slice ao m.vars.length cap) m.vars) := hV.1
  have hN := hok.prod (j := m.vars.length) (Nat.le_refl _)
  have HS0 : Hid (segP m.vars 0 = prodTo m.vars m.vars.length) := segP_zero _
  obtain ⟨hc1, hc2⟩ := hc
  generalize prodTo m.vars m.vars.length = N at *
  obtain ⟨n, hn⟩ : ∃ n, n = m.vars.length := ⟨_, rfl⟩
  have HN : Hid (n = m.vars.length) := hn
  rw [← hn] at h6 hch HBV HV ⊢
  generalize m.rules.length = rn at *
  have hin := fun w => in_any code 0 (N - 1) w
  rw [decide_eq_true (show (0 ≤ code ∧ code ≤ N - 1) by omega)] at hin
  obtain ⟨i0, hi, hz0, hz1, hz2⟩ := info_parts infoInt
  have HL : Hid (valsL m.vars code = (List.range n).map (valAt m.vars code)) := by show _ = _; rw [HN.out]; rfl
  clear hV hn hok h hbv
  go_enter Tryd.func49, Tryd.ntmps49
  go_wp2_with (first | (go_at_call 13; refine (hch _).mono ?_; rintro e w1 ⟨rfl, hb1⟩) | (go_at_call 26; refine (hin _).mono ?_; rintro e w2 ⟨rfl, rfl⟩))
  have hb1' : Below (w.heap.size + 1) (w.alloc (.cells #[.slice ao n cap, .slice ro rn rc] 25)) w2 := hb1.mono (by simp)
  clear hch hin hb1
  go_loopw [1, 8, 9] (fun cd vv i wr => ∃ k : Nat, k ≤ n ∧ i = .int .i64 k ∧ cd = .int .i64 (code % segP m.vars k) ∧ Hid (wr.ownsRow (w.heap.size + 1) 3 1 vv k (ivals ((List.range k).map (valAt m.vars code)))) ∧ Below (w.heap.size + 1) (w.alloc (.cells #[.slice ao n cap, .slice ro rn rc] 25)) wr) (fun _ _ i _ => n - (intOf i).toNat)
  case atStart => exact ⟨0, Nat.zero_le _, rfl, by rw [HS0.out, Int.emod_eq_of_lt hc1 hc2], World.ownsRow_nil _ _ _ _, hb1'⟩
  case round =>
    obtain ⟨k, hk, rfl, rfl, HOwn, hbelB⟩ := hrel
    clear hb1'
    have hbel := (hA _).trans (hbelB.mono (Nat.le_succ _))
    have hszb : w.heap.size + 1 ≤ wr.heap.size := by have := hbelB.size; simp at this; omega
    have hlb : w.heap.size < wr.heap.size := by omega
    have cb := (hbelB.cell (p := ⟨w.heap.size, 0, none⟩) (by simp)).trans (show _ = some (.slice ao n cap) by simp [go_sem])
    have cb1 := (hbelB.cell (p := ⟨w.heap.size, 1, none⟩) (by simp)).trans (show _ = some (.slice ro rn rc) by simp [go_sem])
    by_cases hlt : k < n
    · obtain ⟨b, off, rfl, hblt, hat⟩ := HV.out.at (i := k) (by rw [← HN.out]; exact hlt)
      obtain ⟨c0, c1, c2, c3⟩ := hat.below hbel hblt
      have hvb := HOK.out.at (j := k) (by rw [← HN.out]; exact hlt)
      have hsg := segP_bounds HOK.out (i := k + 1) (by rw [← HN.out]; exact hlt)
      have hsg0 := segP_bounds HOK.out (i := k) (by rw [← HN.out]; exact hk)
      have HQ : Hid ((code % segP m.vars k) % segP m.vars (k + 1) = code % segP m.vars (k + 1)) := mod_step code (by rw [← HN.out]; exact hlt)
      have HVa : Hid ((m.vars.getD k vr0).lo + (code % segP m.vars k) / segP m.vars (k + 1) = valAt m.vars code k) := valAt_ref HOK.out code (by rw [← HN.out]; exact hlt)
      have HSn := (show Hid _ from ivals_snoc (valAt m.vars code) k)
      have hcd0 := Int.emod_nonneg code (show segP m.vars k ≠ 0 by omega)
      have hcd1 := Int.emod_lt_of_pos code (show 0 < segP m.vars k by omega)
      have hbvk := HBV.out wr hbel (k + 1) (by omega)
      rw [show ((k + 1 : Nat) : Int) - 1 = (k : Int) by omega] at hbvk
      generalize hcd : code % segP m.vars k = cd at *
      generalize segP m.vars k = sg0 at *
      obtain ⟨sg, hsge⟩ : ∃ sg, segP m.vars (k + 1) = sg := ⟨_, rfl⟩
      have HSG : Hid (segP m.vars (k + 1) = sg) := hsge
      rw [hsge] at hsg hbvk HQ HVa
      generalize m.vars.getD k vr0 = x at *
      obtain ⟨s, lo, hi', ini⟩ := x
      simp only [vspan] at c0 c1 c2 c3 HVa hvb
      obtain ⟨hv1, hv2, hv3, hv4, hv5, hv6, hv7⟩ := hvb
      clear hat hsge hcd
      have hi0 : (0 : Int) ≤ (k : Int) := Int.natCast_nonneg _
      have hi1 : (k : Int) < (n : Int) := by omega
      have hsz0 : ¬ sg = 0 := by omega
      have hsz1 : (sg == 0) = false := by rw [beq_eq_false_iff_ne]; omega
      have ht : cd.tmod sg = cd % sg := Int.tmod_eq_emod_of_nonneg hcd0
      have htd : cd.tdiv sg = cd / sg := Int.tdiv_eq_ediv_of_nonneg hcd0
      have hd0 := Int.ediv_nonneg hcd0 (show 0 ≤ sg by omega)
      have hd1 := Int.ediv_le_self sg hcd0
      have hw0 : IntKind.i64.wrap (cd / sg) = cd / sg := wr64 (by omega) (by omega)
      have hw1 : IntKind.i64.wrap (lo + cd / sg) = lo + cd / sg := wr64 (by omega) (by omega)
      have hbo : b < wr.heap.size := by omega
      have hown := HOwn.out
      go_wp2_with (go_at_call 25; refine hbvk.mono ?_; rintro e w3 ⟨rfl, hb3⟩)
      have hown3 : ∀ o, (w3.alloc o).ownsRow (w.heap.size + 1) 3 1 _ k _ := fun o => (owns_later hown hb3 (Nat.le_refl _)).alloc o
      have hnb := hown.lt
      generalize hxs : ivals ((List.range k).map (valAt m.vars code)) = xs at *
      have HXS : Hid (ivals ((List.range k).map (valAt m.vars code)) = xs) := hxs
      have hs3 : w.heap.size < w3.heap.size := Nat.lt_of_lt_of_le hlb hb3.size
      have hS0 : ∀ w', Below wr.heap.size wr w' → w'.cell? ⟨w.heap.size, 0, none⟩ = some (.slice (some ⟨b, off, none⟩) n cap) ∧ w'.cell? ⟨b, off + k * 4 + 1, none⟩ = some (.int .i64 lo) := fun w' hw' =>
        ⟨(hw'.cell (p := ⟨w.heap.size, 0, none⟩) hlb).trans cb, (hw'.cell (p := ⟨b, off + k * 4 + 1, none⟩) hbo).trans c1⟩
      have hSA : ∀ o, (w3.alloc o).cell? ⟨w.heap.size, 0, none⟩ = some (.slice (some ⟨b, off, none⟩) n cap) ∧ (w3.alloc o).cell? ⟨b, off + k * 4 + 1, none⟩ = some (.int .i64 lo) := fun o => hS0 _ (hb3.alloc hb3.size o)
      have hkb : (k + 1) * 8 ≤ 140737488355328 := by omega
      have h63 : k + 1 ≤ maxLen := by unfold maxLen; omega
      have hbase : ∀ o, w.heap.size + 1 ≤ (w3.alloc o).heap.size := fun o => by simp; omega
      clear hxs hown hbvk HOwn cb cb1 c0 c1 c2 c3
      go_region_held3 (fun w' => w'.cell? ⟨w.heap.size, 0, none⟩ = some (.slice (some ⟨b, off, none⟩) n cap) ∧ w'.cell? ⟨b, off + k * 4 + 1, none⟩ = some (.int .i64 lo))
        (first | exact hS0 _ hb3 | exact hS0 _ hb3.drew | exact hSA _ | exact hk4)
        (first
          | (refine step_append_lies _ (by rfl) (.tmp 34) (.tmp 45) 26 (by rfl) (w.heap.size + 1) 3 i0 _ 1 8 Tryd.underlying26 hi hz0 hz1 hz2 (by rfl) (by decide) _ k xs (by rfl) (hown3 _) ⟨w3.heap.size, 0, none⟩ 1 1 [.int .i64 (lo + cd / sg)] (by rfl) (by rfl) (cell_one_new _ _ _) (by intro u hu; simp at hu; subst hu; rfl) (by decide) h63 hkb (hbase _) (w3.heap.size + 1) (by simp) ?_; intro g cp w4 ho4 hg4 hat4 hl4; have hk4 : w4.cell? ⟨w.heap.size, 0, none⟩ = some (.slice (some ⟨b, off, none⟩) n cap) ∧ w4.cell? ⟨b, off + k * 4 + 1, none⟩ = some (.int .i64 lo) := ⟨(hg4.cell_far ⟨w.heap.size, 0, none⟩ (by simp; omega) (fun he => by have := (hnb _ he.symm).1; simp only at this; omega)).trans (hSA _).1, (hg4.cell_far ⟨b, off + k * 4 + 1, none⟩ (by simp; omega) (fun he => by have := (hnb _ he.symm).1; simp only at this; omega)).trans (hSA _).2⟩))
      have hbk : Below (w.heap.size + 1) (w.alloc (.cells #[.slice (some ⟨b, off, none⟩) n cap, .slice ro rn rc] 25)) w4 := by
        have h3 := hbelB.trans (hb3.mono hszb)
        first
          | exact Below.grown (Below.alloc h3.drew (by simp; omega) _) hg4 (by simp; omega) (fun q hq => (hnb q hq).1)
          | exact Below.grown (Below.alloc h3 (by omega) _) hg4 (by simp; omega) (fun q hq => (hnb q hq).1)
      have HO4 : Hid (w4.ownsRow (w.heap.size + 1) 3 1 (.slice (some ⟨g, 0, none⟩) (k + 1) cp) (k + 1) (ivals ((List.range (k + 1)).map (valAt m.vars code)))) := by
        show World.ownsRow _ _ _ _ _ _ _
        rw [HSn.out, ← HVa.out]
        exact ho4
      clear ho4 hg4 hown3 hk4
      go_wp2_with fail
      go_roundw
      case rel => exact ⟨k + 1, hlt, by go_num, by rw [HSG.out, ← HQ.out], HO4, hbk⟩
      case measure => simp [intOf]; omega
    · have hkn : k = n := by omega
      subst hkn
      have hown := HOwn.out
      obtain ⟨vo, vc, rfl⟩ := owns_slice hown
      have hI : IntsV wr (.slice vo k vc) (valsL m.vars code) := by
        rw [HL.out]
        exact intsV_of_owns (by simpa using hown)
      have HI := (show Hid _ from hI)
      clear hI hown
      go_wp2
      go_ret2
      exact ⟨_, rfl, hbel, HI.out⟩
/-- THE CONTRACT OF ValuesOf. -/
theorem rvalues_any (va vr : Value) (m : Mo) (code : Int) (w : World) (hV : ModelV w va vr m) :
    Calls Tryd.prog 49 #[.agg #[va, vr], .int .i64 code] w fun e w' => ∃ v, e = .returned (.tuple #[v, .int .i64 (wcode m code)]) ∧ Below w.heap.size w w' ∧ IntsV w' v (wvals m code) := by
  by_cases h : mcode m = 0
  · by_cases hc : 0 ≤ code ∧ code < prodTo m.vars m.vars.length
    · have h0 := wcode_yes h hc
      unfold wvals
      rw [h0, if_pos rfl]
      exact rvalues_loop va vr m code w hV h hc
    · have h0 := wcode_no h hc
      unfold wvals
      rw [h0, if_neg (by decide)]
      exact (rvalues_no va vr m code w hV h hc).mono fun e w' ⟨he, hb⟩ => ⟨_, he, hb, none, 0, rfl, fun h => absurd rfl h⟩
  · have h0 := wcode_bad (code := code) h
    unfold wvals
    rw [h0, if_neg h]
    exact (rvalues_bad va vr m code w hV h).mono fun e w' ⟨he, hb⟩ => ⟨_, he, hb, none, 0, rfl, fun h => absurd rfl h⟩
end Go.Proofs.YtbcjhkhndahdhaaDoor

/-
  The contract of the document's own AfterRule.
-/
namespace Go.Proofs.YtbcjhkhndahdhaaDoor
open Go.ChangeShapes Go.WideShapes Go.ChangeAt Go.RowKit Go.Deep
open Terms Tm

/-- THE CONTRACT OF Evaluated, in the step's words. -/
theorem rex_any (v ev : Value) (l : List (Int × Int)) (env : List Int) (w : World) (hV : OpsV w v l) (hE : IntsV w ev env) :
    Calls Tryd.prog 50 #[v, ev] w fun e w' => e = .returned (.tuple #[.int .i64 (exN l env), .int .i64 (exC l env)]) ∧ Below w.heap.size w w' :=
  evaluated_any v ev l env (treeOf l) w hV hE (treeOf_spec l)
theorem behindL_eq {env : List Int} {r : Ru} (h : ∀ j, j < r.sets.length → 0 ≤ (r.sets.getD j st0).var ∧ (r.sets.getD j st0).var < env.length) : (List.range env.length).map (fun i => setAt env r.sets i r.sets.length) = behindL env r := by
  apply List.ext_getElem?
  intro i
  by_cases hi : i < env.length
  · have h1 := setTo_at (k := r.sets.length) h i
    rw [List.getElem?_map, List.getElem?_range hi]
    have h2 : i < (behindL env r).length := by unfold behindL; rw [setTo_length]; exact hi
    rw [List.getElem?_eq_getElem h2]
    show some (setAt env r.sets i r.sets.length) = _
    rw [← h1]
    unfold behindL at h2 ⊢
    simp [List.getD_eq_getElem?_getD, h2]
  · simp [hi, behindL, setTo_length]

set_option maxHeartbeats 3200000 in
set_option maxRecDepth 20000 in
/-- one rule that is there, at a state. -/
theorem rafter_in (va vr : Value) (m : Mo) (code : Int) (k : Nat) (w : World) (hV : ModelV w va vr m) (hw : wcode m code = 0) (hk : k < m.rules.length) :
    Calls Tryd.prog 27 #[.agg #[va, vr], .int .i64 code, .int .i64 k] w fun e w' => e = .returned (.tuple #[.int .i64 (optN (ruleDo m.vars (valsL m.vars code) (m.rules.getD k ru0))), .int .i64 (optC (ruleDo m.vars (valsL m.vars code) (m.rules.getD k ru0)))]) ∧ Below w.heap.size w w' := by
  have hA : ∀ o, Below w.heap.size w (w.alloc o) := fun o => (Below.refl _ _).alloc (Nat.le_refl _) o
  obtain ⟨hm, _⟩ := wcode_zero hw
  obtain ⟨hr12, hrs⟩ := mcode_rules hm
  have hrk := hrs k hk
  obtain ⟨h6, hsv⟩ := rule_sets hrk
  have hv6 := (mcode_vars hm).1
  have he := valsL_length m.vars code
  have hvl := fun o => rvalues_any va vr m code (w.alloc o) (hV.below (hA o))
  rw [hw, show wvals m code = valsL m.vars code by unfold wvals; rw [if_pos hw]] at hvl
  have HCo : Hid (∀ w' (_ : Below w.heap.size w w') vv vals, IntsV w' vv vals → Calls Tryd.prog 23 #[.agg #[va, vr], vv] w' fun e w2 => e = .returned (.tuple #[.int .i64 (cval m vals), .int .i64 (ccode m vals)]) ∧ Below w'.heap.size w' w2) := fun w' hb vv vals hi => rcodes_any va vr vv m vals w' (hV.below hb) hi
  have HR : Hid (RulesV w vr m.rules) := hV.2
  obtain ⟨ao, cap, rfl⟩ := hV.1.shape
  obtain ⟨ro, rc, rfl⟩ := hV.2.shape
  obtain ⟨b, off, rfl, hblt, hat⟩ := HR.out.at (i := k) hk
  have hin := fun w => in_any k 0 (m.rules.length - 1) w
  rw [decide_eq_true (show (0 : Int) ≤ k ∧ (k : Int) ≤ (m.rules.length : Int) - 1 by omega)] at hin
  have HG : Hid (holdsB (m.rules.getD k ru0).guard (valsL m.vars code) = false → ruleDo m.vars (valsL m.vars code) (m.rules.getD k ru0) = none) := fun h => ruleDo_guard h
  have HGd : Hid (holdsB (m.rules.getD k ru0).guard (valsL m.vars code) = (decide (exC (m.rules.getD k ru0).guard (valsL m.vars code) = 0) && decide (exN (m.rules.getD k ru0).guard (valsL m.vars code) = 1))) := rfl
  have HRS : Hid (∀ j, j < (m.rules.getD k ru0).sets.length → exC ((m.rules.getD k ru0).sets.getD j st0).val (valsL m.vars code) ≠ 0 → ruleDo m.vars (valsL m.vars code) (m.rules.getD k ru0) = none) := fun j hj h => ruleDo_set hj h
  have HRC : Hid (holdsB (m.rules.getD k ru0).guard (valsL m.vars code) = true → setsOk (valsL m.vars code) (m.rules.getD k ru0) → (ccode m (behindL (valsL m.vars code) (m.rules.getD k ru0)) = 0 → ruleDo m.vars (valsL m.vars code) (m.rules.getD k ru0) = some (cval m (behindL (valsL m.vars code) (m.rules.getD k ru0)))) ∧ (ccode m (behindL (valsL m.vars code) (m.rules.getD k ru0)) ≠ 0 → ruleDo m.vars (valsL m.vars code) (m.rules.getD k ru0) = none)) := fun h1 h2 => ruleDo_code h1 h2 he hm rfl
  generalize ruleDo m.vars (valsL m.vars code) (m.rules.getD k ru0) = res at *
  rw [← he] at hsv hv6
  generalize valsL m.vars code = env at *
  generalize m.rules.getD k ru0 = r at *
  have HSV : Hid (∀ j, j < r.sets.length → 0 ≤ (r.sets.getD j st0).var ∧ (r.sets.getD j st0).var < env.length) := hsv
  clear hV hw hm hrs hrk he hsv
  generalize m.vars.length = n at *
  generalize m.rules.length = rn at *
  go_enter Tryd.func27, Tryd.ntmps27
  go_wp2_with (first | (go_at_call 49; refine (hvl _).mono ?_; rintro e w1 ⟨v, rfl, hb1, hI⟩; obtain ⟨vo, vc, rfl⟩ := hI.shape; have hbw1 := (hA _).trans (hb1.mono (hA _).size); have k10 : w1.cell? ⟨w.heap.size, 0, none⟩ = some (.slice ao n cap) := (hb1.cell (p := ⟨w.heap.size, 0, none⟩) (by simp)).trans (by simp [go_sem]); have k11 : w1.cell? ⟨w.heap.size, 1, none⟩ = some (.slice (some ⟨b, off, none⟩) rn rc) := (hb1.cell (p := ⟨w.heap.size, 1, none⟩) (by simp)).trans (by simp [go_sem]); have hs1 : w.heap.size < w1.heap.size := (by have := hb1.size; simp at this; omega); obtain ⟨⟨u, c0, hou⟩, u', c1, hsu⟩ := hat.below hbw1 hblt; obtain ⟨uo, uc, rfl⟩ := hou.shape; obtain ⟨so, sc, rfl⟩ := hsu.shape) | (go_at_call 26; refine (hin _).mono ?_; rintro e w9 ⟨rfl, rfl⟩))
  have hAr : Below w9.heap.size w9 (w9.alloc (.cells #[.slice uo r.guard.length uc, .slice so r.sets.length sc] 43)) := (Below.refl _ _).alloc (Nat.le_refl _) _
  have hbA := hbw1.trans (hAr.mono hbw1.size)
  have q10 : (w9.alloc (.cells #[.slice uo r.guard.length uc, .slice so r.sets.length sc] 43)).cell? ⟨w9.heap.size, 1, none⟩ = some (.slice so r.sets.length sc) := by simp [go_sem]
  have q11 := (hAr.cell (p := ⟨w.heap.size, 0, none⟩) hs1).trans k10
  have q12 := (hAr.cell (p := ⟨w.heap.size, 1, none⟩) hs1).trans k11
  have hIA := hI.below hAr
  have hsA := hsu.below hAr
  have hgu := rex_any _ _ r.guard env _ (hou.below hAr) hIA
  have hszA : w9.heap.size < (w9.alloc (.cells #[.slice uo r.guard.length uc, .slice so r.sets.length sc] 43)).heap.size := by simp
  generalize w9.alloc (.cells #[.slice uo r.guard.length uc, .slice so r.sets.length sc] 43) = W2 at *
  have HK2 : Hid (∀ w', Below W2.heap.size W2 w' → w'.cell? ⟨w9.heap.size, 1, none⟩ = some (.slice so r.sets.length sc) ∧ w'.cell? ⟨w.heap.size, 0, none⟩ = some (.slice ao n cap) ∧ w'.cell? ⟨w.heap.size, 1, none⟩ = some (.slice (some ⟨b, off, none⟩) rn rc)) := fun w' hb => ⟨(hb.cell (p := ⟨w9.heap.size, 1, none⟩) hszA).trans q10, (hb.cell (p := ⟨w.heap.size, 0, none⟩) (Nat.lt_trans hs1 hszA)).trans q11, (hb.cell (p := ⟨w.heap.size, 1, none⟩) (Nat.lt_trans hs1 hszA)).trans q12⟩
  have HI2 : Hid (IntsV W2 (.slice vo env.length vc) env) := hIA
  have HS2 : Hid (SetsV W2 (.slice so r.sets.length sc) r.sets) := hsA
  have HBW2 : Hid (Below w.heap.size w W2) := hbA
  clear hAr hbA q10 q11 q12 hIA hsA hszA hou hsu hI c0 c1 k10 k11 hb1 hbw1 hat hvl hin HR hA hs1
  have hgd := HGd.out
  generalize exN r.guard env = gn at hgu hgd
  generalize exC r.guard env = gc at hgu hgd
  by_cases hc0 : gc = 0
  · by_cases hn1 : gn = 1
    · have hg1 : holdsB r.guard env = true := by rw [hgd]; simp [hc0, hn1]
      have HRC2 : Hid _ := HRC.out hg1
      subst hc0 hn1
      clear hgd HGd HG HRC hg1
      go_wp2_with (go_at_call 50; refine hgu.mono ?_; rintro e w3 ⟨rfl, hb3⟩; obtain ⟨k30, k31, k32⟩ := HK2.out w3 hb3)
      have HBE : Hid ((List.range env.length).map (fun i => setAt env r.sets i r.sets.length) = behindL env r) := behindL_eq HSV.out
      have hI3 := HI2.out.below hb3
      have HI3 : Hid (IntsV w3 (.slice vo env.length vc) env) := hI3
      have HS3 : Hid (SetsV w3 (.slice so r.sets.length sc) r.sets) := HS2.out.below hb3
      have HK3 : Hid (∀ w', Below w3.heap.size w3 w' → w'.cell? ⟨w9.heap.size, 1, none⟩ = some (.slice so r.sets.length sc) ∧ w'.cell? ⟨w.heap.size, 0, none⟩ = some (.slice ao n cap) ∧ w'.cell? ⟨w.heap.size, 1, none⟩ = some (.slice (some ⟨b, off, none⟩) rn rc)) := fun w' hb => HK2.out w' (hb3.trans (hb.mono hb3.size))
      have HBW3 : Hid (Below w.heap.size w w3) := HBW2.out.trans (hb3.mono HBW2.out.size)
      have HEx : Hid (∀ w' (_ : Below w3.heap.size w3 w') v l, OpsV w' v l → Calls Tryd.prog 50 #[v, .slice vo env.length vc] w' fun e w2 => e = .returned (.tuple #[.int .i64 (exN l env), .int .i64 (exC l env)]) ∧ Below w'.heap.size w' w2) := fun w' hb v l hv => rex_any v _ l env w' hv (hI3.below hb)
      obtain ⟨en, hen⟩ : ∃ en, en = env.length := ⟨_, rfl⟩
      have HEN : Hid (en = env.length) := hen
      obtain ⟨sn, hsn⟩ : ∃ sn, sn = r.sets.length := ⟨_, rfl⟩
      have HSN : Hid (sn = r.sets.length) := hsn
      rw [← hen, ← hsn] at HBE
      rw [← hen] at HI3 HEx hv6 ⊢
      rw [← hsn] at HS3 HK3 h6 k30 ⊢
      have HSV2 : Hid (∀ j, j < sn → 0 ≤ (r.sets.getD j st0).var ∧ (r.sets.getD j st0).var < en) := by rw [hsn, hen]; exact HSV.out
      have HRS2 : Hid (∀ j, j < sn → exC (r.sets.getD j st0).val env ≠ 0 → res = none) := by rw [hsn]; exact HRS.out
      obtain ⟨i0, hi, hz0, hz1, hz2⟩ := info_parts infoInt
      clear hen hsn hI3 hb3 hgu HK2 HI2 HS2 HBW2 HSV HRS
      go_loopw [13, 14] (fun out i wr => ∃ q : Nat, q ≤ en ∧ i = .int .i64 q ∧ Hid (∀ j, j < sn → (r.sets.getD j st0).var < q → exC (r.sets.getD j st0).val env = 0) ∧ Hid (wr.ownsRow w3.heap.size 3 1 out q (ivals ((List.range q).map (fun i => setAt env r.sets i sn)))) ∧ Hid (Below w3.heap.size w3 wr)) (fun _ i _ => en - (intOf i).toNat)
      case atStart => exact ⟨0, Nat.zero_le _, rfl, fun j hj h => absurd h (by have := (HSV2.out j hj).1; omega), World.ownsRow_nil _ _ _ _, Below.refl _ _⟩
      case round =>
        obtain ⟨q, hq, rfl, HOK, HOwn, HBel⟩ := hrel
        have hbel := HBel.out
        by_cases hlt : q < en
        · obtain ⟨vb, voff, rfl, hvblt, hvc⟩ := HI3.out.at (i := q) (by rw [← HEN.out]; exact hlt)
          have hvc2 := (hbel.cell (p := ⟨vb, voff + q, none⟩) hvblt).trans hvc
          obtain ⟨kr0, kr1, kr2⟩ := HK3.out wr hbel
          have HA0 : Hid (setAt env r.sets q 0 = env.getD q 0) := rfl
          generalize env.getD q 0 = x0 at hvc2 HA0
          clear hvc k30 k31 k32
          go_wp2_with fail
          obtain ⟨wo, hwo⟩ : ∃ wo, wo = wr := ⟨_, rfl⟩
          subst hwo
          go_loopw [15, 16] (fun x kk wi => ∃ k : Nat, k ≤ sn ∧ kk = .int .i64 k ∧ x = .int .i64 (setAt env r.sets q k) ∧ Hid (∀ j, j < k → (r.sets.getD j st0).var = q → exC (r.sets.getD j st0).val env = 0) ∧ Hid (Below wo.heap.size wo wi)) (fun _ kk _ => sn - (intOf kk).toNat)
          case atStart => exact ⟨0, Nat.zero_le _, rfl, by rw [HA0.out], fun j hj => by omega, Below.refl _ _⟩
          case round =>
            obtain ⟨k, hk', rfl, rfl, HOKi, HBi⟩ := hrel
            have hbi := hbel.trans (HBi.out.mono hbel.size)
            obtain ⟨ki0, ki1, ki2⟩ := HK3.out wr hbi
            by_cases hlk : k < sn
            · obtain ⟨sb, soff, rfl, hsblt, hsat⟩ := HS3.out.at (i := k) (by rw [← HSN.out]; exact hlk)
              obtain ⟨c0, u, c1, hou⟩ := hsat.below hbi hsblt
              obtain ⟨uo2, uc2, rfl⟩ := hou.shape
              have HStep : Hid (setAt env r.sets q (k + 1) = if (r.sets.getD k st0).var = q then exN (r.sets.getD k st0).val env else setAt env r.sets q k) := rfl
              have HOK2 : Hid (((r.sets.getD k st0).var = q → exC (r.sets.getD k st0).val env = 0) → ∀ j, j < k + 1 → (r.sets.getD j st0).var = q → exC (r.sets.getD j st0).val env = 0) := fun h j hj => by
                by_cases hjk : j = k
                · subst hjk; exact h
                · exact HOKi.out j (by omega)
              have HRk : Hid (exC (r.sets.getD k st0).val env ≠ 0 → res = none) := HRS2.out k hlk
              have hex := HEx.out wr hbi _ _ hou
              generalize exN (r.sets.getD k st0).val env = N at hex HStep
              generalize exC (r.sets.getD k st0).val env = C at hex HRk HOK2
              generalize (r.sets.getD k st0).val.length = ul at hex c1 hou
              generalize (r.sets.getD k st0).var = sv at c0 HStep HOK2
              clear hsat hou HRS2 HEx HS3 HSV2 HRC2 HCo HOKi kr0 kr1 kr2
              by_cases hsv : sv = q
              · have hst : setAt env r.sets q (k + 1) = N := by rw [HStep.out, if_pos hsv]
                have HST : Hid (setAt env r.sets q (k + 1) = N) := hst
                by_cases hC : C = 0
                · have HJ : Hid _ := HOK2.out (fun _ => hC)
                  subst hC hsv
                  clear hst HStep HOK2 HRk
                  go_wp2_with (go_at_call 50; refine hex.mono ?_; rintro e w5 ⟨rfl, hb5⟩)
                  refine ⟨⟨k + 1, hlk, by first | rfl | simp, by rw [HST.out], HJ.out, HBi.out.trans (hb5.mono HBi.out.size)⟩, by simp [intOf]; omega⟩
                · have HRN : Hid (res = none) := HRk.out hC
                  subst hsv
                  clear hst HStep HOK2 HRk
                  go_wp2_with (go_at_call 50; refine hex.mono ?_; rintro e w5 ⟨rfl, hb5⟩)
                  go_ret2
                  exact ⟨by rw [HRN.out]; rfl, HBW3.out.trans ((hbi.trans (hb5.mono hbi.size)).mono HBW3.out.size)⟩
              · have HST : Hid (setAt env r.sets q (k + 1) = setAt env r.sets q k) := by show _ = _; rw [HStep.out, if_neg hsv]
                have HJ : Hid _ := HOK2.out (fun h => absurd h hsv)
                clear HStep HOK2 HRk
                go_wp2_with fail
                refine ⟨⟨k + 1, hlk, by first | rfl | simp, by rw [HST.out], HJ.out, HBi.out⟩, by simp [intOf]; omega⟩
            · have hks : k = sn := by omega
              subst hks
              have hown := HOwn.out
              have hown2 := owns_later hown HBi.out (Nat.le_refl _)
              have hnb := hown.lt
              obtain ⟨oo, oc, rfl⟩ := owns_slice hown
              have HSn : Hid (ivals ((List.range (q + 1)).map (fun i => setAt env r.sets i k)) = ivals ((List.range q).map (fun i => setAt env r.sets i k)) ++ [.int .i64 (setAt env r.sets q k)]) := by
                show _ = _
                simp [ivals, List.range_succ]
              have HOK2 : Hid (∀ j, j < k → (r.sets.getD j st0).var < ((q + 1 : Nat) : Int) → exC (r.sets.getD j st0).val env = 0) := fun j hj h => by
                by_cases hjq : (r.sets.getD j st0).var = q
                · exact HOKi.out j hj hjq
                · exact HOK.out j hj (by omega)
              generalize setAt env r.sets q k = xv at *
              have hown3 := fun o => hown2.alloc o
              have h63 : q + 1 ≤ maxLen := by unfold maxLen; omega
              have hkb : (q + 1) * 8 ≤ 140737488355328 := by omega
              have hbase : ∀ o, w3.heap.size ≤ (wr.alloc o).heap.size := fun o => by have := hbi.size; simp; omega
              clear hown hown2 HRS2 HEx HS3 HSV2 HRC2 HCo HOKi kr0 kr1 kr2
              go_wp2_with (at_builtin; refine wpList_append_own _ rfl (.tmp 94) (.tmp 96) 26 rfl w3.heap.size 3 i0 (.int .i64 0) 1 8 Tryd.underlying26 hi hz0 hz1 hz2 rfl (by decide) _ q _ rfl (hown3 _) ⟨wr.heap.size, 0, none⟩ 1 1 [.int .i64 xv] rfl rfl (cell_one_new _ _ _) (by intro u hu; simp at hu; subst hu; rfl) h63 hkb (hbase _) ?_)
              intro v' w4 hown' hgrow _
              have hb4 : Below w3.heap.size w3 w4 := (hbi.alloc hbi.size _).grown hgrow (hbase _) (fun z hz => (hnb z hz).1)
              have HO4 : Hid (w4.ownsRow w3.heap.size 3 1 v' (q + 1) (ivals ((List.range (q + 1)).map (fun i => setAt env r.sets i k)))) := by
                show World.ownsRow _ _ _ _ _ _ _
                rw [HSn.out]
                exact hown'
              clear hown' hgrow hown3
              go_wp2
              go_roundw
              case rel => exact ⟨q + 1, hlt, by go_num, HOK2, HO4, hb4⟩
              case measure => simp [intOf]; omega
        · have hqn : q = en := by omega
          subst hqn
          have hown := HOwn.out
          rw [HBE.out] at hown
          obtain ⟨oo, oc, rfl⟩ := owns_slice hown
          have hlb : (behindL env r).length = q := by unfold behindL; rw [setTo_length, HEN.out]
          have hI : IntsV wr (.slice oo q oc) (behindL env r) := intsV_of_owns (by rw [hlb]; exact hown)
          have hbw := HBW3.out.trans (hbel.mono HBW3.out.size)
          have hco := HCo.out wr hbw _ _ hI
          have hrc := HRC2.out (fun j hj => HOK.out j (by rw [HSN.out]; exact hj) (HSV2.out j (by rw [HSN.out]; exact hj)).2)
          obtain ⟨kr0, kr1, kr2⟩ := HK3.out wr hbel
          have HBWr : Hid (Below w.heap.size w wr) := hbw
          generalize cval m (behindL env r) = cv at hco hrc
          generalize ccode m (behindL env r) = cc at hco hrc
          obtain ⟨hrc0, hrc1⟩ := hrc
          clear hown hlb hI HCo HRC2 HOK HOwn HI3 HS3 HEx HSV2 HRS2 k30 k31 k32 hbel hbw hlt hq
          by_cases hcc : cc = 0
          · have HRN : Hid (res = some cv) := hrc0 hcc
            subst hcc
            clear hrc0 hrc1
            go_wp2_with (go_at_call 23; refine hco.mono ?_; rintro e w6 ⟨rfl, hb6⟩)
            go_ret2
            exact ⟨by rw [HRN.out]; rfl, HBWr.out.trans (hb6.mono HBWr.out.size)⟩
          · have HRN : Hid (res = none) := hrc1 hcc
            clear hrc0 hrc1
            go_wp2_with (go_at_call 23; refine hco.mono ?_; rintro e w6 ⟨rfl, hb6⟩)
            go_ret2
            exact ⟨by rw [HRN.out]; rfl, HBWr.out.trans (hb6.mono HBWr.out.size)⟩
    · have hrn := HG.out (by rw [hgd]; simp [hn1])
      subst hrn hc0
      clear hgd HGd HRC
      go_wp2_with (go_at_call 50; refine hgu.mono ?_; rintro e w3 ⟨rfl, hb3⟩)
      go_ret2
      exact ⟨rfl, HBW2.out.trans (hb3.mono HBW2.out.size)⟩
  · have hrn := HG.out (by rw [hgd]; simp [hc0])
    subst hrn
    clear hgd HGd HRC
    go_wp2_with (go_at_call 50; refine hgu.mono ?_; rintro e w3 ⟨rfl, hb3⟩)
    go_ret2
    exact ⟨rfl, HBW2.out.trans (hb3.mono HBW2.out.size)⟩

set_option maxHeartbeats 1600000 in
set_option maxRecDepth 20000 in
/-- THE CONTRACT OF AfterRule. -/
theorem rafter_any (va vr : Value) (m : Mo) (code rule : Int) (w : World) (hV : ModelV w va vr m) (hz : m.rules.length ≤ 1000000000000000) :
    Calls Tryd.prog 27 #[.agg #[va, vr], .int .i64 code, .int .i64 rule] w fun e w' => e = .returned (.tuple #[.int .i64 (aftN m code rule), .int .i64 (aftC m code rule)]) ∧ Below w.heap.size w w' := by
  have hA : ∀ o, Below w.heap.size w (w.alloc o) := fun o => (Below.refl _ _).alloc (Nat.le_refl _) o
  by_cases hw : wcode m code = 0
  · by_cases hin : 0 ≤ rule ∧ rule < m.rules.length
    · obtain ⟨k, rfl⟩ : ∃ k : Nat, rule = k := ⟨rule.toNat, by omega⟩
      have h := rafter_in va vr m code k w hV hw (by omega)
      unfold aftN aftC
      rw [if_pos hw, if_pos hw, if_pos hin, if_pos hin, Int.toNat_natCast]
      exact h
    · have hvl := fun o => rvalues_any va vr m code (w.alloc o) (hV.below (hA o))
      rw [hw] at hvl
      unfold aftN aftC
      rw [if_pos hw, if_pos hw, if_neg hin, if_neg hin]
      have hii := fun w => in_any rule 0 (m.rules.length - 1) w
      rw [decide_eq_false (show ¬ (0 ≤ rule ∧ rule ≤ (m.rules.length : Int) - 1) by omega)] at hii
      obtain ⟨ao, cap, rfl⟩ := hV.1.shape
      obtain ⟨ro, rc, rfl⟩ := hV.2.shape
      generalize wvals m code = vals at hvl
      generalize m.vars.length = n at *
      generalize m.rules.length = rn at *
      clear hV hw hin
      go_enter Tryd.func27, Tryd.ntmps27
      go_wp2_with (first | (go_at_call 49; refine (hvl _).mono ?_; rintro e w1 ⟨v, rfl, hb1, hI⟩; have k11 : w1.cell? ⟨w.heap.size, 1, none⟩ = some (.slice ro rn rc) := (hb1.cell (p := ⟨w.heap.size, 1, none⟩) (by simp)).trans (by simp [go_sem])) | (go_at_call 26; refine (hii _).mono ?_; rintro e w9 ⟨rfl, rfl⟩))
      go_ret2
      exact ⟨rfl, (hA _).trans (hb1.mono (hA _).size)⟩
  · have hvl := fun o => rvalues_any va vr m code (w.alloc o) (hV.below (hA o))
    unfold aftN aftC
    rw [if_neg hw, if_neg hw]
    obtain ⟨ao, cap, rfl⟩ := hV.1.shape
    obtain ⟨ro, rc, rfl⟩ := hV.2.shape
    generalize wvals m code = vals at hvl
    generalize wcode m code = c at *
    generalize m.vars.length = n at *
    generalize m.rules.length = rn at *
    clear hV
    go_enter Tryd.func27, Tryd.ntmps27
    go_wp2_with (go_at_call 49; refine (hvl _).mono ?_; rintro e w1 ⟨v, rfl, hb1, hI⟩)
    go_ret2
    exact ⟨rfl, (hA _).trans (hb1.mono (hA _).size)⟩
end Go.Proofs.YtbcjhkhndahdhaaDoor

/-
  The contract of the document's own NextOf.
-/
namespace Go.Proofs.YtbcjhkhndahdhaaDoor
open Go.ChangeShapes Go.WideShapes Go.ChangeAt Go.RowKit Go.Deep
open Terms Tm

/-- of the first so many numbers those that a list has. -/
def pickTo (raw : List Int) (c : Nat) : List Int := ((List.range c).filter (fun j : Nat => decide ((j : Int) ∈ raw))).map (fun j : Nat => (j : Int))
theorem pickTo_yes {raw : List Int} {c : Nat} (h : (c : Int) ∈ raw) : pickTo raw (c + 1) = pickTo raw c ++ [(c : Int)] := by simp [pickTo, List.range_succ, List.filter_append, h]
theorem pickTo_no {raw : List Int} {c : Nat} (h : ¬ (c : Int) ∈ raw) : pickTo raw (c + 1) = pickTo raw c := by simp [pickTo, List.range_succ, List.filter_append, h]
theorem pickTo_rise (raw : List Int) (c : Nat) : Rise (pickTo raw c) := by
  induction c with
  | zero => simp [pickTo]
  | succ c ih =>
    by_cases h : (c : Int) ∈ raw
    · rw [pickTo_yes h]
      refine List.pairwise_append.2 ⟨ih, by simp, fun x hx y hy => ?_⟩
      simp [pickTo] at hx
      obtain ⟨j, hj, rfl⟩ := hx
      simp at hy
      omega
    · rw [pickTo_no h]; exact ih
theorem pickTo_mem {raw : List Int} {c : Nat} (h : ∀ x ∈ raw, 0 ≤ x ∧ x < c) (x : Int) : x ∈ pickTo raw c ↔ x ∈ raw := by
  simp only [pickTo, List.mem_map, List.mem_filter, List.mem_range, decide_eq_true_eq]
  constructor
  · rintro ⟨j, ⟨_, h2⟩, rfl⟩; exact h2
  · intro hx
    obtain ⟨h0, h1⟩ := h x hx
    exact ⟨x.toNat, ⟨by omega, by rw [Int.toNat_of_nonneg h0]; exact hx⟩, by omega⟩
theorem pickTo_length (raw : List Int) (c : Nat) : (pickTo raw c).length ≤ c := by
  unfold pickTo
  rw [List.length_map]
  exact Nat.le_trans (List.length_filter_le _ _) (by simp)
theorem upL_one (c : Int) : upL [c] = [c] := (upL_eq (l := [c]) (by simp) (fun _ => Iff.rfl)).symm

set_option maxHeartbeats 3200000 in
set_option maxRecDepth 20000 in
/-- THE CONTRACT OF NextOf. -/
theorem rnext_own (va vr : Value) (m : Mo) (code : Int) (w : World) (hV : ModelV w va vr m) :
    Calls Tryd.prog 14 #[.agg #[va, vr], .int .i64 code] w fun e w' => ∃ v, e = .returned (.tuple #[v, .int .i64 (wcode m code)]) ∧ Below w.heap.size w w' ∧ w'.ownsRow w.heap.size 3 1 v (nxtL m code).length (ivals (nxtL m code)) := by
  have hA : ∀ o, Below w.heap.size w (w.alloc o) := fun o => (Below.refl _ _).alloc (Nat.le_refl _) o
  have hcn := fun o => rcount_any va vr m (w.alloc o) (hV.below (hA o))
  by_cases hm : mcode m = 0
  · rw [hm, if_pos rfl] at hcn
    have hok := mcode_vars hm
    have hN := hok.prod (j := m.vars.length) (Nat.le_refl _)
    by_cases hc : 0 ≤ code ∧ code < prodTo m.vars m.vars.length
    · have hw : wcode m code = 0 := wcode_yes hm hc
      obtain ⟨hr12, _⟩ := mcode_rules hm
      have HAf : Hid (∀ w' (_ : Below w.heap.size w w') k, k < m.rules.length → Calls Tryd.prog 27 #[.agg #[va, vr], .int .i64 code, .int .i64 k] w' fun e w2 => e = .returned (.tuple #[.int .i64 (optN (ruleDo m.vars (valsL m.vars code) (m.rules.getD k ru0))), .int .i64 (optC (ruleDo m.vars (valsL m.vars code) (m.rules.getD k ru0)))]) ∧ Below w'.heap.size w' w2) := fun w' hb k hk => rafter_in va vr m code k w' (hV.below hb) hw hk
      have HSt : Hid (∀ k x, ruleDo m.vars (valsL m.vars code) (m.rules.getD k ru0) = some x → 0 ≤ x ∧ x < prodTo m.vars m.vars.length) := fun k x h => ruleDo_state hok h
      have HNL : Hid (nxtL m code = upL (if rawTo m.vars (valsL m.vars code) m.rules m.rules.length = [] then [code] else rawTo m.vars (valsL m.vars code) m.rules m.rules.length)) := by show _ = _; unfold nxtL nextL rawL; rw [if_pos hw]
      have HRM : Hid (∀ x ∈ rawTo m.vars (valsL m.vars code) m.rules m.rules.length, 0 ≤ x ∧ x < prodTo m.vars m.vars.length) := fun x hx => by
        obtain ⟨j, _, e⟩ := (rawTo_mem (Nat.le_refl _) x).1 hx
        exact ruleDo_state hok e
      rw [hw]
      generalize nxtL m code = res at *
      generalize valsL m.vars code = env at *
      obtain ⟨pn, hpn⟩ : ∃ pn : Nat, prodTo m.vars m.vars.length = pn := ⟨(prodTo m.vars m.vars.length).toNat, by omega⟩
      rw [hpn] at hcn hN hc HSt HRM
      have hii := fun w => in_any code 0 ((pn : Int) - 1) w
      rw [decide_eq_true (show 0 ≤ code ∧ code ≤ (pn : Int) - 1 by omega)] at hii
      obtain ⟨ao, cap, rfl⟩ := hV.1.shape
      obtain ⟨ro, rc, rfl⟩ := hV.2.shape
      obtain ⟨rn, hrn⟩ : ∃ rn, rn = m.rules.length := ⟨_, rfl⟩
      have HRN : Hid (rn = m.rules.length) := hrn
      rw [← hrn] at hcn HAf HNL HRM hr12 ⊢
      have hmk := run_make_row' (P := Tryd.prog) 58 4 (.bool false) 1 Tryd.underlying58 infoBool rfl .i64 .i64 pn (by omega) (by omega)
      obtain ⟨i0, hi, hz0, hz1, hz2⟩ := info_parts infoInt
      obtain ⟨hN0, hN1⟩ := hN
      clear hV hw hm hok hrn hpn hc
      generalize m.vars.length = n at *
      go_enter Tryd.func14, Tryd.ntmps14
      go_wp2_with (first | (go_at_call 13; refine (hcn _).mono ?_; rintro e w1 ⟨rfl, hb1⟩; have hbw1 := (hA _).trans (hb1.mono (hA _).size); have k10 : w1.cell? ⟨w.heap.size, 0, none⟩ = some (.slice ao n cap) := (hb1.cell (p := ⟨w.heap.size, 0, none⟩) (by simp)).trans (by simp [go_sem]); have k11 : w1.cell? ⟨w.heap.size, 1, none⟩ = some (.slice ro rn rc) := (hb1.cell (p := ⟨w.heap.size, 1, none⟩) (by simp)).trans (by simp [go_sem]); have hs1 : w.heap.size < w1.heap.size := (by have := hb1.size; simp at this; omega)) | (go_at_call 26; refine (hii _).mono ?_; rintro e w9 ⟨rfl, rfl⟩))
      have hrow0 := World.rowIs_made w9 (.bool false) pn 4
      have HB1 : Hid (Below w.heap.size w w9) := hbw1
      have HK1 : Hid (∀ w', Below w9.heap.size w9 w' → w'.cell? ⟨w.heap.size, 0, none⟩ = some (.slice ao n cap) ∧ w'.cell? ⟨w.heap.size, 1, none⟩ = some (.slice ro rn rc)) := fun w' hb => ⟨(hb.cell (p := ⟨w.heap.size, 0, none⟩) hs1).trans k10, (hb.cell (p := ⟨w.heap.size, 1, none⟩) hs1).trans k11⟩
      clear hcn hii hmk hb1 hbw1 k10 k11
      go_loopw [9, 10] (fun sm i wr => ∃ k : Nat, k ≤ rn ∧ i = .int .i64 k ∧ sm = .bool (decide (rawTo m.vars env m.rules k ≠ [])) ∧ Hid (wr.rowIs w9.heap.size 4 pn (fun j => .bool (decide ((j : Int) ∈ rawTo m.vars env m.rules k)))) ∧ Hid (Below w9.heap.size w9 wr)) (fun _ i _ => rn - (intOf i).toNat)
      case atStart => exact ⟨0, Nat.zero_le _, rfl, by simp [rawTo], hrow0.congr (fun i hi => by simp [rawTo]), (Below.refl _ _).alloc (Nat.le_refl _) _⟩
      case round =>
        obtain ⟨k, hk, rfl, rfl, HRow, HBel⟩ := hrel
        have hbel := HBel.out
        have hbw := HB1.out.trans (hbel.mono HB1.out.size)
        obtain ⟨kr0, kr1⟩ := HK1.out wr hbel
        by_cases hlt : k < rn
        · have haf := HAf.out wr hbw k hlt
          have hk' : k < m.rules.length := by rw [← HRN.out]; exact hlt
          have HW4 : Hid (∀ w4, Below wr.heap.size wr w4 → Below w9.heap.size w9 w4 ∧ w4.rowIs w9.heap.size 4 pn (fun j => .bool (decide ((j : Int) ∈ rawTo m.vars env m.rules k)))) := fun w4 hb => ⟨hbel.trans (hb.mono hbel.size), row_later HRow.out hb⟩
          cases hres : ruleDo m.vars env (m.rules.getD k ru0) with
          | none =>
            rw [hres] at haf
            simp only [optN, optC] at haf
            have HN : Hid (rawTo m.vars env m.rules (k + 1) = rawTo m.vars env m.rules k) := rawTo_none hk' hres
            clear HAf hres hk' hbel hbw HSt
            go_wp2_with (go_at_call 27; refine haf.mono ?_; rintro e w4 ⟨rfl, hb4⟩; obtain ⟨hb94, hr4⟩ := HW4.out w4 hb4)
            exact ⟨⟨k + 1, hlt, by first | rfl | simp, by rw [HN.out]; simp, by rw [HN.out]; exact hr4, hb94⟩, by simp [intOf]; omega⟩
          | some x =>
            rw [hres] at haf
            simp only [optN, optC] at haf
            have HN : Hid (rawTo m.vars env m.rules (k + 1) = rawTo m.vars env m.rules k ++ [x]) := rawTo_some hk' hres
            obtain ⟨hx0, hx1⟩ := HSt.out k x hres
            obtain ⟨xn, rfl⟩ : ∃ xn : Nat, x = xn := ⟨x.toNat, by omega⟩
            have hxn : xn < pn := by omega
            clear HAf hres hk' hbel hbw HSt
            go_wp2_with (go_at_call 27; refine haf.mono ?_; rintro e w4 ⟨rfl, hb4⟩; obtain ⟨hb94, hr4⟩ := HW4.out w4 hb4; have hf := hr4.frozen xn; have hc := hr4.cell hxn; have HR4 : Hid (w4.rowIs w9.heap.size 4 pn (fun j => .bool (decide ((j : Int) ∈ rawTo m.vars env m.rules k)))) := hr4; clear hr4)
            refine ⟨⟨k + 1, hlt, by first | rfl | simp, by rw [HN.out]; simp, (HR4.out.set xn (.bool true)).congr fun i hi => ?_, hb94.setCell (Nat.le_refl _) _⟩, by simp [intOf]; omega⟩
            rw [HN.out]
            by_cases hix : i = xn
            · subst hix; simp
            · rw [if_neg hix]
              simp [show ¬ (i : Int) = (xn : Int) by omega]
        · have hkn : k = rn := by omega
          subst hkn
          generalize rawTo m.vars env m.rules k = raw at *
          clear HAf HSt kr0 kr1 hlt hk
          by_cases hraw : raw = []
          · have HRes : Hid (res = [code]) := by show _ = _; rw [HNL.out, if_pos hraw, upL_one]
            subst hraw
            obtain ⟨kr0, kr1⟩ := HK1.out wr hbel
            have HIl : Hid ((wr.alloc (.cells #[.int .i64 code] 3)).ownsRow w.heap.size 3 1 (.slice (some ⟨wr.heap.size, 0, none⟩) 1 1) 1 (ivals [code])) := World.ownsRow_lit wr #[.int .i64 code] 1 hbw.size (by decide) rfl
            go_wp2_with fail
            go_ret2
            exact ⟨_, rfl, hbw.alloc hbw.size _, by rw [HRes.out]; exact HIl.out⟩
          · have HRes : Hid (res = pickTo raw pn) := by
              show _ = _
              rw [HNL.out, if_neg hraw]
              exact (upL_eq (pickTo_rise raw pn) (pickTo_mem HRM.out)).symm
            obtain ⟨kr0, kr1⟩ := HK1.out wr hbel
            have HRow2 : Hid (wr.rowIs w9.heap.size 4 pn (fun j => .bool (decide ((j : Int) ∈ raw)))) := HRow.out
            obtain ⟨wo, hwo⟩ : ∃ wo, wo = wr := ⟨_, rfl⟩
            subst hwo
            rw [decide_eq_true hraw]
            clear hraw HNL
            go_wp2_with fail
            go_loopw [13, 14] (fun out i wr => ∃ c : Nat, c ≤ pn ∧ i = .int .i64 c ∧ Hid (wr.ownsRow wo.heap.size 3 1 out (pickTo raw c).length (ivals (pickTo raw c))) ∧ Hid (Below wo.heap.size wo wr)) (fun _ i _ => pn - (intOf i).toNat)
            case atStart => exact ⟨0, Nat.zero_le _, rfl, World.ownsRow_nil _ _ _ _, Below.refl _ _⟩
            case round =>
              obtain ⟨c, hc, rfl, HOwn, HBc⟩ := hrel
              have hbc := HBc.out
              have hrc := row_later HRow2.out hbc
              have hown := HOwn.out
              have hnb := hown.lt
              obtain ⟨oo, oc, rfl⟩ := owns_slice hown
              by_cases hlc : c < pn
              · have hcc := hrc.cell hlc
                have HPl : Hid ((pickTo raw c).length ≤ c) := pickTo_length _ _
                clear hrc
                by_cases hin : (c : Int) ∈ raw
                · simp only [hin, decide_true] at hcc
                  have HN : Hid (pickTo raw (c + 1) = pickTo raw c ++ [(c : Int)]) := pickTo_yes hin
                  obtain ⟨L, hL⟩ : ∃ L, L = (pickTo raw c).length := ⟨_, rfl⟩
                  have HL : Hid (L = (pickTo raw c).length) := hL
                  rw [← hL] at hown hnb HPl ⊢
                  have h63 : L + 1 ≤ maxLen := by have := HPl.out; unfold maxLen; omega
                  have hkb : (L + 1) * 8 ≤ 140737488355328 := by have := HPl.out; omega
                  have hown4 := fun o => hown.alloc o
                  have hbase : ∀ o, wo.heap.size ≤ (wr.alloc o).heap.size := fun o => by have := hbc.size; simp; omega
                  clear hL hin HOwn hown
                  go_wp2_with (at_builtin; refine wpList_append_own _ rfl (.tmp 62) (.tmp 64) 26 rfl wo.heap.size 3 i0 (.int .i64 0) 1 8 Tryd.underlying26 hi hz0 hz1 hz2 rfl (by decide) (.slice oo L oc) L _ rfl (hown4 _) ⟨wr.heap.size, 0, none⟩ 1 1 [.int .i64 c] rfl rfl (cell_one_new _ _ _) (by intro u hu; simp at hu; subst hu; rfl) h63 hkb (hbase _) ?_; intro v' w4 hown' hgrow _)
                  have hb4 : Below wo.heap.size wo w4 := (hbc.alloc hbc.size _).grown hgrow (hbase _) (fun z hz => (hnb z hz).1)
                  have ho4 : w4.ownsRow wo.heap.size 3 1 v' (pickTo raw (c + 1)).length (ivals (pickTo raw (c + 1))) := by
                    rw [HN.out, List.length_append, ← HL.out]
                    rw [show ivals (pickTo raw c ++ [(c : Int)]) = ivals (pickTo raw c) ++ [.int .i64 c] by simp [ivals]]
                    exact hown'
                  go_roundw
                  case rel => exact ⟨c + 1, hlc, by go_num, ho4, hb4⟩
                  case measure => simp [intOf]; omega
                · simp only [hin, decide_false] at hcc
                  have HN : Hid (pickTo raw (c + 1) = pickTo raw c) := pickTo_no hin
                  clear hin hown
                  go_wp2_with fail
                  exact ⟨⟨c + 1, hlc, by first | rfl | simp, by rw [HN.out]; exact HOwn.out, hbc⟩, by simp [intOf]; omega⟩
              · have hcn : c = pn := by omega
                subst hcn
                have hI : wr.ownsRow w.heap.size 3 1 (.slice oo (pickTo raw c).length oc) (pickTo raw c).length (ivals (pickTo raw c)) := owns_mono hown hbw.size
                have HI := (show Hid _ from hI)
                clear hI hown hrc HOwn
                go_wp2_with fail
                go_ret2
                exact ⟨_, rfl, hbw.trans (hbc.mono hbw.size), by rw [HRes.out]; exact HI.out⟩
    · have hw : wcode m code = 9 := wcode_no hm hc
      have hnl : nxtL m code = [] := by unfold nxtL; rw [if_neg (by rw [hw]; decide)]
      rw [hw, hnl]
      have hii := fun w => in_any code 0 (prodTo m.vars m.vars.length - 1) w
      rw [decide_eq_false (show ¬ (0 ≤ code ∧ code ≤ prodTo m.vars m.vars.length - 1) by omega)] at hii
      obtain ⟨ao, cap, rfl⟩ := hV.1.shape
      obtain ⟨ro, rc, rfl⟩ := hV.2.shape
      obtain ⟨hN0, hN1⟩ := hN
      generalize prodTo m.vars m.vars.length = N at *
      generalize m.vars.length = n at *
      generalize m.rules.length = rn at *
      clear hV hw hnl hm hok hc
      go_enter Tryd.func14, Tryd.ntmps14
      go_wp2_with (first | (go_at_call 13; refine (hcn _).mono ?_; rintro e w1 ⟨rfl, hb1⟩) | (go_at_call 26; refine (hii _).mono ?_; rintro e w9 ⟨rfl, rfl⟩))
      go_ret2
      exact ⟨_, rfl, (hA _).trans (hb1.mono (hA _).size), World.ownsRow_nil _ _ _ _⟩
  · have hw : wcode m code = mcode m := wcode_bad hm
    have hnl : nxtL m code = [] := by unfold nxtL; rw [if_neg (by rw [hw]; exact hm)]
    rw [hw, hnl]
    rw [if_neg hm] at hcn
    obtain ⟨ao, cap, rfl⟩ := hV.1.shape
    obtain ⟨ro, rc, rfl⟩ := hV.2.shape
    generalize mcode m = c at *
    generalize m.vars.length = n at *
    generalize m.rules.length = rn at *
    clear hV hw hnl
    go_enter Tryd.func14, Tryd.ntmps14
    go_wp2_with (go_at_call 13; refine (hcn _).mono ?_; rintro e w1 ⟨rfl, hb1⟩)
    go_ret2
    exact ⟨_, rfl, (hA _).trans (hb1.mono (hA _).size), World.ownsRow_nil _ _ _ _⟩
theorem rnext_any (va vr : Value) (m : Mo) (code : Int) (w : World) (hV : ModelV w va vr m) :
    Calls Tryd.prog 14 #[.agg #[va, vr], .int .i64 code] w fun e w' => ∃ v, e = .returned (.tuple #[v, .int .i64 (wcode m code)]) ∧ Below w.heap.size w w' ∧ IntsV w' v (nxtL m code) :=
  (rnext_own va vr m code w hV).mono fun _ _ ⟨v, h1, h2, h3⟩ => ⟨v, h1, h2, intsV_of_owns h3⟩
end Go.Proofs.YtbcjhkhndahdhaaDoor

/-
  The contract of the document's own FirstCode.
-/
namespace Go.Proofs.YtbcjhkhndahdhaaDoor
open Go.ChangeShapes Go.WideShapes Go.ChangeAt Go.RowKit Go.Deep
open Terms Tm

theorem ivals_inits {l : List Vr} {k : Nat} (h : k < l.length) : ivals (initsL (l.take (k + 1))) = ivals (initsL (l.take k)) ++ [.int .i64 (l.getD k vr0).ini] := by
  rw [List.take_succ_eq_append_getElem h, List.getD_eq_getElem?_getD, List.getElem?_eq_getElem h]
  simp only [ivals, initsL, List.map_append, List.map_cons, List.map_nil, Option.getD_some]

set_option maxHeartbeats 1600000 in
/-- THE CONTRACT OF FirstCode. -/
theorem rfirst_any (va vr : Value) (m : Mo) (w : World) (hz : m.vars.length * 40 ≤ 140737488355328) (hV : ModelV w va vr m) :
    Calls Tryd.prog 12 #[.agg #[va, vr]] w fun e w' => e = .returned (.tuple #[.int .i64 (if mcode m = 0 then codeTo m.vars (initsL m.vars) m.vars.length else 0), .int .i64 (mcode m)]) ∧ Below w.heap.size w w' := by
  have hres : ccode m (initsL m.vars) = mcode m ∧ cval m (initsL m.vars) = if mcode m = 0 then codeTo m.vars (initsL m.vars) m.vars.length else 0 := by
    by_cases h : mcode m = 0
    · have h1 := ccode_yes h (vals := initsL m.vars) ⟨by simp [initsL], inits_in (mcode_vars h)⟩
      refine ⟨by rw [h1, h], ?_⟩
      unfold cval
      rw [h1, if_pos rfl, if_pos h]
    · have h1 := ccode_bad (vals := initsL m.vars) h
      refine ⟨h1, ?_⟩
      unfold cval
      rw [h1, if_neg h]
  have hcf := (fun vv w1 (hb : Below w.heap.size w w1) (hI : IntsV w1 vv (initsL m.vars)) => rcodes_any va vr vv m (initsL m.vars) w1 (hV.below hb) hI)
  rw [hres.1, hres.2] at hcf
  have HCF := (show Hid _ from hcf)
  have HV : Hid (VarsV w va m.vars) := hV.1
  obtain ⟨ao, cap, rfl⟩ := hV.1.shape
  obtain ⟨ro, rc, rfl⟩ := hV.2.shape
  generalize (if mcode m = 0 then codeTo m.vars (initsL m.vars) m.vars.length else 0) = res at *
  generalize mcode m = x at *
  obtain ⟨n, hn⟩ : ∃ n, n = m.vars.length := ⟨_, rfl⟩
  have HN : Hid (n = m.vars.length) := hn
  rw [← hn] at hz HCF HV ⊢
  generalize m.rules.length = rn at *
  obtain ⟨i0, hi, hz0, hz1, hz2⟩ := info_parts infoInt
  clear hV hn hcf hres
  have hA : Below w.heap.size w (w.alloc (.cells #[.slice ao n cap, .slice ro rn rc] 25)) := (Below.refl _ _).alloc (Nat.le_refl _) _
  go_enter Tryd.func12, Tryd.ntmps12
  go_wp2
  go_loopw [4, 5] (fun vv i wr => ∃ k : Nat, k ≤ n ∧ i = .int .i64 k ∧ Hid (wr.ownsRow (w.heap.size + 1) 3 1 vv k (ivals (initsL (m.vars.take k)))) ∧ Below (w.heap.size + 1) (w.alloc (.cells #[.slice ao n cap, .slice ro rn rc] 25)) wr) (fun _ i _ => n - (intOf i).toNat)
  case atStart => exact ⟨0, Nat.zero_le _, rfl, World.ownsRow_nil _ _ _ _, Below.refl _ _⟩
  case round =>
    obtain ⟨k, hk, rfl, HOwn, hbelB⟩ := hrel
    have hbel := hA.trans (hbelB.mono (Nat.le_succ _))
    have hszb : w.heap.size + 1 ≤ wr.heap.size := by have := hbelB.size; simp at this; omega
    have hlb : w.heap.size < wr.heap.size := by omega
    have cb := (hbelB.cell (p := ⟨w.heap.size, 0, none⟩) (by simp)).trans (show _ = some (.slice ao n cap) by simp [go_sem])
    have cb1 := (hbelB.cell (p := ⟨w.heap.size, 1, none⟩) (by simp)).trans (show _ = some (.slice ro rn rc) by simp [go_sem])
    by_cases hlt : k < n
    · obtain ⟨b, off, rfl, hblt, hat⟩ := HV.out.at (i := k) (by rw [← HN.out]; exact hlt)
      obtain ⟨c0, c1, c2, c3⟩ := hat.below hbel hblt
      have HSn := (show Hid _ from ivals_inits (l := m.vars) (k := k) (by rw [← HN.out]; exact hlt))
      generalize m.vars.getD k vr0 = x at *
      obtain ⟨s, lo, hi', ini⟩ := x
      simp only at c0 c1 c2 c3 HSn
      have hown := HOwn.out
      have hnb := hown.lt
      have hown2 := fun o => hown.alloc o
      have h63 : k + 1 ≤ maxLen := by unfold maxLen; omega
      have hkb : (k + 1) * 8 ≤ 140737488355328 := by omega
      have hbase : ∀ o, w.heap.size + 1 ≤ (wr.alloc o).heap.size := fun o => by simp; omega
      clear hat hown
      go_wp2_with (at_builtin; refine wpList_append_own _ rfl (.tmp 15) (.tmp 22) 26 rfl (w.heap.size + 1) 3 i0 (.int .i64 0) 1 8 Tryd.underlying26 hi hz0 hz1 hz2 rfl (by decide) _ k _ rfl (hown2 _) ⟨wr.heap.size, 0, none⟩ 1 1 [.int .i64 ini] rfl rfl (cell_one_new _ _ _) (by intro u hu; simp at hu; subst hu; rfl) h63 hkb (hbase _) ?_)
      intro v' w4 hown' hgrow _
      have hb4 : Below (w.heap.size + 1) (w.alloc (.cells #[.slice (some ⟨b, off, none⟩) n cap, .slice ro rn rc] 25)) w4 := (hbelB.alloc hszb _).grown hgrow (by simp; omega) (fun q hq => (hnb q hq).1)
      have HO4 : Hid (w4.ownsRow (w.heap.size + 1) 3 1 v' (k + 1) (ivals (initsL (m.vars.take (k + 1))))) := by
        show World.ownsRow _ _ _ _ _ _ _
        rw [HSn.out]
        exact hown'
      clear hown' hgrow hown2
      go_wp2
      go_roundw
      case rel => exact ⟨k + 1, hlt, by go_num, HO4, hb4⟩
      case measure => simp [intOf]; omega
    · have hkn : k = n := by omega
      subst hkn
      have hown := HOwn.out
      obtain ⟨vo, vc, rfl⟩ := owns_slice hown
      have hI : IntsV wr (.slice vo k vc) (initsL m.vars) := by
        rw [List.take_of_length_le (by rw [← HN.out]; omega)] at hown
        exact intsV_of_owns (by rw [show (initsL m.vars).length = k by simp [initsL, HN.out]]; exact hown)
      have hcf := HCF.out _ wr hbel hI
      clear hI hown HOwn HCF
      go_wp2_with (go_at_call 23; refine hcf.mono ?_; rintro e w2 ⟨rfl, hb2⟩)
      go_ret2
      exact ⟨rfl, hbel.trans (hb2.mono hbel.size)⟩
end Go.Proofs.YtbcjhkhndahdhaaDoor

/-
  The contract of the document's own ReachOf.
-/
namespace Go.Proofs.YtbcjhkhndahdhaaDoor
open Go.ChangeShapes Go.WideShapes Go.ChangeAt Go.RowKit Go.Deep
open Terms Tm

open Classical in
/-- so many of a row are not gone through yet. -/
noncomputable def cntW (B n : Nat) (w : World) : Nat := ((List.range n).filter fun j => decide (w.cell? ⟨B, j, none⟩ ≠ some (.int .i64 2))).length
theorem cntW_row {w : World} {B n : Nat} {st : Nat → Nat} (h : w.rowIs B 3 n (fun j => .int .i64 (st j : Int))) : cntW B n w = cntN st n := by
  unfold cntW cntN
  congr 1
  refine List.filter_congr fun j hj => ?_
  rw [h.cell (List.mem_range.1 hj)]
  by_cases h2 : st j = 2
  · simp [h2]
  · have : ¬ ((st j : Int) = 2) := by omega
    simp [h2, this]
theorem row_upd {w : World} {B n : Nat} {st : Nat → Nat} {v : Nat} (h : w.rowIs B 3 n (fun j => .int .i64 (st j : Int))) (i : Nat) : (w.setCell ⟨B, i, none⟩ (.int .i64 (v : Int))).rowIs B 3 n (fun j => .int .i64 (upd st i v j : Int)) :=
  (h.set i (.int .i64 (v : Int))).congr fun j _ => by
    unfold upd
    by_cases hj : j = i
    · subst hj; simp
    · simp [hj]

theorem owns_lowS {w : World} {base : Nat} {e : TypeId} {s n : Nat} {v : Value} {xs : List Value} (h : w.ownsRow base e s v n xs) {p : Addr} (hp : p.block < base) (u : Value) : (w.setCell p u).ownsRow base e s v n xs := by
  obtain ⟨h1, h2⟩ := h
  refine ⟨h1, ?_⟩
  rcases h2 with h2 | ⟨g, cap, cur, hv, hg, hh, r⟩
  · exact .inl h2
  · exact .inr ⟨g, cap, cur, hv, hg, (Below.heap_setCell w p u g (by omega)).trans hh, r⟩
/-- behind a pass: the marks, and whether there is something new. -/
def OutS (N : Nat) (nx : Int → List Int) (first : Int) (B : Nat) (wr : World) (ag : Bool) : Prop := ∃ st, SInv N nx first st ∧ wr.rowIs B 3 N (fun j => .int .i64 (st j : Int)) ∧ (ag = false → ∀ j, j < N → st j ≠ 1)
/-- in a pass. -/
def PassS (N : Nat) (nx : Int → List Int) (first : Int) (C0 B : Nat) (wr : World) (c : Nat) (ag : Bool) : Prop := ∃ st, SInv N nx first st ∧ wr.rowIs B 3 N (fun j => .int .i64 (st j : Int)) ∧ (ag = false → ∀ j, j < c → st j ≠ 1) ∧ cntN st N ≤ C0 ∧ (ag = true → cntN st N < C0)
/-- at a state. -/
def AtS (N : Nat) (nx : Int → List Int) (first : Int) (C0 B : Nat) (wr : World) (c q : Nat) : Prop := ∃ st, SAt N nx first st c q ∧ wr.rowIs B 3 N (fun j => .int .i64 (st j : Int)) ∧ cntN st N < C0
theorem AtS.later {N : Nat} {nx : Int → List Int} {first : Int} {C0 B : Nat} {wr w' : World} {c q : Nat} (h : AtS N nx first C0 B wr c q) (hb : Below wr.heap.size wr w') : AtS N nx first C0 B w' c q := by
  obtain ⟨st, h1, h2, h3⟩ := h
  exact ⟨st, h1, row_later h2 hb, h3⟩

set_option maxHeartbeats 3200000 in
set_option maxRecDepth 20000 in
/-- THE CONTRACT OF ReachOf. -/
theorem rreach_any (va vr : Value) (m : Mo) (w : World) (hzv : m.vars.length * 40 ≤ 140737488355328) (hV : ModelV w va vr m) :
    Calls Tryd.prog 6 #[.agg #[va, vr]] w fun e w' => ∃ v, e = .returned (.tuple #[v, .int .i64 (mcode m)]) ∧ Below w.heap.size w w' ∧ Hid (IntsV w' v (reachL m)) := by
  have hA : ∀ o, Below w.heap.size w (w.alloc o) := fun o => (Below.refl _ _).alloc (Nat.le_refl _) o
  have hfi := fun o => rfirst_any va vr m (w.alloc o) hzv (hV.below (hA o))
  by_cases hm : mcode m = 0
  · have hcn := fun w' (hb : Below w.heap.size w w') => rcount_any va vr m w' (hV.below hb)
    rw [hm, if_pos rfl] at hfi
    rw [hm, if_pos rfl] at hcn
    obtain ⟨hf0, hf1⟩ := firstC_in hm
    have hN := (mcode_vars hm).prod (j := m.vars.length) (Nat.le_refl _)
    obtain ⟨N, hNe⟩ : ∃ N : Nat, prodTo m.vars m.vars.length = N := ⟨(prodTo m.vars m.vars.length).toNat, by omega⟩
    have HNx : Hid (∀ w' (_ : Below w.heap.size w w') (c : Nat), c < N → Calls Tryd.prog 14 #[.agg #[va, vr], .int .i64 (c : Int)] w' fun e w2 => ∃ v, e = .returned (.tuple #[v, .int .i64 0]) ∧ Below w'.heap.size w' w2 ∧ w2.ownsRow w'.heap.size 3 1 v (nextL m c).length (ivals (nextL m c))) := fun w' hb c hc => by
      have hw : wcode m c = 0 := wcode_yes hm (by rw [hNe]; omega)
      have h := rnext_own va vr m c w' (hV.below hb)
      rw [hw, show nxtL m c = nextL m c by unfold nxtL; rw [if_pos hw]] at h
      exact h
    have HIn : Hid (∀ x y : Int, 0 ≤ x ∧ x < N → y ∈ nextL m x → 0 ≤ y ∧ y < N) := fun x y hx hy => by rw [← hNe] at hx ⊢; exact nextL_in hm hx hy
    have HLe : Hid (∀ c : Nat, c < N → (nextL m c).length ≤ 20) := fun c hc => by
      have hw : wcode m c = 0 := wcode_yes hm (by rw [hNe]; omega)
      have h1 := nxtL_length m c
      rw [show nxtL m c = nextL m c by unfold nxtL; rw [if_pos hw]] at h1
      have h2 := (mcode_rules hm).1
      omega
    have HRes : Hid (reachL m = reachN (nextL m) (firstC m) N) := by show _ = _; unfold reachL; rw [if_pos hm, hNe, Int.toNat_natCast]
    change ∀ o, Calls Tryd.prog 12 #[.agg #[va, vr]] (w.alloc o) fun e w' => e = .returned (.tuple #[.int .i64 (firstC m), .int .i64 0]) ∧ Below (w.alloc o).heap.size (w.alloc o) w' at hfi
    rw [hNe] at hf1 hN hcn
    rw [hm]
    obtain ⟨ao, cap, rfl⟩ := hV.1.shape
    obtain ⟨ro, rc, rfl⟩ := hV.2.shape
    generalize reachL m = RL at *
    obtain ⟨fn, hfn⟩ : ∃ fn : Nat, firstC m = fn := ⟨(firstC m).toNat, by omega⟩
    rw [hfn] at hf0 hf1 hfi HRes
    have hfN : fn < N := by omega
    generalize nextL m = nx at *
    obtain ⟨hN0, hN1⟩ := hN
    have HV : Hid (Hid True) := trivial
    clear hV hm hNe hfn HV hf0 hf1
    generalize m.vars.length = n at *
    generalize m.rules.length = rn at *
    have hmk := run_make_row' (P := Tryd.prog) 26 3 (.int .i64 0) 8 Tryd.underlying26 infoInt rfl .i64 .i64 N (by omega) (by omega)
    go_enter Tryd.func6, Tryd.ntmps6
    go_wp2_with (first | (go_at_call 12; refine (hfi _).mono ?_; rintro e w1 ⟨rfl, hb1⟩; have hbw1 := (hA _).trans (hb1.mono (hA _).size); have k10 : w1.cell? ⟨w.heap.size, 0, none⟩ = some (.slice ao n cap) := (hb1.cell (p := ⟨w.heap.size, 0, none⟩) (by simp)).trans (by simp [go_sem]); have k11 : w1.cell? ⟨w.heap.size, 1, none⟩ = some (.slice ro rn rc) := (hb1.cell (p := ⟨w.heap.size, 1, none⟩) (by simp)).trans (by simp [go_sem]); have hs1 : w.heap.size < w1.heap.size := (by have := hb1.size; simp at this; omega); have hcn1 := hcn w1 hbw1) | (go_at_call 13; refine hcn1.mono ?_; rintro e w2 ⟨rfl, hb2⟩; have hbw2 := hbw1.trans (hb2.mono hbw1.size); have hrow0 := World.rowIs_made w2 (.int .i64 0) N 3; have hcf := hrow0.cell hfN; have hff := hrow0.frozen fn))
    have HK2 : Hid (∀ w', Below w2.heap.size w2 w' → Below w.heap.size w w' ∧ w'.cell? ⟨w.heap.size, 0, none⟩ = some (.slice ao n cap) ∧ w'.cell? ⟨w.heap.size, 1, none⟩ = some (.slice ro rn rc)) := fun w' hb => ⟨hbw2.trans (hb.mono hbw2.size), (hb.cell (p := ⟨w.heap.size, 0, none⟩) (Nat.lt_of_lt_of_le hs1 hb2.size)).trans ((hb2.cell (p := ⟨w.heap.size, 0, none⟩) hs1).trans k10), (hb.cell (p := ⟨w.heap.size, 1, none⟩) (Nat.lt_of_lt_of_le hs1 hb2.size)).trans ((hb2.cell (p := ⟨w.heap.size, 1, none⟩) hs1).trans k11)⟩
    have HI : Hid (OutS N nx (fn : Int) w2.heap.size (w2.alloc (.cells ((madeCells #[.int .i64 0] N).setIfInBounds fn (.int .i64 1)) 3)) true) := by
      have t := row_upd (st := fun _ => 0) (v := 1) (hrow0.congr (g := fun _ => .int .i64 ((0 : Nat) : Int)) fun _ _ => rfl) fn
      rw [World.setCell_alloc_at _ _ _ _ _ (by simp)] at t
      have h1 := SInv.start (N := N) (nx := nx) (first := (fn : Int)) (by omega)
      rw [Int.toNat_natCast] at h1
      exact ⟨_, h1, t, fun h => by simp at h⟩
    have HB : Hid (Below w2.heap.size w2 (w2.alloc (.cells ((madeCells #[.int .i64 0] N).setIfInBounds fn (.int .i64 1)) 3))) := (Below.refl _ _).alloc (Nat.le_refl _) _
    have HAll : Hid (∀ st, SInv N nx (fn : Int) st → (∀ j, j < N → st j ≠ 1) → ∀ i : Nat, (0 < st i ↔ RSt nx (fn : Int) (i : Int))) := fun st h1 h2 i => h1.all ⟨by omega, by omega⟩ HIn.out h2 i
    clear hcn1 hb1 hb2 hcn hfi hrow0 hcf hff k10 k11 hmk hbw1
    go_loopw [9] (fun v wr => ∃ ag : Bool, v = .bool ag ∧ Hid (OutS N nx (fn : Int) w2.heap.size wr ag) ∧ Hid (Below w2.heap.size w2 wr)) (fun v wr => 2 * cntW w2.heap.size N wr + (match v with | .bool true => 1 | _ => 0))
    case atStart => exact ⟨true, rfl, HI, HB⟩
    case round =>
      obtain ⟨ag, rfl, HS, HBr⟩ := hrel
      cases ag with
      | true =>
        obtain ⟨C0, hC0⟩ : ∃ C0, C0 = cntW w2.heap.size N wr := ⟨_, rfl⟩
        have HC0 : Hid (cntW w2.heap.size N wr = C0) := hC0.symm
        have HP0 : Hid (PassS N nx (fn : Int) C0 w2.heap.size wr 0 false) := by
          obtain ⟨st, h1, h2, _⟩ := HS.out
          exact ⟨st, h1, h2, fun _ j hj => by omega, by rw [hC0, cntW_row h2]; exact Nat.le_refl _, fun h => by simp at h⟩
        have HBp : Hid (Below w2.heap.size w2 wr) := HBr.out
        generalize wr = wp at *
        clear hC0 HS HBr
        go_wp2_with fail
        go_loopw [9, 10] (fun v i wr => ∃ (c : Nat) (ag : Bool), c ≤ N ∧ v = .bool ag ∧ i = .int .i64 c ∧ Hid (PassS N nx (fn : Int) C0 w2.heap.size wr c ag) ∧ Hid (Below w2.heap.size w2 wr)) (fun _ i _ => N - (intOf i).toNat)
        case atStart => exact ⟨0, false, Nat.zero_le _, rfl, rfl, HP0, HBp⟩
        case round =>
          obtain ⟨c, ag, hc, rfl, rfl, HS2, HB2⟩ := hrel
          by_cases hlc : c < N
          · obtain ⟨st, h1, h2, h3, h4, h5⟩ := HS2.out
            have hcc := h2.cell hlc
            have hfc := h2.frozen c
            by_cases hone : st c = 1
            · rw [hone] at hcc
              have HSt : Hid (AtS N nx (fn : Int) C0 w2.heap.size (wr.setCell ⟨w2.heap.size, c, none⟩ (.int .i64 2)) c 0) := ⟨_, h1.mark hone, row_upd (v := 2) h2 c, by have := cntN_two (st := st) (i := c) (by omega) hlc; omega⟩
              have HB3 : Hid (Below w2.heap.size w2 (wr.setCell ⟨w2.heap.size, c, none⟩ (.int .i64 2))) := HB2.out.setCell (Nat.le_refl _) _
              obtain ⟨hbw3, kr0, kr1⟩ := HK2.out _ HB3.out
              have hne := HNx.out _ hbw3 c hlc
              have hln20 := HLe.out c hlc
              have HNX : Hid (∀ j, j < (nx (c : Int)).length → 0 ≤ (nx (c : Int)).getD j 0 ∧ (nx (c : Int)).getD j 0 < N) := fun j hj => HIn.out c _ ⟨by omega, by omega⟩ (by rw [List.getD_eq_getElem?_getD, List.getElem?_eq_getElem hj]; exact List.getElem_mem _)
              have hB3 : w2.heap.size < wr.heap.size := h2.lt
              obtain ⟨ln, hln⟩ : ∃ ln, ln = (nx (c : Int)).length := ⟨_, rfl⟩
              have HLN : Hid (ln = (nx (c : Int)).length) := hln
              rw [← hln] at hne hln20 HNX
              have HSt2 : Hid (∀ w4, Below (wr.setCell ⟨w2.heap.size, c, none⟩ (.int .i64 2)).heap.size (wr.setCell ⟨w2.heap.size, c, none⟩ (.int .i64 2)) w4 → AtS N nx (fn : Int) C0 w2.heap.size w4 c 0 ∧ Below w2.heap.size w2 w4) := fun w4 hb => ⟨HSt.out.later hb, HB3.out.trans (hb.mono HB3.out.size)⟩
              clear h1 h2 h3 h4 h5 HS2 hln hone HB2 HB3 HSt
              go_wp2_with (go_at_call 14; refine hne.mono ?_; rintro e w4 ⟨lv, rfl, hb4, ho4⟩; obtain ⟨lo, lc, rfl⟩ := owns_slice ho4)
              obtain ⟨hst4, hbw4⟩ := HSt2.out w4 hb4
              have HI4 : Hid (AtS N nx (fn : Int) C0 w2.heap.size w4 c 0) := hst4
              have HB4 : Hid (Below w2.heap.size w2 w4) := hbw4
              have HO4 : Hid (w4.ownsRow (w2.heap.size + 1) 3 1 (.slice lo ln lc) ln (ivals (nx (c : Int)))) := owns_mono ho4 (by simp; omega)
              clear hst4 hbw4 HSt2 hne hb4 ho4 kr0 kr1
              go_loopw [13] (fun i wr => ∃ q : Nat, q ≤ ln ∧ i = .int .i64 q ∧ Hid (AtS N nx (fn : Int) C0 w2.heap.size wr c q) ∧ Hid (Below w2.heap.size w2 wr) ∧ Hid (wr.ownsRow (w2.heap.size + 1) 3 1 (.slice lo ln lc) ln (ivals (nx (c : Int))))) (fun i _ => ln - (intOf i).toNat)
              case atStart => exact ⟨0, Nat.zero_le _, rfl, HI4, HB4, HO4⟩
              case round =>
                obtain ⟨q, hq, rfl, HQ, HBq, HOq⟩ := hrel
                by_cases hlq : q < ln
                · obtain ⟨hy0, hy1⟩ := HNX.out q hlq
                  have hnvq : ∃ nb, lo = some ⟨nb, 0, none⟩ ∧ wr.cell? ⟨nb, q, none⟩ = some (.int .i64 ((nx (c : Int)).getD q 0)) := by
                    rcases HOq.out.2 with ⟨e, h0⟩ | ⟨nb, cap, cur, e, _⟩
                    · omega
                    · injection e with e1 _ _
                      subst e1
                      refine ⟨nb, rfl, ?_⟩
                      have hql : q < ln * 1 := by omega
                      rw [HOq.out.cellAt q hql]
                      have : q < (nx (c : Int)).length := by rw [← HLN.out]; exact hlq
                      simp [ivals, List.getD_eq_getElem?_getD, this]
                  obtain ⟨nb, rfl, hcy⟩ := hnvq
                  obtain ⟨y, hy⟩ : ∃ y : Nat, (nx (c : Int)).getD q 0 = y := ⟨((nx (c : Int)).getD q 0).toNat, by omega⟩
                  have hyt : ((nx (c : Int)).getD q 0).toNat = y := by omega
                  obtain ⟨st, h1, h2, h3⟩ := HQ.out
                  have hyN : y < N := by omega
                  rw [hy] at hcy
                  by_cases hz : st y = 0
                  · have HN : Hid (AtS N nx (fn : Int) C0 w2.heap.size (wr.setCell ⟨w2.heap.size, y, none⟩ (.int .i64 1)) c (q + 1)) := by
                      have := h1.new (by rw [← HLN.out]; exact hlq) hy0 (by rw [hyt]; exact hz)
                      rw [hyt] at this
                      exact ⟨_, this, row_upd (v := 1) h2 _, by rw [cntN_one (by omega)]; exact h3⟩
                    have HBn : Hid (Below w2.heap.size w2 (wr.setCell ⟨w2.heap.size, y, none⟩ (.int .i64 1))) := HBq.out.setCell (Nat.le_refl _) _
                    have HOn : Hid ((wr.setCell ⟨w2.heap.size, y, none⟩ (.int .i64 1)).ownsRow (w2.heap.size + 1) 3 1 (.slice (some ⟨nb, 0, none⟩) ln lc) ln (ivals (nx (c : Int)))) := owns_lowS HOq.out (by show w2.heap.size < _; omega) _
                    have hcz := h2.cell hyN
                    have hfz := h2.frozen y
                    rw [hz] at hcz
                    clear h1 h2 h3 HQ hz hy hyt hy0 hy1 HOq
                    go_wp2_with fail
                    go_roundw
                    case rel => exact ⟨q + 1, hlq, by go_num, HN, HBn, HOn⟩
                    case measure => simp [intOf]; omega
                  · have HN : Hid (AtS N nx (fn : Int) C0 w2.heap.size wr c (q + 1)) := ⟨st, h1.pass (by rw [hyt]; omega), h2, h3⟩
                    have hcz := h2.cell hyN
                    obtain ⟨sy, hsy⟩ : ∃ sy, sy = st y := ⟨_, rfl⟩
                    rw [← hsy] at hcz hz
                    have hz' : ¬ ((sy : Int) = 0) := by omega
                    clear h1 h2 h3 HQ hsy hz hy hyt hy0 hy1
                    go_wp2_with fail
                    go_roundw
                    case rel => exact ⟨q + 1, hlq, by go_num, HN, HBq, HOq⟩
                    case measure => simp [intOf]; omega
                · obtain rfl : q = ln := by omega
                  have HN : Hid (PassS N nx (fn : Int) C0 w2.heap.size wr (c + 1) true) := by
                    obtain ⟨st, h1, h2, h3⟩ := HQ.out
                    rw [HLN.out] at h1
                    exact ⟨st, h1.done, h2, fun h => by simp at h, Nat.le_of_lt h3, fun _ => h3⟩
                  clear HQ
                  go_wp2_with fail
                  go_roundw
                  case rel => exact ⟨c + 1, true, hlc, by rfl, by go_num, HN, HBq⟩
                  case measure => simp [intOf]; omega
            · have HN : Hid (PassS N nx (fn : Int) C0 w2.heap.size wr (c + 1) ag) := ⟨st, h1, h2, fun ha j hj => by
                by_cases hjc : j < c
                · exact h3 ha j hjc
                · obtain rfl : j = c := by omega
                  exact hone, h4, h5⟩
              obtain ⟨sy, hsy⟩ : ∃ sy, sy = st c := ⟨_, rfl⟩
              rw [← hsy] at hcc hone
              have hz' : ¬ ((sy : Int) = 1) := by omega
              clear h1 h2 h3 h4 h5 HS2 hsy hone
              go_wp2_with fail
              go_roundw
              case rel => exact ⟨c + 1, ag, hlc, by rfl, by go_num, HN, HB2⟩
              case measure => simp [intOf]; omega
          · obtain rfl : c = N := by omega
            have HN : Hid (OutS c nx (fn : Int) w2.heap.size wr ag) := by
              obtain ⟨st, h1, h2, h3, _⟩ := HS2.out
              exact ⟨st, h1, h2, h3⟩
            have HMe : Hid (2 * cntW w2.heap.size c wr + (if ag = true then 1 else 0) < 2 * C0 + 1) := by
              obtain ⟨st, h1, h2, h3, h4, h5⟩ := HS2.out
              show _ < _
              rw [cntW_row h2]
              cases ag with
              | true => have := h5 rfl; simp; omega
              | false => simp; omega
            clear HS2
            go_wp2_with fail
            go_roundw
            case rel => exact ⟨ag, rfl, HN, HB2⟩
            case measure =>
              have h1 := HMe.out
              have h2 := HC0.out
              cases ag <;> simp at h1 ⊢ <;> omega
      | false =>
        obtain ⟨st, h1, h2, h3⟩ := HS.out
        have HRe : Hid (RL = markTo st N) := by show _ = _; rw [HRes.out]; exact (markTo_reach (HAll.out st h1 (h3 rfl))).symm
        have HRow2 : Hid (wr.rowIs w2.heap.size 3 N (fun j => .int .i64 (st j : Int))) := h2
        have hbwr := (HK2.out wr HBr.out).1
        obtain ⟨i0, hi, hz0, hz1, hz2⟩ := info_parts infoInt
        generalize wr = wp at *
        clear h1 h2 h3 HS
        go_wp2_with fail
        go_loopw [14, 15] (fun out i wr => ∃ c : Nat, c ≤ N ∧ i = .int .i64 c ∧ Hid (wr.ownsRow wp.heap.size 3 1 out (markTo st c).length (ivals (markTo st c))) ∧ Hid (Below wp.heap.size wp wr)) (fun _ i _ => N - (intOf i).toNat)
        case atStart => exact ⟨0, Nat.zero_le _, rfl, World.ownsRow_nil _ _ _ _, Below.refl _ _⟩
        case round =>
          obtain ⟨c, hc, rfl, HOwn, HBc⟩ := hrel
          have hbc := HBc.out
          have hrc := row_later HRow2.out hbc
          have hown := HOwn.out
          have hnb := hown.lt
          obtain ⟨oo, oc, rfl⟩ := owns_slice hown
          by_cases hlc : c < N
          · have hcc := hrc.cell hlc
            have HPl : Hid ((markTo st c).length ≤ c) := markTo_length _ _
            clear hrc
            obtain ⟨sy, hsy⟩ : ∃ sy, sy = st c := ⟨_, rfl⟩
            rw [← hsy] at hcc
            by_cases hin : 0 < sy
            · have HN : Hid (markTo st (c + 1) = markTo st c ++ [(c : Int)]) := markTo_yes (by rw [← hsy]; exact hin)
              have hin' : (0 : Int) < (sy : Int) := by omega
              obtain ⟨L, hL⟩ : ∃ L, L = (markTo st c).length := ⟨_, rfl⟩
              have HL : Hid (L = (markTo st c).length) := hL
              rw [← hL] at hown hnb HPl ⊢
              have h63 : L + 1 ≤ maxLen := by have := HPl.out; unfold maxLen; omega
              have hkb : (L + 1) * 8 ≤ 140737488355328 := by have := HPl.out; omega
              have hown4 := fun o => hown.alloc o
              have hbase : ∀ o, wp.heap.size ≤ (wr.alloc o).heap.size := fun o => by have := hbc.size; simp; omega
              clear hL hin HOwn hown hsy
              go_wp2_with (at_builtin; refine wpList_append_own _ rfl (.tmp 84) (.tmp 86) 26 rfl wp.heap.size 3 i0 (.int .i64 0) 1 8 Tryd.underlying26 hi hz0 hz1 hz2 rfl (by decide) (.slice oo L oc) L _ rfl (hown4 _) ⟨wr.heap.size, 0, none⟩ 1 1 [.int .i64 c] rfl rfl (cell_one_new _ _ _) (by intro u hu; simp at hu; subst hu; rfl) h63 hkb (hbase _) ?_; intro v' w4 hown' hgrow _)
              have hb4 : Below wp.heap.size wp w4 := (hbc.alloc hbc.size _).grown hgrow (hbase _) (fun z hz => (hnb z hz).1)
              have ho4 : w4.ownsRow wp.heap.size 3 1 v' (markTo st (c + 1)).length (ivals (markTo st (c + 1))) := by
                rw [HN.out, List.length_append, ← HL.out]
                rw [show ivals (markTo st c ++ [(c : Int)]) = ivals (markTo st c) ++ [.int .i64 c] by simp [ivals]]
                exact hown'
              go_roundw
              case rel => exact ⟨c + 1, hlc, by go_num, ho4, hb4⟩
              case measure => simp [intOf]; omega
            · have HN : Hid (markTo st (c + 1) = markTo st c) := markTo_no (by rw [← hsy]; exact hin)
              have hin' : ¬ (0 : Int) < (sy : Int) := by omega
              clear hin hown hsy
              go_wp2_with fail
              exact ⟨⟨c + 1, hlc, by first | rfl | simp, by rw [HN.out]; exact HOwn.out, hbc⟩, by simp [intOf]; omega⟩
          · obtain rfl : c = N := by omega
            have HI2 : Hid (IntsV wr (.slice oo (markTo st c).length oc) RL) := by
              show IntsV _ _ _
              rw [HRe.out]
              exact intsV_of_owns hown
            clear hown hrc HOwn
            go_wp2_with fail
            go_ret2
            exact ⟨_, rfl, hbwr.trans (hbc.mono hbwr.size), HI2⟩
  · have hRL : reachL m = [] := by unfold reachL; rw [if_neg hm]
    rw [if_neg hm] at hfi
    rw [hRL]
    obtain ⟨ao, cap, rfl⟩ := hV.1.shape
    obtain ⟨ro, rc, rfl⟩ := hV.2.shape
    generalize mcode m = c at *
    generalize m.vars.length = n at *
    generalize m.rules.length = rn at *
    clear hV hRL
    go_enter Tryd.func6, Tryd.ntmps6
    go_wp2_with (go_at_call 12; refine (hfi _).mono ?_; rintro e w1 ⟨rfl, hb1⟩)
    go_ret2
    exact ⟨_, rfl, (hA _).trans (hb1.mono (hA _).size), none, 0, rfl, fun h => absurd rfl h⟩
end Go.Proofs.YtbcjhkhndahdhaaDoor

/-
  The contract of the laws' own sameInts.
-/
namespace Go.Proofs.YtbcjhkhndahdhaaDoor
open Go.ChangeShapes Go.WideShapes Go.ChangeAt Go.RowKit Go.Deep
open Terms

set_option maxHeartbeats 800000 in
theorem sameInts_true (va vb : Value) (l : List Int) (w : World) (hl : l.length ≤ 140737488355328) (hA : IntsV w va l) (hB : IntsV w vb l) :
    Calls Tryd.prog 7 #[va, vb] w fun e w' => e = .returned (.bool true) ∧ ∃ n, w' = w.drewN n := by
  obtain ⟨ao, ca, rfl, ha⟩ := hA
  obtain ⟨bo, cb, rfl, hb⟩ := hB
  obtain ⟨n, hn⟩ : ∃ n, l.length = n := ⟨_, rfl⟩
  rw [hn] at hl ⊢
  have HA : Hid (l ≠ [] → ∃ b off, ao = some ⟨b, off, none⟩ ∧ b < w.heap.size ∧ IntsAt w b off l) := ha
  have HB : Hid (l ≠ [] → ∃ b off, bo = some ⟨b, off, none⟩ ∧ b < w.heap.size ∧ IntsAt w b off l) := hb
  have HN : Hid (l.length = n) := hn
  clear ha hb hn
  go_enter Tryd.func7, Tryd.ntmps7
  go_wp2
  go_loopw [5] (fun i wr => ∃ k : Nat, k ≤ n ∧ i = .int .i64 k ∧ ∃ q, wr = w.drewN q) (fun i _ => n - (intOf i).toNat)
  case atStart => exact ⟨0, Nat.zero_le _, rfl, 0, rfl⟩
  case round =>
    obtain ⟨k, hk, rfl, q, rfl⟩ := hrel
    by_cases hlt : k < n
    · have hne : l ≠ [] := by intro h; subst h; have := HN.out; simp at this; omega
      obtain ⟨b, off, rfl, _, hca⟩ := HA.out hne
      obtain ⟨b', off', rfl, _, hcb⟩ := HB.out hne
      have c1 := hca k (by rw [HN.out]; exact hlt)
      have c2 := hcb k (by rw [HN.out]; exact hlt)
      generalize l.getD k 0 = x at c1 c2
      clear hca hcb hne
      go_wp2_with fail
      go_quiet (fail)
      go_wp2_with fail
      go_roundw
      case rel => exact ⟨k + 1, by omega, by go_num, _, rfl⟩
      case measure => simp [intOf]; omega
    · go_wp2_with fail
      go_ret
      exact ⟨rfl, q, rfl⟩

theorem sameInts_b (va vb : Value) (l : List Int) (w : World) (hl : l.length ≤ 140737488355328) (hA : IntsV w va l) (hB : IntsV w vb l) :
    Calls Tryd.prog 7 #[va, vb] w fun e w' => e = .returned (.bool true) ∧ Below w.heap.size w w' :=
  (sameInts_true va vb l w hl hA hB).mono fun _ _ ⟨he, _, hw⟩ => ⟨he, hw ▸ below_drewN (Below.refl _ _) _⟩
end Go.Proofs.YtbcjhkhndahdhaaDoor
