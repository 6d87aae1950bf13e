/-
  Joined out of PSpots, LogicT, Bools, LogicParts, LogicBack, LogicTru, LogicRound, LogicTru2, LogicTr3, States, CodeRes, ValRes, Pairs, At, At2, At3, At4, Eval, Steps, ShelfClone, in their order: a claim bears at most so many files.
-/
import Derived.Test.YtdlpmomohbdpgaaDoorOwns
import Derived.Test.YtdlpmomohbdpgaaDoorLogicM
import Derived.Test.YtdlpmomohbdpgaaDoorMem
import Derived.Deep.OwnRows
import Derived.Test.YtdlpmomohbdpgaaDoorLogicRead
import Derived.RangeFuncNested
import Derived.RangeFuncBound
import Derived.RangeFuncCalls
import Derived.RangeFuncLeaves
import Derived.Shelf.Abstract
import Derived.Shelf.RegionOpen
import Derived.WalkKit
import Derived.OwnWalkIn
import Derived.TacticsInMore
import Derived.LoopNIn
import Derived.LoopIn
import Derived.Deep.RegionHeld3
import Derived.Test.YtdlpmomohbdpgaaDoorModels
import Derived.Test.YtdlpmomohbdpgaaDoorIntsOf
import Derived.Test.YtdlpmomohbdpgaaDoorTrees
import Derived.Maps.Own
import Derived.Deep.DrawnRows
import Derived.Deep.RegionHeld2
import Derived.Test.YtdlpmomohbdpgaaDoorExpr3
import Derived.Ground.Names2Prog
import Derived.Shelf.Slices.Clone
import Derived.Lib.OwnBridge
import Derived.Laws.OwnMore
/-
  Spots in memory, and one more appended.
-/
namespace Go.Proofs.YtdlpmomohbdpgaaDoor
open Go.ChangeShapes Go.WideShapes Go.ChangeAt Go.RowKit Go.Deep

theorem infoSpot : (Tryd.prog.info? 53).map (fun i => (i.zero, i.size, i.bytes)) = some (some (.agg #[.int .i64 0, .int .i64 0]), 2, 16) := by kernel_rfl
/-- a row of spots of the call's own. -/
def SpO (w : World) (base : Nat) (v : Value) (l : List (Int × Int)) : Prop := w.ownsRow base 53 2 v l.length (flat l)
theorem SpO.nil (w : World) (base : Nat) : SpO w base (.slice none 0 0) [] := World.ownsRow_nil _ _ _ _
theorem SpO.later {w w' : World} {base B : Nat} {v : Value} {l : List (Int × Int)} (h : SpO w base v l) (hb : Below B w w') (hB : w.heap.size ≤ B) : SpO w' base v l := owns_later h hb hB
theorem SpO.shape {w : World} {base : Nat} {v : Value} {l : List (Int × Int)} (h : SpO w base v l) : ∃ ao cap, v = .slice ao l.length cap := owns_slice h
/-- spots that are read. -/
def SpV (w : World) (v : Value) (l : List (Int × Int)) : Prop := ∃ ao cap, v = .slice ao l.length cap ∧ (l ≠ [] → ∃ b off, ao = some ⟨b, off, none⟩ ∧ b < w.heap.size ∧ OpsAt w b off l)
theorem SpV.nil (w : World) : SpV w (.slice none 0 0) [] := ⟨none, 0, rfl, fun h => absurd rfl h⟩
theorem SpV.below {w w' : World} {v : Value} {l : List (Int × Int)} (h : SpV w v l) (hb : Below w.heap.size w w') : SpV w' v l := by
  obtain ⟨ao, cap, rfl, h⟩ := h
  refine ⟨ao, cap, rfl, fun hne => ?_⟩
  obtain ⟨b, off, rfl, hlt, hat⟩ := h hne
  exact ⟨b, off, rfl, Nat.lt_of_lt_of_le hlt hb.size, fun i hi => ⟨(hb.cell (p := ⟨b, _, none⟩) hlt).trans (hat i hi).1, (hb.cell (p := ⟨b, _, none⟩) hlt).trans (hat i hi).2⟩⟩
theorem SpO.v {w : World} {base : Nat} {v : Value} {l : List (Int × Int)} (h : SpO w base v l) : SpV w v l := by
  rcases h.2 with ⟨rfl, h0⟩ | ⟨g, cap, cur, rfl, hb, hg, hnc, hcm, hcs, htake⟩
  · have : l = [] := by simpa using h0
    subst this
    exact SpV.nil w
  · refine ⟨_, cap, rfl, fun _ => ⟨g, 0, rfl, (Array.getElem?_eq_some_iff.1 hg).1, fun i hi => ?_⟩⟩
    obtain ⟨f0, f1⟩ := flat_get l i hi
    rw [World.ownsRow.cellAt h _ (by omega), World.ownsRow.cellAt h _ (by omega)]
    simpa using ⟨f0, f1⟩
section
variable {W : World}
/-- one more spot: 'append(out, s)'. -/
theorem push_sp {ops : Array Oper} {rest : List Oper} {o : Oper} {a : Act} {Q : Exit → Act → World → Prop} (y z : Int) (hgd : o.guard = none) (s x : Operand)
    (ho : o.op = .call { callee := .builtin .append, args := #[s, x], argTypes := #[30, 30] })
    (base n cap : Nat) (vo : Option Addr) (l : List (Int × Int)) (hl : l.length = n) (hs : a.eval s = .slice vo n cap) (hown : SpO W base (.slice vo n cap) l) (hx : a.eval x = .slice (some ⟨W.heap.size, 0, none⟩) 1 1)
    (hsz : (n + 1) * 16 ≤ 140737488355328) (hbase : base ≤ W.heap.size)
    (h : ∀ vo' cap' w', SpO w' base (.slice vo' (n + 1) cap') (l ++ [(y, z)]) → Below base W w' → (W.alloc (.cells #[.int .i64 y, .int .i64 z] 53)).grownBy w' (Value.slice vo n cap).ownBlock → wpList Tryd.prog ops Q rest (a.put o.dst (.slice vo' (n + 1) cap')) w') : wpList Tryd.prog ops Q (o :: rest) a (W.alloc (.cells #[.int .i64 y, .int .i64 z] 53)) := by
  subst hl
  obtain ⟨i0, hi, hz0, hz1, hz2⟩ := info_parts infoSpot
  have hown' : W.ownsRow base 53 2 (.slice vo l.length cap) l.length (flat l) := hown
  refine wpList_append_own _ hgd s x 30 ho base 53 i0 (.agg #[.int .i64 0, .int .i64 0]) 2 16 Tryd.underlying30 hi hz0 hz1 hz2 rfl (by decide) (.slice vo l.length cap) l.length (flat l) hs (hown'.alloc _) ⟨W.heap.size, 0, none⟩ 1 1 [.int .i64 y, .int .i64 z] hx rfl (two_new _ _ _ _) (by intro u hu; simp at hu; rcases hu with rfl | rfl <;> rfl) (by unfold maxLen; omega) hsz (Nat.le_trans hbase (by simp)) ?_
  intro v' w4 hown' hgrow _
  obtain ⟨a4, c4, rfl⟩ := owns_slice hown'
  refine h a4 c4 w4 ?_ (((Below.refl base W).alloc hbase _).grown hgrow (Nat.le_trans hbase (by simp)) (fun q hq => (World.ownsRow.lt hown q hq).1)) hgrow
  unfold SpO
  rw [flat_append, List.length_append]
  exact hown'
end
end Go.Proofs.YtdlpmomohbdpgaaDoor

/-
  Formulas: plain mathematics of what holds at a moment, with a letter and a claim.
-/
namespace Go.Proofs.YtdlpmomohbdpgaaDoor
open Go.ChangeShapes Go.WideShapes Go.ChangeAt Go.RowKit Go.Deep
open Terms

/-- where the second part of the op at a place begins (if it has one). -/
def sec (l : List (Int × Int)) (p : Nat) : Nat := endAt (l.map Prod.fst) (p + 1)
/-- the bit of a claim. -/
def bitB (claim : Int) (i : Nat) : Bool := decide (claim / 2 ^ i % 2 = 1)
/-- what an op that does not look ahead makes of its parts. -/
def mkB (o : Int × Int) (letter : List Bool) (a b : Bool) : Bool :=
  if o.1 = 13 then letter.getD o.2.toNat false else if o.1 = 11 then true else if o.1 = 10 then !a else if o.1 = 8 then a && b else if o.1 = 9 then a || b else false
def truF (l : List (Int × Int)) (letter : List Bool) (claim : Int) : Nat → Nat → Bool
  | 0, _ => false
  | f + 1, p => if lookB (l.getD p (0, 0)).1 = true then bitB claim (aheadTo l p).length else mkB (l.getD p (0, 0)) letter (truF l letter claim f (p + 1)) (truF l letter claim f (max (sec l p) (p + 1)))
/-- does the term that begins at a place hold? -/
def tru (l : List (Int × Int)) (letter : List Bool) (claim : Int) (p : Nat) : Bool := truF l letter claim (l.length - p) p
theorem truF_fuel (l : List (Int × Int)) (letter : List Bool) (claim : Int) : ∀ f g p, l.length ≤ f + p → l.length ≤ g + p → p < l.length → truF l letter claim f p = truF l letter claim g p := by
  intro f
  induction f with
  | zero => intro g p h _ hp; omega
  | succ f ih =>
    intro g p h1 h2 hp
    cases g with
    | zero => omega
    | succ g =>
      simp only [truF]
      have aux : ∀ q, p < q → truF l letter claim f q = truF l letter claim g q := by
        intro q hq
        by_cases hql : q < l.length
        · exact ih g q (by omega) (by omega) hql
        · have z : ∀ f q, l.length ≤ q → truF l letter claim f q = false := by
            intro f
            induction f with
            | zero => intro q _; rfl
            | succ f ihf =>
              intro q hq
              simp only [truF]
              rw [show l.getD q (0, 0) = (0, 0) by simp [List.getD_eq_getElem?_getD, hq]]
              simp [lookB, mkB]
          rw [z f q (by omega), z g q (by omega)]
      rw [aux (p + 1) (by omega), aux (max (sec l p) (p + 1)) (by omega)]
theorem tru_look {l : List (Int × Int)} {letter : List Bool} {claim : Int} {p : Nat} (hp : p < l.length) (h : lookB (l.getD p (0, 0)).1 = true) : tru l letter claim p = bitB claim (aheadTo l p).length := by
  unfold tru
  obtain ⟨f, hf⟩ : ∃ f, l.length - p = f + 1 := ⟨l.length - p - 1, by omega⟩
  rw [hf]
  simp only [truF]
  rw [if_pos h]
theorem tru_mk {l : List (Int × Int)} {letter : List Bool} {claim : Int} {p : Nat} (hp : p < l.length) (h : lookB (l.getD p (0, 0)).1 = false) (hs : pn (l.getD p (0, 0)).1 = 2 → p + 1 < sec l p) : tru l letter claim p = mkB (l.getD p (0, 0)) letter (tru l letter claim (p + 1)) (tru l letter claim (sec l p)) := by
  unfold tru
  obtain ⟨f, hf⟩ : ∃ f, l.length - p = f + 1 := ⟨l.length - p - 1, by omega⟩
  rw [hf]
  have z : ∀ f q, l.length ≤ q → truF l letter claim f q = false := by
    intro f
    induction f with
    | zero => intro q _; rfl
    | succ f ihf =>
      intro q hq
      simp only [truF]
      rw [show l.getD q (0, 0) = (0, 0) by simp [List.getD_eq_getElem?_getD, hq]]
      simp [lookB, mkB]
  have aux : ∀ q, p < q → truF l letter claim f q = truF l letter claim (l.length - q) q := by
    intro q hq
    by_cases hql : q < l.length
    · exact truF_fuel l letter claim f _ q (by omega) (by omega) hql
    · rw [z _ q (by omega), z _ q (by omega)]
  simp only [truF]
  rw [if_neg (by rw [h]; decide), aux (p + 1) (by omega)]
  by_cases h2 : pn (l.getD p (0, 0)).1 = 2
  · rw [show max (sec l p) (p + 1) = sec l p by have := hs h2; omega, aux (sec l p) (by have := hs h2; omega)]
  · have hk : (l.getD p (0, 0)).1 ≠ 8 ∧ (l.getD p (0, 0)).1 ≠ 9 := by
      constructor <;> intro e <;> rw [e] at h2 <;> exact absurd rfl h2
    simp only [mkB, hk.1, hk.2, if_false]

/-! ### the places that look ahead -/
theorem aheadTo_get (l : List (Int × Int)) : ∀ n i, i < (aheadTo l n).length → ∃ p : Nat, (aheadTo l n).getD i 0 = p ∧ p < n ∧ lookB (l.getD p (0, 0)).1 = true ∧ (aheadTo l p).length = i := by
  intro n
  induction n with
  | zero => intro i hi; simp [aheadTo] at hi
  | succ n ih =>
    intro i hi
    cases hb : lookB (l.getD n (0, 0)).1 with
    | false =>
      rw [aheadTo_no hb] at hi ⊢
      obtain ⟨p, h1, h2, h3, h4⟩ := ih i hi
      exact ⟨p, h1, by omega, h3, h4⟩
    | true =>
      rw [aheadTo_yes hb] at hi ⊢
      by_cases hl : i < (aheadTo l n).length
      · obtain ⟨p, h1, h2, h3, h4⟩ := ih i hl
        refine ⟨p, ?_, by omega, h3, h4⟩
        rw [← h1]; simp [List.getD_eq_getElem?_getD, List.getElem?_append_left hl]
      · have hi' : i = (aheadTo l n).length := by simp at hi; omega
        subst hi'
        exact ⟨n, by simp [List.getD_eq_getElem?_getD], by omega, hb, rfl⟩
theorem aheadTo_mono (l : List (Int × Int)) {p n : Nat} (h : p ≤ n) : (aheadTo l p).length ≤ (aheadTo l n).length := by
  induction n with
  | zero => obtain rfl : p = 0 := by omega
            exact Nat.le_refl _
  | succ n ih =>
    by_cases hp : p = n + 1
    · subst hp; exact Nat.le_refl _
    · have := ih (by omega)
      simp only [aheadTo, List.length_append]; omega
theorem aheadTo_lt (l : List (Int × Int)) {p n : Nat} (h : p < n) (hb : lookB (l.getD p (0, 0)).1 = true) : (aheadTo l p).length < (aheadTo l n).length := by
  have := aheadTo_mono l (p := p + 1) (n := n) (by omega)
  rw [aheadTo_yes hb] at this
  simp at this; omega

/-! ### the parts of an op lie inside -/
theorem part_in {l : List (Int × Int)} (hz : endsCode (l.map Prod.fst) = 0) {p : Nat} (hp : p < l.length) :
    (1 ≤ pn (l.getD p (0, 0)).1 → p + 1 < l.length) ∧ (pn (l.getD p (0, 0)).1 = 2 → p + 1 < sec l p ∧ sec l p < l.length) := by
  obtain ⟨_, hc⟩ := code_zero hz
  obtain ⟨ks, hks⟩ : ∃ ks, ks = l.map Prod.fst := ⟨_, rfl⟩
  have hlen : ks.length = l.length := by rw [hks, List.length_map]
  have hget : ks.getD p 0 = (l.getD p (0, 0)).1 := by rw [hks]; simp [List.getD_eq_getElem?_getD, hp]
  have hsec : sec l p = endAt ks (p + 1) := by unfold sec; rw [← hks]
  rw [← hks] at hc
  rw [← hget, hsec, ← hlen]
  obtain ⟨m, hm, hm1, hml⟩ := cnt_in ks 1 ks.length p hc (by omega)
  have ha := cnt_at (ks := ks) (q := p) (by omega)
  rw [hm] at ha
  split at ha
  · cases hr : cnt (ks.drop (p + 1)) (pn (ks.getD p 0)) with
    | no e => rw [hr] at ha; simp [R.up] at ha
    | ok m2 =>
      rw [hr] at ha
      simp only [R.up, R.ok.injEq] at ha
      have h2 := cnt_le _ _ _ hr
      rw [List.length_drop] at h2
      refine ⟨fun h => by omega, fun h => ?_⟩
      rw [h, show (2 : Nat) = 1 + 1 from rfl] at hr
      obtain ⟨a, b, hca, hcb, hab⟩ := cnt_parts hr
      have h3 := cnt_le _ _ _ hca
      have h4 := cnt_le _ _ _ hcb
      rw [endAt_ok hca]
      omega
  · simp at ha
theorem bit_small : ∀ c, c < 64 → ∀ i, i < 6 → ((c >>> i) &&& 1 == 1) = decide (((c : Nat) : Int) / 2 ^ i % 2 = 1) := by decide
end Go.Proofs.YtdlpmomohbdpgaaDoor

/-
  Slices of truths; the contract of the laws' own sameTruths.
-/
namespace Go.Proofs.YtdlpmomohbdpgaaDoor
open Go.ChangeShapes Go.WideShapes Go.ChangeAt Go.RowKit Go.Deep
open Terms

theorem infoBool : (Tryd.prog.info? 4).map (fun i => (i.zero, i.size, i.bytes)) = some (some (.bool false), 1, 1) := by kernel_rfl
/-- a slice of truths. -/
def BoolsAt (w : World) (b off : Nat) (l : List Bool) : Prop := ∀ i, i < l.length → w.cell? ⟨b, off + i, none⟩ = some (.bool (l.getD i false))
def BoolsV (w : World) (v : Value) (l : List Bool) : Prop := ∃ ao cap, v = .slice ao l.length cap ∧ (l ≠ [] → ∃ b off, ao = some ⟨b, off, none⟩ ∧ b < w.heap.size ∧ BoolsAt w b off l)
theorem BoolsV.below {w w' : World} {v : Value} {l : List Bool} (h : BoolsV w v l) (hb : Below w.heap.size w w') : BoolsV w' v l := by
  obtain ⟨ao, cap, rfl, h⟩ := h
  refine ⟨ao, cap, rfl, fun hne => ?_⟩
  obtain ⟨b, off, rfl, hlt, hat⟩ := h hne
  exact ⟨b, off, rfl, Nat.lt_of_lt_of_le hlt hb.size, fun i hi => (hb.cell (p := ⟨b, _, none⟩) hlt).trans (hat i hi)⟩
def bvals (l : List Bool) : List Value := l.map fun x => .bool x
theorem boolsV_of_owns {w : World} {base : Nat} {v : Value} {l : List Bool} (h : w.ownsRow base 4 1 v l.length (bvals l)) : BoolsV w v l := by
  rcases h.2 with ⟨rfl, h0⟩ | ⟨g, cap, cur, rfl, hb, hg, hnc, hcm, hcs, htake⟩
  · have : l = [] := by simpa using h0
    subst this
    exact ⟨none, 0, rfl, fun h => absurd rfl h⟩
  · refine ⟨_, cap, rfl, fun _ => ⟨g, 0, rfl, (Array.getElem?_eq_some_iff.1 hg).1, fun i hi => ?_⟩⟩
    rw [Nat.zero_add, h.cellAt i (by omega)]
    simp [bvals, List.getD_eq_getElem?_getD, hi]
theorem boolsV_of_row {w : World} {B : Nat} {l : List Bool} (h : w.rowIs B 4 l.length (fun j => .bool (l.getD j false))) : BoolsV w (.slice (some ⟨B, 0, none⟩) l.length l.length) l :=
  ⟨some ⟨B, 0, none⟩, l.length, rfl, fun _ => ⟨B, 0, rfl, h.lt, fun i hi => by rw [Nat.zero_add, h.cell hi]⟩⟩

end Go.Proofs.YtdlpmomohbdpgaaDoor

/-
  The contracts of logic's parts (and its two functions) and makes.
-/
namespace Go.Proofs.YtdlpmomohbdpgaaDoor
open Go.ChangeShapes Go.WideShapes Go.ChangeAt Go.RowKit Go.Deep
open Terms

/-- what the functions that tell of the parts stand on: the box of holds, the row behind it, the boxes of the formula and of the place. -/
structure PartsAt (w : World) (bh bf bp bH n B pl : Nat) (h : Nat → Bool) (l : List (Int × Int)) : Prop where
  holds : w.cell? ⟨bh, 0, none⟩ = some (.slice (some ⟨bH, 0, none⟩) n n)
  row : ∀ j, j < n → w.cell? ⟨bH, j, none⟩ = some (.bool (h j))
  ends : w.cell? ⟨bf, 1, none⟩ = some (.slice (some ⟨B, 0, none⟩) n n)
  erow : ∀ j, j < n → w.cell? ⟨B, j, none⟩ = some (.int .i64 (endAt (l.map Prod.fst) j))
  place : w.cell? ⟨bp, 0, none⟩ = some (.int .i64 pl)

theorem first_any (bh bp bH n pl : Nat) (x : Bool) (w : World) (hn : n ≤ 60) (hp : pl + 1 < n) (c0 : w.cell? ⟨bh, 0, none⟩ = some (.slice (some ⟨bH, 0, none⟩) n n)) (c1 : w.cell? ⟨bp, 0, none⟩ = some (.int .i64 pl)) (c2 : w.cell? ⟨bH, pl + 1, none⟩ = some (.bool x)) :
    Calls Tryd.prog 79 #[.pointer (some ⟨bh, 0, none⟩), .pointer (some ⟨bp, 0, none⟩)] w fun e w' => e = .returned (.bool x) ∧ w' = w := by
  go_enter Tryd.func79, Tryd.ntmps79
  go_wp2_with fail
  go_ret
  exact ⟨rfl, rfl⟩

theorem second_any (bh bf bp bH n B pl s : Nat) (x : Bool) (w : World) (hn : n ≤ 60) (hp : pl + 1 < n) (hs : s < n) (c0 : w.cell? ⟨bh, 0, none⟩ = some (.slice (some ⟨bH, 0, none⟩) n n)) (c1 : w.cell? ⟨bp, 0, none⟩ = some (.int .i64 pl)) (c2 : w.cell? ⟨bf, 1, none⟩ = some (.slice (some ⟨B, 0, none⟩) n n)) (c3 : w.cell? ⟨B, pl + 1, none⟩ = some (.int .i64 s)) (c4 : w.cell? ⟨bH, s, none⟩ = some (.bool x)) :
    Calls Tryd.prog 80 #[.pointer (some ⟨bh, 0, none⟩), .pointer (some ⟨bf, 0, none⟩), .pointer (some ⟨bp, 0, none⟩)] w fun e w' => e = .returned (.bool x) ∧ ∃ q, w' = w.drewN q := by
  go_enter Tryd.func80, Tryd.ntmps80
  go_wp2_with fail
  go_quiet (fail)
  go_wp2_with fail
  go_ret
  exact ⟨rfl, _, rfl⟩

/-- the two functions that parts hands back. -/
def fst2 (bh bp : Nat) : Value := .func (.func 79) #[] #[.pointer (some ⟨bh, 0, none⟩), .pointer (some ⟨bp, 0, none⟩)]
def snd2 (bh bf bp : Nat) : Value := .func (.func 80) #[] #[.pointer (some ⟨bh, 0, none⟩), .pointer (some ⟨bf, 0, none⟩), .pointer (some ⟨bp, 0, none⟩)]

theorem parts_any (b off cap n B bH pl : Nat) (av : Value) (h : Nat → Bool) (l : List (Int × Int)) (aao : Option Addr) (an ac : Nat) (hav : av = .slice aao an ac) (w : World) (hr : ∀ j, j < n → w.cell? ⟨bH, j, none⟩ = some (.bool (h j))) (hbH : bH < w.heap.size) (he : ∀ j, j < n → w.cell? ⟨B, j, none⟩ = some (.int .i64 (endAt (l.map Prod.fst) j))) (hbB : B < w.heap.size) :
    Calls Tryd.prog 60 #[.agg #[.slice (some ⟨b, off, none⟩) n cap, .slice (some ⟨B, 0, none⟩) n n, av], .int .i64 pl, .slice (some ⟨bH, 0, none⟩) n n] w fun e w' =>
      e = .returned (.tuple #[.func (.func 79) #[] #[.pointer (some ⟨w.heap.size + 1 + 1, 0, none⟩), .pointer (some ⟨w.heap.size + 1, 0, none⟩)], .func (.func 80) #[] #[.pointer (some ⟨w.heap.size + 1 + 1, 0, none⟩), .pointer (some ⟨w.heap.size, 0, none⟩), .pointer (some ⟨w.heap.size + 1, 0, none⟩)]]) ∧ Below w.heap.size w w' ∧ Hid (PartsAt w' (w.heap.size + 1 + 1) w.heap.size (w.heap.size + 1) bH n B pl h l) := by
  subst hav
  have HR := (show Hid _ from hr)
  have HE := (show Hid _ from he)
  clear hr he
  go_enter Tryd.func60, Tryd.ntmps60
  go_wp2_with fail
  go_ret2
  have hb : Below w.heap.size w (((w.alloc (.cells #[.slice (some ⟨b, off, none⟩) n cap, .slice (some ⟨B, 0, none⟩) n n, .slice aao an ac] 77)).alloc (.cells #[.int .i64 pl] 3)).alloc (.cells #[.slice (some ⟨bH, 0, none⟩) n n] 47)) := (((Below.refl _ _).alloc (Nat.le_refl _) _).alloc (by simp) _).alloc (by simp; omega) _
  refine ⟨rfl, hb, ?_⟩
  show PartsAt _ _ _ _ _ _ _ _ _ _
  constructor
  · simp [go_sem]
  · exact fun j hj => (hb.cell (p := ⟨bH, j, none⟩) hbH).trans (HR.out j hj)
  · simp [go_sem]
  · exact fun j hj => (hb.cell (p := ⟨B, j, none⟩) hbB).trans (HE.out j hj)
  · simp [go_sem]
theorem PartsAt.below {w w' : World} {bh bf bp bH n B pl : Nat} {h : Nat → Bool} {l : List (Int × Int)} (p : PartsAt w bh bf bp bH n B pl h l) (hb : Below w.heap.size w w') (h1 : bh < w.heap.size) (h2 : bf < w.heap.size) (h3 : bp < w.heap.size) (h4 : bH < w.heap.size) (h5 : B < w.heap.size) : PartsAt w' bh bf bp bH n B pl h l :=
  ⟨(hb.cell (p := ⟨bh, 0, none⟩) h1).trans p.holds, fun j hj => (hb.cell (p := ⟨bH, j, none⟩) h4).trans (p.row j hj), (hb.cell (p := ⟨bf, 1, none⟩) h2).trans p.ends, fun j hj => (hb.cell (p := ⟨B, j, none⟩) h5).trans (p.erow j hj), (hb.cell (p := ⟨bp, 0, none⟩) h3).trans p.place⟩
theorem PartsAt.first {w : World} {bh bf bp bH n B pl : Nat} {h : Nat → Bool} {l : List (Int × Int)} (p : PartsAt w bh bf bp bH n B pl h l) (hn : n ≤ 60) (hp : pl + 1 < n) (q : Nat) :
    Calls Tryd.prog 79 #[.pointer (some ⟨bh, 0, none⟩), .pointer (some ⟨bp, 0, none⟩)] (w.drewN q) fun e w' => e = .returned (.bool (h (pl + 1))) ∧ w' = w.drewN q :=
  first_any bh bp bH n pl _ _ hn hp (by simpa using p.holds) (by simpa using p.place) (by simpa using p.row _ hp)
theorem PartsAt.second {w : World} {bh bf bp bH n B pl : Nat} {h : Nat → Bool} {l : List (Int × Int)} (p : PartsAt w bh bf bp bH n B pl h l) (hn : n ≤ 60) (hp : pl + 1 < n) (hs : sec l pl < n) (q : Nat) :
    Calls Tryd.prog 80 #[.pointer (some ⟨bh, 0, none⟩), .pointer (some ⟨bf, 0, none⟩), .pointer (some ⟨bp, 0, none⟩)] (w.drewN q) fun e w' => e = .returned (.bool (h (sec l pl))) ∧ ∃ r, w' = w.drewN r :=
  (second_any bh bf bp bH n B pl (sec l pl) _ _ hn hp hs (by simpa using p.holds) (by simpa using p.place) (by simpa using p.ends) (by have := p.erow _ hp; unfold sec; simpa using this) (by simpa using p.row _ hs)).mono fun e w' ⟨h1, r, h2⟩ => ⟨h1, q + r, by rw [h2, World.drewN_drewN]⟩

set_option maxHeartbeats 1600000 in
set_option maxRecDepth 20000 in
/-- THE CONTRACT OF makes. -/
theorem makes_any (k v : Int) (lo : Option Addr) (lc bh bf bp bH n B pl : Nat) (letter : List Bool) (h : Nat → Bool) (l : List (Int × Int)) (w : World) (hn : n ≤ 60)
    (hL : BoolsV w (.slice lo letter.length lc) letter) (hP : PartsAt w bh bf bp bH n B pl h l) (b1 : bh < w.heap.size) (b2 : bf < w.heap.size) (b3 : bp < w.heap.size) (b4 : bH < w.heap.size) (b5 : B < w.heap.size)
    (h13 : k = 13 → 0 ≤ v ∧ v < letter.length) (h1 : k = 10 ∨ k = 8 ∨ k = 9 → pl + 1 < n) (h2 : k = 8 ∨ k = 9 → sec l pl < n) :
    Calls Tryd.prog 61 #[.agg #[.int .i64 k, .int .i64 v], .slice lo letter.length lc, .func (.func 79) #[] #[.pointer (some ⟨bh, 0, none⟩), .pointer (some ⟨bp, 0, none⟩)], .func (.func 80) #[] #[.pointer (some ⟨bh, 0, none⟩), .pointer (some ⟨bf, 0, none⟩), .pointer (some ⟨bp, 0, none⟩)]] w fun e w' =>
      e = .returned (.bool (mkB (k, v) letter (h (pl + 1)) (h (sec l pl)))) ∧ Below w.heap.size w w' := by
  have hA : ∀ o, Below w.heap.size w (w.alloc o) := fun o => (Below.refl _ _).alloc (Nat.le_refl _) o
  have hP' := fun o => hP.below (hA o) b1 b2 b3 b4 b5
  by_cases e13 : k = 13
  · subst e13
    obtain ⟨hv0, hv1⟩ := h13 rfl
    obtain ⟨vn, rfl⟩ : ∃ vn : Nat, v = vn := ⟨v.toNat, by omega⟩
    obtain ⟨lo', lc', hls, hll⟩ := hL
    injection hls with e1 e2 e3
    subst e1
    obtain ⟨b, off, rfl, hbl, hat⟩ := hll (by intro h; rw [h] at hv1; simp at hv1; omega)
    have hc := fun o => ((hA o).cell (p := ⟨b, off + vn, none⟩) hbl).trans (hat vn (by omega))
    have hm : mkB (13, (vn : Int)) letter (h (pl + 1)) (h (sec l pl)) = letter.getD vn false := by simp [mkB]
    rw [hm]
    generalize letter.getD vn false = x at hc ⊢
    generalize letter.length = ln at *
    have hvl : vn < ln := by omega
    clear hm hll hat hv0 hv1 h1 h2 h13 hP hP'
    go_enter Tryd.func61, Tryd.ntmps61
    go_wp2_with fail
    go_ret
    exact ⟨rfl, hA _⟩
  · by_cases e11 : k = 11
    · subst e11
      have hm : mkB (11, v) letter (h (pl + 1)) (h (sec l pl)) = true := by simp [mkB]
      rw [hm]
      clear hm hL h1 h2 h13 hP hP' e13
      go_enter Tryd.func61, Tryd.ntmps61
      go_wp2_with fail
      go_ret
      exact ⟨rfl, hA _⟩
    · by_cases e10 : k = 10
      · subst e10
        have hp := h1 (.inl rfl)
        have hf := fun o => (hP' o).first hn hp 0
        have hm : mkB (10, v) letter (h (pl + 1)) (h (sec l pl)) = !h (pl + 1) := by simp [mkB]
        rw [hm]
        generalize h (pl + 1) = x at hf ⊢
        clear hm hL h1 h2 h13 hP hP' e13 e11
        go_enter Tryd.func61, Tryd.ntmps61
        go_wp2_with (go_at_call 79; refine (hf _).mono ?_; rintro e w1 ⟨rfl, rfl⟩)
        go_ret
        exact ⟨rfl, below_drewN (hA _) 0⟩
      · by_cases e8 : k = 8
        · subst e8
          have hp := h1 (.inr (.inl rfl))
          have hs := h2 (.inl rfl)
          have hf := fun o q => (hP' o).first hn hp q
          have hf2 := fun o q => (hP' o).second hn hp hs q
          have hm : mkB (8, v) letter (h (pl + 1)) (h (sec l pl)) = (h (pl + 1) && h (sec l pl)) := by simp [mkB]
          rw [hm]
          generalize h (pl + 1) = x at hf ⊢
          generalize h (sec l pl) = y at hf2 ⊢
          clear hm hL h1 h2 h13 hP hP' e13 e11 e10
          cases x
          · go_enter Tryd.func61, Tryd.ntmps61
            go_wp2_with (go_at_call 79; refine (hf _ 0).mono ?_; rintro e w1 ⟨rfl, rfl⟩)
            go_ret
            exact ⟨rfl, below_drewN (hA _) 0⟩
          · go_enter Tryd.func61, Tryd.ntmps61
            go_wp2_with (first | (go_at_call 79; refine (hf _ 0).mono ?_; rintro e w1 ⟨rfl, rfl⟩) | (go_at_call 80; refine (hf2 _ 0).mono ?_; rintro e w1 ⟨rfl, r, rfl⟩))
            go_ret
            exact ⟨by simp, below_drewN (hA _) _⟩
        · by_cases e9 : k = 9
          · subst e9
            have hp := h1 (.inr (.inr rfl))
            have hs := h2 (.inr rfl)
            have hf := fun o q => (hP' o).first hn hp q
            have hf2 := fun o q => (hP' o).second hn hp hs q
            have hm : mkB (9, v) letter (h (pl + 1)) (h (sec l pl)) = (h (pl + 1) || h (sec l pl)) := by simp [mkB]
            rw [hm]
            generalize h (pl + 1) = x at hf ⊢
            generalize h (sec l pl) = y at hf2 ⊢
            clear hm hL h1 h2 h13 hP hP' e13 e11 e10 e8
            cases x
            · go_enter Tryd.func61, Tryd.ntmps61
              go_wp2_with (first | (go_at_call 79; refine (hf _ 0).mono ?_; rintro e w1 ⟨rfl, rfl⟩) | (go_at_call 80; refine (hf2 _ 0).mono ?_; rintro e w1 ⟨rfl, r, rfl⟩))
              go_ret
              exact ⟨by simp, below_drewN (hA _) _⟩
            · go_enter Tryd.func61, Tryd.ntmps61
              go_wp2_with (go_at_call 79; refine (hf _ 0).mono ?_; rintro e w1 ⟨rfl, rfl⟩)
              go_ret
              exact ⟨rfl, below_drewN (hA _) 0⟩
          · have hm : mkB (k, v) letter (h (pl + 1)) (h (sec l pl)) = false := by simp [mkB, e13, e11, e10, e8, e9]
            rw [hm]
            clear hm hL h1 h2 h13 hP hP'
            go_enter Tryd.func61, Tryd.ntmps61
            go_wp2_with fail
            go_ret
            exact ⟨rfl, hA _⟩
end Go.Proofs.YtdlpmomohbdpgaaDoor

/-
  The contract of slices.Backward over a list of ops, for every body that keeps what it reads.
-/
namespace Go.Proofs.YtdlpmomohbdpgaaDoor
open Go.ChangeShapes Go.WideShapes Go.ChangeAt Go.RowKit Go.Deep Go.Shelf
open Terms

attribute [local go_sem] Oper.semAt_some

/-- the places from the last one on. -/
def backAt {n : Nat} (h : 0 < n) (j : Nat) : Fin n := ⟨n - 1 - j, by omega⟩
def backTo {n : Nat} (h : 0 < n) (k : Nat) : List (Fin n) := (List.range k).map (backAt h)
theorem backTo_succ {n : Nat} (h : 0 < n) (k : Nat) : backTo h (k + 1) = backTo h k ++ [backAt h k] := by simp [backTo, List.range_succ]
theorem backTo_length {n : Nat} (h : 0 < n) (k : Nat) : (backTo h k).length = k := by simp [backTo]
def opV (l : List (Int × Int)) (j : Nat) : Value := .agg #[.int .i64 (l.getD j (0, 0)).1, .int .i64 (l.getD j (0, 0)).2]
def backEnc (l : List (Int × Int)) (n : Nat) (x : Fin n) : Array Value := #[.int .i64 (x.1 : Int), .agg #[.int .i64 (l.getD x.1 (0, 0)).1, .int .i64 (l.getD x.1 (0, 0)).2]]
/-- what a round keeps: what lies below, and the iterator's own box. -/
def BackK (n₀ Bs : Nat) (A B : World) : Prop := Below n₀ A B ∧ B.heap[Bs]? = A.heap[Bs]?

set_option maxRecDepth 100000 in
set_option maxHeartbeats 2000000 in
theorem back1_in (F : Fence) (m : Nat) (h7 : F.fn 78) (hro : F.round = none) (hm : 1 ≤ m) (L Bs n₀ b off n cap : Nat) (l : List (Int × Int)) (h0n : 0 < n) (h60 : n ≤ 60) (hnl : n = l.length) (hb : b < n₀) (J Jx : List (Fin n) → World → Prop)
    (hY : ∀ pre x W, J pre W → pre.length < n → YieldAt F (m - 1) Tryd.prog L (backEnc l n x) W fun e W' =>
      (e = .returned (.bool true) ∧ J (pre ++ [x]) W' ∧ BackK n₀ Bs W W') ∨ (e = .returned (.bool false) ∧ Jx (pre ++ [x]) W'))
    (W : World) (hBs : W.cell? ⟨Bs, 0, none⟩ = some (.slice (some ⟨b, off, none⟩) n cap)) (hc : OpsAt W b off l) (h0 : J [] W) :
    CallsIn F m Tryd.prog 78 #[.func (.yield L) #[] #[], .pointer (some ⟨Bs, 0, none⟩)] W fun e W' => (∃ v, e = .returned v) ∧
      ((∃ ys, ys = backTo h0n n ∧ J ys W') ∨ (∃ pre, (∃ k, k ≤ n ∧ pre = backTo h0n k) ∧ Jx pre W')) := by
  refine callsIn_of_wp Tryd.func78 rfl h7 ?_ hro
  simp only [Tryd.ntmps78, List.size_toArray, List.length_cons, List.length_nil, Nat.reduceAdd, Nat.reduceSub, Array.replicate_succ, Array.replicate_zero, List.push_toArray, List.append_toArray, List.nil_append, List.cons_append]
  have HC : Hid (OpsAt W b off l) := hc
  have HN : Hid (n = l.length) := hnl
  clear hc hnl
  gi_wp2
  gi_loopw [3] (fun i wr => ∃ k : Nat, k ≤ n ∧ i = .int .i64 ((n : Int) - 1 - k) ∧ J (backTo h0n k) wr ∧ BackK n₀ Bs W wr)
    (fun i _ => (intOf i + 1).toNat)
  case atStart => exact ⟨0, Nat.zero_le _, by first | rfl | simp, h0, Below.refl _ _, rfl⟩
  case round =>
    obtain ⟨k, hk, rfl, hJs, hnx, hbx⟩ := hrel
    have hcb : wr.cell? ⟨Bs, 0, none⟩ = some (.slice (some ⟨b, off, none⟩) n cap) := (World.cell?_of_block (w := W) hbx).trans hBs
    by_cases hlt : k < n
    · obtain ⟨p, hp⟩ : ∃ p : Nat, p = n - 1 - k := ⟨_, rfl⟩
      have hpi : (n : Int) - 1 - k = (p : Int) := by omega
      have hpn : p < n := by omega
      obtain ⟨c0, c1⟩ := (HC.out.below hnx hb) p (by rw [← HN.out]; exact hpn)
      obtain ⟨fn, tmps, assign, body, hy, hR⟩ := hY _ (backAt h0n k) wr hJs (by rw [backTo_length]; exact hlt)
      have hba : (backAt h0n k).1 = p := hp.symm
      simp only [backEnc, hba] at hy
      rw [hpi]
      have HPI : Hid ((n : Int) - 1 - k = (p : Int)) := hpi
      clear hp hpi hba
      generalize l.getD p (0, 0) = xy at c0 c1 hy
      obtain ⟨x, y⟩ := xy
      simp only at c0 c1 hy
      gi_wp2
      refine hR.mono ?_
      rintro e W3 (⟨rfl, hJ3, hk3, hk4⟩ | ⟨rfl, hJx3⟩)
      · gi_wp2
        go_roundw
        case rel => exact ⟨k + 1, by omega, by have := HPI.out; first | (congr 1; omega) | (simp; omega), by rw [backTo_succ]; exact hJ3, hnx.trans hk3, hk4.trans hbx⟩
        case measure => have := HPI.out; first | (simp [intOf]; omega) | simp [intOf]
      · gi_wp2
        refine bodyPost_ret (results_none rfl _ _ _) rfl ?_
        exact ⟨⟨_, rfl⟩, .inr ⟨_, ⟨k + 1, by omega, (backTo_succ _ _).symm⟩, hJx3⟩⟩
    · obtain rfl : k = n := by omega
      have hpi : (k : Int) - 1 - k = -1 := by omega
      rw [hpi]
      gi_wp2
      go_end0
      exact ⟨⟨_, rfl⟩, .inl ⟨_, rfl, hJs⟩⟩

set_option maxHeartbeats 1000000 in
theorem back_in (F : Fence) (m : Nat) (h5 : F.fn 59) (hro : F.round = none) (a : Option Addr) (len cap : Nat) (w : World) :
    CallsIn F m Tryd.prog 59 #[.slice a len cap] w fun e w' => e = .returned (.func (.func 78) #[] #[.pointer (some ⟨w.heap.size, 0, none⟩)]) ∧ w' = w.alloc (.cells #[.slice a len cap] 27) := by
  refine callsIn_of_wp Tryd.func59 rfl h5 ?_ hro
  simp only [Tryd.ntmps59, List.size_toArray, List.length_cons, List.length_nil, Nat.reduceAdd, Nat.reduceSub, Array.replicate_succ, Array.replicate_zero, List.push_toArray, List.append_toArray, List.nil_append, List.cons_append]
  gi_wp2
  go_ret
  exact ⟨rfl, rfl⟩

theorem back_stops (F : Fence) (m : Nat) (h7 : F.fn 78) (hro : F.round = none) (hm : 1 ≤ m) (Bs n₀ b off n cap : Nat) (l : List (Int × Int)) (h0n : 0 < n) (h60 : n ≤ 60) (hnl : n = l.length) (hb : b < n₀) (w : World) (hBs : Bs < w.heap.size) (hn₀ : n₀ ≤ w.heap.size)
    (hc : w.cell? ⟨Bs, 0, none⟩ = some (.slice (some ⟨b, off, none⟩) n cap)) (hI : OpsAt w b off l) :
    SeqStopsK F m Tryd.prog 78 #[.pointer (some ⟨Bs, 0, none⟩)] (backEnc l n) (BackK n₀ Bs) (fun ys => ys = backTo h0n n)
      (fun pre => ∃ k, k ≤ n ∧ pre = backTo h0n k) n w := fun L J Jx W hW _ _ hY h0 =>
  back1_in F m h7 hro hm L Bs n₀ b off n cap l h0n h60 hnl hb J Jx hY W ((hW.cell (p := ⟨Bs, 0, none⟩) hBs).trans hc) (hI.below (hW.mono hn₀) hb) h0
theorem backK_t {n₀ Bs : Nat} {A B C : World} (h : BackK n₀ Bs A B) (k : BackK n₀ Bs B C) : BackK n₀ Bs A C := ⟨h.1.trans k.1, k.2.trans h.2⟩
theorem backK_b {n₀ Bs : Nat} {w : World} (hn : n₀ ≤ w.heap.size) (hB : Bs < w.heap.size) (W : World) (l : Nat) (o o' : Obj) (hl : w.heap.size ≤ l) (h : W.heap[l]? = some o) (h1 : o.isCells = false) (h2 : o.isWalk = false) : BackK n₀ Bs W (W.putObj l o') :=
  ⟨belowK_b hn W l o o' hl h h1 h2, (belowK_b (n₀ := Bs + 1) (w := w) hB W l o o' hl h h1 h2).block Bs (Nat.lt_succ_self _)⟩
end Go.Proofs.YtdlpmomohbdpgaaDoor

/-
  The contract of logic's method truths.
-/
namespace Go.Proofs.YtdlpmomohbdpgaaDoor
open Go.ChangeShapes Go.WideShapes Go.ChangeAt Go.RowKit Go.Deep Go.Shelf
open Terms

attribute [local go_sem] Oper.semAt_some

/-- what the row holds ahead of the rounds, when k claims are laid. -/
def iniB (l : List (Int × Int)) (claim : Int) (k : Nat) (j : Nat) : Bool := if lookB (l.getD j (0, 0)).1 = true ∧ (aheadTo l j).length < k then bitB claim (aheadTo l j).length else false
/-- a round. -/
def stepB (l : List (Int × Int)) (letter : List Bool) (h : Nat → Bool) (p : Nat) : Nat → Bool := if lookB (l.getD p (0, 0)).1 = true then h else fun j => if j = p then mkB (l.getD p (0, 0)) letter (h (p + 1)) (h (sec l p)) else h j
def foldB (l : List (Int × Int)) (letter : List Bool) (h : Nat → Bool) {n : Nat} (xs : List (Fin n)) : Nat → Bool := xs.foldl (fun h x => stepB l letter h x.1) h
theorem foldB_snoc (l : List (Int × Int)) (letter : List Bool) (h : Nat → Bool) {n : Nat} (xs : List (Fin n)) (x : Fin n) : foldB l letter h (xs ++ [x]) = stepB l letter (foldB l letter h xs) x.1 := by simp [foldB]
theorem foldB_done {l : List (Int × Int)} {letter : List Bool} {claim : Int} (hz : endsCode (l.map Prod.fst) = 0) {n : Nat} (h0n : 0 < n) (hn : n = l.length) :
    ∀ k, k ≤ n → ∀ j, j < n → foldB l letter (iniB l claim (aheadL l).length) (backTo h0n k) j = if n - k ≤ j then tru l letter claim j else iniB l claim (aheadL l).length j := by
  intro k
  induction k with
  | zero =>
    intro _ j hj
    rw [if_neg (by omega)]
    simp [backTo, foldB]
  | succ k ih =>
    intro hk j hj
    have ih' := ih (by omega)
    rw [backTo_succ, foldB_snoc]
    have hp : (backAt h0n k).1 = n - 1 - k := rfl
    rw [hp]
    obtain ⟨p, hpe⟩ : ∃ p, p = n - 1 - k := ⟨_, rfl⟩
    rw [← hpe]
    have hpl : p < l.length := by omega
    unfold stepB
    cases hb : lookB (l.getD p (0, 0)).1 with
    | true =>
      rw [if_pos rfl, ih' j hj]
      by_cases hjp : j = p
      · subst hjp
        rw [if_neg (by omega), if_pos (by omega), tru_look hpl hb]
        unfold iniB
        exact if_pos ⟨hb, aheadTo_lt l hpl hb⟩
      · by_cases hle : n - k ≤ j
        · rw [if_pos hle, if_pos (by omega)]
        · rw [if_neg hle, if_neg (by omega)]
    | false =>
      rw [if_neg (by decide)]
      by_cases hjp : j = p
      · subst hjp
        rw [if_pos rfl, if_pos (by omega)]
        obtain ⟨h1, h2⟩ := part_in hz hpl
        rw [tru_mk hpl hb (fun h => (h2 h).1)]
        have hpn := pn_le (l.getD j (0, 0)).1
        by_cases p2 : pn (l.getD j (0, 0)).1 = 2
        · obtain ⟨s1, s2⟩ := h2 p2
          have s0 := h1 (by omega)
          rw [ih' (j + 1) (by omega), ih' (sec l j) (by omega), if_pos (by omega), if_pos (by omega)]
        · have hk89 : (l.getD j (0, 0)).1 ≠ 8 ∧ (l.getD j (0, 0)).1 ≠ 9 := by
            constructor <;> intro e <;> rw [e] at p2 <;> exact absurd rfl p2
          by_cases p1 : pn (l.getD j (0, 0)).1 = 1
          · have s0 := h1 (by omega)
            rw [ih' (j + 1) (by omega), if_pos (by omega)]
            simp only [mkB, hk89.1, hk89.2, if_false]
          · have hk10 : (l.getD j (0, 0)).1 ≠ 10 := by intro e; rw [e] at p1; exact absurd rfl p1
            simp only [mkB, hk89.1, hk89.2, hk10, if_false]
      · rw [if_neg hjp, ih' j hj]
        by_cases hle : n - k ≤ j
        · rw [if_pos hle, if_pos (by omega)]
        · rw [if_neg hle, if_neg (by omega)]

/-- what lies beside the rounds. -/
structure TrSt (w : World) (fo ev av lv : Value) (n : Nat) (h : Nat → Bool) (W0s : Nat) (W : World) : Prop where
  three : Three W w.heap.size fo ev av
  letter : W.cell? ⟨w.heap.size + 1, 0, none⟩ = some lv
  holds : W.cell? ⟨w.heap.size + 1 + 1 + 1, 0, none⟩ = some (.slice (some ⟨w.heap.size + 1 + 1, 0, none⟩) n n)
  row : W.rowIs (w.heap.size + 1 + 1) 4 n (fun j => .bool (h j))
  below : Below w.heap.size w W
  size : W0s ≤ W.heap.size
theorem TrSt.later {w : World} {fo ev av lv : Value} {n : Nat} {h : Nat → Bool} {s B : Nat} {W W' : World} (t : TrSt w fo ev av lv n h s W) (hb : Below B W W') (hB : w.heap.size + 4 ≤ B) : TrSt w fo ev av lv n h s W' :=
  ⟨t.three.below hb (by omega), (hb.cell (p := ⟨w.heap.size + 1, 0, none⟩) (by simp; omega)).trans t.letter, (hb.cell (p := ⟨w.heap.size + 1 + 1 + 1, 0, none⟩) (by simp; omega)).trans t.holds, t.row.of_block (hb.block _ (by omega)), t.below.trans (hb.mono (by omega)), Nat.le_trans t.size hb.size⟩

theorem TrSt.congr {w : World} {fo ev av lv : Value} {n : Nat} {h h' : Nat → Bool} {s : Nat} {W : World} (t : TrSt w fo ev av lv n h s W) (e : ∀ j, j < n → h j = h' j) : TrSt w fo ev av lv n h' s W :=
  ⟨t.three, t.letter, t.holds, t.row.congr fun j hj => by rw [e j hj], t.below, t.size⟩
theorem TrSt.put {w : World} {fo ev av lv : Value} {n : Nat} {h : Nat → Bool} {s : Nat} {W : World} (t : TrSt w fo ev av lv n h s W) (p : Nat) (x : Bool) : TrSt w fo ev av lv n (fun j => if j = p then x else h j) s (W.setCell ⟨w.heap.size + 1 + 1, p, none⟩ (.bool x)) := by
  have hb : ∀ k, k ≠ w.heap.size + 1 + 1 → (W.setCell ⟨w.heap.size + 1 + 1, p, none⟩ (.bool x)).heap[k]? = W.heap[k]? := fun k hk => Below.heap_setCell W _ _ k hk
  have hc : ∀ k q, k ≠ w.heap.size + 1 + 1 → (W.setCell ⟨w.heap.size + 1 + 1, p, none⟩ (.bool x)).cell? ⟨k, q, none⟩ = W.cell? ⟨k, q, none⟩ := fun k q hk => World.cell?_of_block (w := W) (hb k hk)
  have hf : ∀ q, (W.setCell ⟨w.heap.size + 1 + 1, p, none⟩ (.bool x)).frozen? ⟨w.heap.size, q, none⟩ = W.frozen? ⟨w.heap.size, q, none⟩ := fun q => by rw [World.frozen?_setCell]
  obtain ⟨k0, k1, k2, f0, f1, f2, hl⟩ := t.three
  refine ⟨⟨(hc _ _ (by omega)).trans k0, (hc _ _ (by omega)).trans k1, (hc _ _ (by omega)).trans k2, (hf 0).trans f0, (hf 1).trans f1, (hf 2).trans f2, by simpa using hl⟩, (hc _ _ (by omega)).trans t.letter, (hc _ _ (by omega)).trans t.holds, ?_, t.below.setCell (by simp; omega) _, by simpa using t.size⟩
  refine (t.row.set p (.bool x)).congr fun i _ => ?_
  by_cases hip : i = p
  · rw [if_pos hip, if_pos hip]
  · rw [if_neg hip, if_neg hip]
theorem TrSt.drew {w : World} {fo ev av lv : Value} {n : Nat} {h : Nat → Bool} {s : Nat} {W : World} (t : TrSt w fo ev av lv n h s W) : TrSt w fo ev av lv n h s W.drew :=
  ⟨⟨t.three.1, t.three.2.1, t.three.2.2.1, t.three.2.2.2.1, t.three.2.2.2.2.1, t.three.2.2.2.2.2.1, t.three.2.2.2.2.2.2⟩, t.letter, t.holds, t.row.of_block rfl, t.below.drew, t.size⟩
theorem bits_small : ∀ c, c < 64 → (bits BinOp.and IntKind.i64 ((c : Nat) : Int) 1 == 1) = decide (((c : Nat) : Int) % 2 = 1) := by decide
theorem bits_bitB {claim : Int} {k : Nat} (h0 : 0 ≤ claim) (h : claim < 64) : (bits BinOp.and IntKind.i64 (claim / 2 ^ k) 1 == 1) = bitB claim k := by
  have h2 : (0 : Int) < 2 ^ k := Int.pow_pos (by decide)
  have h3 : 0 ≤ claim / 2 ^ k := Int.ediv_nonneg h0 (Int.le_of_lt h2)
  have h4 : claim / 2 ^ k ≤ claim := Int.ediv_le_self _ h0
  obtain ⟨c, hc⟩ : ∃ c : Nat, claim / 2 ^ k = c := ⟨(claim / 2 ^ k).toNat, by omega⟩
  unfold bitB
  rw [hc]
  exact bits_small c (by omega)
theorem iniB_step {l : List (Int × Int)} {claim : Int} {k p : Nat} (hlk : lookB (l.getD p (0, 0)).1 = true) (hpi : (aheadTo l p).length = k) (j : Nat) : (if j = p then bitB claim k else iniB l claim k j) = iniB l claim (k + 1) j := by
  unfold iniB
  by_cases hjp : j = p
  · subst hjp
    rw [if_pos rfl, if_pos ⟨hlk, by omega⟩, hpi]
  · rw [if_neg hjp]
    by_cases hb : lookB (l.getD j (0, 0)).1 = true
    · have hne : (aheadTo l j).length ≠ k := by
        intro e
        rcases Nat.lt_or_gt_of_ne hjp with h | h
        · have := aheadTo_lt l h hb; omega
        · have := aheadTo_lt l h hlk; omega
      by_cases hl : (aheadTo l j).length < k
      · rw [if_pos ⟨hb, hl⟩, if_pos ⟨hb, by omega⟩]
      · rw [if_neg (fun h => hl h.2), if_neg (fun h => by have := h.2; omega)]
    · rw [if_neg (fun h => hb h.1), if_neg (fun h => hb h.1)]

theorem truths_out (fv lv : Value) (fo ev : Value) (aao : Option Addr) (an ac : Nat) (claim : Int) (lo : Option Addr) (ln lc : Nat) (oo eo : Option Addr) (on oc en ec : Nat) (hfo : fo = .slice oo on oc) (hev : ev = .slice eo en ec) (hlv : lv = .slice lo ln lc) (hfv : fv = .agg #[fo, ev, .slice aao an ac]) (h6 : an ≤ 6) (w : World) (h : claim < 0 ∨ 2 ^ an ≤ claim) :
    Calls Tryd.prog 40 #[fv, lv, .int .i64 claim] w fun e w' => e = .returned (.tuple #[.slice none 0 0, .int .i64 2]) ∧ Below w.heap.size w w' := by
  subst hfo hev hlv hfv
  have hb : ∀ o o', Below w.heap.size w ((w.alloc o).alloc o') := fun o o' => ((Below.refl _ _).alloc (Nat.le_refl _) o).alloc (by simp) o'
  rcases h with h | h
  · go_enter Tryd.func40, Tryd.ntmps40
    go_wp2_with fail
    go_ret2
    exact ⟨rfl, hb _ _⟩
  · have h0 : 0 ≤ claim := by have : (0 : Int) < 2 ^ an := Int.pow_pos (by decide); omega
    have hcase : an = 0 ∨ an = 1 ∨ an = 2 ∨ an = 3 ∨ an = 4 ∨ an = 5 ∨ an = 6 := by omega
    clear h6
    rcases hcase with rfl | rfl | rfl | rfl | rfl | rfl | rfl
    all_goals
      simp only [Int.reducePow] at h
      go_enter Tryd.func40, Tryd.ntmps40
      go_wp2_with fail
      go_ret2
      exact ⟨rfl, hb _ _⟩
end Go.Proofs.YtdlpmomohbdpgaaDoor

/-
  A region whose order is drawn, inside of a round: by the plain walk under a condition.
-/
namespace Go.Proofs.YtdlpmomohbdpgaaDoor
open Go.ChangeShapes Go.WideShapes Go.ChangeAt Go.RowKit Go.Deep Go.Shelf

theorem upon_in {P : Program} (L n : Nat) {o : Oper} {a : Act} {next : Act → World → Prop} {Q : Exit → Act → World → Prop} {r : Result Next} (h : o.upon P a next Q r) : o.uponIn (Fence.wide.inRound L) n P a next Q r := by
  have hd : ∀ m : Nat, (Fence.wide.inRound L).depth.isSome = true → 1 ≤ m := fun m h => by simp [Fence.wide, Fence.inRound] at h
  cases r with
  | halt x w' => cases x <;> first | exact h | exact h.elim
  | ok x w' =>
    cases x with
    | value v => exact h
    | skip => exact h
    | defer d => exact h
    | enter f args => exact ⟨hd _, CallsIn.inRound L ((callsIn_wide.2 h).mono fun e w'' he => by cases e <;> exact he)⟩
    | row row args => exact ⟨hd _, fun c cs _ => by obtain ⟨v, w'', h1, h2⟩ := h c cs; exact ⟨v, w'', h1, stepsIn_wide.2 h2⟩⟩
    | _ => exact (h : False).elim

theorem any_in {P : Program} (L n : Nat) {md : Region.Mode} {ops : Array Oper} {Q : Exit → Act → World → Prop} (hd : ∀ (i : Nat) (o : Oper), ops[i]? = some o → ∀ c, o.op ≠ Op.defer c) (hQ : LetsOut Q → False) :
    ∀ (fuel : Nat) (listed : Array Bool) (a : Act) (w : World), wpAny P md ops Q fuel listed a w → wpAnyIn (Fence.wide.inRound L) n P md ops Q fuel listed a w := by
  intro fuel
  induction fuel with
  | zero => intro listed a w h; exact h
  | succ fuel ih =>
    intro listed a w h
    refine ⟨h.1, fun i hi => ?_⟩
    have h1 := wpOp_mono (K' := wpAnyIn (Fence.wide.inRound L) n P md ops Q fuel (listed.setIfInBounds i true)) (fun a' w' h' => ih _ a' w' h') (h.2 i hi)
    unfold wpOp at h1
    unfold wpOpIn
    cases ho : ops[i]? with
    | none => simp only [ho] at h1 ⊢; exact h1
    | some o =>
      simp only [ho] at h1 ⊢
      split
      · rename_i hw
        rw [if_pos hw] at h1
        rcases h1 with h1 | ⟨_, h1⟩
        · refine ⟨fun f _ => trivial, ?_⟩
          rw [Oper.semAt_eq _ _ _ (hd i o ho)]
          exact upon_in L n h1
        · exact (hQ h1).elim
      · rename_i hw
        rw [if_neg hw] at h1
        exact ⟨fun f _ => trivial, h1⟩

theorem region_round {P : Program} {L n id : Nat} {ops : Array Oper} {Q : Exit → Act → World → Prop} {a : Act} {w : World} (S : World → Prop) (hm : P.follows .mixedOrders = true) (hd : ∀ (i : Nat) (o : Oper), ops[i]? = some o → ∀ c, o.op ≠ Op.defer c) (hQ : LetsOut Q → False)
    (h : wpAnyH P .any ops Q S ops.size (Array.replicate ops.size false) a w.drew) : (Code.region id ops true).wpIn (Fence.wide.inRound L) n P Q a w :=
  wpIn_region_any hm (any_in L n hd hQ _ _ _ _ (wpAny_of_held _ _ _ _ h))
theorem wpOp_call {P : Program} {ops : Array Oper} {Q : Exit → Act → World → Prop} {i : Nat} {K : Act → World → Prop} {a : Act} {w : World} {o : Oper} {f : FuncId} {args : Array Value} {R : Ending → World → Prop} (hi : ops[i]? = some o) (hw : Region.wanted o (yielded ops a.tmps) = true) (hr : (execOp a.eval o).run P w = .ok (.enter f args) w) (h : Calls P f args w R)
    (hR : ∀ e w', R e w' → ∃ v, e = .returned v ∧ K (a.put o.dst v) w') : wpOp P ops Q i K a w := by
  unfold wpOp
  simp only [hi]
  rw [if_pos hw]
  refine Or.inl ?_
  unfold Oper.wp
  rw [hr]
  refine h.mono fun e w' he => ?_
  obtain ⟨v, rfl, hk⟩ := hR e w' he
  exact hk
theorem wpOp_skip {P : Program} {ops : Array Oper} {Q : Exit → Act → World → Prop} {i : Nat} {K : Act → World → Prop} {a : Act} {w w' : World} {o : Oper} (hi : ops[i]? = some o) (hw : Region.wanted o (yielded ops a.tmps) = true) (hr : (execOp a.eval o).run P w = .ok .skip w') (h : K (a.put o.dst undef) w') : wpOp P ops Q i K a w := by
  unfold wpOp
  simp only [hi]
  rw [if_pos hw]
  refine Or.inl ?_
  unfold Oper.wp
  rw [hr]
  exact h
end Go.Proofs.YtdlpmomohbdpgaaDoor

/-
  The contract of logic's method truths.
-/
namespace Go.Proofs.YtdlpmomohbdpgaaDoor
open Go.ChangeShapes Go.WideShapes Go.ChangeAt Go.RowKit Go.Deep Go.Shelf
open Terms

attribute [local go_sem] Oper.semAt_some
/-- the temporaries of a round. -/
def trAct (p3 p4 p8 p11 p12 r0 r1 r2 r5 r6 r7 r9 r10 r13 r14 r15 r16 r17 r18 r19 r20 r21 r22 r23 r24 r25 r26 r27 r28 r29 r30 r31 r32 r33 r34 r35 r36 r37 r38 r39 r40 r41 r42 r43 r44 r45 r46 r47 r48 r49 r50 r51 r52 r53 r54 r55 r56 r57 r58 r59 r60 r61 r62 r63 r64 r65 r66 r67 r68 r69 r70 : Value) : Act := { tmps := #[r0, r1, r2, p3, p4, r5, r6, r7, p8, r9, r10, p11, p12, r13, r14, r15, r16, r17, r18, r19, r20, r21, r22, r23, r24, r25, r26, r27, r28, r29, r30, r31, r32, r33, r34, r35, r36, r37, r38, r39, r40, r41, r42, r43, r44, r45, r46, r47, r48, r49, r50, r51, r52, r53, r54, r55, r56, r57, r58, r59, r60, r61, r62, r63, r64, r65, r66, r67, r68, r69, r70], defers := [] }
/-- what a round begins with. -/
def TrAx (w : World) (s : Nat) (o : Int × Int) (p : Nat) (a' : Act) (W : World) : Prop := ∃ Bx, s ≤ Bx ∧ W.cell? ⟨Bx, 0, none⟩ = some (.int .i64 o.1) ∧ W.cell? ⟨Bx, 1, none⟩ = some (.int .i64 o.2) ∧ ∃ r0 r1 r2 r5 r6 r7 r9 r10 r13 r14 r15 r16 r17 r18 r19 r20 r21 r22 r23 r24 r25 r26 r27 r28 r29 r30 r31 r32 r33 r34 r35 r36 r37 r38 r39 r40 r41 r42 r43 r44 r45 r46 r47 r48 r49 r50 r51 r52 r53 r54 r55 r56 r57 r58 r59 r60 r61 r62 r63 r64 r65 r66 r67 r68 r69 r70 : Value, a' = trAct (.pointer (some ⟨w.heap.size, 0, none⟩)) (.pointer (some ⟨w.heap.size + 1, 0, none⟩)) (.pointer (some ⟨w.heap.size + 1 + 1 + 1, 0, none⟩)) (.int .i64 (p : Int)) (.pointer (some ⟨Bx, 0, none⟩)) r0 r1 r2 r5 r6 r7 r9 r10 r13 r14 r15 r16 r17 r18 r19 r20 r21 r22 r23 r24 r25 r26 r27 r28 r29 r30 r31 r32 r33 r34 r35 r36 r37 r38 r39 r40 r41 r42 r43 r44 r45 r46 r47 r48 r49 r50 r51 r52 r53 r54 r55 r56 r57 r58 r59 r60 r61 r62 r63 r64 r65 r66 r67 r68 r69 r70
theorem keeps_of_below {B : Nat} {W W' : World} (h : Below W.heap.size W W') : KeepsFrom B W W' := ⟨h.size, fun k _ _ hk _ => (h.block k (Array.getElem?_eq_some_iff.1 hk).1).trans hk⟩
set_option maxRecDepth 100000 in
set_option maxHeartbeats 4000000 in
theorem truths_in (b off cap n B : Nat) (aao : Option Addr) (an ac : Nat) (lo : Option Addr) (ln lc : Nat) (l : List (Int × Int)) (letter : List Bool) (claim : Int) (w : World) (h0n : 0 < n) (h60 : n ≤ 60) (hn : n = l.length) (hz : endsCode (l.map Prod.fst) = 0) (hops : OpsAt w b off l) (hbl : b < w.heap.size)
    (hrow : w.rowIs B 3 n (fun q => .int .i64 (endAt (l.map Prod.fst) q))) (han : an = (aheadL l).length) (hav : IntsV w (.slice aao an ac) (aheadL l)) (h6 : an ≤ 6) (hln : ln = letter.length) (hL : BoolsV w (.slice lo ln lc) letter) (hlf : lfirst ln l = 0) (h0 : 0 ≤ claim) (h1 : claim < 2 ^ an) :
    Calls Tryd.prog 40 #[.agg #[.slice (some ⟨b, off, none⟩) n cap, .slice (some ⟨B, 0, none⟩) n n, .slice aao an ac], .slice lo ln lc, .int .i64 claim] w fun e w' => ∃ bH, e = .returned (.tuple #[.slice (some ⟨bH, 0, none⟩) n n, .int .i64 0]) ∧ Below w.heap.size w w' ∧ Hid (w'.rowIs bH 4 n (fun j => .bool (tru l letter claim j))) ∧ w.heap.size ≤ bH := by
  refine (callsIn_wide (n := 8)).1 ?_
  refine callsIn_of_wp_marks Tryd.func40 rfl trivial ?_ rfl
  simp only [Tryd.ntmps40, List.size_toArray, List.length_cons, List.length_nil, Nat.reduceAdd, Nat.reduceSub, Array.replicate_succ, Array.replicate_zero, List.push_toArray, List.append_toArray, List.nil_append, List.cons_append]
  have hmk := run_make_row' (P := Tryd.prog) 47 4 (.bool false) 1 Tryd.underlying47 infoBool rfl .i64 .i64 n (by omega) (by omega)
  have HO : Hid (OpsAt w b off l) := hops
  have HN : Hid (n = l.length) := hn
  have HR : Hid (w.rowIs B 3 n (fun q => .int .i64 (endAt (l.map Prod.fst) q))) := hrow
  have HAN : Hid (an = (aheadL l).length) := han
  have HAV : Hid (IntsV w (.slice aao an ac) (aheadL l)) := hav
  have HLN : Hid (ln = letter.length) := hln
  have HL : Hid (BoolsV w (.slice lo ln lc) letter) := hL
  have HLF : Hid (lfirst ln l = 0) := hlf
  have HZ : Hid (endsCode (l.map Prod.fst) = 0) := hz
  clear hops hn hrow han hav hln hL hlf hz
  have hcase : an = 0 ∨ an = 1 ∨ an = 2 ∨ an = 3 ∨ an = 4 ∨ an = 5 ∨ an = 6 := by omega
  have hsh : (2 : Int) ^ an ≤ 64 := by rcases hcase with rfl | rfl | rfl | rfl | rfl | rfl | rfl <;> decide
  clear hcase
  gi_wp2
  have HS0 : Hid (TrSt w (.slice (some ⟨b, off, none⟩) n cap) (.slice (some ⟨B, 0, none⟩) n n) (.slice aao an ac) (.slice lo ln lc) n (iniB l claim 0) 0 ((((w.alloc (.cells #[.slice (some ⟨b, off, none⟩) n cap, .slice (some ⟨B, 0, none⟩) n n, .slice aao an ac] 77)).alloc (.cells #[.slice lo ln lc] 47)).alloc (.cells (madeCells #[.bool false] n) 4)).alloc (.cells #[.slice (some ⟨w.heap.size + 1 + 1, 0, none⟩) n n] 47))) := by
    have r := World.rowIs_made ((w.alloc (.cells #[.slice (some ⟨b, off, none⟩) n cap, .slice (some ⟨B, 0, none⟩) n n, .slice aao an ac] 77)).alloc (.cells #[.slice lo ln lc] 47)) (.bool false) n 4
    simp only [World.size_alloc] at r
    have hB3 : ∀ o1 o2 o3 o4, Below (w.heap.size + 1) (w.alloc o1) ((((w.alloc o1).alloc o2).alloc o3).alloc o4) := fun o1 o2 o3 o4 => (((Below.refl _ _).alloc (by simp) o2).alloc (by simp) o3).alloc (by simp) o4
    exact ⟨(Three.new w _ _ _ _).below (hB3 _ _ _ _) (Nat.lt_succ_self _), by simp [go_sem], by simp [go_sem], (r.of_block (Below.heap_alloc _ _ _ r.lt)).congr (fun j _ => by simp [iniB]), ((((Below.refl _ _).alloc (Nat.le_refl _) _).alloc (by simp) _).alloc (by simp; omega) _).alloc (by simp; omega) _, Nat.zero_le _⟩
  gi_loopw [32] (fun i wr => ∃ k : Nat, k ≤ an ∧ i = .int .i64 k ∧ Hid (TrSt w (.slice (some ⟨b, off, none⟩) n cap) (.slice (some ⟨B, 0, none⟩) n n) (.slice aao an ac) (.slice lo ln lc) n (iniB l claim k) 0 wr)) (fun i _ => an - (intOf i).toNat)
  case atStart =>
    exact ⟨0, Nat.zero_le _, rfl, HS0.out⟩
  case round =>
    obtain ⟨k, hk, rfl, HSt⟩ := hrel
    have hst := HSt.out
    by_cases hlt : k < an
    · obtain ⟨p, hp, hpn, hlk, hpi⟩ := aheadTo_get l l.length k (by have := HAN.out; unfold aheadL at this; omega)
      obtain ⟨ao', cap', hsl, hai⟩ := HAV.out
      injection hsl with e1 e2 e3
      subst e1
      obtain ⟨ab, aoff, rfl, habl, haat⟩ := hai (by intro h; have := HAN.out; rw [h] at this; simp at this; omega)
      have hca := (hst.below.cell (p := ⟨ab, aoff + k, none⟩) habl).trans (haat k (by rw [← HAN.out]; exact hlt))
      have hca' : wr.cell? ⟨ab, aoff + k, none⟩ = some (.int .i64 (p : Int)) := by rw [hca]; exact congrArg (fun z => some (Value.int .i64 z)) hp
      have hch := hst.holds
      have hf := hst.row.frozen p
      have hpn' : p < n := by rw [HN.out]; exact hpn
      have hcp := hst.row.cell hpn'
      obtain ⟨t0, t1, t2, _⟩ := hst.three
      have HP : Hid (lookB (l.getD p (0, 0)).1 = true ∧ (aheadTo l p).length = k) := ⟨hlk, hpi⟩
      clear hp hpn hlk hpi hai haat hca e2 e3
      have hmx : Tryd.prog.follows .mixedOrders = true := by kernel_rfl
      gi_wp2
      gi_region_o
      all_goals gi_wp2
      refine ⟨⟨k + 1, hlt, by first | rfl | simp, ?_⟩, by simp [intOf]; omega⟩
      rw [bits_bitB h0 (by omega)]
      exact ((hst.put p (bitB claim k)).congr (fun j _ => iniB_step HP.out.1 HP.out.2 j)).drew
    · obtain rfl : k = an := by omega
      have HAL : Hid (k = (aheadL l).length) := HAN.out
      obtain ⟨t0, t1, t2, _⟩ := hst.three
      generalize wr = W1 at *
      clear hmk HS0 hlt hk HAV
      gi_wp2_with (refine ⟨trivial, ?_⟩; gi_at_call 59; refine (back_in Fence.wide _ trivial rfl _ _ _ _).mono ?_; rintro e w' ⟨rfl, rfl⟩)
      have hs3 : w.heap.size + 4 ≤ W1.heap.size := by have := World.block_lt_of_cell? W1 ⟨w.heap.size + 1 + 1 + 1, 0, none⟩ hst.holds; simp at this; omega
      refine wpIn_rangeFunc_ownH rfl (by decide) (gf := 78) (lb := #[.pointer (some ⟨W1.heap.size, 0, none⟩)]) rfl trivial (enters_of Tryd.func78 (by kernel_rfl) rfl)
        (back_stops Fence.wide 7 trivial rfl (by decide) W1.heap.size w.heap.size b off n cap l h0n h60 HN.out hbl _ (by simp) (by simp; omega) (by simp [go_sem]) (HO.out.below (hst.below.alloc hst.below.size _) hbl)) backK_t (backK_b (by simp; omega) (by simp)) (Below.refl _ _) (fun _ => rfl)
        (fun pre W => TrSt w (.slice (some ⟨b, off, none⟩) n cap) (.slice (some ⟨B, 0, none⟩) n n) (.slice aao k ac) (.slice lo ln lc) n (foldB l letter (iniB l claim k) pre) (W1.heap.size + 1) W)
        (fun _ _ _ => False)
        (fun s A Bw row hs hg hr => hs.later (B := W1.heap.size + 1) ((Below.refl _ _).grown hg hs.size (fun z e => by have := (hr z e).1; simp at this; omega)) (by omega))
        (fun _ _ _ _ _ hs _ _ => hs)
        ?h0 (fun x => TrAx w (W1.heap.size + 1) (l.getD x.1 (0, 0)) x.1) (fun x a' _ X Y row hs hg hr => by obtain ⟨Bx, h1, h2, h3, h4⟩ := hs; exact ⟨Bx, h1, cell_kept h2 hg (fun r e => (hr r e).2), cell_kept h3 hg (fun r e => (hr r e).2), h4⟩)
        ?assign ?body ?done ?stop
      case h0 =>
        have t := hst.later ((Below.refl W1.heap.size W1).alloc (Nat.le_refl _) (.cells #[.slice (some ⟨b, off, none⟩) n cap] 27)) (by omega)
        exact ⟨t.three, t.letter, t.holds, t.row, t.below, by simp⟩
      case assign =>
        rintro L pre x W K hi hK
        have hsz := hi.size
        unfold backEnc
        gi_wp2
        refine hK _ _ ?ka ?kb ?kc ?kd
        case ka => exact (KeepsOthers.alloc _ _).from _
        case kb => exact ⟨(Below.refl _ W).alloc hi.below.size _, Below.heap_alloc _ _ _ (by omega)⟩
        case kc => exact hi.later ((Below.refl W.heap.size W).alloc (Nat.le_refl _) _) (by omega)
        case kd => exact ⟨W.heap.size, by omega, by simp [go_sem], by simp [go_sem], _, _, _, _, _, _, _, _, _, _, _, _, _, _, _, _, _, _, _, _, _, _, _, _, _, _, _, _, _, _, _, _, _, _, _, _, _, _, _, _, _, _, _, _, _, _, _, _, _, _, _, _, _, _, _, _, _, _, _, _, _, _, _, _, _, _, rfl⟩
      case body =>
        rintro L pre x a' W hl ⟨r, hr⟩ hi ⟨Bx, hBx, cx0, cx1, r0, r1, r2, r5, r6, r7, r9, r10, r13, r14, r15, r16, r17, r18, r19, r20, r21, r22, r23, r24, r25, r26, r27, r28, r29, r30, r31, r32, r33, r34, r35, r36, r37, r38, r39, r40, r41, r42, r43, r44, r45, r46, r47, r48, r49, r50, r51, r52, r53, r54, r55, r56, r57, r58, r59, r60, r61, r62, r63, r64, r65, r66, r67, r68, r69, r70, rfl⟩ hlen
        have hsz := hi.size
        have hfa := lfirst_all HLF.out x.1 (by rw [← HN.out]; exact x.2)
        obtain ⟨hp1, hp2⟩ := part_in HZ.out (p := x.1) (by rw [← HN.out]; exact x.2)
        have HSt : Hid (TrSt w (.slice (some ⟨b, off, none⟩) n cap) (.slice (some ⟨B, 0, none⟩) n n) (.slice aao k ac) (.slice lo ln lc) n (foldB l letter (iniB l claim k) pre) (W1.heap.size + 1) W) := hi
        have HNx := foldB_snoc l letter (iniB l claim k) pre x
        unfold stepB at HNx
        have HNx' : Hid (foldB l letter (iniB l claim k) (pre ++ [x]) = if lookB (l.getD x.1 (0, 0)).1 = true then foldB l letter (iniB l claim k) pre else fun j => if j = x.1 then mkB (l.getD x.1 (0, 0)) letter (foldB l letter (iniB l claim k) pre (x.1 + 1)) (foldB l letter (iniB l claim k) pre (sec l x.1)) else foldB l letter (iniB l claim k) pre j) := HNx
        clear HNx
        obtain ⟨nx, hnx⟩ : ∃ nx, foldB l letter (iniB l claim k) (pre ++ [x]) = nx := ⟨_, rfl⟩
        have HNX : Hid (foldB l letter (iniB l claim k) (pre ++ [x]) = nx) := hnx
        rw [hnx] at HNx'
        clear hnx
        generalize foldB l letter (iniB l claim k) pre = h at *
        obtain ⟨p, hpn⟩ := x
        simp only at cx0 cx1 hfa hp1 hp2 HNx'
        generalize l.getD p (0, 0) = xy at *
        obtain ⟨kx, vx⟩ := xy
        simp only at cx0 cx1 hfa hp1 hp2 HNx'
        have hlk := fun w => look_any kx w
        have hBxl : Bx < W.heap.size := World.block_lt_of_cell? W ⟨Bx, 0, none⟩ cx0
        have hmx : Tryd.prog.follows .mixedOrders = true := by kernel_rfl
        unfold trAct
        cases hb : lookB kx with
        | true =>
          have HE : Hid (nx = h) := by show _ = _; rw [HNx'.out, if_pos hb]
          rw [hb] at hlk
          clear hb HNx' hp1 hp2 hfa
          gi_wp2_with (refine ⟨trivial, ?_⟩; gi_at_call 53; refine (CallsIn.inRound L (callsIn_wide.2 (hlk _))).mono ?_; rintro e w2 ⟨rfl, rfl⟩)
          refine ⟨KeepsFrom.refl _ _, ⟨Below.refl _ _, rfl⟩, ?_⟩
          show TrSt w _ _ _ _ n (foldB l letter (iniB l claim k) (pre ++ [⟨p, hpn⟩])) _ _
          rw [HNX.out, HE.out]
          exact HSt.out
        | false =>
          have HE : Hid (nx = fun j => if j = p then mkB (kx, vx) letter (h (p + 1)) (h (sec l p)) else h j) := by show _ = _; rw [HNx'.out, if_neg (by rw [hb]; decide)]
          rw [hb] at hlk
          have hop : lopErr (ln : Int) (kx, vx) = 0 := hfa
          have hk8 : 8 ≤ kx := by
            simp only [lopErr] at hop
            split at hop
            · omega
            · omega
          have h13 : kx = 13 → 0 ≤ vx ∧ vx < letter.length := fun e => by
            simp only [lopErr] at hop
            rw [if_neg (by omega), if_pos e] at hop
            split at hop
            · omega
            · have := HLN.out; omega
          have hpr : kx = 10 ∨ kx = 8 ∨ kx = 9 → p + 1 < n := fun e => by rw [HN.out]; exact hp1 (by rcases e with rfl | rfl | rfl <;> decide)
          have hps : kx = 8 ∨ kx = 9 → sec l p < n := fun e => by rw [HN.out]; exact (hp2 (by rcases e with rfl | rfl <;> decide)).2
          have hBl : B < w.heap.size := HR.out.lt
          have hpa := parts_any b off cap n B (w.heap.size + 1 + 1) p _ h l aao k ac rfl W (fun j hj => hi.row.cell hj) hi.row.lt (fun j hj => (hi.below.cell (p := ⟨B, j, none⟩) hBl).trans (HR.out.cell hj)) (Nat.lt_of_lt_of_le hBl hi.below.size)
          obtain ⟨t0, t1, t2, _⟩ := hi.three
          have hch := hi.holds
          have hcl := hi.letter
          have HMk : Hid (∀ w2, Below W.heap.size W w2 → PartsAt w2 (W.heap.size + 1 + 1) W.heap.size (W.heap.size + 1) (w.heap.size + 1 + 1) n B p h l → Calls Tryd.prog 61 #[.agg #[.int .i64 kx, .int .i64 vx], .slice lo ln lc, .func (.func 79) #[] #[.pointer (some ⟨W.heap.size + 1 + 1, 0, none⟩), .pointer (some ⟨W.heap.size + 1, 0, none⟩)], .func (.func 80) #[] #[.pointer (some ⟨W.heap.size + 1 + 1, 0, none⟩), .pointer (some ⟨W.heap.size, 0, none⟩), .pointer (some ⟨W.heap.size + 1, 0, none⟩)]] w2.drew fun e w' =>
              e = .returned (.bool (mkB (kx, vx) letter (h (p + 1)) (h (sec l p)))) ∧ Below W.heap.size W w' ∧ w'.cell? ⟨w.heap.size + 1 + 1 + 1, 0, none⟩ = some (.slice (some ⟨w.heap.size + 1 + 1, 0, none⟩) n n) ∧ w'.cell? ⟨w.heap.size + 1 + 1, p, none⟩ = some (.bool (h p)) ∧ w'.frozen? ⟨w.heap.size + 1 + 1, p, none⟩ = false) := fun w2 hb2 hP => by
            have hlt : W.heap.size + 1 + 1 < w2.heap.size := World.block_lt_of_cell? w2 ⟨W.heap.size + 1 + 1, 0, none⟩ hP.holds
            have hbd : Below W.heap.size W w2.drew := hb2.drew
            have hPd : PartsAt w2.drew (W.heap.size + 1 + 1) W.heap.size (W.heap.size + 1) (w.heap.size + 1 + 1) n B p h l := ⟨hP.holds, hP.row, hP.ends, hP.erow, hP.place⟩
            have hLd : BoolsV w2.drew (.slice lo letter.length lc) letter := by rw [← HLN.out]; exact (HL.out.below hi.below).below hbd
            have hsw : w2.drew.heap.size = w2.heap.size := rfl
            have hrl := hi.row.lt
            rw [HLN.out]
            refine (makes_any kx vx lo lc _ _ _ _ n B p letter h l w2.drew h60 hLd hPd (by omega) (by omega) (by omega) (by omega) (by omega) h13 hpr hps).mono fun e w' ⟨he, hb⟩ => ?_
            have hbf : Below W.heap.size W w' := hbd.trans (hb.mono (by omega))
            exact ⟨he, hbf, (hbf.cell (p := ⟨w.heap.size + 1 + 1 + 1, 0, none⟩) (World.block_lt_of_cell? W _ hch)).trans hch, (hbf.cell (p := ⟨w.heap.size + 1 + 1, p, none⟩) hrl).trans (hi.row.cell hpn), (hbf.frozen (p := ⟨w.heap.size + 1 + 1, p, none⟩) hrl).trans (hi.row.frozen p)⟩
          generalize mkB (kx, vx) letter (h (p + 1)) (h (sec l p)) = tv at HMk HE
          have HC2 : Hid (∀ w2, Below W.heap.size W w2 → w2.cell? ⟨w.heap.size + 1 + 1 + 1, 0, none⟩ = some (.slice (some ⟨w.heap.size + 1 + 1, 0, none⟩) n n) ∧ w2.cell? ⟨w.heap.size + 1, 0, none⟩ = some (.slice lo ln lc) ∧ w2.cell? ⟨Bx, 0, none⟩ = some (.int .i64 kx) ∧ w2.cell? ⟨Bx, 1, none⟩ = some (.int .i64 vx)) := fun w2 hb => ⟨(hb.cell (p := ⟨w.heap.size + 1 + 1 + 1, 0, none⟩) (World.block_lt_of_cell? W _ hch)).trans hch, (hb.cell (p := ⟨w.heap.size + 1, 0, none⟩) (World.block_lt_of_cell? W _ hcl)).trans hcl, (hb.cell (p := ⟨Bx, 0, none⟩) hBxl).trans cx0, (hb.cell (p := ⟨Bx, 1, none⟩) hBxl).trans cx1⟩
          clear hb HNx' hp1 hp2 hfa hop h13 hpr hps hi
          gi_wp2_with (first | (refine ⟨trivial, ?_⟩; gi_at_call 53; refine (CallsIn.inRound L (callsIn_wide.2 (hlk _))).mono ?_; rintro e wz ⟨rfl, hwz⟩; obtain rfl := hwz.symm) | (refine ⟨trivial, ?_⟩; gi_at_call 60; refine (CallsIn.inRound L (callsIn_wide.2 hpa)).mono ?_; rintro e w2 ⟨rfl, hb2, HP2⟩; obtain ⟨d0, d1, d2, d3⟩ := HC2.out w2 hb2; have hma := HMk.out w2 hb2 HP2.out))
          refine region_round (fun w' => w'.cell? ⟨w.heap.size + 1 + 1 + 1, 0, none⟩ = some (.slice (some ⟨w.heap.size + 1 + 1, 0, none⟩) n n) ∧ w'.cell? ⟨w.heap.size + 1, 0, none⟩ = some (.slice lo ln lc) ∧ w'.cell? ⟨Bx, 0, none⟩ = some (.int .i64 kx) ∧ w'.cell? ⟨Bx, 1, none⟩ = some (.int .i64 vx)) hmx ?nd ?nl ?_
          case nd =>
            intro i o ho c
            have hi : i < 9 := (Array.getElem?_eq_some_iff.1 ho).1
            have hc : i = 0 ∨ i = 1 ∨ i = 2 ∨ i = 3 ∨ i = 4 ∨ i = 5 ∨ i = 6 ∨ i = 7 ∨ i = 8 := by omega
            rcases hc with rfl | rfl | rfl | rfl | rfl | rfl | rfl | rfl | rfl <;> (obtain rfl := Option.some.inj ho; exact fun h => by cases h)
          case nl => exact fun ⟨_, _, h⟩ => h
          have hS2 : w2.drew.cell? ⟨w.heap.size + 1 + 1 + 1, 0, none⟩ = some (.slice (some ⟨w.heap.size + 1 + 1, 0, none⟩) n n) ∧ w2.drew.cell? ⟨w.heap.size + 1, 0, none⟩ = some (.slice lo ln lc) ∧ w2.drew.cell? ⟨Bx, 0, none⟩ = some (.int .i64 kx) ∧ w2.drew.cell? ⟨Bx, 1, none⟩ = some (.int .i64 vx) := ⟨d0, d1, d2, d3⟩
          refine wpAnyH_take (i := 0) (v := .slice (some ⟨w.heap.size + 1 + 1, 0, none⟩) n n) rfl (by kernel_rfl) (by kernel_rfl) (by kernel_rfl) (fun _ _ _ h => h) (Or.inl ⟨by rfl, fun wq hSw => by obtain ⟨q0, q1, q2, q3⟩ := hSw; go_simp⟩) hS2 ?_
          simp only [Act.put, List.setIfInBounds_toArray]
          refine wpAnyH_take (i := 1) (v := .int .i64 (p : Int)) rfl (by kernel_rfl) (by kernel_rfl) (by kernel_rfl) (fun _ _ _ h => h) (Or.inl ⟨by rfl, fun wq hSw => by obtain ⟨q0, q1, q2, q3⟩ := hSw; go_simp⟩) hS2 ?_
          simp only [Act.put]
          refine wpAnyH_take (i := 2) (v := .agg #[.int .i64 kx, .int .i64 vx]) rfl (by kernel_rfl) (by kernel_rfl) (by kernel_rfl) (fun _ _ _ h => h) (Or.inl ⟨by rfl, fun wq hSw => by obtain ⟨q0, q1, q2, q3⟩ := hSw; go_simp⟩) hS2 ?_
          simp only [Act.put]
          refine wpAnyH_take (i := 3) (v := .slice lo ln lc) rfl (by kernel_rfl) (by kernel_rfl) (by kernel_rfl) (fun _ _ _ h => h) (Or.inl ⟨by rfl, fun wq hSw => by obtain ⟨q0, q1, q2, q3⟩ := hSw; go_simp⟩) hS2 ?_
          simp only [Act.put]
          refine wpAnyH_take (i := 4) (v := .func (.func 79) #[] #[.pointer (some ⟨W.heap.size + 1 + 1, 0, none⟩), .pointer (some ⟨W.heap.size + 1, 0, none⟩)]) rfl (by kernel_rfl) (by kernel_rfl) (by kernel_rfl) (fun _ _ _ h => h) (Or.inl ⟨by rfl, fun wq hSw => by obtain ⟨q0, q1, q2, q3⟩ := hSw; go_simp⟩) hS2 ?_
          simp only [Act.put]
          refine wpAnyH_take (i := 5) (v := .func (.func 80) #[] #[.pointer (some ⟨W.heap.size + 1 + 1, 0, none⟩), .pointer (some ⟨W.heap.size, 0, none⟩), .pointer (some ⟨W.heap.size + 1, 0, none⟩)]) rfl (by kernel_rfl) (by kernel_rfl) (by kernel_rfl) (fun _ _ _ h => h) (Or.inl ⟨by rfl, fun wq hSw => by obtain ⟨q0, q1, q2, q3⟩ := hSw; go_simp⟩) hS2 ?_
          simp only [Act.put]
          refine wpAnyH_all (rs := [6]) (by kernel_rfl) (by decide) ?_
          intro i hi
          obtain rfl : i = 6 := by simpa using hi
          refine wpOp_call rfl (by rfl) (by go_simp) hma ?_
          rintro e w3 ⟨rfl, hb3, g0, g1, g2⟩
          obtain ⟨e0, e1, e2, e3⟩ := HC2.out w3 hb3
          refine ⟨_, rfl, ⟨e0, e1, e2, e3⟩, ?_⟩
          simp only [Act.put]
          refine wpAnyH_take (i := 7) (v := .pointer (some ⟨w.heap.size + 1 + 1, p, none⟩)) rfl (by kernel_rfl) (by kernel_rfl) (by kernel_rfl) (fun _ _ _ h => h) (Or.inl ⟨by rfl, fun wq _ => by go_simp⟩) ⟨e0, e1, e2, e3⟩ ?_
          simp only [Act.put]
          refine wpAnyH_all (rs := [8]) (by kernel_rfl) (by decide) ?_
          intro i hi
          obtain rfl : i = 8 := by simpa using hi
          have hco : ∀ z q, z ≠ w.heap.size + 1 + 1 → (w3.setCell ⟨w.heap.size + 1 + 1, p, none⟩ (.bool tv)).cell? ⟨z, q, none⟩ = w3.cell? ⟨z, q, none⟩ := fun z q hz => World.cell?_of_block (w := w3) (Below.heap_setCell w3 _ _ z hz)
          refine wpOp_skip (w' := w3.setCell ⟨w.heap.size + 1 + 1, p, none⟩ (.bool tv)) rfl (by rfl) (by go_simp) ⟨⟨(hco _ _ (by omega)).trans e0, (hco _ _ (by omega)).trans e1, (hco _ _ (by omega)).trans e2, (hco _ _ (by omega)).trans e3⟩, ?_⟩
          refine wpAnyH_done (by kernel_rfl) ?_ _
          have hW4 : w.heap.size + 4 ≤ W.heap.size := by omega
          refine ⟨(keeps_of_below hb3).trans ((KeepsOthers.setCell _ _ _).from _), ⟨(hb3.mono HSt.out.below.size).setCell (by simp; omega) _, (Below.heap_setCell w3 _ _ W1.heap.size (by simp; omega)).trans (hb3.block _ (by omega))⟩, ?_⟩
          show TrSt w _ _ _ _ n (foldB l letter (iniB l claim k) (pre ++ [⟨p, hpn⟩])) _ _
          rw [HNX.out, HE.out]
          exact (HSt.out.later hb3 hW4).put p tv
      case done =>
        rintro D xs W hD rfl hi hK
        have hch := hi.holds
        have HT : Hid (TrSt w (.slice (some ⟨b, off, none⟩) n cap) (.slice (some ⟨B, 0, none⟩) n n) (.slice aao k ac) (.slice lo ln lc) n (tru l letter claim) (W1.heap.size + 1) W) := hi.congr (fun j hj => by rw [HAL.out, foldB_done HZ.out h0n HN.out n (Nat.le_refl _) j hj, if_pos (by omega)])
        clear hi
        gi_wp2
        refine ⟨by simp, .inl ⟨_, _, rfl, run_takeDeferred hK, ?_⟩⟩
        have hb' : Below (W1.heap.size + 1) W (W.putObj D (.deferred none)) := belowK_b (w := W1.alloc (.cells #[.slice (some ⟨b, off, none⟩) n cap] 27)) (by simp) W D _ _ hD hK rfl rfl
        have t' := HT.out.later hb' (by omega)
        exact ⟨_, results_tmp2 rfl _ _ _, _, rfl, t'.below, t'.row, by omega⟩
      case stop =>
        rintro D c pre W _ _ h _
        exact h.elim
end Go.Proofs.YtdlpmomohbdpgaaDoor

/-
  The contract of logic.Truths.
-/
namespace Go.Proofs.YtdlpmomohbdpgaaDoor
open Go.ChangeShapes Go.WideShapes Go.ChangeAt Go.RowKit Go.Deep
open Terms

/-- a formula that was read. -/
def WholeAt (w : World) (v : Value) (B : Nat) (av : Value) (l : List (Int × Int)) : Prop :=
  ∃ b off cap, v = .slice (some ⟨b, off, none⟩) l.length cap ∧ b < w.heap.size ∧ OpsAt w b off l ∧ w.rowIs B 3 l.length (fun q => .int .i64 (endAt (l.map Prod.fst) q)) ∧ IntsV w av (aheadL l)
theorem WholeAt.below {w w' : World} {v : Value} {B : Nat} {av : Value} {l : List (Int × Int)} (h : WholeAt w v B av l) (hb : Below w.heap.size w w') : WholeAt w' v B av l := by
  obtain ⟨b, off, cap, h1, h2, h3, h4, h5⟩ := h
  exact ⟨b, off, cap, h1, Nat.lt_of_lt_of_le h2 hb.size, h3.below hb h2, row_later h4 hb, h5.below hb⟩
/-- a claim that is none. -/
def ClaimNo (l : List (Int × Int)) (claim : Int) : Prop := claim < 0 ∨ 2 ^ (aheadL l).length ≤ claim
/-- What the method leaves. -/
def MethPost (l : List (Int × Int)) (letter : List Bool) (claim : Int) (w : World) (e : Ending) (w' : World) : Prop :=
  Below w.heap.size w w' ∧ (ClaimNo l claim → e = .returned (.tuple #[.slice none 0 0, .int .i64 2])) ∧ (¬ ClaimNo l claim → ∃ bH, e = .returned (.tuple #[.slice (some ⟨bH, 0, none⟩) l.length l.length, .int .i64 0]) ∧ w'.rowIs bH 4 l.length (fun j => .bool (tru l letter claim j)))
theorem meth_any (v : Value) (B : Nat) (av lv : Value) (l : List (Int × Int)) (letter : List Bool) (claim : Int) (w : World) (hc : lcode letter.length l = 0) (hV : WholeAt w v B av l) (hL : BoolsV w lv letter) :
    Calls Tryd.prog 40 #[.agg #[v, .slice (some ⟨B, 0, none⟩) l.length l.length, av], lv, .int .i64 claim] w (MethPost l letter claim w) := by
  obtain ⟨hp0, hp6, hz, hlf, h6⟩ := lcode_zero hc
  obtain ⟨hne, h60⟩ := ends_ne hz
  rw [List.length_map] at h60
  obtain ⟨b, off, cap, rfl, hbl, hat, hrow, hav⟩ := hV
  obtain ⟨aao, ac, rfl, ha⟩ := id hav
  obtain ⟨lo, lc, rfl, hl⟩ := id hL
  by_cases hcl : ClaimNo l claim
  · exact (truths_out _ _ _ _ aao _ ac claim lo _ lc (some ⟨b, off, none⟩) (some ⟨B, 0, none⟩) l.length cap l.length l.length rfl rfl rfl rfl h6 w hcl).mono fun e w' ⟨h1, h2⟩ => ⟨h2, fun _ => h1, fun h => absurd hcl h⟩
  · have h0n : 0 < l.length := by
      cases l with
      | nil => exact absurd rfl hne
      | cons _ _ => simp
    refine (truths_in b off cap l.length B aao _ ac lo _ lc l letter claim w h0n h60 rfl hz hat hbl hrow rfl hav h6 rfl hL hlf (by unfold ClaimNo at hcl; omega) (by unfold ClaimNo at hcl; omega)).mono fun e w' ⟨bH, h1, h2, h3, _⟩ => ⟨h2, fun h => absurd h hcl, fun _ => ⟨bH, h1, h3.out⟩⟩

/-- what Truths answers. -/
noncomputable def tcode (l : List (Int × Int)) (letter : List Bool) (claim : Int) : Int := by classical exact if lcode letter.length l = 0 then (if ClaimNo l claim then 2 else 0) else lcode letter.length l
noncomputable def truL (l : List (Int × Int)) (letter : List Bool) (claim : Int) : List Bool := if tcode l letter claim = 0 then (List.range l.length).map (tru l letter claim) else []
theorem tcode_bad {l : List (Int × Int)} {letter : List Bool} {claim : Int} (h : lcode letter.length l ≠ 0) : tcode l letter claim = lcode letter.length l := by unfold tcode; rw [if_neg h]
theorem tcode_no {l : List (Int × Int)} {letter : List Bool} {claim : Int} (h : lcode letter.length l = 0) (h2 : ClaimNo l claim) : tcode l letter claim = 2 := by unfold tcode; rw [if_pos h, if_pos h2]
theorem tcode_ok {l : List (Int × Int)} {letter : List Bool} {claim : Int} (h : lcode letter.length l = 0) (h2 : ¬ ClaimNo l claim) : tcode l letter claim = 0 := by unfold tcode; rw [if_pos h, if_neg h2]
theorem boolsV_tru {w : World} {bH : Nat} {l : List (Int × Int)} {letter : List Bool} {claim : Int} (h : w.rowIs bH 4 l.length (fun j => .bool (tru l letter claim j))) : BoolsV w (.slice (some ⟨bH, 0, none⟩) l.length l.length) ((List.range l.length).map (tru l letter claim)) := by
  have h2 := boolsV_of_row (w := w) (B := bH) (l := (List.range l.length).map (tru l letter claim)) (by
    rw [List.length_map, List.length_range]
    exact h.congr fun j hj => by simp [List.getD_eq_getElem?_getD, hj])
  rwa [List.length_map, List.length_range] at h2

/-- What read leaves, in one form. -/
theorem lread2 (v : Value) (l : List (Int × Int)) (props : Int) (w : World) (hB : 0 < w.heap.size) (hT : TabAt w) (hV : OpsV w v l) :
    Calls Tryd.prog 34 #[v, .int .i64 props] w fun e w' => Below w.heap.size w w' ∧ (lcode props l ≠ 0 → e = .returned (.tuple #[.agg #[.slice none 0 0, .slice none 0 0, .slice none 0 0], .int .i64 (lcode props l)])) ∧ (lcode props l = 0 → ∃ B aao ac, e = .returned (.tuple #[.agg #[v, .slice (some ⟨B, 0, none⟩) l.length l.length, .slice aao (aheadL l).length ac], .int .i64 0]) ∧ Hid (WholeAt w' v B (.slice aao (aheadL l).length ac) l)) := by
  refine (lread_any v l props w hB hT hV).mono fun e w' ⟨h1, h2, h3⟩ => ⟨h1, h2, fun hz => ?_⟩
  obtain ⟨B, av, _, he, hrow, ho⟩ := h3 hz
  obtain ⟨aao, ac, rfl⟩ := owns_slice ho
  obtain ⟨_, _, hze, _, _⟩ := lcode_zero hz
  obtain ⟨hne, _⟩ := ends_ne hze
  obtain ⟨b, off, hat⟩ : ∃ b off, (∃ cap, v = .slice (some ⟨b, off, none⟩) l.length cap) ∧ b < w'.heap.size ∧ OpsAt w' b off l := by
    obtain ⟨ao, cap, rfl, _, h⟩ := hV.below h1
    obtain ⟨b, off, rfl, hlt, hat⟩ := h (by rintro rfl; exact hne rfl)
    exact ⟨b, off, ⟨cap, rfl⟩, hlt, hat⟩
  obtain ⟨⟨cap, hv⟩, hlt, hat⟩ := hat
  exact ⟨B, aao, ac, he, b, off, cap, hv, hlt, hat, hrow, intsV_of_owns ho⟩

set_option maxHeartbeats 800000 in
set_option maxRecDepth 20000 in
/-- THE CONTRACT OF logic.Truths. -/
theorem ltruths_any (v lv : Value) (l : List (Int × Int)) (letter : List Bool) (claim : Int) (w : World) (hB : 0 < w.heap.size) (hT : TabAt w) (hV : OpsV w v l) (hL : BoolsV w lv letter) :
    Calls Tryd.prog 23 #[v, lv, .int .i64 claim] w fun e w' => ∃ v', e = .returned (.tuple #[v', .int .i64 (tcode l letter claim)]) ∧ Below w.heap.size w w' ∧ BoolsV w' v' (truL l letter claim) := by
  have hrd := lread2 v l letter.length w hB hT hV
  obtain ⟨lo, lc, rfl, hl⟩ := id hL
  obtain ⟨oo, oc, rfl, _⟩ := id hV
  by_cases hc : lcode letter.length l = 0
  · have HM : Hid (∀ w1 B aao ac, Below w.heap.size w w1 → WholeAt w1 (.slice oo l.length oc) B (.slice aao (aheadL l).length ac) l → ∀ o, Calls Tryd.prog 40 #[.agg #[.slice oo l.length oc, .slice (some ⟨B, 0, none⟩) l.length l.length, .slice aao (aheadL l).length ac], .slice lo letter.length lc, .int .i64 claim] (w1.alloc o) fun e w' => ∃ ro rn rc, e = .returned (.tuple #[.slice ro rn rc, .int .i64 (tcode l letter claim)]) ∧ Below w1.heap.size w1 w' ∧ Hid (BoolsV w' (.slice ro rn rc) (truL l letter claim))) := fun w1 B aao ac hb hW o => by
      have hA : Below w1.heap.size w1 (w1.alloc o) := (Below.refl _ _).alloc (Nat.le_refl _) o
      refine (meth_any _ B _ _ l letter claim (w1.alloc o) hc (hW.below hA) ((hL.below hb).below hA)).mono fun e w' ⟨h1, h2, h3⟩ => ?_
      have h1' := hA.trans (h1.mono hA.size)
      by_cases hn : ClaimNo l claim
      · exact ⟨none, 0, 0, by rw [tcode_no hc hn]; exact h2 hn, h1', by show BoolsV _ _ _; unfold truL; rw [tcode_no hc hn]; exact ⟨none, 0, rfl, fun h => absurd rfl h⟩⟩
      · obtain ⟨bH, he, hr⟩ := h3 hn
        exact ⟨_, _, _, by rw [tcode_ok hc hn]; exact he, h1', by show BoolsV _ _ _; unfold truL; rw [tcode_ok hc hn]; exact boolsV_tru hr⟩
    have hrd2 : Calls Tryd.prog 34 #[.slice oo l.length oc, .int .i64 (letter.length : Int)] w fun e w' => Below w.heap.size w w' ∧ ∃ B aao ac, e = .returned (.tuple #[.agg #[.slice oo l.length oc, .slice (some ⟨B, 0, none⟩) l.length l.length, .slice aao (aheadL l).length ac], .int .i64 0]) ∧ Hid (WholeAt w' (.slice oo l.length oc) B (.slice aao (aheadL l).length ac) l) := hrd.mono fun e w' ⟨h1, _, h3⟩ => ⟨h1, h3 hc⟩
    generalize tcode l letter claim = x at *
    generalize truL l letter claim = res at *
    generalize (aheadL l).length = an at *
    generalize letter.length = ln at *
    generalize l.length = n at *
    clear hrd hT hV hL hl hc
    go_enter Tryd.func23, Tryd.ntmps23
    go_wp2_with (first | (go_at_call 34; refine hrd2.mono ?_; rintro e w1 ⟨hb1, B, aao, ac, rfl, HW⟩; have hme := HM.out w1 B aao ac hb1 HW.out) | (go_at_call 40; refine (hme _).mono ?_; rintro e w2 ⟨ro, rn, rc, rfl, hb2, HR⟩))
    go_ret2
    exact ⟨_, rfl, hb1.trans (hb2.mono hb1.size), HR.out⟩
  · have hrd2 : Calls Tryd.prog 34 #[.slice oo l.length oc, .int .i64 (letter.length : Int)] w fun e w' => Below w.heap.size w w' ∧ e = .returned (.tuple #[.agg #[.slice none 0 0, .slice none 0 0, .slice none 0 0], .int .i64 (lcode letter.length l)]) := hrd.mono fun e w' ⟨h1, h2, _⟩ => ⟨h1, h2 hc⟩
    have HX : Hid (tcode l letter claim = lcode letter.length l ∧ truL l letter claim = []) := ⟨tcode_bad hc, by unfold truL; rw [if_neg (by rw [tcode_bad hc]; exact hc)]⟩
    rw [HX.out.1, HX.out.2]
    generalize lcode letter.length l = x at *
    generalize letter.length = ln at *
    generalize l.length = n at *
    clear hrd hT hV hL hl HX
    go_enter Tryd.func23, Tryd.ntmps23
    go_wp2_with (go_at_call 34; refine hrd2.mono ?_; rintro e w1 ⟨hb1, rfl⟩)
    go_ret2
    exact ⟨_, rfl, by first | exact hb1 | exact hb1.alloc hb1.size _, none, 0, rfl, fun h => absurd rfl h⟩
end Go.Proofs.YtdlpmomohbdpgaaDoor

/-
  Plain mathematics of states and their codes. Nothing of the program is named here.
-/
namespace Go.Proofs.YtdlpmomohbdpgaaDoor
open Terms Tm

theorem wr64 {x : Int} (h1 : -9223372036854775808 ≤ x) (h2 : x ≤ 9223372036854775807) : IntKind.i64.wrap x = x := by
  rw [IntWalk.i64_left]
  exact IntWalk.wrap64_in x ⟨h1, h2⟩
/-- the product of so many spans from a place on. -/
def prodSeg (l : List Vr) (a : Nat) : Nat → Int
  | 0 => 1
  | c + 1 => prodSeg l a c * vspan (l.getD (a + c) vr0)
theorem prodSeg_zero (l : List Vr) (i : Nat) : prodSeg l 0 i = prodTo l i := by
  induction i with
  | zero => rfl
  | succ i ih => simp only [prodSeg, prodTo, ih, Nat.zero_add]
theorem prodSeg_first (l : List Vr) (a c : Nat) : prodSeg l a (c + 1) = vspan (l.getD a vr0) * prodSeg l (a + 1) c := by
  induction c with
  | zero => simp [prodSeg]
  | succ c ih =>
    rw [prodSeg, ih, prodSeg, Int.mul_assoc, show a + (c + 1) = a + 1 + c by omega]
theorem prodTo_seg (l : List Vr) (a c : Nat) : prodTo l a * prodSeg l a c = prodTo l (a + c) := by
  induction c with
  | zero => simp [prodSeg]
  | succ c ih =>
    rw [prodSeg, ← Int.mul_assoc, ih]
    rfl
/-- what the variables from a place on make. -/
def segP (l : List Vr) (i : Nat) : Int := prodSeg l i (l.length - i)
theorem segP_step {l : List Vr} {i : Nat} (h : i < l.length) : segP l i = vspan (l.getD i vr0) * segP l (i + 1) := by
  unfold segP
  rw [show l.length - i = (l.length - (i + 1)) + 1 by omega, prodSeg_first]
theorem segP_end (l : List Vr) : segP l l.length = 1 := by simp [segP, prodSeg]
theorem segP_zero (l : List Vr) : segP l 0 = prodTo l l.length := by simp [segP, prodSeg_zero]
theorem prodSeg_pos {l : List Vr} (h : VarsOk l) {a c : Nat} (hc : a + c ≤ l.length) : 1 ≤ prodSeg l a c := by
  induction c with
  | zero => simp [prodSeg]
  | succ c ih =>
    have h1 := ih (by omega)
    have h2 := (h.at (j := a + c) (by omega)).1
    have := Int.mul_le_mul h1 h2 (by omega) (by omega)
    simpa [prodSeg] using this
theorem prodSeg_le {l : List Vr} (h : VarsOk l) {a c : Nat} (hc : a + c ≤ l.length) : prodSeg l a c ≤ 4096 := by
  have h1 := h.prod (j := a + c) hc
  have h2 := h.prod (j := a) (by omega)
  have h3 := prodSeg_pos h hc
  rw [← prodTo_seg] at h1
  have := Int.mul_le_mul h2.1 (Int.le_refl (prodSeg l a c)) (by omega) (by omega)
  omega
theorem segP_bounds {l : List Vr} (h : VarsOk l) {i : Nat} (hi : i ≤ l.length) : 1 ≤ segP l i ∧ segP l i ≤ 4096 := ⟨prodSeg_pos h (by omega), prodSeg_le h (by omega)⟩

/-! ### codes of values -/

def dig (l : List Vr) (vals : List Int) (i : Nat) : Int := vals.getD i 0 - (l.getD i vr0).lo
def inB (l : List Vr) (vals : List Int) (i : Nat) : Prop := (l.getD i vr0).lo ≤ vals.getD i 0 ∧ vals.getD i 0 ≤ (l.getD i vr0).hi
def codeTo (l : List Vr) (vals : List Int) : Nat → Int
  | 0 => 0
  | k + 1 => codeTo l vals k * vspan (l.getD k vr0) + dig l vals k
def sumTo (l : List Vr) (vals : List Int) : Nat → Int
  | 0 => 0
  | k + 1 => sumTo l vals k + dig l vals k * segP l (k + 1)
theorem dig_bounds {l : List Vr} {vals : List Int} (h : VarsOk l) {i : Nat} (hi : i < l.length) (hb : inB l vals i) : 0 ≤ dig l vals i ∧ dig l vals i < vspan (l.getD i vr0) ∧ dig l vals i ≤ 63 := by
  have := h.at hi
  unfold inB at hb
  unfold dig
  unfold vspan at *
  omega
theorem code_bounds {l : List Vr} {vals : List Int} (h : VarsOk l) {k : Nat} (hk : k ≤ l.length) (hb : ∀ i, i < k → inB l vals i) : 0 ≤ codeTo l vals k ∧ codeTo l vals k < prodTo l k := by
  induction k with
  | zero => simp [codeTo, prodTo]
  | succ k ih =>
    obtain ⟨h1, h2⟩ := ih (by omega) (fun i hi => hb i (by omega))
    obtain ⟨h3, h4, _⟩ := dig_bounds h (by omega) (hb k (by omega))
    have h5 := (h.at (j := k) (by omega)).1
    simp only [codeTo, prodTo]
    have h6 : 0 ≤ codeTo l vals k * vspan (l.getD k vr0) := Int.mul_nonneg h1 (by omega)
    have h7 : (codeTo l vals k + 1) * vspan (l.getD k vr0) ≤ prodTo l k * vspan (l.getD k vr0) := Int.mul_le_mul_of_nonneg_right (by omega) (by omega)
    rw [Int.add_mul, Int.one_mul] at h7
    omega
theorem sum_code {l : List Vr} {vals : List Int} {k : Nat} (hk : k ≤ l.length) : sumTo l vals k = codeTo l vals k * segP l k := by
  induction k with
  | zero => simp [sumTo, codeTo]
  | succ k ih =>
    simp only [sumTo, codeTo]
    rw [ih (by omega), segP_step (by omega), Int.add_mul, Int.mul_assoc]
theorem sum_all (l : List Vr) (vals : List Int) : sumTo l vals l.length = codeTo l vals l.length := by
  rw [sum_code (Nat.le_refl _), segP_end, Int.mul_one]
theorem sum_bounds {l : List Vr} {vals : List Int} (h : VarsOk l) {k : Nat} (hk : k ≤ l.length) (hb : ∀ i, i < k → inB l vals i) : 0 ≤ sumTo l vals k ∧ sumTo l vals k ≤ 4096 := by
  obtain ⟨h1, h2⟩ := code_bounds h hk hb
  obtain ⟨h3, h4⟩ := segP_bounds h hk
  have h5 := h.prod (j := l.length) (Nat.le_refl _)
  have h6 : prodTo l k * segP l k = prodTo l l.length := by unfold segP; rw [prodTo_seg, show k + (l.length - k) = l.length by omega]
  rw [sum_code hk]
  refine ⟨Int.mul_nonneg h1 (by omega), ?_⟩
  have h7 : codeTo l vals k * segP l k ≤ prodTo l k * segP l k := Int.mul_le_mul_of_nonneg_right (by omega) (by omega)
  omega

/-! ### values of codes -/

def valAt (l : List Vr) (code : Int) (i : Nat) : Int := (l.getD i vr0).lo + (code / segP l (i + 1)) % vspan (l.getD i vr0)
theorem quo_step {l : List Vr} (h : VarsOk l) (code : Int) {i : Nat} (hi : i < l.length) : code / segP l (i + 1) / vspan (l.getD i vr0) = code / segP l i := by
  have h1 := (segP_bounds h (i := i + 1) (by omega)).1
  rw [segP_step hi, Int.ediv_ediv_of_nonneg (by omega), Int.mul_comm]
theorem mod_div (x s p : Int) (hp : 0 < p) : (x % (s * p)) / p = (x / p) % s := by
  rw [Int.emod_def x (s * p), Int.emod_def (x / p) s, Int.ediv_ediv_of_nonneg (by omega), Int.mul_comm s p, Int.mul_assoc]
  rw [Int.sub_mul_ediv_left _ _ (by omega)]
theorem valAt_ref {l : List Vr} (h : VarsOk l) (code : Int) {i : Nat} (hi : i < l.length) : (l.getD i vr0).lo + (code % segP l i) / segP l (i + 1) = valAt l code i := by
  have h1 := (segP_bounds h (i := i + 1) (by omega)).1
  rw [segP_step hi, mod_div _ _ _ (by omega)]
  rfl
theorem mod_step {l : List Vr} (code : Int) {i : Nat} (hi : i < l.length) : (code % segP l i) % segP l (i + 1) = code % segP l (i + 1) := by
  rw [segP_step hi, Int.mul_comm, Int.emod_emod_of_dvd]
  exact ⟨_, rfl⟩
theorem valAt_in {l : List Vr} (h : VarsOk l) (code : Int) {i : Nat} (hi : i < l.length) : (l.getD i vr0).lo ≤ valAt l code i ∧ valAt l code i ≤ (l.getD i vr0).hi := by
  have h1 := (h.at hi).1
  have h2 := Int.emod_nonneg (code / segP l (i + 1)) (show vspan (l.getD i vr0) ≠ 0 by omega)
  have h3 := Int.emod_lt_of_pos (code / segP l (i + 1)) (show 0 < vspan (l.getD i vr0) by omega)
  unfold valAt
  unfold vspan at *
  omega
def valsL (l : List Vr) (code : Int) : List Int := (List.range l.length).map (valAt l code)
def initsL (l : List Vr) : List Int := l.map Vr.ini
theorem inits_in {l : List Vr} (h : VarsOk l) : ∀ i, i < l.length → inB l (initsL l) i := by
  intro i hi
  have := h.at hi
  unfold inB initsL
  rw [show (l.map Vr.ini).getD i 0 = (l.getD i vr0).ini by simp [List.getD_eq_getElem?_getD, hi]]
  omega
end Go.Proofs.YtdlpmomohbdpgaaDoor

/-
  What Code answers; slices of numbers at a place.
-/
namespace Go.Proofs.YtdlpmomohbdpgaaDoor
open Go.ChangeShapes Go.WideShapes Go.ChangeAt Go.RowKit Go.Deep
open Terms Tm

theorem IntsV.shape {w : World} {v : Value} {l : List Int} (h : IntsV w v l) : ∃ ao cap, v = .slice ao l.length cap := by
  obtain ⟨ao, cap, h1, _⟩ := h
  exact ⟨ao, cap, h1⟩
theorem IntsV.at {w : World} {ao : Option Addr} {cap n : Nat} {l : List Int} (h : IntsV w (.slice ao n cap) l) {i : Nat} (hi : i < l.length) : ∃ b off, ao = some ⟨b, off, none⟩ ∧ b < w.heap.size ∧ w.cell? ⟨b, off + i, none⟩ = some (.int .i64 (l.getD i 0)) := by
  obtain ⟨ao', cap', h1, h3⟩ := h
  injection h1 with e1 e2 e3
  subst e1
  obtain ⟨b, off, e, hb, hh⟩ := h3 (by intro h; subst h; simp at hi)
  exact ⟨b, off, e, hb, hh i hi⟩

open Classical in
/-- with what Code refuses. -/
noncomputable def ccode (m : Mo) (vals : List Int) : Int := if mcode m = 0 then (if vals.length = m.vars.length ∧ ∀ i, i < m.vars.length → inB m.vars vals i then 0 else 9) else mcode m
noncomputable def cval (m : Mo) (vals : List Int) : Int := if ccode m vals = 0 then codeTo m.vars vals m.vars.length else 0
theorem ccode_bad {m : Mo} {vals : List Int} (h : mcode m ≠ 0) : ccode m vals = mcode m := by unfold ccode; rw [if_neg h]
theorem ccode_no {m : Mo} {vals : List Int} (h : mcode m = 0) (h2 : ¬ (vals.length = m.vars.length ∧ ∀ i, i < m.vars.length → inB m.vars vals i)) : ccode m vals = 9 := by unfold ccode; rw [if_pos h, if_neg h2]
theorem ccode_yes {m : Mo} {vals : List Int} (h : mcode m = 0) (h2 : vals.length = m.vars.length ∧ ∀ i, i < m.vars.length → inB m.vars vals i) : ccode m vals = 0 := by unfold ccode; rw [if_pos h, if_pos h2]

end Go.Proofs.YtdlpmomohbdpgaaDoor

/-
  What Values answers.
-/
namespace Go.Proofs.YtdlpmomohbdpgaaDoor
open Go.ChangeShapes Go.WideShapes Go.ChangeAt Go.RowKit Go.Deep
open Terms Tm

/-- with what Values refuses. -/
noncomputable def wcode (m : Mo) (code : Int) : Int := if mcode m = 0 then (if 0 ≤ code ∧ code < prodTo m.vars m.vars.length then 0 else 9) else mcode m
theorem wcode_bad {m : Mo} {code : Int} (h : mcode m ≠ 0) : wcode m code = mcode m := by unfold wcode; rw [if_neg h]
theorem wcode_no {m : Mo} {code : Int} (h : mcode m = 0) (h2 : ¬ (0 ≤ code ∧ code < prodTo m.vars m.vars.length)) : wcode m code = 9 := by unfold wcode; rw [if_pos h, if_neg h2]
theorem wcode_yes {m : Mo} {code : Int} (h : mcode m = 0) (h2 : 0 ≤ code ∧ code < prodTo m.vars m.vars.length) : wcode m code = 0 := by unfold wcode; rw [if_pos h, if_pos h2]


theorem intsV_of_row {w : World} {B n : Nat} {f : Nat → Int} (h : w.rowIs B 3 n (fun j => .int .i64 (f j))) : IntsV w (.slice (some ⟨B, 0, none⟩) n n) ((List.range n).map f) := by
  refine ⟨some ⟨B, 0, none⟩, n, by simp, fun _ => ⟨B, 0, rfl, h.lt, fun i hi => ?_⟩⟩
  simp only [List.length_map, List.length_range] at hi
  rw [Nat.zero_add, h.cell hi]
  simp [List.getD_eq_getElem?_getD, hi]
/-- what Values answers. -/
noncomputable def wvals (m : Mo) (code : Int) : List Int := if wcode m code = 0 then valsL m.vars code else []
end Go.Proofs.YtdlpmomohbdpgaaDoor

/-
  The contracts of package expr's pairMakers, of the functions that it hands out, and of tooGreat and truth.
-/
namespace Go.Proofs.YtdlpmomohbdpgaaDoor
open Go.ChangeShapes Go.WideShapes Go.ChangeAt Go.RowKit Go.Deep Go.Maps
open Terms Tm

theorem tooGreat_any (x : Int) (w : World) :
    Calls Tryd.prog 75 #[.int .i64 x] w fun e w' => e = .returned (.bool (decide (¬ (-1000000 ≤ x ∧ x ≤ 1000000)))) ∧ w' = w := by
  by_cases h1 : x < -1000000
  · rw [show decide (¬ (-1000000 ≤ x ∧ x ≤ 1000000)) = true by simp; omega]
    go_enter Tryd.func75, Tryd.ntmps75
    go_wp2
    all_goals go_ret
    all_goals exact ⟨rfl, rfl⟩
  · by_cases h2 : 1000000 < x
    · rw [show decide (¬ (-1000000 ≤ x ∧ x ≤ 1000000)) = true by simp; omega]
      go_enter Tryd.func75, Tryd.ntmps75
      go_wp2
      all_goals go_ret
      all_goals exact ⟨rfl, rfl⟩
    · rw [show decide (¬ (-1000000 ≤ x ∧ x ≤ 1000000)) = false by simp; omega]
      go_enter Tryd.func75, Tryd.ntmps75
      go_wp2
      all_goals go_ret
      all_goals exact ⟨rfl, rfl⟩

theorem truth_fn (c : Bool) (w : World) :
    Calls Tryd.prog 94 #[.bool c] w fun e w' => e = .returned (.int .i64 (if c = true then 1 else 0)) ∧ w' = w := by
  cases c
  all_goals
    go_enter Tryd.func94, Tryd.ntmps94
    go_wp2
    all_goals go_ret
    all_goals exact ⟨rfl, rfl⟩

/-- which function stands at a kind. -/
def pairFn (k : Int) : Nat := if k = 3 then 90 else if k = 4 then 91 else if k = 5 then 92 else if k = 6 then 93 else if k = 7 then 95 else if k = 8 then 96 else 97

theorem abs_le {x : Int} (h : -1000000 ≤ x ∧ x ≤ 1000000) : x.natAbs ≤ 1000000 := by omega
theorem mul_le {x y : Int} (hx : -1000000 ≤ x ∧ x ≤ 1000000) (hy : -1000000 ≤ y ∧ y ≤ 1000000) : -1000000000000 ≤ x * y ∧ x * y ≤ 1000000000000 := by
  have h := Nat.mul_le_mul (abs_le hx) (abs_le hy)
  rw [← Int.natAbs_mul] at h
  omega
set_option maxHeartbeats 800000 in
set_option maxRecDepth 20000 in
theorem pair_any (k x y : Int) (w : World) (h3 : 3 ≤ k) (h9 : k ≤ 9) (hx : -1000000 ≤ x ∧ x ≤ 1000000) (hy : -1000000 ≤ y ∧ y ≤ 1000000) (ht : 8 ≤ k → (x = 0 ∨ x = 1) ∧ (y = 0 ∨ y = 1)) :
    Calls Tryd.prog (pairFn k) #[.int .i64 x, .int .i64 y] w fun e w' => e = .returned (.int .i64 (bin k x y)) ∧ w' = w := by
  have hk : k = 3 ∨ k = 4 ∨ k = 5 ∨ k = 6 ∨ k = 7 ∨ k = 8 ∨ k = 9 := by omega
  have hm := mul_le hx hy
  obtain ⟨hm1, hm2⟩ := hm
  obtain ⟨hx1, hx2⟩ := hx
  obtain ⟨hy1, hy2⟩ := hy
  clear h3 h9
  rcases hk with rfl | rfl | rfl | rfl | rfl | rfl | rfl
  · show Calls Tryd.prog 90 _ _ _
    clear ht
    go_enter Tryd.func90, Tryd.ntmps90
    go_wp2
    go_ret
    exact ⟨rfl, rfl⟩
  · show Calls Tryd.prog 91 _ _ _
    clear ht
    go_enter Tryd.func91, Tryd.ntmps91
    go_wp2
    go_ret
    exact ⟨rfl, rfl⟩
  · show Calls Tryd.prog 92 _ _ _
    clear ht
    go_enter Tryd.func92, Tryd.ntmps92
    go_wp2
    go_ret
    exact ⟨rfl, rfl⟩
  · show Calls Tryd.prog 93 _ _ _
    clear ht
    have htr := fun w => truth_fn (x == y) w
    have hb : bin 6 x y = if (x == y) = true then 1 else 0 := by simp [bin]
    rw [← hb] at htr
    generalize bin 6 x y = z at htr ⊢
    clear hb
    go_enter Tryd.func93, Tryd.ntmps93
    go_wp2_with (go_at_call 94; refine (htr _).mono ?_; rintro e w1 ⟨rfl, rfl⟩)
    go_ret
    exact ⟨rfl, rfl⟩
  · show Calls Tryd.prog 95 _ _ _
    clear ht
    by_cases hc : x < y
    · have htr := fun w => truth_fn true w
      have hb : bin 7 x y = 1 := by simp [bin, hc]
      rw [hb]
      clear hb
      go_enter Tryd.func95, Tryd.ntmps95
      go_wp2_with (go_at_call 94; refine (htr _).mono ?_; rintro e w1 ⟨rfl, rfl⟩)
      go_ret
      exact ⟨rfl, rfl⟩
    · have htr := fun w => truth_fn false w
      have hb : bin 7 x y = 0 := by simp [bin, hc]
      rw [hb]
      clear hb
      go_enter Tryd.func95, Tryd.ntmps95
      go_wp2_with (go_at_call 94; refine (htr _).mono ?_; rintro e w1 ⟨rfl, rfl⟩)
      go_ret
      exact ⟨rfl, rfl⟩
  · show Calls Tryd.prog 96 _ _ _
    obtain ⟨ha, hb⟩ := ht (by decide)
    clear ht hm1 hm2 hx1 hx2 hy1 hy2
    rcases ha with rfl | rfl <;> rcases hb with rfl | rfl
    all_goals
      go_enter Tryd.func96, Tryd.ntmps96
      go_wp2
      go_ret
      exact ⟨rfl, rfl⟩
  · show Calls Tryd.prog 97 _ _ _
    obtain ⟨ha, hb⟩ := ht (by decide)
    clear ht hm1 hm2 hx1 hx2 hy1 hy2
    rcases ha with rfl | rfl <;> rcases hb with rfl | rfl
    all_goals
      go_enter Tryd.func97, Tryd.ntmps97
      go_wp2
      go_ret
      exact ⟨rfl, rfl⟩

/-! ### the map of functions -/

/-- how a function without what it captured reads: by its number. -/
def fnElem : Value → Option (DataW Unit × List MemPlace)
  | .func (.func f) first cap => if first = #[] ∧ cap = #[] then some (.lit (.int .i64 f), []) else none
  | .nilFunc => some (.nil, [])
  | _ => none
theorem fnElem_inv {v : Value} {f : Nat} {ps : List MemPlace} (h : fnElem v = some (.lit (.int .i64 f), ps)) : v = .func (.func f) #[] #[] := by
  unfold fnElem at h
  split at h
  · split at h
    · rename_i hc
      obtain ⟨rfl, rfl⟩ := hc
      simp at h
      rw [Int.ofNat.inj h.1]
    · simp at h
  · simp at h
  · simp at h
/-- a function of the program is put into a map of the call's own. -/
theorem wpList_insert_own {H : Type} {P : Program} (w : World) {ops : Array Oper} {rest : List Oper} {o : Oper} {a : Act} {Q : Exit → Act → World → Prop}
    (hg : o.guard = none) (m x v : Operand) (t : TypeId) (hop : o.op = Op.insert t m x v)
    (k e : TypeId) (K : Keyed P k) (ht : P.underlying t = some (.map k e)) (R : Value → Option (DataW H × List MemPlace)) (b n : Nat) (D : DataW H)
    (hm : a.eval m = .map (some b)) (hown : w.ownsMap P k R b n D) (hn : n < maxLen) (key val : Value) (kl : Lit) (hx : a.eval x = key) (hv : a.eval v = val) (hkey : keyOf P k key = some kl)
    (d : DataW H) (ps : List MemPlace) (hval : R val = some (d, ps))
    (hK : ∀ w', w'.ownsMap P k R b (n + 1) (D.put kl d) → w.grownBy w' (some b) → wpList P ops Q rest (a.put o.dst undef) w') :
    wpList P ops Q (o :: rest) a w := by
  refine wpList_plain hg fun K' hK' => ?_
  obtain ⟨w', hrun, r1, r2⟩ := hown.update K ht hn hkey hval
  unfold Oper.wp
  simp [execOp, hop, hm, hx, hv, hrun, Result.andThen]
  exact hK' _ _ (hK w' r1 r2)

def pairD : Nat → DataW Unit
  | 0 => .map []
  | n + 1 => (pairD n).put (.int .i64 ((n : Int) + 3)) (.lit (.int .i64 (pairFn ((n : Int) + 3))))
def PairsAt (w : World) (M : Nat) : Prop := w.ownsMap Tryd.prog 3 fnElem M 7 (pairD 7)
theorem PairsAt.later {w w' : World} {M : Nat} (h : PairsAt w M) (hb : Below w.heap.size w w') : PairsAt w' M := by
  have hlt := World.ownsMap.lt h
  obtain ⟨es, clock, h1, h2⟩ := h
  exact ⟨es, clock, (hb.block M hlt).trans h1, h2⟩
theorem keyInt : Keyed Tryd.prog 3 := int_keyed Tryd.underlying3
theorem key3 (k : Int) (h : 3 ≤ k ∧ k ≤ 9) : keyOf Tryd.prog 3 (.int .i64 k) = some (.int .i64 k) := keyOf_int_mk Tryd.underlying3 (WalkArith.wf_i64 (by omega))
theorem PairsAt.look {w : World} {M : Nat} (h : PairsAt w M) {k : Int} (h3 : 3 ≤ k) (h9 : k ≤ 9) :
    (Instr.lookup 115 (.map (some M)) (.int .i64 k) false).run Tryd.prog w = .ok (.func (.func (pairFn k)) #[] #[]) w := by
  obtain ⟨v, ps, hrun, hv⟩ := World.ownsMap.lookup h keyInt Tryd.underlying115 (z := .nilFunc) (by kernel_rfl) (zd := .nil) (zp := []) rfl (key3 k ⟨h3, h9⟩)
  have hat : (pairD 7).atKey (.int .i64 k) .nil = .lit (.int .i64 (pairFn k)) := by
    have hk : k = 3 ∨ k = 4 ∨ k = 5 ∨ k = 6 ∨ k = 7 ∨ k = 8 ∨ k = 9 := by omega
    rcases hk with rfl | rfl | rfl | rfl | rfl | rfl | rfl <;> rfl
  rw [hat] at hv
  rw [hrun, fnElem_inv hv]

set_option maxHeartbeats 1600000 in
set_option maxRecDepth 20000 in
/-- THE CONTRACT OF pairMakers. -/
theorem pairMakers_any (w : World) :
    Calls Tryd.prog 76 #[] w fun e w' => ∃ M, w.heap.size ≤ M ∧ e = .returned (.map (some M)) ∧ PairsAt w' M ∧ Below w.heap.size w w' := by
  have hmm := @run_makeMap Tryd.prog
  have h0 := World.ownsMap_made w Tryd.prog 3 fnElem
  go_enter Tryd.func76, Tryd.ntmps76
  go_wp2_with (first
    | (refine wpList_insert_own _ rfl _ _ _ 115 rfl 3 125 keyInt Tryd.underlying115 fnElem w.heap.size 6 _ rfl h6 (by unfold maxLen; omega) _ _ _ rfl rfl (key3 9 (by omega)) _ [] rfl ?_; intro w7 h7 g7)
    | (refine wpList_insert_own _ rfl _ _ _ 115 rfl 3 125 keyInt Tryd.underlying115 fnElem w.heap.size 5 _ rfl h5 (by unfold maxLen; omega) _ _ _ rfl rfl (key3 8 (by omega)) _ [] rfl ?_; intro w6 h6 g6)
    | (refine wpList_insert_own _ rfl _ _ _ 115 rfl 3 125 keyInt Tryd.underlying115 fnElem w.heap.size 4 _ rfl h4 (by unfold maxLen; omega) _ _ _ rfl rfl (key3 7 (by omega)) _ [] rfl ?_; intro w5 h5 g5)
    | (refine wpList_insert_own _ rfl _ _ _ 115 rfl 3 125 keyInt Tryd.underlying115 fnElem w.heap.size 3 _ rfl h3 (by unfold maxLen; omega) _ _ _ rfl rfl (key3 6 (by omega)) _ [] rfl ?_; intro w4 h4 g4)
    | (refine wpList_insert_own _ rfl _ _ _ 115 rfl 3 125 keyInt Tryd.underlying115 fnElem w.heap.size 2 _ rfl h2 (by unfold maxLen; omega) _ _ _ rfl rfl (key3 5 (by omega)) _ [] rfl ?_; intro w3 h3 g3)
    | (refine wpList_insert_own _ rfl _ _ _ 115 rfl 3 125 keyInt Tryd.underlying115 fnElem w.heap.size 1 _ rfl h1 (by unfold maxLen; omega) _ _ _ rfl rfl (key3 4 (by omega)) _ [] rfl ?_; intro w2 h2 g2)
    | (refine wpList_insert_own _ rfl _ _ _ 115 rfl 3 125 keyInt Tryd.underlying115 fnElem w.heap.size 0 _ rfl h0 (by unfold maxLen; omega) _ _ _ rfl rfl (key3 3 (by omega)) _ [] rfl ?_; intro w1 h1 g1))
  go_ret
  have hb0 : Below w.heap.size w (w.alloc (.map #[] 0)) := (Below.refl _ _).alloc (Nat.le_refl _) _
  have hb : ∀ {x y : World}, Below w.heap.size w x → x.grownBy y (some w.heap.size) → Below w.heap.size w y := fun h g => h.grown g h.size (fun j hj => by cases hj; exact Nat.le_refl _)
  exact ⟨w.heap.size, Nat.le_refl _, rfl, h7, hb (hb (hb (hb (hb (hb (hb hb0 g1) g2) g3) g4) g5) g6) g7⟩
end Go.Proofs.YtdlpmomohbdpgaaDoor

/-
  The contract of package expr's (work).at.
-/
namespace Go.Proofs.YtdlpmomohbdpgaaDoor
open Go.ChangeShapes Go.WideShapes Go.ChangeAt Go.RowKit Go.Deep
open Terms Tm

/-- what the work leans on: ops, their ends, the values, the functions. -/
structure WorkAt (w : World) (b off B : Nat) (eao : Option Addr) (M : Nat) (t : Tm) (env : List Int) : Prop where
  ob : b < w.heap.size
  ops : OpsAt w b off t.ops
  ends : w.rowIs B 3 t.size (fun q => .int .i64 (endAt (t.ops.map Prod.fst) q))
  env : ∀ i, i < env.length → ∃ eb eoff, eao = some ⟨eb, eoff, none⟩ ∧ eb < w.heap.size ∧ w.cell? ⟨eb, eoff + i, none⟩ = some (.int .i64 (env.getD i 0))
  pairs : PairsAt w M
theorem WorkAt.later {w w' : World} {b off B : Nat} {eao : Option Addr} {M : Nat} {t : Tm} {env : List Int} (h : WorkAt w b off B eao M t env) (hb : Below w.heap.size w w') : WorkAt w' b off B eao M t env := by
  obtain ⟨h1, h2, h3, h4, h5⟩ := h
  refine ⟨Nat.lt_of_lt_of_le h1 hb.size, h2.below hb h1, h3.of_block (hb.block B h3.lt), fun i hi => ?_, h5.later hb⟩
  obtain ⟨eb, eoff, e1, e2, e3⟩ := h4 i hi
  exact ⟨eb, eoff, e1, Nat.lt_of_lt_of_le e2 hb.size, (hb.cell (p := ⟨eb, eoff + i, none⟩) e2).trans e3⟩

/-- what the work on a tree leaves: a number, or it has given up. -/
def AtPost (r : Option Int) (w : World) (e : Ending) (w' : World) : Prop :=
  Below w.heap.size w w' ∧ match r with
    | some x => e = .returned (.int .i64 x)
    | none => e = .panicked [{ v := .iface 31 (.int .i64 8), recovered := false }]


abbrev workV (b off n cap B : Nat) (eao : Option Addr) (en ecap M : Nat) : Value := .agg #[.slice (some ⟨b, off, none⟩) n cap, .slice (some ⟨B, 0, none⟩) n n, .slice eao en ecap, .map (some M)]

set_option maxHeartbeats 400000 in
theorem at_num (b off n cap B : Nat) (eao : Option Addr) (en ecap M place : Nat) (x : Int) (w : World) (hob : b < w.heap.size) (hp : place < n) (c0 : w.cell? ⟨b, off + place * 2, none⟩ = some (.int .i64 1)) (c1 : w.cell? ⟨b, off + place * 2 + 1, none⟩ = some (.int .i64 x)) :
    Calls Tryd.prog 77 #[workV b off n cap B eao en ecap M, .int .i64 place] w (AtPost (some x) w) := by
  have hne : ¬ b = w.heap.size := by omega
  go_enter Tryd.func77, Tryd.ntmps77
  go_wp2_with fail
  go_ret
  exact ⟨((Below.refl _ _).alloc (Nat.le_refl _) _).alloc (by simp) _, rfl⟩
set_option maxHeartbeats 400000 in
theorem at_var (b off n cap B eb eoff en ecap M place j : Nat) (x : Int) (w : World) (hob : b < w.heap.size) (hp : place < n) (hj : j < en) (c0 : w.cell? ⟨b, off + place * 2, none⟩ = some (.int .i64 2)) (c1 : w.cell? ⟨b, off + place * 2 + 1, none⟩ = some (.int .i64 j)) (hbl : eb < w.heap.size) (c2 : w.cell? ⟨eb, eoff + j, none⟩ = some (.int .i64 x)) :
    Calls Tryd.prog 77 #[workV b off n cap B (some ⟨eb, eoff, none⟩) en ecap M, .int .i64 place] w (AtPost (some x) w) := by
  have hne : ¬ b = w.heap.size := by omega
  go_enter Tryd.func77, Tryd.ntmps77
  go_wp2_with fail
  go_ret
  exact ⟨((Below.refl _ _).alloc (Nat.le_refl _) _).alloc (by simp) _, rfl⟩
set_option maxHeartbeats 400000 in
theorem at_lit (b off n cap B : Nat) (eao : Option Addr) (en ecap M place : Nat) (k : Int) (hk : k = 11 ∨ k = 12) (w : World) (hob : b < w.heap.size) (hp : place < n) (c0 : w.cell? ⟨b, off + place * 2, none⟩ = some (.int .i64 k)) (c1 : w.cell? ⟨b, off + place * 2 + 1, none⟩ = some (.int .i64 0)) :
    Calls Tryd.prog 77 #[workV b off n cap B eao en ecap M, .int .i64 place] w (AtPost (some (if k = 11 then 1 else 0)) w) := by
  rcases hk with rfl | rfl
  · rw [if_pos rfl]
    have hne : ¬ b = w.heap.size := by omega
    go_enter Tryd.func77, Tryd.ntmps77
    go_wp2_with fail
    go_ret
    exact ⟨((Below.refl _ _).alloc (Nat.le_refl _) _).alloc (by simp) _, rfl⟩
  · rw [if_neg (by decide)]
    have hne : ¬ b = w.heap.size := by omega
    go_enter Tryd.func77, Tryd.ntmps77
    go_wp2_with fail
    go_ret
    exact ⟨((Below.refl _ _).alloc (Nat.le_refl _) _).alloc (by simp) _, rfl⟩
set_option maxHeartbeats 400000 in
theorem at_not (b off n cap B : Nat) (eao : Option Addr) (en ecap M place : Nat) (r : Option Int) (w : World) (hob : b < w.heap.size) (hp : place < n) (h60 : n ≤ 60) (c0 : w.cell? ⟨b, off + place * 2, none⟩ = some (.int .i64 10)) (c1 : w.cell? ⟨b, off + place * 2 + 1, none⟩ = some (.int .i64 0))
    (hr : ∀ x, r = some x → -1000000 ≤ x ∧ x ≤ 1000000)
    (hrec : ∀ w', Below w.heap.size w w' → Calls Tryd.prog 77 #[workV b off n cap B eao en ecap M, .int .i64 ((place : Int) + 1)] w' (AtPost r w')) :
    Calls Tryd.prog 77 #[workV b off n cap B eao en ecap M, .int .i64 place] w (AtPost (r.map (1 - ·)) w) := by
  have hne : ¬ b = w.heap.size := by omega
  have hb2 : Below w.heap.size w ((w.alloc (.cells #[.slice (some ⟨b, off, none⟩) n cap, .slice (some ⟨B, 0, none⟩) n n, .slice eao en ecap, .map (some M)] 118)).alloc (.cells #[.int .i64 10, .int .i64 0] 87)) := ((Below.refl _ _).alloc (Nat.le_refl _) _).alloc (by simp) _
  have hrec' := hrec _ hb2
  have HB2 := (show Hid _ from hb2)
  clear hrec hb2
  cases r with
  | none =>
    go_enter Tryd.func77, Tryd.ntmps77
    go_wp2_with (go_at_call 77; refine hrec'.mono ?_; rintro e w1 ⟨hb1, rfl⟩)
    exact ⟨rfl, HB2.out.trans (hb1.mono HB2.out.size), rfl⟩
  | some x =>
    obtain ⟨hx1, hx2⟩ := hr x rfl
    clear hr
    go_enter Tryd.func77, Tryd.ntmps77
    go_wp2_with (go_at_call 77; refine hrec'.mono ?_; rintro e w1 ⟨hb1, rfl⟩)
    go_ret
    exact ⟨HB2.out.trans (hb1.mono HB2.out.size), rfl⟩

end Go.Proofs.YtdlpmomohbdpgaaDoor

/-
  The contract of package expr's (work).at: an op of two parts.
-/
namespace Go.Proofs.YtdlpmomohbdpgaaDoor
open Go.ChangeShapes Go.WideShapes Go.ChangeAt Go.RowKit Go.Deep
open Terms Tm
attribute [local go_sem ↓] Go.wp_at_zero Go.wp_at_succ

theorem pair_enters (k : Int) (h3 : 3 ≤ k) (h9 : k ≤ 9) (args : Array Value) (w : World) : (callFunc (pairFn k) args).run Tryd.prog w = .ok (.enter (pairFn k) args) w := by
  have hk : k = 3 ∨ k = 4 ∨ k = 5 ∨ k = 6 ∨ k = 7 ∨ k = 8 ∨ k = 9 := by omega
  rcases hk with rfl | rfl | rfl | rfl | rfl | rfl | rfl
  · show (callFunc 90 args).run Tryd.prog w = .ok (.enter 90 args) w; simp [go_sem]
  · show (callFunc 91 args).run Tryd.prog w = .ok (.enter 91 args) w; simp [go_sem]
  · show (callFunc 92 args).run Tryd.prog w = .ok (.enter 92 args) w; simp [go_sem]
  · show (callFunc 93 args).run Tryd.prog w = .ok (.enter 93 args) w; simp [go_sem]
  · show (callFunc 95 args).run Tryd.prog w = .ok (.enter 95 args) w; simp [go_sem]
  · show (callFunc 96 args).run Tryd.prog w = .ok (.enter 96 args) w; simp [go_sem]
  · show (callFunc 97 args).run Tryd.prog w = .ok (.enter 97 args) w; simp [go_sem]
theorem wrap_small {x : Int} (h1 : 0 ≤ x) (h2 : x ≤ 1000) : IntKind.i64.wrap x = x := by
  simp [IntKind.wrap, IntKind.bits, IntKind.signed]; omega

set_option maxHeartbeats 800000 in
set_option maxRecDepth 20000 in
theorem at_bi (b off n cap B : Nat) (eao : Option Addr) (en ecap M place E1 F : Nat) (k x y z : Int) (w : World) (hob : b < w.heap.size) (hBB : B < w.heap.size) (hp : place + 1 < n) (P1 : Nat) (hP1 : P1 = place + 1) (h60 : n ≤ 60) (hk3 : 3 ≤ k) (hk9 : k ≤ 9) (c0 : w.cell? ⟨b, off + place * 2, none⟩ = some (.int .i64 k)) (c1 : w.cell? ⟨b, off + place * 2 + 1, none⟩ = some (.int .i64 0)) (cE : w.cell? ⟨B, P1, none⟩ = some (.int .i64 E1))
    (hlook : ∀ w', Below w.heap.size w w' → (Instr.lookup 115 (.map (some M)) (.int .i64 k) false).run Tryd.prog w' = .ok (.func (.func F) #[] #[]) w')
    (hent : ∀ args w, (callFunc F args).run Tryd.prog w = .ok (.enter F args) w)
    (hpair : ∀ w', Calls Tryd.prog F #[.int .i64 x, .int .i64 y] w' fun e w'' => e = .returned (.int .i64 z) ∧ w'' = w')
    (hra : ∀ w', Below w.heap.size w w' → Calls Tryd.prog 77 #[workV b off n cap B eao en ecap M, .int .i64 P1] w' (AtPost (some x) w'))
    (hrb : ∀ w', Below w.heap.size w w' → Calls Tryd.prog 77 #[workV b off n cap B eao en ecap M, .int .i64 E1] w' (AtPost (some y) w')) :
    Calls Tryd.prog 77 #[workV b off n cap B eao en ecap M, .int .i64 place] w (AtPost (lid z) w) := by
  have hne : ¬ b = w.heap.size := by omega
  have hneB : ¬ B = w.heap.size := by omega
  have e1 : ¬ k = 1 := by omega
  have e2 : ¬ k = 2 := by omega
  have e3 : ¬ k = 10 := by omega
  have e4 : ¬ k = 11 := by omega
  have e5 : ¬ k = 12 := by omega
  obtain ⟨W2, hW2⟩ : ∃ W2, W2 = ((w.alloc (.cells #[.slice (some ⟨b, off, none⟩) n cap, .slice (some ⟨B, 0, none⟩) n n, .slice eao en ecap, .map (some M)] 118)).alloc (.cells #[.int .i64 k, .int .i64 0] 87)) := ⟨_, rfl⟩
  have hb2 : Below w.heap.size w W2 := by rw [hW2]; exact ((Below.refl _ _).alloc (Nat.le_refl _) _).alloc (by simp) _
  have hsz : W2.heap.size = w.heap.size + 1 + 1 := by rw [hW2]; simp
  have d0 : W2.cell? ⟨w.heap.size, 0, none⟩ = some (.slice (some ⟨b, off, none⟩) n cap) := by rw [hW2]; simp [go_sem]
  have d1 : W2.cell? ⟨w.heap.size, 1, none⟩ = some (.slice (some ⟨B, 0, none⟩) n n) := by rw [hW2]; simp [go_sem]
  have d2 : W2.cell? ⟨w.heap.size, 2, none⟩ = some (.slice eao en ecap) := by rw [hW2]; simp [go_sem]
  have d3 : W2.cell? ⟨w.heap.size, 3, none⟩ = some (.map (some M)) := by rw [hW2]; simp [go_sem]
  have d4 : W2.cell? ⟨w.heap.size + 1, 0, none⟩ = some (.int .i64 k) := by rw [hW2]; simp [go_sem]
  have d5 : W2.cell? ⟨B, P1, none⟩ = some (.int .i64 E1) := (hb2.cell (p := ⟨B, P1, none⟩) hBB).trans cE
  have HW2 := (show Hid _ from hW2)
  have hS : ∀ w', Below W2.heap.size W2 w' → w'.cell? ⟨w.heap.size, 0, none⟩ = some (.slice (some ⟨b, off, none⟩) n cap) ∧ w'.cell? ⟨w.heap.size, 1, none⟩ = some (.slice (some ⟨B, 0, none⟩) n n) ∧ w'.cell? ⟨w.heap.size, 2, none⟩ = some (.slice eao en ecap) ∧ w'.cell? ⟨w.heap.size, 3, none⟩ = some (.map (some M)) ∧ w'.cell? ⟨w.heap.size + 1, 0, none⟩ = some (.int .i64 k) ∧ w'.cell? ⟨B, P1, none⟩ = some (.int .i64 E1) ∧ (Instr.lookup 115 (.map (some M)) (.int .i64 k) false).run Tryd.prog w' = .ok (.func (.func F) #[] #[]) w' := fun w' hw' =>
    ⟨(hw'.cell (p := ⟨w.heap.size, 0, none⟩) (by simp only; omega)).trans d0, (hw'.cell (p := ⟨w.heap.size, 1, none⟩) (by simp only; omega)).trans d1, (hw'.cell (p := ⟨w.heap.size, 2, none⟩) (by simp only; omega)).trans d2, (hw'.cell (p := ⟨w.heap.size, 3, none⟩) (by simp only; omega)).trans d3, (hw'.cell (p := ⟨w.heap.size + 1, 0, none⟩) (by simp only; omega)).trans d4, (hw'.cell (p := ⟨B, P1, none⟩) (by simp only; omega)).trans d5, hlook w' (hb2.trans (hw'.mono hb2.size))⟩
  have hra' : ∀ w', Below W2.heap.size W2 w' → Calls Tryd.prog 77 #[workV b off n cap B eao en ecap M, .int .i64 P1] w' (AtPost (some x) w') := fun w' hw' => hra w' (hb2.trans (hw'.mono hb2.size))
  have hrb' : ∀ w', Below W2.heap.size W2 w' → Calls Tryd.prog 77 #[workV b off n cap B eao en ecap M, .int .i64 E1] w' (AtPost (some y) w') := fun w' hw' => hrb w' (hb2.trans (hw'.mono hb2.size))
  have hB0 : Below W2.heap.size W2 W2 := Below.refl _ _
  have HB2 : Hid (Below w.heap.size w W2) := hb2
  have hp0 : place < n := by omega
  have hi0 : (0 : Int) ≤ (P1 : Int) := by omega
  have hi1 : (P1 : Int) < (n : Int) := by omega
  have hpp : (place : Int) + 1 = (P1 : Int) := by omega
  have hwr : IntKind.i64.wrap (P1 : Int) = (P1 : Int) := wrap_small (by omega) (by omega)
  have hwr2 : IntKind.i64.wrap ((place : Int) + 1) = (P1 : Int) := by rw [hpp]; exact hwr
  have htg := fun w => tooGreat_any z w
  clear hW2 hb2 hra hrb hlook hP1 hp hsz d0 d1 d2 d3 d4 d5
  by_cases hz : -1000000 ≤ z ∧ z ≤ 1000000
  · rw [show decide (¬ (-1000000 ≤ z ∧ z ≤ 1000000)) = false by simpa using hz] at htg
    rw [show lid z = some z by unfold lid; rw [if_pos hz]]
    clear hz
    go_enter Tryd.func77, Tryd.ntmps77
    go_wp2_with fail
    rw [← HW2.out]
    clear c0 c1 cE
    go_region_held3 (fun w' => w'.cell? ⟨w.heap.size, 0, none⟩ = some (.slice (some ⟨b, off, none⟩) n cap) ∧ w'.cell? ⟨w.heap.size, 1, none⟩ = some (.slice (some ⟨B, 0, none⟩) n n) ∧ w'.cell? ⟨w.heap.size, 2, none⟩ = some (.slice eao en ecap) ∧ w'.cell? ⟨w.heap.size, 3, none⟩ = some (.map (some M)) ∧ w'.cell? ⟨w.heap.size + 1, 0, none⟩ = some (.int .i64 k) ∧ w'.cell? ⟨B, P1, none⟩ = some (.int .i64 E1) ∧ (Instr.lookup 115 (.map (some M)) (.int .i64 k) false).run Tryd.prog w' = .ok (.func (.func F) #[] #[]) w')
      (exact hS _ (by first | exact hB0 | exact hB0.drew | exact hB0.drew.trans hb1 | exact (hB0.drew.trans hb1).trans (hb3.mono (hB0.drew.trans hb1).size)))
      (first | (go_at_call_of 77 E1; refine (hrb' _ (hB0.drew.trans hb1)).mono ?_; rintro e w3 ⟨hb3, rfl⟩) | (go_at_call 77; refine (hra' _ hB0.drew).mono ?_; rintro e w1 ⟨hb1, rfl⟩) | (refine (hpair _).mono ?_; rintro e w4 ⟨rfl, rfl⟩))
    all_goals
      go_wp2_with (go_at_call 75; refine (htg _).mono ?_; rintro e w5 ⟨rfl, rfl⟩)
      go_ret
      exact ⟨HB2.out.trans (((hB0.drew.trans hb1).trans (hb3.mono (hB0.drew.trans hb1).size)).mono HB2.out.size), rfl⟩
  · rw [show decide (¬ (-1000000 ≤ z ∧ z ≤ 1000000)) = true by simp; omega] at htg
    rw [show lid z = none by unfold lid; rw [if_neg hz]]
    clear hz
    go_enter Tryd.func77, Tryd.ntmps77
    go_wp2_with fail
    rw [← HW2.out]
    clear c0 c1 cE
    go_region_held3 (fun w' => w'.cell? ⟨w.heap.size, 0, none⟩ = some (.slice (some ⟨b, off, none⟩) n cap) ∧ w'.cell? ⟨w.heap.size, 1, none⟩ = some (.slice (some ⟨B, 0, none⟩) n n) ∧ w'.cell? ⟨w.heap.size, 2, none⟩ = some (.slice eao en ecap) ∧ w'.cell? ⟨w.heap.size, 3, none⟩ = some (.map (some M)) ∧ w'.cell? ⟨w.heap.size + 1, 0, none⟩ = some (.int .i64 k) ∧ w'.cell? ⟨B, P1, none⟩ = some (.int .i64 E1) ∧ (Instr.lookup 115 (.map (some M)) (.int .i64 k) false).run Tryd.prog w' = .ok (.func (.func F) #[] #[]) w')
      (exact hS _ (by first | exact hB0 | exact hB0.drew | exact hB0.drew.trans hb1 | exact (hB0.drew.trans hb1).trans (hb3.mono (hB0.drew.trans hb1).size)))
      (first | (go_at_call_of 77 E1; refine (hrb' _ (hB0.drew.trans hb1)).mono ?_; rintro e w3 ⟨hb3, rfl⟩) | (go_at_call 77; refine (hra' _ hB0.drew).mono ?_; rintro e w1 ⟨hb1, rfl⟩) | (refine (hpair _).mono ?_; rintro e w4 ⟨rfl, rfl⟩))
    all_goals
      go_wp2_with (go_at_call 75; refine (htg _).mono ?_; rintro e w5 ⟨rfl, rfl⟩)
      exact ⟨rfl, HB2.out.trans (((hB0.drew.trans hb1).trans (hb3.mono (hB0.drew.trans hb1).size)).mono HB2.out.size), rfl⟩
end Go.Proofs.YtdlpmomohbdpgaaDoor

/-
  The contract of package expr's (work).at: an op of two parts, where a part gives up.
-/
namespace Go.Proofs.YtdlpmomohbdpgaaDoor
open Go.ChangeShapes Go.WideShapes Go.ChangeAt Go.RowKit Go.Deep
open Terms Tm
attribute [local go_sem ↓] Go.wp_at_zero Go.wp_at_succ

/-- a callee that gives up: what would follow if it came back is shown from nothing. -/
theorem Calls.pan {f : FuncId} {args : Array Value} {w : World} {X : Ending → World → Prop} (x : Int) (h : Calls Tryd.prog f args w (AtPost none w))
    (hX : ∀ w', Below w.heap.size w w' → X (.panicked [{ v := .iface 31 (.int .i64 8), recovered := false }]) w') (_ : ∀ w', Below w.heap.size w w' → Hid False → X (.returned (.int .i64 x)) w') : Calls Tryd.prog f args w X :=
  h.mono fun e w' ⟨hb, he⟩ => by subst he; exact hX w' hb

set_option maxHeartbeats 800000 in
set_option maxRecDepth 20000 in
theorem at_bi_a (b off n cap B : Nat) (eao : Option Addr) (en ecap M place E1 F : Nat) (k x y z : Int) (w : World) (hob : b < w.heap.size) (hBB : B < w.heap.size) (hp : place + 1 < n) (P1 : Nat) (hP1 : P1 = place + 1) (h60 : n ≤ 60) (hk3 : 3 ≤ k) (hk9 : k ≤ 9) (c0 : w.cell? ⟨b, off + place * 2, none⟩ = some (.int .i64 k)) (c1 : w.cell? ⟨b, off + place * 2 + 1, none⟩ = some (.int .i64 0)) (cE : w.cell? ⟨B, P1, none⟩ = some (.int .i64 E1))
    (hlook : ∀ w', Below w.heap.size w w' → (Instr.lookup 115 (.map (some M)) (.int .i64 k) false).run Tryd.prog w' = .ok (.func (.func F) #[] #[]) w')
    (hent : ∀ args w, (callFunc F args).run Tryd.prog w = .ok (.enter F args) w)
    (hpair : ∀ w', Calls Tryd.prog F #[.int .i64 x, .int .i64 y] w' fun e w'' => e = .returned (.int .i64 z) ∧ w'' = w')
    (hra : ∀ w', Below w.heap.size w w' → Calls Tryd.prog 77 #[workV b off n cap B eao en ecap M, .int .i64 P1] w' (AtPost none w'))
    (hrb : Hid False → ∀ w', Below w.heap.size w w' → Calls Tryd.prog 77 #[workV b off n cap B eao en ecap M, .int .i64 E1] w' (AtPost (some y) w')) :
    Calls Tryd.prog 77 #[workV b off n cap B eao en ecap M, .int .i64 place] w (AtPost none w) := by
  have hne : ¬ b = w.heap.size := by omega
  have hneB : ¬ B = w.heap.size := by omega
  have e1 : ¬ k = 1 := by omega
  have e2 : ¬ k = 2 := by omega
  have e3 : ¬ k = 10 := by omega
  have e4 : ¬ k = 11 := by omega
  have e5 : ¬ k = 12 := by omega
  obtain ⟨W2, hW2⟩ : ∃ W2, W2 = ((w.alloc (.cells #[.slice (some ⟨b, off, none⟩) n cap, .slice (some ⟨B, 0, none⟩) n n, .slice eao en ecap, .map (some M)] 118)).alloc (.cells #[.int .i64 k, .int .i64 0] 87)) := ⟨_, rfl⟩
  have hb2 : Below w.heap.size w W2 := by rw [hW2]; exact ((Below.refl _ _).alloc (Nat.le_refl _) _).alloc (by simp) _
  have hsz : W2.heap.size = w.heap.size + 1 + 1 := by rw [hW2]; simp
  have d0 : W2.cell? ⟨w.heap.size, 0, none⟩ = some (.slice (some ⟨b, off, none⟩) n cap) := by rw [hW2]; simp [go_sem]
  have d1 : W2.cell? ⟨w.heap.size, 1, none⟩ = some (.slice (some ⟨B, 0, none⟩) n n) := by rw [hW2]; simp [go_sem]
  have d2 : W2.cell? ⟨w.heap.size, 2, none⟩ = some (.slice eao en ecap) := by rw [hW2]; simp [go_sem]
  have d3 : W2.cell? ⟨w.heap.size, 3, none⟩ = some (.map (some M)) := by rw [hW2]; simp [go_sem]
  have d4 : W2.cell? ⟨w.heap.size + 1, 0, none⟩ = some (.int .i64 k) := by rw [hW2]; simp [go_sem]
  have d5 : W2.cell? ⟨B, P1, none⟩ = some (.int .i64 E1) := (hb2.cell (p := ⟨B, P1, none⟩) hBB).trans cE
  have HW2 := (show Hid _ from hW2)
  have hS : ∀ w', Below W2.heap.size W2 w' → w'.cell? ⟨w.heap.size, 0, none⟩ = some (.slice (some ⟨b, off, none⟩) n cap) ∧ w'.cell? ⟨w.heap.size, 1, none⟩ = some (.slice (some ⟨B, 0, none⟩) n n) ∧ w'.cell? ⟨w.heap.size, 2, none⟩ = some (.slice eao en ecap) ∧ w'.cell? ⟨w.heap.size, 3, none⟩ = some (.map (some M)) ∧ w'.cell? ⟨w.heap.size + 1, 0, none⟩ = some (.int .i64 k) ∧ w'.cell? ⟨B, P1, none⟩ = some (.int .i64 E1) ∧ (Instr.lookup 115 (.map (some M)) (.int .i64 k) false).run Tryd.prog w' = .ok (.func (.func F) #[] #[]) w' := fun w' hw' =>
    ⟨(hw'.cell (p := ⟨w.heap.size, 0, none⟩) (by simp only; omega)).trans d0, (hw'.cell (p := ⟨w.heap.size, 1, none⟩) (by simp only; omega)).trans d1, (hw'.cell (p := ⟨w.heap.size, 2, none⟩) (by simp only; omega)).trans d2, (hw'.cell (p := ⟨w.heap.size, 3, none⟩) (by simp only; omega)).trans d3, (hw'.cell (p := ⟨w.heap.size + 1, 0, none⟩) (by simp only; omega)).trans d4, (hw'.cell (p := ⟨B, P1, none⟩) (by simp only; omega)).trans d5, hlook w' (hb2.trans (hw'.mono hb2.size))⟩
  have hra' : ∀ w', Below W2.heap.size W2 w' → Calls Tryd.prog 77 #[workV b off n cap B eao en ecap M, .int .i64 P1] w' (AtPost none w') := fun w' hw' => hra w' (hb2.trans (hw'.mono hb2.size))
  have hrb' : Hid False → ∀ w', Below W2.heap.size W2 w' → Calls Tryd.prog 77 #[workV b off n cap B eao en ecap M, .int .i64 E1] w' (AtPost (some y) w') := fun hF w' hw' => hrb hF w' (hb2.trans (hw'.mono hb2.size))
  have hB0 : Below W2.heap.size W2 W2 := Below.refl _ _
  have HB2 : Hid (Below w.heap.size w W2) := hb2
  have hp0 : place < n := by omega
  have hi0 : (0 : Int) ≤ (P1 : Int) := by omega
  have hi1 : (P1 : Int) < (n : Int) := by omega
  have hpp : (place : Int) + 1 = (P1 : Int) := by omega
  have hwr : IntKind.i64.wrap (P1 : Int) = (P1 : Int) := wrap_small (by omega) (by omega)
  have hwr2 : IntKind.i64.wrap ((place : Int) + 1) = (P1 : Int) := by rw [hpp]; exact hwr
  clear hW2 hb2 hra hrb hlook hP1 hp hsz d0 d1 d2 d3 d4 d5
  go_enter Tryd.func77, Tryd.ntmps77
  go_wp2_with fail
  rw [← HW2.out]
  clear c0 c1 cE
  go_region_held2 (fun w' => w'.cell? ⟨w.heap.size, 0, none⟩ = some (.slice (some ⟨b, off, none⟩) n cap) ∧ w'.cell? ⟨w.heap.size, 1, none⟩ = some (.slice (some ⟨B, 0, none⟩) n n) ∧ w'.cell? ⟨w.heap.size, 2, none⟩ = some (.slice eao en ecap) ∧ w'.cell? ⟨w.heap.size, 3, none⟩ = some (.map (some M)) ∧ w'.cell? ⟨w.heap.size + 1, 0, none⟩ = some (.int .i64 k) ∧ w'.cell? ⟨B, P1, none⟩ = some (.int .i64 E1) ∧ (Instr.lookup 115 (.map (some M)) (.int .i64 k) false).run Tryd.prog w' = .ok (.func (.func F) #[] #[]) w')
    (exact hS _ (by first | exact hB0 | exact hB0.drew | exact hB0.drew.trans hb1 | exact (hB0.drew.trans hb1).trans (hb3.mono (hB0.drew.trans hb1).size)))
    (first | (go_at_call_of 77 E1; refine (hrb' hF _ (hB0.drew.trans hb1)).mono ?_; rintro e w3 ⟨hb3, rfl⟩) | (go_at_call 77; refine Calls.pan x (hra' _ hB0.drew) (fun w1 hb1 => ⟨rfl, HB2.out.trans ((hB0.drew.trans hb1).mono HB2.out.size), rfl⟩) (fun w1 hb1 hF => ?_)) | (refine (hpair _).mono ?_; rintro e w4 ⟨rfl, rfl⟩))
  all_goals exact hF.out.elim
set_option maxHeartbeats 800000 in
set_option maxRecDepth 20000 in
theorem at_bi_b (b off n cap B : Nat) (eao : Option Addr) (en ecap M place E1 F : Nat) (k x y z : Int) (w : World) (hob : b < w.heap.size) (hBB : B < w.heap.size) (hp : place + 1 < n) (P1 : Nat) (hP1 : P1 = place + 1) (h60 : n ≤ 60) (hk3 : 3 ≤ k) (hk9 : k ≤ 9) (c0 : w.cell? ⟨b, off + place * 2, none⟩ = some (.int .i64 k)) (c1 : w.cell? ⟨b, off + place * 2 + 1, none⟩ = some (.int .i64 0)) (cE : w.cell? ⟨B, P1, none⟩ = some (.int .i64 E1))
    (hlook : ∀ w', Below w.heap.size w w' → (Instr.lookup 115 (.map (some M)) (.int .i64 k) false).run Tryd.prog w' = .ok (.func (.func F) #[] #[]) w')
    (hent : ∀ args w, (callFunc F args).run Tryd.prog w = .ok (.enter F args) w)
    (hpair : ∀ w', Calls Tryd.prog F #[.int .i64 x, .int .i64 y] w' fun e w'' => e = .returned (.int .i64 z) ∧ w'' = w')
    (hra : ∀ w', Below w.heap.size w w' → Calls Tryd.prog 77 #[workV b off n cap B eao en ecap M, .int .i64 P1] w' (AtPost (some x) w'))
    (hrb : ∀ w', Below w.heap.size w w' → Calls Tryd.prog 77 #[workV b off n cap B eao en ecap M, .int .i64 E1] w' (AtPost none w')) :
    Calls Tryd.prog 77 #[workV b off n cap B eao en ecap M, .int .i64 place] w (AtPost none w) := by
  have hne : ¬ b = w.heap.size := by omega
  have hneB : ¬ B = w.heap.size := by omega
  have e1 : ¬ k = 1 := by omega
  have e2 : ¬ k = 2 := by omega
  have e3 : ¬ k = 10 := by omega
  have e4 : ¬ k = 11 := by omega
  have e5 : ¬ k = 12 := by omega
  obtain ⟨W2, hW2⟩ : ∃ W2, W2 = ((w.alloc (.cells #[.slice (some ⟨b, off, none⟩) n cap, .slice (some ⟨B, 0, none⟩) n n, .slice eao en ecap, .map (some M)] 118)).alloc (.cells #[.int .i64 k, .int .i64 0] 87)) := ⟨_, rfl⟩
  have hb2 : Below w.heap.size w W2 := by rw [hW2]; exact ((Below.refl _ _).alloc (Nat.le_refl _) _).alloc (by simp) _
  have hsz : W2.heap.size = w.heap.size + 1 + 1 := by rw [hW2]; simp
  have d0 : W2.cell? ⟨w.heap.size, 0, none⟩ = some (.slice (some ⟨b, off, none⟩) n cap) := by rw [hW2]; simp [go_sem]
  have d1 : W2.cell? ⟨w.heap.size, 1, none⟩ = some (.slice (some ⟨B, 0, none⟩) n n) := by rw [hW2]; simp [go_sem]
  have d2 : W2.cell? ⟨w.heap.size, 2, none⟩ = some (.slice eao en ecap) := by rw [hW2]; simp [go_sem]
  have d3 : W2.cell? ⟨w.heap.size, 3, none⟩ = some (.map (some M)) := by rw [hW2]; simp [go_sem]
  have d4 : W2.cell? ⟨w.heap.size + 1, 0, none⟩ = some (.int .i64 k) := by rw [hW2]; simp [go_sem]
  have d5 : W2.cell? ⟨B, P1, none⟩ = some (.int .i64 E1) := (hb2.cell (p := ⟨B, P1, none⟩) hBB).trans cE
  have HW2 := (show Hid _ from hW2)
  have hS : ∀ w', Below W2.heap.size W2 w' → w'.cell? ⟨w.heap.size, 0, none⟩ = some (.slice (some ⟨b, off, none⟩) n cap) ∧ w'.cell? ⟨w.heap.size, 1, none⟩ = some (.slice (some ⟨B, 0, none⟩) n n) ∧ w'.cell? ⟨w.heap.size, 2, none⟩ = some (.slice eao en ecap) ∧ w'.cell? ⟨w.heap.size, 3, none⟩ = some (.map (some M)) ∧ w'.cell? ⟨w.heap.size + 1, 0, none⟩ = some (.int .i64 k) ∧ w'.cell? ⟨B, P1, none⟩ = some (.int .i64 E1) ∧ (Instr.lookup 115 (.map (some M)) (.int .i64 k) false).run Tryd.prog w' = .ok (.func (.func F) #[] #[]) w' := fun w' hw' =>
    ⟨(hw'.cell (p := ⟨w.heap.size, 0, none⟩) (by simp only; omega)).trans d0, (hw'.cell (p := ⟨w.heap.size, 1, none⟩) (by simp only; omega)).trans d1, (hw'.cell (p := ⟨w.heap.size, 2, none⟩) (by simp only; omega)).trans d2, (hw'.cell (p := ⟨w.heap.size, 3, none⟩) (by simp only; omega)).trans d3, (hw'.cell (p := ⟨w.heap.size + 1, 0, none⟩) (by simp only; omega)).trans d4, (hw'.cell (p := ⟨B, P1, none⟩) (by simp only; omega)).trans d5, hlook w' (hb2.trans (hw'.mono hb2.size))⟩
  have hra' : ∀ w', Below W2.heap.size W2 w' → Calls Tryd.prog 77 #[workV b off n cap B eao en ecap M, .int .i64 P1] w' (AtPost (some x) w') := fun w' hw' => hra w' (hb2.trans (hw'.mono hb2.size))
  have hrb' : ∀ w', Below W2.heap.size W2 w' → Calls Tryd.prog 77 #[workV b off n cap B eao en ecap M, .int .i64 E1] w' (AtPost none w') := fun w' hw' => hrb w' (hb2.trans (hw'.mono hb2.size))
  have hB0 : Below W2.heap.size W2 W2 := Below.refl _ _
  have HB2 : Hid (Below w.heap.size w W2) := hb2
  have hp0 : place < n := by omega
  have hi0 : (0 : Int) ≤ (P1 : Int) := by omega
  have hi1 : (P1 : Int) < (n : Int) := by omega
  have hpp : (place : Int) + 1 = (P1 : Int) := by omega
  have hwr : IntKind.i64.wrap (P1 : Int) = (P1 : Int) := wrap_small (by omega) (by omega)
  have hwr2 : IntKind.i64.wrap ((place : Int) + 1) = (P1 : Int) := by rw [hpp]; exact hwr
  clear hW2 hb2 hra hrb hlook hP1 hp hsz d0 d1 d2 d3 d4 d5
  go_enter Tryd.func77, Tryd.ntmps77
  go_wp2_with fail
  rw [← HW2.out]
  clear c0 c1 cE
  go_region_held2 (fun w' => w'.cell? ⟨w.heap.size, 0, none⟩ = some (.slice (some ⟨b, off, none⟩) n cap) ∧ w'.cell? ⟨w.heap.size, 1, none⟩ = some (.slice (some ⟨B, 0, none⟩) n n) ∧ w'.cell? ⟨w.heap.size, 2, none⟩ = some (.slice eao en ecap) ∧ w'.cell? ⟨w.heap.size, 3, none⟩ = some (.map (some M)) ∧ w'.cell? ⟨w.heap.size + 1, 0, none⟩ = some (.int .i64 k) ∧ w'.cell? ⟨B, P1, none⟩ = some (.int .i64 E1) ∧ (Instr.lookup 115 (.map (some M)) (.int .i64 k) false).run Tryd.prog w' = .ok (.func (.func F) #[] #[]) w')
    (exact hS _ (by first | exact hB0 | exact hB0.drew | exact hB0.drew.trans hb1 | exact (hB0.drew.trans hb1).trans (hb3.mono (hB0.drew.trans hb1).size)))
    (first | (go_at_call_of 77 E1; refine Calls.pan y (hrb' _ (hB0.drew.trans hb1)) (fun w3 hb3 => ⟨rfl, HB2.out.trans (((hB0.drew.trans hb1).trans (hb3.mono (hB0.drew.trans hb1).size)).mono HB2.out.size), rfl⟩) (fun w3 hb3 hF => ?_)) | (go_at_call 77; refine (hra' _ hB0.drew).mono ?_; rintro e w1 ⟨hb1, rfl⟩) | (refine (hpair _).mono ?_; rintro e w4 ⟨rfl, rfl⟩))
  all_goals exact hF.out.elim
end Go.Proofs.YtdlpmomohbdpgaaDoor

/-
  The contract of package expr's (work).at, whole.
-/
namespace Go.Proofs.YtdlpmomohbdpgaaDoor
open Go.ChangeShapes Go.WideShapes Go.ChangeAt Go.RowKit Go.Deep
open Terms Tm

/-- THE CONTRACT OF (work).at. -/
theorem at_any (b off n cap B : Nat) (eao : Option Addr) (en ecap M vars : Nat) (t : Tm) (env : List Int) (hn : n = t.size) (h60 : n ≤ 60) (hg : t.Good vars) (hty : t.typed = true) (hev : EnvOk env) (hen : env.length = vars) (hen2 : en = vars) (d : Nat) :
    ∀ (place : Nat) (w : World), place < n → (t.sub place).size ≤ d → WorkAt w b off B eao M t env →
    Calls Tryd.prog 77 #[workV b off n cap B eao en ecap M, .int .i64 place] w (AtPost ((t.sub place).eval env) w) := by
  induction d with
  | zero => intro place w _ hd; have := (t.sub place).size_pos; omega
  | succ d ih =>
    intro place w hp hd hW
    have hpt : place < t.size := by omega
    obtain ⟨s, hs⟩ : ∃ s, s = t.sub place := ⟨_, rfl⟩
    have hsg : s.Good vars := by rw [hs]; exact hg.sub _
    have hst : s.typed = true := by
      rw [hs]
      refine (typed_iff _).2 fun q hq => ?_
      rw [← t.sub_sub place q hpt hq]
      exact (typed_iff _).1 hty _ (by have := t.sub_fits hpt; omega)
    obtain ⟨c0, c1⟩ := hW.ops place (by rw [ops_length]; exact hpt)
    rw [op_at t hpt, ← hs] at c0 c1
    simp only at c0 c1
    have HKI : ∀ i, i < s.kids.length → place + s.koff i < n ∧ t.sub (place + s.koff i) = s.kids.getD i s ∧ endAt (t.ops.map Prod.fst) (place + s.koff i) = place + s.koff (i + 1) := fun i hi => by
      subst hs
      obtain ⟨h1, h2, h3, _⟩ := kid_in hg.wf hpt hi
      exact ⟨by omega, h2, h3⟩
    rw [← hs] at hd ⊢
    cases s with
    | leaf k v =>
      rcases hsg with ⟨rfl, h1, h2⟩ | ⟨rfl, h1, h2⟩ | ⟨hk, rfl⟩
      · exact at_num b off n cap B eao en ecap M place v w hW.ob hp c0 c1
      · obtain ⟨j, rfl⟩ := Int.eq_ofNat_of_zero_le h1
        obtain ⟨eb, eoff, rfl, e2, e3⟩ := hW.env j (by omega)
        exact at_var b off n cap B eb eoff en ecap M place j _ w hW.ob hp (by omega) c0 c1 e2 e3
      · have he : (Tm.leaf k 0).eval env = some (if k = 11 then 1 else 0) := by
          simp only [Tm.eval]
          rw [if_neg (by omega), if_neg (by omega)]
        rw [he]
        exact at_lit b off n cap B eao en ecap M place k hk w hW.ob hp c0 c1
    | un k v a =>
      obtain ⟨rfl, rfl, ha⟩ := hsg
      obtain ⟨p1, p2, _⟩ := HKI 0 (by simp [kids])
      rw [koff_zero] at p1 p2
      have hsz : a.size ≤ d := by simp only [Tm.size] at hd; omega
      have hta : a.typed = true := by simp only [Tm.typed, Bool.and_eq_true] at hst; exact hst.2
      have hrec : ∀ w', Below w.heap.size w w' → Calls Tryd.prog 77 #[workV b off n cap B eao en ecap M, .int .i64 ((place : Int) + 1)] w' (AtPost (a.eval env) w') := fun w' hw' => by
        have h := ih (place + 1) w' p1 (by rw [p2]; exact hsz) (hW.later hw')
        rw [p2] at h
        exact h
      have h := at_not b off n cap B eao en ecap M place (a.eval env) w hW.ob hp h60 c0 c1 (fun x hx => (eval_le hev hen ha hta x hx).1) hrec
      have he : (Tm.un 10 0 a).eval env = (a.eval env).map (1 - ·) := by
        simp only [Tm.eval]
        cases a.eval env <;> rfl
      rw [he]
      exact h
    | bi k v a b' =>
      obtain ⟨h3, h9, rfl, ha, hb⟩ := hsg
      obtain ⟨p1, p2, p3⟩ := HKI 0 (by simp [kids])
      obtain ⟨q1, q2, _⟩ := HKI 1 (by simp [kids])
      rw [koff_zero] at p1 p2 p3
      rw [Nat.zero_add] at p3
      have hsa : a.size ≤ d := by simp only [Tm.size] at hd; omega
      have hsb : b'.size ≤ d := by simp only [Tm.size] at hd; omega
      simp only [Tm.typed, Bool.and_eq_true, beq_iff_eq] at hst
      obtain ⟨⟨ka, hta⟩, kb, htb⟩ := hst
      have hra : ∀ w', Below w.heap.size w w' → Calls Tryd.prog 77 #[workV b off n cap B eao en ecap M, .int .i64 (place + 1 : Nat)] w' (AtPost (a.eval env) w') := fun w' hw' => by
        have h := ih (place + 1) w' p1 (by rw [p2]; exact hsa) (hW.later hw')
        rw [p2] at h
        exact h
      have hrb : ∀ w', Below w.heap.size w w' → Calls Tryd.prog 77 #[workV b off n cap B eao en ecap M, .int .i64 (place + (Tm.bi k 0 a b').koff 1 : Nat)] w' (AtPost (b'.eval env) w') := fun w' hw' => by
        have h := ih (place + (Tm.bi k 0 a b').koff 1) w' q1 (by rw [q2]; exact hsb) (hW.later hw')
        rw [q2] at h
        exact h
      have cE := hW.ends.cell (i := place + 1) (by omega)
      rw [p3] at cE
      have hlook := fun w' (hw' : Below w.heap.size w w') => (hW.pairs.later hw').look h3 h9
      have hent := pair_enters k h3 h9
      have hae := eval_le hev hen ha hta
      have hbe := eval_le hev hen hb htb
      simp only [Tm.eval]
      cases hx : a.eval env with
      | none =>
        rw [hx] at hra
        exact at_bi_a b off n cap B eao en ecap M place _ (pairFn k) k 0 0 (bin k 0 0) w hW.ob hW.ends.lt (by omega) (place + 1) rfl h60 h3 h9 c0 c1 cE hlook hent (fun w' => pair_any k 0 0 w' h3 h9 (by omega) (by omega) (fun _ => ⟨.inl rfl, .inl rfl⟩)) hra
          (fun h => h.out.elim)
      | some x =>
        rw [hx] at hra
        have hxl := hae x hx
        cases hy : b'.eval env with
        | none =>
          rw [hy] at hrb
          exact at_bi_b b off n cap B eao en ecap M place _ (pairFn k) k x 0 (bin k x 0) w hW.ob hW.ends.lt (by omega) (place + 1) rfl h60 h3 h9 c0 c1 cE hlook hent (fun w' => pair_any k x 0 w' h3 h9 hxl.1 (by omega) (fun h8 => ⟨hxl.2 (by rw [ka]; simp [tkT]; omega), .inl rfl⟩)) hra hrb
        | some y =>
          rw [hy] at hrb
          have hyl := hbe y hy
          exact at_bi b off n cap B eao en ecap M place _ (pairFn k) k x y (bin k x y) w hW.ob hW.ends.lt (by omega) (place + 1) rfl h60 h3 h9 c0 c1 cE hlook hent (fun w' => pair_any k x y w' h3 h9 hxl.1 hyl.1 (fun h8 => ⟨hxl.2 (by rw [ka]; simp [tkT]; omega), hyl.2 (by rw [kb]; simp [tkT]; omega)⟩)) hra hrb
end Go.Proofs.YtdlpmomohbdpgaaDoor

/-
  The contract of expr.Eval.
-/
namespace Go.Proofs.YtdlpmomohbdpgaaDoor
open Go.ChangeShapes Go.WideShapes Go.ChangeAt Go.RowKit Go.Deep
open Terms Tm

set_option maxHeartbeats 400000 in
theorem ecatch_panicking (s : Nat) (x : Int) (v0 v1 : Value) (w : World) (hc0 : w.cell? ⟨s, 0, none⟩ = some v0) (hc1 : w.cell? ⟨s + 1, 0, none⟩ = some v1) (hz0 : w.frozen? ⟨s, 0, none⟩ = false) (hz1 : w.frozen? ⟨s + 1, 0, none⟩ = false) :
    CallsD Tryd.prog 73 #[.pointer (some ⟨s, 0, none⟩), .pointer (some ⟨s + 1, 0, none⟩)] (.panicking [{ v := .iface 31 (.int .i64 x), recovered := false }]) w fun e u' w' =>
      e = .returned (.tuple #[]) ∧ u' = .panicking [{ v := .iface 31 (.int .i64 x), recovered := true }] ∧ w' = ((w.setCell ⟨s, 0, none⟩ (.int .i64 0)).setCell ⟨s + 1, 0, none⟩ (.int .i64 x)).drew := by
  have hta : ∀ w : World, (Instr.typeAssert (.iface 31 (.int .i64 x)) 20 31 false).run Tryd.prog w = .ok (.int .i64 x) w := fun _ => by kernel_rfl
  refine callsD_of_wpS Tryd.func73 rfl fun c₀ cs hu => ?_
  rw [Tryd.ntmps73]
  show Code.wpS _ _ _ { tmps := #[.pointer (some ⟨s, 0, none⟩), .pointer (some ⟨s + 1, 0, none⟩), undef, undef, undef, undef, undef, undef], defers := [] } _ _
  apply wpS_seq
  apply wpS_region
  simp [wpOpsS, go_sem, recoverD, hu, Exit.thenS]
  refine wpS_of_wp ?_
  go_wp2
  go_region
  go_wp2
  simp [bodyPostS, results, Tryd.results73]

theorem ecatch_idle (s : Nat) (w : World) :
    CallsD Tryd.prog 73 #[.pointer (some ⟨s, 0, none⟩), .pointer (some ⟨s + 1, 0, none⟩)] .returning w fun e u' w' =>
      e = .returned (.tuple #[]) ∧ u' = .returning ∧ w' = w := by
  refine callsD_of_wpS Tryd.func73 rfl fun c₀ cs hu => ?_
  rw [Tryd.ntmps73]
  show Code.wpS _ _ _ { tmps := #[.pointer (some ⟨s, 0, none⟩), .pointer (some ⟨s + 1, 0, none⟩), undef, undef, undef, undef, undef, undef], defers := [] } _ _
  apply wpS_seq
  apply wpS_region
  simp [wpOpsS, go_sem, recoverD, hu, Exit.thenS]
  refine wpS_of_wp ?_
  go_wp2
  cases c₀
  simp_all [bodyPostS, results, Tryd.results73]

/-- what Eval answers: a number, and an error's. -/
def envBad (env : List Int) : Bool := env.any fun x => decide (¬ (-1000000 ≤ x ∧ x ≤ 1000000))
def evalN (l : List (Int × Int)) (t : Tm) (env : List Int) : Int :=
  if xcode env.length l t ≠ 0 then 0 else if envBad env = true then 0 else match t.eval env with
    | some x => x
    | none => 0
def evalC (l : List (Int × Int)) (t : Tm) (env : List Int) : Int :=
  if xcode env.length l t ≠ 0 then xcode env.length l t else if envBad env = true then 2 else match t.eval env with
    | some _ => 0
    | none => 8
theorem envBad_false {env : List Int} (h : envBad env = false) : EnvOk env := fun i hi => by
  unfold envBad at h
  rw [List.any_eq_false] at h
  have := h (env.getD i 0) (by simp [List.getD_eq_getElem?_getD, hi])
  generalize env.getD i 0 = x at *
  simp at this
  omega
theorem envBad_ok {env : List Int} (h : ∀ j, j < env.length → -1000000 ≤ env.getD j 0 ∧ env.getD j 0 ≤ 1000000) : envBad env = false := by
  unfold envBad
  rw [List.any_eq_false]
  intro x hx
  obtain ⟨i, hi, rfl⟩ := List.getElem_of_mem hx
  have := h i hi
  simp [List.getD_eq_getElem?_getD, hi] at this
  simp
  omega
theorem envBad_at {env : List Int} {i : Nat} (hi : i < env.length) (h : ¬ (-1000000 ≤ env.getD i 0 ∧ env.getD i 0 ≤ 1000000)) : envBad env = true := by
  unfold envBad
  rw [List.any_eq_true]
  refine ⟨env[i], List.getElem_mem hi, ?_⟩
  simp [List.getD_eq_getElem?_getD, hi] at h
  simp
  omega

/-- the two results' cells, as Eval has laid them. -/
def e0 (w : World) : World := (w.alloc (.cells #[.int .i64 0] 3)).alloc (.cells #[.int .i64 0] 31)
theorem e0_below (w : World) : Below w.heap.size w (e0 w) := ((Below.refl _ _).alloc (Nat.le_refl _) _).alloc (by simp) _
theorem e0_cells (w : World) {w' : World} (h : Below (e0 w).heap.size (e0 w) w') :
    w'.cell? ⟨w.heap.size, 0, none⟩ = some (.int .i64 0) ∧ w'.cell? ⟨w.heap.size + 1, 0, none⟩ = some (.int .i64 0) ∧ w'.frozen? ⟨w.heap.size, 0, none⟩ = false ∧ w'.frozen? ⟨w.heap.size + 1, 0, none⟩ = false ∧ w.heap.size + 1 < w'.heap.size ∧ Below w.heap.size w w' := by
  have hs := h.size
  have hz : (e0 w).heap.size = w.heap.size + 1 + 1 := by simp [e0]
  refine ⟨?_, ?_, ?_, ?_, by omega, (e0_below w).trans (h.mono (e0_below w).size)⟩
  · rw [h.cell (p := ⟨w.heap.size, 0, none⟩) (by simp only; omega)]; simp [e0, go_sem]
  · rw [h.cell (p := ⟨w.heap.size + 1, 0, none⟩) (by simp only; omega)]; simp [e0, go_sem]
  · rw [h.frozen (p := ⟨w.heap.size, 0, none⟩) (by simp only; omega)]; simp [e0, go_sem]
  · rw [h.frozen (p := ⟨w.heap.size + 1, 0, none⟩) (by simp only; omega)]; simp [e0, go_sem]

set_option maxHeartbeats 1600000 in
/-- what Check refuses is refused. -/
theorem eval_no (ao : Option Addr) (n cap : Nat) (eao : Option Addr) (en ecap : Nat) (x : Int) (w : World) (hx : x ≠ 0)
    (heo : Calls Tryd.prog 74 #[.slice ao n cap, .int .i64 en] (e0 w) fun e w'' => e = .returned (.tuple #[.slice none 0 0, .int .i64 x]) ∧ Below (e0 w).heap.size (e0 w) w'') :
    Calls Tryd.prog 58 #[.slice ao n cap, .slice eao en ecap] w fun e w' => e = .returned (.tuple #[.int .i64 0, .int .i64 x]) ∧ Below w.heap.size w w' := by
  have hmf := hmakeFunc
  go_enter_defers Tryd.func58, Tryd.ntmps58
  go_wp2_with (go_at_call 74; refine heo.mono ?_; rintro e w2 ⟨rfl, hb2⟩; obtain ⟨c0, c1, f0, f1, hsz, hbw⟩ := e0_cells w hb2)
  go_region
  all_goals go_wp2_with fail
  all_goals
    refine leaves_cons (f := 73) (args := #[.pointer (some ⟨w.heap.size, 0, none⟩), .pointer (some ⟨w.heap.size + 1, 0, none⟩)]) (by simp) (by simp [go_sem]) ?_
    refine (ecatch_idle w.heap.size _).mono ?_
    rintro e u' w'' ⟨rfl, rfl, rfl⟩
    simp [Leaves, settle, results, Tryd.results58, go_sem, c0, c1]
    first
      | exact (((hbw.setCell (p := ⟨w.heap.size + 1, 0, none⟩) (by simp) _).drew).setCell (p := ⟨w.heap.size, 0, none⟩) (Nat.le_refl _) _).setCell (p := ⟨w.heap.size + 1, 0, none⟩) (by simp) _
      | exact (((hbw.setCell (p := ⟨w.heap.size + 1, 0, none⟩) (by simp) _).drew).setCell (p := ⟨w.heap.size + 1, 0, none⟩) (by simp) _).setCell (p := ⟨w.heap.size, 0, none⟩) (Nat.le_refl _) _
end Go.Proofs.YtdlpmomohbdpgaaDoor

/-
  Plain mathematics of what comes behind a state. Nothing of the program is named here.
-/
namespace Go.Proofs.YtdlpmomohbdpgaaDoor
open Terms Tm

/-- what an expression makes, and with what it is refused. -/
noncomputable def exN (l : List (Int × Int)) (env : List Int) : Int := evalN l (treeOf l) env
noncomputable def exC (l : List (Int × Int)) (env : List Int) : Int := evalC l (treeOf l) env
/-- does a truth hold? -/
noncomputable def holdsB (l : List (Int × Int)) (env : List Int) : Bool := decide (exC l env = 0) && decide (exN l env = 1)
/-- the values, so many sets done. -/
noncomputable def setTo (env : List Int) (sets : List St) : Nat → List Int
  | 0 => env
  | k + 1 => (setTo env sets k).set (sets.getD k st0).var.toNat (exN (sets.getD k st0).val env)
/-- one value, so many sets done. -/
noncomputable def setAt (env : List Int) (sets : List St) (i : Nat) : Nat → Int
  | 0 => env.getD i 0
  | k + 1 => if (sets.getD k st0).var = i then exN (sets.getD k st0).val env else setAt env sets i k
theorem setTo_length (env : List Int) (sets : List St) (k : Nat) : (setTo env sets k).length = env.length := by
  induction k with
  | zero => rfl
  | succ k ih => simp [setTo, ih]
theorem getD_set (l : List Int) (i j : Nat) (x : Int) (hi : i < l.length) : (l.set i x).getD j 0 = if i = j then x else l.getD j 0 := by
  simp only [List.getD_eq_getElem?_getD, List.getElem?_set]
  by_cases h : i = j
  · subst h; simp [hi]
  · simp [h]
theorem setTo_at {env : List Int} {sets : List St} {k : Nat} (h : ∀ j, j < k → 0 ≤ (sets.getD j st0).var ∧ (sets.getD j st0).var < env.length) (i : Nat) : (setTo env sets k).getD i 0 = setAt env sets i k := by
  induction k with
  | zero => rfl
  | succ k ih =>
    obtain ⟨h0, h1⟩ := h k (by omega)
    simp only [setTo, setAt]
    rw [getD_set _ _ _ _ (by rw [setTo_length]; omega), ih fun j hj => h j (by omega)]
    by_cases hk : (sets.getD k st0).var = i
    · rw [if_pos hk, if_pos (by omega)]
    · rw [if_neg hk, if_neg (by omega)]
/-- the values behind a rule. -/
noncomputable def behindL (env : List Int) (r : Ru) : List Int := setTo env r.sets r.sets.length
def setsOk (env : List Int) (r : Ru) : Prop := ∀ j, j < r.sets.length → exC (r.sets.getD j st0).val env = 0
open Classical in
/-- the state behind a rule, if it can be done. -/
noncomputable def ruleDo (vars : List Vr) (env : List Int) (r : Ru) : Option Int :=
  if holdsB r.guard env = true ∧ setsOk env r ∧ ∀ i, i < vars.length → inB vars (behindL env r) i then some (codeTo vars (behindL env r) vars.length) else none
def optN : Option Int → Int
  | some x => x
  | none => 0
def optC : Option Int → Int
  | some _ => 0
  | none => 11
theorem ruleDo_guard {vars : List Vr} {env : List Int} {r : Ru} (h : holdsB r.guard env = false) : ruleDo vars env r = none := by
  unfold ruleDo
  rw [if_neg (fun h2 => by rw [h] at h2; cases h2.1)]
theorem ruleDo_set {vars : List Vr} {env : List Int} {r : Ru} {j : Nat} (hj : j < r.sets.length) (h : exC (r.sets.getD j st0).val env ≠ 0) : ruleDo vars env r = none := by
  unfold ruleDo
  rw [if_neg (fun h2 => h (h2.2.1 j hj))]
theorem ruleDo_code {vars : List Vr} {env : List Int} {r : Ru} (h1 : holdsB r.guard env = true) (h2 : setsOk env r) (hl : env.length = vars.length) {m : Mo} (hm : mcode m = 0) (hv : m.vars = vars) :
    (ccode m (behindL env r) = 0 → ruleDo vars env r = some (cval m (behindL env r))) ∧ (ccode m (behindL env r) ≠ 0 → ruleDo vars env r = none) := by
  have hb : (behindL env r).length = m.vars.length := by unfold behindL; rw [setTo_length, hl, hv]
  subst hv
  by_cases hin : ∀ i, i < m.vars.length → inB m.vars (behindL env r) i
  · have hc := ccode_yes hm ⟨hb, hin⟩
    refine ⟨fun _ => ?_, fun h => absurd hc h⟩
    unfold ruleDo
    rw [if_pos ⟨h1, h2, hin⟩]
    unfold cval
    rw [if_pos hc]
  · have hc := ccode_no hm (vals := behindL env r) (fun h => hin h.2)
    refine ⟨fun h => (by rw [hc] at h; cases h), fun _ => ?_⟩
    unfold ruleDo
    rw [if_neg (fun h => hin h.2.2)]
/-- what is known of a rule that passes. -/
theorem rule_sets {vars : Int} {r : Ru} (h : rcode vars r = 0) : r.sets.length ≤ 6 ∧ ∀ j, j < r.sets.length → 0 ≤ (r.sets.getD j st0).var ∧ (r.sets.getD j st0).var < vars := by
  unfold rcode at h
  split at h
  · simp at h
  · rename_i h6
    refine ⟨by omega, fun j hj => ?_⟩
    split at h
    · have h1 := firstOf_zero h j hj
      unfold sAt at h1
      split at h1
      · simp at h1
      · rename_i h2; omega
    · rename_i h2; exact absurd h h2
theorem mcode_rules {m : Mo} (h : mcode m = 0) : m.rules.length ≤ 12 ∧ ∀ j, j < m.rules.length → rcode m.vars.length (m.rules.getD j ru0) = 0 := by
  unfold mcode at h
  split at h
  · split at h
    · simp at h
    · rename_i h1; exact ⟨by omega, firstOf_zero h⟩
  · rename_i h0; exact absurd h h0
theorem mcode_bare {m : Mo} (h : mcode m = 0) : mcode ⟨m.vars, []⟩ = 0 := by
  have hv : vcode m.vars = 0 := by
    unfold mcode at h
    split at h
    · assumption
    · rename_i h0; exact absurd h h0
  unfold mcode
  rw [if_pos hv]
  rfl
theorem valsL_length (l : List Vr) (c : Int) : (valsL l c).length = l.length := by simp [valsL]
end Go.Proofs.YtdlpmomohbdpgaaDoor

/-
  The library's slices.Clone at lists of numbers: its contract at this program.
-/
namespace Go.Proofs.YtdlpmomohbdpgaaDoor
open Go.Shelf Go.RowKit Go.Lib
end Go.Proofs.YtdlpmomohbdpgaaDoor
