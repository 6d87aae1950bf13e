/-
  Joined out of Bools, LogicParts, LogicBack, LogicTru, LogicRound, LogicTru2, LogicTr3, LogicWait, LogicMeet, LogicComes, LogicFollow, PSign, PSpots, States, CodeRes, ValRes, Pairs, At, At2, At3, At4, Eval, Steps, ShelfClone, Eval2, MCount, MCode, StepRule, MValues, StepAfter, StepLetter, MFirst, PBegin, ShelfSort, SortOwn, Nexts, StepNext, PNext, PState, PSg, PStOf, PFol0, PFol, Reaches, PBeh0, PBeh, PBhd, RefAhead, RefCount, RefCode, RefFirst, RefWorked, RefEval, RefValues, RefAfter, RefLetter, RefTruths, RefTruL, RefBegin, RefFollow, RefNext, RefBeh, PbhdWalk, in their order: a claim bears at most so many files.
-/
import Derived.Test.YtdlpmomohbdpgaaGreatDoorMem
import Derived.Deep.OwnRows
import Derived.Test.YtdlpmomohbdpgaaGreatDoorLogicT
import Derived.Test.YtdlpmomohbdpgaaGreatDoorLogicRead
import Derived.RangeFuncNested
import Derived.RangeFuncBound
import Derived.RangeFuncCalls
import Derived.RangeFuncLeaves
import Derived.Shelf.Abstract
import Derived.Shelf.RegionOpen
import Derived.WalkKit
import Derived.OwnWalkIn
import Derived.TacticsInMore
import Derived.LoopNIn
import Derived.LoopIn
import Derived.Deep.RegionHeld3
import Derived.Test.YtdlpmomohbdpgaaGreatDoorOwns
import Derived.Test.YtdlpmomohbdpgaaGreatDoorModels
import Derived.Test.YtdlpmomohbdpgaaGreatDoorIntsOf
import Derived.Test.YtdlpmomohbdpgaaGreatDoorTrees
import Derived.Maps.Own
import Derived.Deep.DrawnRows
import Derived.Deep.RegionHeld2
import Derived.Test.YtdlpmomohbdpgaaGreatDoorExpr3
import Derived.Ground.Names2Prog
import Derived.Shelf.Slices.Clone
import Derived.Lib.OwnBridge
import Derived.Laws.OwnMore
import Derived.Test.YtdlpmomohbdpgaaGreatDoorMCheck2
import Derived.Test.YtdlpmomohbdpgaaGreatDoorMProps
import Derived.Test.YtdlpmomohbdpgaaGreatDoorPSurv
import Derived.Shelf.Sort.Plain
import Derived.Shelf.Slices.CompactI
import Derived.Shelf.Slices.SearchI
import Derived.Shelf.Slices.In.SortNone
import Derived.Sort.OwnSortedInts
import Derived.Lib.RowBridge
import Derived.Deep.AppendLies
import Derived.Test.YtdlpmomohbdpgaaGreatDoorPMap
import Derived.Laws.CopyRow
import Derived.Laws.IdiomCopy
import Derived.DeepKeys4
import Derived.Deep.CutRange
import Derived.Deep.CutBlock
import Derived.Deep.DeepCutAuto
import Derived.Deep.RegionLaw
import Derived.Test.YtdlpmomohbdpgaaGreatDoorRefLook
import Derived.Test.YtdlpmomohbdpgaaGreatDoorRefModel
import Derived.Test.YtdlpmomohbdpgaaGreatDoorRefExpr2
import Derived.Test.YtdlpmomohbdpgaaGreatDoorTasksOf
/-
  Slices of truths; the contract of the laws' own sameTruths.
-/
namespace Go.Proofs.YtdlpmomohbdpgaaGreatDoor
open Go.ChangeShapes Go.WideShapes Go.ChangeAt Go.RowKit Go.Deep
open Terms

theorem infoBool : (Tryz.prog.info? 4).map (fun i => (i.zero, i.size, i.bytes)) = some (some (.bool false), 1, 1) := by kernel_rfl
/-- a slice of truths. -/
def BoolsAt (w : World) (b off : Nat) (l : List Bool) : Prop := ∀ i, i < l.length → w.cell? ⟨b, off + i, none⟩ = some (.bool (l.getD i false))
def BoolsV (w : World) (v : Value) (l : List Bool) : Prop := ∃ ao cap, v = .slice ao l.length cap ∧ (l ≠ [] → ∃ b off, ao = some ⟨b, off, none⟩ ∧ b < w.heap.size ∧ BoolsAt w b off l)
theorem BoolsV.below {w w' : World} {v : Value} {l : List Bool} (h : BoolsV w v l) (hb : Below w.heap.size w w') : BoolsV w' v l := by
  obtain ⟨ao, cap, rfl, h⟩ := h
  refine ⟨ao, cap, rfl, fun hne => ?_⟩
  obtain ⟨b, off, rfl, hlt, hat⟩ := h hne
  exact ⟨b, off, rfl, Nat.lt_of_lt_of_le hlt hb.size, fun i hi => (hb.cell (p := ⟨b, _, none⟩) hlt).trans (hat i hi)⟩
def bvals (l : List Bool) : List Value := l.map fun x => .bool x
theorem boolsV_of_owns {w : World} {base : Nat} {v : Value} {l : List Bool} (h : w.ownsRow base 4 1 v l.length (bvals l)) : BoolsV w v l := by
  rcases h.2 with ⟨rfl, h0⟩ | ⟨g, cap, cur, rfl, hb, hg, hnc, hcm, hcs, htake⟩
  · have : l = [] := by simpa using h0
    subst this
    exact ⟨none, 0, rfl, fun h => absurd rfl h⟩
  · refine ⟨_, cap, rfl, fun _ => ⟨g, 0, rfl, (Array.getElem?_eq_some_iff.1 hg).1, fun i hi => ?_⟩⟩
    rw [Nat.zero_add, h.cellAt i (by omega)]
    simp [bvals, List.getD_eq_getElem?_getD, hi]
theorem boolsV_of_row {w : World} {B : Nat} {l : List Bool} (h : w.rowIs B 4 l.length (fun j => .bool (l.getD j false))) : BoolsV w (.slice (some ⟨B, 0, none⟩) l.length l.length) l :=
  ⟨some ⟨B, 0, none⟩, l.length, rfl, fun _ => ⟨B, 0, rfl, h.lt, fun i hi => by rw [Nat.zero_add, h.cell hi]⟩⟩

end Go.Proofs.YtdlpmomohbdpgaaGreatDoor

/-
  The contracts of logic's parts (and its two functions) and makes.
-/
namespace Go.Proofs.YtdlpmomohbdpgaaGreatDoor
open Go.ChangeShapes Go.WideShapes Go.ChangeAt Go.RowKit Go.Deep
open Terms

/-- what the functions that tell of the parts stand on: the box of holds, the row behind it, the boxes of the formula and of the place. -/
structure PartsAt (w : World) (bh bf bp bH n B pl : Nat) (h : Nat → Bool) (l : List (Int × Int)) : Prop where
  holds : w.cell? ⟨bh, 0, none⟩ = some (.slice (some ⟨bH, 0, none⟩) n n)
  row : ∀ j, j < n → w.cell? ⟨bH, j, none⟩ = some (.bool (h j))
  ends : w.cell? ⟨bf, 1, none⟩ = some (.slice (some ⟨B, 0, none⟩) n n)
  erow : ∀ j, j < n → w.cell? ⟨B, j, none⟩ = some (.int .i64 (endAt (l.map Prod.fst) j))
  place : w.cell? ⟨bp, 0, none⟩ = some (.int .i64 pl)

theorem first_any (bh bp bH n pl : Nat) (x : Bool) (w : World) (hn : n ≤ 60) (hp : pl + 1 < n) (c0 : w.cell? ⟨bh, 0, none⟩ = some (.slice (some ⟨bH, 0, none⟩) n n)) (c1 : w.cell? ⟨bp, 0, none⟩ = some (.int .i64 pl)) (c2 : w.cell? ⟨bH, pl + 1, none⟩ = some (.bool x)) :
    Calls Tryz.prog 116 #[.pointer (some ⟨bh, 0, none⟩), .pointer (some ⟨bp, 0, none⟩)] w fun e w' => e = .returned (.bool x) ∧ w' = w := by
  go_enter Tryz.func116, Tryz.ntmps116
  go_wp2_with fail
  go_ret
  exact ⟨rfl, rfl⟩

theorem second_any (bh bf bp bH n B pl s : Nat) (x : Bool) (w : World) (hn : n ≤ 60) (hp : pl + 1 < n) (hs : s < n) (c0 : w.cell? ⟨bh, 0, none⟩ = some (.slice (some ⟨bH, 0, none⟩) n n)) (c1 : w.cell? ⟨bp, 0, none⟩ = some (.int .i64 pl)) (c2 : w.cell? ⟨bf, 1, none⟩ = some (.slice (some ⟨B, 0, none⟩) n n)) (c3 : w.cell? ⟨B, pl + 1, none⟩ = some (.int .i64 s)) (c4 : w.cell? ⟨bH, s, none⟩ = some (.bool x)) :
    Calls Tryz.prog 117 #[.pointer (some ⟨bh, 0, none⟩), .pointer (some ⟨bf, 0, none⟩), .pointer (some ⟨bp, 0, none⟩)] w fun e w' => e = .returned (.bool x) ∧ ∃ q, w' = w.drewN q := by
  go_enter Tryz.func117, Tryz.ntmps117
  go_wp2_with fail
  go_quiet (fail)
  go_wp2_with fail
  go_ret
  exact ⟨rfl, _, rfl⟩

/-- the two functions that parts hands back. -/
def fst2 (bh bp : Nat) : Value := .func (.func 116) #[] #[.pointer (some ⟨bh, 0, none⟩), .pointer (some ⟨bp, 0, none⟩)]
def snd2 (bh bf bp : Nat) : Value := .func (.func 117) #[] #[.pointer (some ⟨bh, 0, none⟩), .pointer (some ⟨bf, 0, none⟩), .pointer (some ⟨bp, 0, none⟩)]

theorem parts_any (b off cap n B bH pl : Nat) (av : Value) (h : Nat → Bool) (l : List (Int × Int)) (aao : Option Addr) (an ac : Nat) (hav : av = .slice aao an ac) (w : World) (hr : ∀ j, j < n → w.cell? ⟨bH, j, none⟩ = some (.bool (h j))) (hbH : bH < w.heap.size) (he : ∀ j, j < n → w.cell? ⟨B, j, none⟩ = some (.int .i64 (endAt (l.map Prod.fst) j))) (hbB : B < w.heap.size) :
    Calls Tryz.prog 96 #[.agg #[.slice (some ⟨b, off, none⟩) n cap, .slice (some ⟨B, 0, none⟩) n n, av], .int .i64 pl, .slice (some ⟨bH, 0, none⟩) n n] w fun e w' =>
      e = .returned (.tuple #[.func (.func 116) #[] #[.pointer (some ⟨w.heap.size + 1 + 1, 0, none⟩), .pointer (some ⟨w.heap.size + 1, 0, none⟩)], .func (.func 117) #[] #[.pointer (some ⟨w.heap.size + 1 + 1, 0, none⟩), .pointer (some ⟨w.heap.size, 0, none⟩), .pointer (some ⟨w.heap.size + 1, 0, none⟩)]]) ∧ Below w.heap.size w w' ∧ Hid (PartsAt w' (w.heap.size + 1 + 1) w.heap.size (w.heap.size + 1) bH n B pl h l) := by
  subst hav
  have HR := (show Hid _ from hr)
  have HE := (show Hid _ from he)
  clear hr he
  go_enter Tryz.func96, Tryz.ntmps96
  go_wp2_with fail
  go_ret2
  have hb : Below w.heap.size w (((w.alloc (.cells #[.slice (some ⟨b, off, none⟩) n cap, .slice (some ⟨B, 0, none⟩) n n, .slice aao an ac] 114)).alloc (.cells #[.int .i64 pl] 3)).alloc (.cells #[.slice (some ⟨bH, 0, none⟩) n n] 61)) := (((Below.refl _ _).alloc (Nat.le_refl _) _).alloc (by simp) _).alloc (by simp; omega) _
  refine ⟨rfl, hb, ?_⟩
  show PartsAt _ _ _ _ _ _ _ _ _ _
  constructor
  · simp [go_sem]
  · exact fun j hj => (hb.cell (p := ⟨bH, j, none⟩) hbH).trans (HR.out j hj)
  · simp [go_sem]
  · exact fun j hj => (hb.cell (p := ⟨B, j, none⟩) hbB).trans (HE.out j hj)
  · simp [go_sem]
theorem PartsAt.below {w w' : World} {bh bf bp bH n B pl : Nat} {h : Nat → Bool} {l : List (Int × Int)} (p : PartsAt w bh bf bp bH n B pl h l) (hb : Below w.heap.size w w') (h1 : bh < w.heap.size) (h2 : bf < w.heap.size) (h3 : bp < w.heap.size) (h4 : bH < w.heap.size) (h5 : B < w.heap.size) : PartsAt w' bh bf bp bH n B pl h l :=
  ⟨(hb.cell (p := ⟨bh, 0, none⟩) h1).trans p.holds, fun j hj => (hb.cell (p := ⟨bH, j, none⟩) h4).trans (p.row j hj), (hb.cell (p := ⟨bf, 1, none⟩) h2).trans p.ends, fun j hj => (hb.cell (p := ⟨B, j, none⟩) h5).trans (p.erow j hj), (hb.cell (p := ⟨bp, 0, none⟩) h3).trans p.place⟩
theorem PartsAt.first {w : World} {bh bf bp bH n B pl : Nat} {h : Nat → Bool} {l : List (Int × Int)} (p : PartsAt w bh bf bp bH n B pl h l) (hn : n ≤ 60) (hp : pl + 1 < n) (q : Nat) :
    Calls Tryz.prog 116 #[.pointer (some ⟨bh, 0, none⟩), .pointer (some ⟨bp, 0, none⟩)] (w.drewN q) fun e w' => e = .returned (.bool (h (pl + 1))) ∧ w' = w.drewN q :=
  first_any bh bp bH n pl _ _ hn hp (by simpa using p.holds) (by simpa using p.place) (by simpa using p.row _ hp)
theorem PartsAt.second {w : World} {bh bf bp bH n B pl : Nat} {h : Nat → Bool} {l : List (Int × Int)} (p : PartsAt w bh bf bp bH n B pl h l) (hn : n ≤ 60) (hp : pl + 1 < n) (hs : sec l pl < n) (q : Nat) :
    Calls Tryz.prog 117 #[.pointer (some ⟨bh, 0, none⟩), .pointer (some ⟨bf, 0, none⟩), .pointer (some ⟨bp, 0, none⟩)] (w.drewN q) fun e w' => e = .returned (.bool (h (sec l pl))) ∧ ∃ r, w' = w.drewN r :=
  (second_any bh bf bp bH n B pl (sec l pl) _ _ hn hp hs (by simpa using p.holds) (by simpa using p.place) (by simpa using p.ends) (by have := p.erow _ hp; unfold sec; simpa using this) (by simpa using p.row _ hs)).mono fun e w' ⟨h1, r, h2⟩ => ⟨h1, q + r, by rw [h2, World.drewN_drewN]⟩

set_option maxHeartbeats 1600000 in
set_option maxRecDepth 20000 in
/-- THE CONTRACT OF makes. -/
theorem makes_any (k v : Int) (lo : Option Addr) (lc bh bf bp bH n B pl : Nat) (letter : List Bool) (h : Nat → Bool) (l : List (Int × Int)) (w : World) (hn : n ≤ 60)
    (hL : BoolsV w (.slice lo letter.length lc) letter) (hP : PartsAt w bh bf bp bH n B pl h l) (b1 : bh < w.heap.size) (b2 : bf < w.heap.size) (b3 : bp < w.heap.size) (b4 : bH < w.heap.size) (b5 : B < w.heap.size)
    (h13 : k = 13 → 0 ≤ v ∧ v < letter.length) (h1 : k = 10 ∨ k = 8 ∨ k = 9 → pl + 1 < n) (h2 : k = 8 ∨ k = 9 → sec l pl < n) :
    Calls Tryz.prog 97 #[.agg #[.int .i64 k, .int .i64 v], .slice lo letter.length lc, .func (.func 116) #[] #[.pointer (some ⟨bh, 0, none⟩), .pointer (some ⟨bp, 0, none⟩)], .func (.func 117) #[] #[.pointer (some ⟨bh, 0, none⟩), .pointer (some ⟨bf, 0, none⟩), .pointer (some ⟨bp, 0, none⟩)]] w fun e w' =>
      e = .returned (.bool (mkB (k, v) letter (h (pl + 1)) (h (sec l pl)))) ∧ Below w.heap.size w w' := by
  have hA : ∀ o, Below w.heap.size w (w.alloc o) := fun o => (Below.refl _ _).alloc (Nat.le_refl _) o
  have hP' := fun o => hP.below (hA o) b1 b2 b3 b4 b5
  by_cases e13 : k = 13
  · subst e13
    obtain ⟨hv0, hv1⟩ := h13 rfl
    obtain ⟨vn, rfl⟩ : ∃ vn : Nat, v = vn := ⟨v.toNat, by omega⟩
    obtain ⟨lo', lc', hls, hll⟩ := hL
    injection hls with e1 e2 e3
    subst e1
    obtain ⟨b, off, rfl, hbl, hat⟩ := hll (by intro h; rw [h] at hv1; simp at hv1; omega)
    have hc := fun o => ((hA o).cell (p := ⟨b, off + vn, none⟩) hbl).trans (hat vn (by omega))
    have hm : mkB (13, (vn : Int)) letter (h (pl + 1)) (h (sec l pl)) = letter.getD vn false := by simp [mkB]
    rw [hm]
    generalize letter.getD vn false = x at hc ⊢
    generalize letter.length = ln at *
    have hvl : vn < ln := by omega
    clear hm hll hat hv0 hv1 h1 h2 h13 hP hP'
    go_enter Tryz.func97, Tryz.ntmps97
    go_wp2_with fail
    go_ret
    exact ⟨rfl, hA _⟩
  · by_cases e11 : k = 11
    · subst e11
      have hm : mkB (11, v) letter (h (pl + 1)) (h (sec l pl)) = true := by simp [mkB]
      rw [hm]
      clear hm hL h1 h2 h13 hP hP' e13
      go_enter Tryz.func97, Tryz.ntmps97
      go_wp2_with fail
      go_ret
      exact ⟨rfl, hA _⟩
    · by_cases e10 : k = 10
      · subst e10
        have hp := h1 (.inl rfl)
        have hf := fun o => (hP' o).first hn hp 0
        have hm : mkB (10, v) letter (h (pl + 1)) (h (sec l pl)) = !h (pl + 1) := by simp [mkB]
        rw [hm]
        generalize h (pl + 1) = x at hf ⊢
        clear hm hL h1 h2 h13 hP hP' e13 e11
        go_enter Tryz.func97, Tryz.ntmps97
        go_wp2_with (go_at_call 116; refine (hf _).mono ?_; rintro e w1 ⟨rfl, rfl⟩)
        go_ret
        exact ⟨rfl, below_drewN (hA _) 0⟩
      · by_cases e8 : k = 8
        · subst e8
          have hp := h1 (.inr (.inl rfl))
          have hs := h2 (.inl rfl)
          have hf := fun o q => (hP' o).first hn hp q
          have hf2 := fun o q => (hP' o).second hn hp hs q
          have hm : mkB (8, v) letter (h (pl + 1)) (h (sec l pl)) = (h (pl + 1) && h (sec l pl)) := by simp [mkB]
          rw [hm]
          generalize h (pl + 1) = x at hf ⊢
          generalize h (sec l pl) = y at hf2 ⊢
          clear hm hL h1 h2 h13 hP hP' e13 e11 e10
          cases x
          · go_enter Tryz.func97, Tryz.ntmps97
            go_wp2_with (go_at_call 116; refine (hf _ 0).mono ?_; rintro e w1 ⟨rfl, rfl⟩)
            go_ret
            exact ⟨rfl, below_drewN (hA _) 0⟩
          · go_enter Tryz.func97, Tryz.ntmps97
            go_wp2_with (first | (go_at_call 116; refine (hf _ 0).mono ?_; rintro e w1 ⟨rfl, rfl⟩) | (go_at_call 117; refine (hf2 _ 0).mono ?_; rintro e w1 ⟨rfl, r, rfl⟩))
            go_ret
            exact ⟨by simp, below_drewN (hA _) _⟩
        · by_cases e9 : k = 9
          · subst e9
            have hp := h1 (.inr (.inr rfl))
            have hs := h2 (.inr rfl)
            have hf := fun o q => (hP' o).first hn hp q
            have hf2 := fun o q => (hP' o).second hn hp hs q
            have hm : mkB (9, v) letter (h (pl + 1)) (h (sec l pl)) = (h (pl + 1) || h (sec l pl)) := by simp [mkB]
            rw [hm]
            generalize h (pl + 1) = x at hf ⊢
            generalize h (sec l pl) = y at hf2 ⊢
            clear hm hL h1 h2 h13 hP hP' e13 e11 e10 e8
            cases x
            · go_enter Tryz.func97, Tryz.ntmps97
              go_wp2_with (first | (go_at_call 116; refine (hf _ 0).mono ?_; rintro e w1 ⟨rfl, rfl⟩) | (go_at_call 117; refine (hf2 _ 0).mono ?_; rintro e w1 ⟨rfl, r, rfl⟩))
              go_ret
              exact ⟨by simp, below_drewN (hA _) _⟩
            · go_enter Tryz.func97, Tryz.ntmps97
              go_wp2_with (go_at_call 116; refine (hf _ 0).mono ?_; rintro e w1 ⟨rfl, rfl⟩)
              go_ret
              exact ⟨rfl, below_drewN (hA _) 0⟩
          · have hm : mkB (k, v) letter (h (pl + 1)) (h (sec l pl)) = false := by simp [mkB, e13, e11, e10, e8, e9]
            rw [hm]
            clear hm hL h1 h2 h13 hP hP'
            go_enter Tryz.func97, Tryz.ntmps97
            go_wp2_with fail
            go_ret
            exact ⟨rfl, hA _⟩
end Go.Proofs.YtdlpmomohbdpgaaGreatDoor

/-
  The contract of slices.Backward over a list of ops, for every body that keeps what it reads.
-/
namespace Go.Proofs.YtdlpmomohbdpgaaGreatDoor
open Go.ChangeShapes Go.WideShapes Go.ChangeAt Go.RowKit Go.Deep Go.Shelf
open Terms

attribute [local go_sem] Oper.semAt_some

/-- the places from the last one on. -/
def backAt {n : Nat} (h : 0 < n) (j : Nat) : Fin n := ⟨n - 1 - j, by omega⟩
def backTo {n : Nat} (h : 0 < n) (k : Nat) : List (Fin n) := (List.range k).map (backAt h)
theorem backTo_succ {n : Nat} (h : 0 < n) (k : Nat) : backTo h (k + 1) = backTo h k ++ [backAt h k] := by simp [backTo, List.range_succ]
theorem backTo_length {n : Nat} (h : 0 < n) (k : Nat) : (backTo h k).length = k := by simp [backTo]
def opV (l : List (Int × Int)) (j : Nat) : Value := .agg #[.int .i64 (l.getD j (0, 0)).1, .int .i64 (l.getD j (0, 0)).2]
def backEnc (l : List (Int × Int)) (n : Nat) (x : Fin n) : Array Value := #[.int .i64 (x.1 : Int), .agg #[.int .i64 (l.getD x.1 (0, 0)).1, .int .i64 (l.getD x.1 (0, 0)).2]]
/-- what a round keeps: what lies below, and the iterator's own box. -/
def BackK (n₀ Bs : Nat) (A B : World) : Prop := Below n₀ A B ∧ B.heap[Bs]? = A.heap[Bs]?

set_option maxRecDepth 100000 in
set_option maxHeartbeats 2000000 in
theorem back1_in (F : Fence) (m : Nat) (h7 : F.fn 115) (hro : F.round = none) (hm : 1 ≤ m) (L Bs n₀ b off n cap : Nat) (l : List (Int × Int)) (h0n : 0 < n) (h60 : n ≤ 60) (hnl : n = l.length) (hb : b < n₀) (J Jx : List (Fin n) → World → Prop)
    (hY : ∀ pre x W, J pre W → pre.length < n → YieldAt F (m - 1) Tryz.prog L (backEnc l n x) W fun e W' =>
      (e = .returned (.bool true) ∧ J (pre ++ [x]) W' ∧ BackK n₀ Bs W W') ∨ (e = .returned (.bool false) ∧ Jx (pre ++ [x]) W'))
    (W : World) (hBs : W.cell? ⟨Bs, 0, none⟩ = some (.slice (some ⟨b, off, none⟩) n cap)) (hc : OpsAt W b off l) (h0 : J [] W) :
    CallsIn F m Tryz.prog 115 #[.func (.yield L) #[] #[], .pointer (some ⟨Bs, 0, none⟩)] W fun e W' => (∃ v, e = .returned v) ∧
      ((∃ ys, ys = backTo h0n n ∧ J ys W') ∨ (∃ pre, (∃ k, k ≤ n ∧ pre = backTo h0n k) ∧ Jx pre W')) := by
  refine callsIn_of_wp Tryz.func115 rfl h7 ?_ hro
  simp only [Tryz.ntmps115, List.size_toArray, List.length_cons, List.length_nil, Nat.reduceAdd, Nat.reduceSub, Array.replicate_succ, Array.replicate_zero, List.push_toArray, List.append_toArray, List.nil_append, List.cons_append]
  have HC : Hid (OpsAt W b off l) := hc
  have HN : Hid (n = l.length) := hnl
  clear hc hnl
  gi_wp2
  gi_loopw [3] (fun i wr => ∃ k : Nat, k ≤ n ∧ i = .int .i64 ((n : Int) - 1 - k) ∧ J (backTo h0n k) wr ∧ BackK n₀ Bs W wr)
    (fun i _ => (intOf i + 1).toNat)
  case atStart => exact ⟨0, Nat.zero_le _, by first | rfl | simp, h0, Below.refl _ _, rfl⟩
  case round =>
    obtain ⟨k, hk, rfl, hJs, hnx, hbx⟩ := hrel
    have hcb : wr.cell? ⟨Bs, 0, none⟩ = some (.slice (some ⟨b, off, none⟩) n cap) := (World.cell?_of_block (w := W) hbx).trans hBs
    by_cases hlt : k < n
    · obtain ⟨p, hp⟩ : ∃ p : Nat, p = n - 1 - k := ⟨_, rfl⟩
      have hpi : (n : Int) - 1 - k = (p : Int) := by omega
      have hpn : p < n := by omega
      obtain ⟨c0, c1⟩ := (HC.out.below hnx hb) p (by rw [← HN.out]; exact hpn)
      obtain ⟨fn, tmps, assign, body, hy, hR⟩ := hY _ (backAt h0n k) wr hJs (by rw [backTo_length]; exact hlt)
      have hba : (backAt h0n k).1 = p := hp.symm
      simp only [backEnc, hba] at hy
      rw [hpi]
      have HPI : Hid ((n : Int) - 1 - k = (p : Int)) := hpi
      clear hp hpi hba
      generalize l.getD p (0, 0) = xy at c0 c1 hy
      obtain ⟨x, y⟩ := xy
      simp only at c0 c1 hy
      gi_wp2
      refine hR.mono ?_
      rintro e W3 (⟨rfl, hJ3, hk3, hk4⟩ | ⟨rfl, hJx3⟩)
      · gi_wp2
        go_roundw
        case rel => exact ⟨k + 1, by omega, by have := HPI.out; first | (congr 1; omega) | (simp; omega), by rw [backTo_succ]; exact hJ3, hnx.trans hk3, hk4.trans hbx⟩
        case measure => have := HPI.out; first | (simp [intOf]; omega) | simp [intOf]
      · gi_wp2
        refine bodyPost_ret (results_none rfl _ _ _) rfl ?_
        exact ⟨⟨_, rfl⟩, .inr ⟨_, ⟨k + 1, by omega, (backTo_succ _ _).symm⟩, hJx3⟩⟩
    · obtain rfl : k = n := by omega
      have hpi : (k : Int) - 1 - k = -1 := by omega
      rw [hpi]
      gi_wp2
      go_end0
      exact ⟨⟨_, rfl⟩, .inl ⟨_, rfl, hJs⟩⟩

set_option maxHeartbeats 1000000 in
theorem back_in (F : Fence) (m : Nat) (h5 : F.fn 95) (hro : F.round = none) (a : Option Addr) (len cap : Nat) (w : World) :
    CallsIn F m Tryz.prog 95 #[.slice a len cap] w fun e w' => e = .returned (.func (.func 115) #[] #[.pointer (some ⟨w.heap.size, 0, none⟩)]) ∧ w' = w.alloc (.cells #[.slice a len cap] 27) := by
  refine callsIn_of_wp Tryz.func95 rfl h5 ?_ hro
  simp only [Tryz.ntmps95, List.size_toArray, List.length_cons, List.length_nil, Nat.reduceAdd, Nat.reduceSub, Array.replicate_succ, Array.replicate_zero, List.push_toArray, List.append_toArray, List.nil_append, List.cons_append]
  gi_wp2
  go_ret
  exact ⟨rfl, rfl⟩

theorem back_stops (F : Fence) (m : Nat) (h7 : F.fn 115) (hro : F.round = none) (hm : 1 ≤ m) (Bs n₀ b off n cap : Nat) (l : List (Int × Int)) (h0n : 0 < n) (h60 : n ≤ 60) (hnl : n = l.length) (hb : b < n₀) (w : World) (hBs : Bs < w.heap.size) (hn₀ : n₀ ≤ w.heap.size)
    (hc : w.cell? ⟨Bs, 0, none⟩ = some (.slice (some ⟨b, off, none⟩) n cap)) (hI : OpsAt w b off l) :
    SeqStopsK F m Tryz.prog 115 #[.pointer (some ⟨Bs, 0, none⟩)] (backEnc l n) (BackK n₀ Bs) (fun ys => ys = backTo h0n n)
      (fun pre => ∃ k, k ≤ n ∧ pre = backTo h0n k) n w := fun L J Jx W hW _ _ hY h0 =>
  back1_in F m h7 hro hm L Bs n₀ b off n cap l h0n h60 hnl hb J Jx hY W ((hW.cell (p := ⟨Bs, 0, none⟩) hBs).trans hc) (hI.below (hW.mono hn₀) hb) h0
theorem backK_t {n₀ Bs : Nat} {A B C : World} (h : BackK n₀ Bs A B) (k : BackK n₀ Bs B C) : BackK n₀ Bs A C := ⟨h.1.trans k.1, k.2.trans h.2⟩
theorem backK_b {n₀ Bs : Nat} {w : World} (hn : n₀ ≤ w.heap.size) (hB : Bs < w.heap.size) (W : World) (l : Nat) (o o' : Obj) (hl : w.heap.size ≤ l) (h : W.heap[l]? = some o) (h1 : o.isCells = false) (h2 : o.isWalk = false) : BackK n₀ Bs W (W.putObj l o') :=
  ⟨belowK_b hn W l o o' hl h h1 h2, (belowK_b (n₀ := Bs + 1) (w := w) hB W l o o' hl h h1 h2).block Bs (Nat.lt_succ_self _)⟩
end Go.Proofs.YtdlpmomohbdpgaaGreatDoor

/-
  The contract of logic's method truths.
-/
namespace Go.Proofs.YtdlpmomohbdpgaaGreatDoor
open Go.ChangeShapes Go.WideShapes Go.ChangeAt Go.RowKit Go.Deep Go.Shelf
open Terms

attribute [local go_sem] Oper.semAt_some

/-- what the row holds ahead of the rounds, when k claims are laid. -/
def iniB (l : List (Int × Int)) (claim : Int) (k : Nat) (j : Nat) : Bool := if lookB (l.getD j (0, 0)).1 = true ∧ (aheadTo l j).length < k then bitB claim (aheadTo l j).length else false
/-- a round. -/
def stepB (l : List (Int × Int)) (letter : List Bool) (h : Nat → Bool) (p : Nat) : Nat → Bool := if lookB (l.getD p (0, 0)).1 = true then h else fun j => if j = p then mkB (l.getD p (0, 0)) letter (h (p + 1)) (h (sec l p)) else h j
def foldB (l : List (Int × Int)) (letter : List Bool) (h : Nat → Bool) {n : Nat} (xs : List (Fin n)) : Nat → Bool := xs.foldl (fun h x => stepB l letter h x.1) h
theorem foldB_snoc (l : List (Int × Int)) (letter : List Bool) (h : Nat → Bool) {n : Nat} (xs : List (Fin n)) (x : Fin n) : foldB l letter h (xs ++ [x]) = stepB l letter (foldB l letter h xs) x.1 := by simp [foldB]
theorem foldB_done {l : List (Int × Int)} {letter : List Bool} {claim : Int} (hz : endsCode (l.map Prod.fst) = 0) {n : Nat} (h0n : 0 < n) (hn : n = l.length) :
    ∀ k, k ≤ n → ∀ j, j < n → foldB l letter (iniB l claim (aheadL l).length) (backTo h0n k) j = if n - k ≤ j then tru l letter claim j else iniB l claim (aheadL l).length j := by
  intro k
  induction k with
  | zero =>
    intro _ j hj
    rw [if_neg (by omega)]
    simp [backTo, foldB]
  | succ k ih =>
    intro hk j hj
    have ih' := ih (by omega)
    rw [backTo_succ, foldB_snoc]
    have hp : (backAt h0n k).1 = n - 1 - k := rfl
    rw [hp]
    obtain ⟨p, hpe⟩ : ∃ p, p = n - 1 - k := ⟨_, rfl⟩
    rw [← hpe]
    have hpl : p < l.length := by omega
    unfold stepB
    cases hb : lookB (l.getD p (0, 0)).1 with
    | true =>
      rw [if_pos rfl, ih' j hj]
      by_cases hjp : j = p
      · subst hjp
        rw [if_neg (by omega), if_pos (by omega), tru_look hpl hb]
        unfold iniB
        exact if_pos ⟨hb, aheadTo_lt l hpl hb⟩
      · by_cases hle : n - k ≤ j
        · rw [if_pos hle, if_pos (by omega)]
        · rw [if_neg hle, if_neg (by omega)]
    | false =>
      rw [if_neg (by decide)]
      by_cases hjp : j = p
      · subst hjp
        rw [if_pos rfl, if_pos (by omega)]
        obtain ⟨h1, h2⟩ := part_in hz hpl
        rw [tru_mk hpl hb (fun h => (h2 h).1)]
        have hpn := pn_le (l.getD j (0, 0)).1
        by_cases p2 : pn (l.getD j (0, 0)).1 = 2
        · obtain ⟨s1, s2⟩ := h2 p2
          have s0 := h1 (by omega)
          rw [ih' (j + 1) (by omega), ih' (sec l j) (by omega), if_pos (by omega), if_pos (by omega)]
        · have hk89 : (l.getD j (0, 0)).1 ≠ 8 ∧ (l.getD j (0, 0)).1 ≠ 9 := by
            constructor <;> intro e <;> rw [e] at p2 <;> exact absurd rfl p2
          by_cases p1 : pn (l.getD j (0, 0)).1 = 1
          · have s0 := h1 (by omega)
            rw [ih' (j + 1) (by omega), if_pos (by omega)]
            simp only [mkB, hk89.1, hk89.2, if_false]
          · have hk10 : (l.getD j (0, 0)).1 ≠ 10 := by intro e; rw [e] at p1; exact absurd rfl p1
            simp only [mkB, hk89.1, hk89.2, hk10, if_false]
      · rw [if_neg hjp, ih' j hj]
        by_cases hle : n - k ≤ j
        · rw [if_pos hle, if_pos (by omega)]
        · rw [if_neg hle, if_neg (by omega)]

/-- what lies beside the rounds. -/
structure TrSt (w : World) (fo ev av lv : Value) (n : Nat) (h : Nat → Bool) (W0s : Nat) (W : World) : Prop where
  three : Three W w.heap.size fo ev av
  letter : W.cell? ⟨w.heap.size + 1, 0, none⟩ = some lv
  holds : W.cell? ⟨w.heap.size + 1 + 1 + 1, 0, none⟩ = some (.slice (some ⟨w.heap.size + 1 + 1, 0, none⟩) n n)
  row : W.rowIs (w.heap.size + 1 + 1) 4 n (fun j => .bool (h j))
  below : Below w.heap.size w W
  size : W0s ≤ W.heap.size
theorem TrSt.later {w : World} {fo ev av lv : Value} {n : Nat} {h : Nat → Bool} {s B : Nat} {W W' : World} (t : TrSt w fo ev av lv n h s W) (hb : Below B W W') (hB : w.heap.size + 4 ≤ B) : TrSt w fo ev av lv n h s W' :=
  ⟨t.three.below hb (by omega), (hb.cell (p := ⟨w.heap.size + 1, 0, none⟩) (by simp; omega)).trans t.letter, (hb.cell (p := ⟨w.heap.size + 1 + 1 + 1, 0, none⟩) (by simp; omega)).trans t.holds, t.row.of_block (hb.block _ (by omega)), t.below.trans (hb.mono (by omega)), Nat.le_trans t.size hb.size⟩

theorem TrSt.congr {w : World} {fo ev av lv : Value} {n : Nat} {h h' : Nat → Bool} {s : Nat} {W : World} (t : TrSt w fo ev av lv n h s W) (e : ∀ j, j < n → h j = h' j) : TrSt w fo ev av lv n h' s W :=
  ⟨t.three, t.letter, t.holds, t.row.congr fun j hj => by rw [e j hj], t.below, t.size⟩
theorem TrSt.put {w : World} {fo ev av lv : Value} {n : Nat} {h : Nat → Bool} {s : Nat} {W : World} (t : TrSt w fo ev av lv n h s W) (p : Nat) (x : Bool) : TrSt w fo ev av lv n (fun j => if j = p then x else h j) s (W.setCell ⟨w.heap.size + 1 + 1, p, none⟩ (.bool x)) := by
  have hb : ∀ k, k ≠ w.heap.size + 1 + 1 → (W.setCell ⟨w.heap.size + 1 + 1, p, none⟩ (.bool x)).heap[k]? = W.heap[k]? := fun k hk => Below.heap_setCell W _ _ k hk
  have hc : ∀ k q, k ≠ w.heap.size + 1 + 1 → (W.setCell ⟨w.heap.size + 1 + 1, p, none⟩ (.bool x)).cell? ⟨k, q, none⟩ = W.cell? ⟨k, q, none⟩ := fun k q hk => World.cell?_of_block (w := W) (hb k hk)
  have hf : ∀ q, (W.setCell ⟨w.heap.size + 1 + 1, p, none⟩ (.bool x)).frozen? ⟨w.heap.size, q, none⟩ = W.frozen? ⟨w.heap.size, q, none⟩ := fun q => by rw [World.frozen?_setCell]
  obtain ⟨k0, k1, k2, f0, f1, f2, hl⟩ := t.three
  refine ⟨⟨(hc _ _ (by omega)).trans k0, (hc _ _ (by omega)).trans k1, (hc _ _ (by omega)).trans k2, (hf 0).trans f0, (hf 1).trans f1, (hf 2).trans f2, by simpa using hl⟩, (hc _ _ (by omega)).trans t.letter, (hc _ _ (by omega)).trans t.holds, ?_, t.below.setCell (by simp; omega) _, by simpa using t.size⟩
  refine (t.row.set p (.bool x)).congr fun i _ => ?_
  by_cases hip : i = p
  · rw [if_pos hip, if_pos hip]
  · rw [if_neg hip, if_neg hip]
theorem TrSt.drew {w : World} {fo ev av lv : Value} {n : Nat} {h : Nat → Bool} {s : Nat} {W : World} (t : TrSt w fo ev av lv n h s W) : TrSt w fo ev av lv n h s W.drew :=
  ⟨⟨t.three.1, t.three.2.1, t.three.2.2.1, t.three.2.2.2.1, t.three.2.2.2.2.1, t.three.2.2.2.2.2.1, t.three.2.2.2.2.2.2⟩, t.letter, t.holds, t.row.of_block rfl, t.below.drew, t.size⟩
theorem bits_small : ∀ c, c < 64 → (bits BinOp.and IntKind.i64 ((c : Nat) : Int) 1 == 1) = decide (((c : Nat) : Int) % 2 = 1) := by decide
theorem bits_bitB {claim : Int} {k : Nat} (h0 : 0 ≤ claim) (h : claim < 64) : (bits BinOp.and IntKind.i64 (claim / 2 ^ k) 1 == 1) = bitB claim k := by
  have h2 : (0 : Int) < 2 ^ k := Int.pow_pos (by decide)
  have h3 : 0 ≤ claim / 2 ^ k := Int.ediv_nonneg h0 (Int.le_of_lt h2)
  have h4 : claim / 2 ^ k ≤ claim := Int.ediv_le_self _ h0
  obtain ⟨c, hc⟩ : ∃ c : Nat, claim / 2 ^ k = c := ⟨(claim / 2 ^ k).toNat, by omega⟩
  unfold bitB
  rw [hc]
  exact bits_small c (by omega)
theorem iniB_step {l : List (Int × Int)} {claim : Int} {k p : Nat} (hlk : lookB (l.getD p (0, 0)).1 = true) (hpi : (aheadTo l p).length = k) (j : Nat) : (if j = p then bitB claim k else iniB l claim k j) = iniB l claim (k + 1) j := by
  unfold iniB
  by_cases hjp : j = p
  · subst hjp
    rw [if_pos rfl, if_pos ⟨hlk, by omega⟩, hpi]
  · rw [if_neg hjp]
    by_cases hb : lookB (l.getD j (0, 0)).1 = true
    · have hne : (aheadTo l j).length ≠ k := by
        intro e
        rcases Nat.lt_or_gt_of_ne hjp with h | h
        · have := aheadTo_lt l h hb; omega
        · have := aheadTo_lt l h hlk; omega
      by_cases hl : (aheadTo l j).length < k
      · rw [if_pos ⟨hb, hl⟩, if_pos ⟨hb, by omega⟩]
      · rw [if_neg (fun h => hl h.2), if_neg (fun h => by have := h.2; omega)]
    · rw [if_neg (fun h => hb h.1), if_neg (fun h => hb h.1)]

theorem truths_out (fv lv : Value) (fo ev : Value) (aao : Option Addr) (an ac : Nat) (claim : Int) (lo : Option Addr) (ln lc : Nat) (oo eo : Option Addr) (on oc en ec : Nat) (hfo : fo = .slice oo on oc) (hev : ev = .slice eo en ec) (hlv : lv = .slice lo ln lc) (hfv : fv = .agg #[fo, ev, .slice aao an ac]) (h6 : an ≤ 6) (w : World) (h : claim < 0 ∨ 2 ^ an ≤ claim) :
    Calls Tryz.prog 77 #[fv, lv, .int .i64 claim] w fun e w' => e = .returned (.tuple #[.slice none 0 0, .int .i64 2]) ∧ Below w.heap.size w w' := by
  subst hfo hev hlv hfv
  have hb : ∀ o o', Below w.heap.size w ((w.alloc o).alloc o') := fun o o' => ((Below.refl _ _).alloc (Nat.le_refl _) o).alloc (by simp) o'
  rcases h with h | h
  · go_enter Tryz.func77, Tryz.ntmps77
    go_wp2_with fail
    go_ret2
    exact ⟨rfl, hb _ _⟩
  · have h0 : 0 ≤ claim := by have : (0 : Int) < 2 ^ an := Int.pow_pos (by decide); omega
    have hcase : an = 0 ∨ an = 1 ∨ an = 2 ∨ an = 3 ∨ an = 4 ∨ an = 5 ∨ an = 6 := by omega
    clear h6
    rcases hcase with rfl | rfl | rfl | rfl | rfl | rfl | rfl
    all_goals
      simp only [Int.reducePow] at h
      go_enter Tryz.func77, Tryz.ntmps77
      go_wp2_with fail
      go_ret2
      exact ⟨rfl, hb _ _⟩
end Go.Proofs.YtdlpmomohbdpgaaGreatDoor

/-
  A region whose order is drawn, inside of a round: by the plain walk under a condition.
-/
namespace Go.Proofs.YtdlpmomohbdpgaaGreatDoor
open Go.ChangeShapes Go.WideShapes Go.ChangeAt Go.RowKit Go.Deep Go.Shelf

theorem upon_in {P : Program} (L n : Nat) {o : Oper} {a : Act} {next : Act → World → Prop} {Q : Exit → Act → World → Prop} {r : Result Next} (h : o.upon P a next Q r) : o.uponIn (Fence.wide.inRound L) n P a next Q r := by
  have hd : ∀ m : Nat, (Fence.wide.inRound L).depth.isSome = true → 1 ≤ m := fun m h => by simp [Fence.wide, Fence.inRound] at h
  cases r with
  | halt x w' => cases x <;> first | exact h | exact h.elim
  | ok x w' =>
    cases x with
    | value v => exact h
    | skip => exact h
    | defer d => exact h
    | enter f args => exact ⟨hd _, CallsIn.inRound L ((callsIn_wide.2 h).mono fun e w'' he => by cases e <;> exact he)⟩
    | row row args => exact ⟨hd _, fun c cs _ => by obtain ⟨v, w'', h1, h2⟩ := h c cs; exact ⟨v, w'', h1, stepsIn_wide.2 h2⟩⟩
    | _ => exact (h : False).elim

theorem any_in {P : Program} (L n : Nat) {md : Region.Mode} {ops : Array Oper} {Q : Exit → Act → World → Prop} (hd : ∀ (i : Nat) (o : Oper), ops[i]? = some o → ∀ c, o.op ≠ Op.defer c) (hQ : LetsOut Q → False) :
    ∀ (fuel : Nat) (listed : Array Bool) (a : Act) (w : World), wpAny P md ops Q fuel listed a w → wpAnyIn (Fence.wide.inRound L) n P md ops Q fuel listed a w := by
  intro fuel
  induction fuel with
  | zero => intro listed a w h; exact h
  | succ fuel ih =>
    intro listed a w h
    refine ⟨h.1, fun i hi => ?_⟩
    have h1 := wpOp_mono (K' := wpAnyIn (Fence.wide.inRound L) n P md ops Q fuel (listed.setIfInBounds i true)) (fun a' w' h' => ih _ a' w' h') (h.2 i hi)
    unfold wpOp at h1
    unfold wpOpIn
    cases ho : ops[i]? with
    | none => simp only [ho] at h1 ⊢; exact h1
    | some o =>
      simp only [ho] at h1 ⊢
      split
      · rename_i hw
        rw [if_pos hw] at h1
        rcases h1 with h1 | ⟨_, h1⟩
        · refine ⟨fun f _ => trivial, ?_⟩
          rw [Oper.semAt_eq _ _ _ (hd i o ho)]
          exact upon_in L n h1
        · exact (hQ h1).elim
      · rename_i hw
        rw [if_neg hw] at h1
        exact ⟨fun f _ => trivial, h1⟩

theorem region_round {P : Program} {L n id : Nat} {ops : Array Oper} {Q : Exit → Act → World → Prop} {a : Act} {w : World} (S : World → Prop) (hm : P.follows .mixedOrders = true) (hd : ∀ (i : Nat) (o : Oper), ops[i]? = some o → ∀ c, o.op ≠ Op.defer c) (hQ : LetsOut Q → False)
    (h : wpAnyH P .any ops Q S ops.size (Array.replicate ops.size false) a w.drew) : (Code.region id ops true).wpIn (Fence.wide.inRound L) n P Q a w :=
  wpIn_region_any hm (any_in L n hd hQ _ _ _ _ (wpAny_of_held _ _ _ _ h))
theorem wpOp_call {P : Program} {ops : Array Oper} {Q : Exit → Act → World → Prop} {i : Nat} {K : Act → World → Prop} {a : Act} {w : World} {o : Oper} {f : FuncId} {args : Array Value} {R : Ending → World → Prop} (hi : ops[i]? = some o) (hw : Region.wanted o (yielded ops a.tmps) = true) (hr : (execOp a.eval o).run P w = .ok (.enter f args) w) (h : Calls P f args w R)
    (hR : ∀ e w', R e w' → ∃ v, e = .returned v ∧ K (a.put o.dst v) w') : wpOp P ops Q i K a w := by
  unfold wpOp
  simp only [hi]
  rw [if_pos hw]
  refine Or.inl ?_
  unfold Oper.wp
  rw [hr]
  refine h.mono fun e w' he => ?_
  obtain ⟨v, rfl, hk⟩ := hR e w' he
  exact hk
theorem wpOp_skip {P : Program} {ops : Array Oper} {Q : Exit → Act → World → Prop} {i : Nat} {K : Act → World → Prop} {a : Act} {w w' : World} {o : Oper} (hi : ops[i]? = some o) (hw : Region.wanted o (yielded ops a.tmps) = true) (hr : (execOp a.eval o).run P w = .ok .skip w') (h : K (a.put o.dst undef) w') : wpOp P ops Q i K a w := by
  unfold wpOp
  simp only [hi]
  rw [if_pos hw]
  refine Or.inl ?_
  unfold Oper.wp
  rw [hr]
  exact h
end Go.Proofs.YtdlpmomohbdpgaaGreatDoor

/-
  The contract of logic's method truths.
-/
namespace Go.Proofs.YtdlpmomohbdpgaaGreatDoor
open Go.ChangeShapes Go.WideShapes Go.ChangeAt Go.RowKit Go.Deep Go.Shelf
open Terms

attribute [local go_sem] Oper.semAt_some
/-- the temporaries of a round. -/
def trAct (p3 p4 p8 p11 p12 r0 r1 r2 r5 r6 r7 r9 r10 r13 r14 r15 r16 r17 r18 r19 r20 r21 r22 r23 r24 r25 r26 r27 r28 r29 r30 r31 r32 r33 r34 r35 r36 r37 r38 r39 r40 r41 r42 r43 r44 r45 r46 r47 r48 r49 r50 r51 r52 r53 r54 r55 r56 r57 r58 r59 r60 r61 r62 r63 r64 r65 r66 r67 r68 r69 r70 : Value) : Act := { tmps := #[r0, r1, r2, p3, p4, r5, r6, r7, p8, r9, r10, p11, p12, r13, r14, r15, r16, r17, r18, r19, r20, r21, r22, r23, r24, r25, r26, r27, r28, r29, r30, r31, r32, r33, r34, r35, r36, r37, r38, r39, r40, r41, r42, r43, r44, r45, r46, r47, r48, r49, r50, r51, r52, r53, r54, r55, r56, r57, r58, r59, r60, r61, r62, r63, r64, r65, r66, r67, r68, r69, r70], defers := [] }
/-- what a round begins with. -/
def TrAx (w : World) (s : Nat) (o : Int × Int) (p : Nat) (a' : Act) (W : World) : Prop := ∃ Bx, s ≤ Bx ∧ W.cell? ⟨Bx, 0, none⟩ = some (.int .i64 o.1) ∧ W.cell? ⟨Bx, 1, none⟩ = some (.int .i64 o.2) ∧ ∃ r0 r1 r2 r5 r6 r7 r9 r10 r13 r14 r15 r16 r17 r18 r19 r20 r21 r22 r23 r24 r25 r26 r27 r28 r29 r30 r31 r32 r33 r34 r35 r36 r37 r38 r39 r40 r41 r42 r43 r44 r45 r46 r47 r48 r49 r50 r51 r52 r53 r54 r55 r56 r57 r58 r59 r60 r61 r62 r63 r64 r65 r66 r67 r68 r69 r70 : Value, a' = trAct (.pointer (some ⟨w.heap.size, 0, none⟩)) (.pointer (some ⟨w.heap.size + 1, 0, none⟩)) (.pointer (some ⟨w.heap.size + 1 + 1 + 1, 0, none⟩)) (.int .i64 (p : Int)) (.pointer (some ⟨Bx, 0, none⟩)) r0 r1 r2 r5 r6 r7 r9 r10 r13 r14 r15 r16 r17 r18 r19 r20 r21 r22 r23 r24 r25 r26 r27 r28 r29 r30 r31 r32 r33 r34 r35 r36 r37 r38 r39 r40 r41 r42 r43 r44 r45 r46 r47 r48 r49 r50 r51 r52 r53 r54 r55 r56 r57 r58 r59 r60 r61 r62 r63 r64 r65 r66 r67 r68 r69 r70
theorem keeps_of_below {B : Nat} {W W' : World} (h : Below W.heap.size W W') : KeepsFrom B W W' := ⟨h.size, fun k _ _ hk _ => (h.block k (Array.getElem?_eq_some_iff.1 hk).1).trans hk⟩
set_option maxRecDepth 100000 in
set_option maxHeartbeats 4000000 in
theorem truths_in (b off cap n B : Nat) (aao : Option Addr) (an ac : Nat) (lo : Option Addr) (ln lc : Nat) (l : List (Int × Int)) (letter : List Bool) (claim : Int) (w : World) (h0n : 0 < n) (h60 : n ≤ 60) (hn : n = l.length) (hz : endsCode (l.map Prod.fst) = 0) (hops : OpsAt w b off l) (hbl : b < w.heap.size)
    (hrow : w.rowIs B 3 n (fun q => .int .i64 (endAt (l.map Prod.fst) q))) (han : an = (aheadL l).length) (hav : IntsV w (.slice aao an ac) (aheadL l)) (h6 : an ≤ 6) (hln : ln = letter.length) (hL : BoolsV w (.slice lo ln lc) letter) (hlf : lfirst ln l = 0) (h0 : 0 ≤ claim) (h1 : claim < 2 ^ an) :
    Calls Tryz.prog 77 #[.agg #[.slice (some ⟨b, off, none⟩) n cap, .slice (some ⟨B, 0, none⟩) n n, .slice aao an ac], .slice lo ln lc, .int .i64 claim] w fun e w' => ∃ bH, e = .returned (.tuple #[.slice (some ⟨bH, 0, none⟩) n n, .int .i64 0]) ∧ Below w.heap.size w w' ∧ Hid (w'.rowIs bH 4 n (fun j => .bool (tru l letter claim j))) ∧ w.heap.size ≤ bH := by
  refine (callsIn_wide (n := 8)).1 ?_
  refine callsIn_of_wp_marks Tryz.func77 rfl trivial ?_ rfl
  simp only [Tryz.ntmps77, List.size_toArray, List.length_cons, List.length_nil, Nat.reduceAdd, Nat.reduceSub, Array.replicate_succ, Array.replicate_zero, List.push_toArray, List.append_toArray, List.nil_append, List.cons_append]
  have hmk := run_make_row' (P := Tryz.prog) 61 4 (.bool false) 1 Tryz.underlying61 infoBool rfl .i64 .i64 n (by omega) (by omega)
  have HO : Hid (OpsAt w b off l) := hops
  have HN : Hid (n = l.length) := hn
  have HR : Hid (w.rowIs B 3 n (fun q => .int .i64 (endAt (l.map Prod.fst) q))) := hrow
  have HAN : Hid (an = (aheadL l).length) := han
  have HAV : Hid (IntsV w (.slice aao an ac) (aheadL l)) := hav
  have HLN : Hid (ln = letter.length) := hln
  have HL : Hid (BoolsV w (.slice lo ln lc) letter) := hL
  have HLF : Hid (lfirst ln l = 0) := hlf
  have HZ : Hid (endsCode (l.map Prod.fst) = 0) := hz
  clear hops hn hrow han hav hln hL hlf hz
  have hcase : an = 0 ∨ an = 1 ∨ an = 2 ∨ an = 3 ∨ an = 4 ∨ an = 5 ∨ an = 6 := by omega
  have hsh : (2 : Int) ^ an ≤ 64 := by rcases hcase with rfl | rfl | rfl | rfl | rfl | rfl | rfl <;> decide
  clear hcase
  gi_wp2
  have HS0 : Hid (TrSt w (.slice (some ⟨b, off, none⟩) n cap) (.slice (some ⟨B, 0, none⟩) n n) (.slice aao an ac) (.slice lo ln lc) n (iniB l claim 0) 0 ((((w.alloc (.cells #[.slice (some ⟨b, off, none⟩) n cap, .slice (some ⟨B, 0, none⟩) n n, .slice aao an ac] 114)).alloc (.cells #[.slice lo ln lc] 61)).alloc (.cells (madeCells #[.bool false] n) 4)).alloc (.cells #[.slice (some ⟨w.heap.size + 1 + 1, 0, none⟩) n n] 61))) := by
    have r := World.rowIs_made ((w.alloc (.cells #[.slice (some ⟨b, off, none⟩) n cap, .slice (some ⟨B, 0, none⟩) n n, .slice aao an ac] 114)).alloc (.cells #[.slice lo ln lc] 61)) (.bool false) n 4
    simp only [World.size_alloc] at r
    have hB3 : ∀ o1 o2 o3 o4, Below (w.heap.size + 1) (w.alloc o1) ((((w.alloc o1).alloc o2).alloc o3).alloc o4) := fun o1 o2 o3 o4 => (((Below.refl _ _).alloc (by simp) o2).alloc (by simp) o3).alloc (by simp) o4
    exact ⟨(Three.new w _ _ _ _).below (hB3 _ _ _ _) (Nat.lt_succ_self _), by simp [go_sem], by simp [go_sem], (r.of_block (Below.heap_alloc _ _ _ r.lt)).congr (fun j _ => by simp [iniB]), ((((Below.refl _ _).alloc (Nat.le_refl _) _).alloc (by simp) _).alloc (by simp; omega) _).alloc (by simp; omega) _, Nat.zero_le _⟩
  gi_loopw [32] (fun i wr => ∃ k : Nat, k ≤ an ∧ i = .int .i64 k ∧ Hid (TrSt w (.slice (some ⟨b, off, none⟩) n cap) (.slice (some ⟨B, 0, none⟩) n n) (.slice aao an ac) (.slice lo ln lc) n (iniB l claim k) 0 wr)) (fun i _ => an - (intOf i).toNat)
  case atStart =>
    exact ⟨0, Nat.zero_le _, rfl, HS0.out⟩
  case round =>
    obtain ⟨k, hk, rfl, HSt⟩ := hrel
    have hst := HSt.out
    by_cases hlt : k < an
    · obtain ⟨p, hp, hpn, hlk, hpi⟩ := aheadTo_get l l.length k (by have := HAN.out; unfold aheadL at this; omega)
      obtain ⟨ao', cap', hsl, hai⟩ := HAV.out
      injection hsl with e1 e2 e3
      subst e1
      obtain ⟨ab, aoff, rfl, habl, haat⟩ := hai (by intro h; have := HAN.out; rw [h] at this; simp at this; omega)
      have hca := (hst.below.cell (p := ⟨ab, aoff + k, none⟩) habl).trans (haat k (by rw [← HAN.out]; exact hlt))
      have hca' : wr.cell? ⟨ab, aoff + k, none⟩ = some (.int .i64 (p : Int)) := by rw [hca]; exact congrArg (fun z => some (Value.int .i64 z)) hp
      have hch := hst.holds
      have hf := hst.row.frozen p
      have hpn' : p < n := by rw [HN.out]; exact hpn
      have hcp := hst.row.cell hpn'
      obtain ⟨t0, t1, t2, _⟩ := hst.three
      have HP : Hid (lookB (l.getD p (0, 0)).1 = true ∧ (aheadTo l p).length = k) := ⟨hlk, hpi⟩
      clear hp hpn hlk hpi hai haat hca e2 e3
      have hmx : Tryz.prog.follows .mixedOrders = true := by kernel_rfl
      gi_wp2
      gi_region_o
      all_goals gi_wp2
      refine ⟨⟨k + 1, hlt, by first | rfl | simp, ?_⟩, by simp [intOf]; omega⟩
      rw [bits_bitB h0 (by omega)]
      exact ((hst.put p (bitB claim k)).congr (fun j _ => iniB_step HP.out.1 HP.out.2 j)).drew
    · obtain rfl : k = an := by omega
      have HAL : Hid (k = (aheadL l).length) := HAN.out
      obtain ⟨t0, t1, t2, _⟩ := hst.three
      generalize wr = W1 at *
      clear hmk HS0 hlt hk HAV
      gi_wp2_with (refine ⟨trivial, ?_⟩; gi_at_call 95; refine (back_in Fence.wide _ trivial rfl _ _ _ _).mono ?_; rintro e w' ⟨rfl, rfl⟩)
      have hs3 : w.heap.size + 4 ≤ W1.heap.size := by have := World.block_lt_of_cell? W1 ⟨w.heap.size + 1 + 1 + 1, 0, none⟩ hst.holds; simp at this; omega
      refine wpIn_rangeFunc_ownH rfl (by decide) (gf := 115) (lb := #[.pointer (some ⟨W1.heap.size, 0, none⟩)]) rfl trivial (enters_of Tryz.func115 (by kernel_rfl) rfl)
        (back_stops Fence.wide 7 trivial rfl (by decide) W1.heap.size w.heap.size b off n cap l h0n h60 HN.out hbl _ (by simp) (by simp; omega) (by simp [go_sem]) (HO.out.below (hst.below.alloc hst.below.size _) hbl)) backK_t (backK_b (by simp; omega) (by simp)) (Below.refl _ _) (fun _ => rfl)
        (fun pre W => TrSt w (.slice (some ⟨b, off, none⟩) n cap) (.slice (some ⟨B, 0, none⟩) n n) (.slice aao k ac) (.slice lo ln lc) n (foldB l letter (iniB l claim k) pre) (W1.heap.size + 1) W)
        (fun _ _ _ => False)
        (fun s A Bw row hs hg hr => hs.later (B := W1.heap.size + 1) ((Below.refl _ _).grown hg hs.size (fun z e => by have := (hr z e).1; simp at this; omega)) (by omega))
        (fun _ _ _ _ _ hs _ _ => hs)
        ?h0 (fun x => TrAx w (W1.heap.size + 1) (l.getD x.1 (0, 0)) x.1) (fun x a' _ X Y row hs hg hr => by obtain ⟨Bx, h1, h2, h3, h4⟩ := hs; exact ⟨Bx, h1, cell_kept h2 hg (fun r e => (hr r e).2), cell_kept h3 hg (fun r e => (hr r e).2), h4⟩)
        ?assign ?body ?done ?stop
      case h0 =>
        have t := hst.later ((Below.refl W1.heap.size W1).alloc (Nat.le_refl _) (.cells #[.slice (some ⟨b, off, none⟩) n cap] 27)) (by omega)
        exact ⟨t.three, t.letter, t.holds, t.row, t.below, by simp⟩
      case assign =>
        rintro L pre x W K hi hK
        have hsz := hi.size
        unfold backEnc
        gi_wp2
        refine hK _ _ ?ka ?kb ?kc ?kd
        case ka => exact (KeepsOthers.alloc _ _).from _
        case kb => exact ⟨(Below.refl _ W).alloc hi.below.size _, Below.heap_alloc _ _ _ (by omega)⟩
        case kc => exact hi.later ((Below.refl W.heap.size W).alloc (Nat.le_refl _) _) (by omega)
        case kd => exact ⟨W.heap.size, by omega, by simp [go_sem], by simp [go_sem], _, _, _, _, _, _, _, _, _, _, _, _, _, _, _, _, _, _, _, _, _, _, _, _, _, _, _, _, _, _, _, _, _, _, _, _, _, _, _, _, _, _, _, _, _, _, _, _, _, _, _, _, _, _, _, _, _, _, _, _, _, _, _, _, _, _, rfl⟩
      case body =>
        rintro L pre x a' W hl ⟨r, hr⟩ hi ⟨Bx, hBx, cx0, cx1, r0, r1, r2, r5, r6, r7, r9, r10, r13, r14, r15, r16, r17, r18, r19, r20, r21, r22, r23, r24, r25, r26, r27, r28, r29, r30, r31, r32, r33, r34, r35, r36, r37, r38, r39, r40, r41, r42, r43, r44, r45, r46, r47, r48, r49, r50, r51, r52, r53, r54, r55, r56, r57, r58, r59, r60, r61, r62, r63, r64, r65, r66, r67, r68, r69, r70, rfl⟩ hlen
        have hsz := hi.size
        have hfa := lfirst_all HLF.out x.1 (by rw [← HN.out]; exact x.2)
        obtain ⟨hp1, hp2⟩ := part_in HZ.out (p := x.1) (by rw [← HN.out]; exact x.2)
        have HSt : Hid (TrSt w (.slice (some ⟨b, off, none⟩) n cap) (.slice (some ⟨B, 0, none⟩) n n) (.slice aao k ac) (.slice lo ln lc) n (foldB l letter (iniB l claim k) pre) (W1.heap.size + 1) W) := hi
        have HNx := foldB_snoc l letter (iniB l claim k) pre x
        unfold stepB at HNx
        have HNx' : Hid (foldB l letter (iniB l claim k) (pre ++ [x]) = if lookB (l.getD x.1 (0, 0)).1 = true then foldB l letter (iniB l claim k) pre else fun j => if j = x.1 then mkB (l.getD x.1 (0, 0)) letter (foldB l letter (iniB l claim k) pre (x.1 + 1)) (foldB l letter (iniB l claim k) pre (sec l x.1)) else foldB l letter (iniB l claim k) pre j) := HNx
        clear HNx
        obtain ⟨nx, hnx⟩ : ∃ nx, foldB l letter (iniB l claim k) (pre ++ [x]) = nx := ⟨_, rfl⟩
        have HNX : Hid (foldB l letter (iniB l claim k) (pre ++ [x]) = nx) := hnx
        rw [hnx] at HNx'
        clear hnx
        generalize foldB l letter (iniB l claim k) pre = h at *
        obtain ⟨p, hpn⟩ := x
        simp only at cx0 cx1 hfa hp1 hp2 HNx'
        generalize l.getD p (0, 0) = xy at *
        obtain ⟨kx, vx⟩ := xy
        simp only at cx0 cx1 hfa hp1 hp2 HNx'
        have hlk := fun w => look_any kx w
        have hBxl : Bx < W.heap.size := World.block_lt_of_cell? W ⟨Bx, 0, none⟩ cx0
        have hmx : Tryz.prog.follows .mixedOrders = true := by kernel_rfl
        unfold trAct
        cases hb : lookB kx with
        | true =>
          have HE : Hid (nx = h) := by show _ = _; rw [HNx'.out, if_pos hb]
          rw [hb] at hlk
          clear hb HNx' hp1 hp2 hfa
          gi_wp2_with (refine ⟨trivial, ?_⟩; gi_at_call 82; refine (CallsIn.inRound L (callsIn_wide.2 (hlk _))).mono ?_; rintro e w2 ⟨rfl, rfl⟩)
          refine ⟨KeepsFrom.refl _ _, ⟨Below.refl _ _, rfl⟩, ?_⟩
          show TrSt w _ _ _ _ n (foldB l letter (iniB l claim k) (pre ++ [⟨p, hpn⟩])) _ _
          rw [HNX.out, HE.out]
          exact HSt.out
        | false =>
          have HE : Hid (nx = fun j => if j = p then mkB (kx, vx) letter (h (p + 1)) (h (sec l p)) else h j) := by show _ = _; rw [HNx'.out, if_neg (by rw [hb]; decide)]
          rw [hb] at hlk
          have hop : lopErr (ln : Int) (kx, vx) = 0 := hfa
          have hk8 : 8 ≤ kx := by
            simp only [lopErr] at hop
            split at hop
            · omega
            · omega
          have h13 : kx = 13 → 0 ≤ vx ∧ vx < letter.length := fun e => by
            simp only [lopErr] at hop
            rw [if_neg (by omega), if_pos e] at hop
            split at hop
            · omega
            · have := HLN.out; omega
          have hpr : kx = 10 ∨ kx = 8 ∨ kx = 9 → p + 1 < n := fun e => by rw [HN.out]; exact hp1 (by rcases e with rfl | rfl | rfl <;> decide)
          have hps : kx = 8 ∨ kx = 9 → sec l p < n := fun e => by rw [HN.out]; exact (hp2 (by rcases e with rfl | rfl <;> decide)).2
          have hBl : B < w.heap.size := HR.out.lt
          have hpa := parts_any b off cap n B (w.heap.size + 1 + 1) p _ h l aao k ac rfl W (fun j hj => hi.row.cell hj) hi.row.lt (fun j hj => (hi.below.cell (p := ⟨B, j, none⟩) hBl).trans (HR.out.cell hj)) (Nat.lt_of_lt_of_le hBl hi.below.size)
          obtain ⟨t0, t1, t2, _⟩ := hi.three
          have hch := hi.holds
          have hcl := hi.letter
          have HMk : Hid (∀ w2, Below W.heap.size W w2 → PartsAt w2 (W.heap.size + 1 + 1) W.heap.size (W.heap.size + 1) (w.heap.size + 1 + 1) n B p h l → Calls Tryz.prog 97 #[.agg #[.int .i64 kx, .int .i64 vx], .slice lo ln lc, .func (.func 116) #[] #[.pointer (some ⟨W.heap.size + 1 + 1, 0, none⟩), .pointer (some ⟨W.heap.size + 1, 0, none⟩)], .func (.func 117) #[] #[.pointer (some ⟨W.heap.size + 1 + 1, 0, none⟩), .pointer (some ⟨W.heap.size, 0, none⟩), .pointer (some ⟨W.heap.size + 1, 0, none⟩)]] w2.drew fun e w' =>
              e = .returned (.bool (mkB (kx, vx) letter (h (p + 1)) (h (sec l p)))) ∧ Below W.heap.size W w' ∧ w'.cell? ⟨w.heap.size + 1 + 1 + 1, 0, none⟩ = some (.slice (some ⟨w.heap.size + 1 + 1, 0, none⟩) n n) ∧ w'.cell? ⟨w.heap.size + 1 + 1, p, none⟩ = some (.bool (h p)) ∧ w'.frozen? ⟨w.heap.size + 1 + 1, p, none⟩ = false) := fun w2 hb2 hP => by
            have hlt : W.heap.size + 1 + 1 < w2.heap.size := World.block_lt_of_cell? w2 ⟨W.heap.size + 1 + 1, 0, none⟩ hP.holds
            have hbd : Below W.heap.size W w2.drew := hb2.drew
            have hPd : PartsAt w2.drew (W.heap.size + 1 + 1) W.heap.size (W.heap.size + 1) (w.heap.size + 1 + 1) n B p h l := ⟨hP.holds, hP.row, hP.ends, hP.erow, hP.place⟩
            have hLd : BoolsV w2.drew (.slice lo letter.length lc) letter := by rw [← HLN.out]; exact (HL.out.below hi.below).below hbd
            have hsw : w2.drew.heap.size = w2.heap.size := rfl
            have hrl := hi.row.lt
            rw [HLN.out]
            refine (makes_any kx vx lo lc _ _ _ _ n B p letter h l w2.drew h60 hLd hPd (by omega) (by omega) (by omega) (by omega) (by omega) h13 hpr hps).mono fun e w' ⟨he, hb⟩ => ?_
            have hbf : Below W.heap.size W w' := hbd.trans (hb.mono (by omega))
            exact ⟨he, hbf, (hbf.cell (p := ⟨w.heap.size + 1 + 1 + 1, 0, none⟩) (World.block_lt_of_cell? W _ hch)).trans hch, (hbf.cell (p := ⟨w.heap.size + 1 + 1, p, none⟩) hrl).trans (hi.row.cell hpn), (hbf.frozen (p := ⟨w.heap.size + 1 + 1, p, none⟩) hrl).trans (hi.row.frozen p)⟩
          generalize mkB (kx, vx) letter (h (p + 1)) (h (sec l p)) = tv at HMk HE
          have HC2 : Hid (∀ w2, Below W.heap.size W w2 → w2.cell? ⟨w.heap.size + 1 + 1 + 1, 0, none⟩ = some (.slice (some ⟨w.heap.size + 1 + 1, 0, none⟩) n n) ∧ w2.cell? ⟨w.heap.size + 1, 0, none⟩ = some (.slice lo ln lc) ∧ w2.cell? ⟨Bx, 0, none⟩ = some (.int .i64 kx) ∧ w2.cell? ⟨Bx, 1, none⟩ = some (.int .i64 vx)) := fun w2 hb => ⟨(hb.cell (p := ⟨w.heap.size + 1 + 1 + 1, 0, none⟩) (World.block_lt_of_cell? W _ hch)).trans hch, (hb.cell (p := ⟨w.heap.size + 1, 0, none⟩) (World.block_lt_of_cell? W _ hcl)).trans hcl, (hb.cell (p := ⟨Bx, 0, none⟩) hBxl).trans cx0, (hb.cell (p := ⟨Bx, 1, none⟩) hBxl).trans cx1⟩
          clear hb HNx' hp1 hp2 hfa hop h13 hpr hps hi
          gi_wp2_with (first | (refine ⟨trivial, ?_⟩; gi_at_call 82; refine (CallsIn.inRound L (callsIn_wide.2 (hlk _))).mono ?_; rintro e wz ⟨rfl, hwz⟩; obtain rfl := hwz.symm) | (refine ⟨trivial, ?_⟩; gi_at_call 96; refine (CallsIn.inRound L (callsIn_wide.2 hpa)).mono ?_; rintro e w2 ⟨rfl, hb2, HP2⟩; obtain ⟨d0, d1, d2, d3⟩ := HC2.out w2 hb2; have hma := HMk.out w2 hb2 HP2.out))
          refine region_round (fun w' => w'.cell? ⟨w.heap.size + 1 + 1 + 1, 0, none⟩ = some (.slice (some ⟨w.heap.size + 1 + 1, 0, none⟩) n n) ∧ w'.cell? ⟨w.heap.size + 1, 0, none⟩ = some (.slice lo ln lc) ∧ w'.cell? ⟨Bx, 0, none⟩ = some (.int .i64 kx) ∧ w'.cell? ⟨Bx, 1, none⟩ = some (.int .i64 vx)) hmx ?nd ?nl ?_
          case nd =>
            intro i o ho c
            have hi : i < 9 := (Array.getElem?_eq_some_iff.1 ho).1
            have hc : i = 0 ∨ i = 1 ∨ i = 2 ∨ i = 3 ∨ i = 4 ∨ i = 5 ∨ i = 6 ∨ i = 7 ∨ i = 8 := by omega
            rcases hc with rfl | rfl | rfl | rfl | rfl | rfl | rfl | rfl | rfl <;> (obtain rfl := Option.some.inj ho; exact fun h => by cases h)
          case nl => exact fun ⟨_, _, h⟩ => h
          have hS2 : w2.drew.cell? ⟨w.heap.size + 1 + 1 + 1, 0, none⟩ = some (.slice (some ⟨w.heap.size + 1 + 1, 0, none⟩) n n) ∧ w2.drew.cell? ⟨w.heap.size + 1, 0, none⟩ = some (.slice lo ln lc) ∧ w2.drew.cell? ⟨Bx, 0, none⟩ = some (.int .i64 kx) ∧ w2.drew.cell? ⟨Bx, 1, none⟩ = some (.int .i64 vx) := ⟨d0, d1, d2, d3⟩
          refine wpAnyH_take (i := 0) (v := .slice (some ⟨w.heap.size + 1 + 1, 0, none⟩) n n) rfl (by kernel_rfl) (by kernel_rfl) (by kernel_rfl) (fun _ _ _ h => h) (Or.inl ⟨by rfl, fun wq hSw => by obtain ⟨q0, q1, q2, q3⟩ := hSw; go_simp⟩) hS2 ?_
          simp only [Act.put, List.setIfInBounds_toArray]
          refine wpAnyH_take (i := 1) (v := .int .i64 (p : Int)) rfl (by kernel_rfl) (by kernel_rfl) (by kernel_rfl) (fun _ _ _ h => h) (Or.inl ⟨by rfl, fun wq hSw => by obtain ⟨q0, q1, q2, q3⟩ := hSw; go_simp⟩) hS2 ?_
          simp only [Act.put]
          refine wpAnyH_take (i := 2) (v := .agg #[.int .i64 kx, .int .i64 vx]) rfl (by kernel_rfl) (by kernel_rfl) (by kernel_rfl) (fun _ _ _ h => h) (Or.inl ⟨by rfl, fun wq hSw => by obtain ⟨q0, q1, q2, q3⟩ := hSw; go_simp⟩) hS2 ?_
          simp only [Act.put]
          refine wpAnyH_take (i := 3) (v := .slice lo ln lc) rfl (by kernel_rfl) (by kernel_rfl) (by kernel_rfl) (fun _ _ _ h => h) (Or.inl ⟨by rfl, fun wq hSw => by obtain ⟨q0, q1, q2, q3⟩ := hSw; go_simp⟩) hS2 ?_
          simp only [Act.put]
          refine wpAnyH_take (i := 4) (v := .func (.func 116) #[] #[.pointer (some ⟨W.heap.size + 1 + 1, 0, none⟩), .pointer (some ⟨W.heap.size + 1, 0, none⟩)]) rfl (by kernel_rfl) (by kernel_rfl) (by kernel_rfl) (fun _ _ _ h => h) (Or.inl ⟨by rfl, fun wq hSw => by obtain ⟨q0, q1, q2, q3⟩ := hSw; go_simp⟩) hS2 ?_
          simp only [Act.put]
          refine wpAnyH_take (i := 5) (v := .func (.func 117) #[] #[.pointer (some ⟨W.heap.size + 1 + 1, 0, none⟩), .pointer (some ⟨W.heap.size, 0, none⟩), .pointer (some ⟨W.heap.size + 1, 0, none⟩)]) rfl (by kernel_rfl) (by kernel_rfl) (by kernel_rfl) (fun _ _ _ h => h) (Or.inl ⟨by rfl, fun wq hSw => by obtain ⟨q0, q1, q2, q3⟩ := hSw; go_simp⟩) hS2 ?_
          simp only [Act.put]
          refine wpAnyH_all (rs := [6]) (by kernel_rfl) (by decide) ?_
          intro i hi
          obtain rfl : i = 6 := by simpa using hi
          refine wpOp_call rfl (by rfl) (by go_simp) hma ?_
          rintro e w3 ⟨rfl, hb3, g0, g1, g2⟩
          obtain ⟨e0, e1, e2, e3⟩ := HC2.out w3 hb3
          refine ⟨_, rfl, ⟨e0, e1, e2, e3⟩, ?_⟩
          simp only [Act.put]
          refine wpAnyH_take (i := 7) (v := .pointer (some ⟨w.heap.size + 1 + 1, p, none⟩)) rfl (by kernel_rfl) (by kernel_rfl) (by kernel_rfl) (fun _ _ _ h => h) (Or.inl ⟨by rfl, fun wq _ => by go_simp⟩) ⟨e0, e1, e2, e3⟩ ?_
          simp only [Act.put]
          refine wpAnyH_all (rs := [8]) (by kernel_rfl) (by decide) ?_
          intro i hi
          obtain rfl : i = 8 := by simpa using hi
          have hco : ∀ z q, z ≠ w.heap.size + 1 + 1 → (w3.setCell ⟨w.heap.size + 1 + 1, p, none⟩ (.bool tv)).cell? ⟨z, q, none⟩ = w3.cell? ⟨z, q, none⟩ := fun z q hz => World.cell?_of_block (w := w3) (Below.heap_setCell w3 _ _ z hz)
          refine wpOp_skip (w' := w3.setCell ⟨w.heap.size + 1 + 1, p, none⟩ (.bool tv)) rfl (by rfl) (by go_simp) ⟨⟨(hco _ _ (by omega)).trans e0, (hco _ _ (by omega)).trans e1, (hco _ _ (by omega)).trans e2, (hco _ _ (by omega)).trans e3⟩, ?_⟩
          refine wpAnyH_done (by kernel_rfl) ?_ _
          have hW4 : w.heap.size + 4 ≤ W.heap.size := by omega
          refine ⟨(keeps_of_below hb3).trans ((KeepsOthers.setCell _ _ _).from _), ⟨(hb3.mono HSt.out.below.size).setCell (by simp; omega) _, (Below.heap_setCell w3 _ _ W1.heap.size (by simp; omega)).trans (hb3.block _ (by omega))⟩, ?_⟩
          show TrSt w _ _ _ _ n (foldB l letter (iniB l claim k) (pre ++ [⟨p, hpn⟩])) _ _
          rw [HNX.out, HE.out]
          exact (HSt.out.later hb3 hW4).put p tv
      case done =>
        rintro D xs W hD rfl hi hK
        have hch := hi.holds
        have HT : Hid (TrSt w (.slice (some ⟨b, off, none⟩) n cap) (.slice (some ⟨B, 0, none⟩) n n) (.slice aao k ac) (.slice lo ln lc) n (tru l letter claim) (W1.heap.size + 1) W) := hi.congr (fun j hj => by rw [HAL.out, foldB_done HZ.out h0n HN.out n (Nat.le_refl _) j hj, if_pos (by omega)])
        clear hi
        gi_wp2
        refine ⟨by simp, .inl ⟨_, _, rfl, run_takeDeferred hK, ?_⟩⟩
        have hb' : Below (W1.heap.size + 1) W (W.putObj D (.deferred none)) := belowK_b (w := W1.alloc (.cells #[.slice (some ⟨b, off, none⟩) n cap] 27)) (by simp) W D _ _ hD hK rfl rfl
        have t' := HT.out.later hb' (by omega)
        exact ⟨_, results_tmp2 rfl _ _ _, _, rfl, t'.below, t'.row, by omega⟩
      case stop =>
        rintro D c pre W _ _ h _
        exact h.elim
end Go.Proofs.YtdlpmomohbdpgaaGreatDoor

/-
  The contract of logic.Truths.
-/
namespace Go.Proofs.YtdlpmomohbdpgaaGreatDoor
open Go.ChangeShapes Go.WideShapes Go.ChangeAt Go.RowKit Go.Deep
open Terms

/-- a formula that was read. -/
def WholeAt (w : World) (v : Value) (B : Nat) (av : Value) (l : List (Int × Int)) : Prop :=
  ∃ b off cap, v = .slice (some ⟨b, off, none⟩) l.length cap ∧ b < w.heap.size ∧ OpsAt w b off l ∧ w.rowIs B 3 l.length (fun q => .int .i64 (endAt (l.map Prod.fst) q)) ∧ IntsV w av (aheadL l)
theorem WholeAt.below {w w' : World} {v : Value} {B : Nat} {av : Value} {l : List (Int × Int)} (h : WholeAt w v B av l) (hb : Below w.heap.size w w') : WholeAt w' v B av l := by
  obtain ⟨b, off, cap, h1, h2, h3, h4, h5⟩ := h
  exact ⟨b, off, cap, h1, Nat.lt_of_lt_of_le h2 hb.size, h3.below hb h2, row_later h4 hb, h5.below hb⟩
/-- a claim that is none. -/
def ClaimNo (l : List (Int × Int)) (claim : Int) : Prop := claim < 0 ∨ 2 ^ (aheadL l).length ≤ claim
/-- What the method leaves. -/
def MethPost (l : List (Int × Int)) (letter : List Bool) (claim : Int) (w : World) (e : Ending) (w' : World) : Prop :=
  Below w.heap.size w w' ∧ (ClaimNo l claim → e = .returned (.tuple #[.slice none 0 0, .int .i64 2])) ∧ (¬ ClaimNo l claim → ∃ bH, e = .returned (.tuple #[.slice (some ⟨bH, 0, none⟩) l.length l.length, .int .i64 0]) ∧ w'.rowIs bH 4 l.length (fun j => .bool (tru l letter claim j)))
theorem meth_any (v : Value) (B : Nat) (av lv : Value) (l : List (Int × Int)) (letter : List Bool) (claim : Int) (w : World) (hc : lcode letter.length l = 0) (hV : WholeAt w v B av l) (hL : BoolsV w lv letter) :
    Calls Tryz.prog 77 #[.agg #[v, .slice (some ⟨B, 0, none⟩) l.length l.length, av], lv, .int .i64 claim] w (MethPost l letter claim w) := by
  obtain ⟨hp0, hp6, hz, hlf, h6⟩ := lcode_zero hc
  obtain ⟨hne, h60⟩ := ends_ne hz
  rw [List.length_map] at h60
  obtain ⟨b, off, cap, rfl, hbl, hat, hrow, hav⟩ := hV
  obtain ⟨aao, ac, rfl, ha⟩ := id hav
  obtain ⟨lo, lc, rfl, hl⟩ := id hL
  by_cases hcl : ClaimNo l claim
  · exact (truths_out _ _ _ _ aao _ ac claim lo _ lc (some ⟨b, off, none⟩) (some ⟨B, 0, none⟩) l.length cap l.length l.length rfl rfl rfl rfl h6 w hcl).mono fun e w' ⟨h1, h2⟩ => ⟨h2, fun _ => h1, fun h => absurd hcl h⟩
  · have h0n : 0 < l.length := by
      cases l with
      | nil => exact absurd rfl hne
      | cons _ _ => simp
    refine (truths_in b off cap l.length B aao _ ac lo _ lc l letter claim w h0n h60 rfl hz hat hbl hrow rfl hav h6 rfl hL hlf (by unfold ClaimNo at hcl; omega) (by unfold ClaimNo at hcl; omega)).mono fun e w' ⟨bH, h1, h2, h3, _⟩ => ⟨h2, fun h => absurd h hcl, fun _ => ⟨bH, h1, h3.out⟩⟩

/-- what Truths answers. -/
noncomputable def tcode (l : List (Int × Int)) (letter : List Bool) (claim : Int) : Int := by classical exact if lcode letter.length l = 0 then (if ClaimNo l claim then 2 else 0) else lcode letter.length l
noncomputable def truL (l : List (Int × Int)) (letter : List Bool) (claim : Int) : List Bool := if tcode l letter claim = 0 then (List.range l.length).map (tru l letter claim) else []
theorem tcode_bad {l : List (Int × Int)} {letter : List Bool} {claim : Int} (h : lcode letter.length l ≠ 0) : tcode l letter claim = lcode letter.length l := by unfold tcode; rw [if_neg h]
theorem tcode_no {l : List (Int × Int)} {letter : List Bool} {claim : Int} (h : lcode letter.length l = 0) (h2 : ClaimNo l claim) : tcode l letter claim = 2 := by unfold tcode; rw [if_pos h, if_pos h2]
theorem tcode_ok {l : List (Int × Int)} {letter : List Bool} {claim : Int} (h : lcode letter.length l = 0) (h2 : ¬ ClaimNo l claim) : tcode l letter claim = 0 := by unfold tcode; rw [if_pos h, if_neg h2]
theorem boolsV_tru {w : World} {bH : Nat} {l : List (Int × Int)} {letter : List Bool} {claim : Int} (h : w.rowIs bH 4 l.length (fun j => .bool (tru l letter claim j))) : BoolsV w (.slice (some ⟨bH, 0, none⟩) l.length l.length) ((List.range l.length).map (tru l letter claim)) := by
  have h2 := boolsV_of_row (w := w) (B := bH) (l := (List.range l.length).map (tru l letter claim)) (by
    rw [List.length_map, List.length_range]
    exact h.congr fun j hj => by simp [List.getD_eq_getElem?_getD, hj])
  rwa [List.length_map, List.length_range] at h2

/-- What read leaves, in one form. -/
theorem lread2 (v : Value) (l : List (Int × Int)) (props : Int) (w : World) (hB : 0 < w.heap.size) (hT : TabAt w) (hV : OpsV w v l) :
    Calls Tryz.prog 59 #[v, .int .i64 props] w fun e w' => Below w.heap.size w w' ∧ (lcode props l ≠ 0 → e = .returned (.tuple #[.agg #[.slice none 0 0, .slice none 0 0, .slice none 0 0], .int .i64 (lcode props l)])) ∧ (lcode props l = 0 → ∃ B aao ac, e = .returned (.tuple #[.agg #[v, .slice (some ⟨B, 0, none⟩) l.length l.length, .slice aao (aheadL l).length ac], .int .i64 0]) ∧ Hid (WholeAt w' v B (.slice aao (aheadL l).length ac) l)) := by
  refine (lread_any v l props w hB hT hV).mono fun e w' ⟨h1, h2, h3⟩ => ⟨h1, h2, fun hz => ?_⟩
  obtain ⟨B, av, _, he, hrow, ho⟩ := h3 hz
  obtain ⟨aao, ac, rfl⟩ := owns_slice ho
  obtain ⟨_, _, hze, _, _⟩ := lcode_zero hz
  obtain ⟨hne, _⟩ := ends_ne hze
  obtain ⟨b, off, hat⟩ : ∃ b off, (∃ cap, v = .slice (some ⟨b, off, none⟩) l.length cap) ∧ b < w'.heap.size ∧ OpsAt w' b off l := by
    obtain ⟨ao, cap, rfl, _, h⟩ := hV.below h1
    obtain ⟨b, off, rfl, hlt, hat⟩ := h (by rintro rfl; exact hne rfl)
    exact ⟨b, off, ⟨cap, rfl⟩, hlt, hat⟩
  obtain ⟨⟨cap, hv⟩, hlt, hat⟩ := hat
  exact ⟨B, aao, ac, he, b, off, cap, hv, hlt, hat, hrow, intsV_of_owns ho⟩

set_option maxHeartbeats 800000 in
set_option maxRecDepth 20000 in
/-- THE CONTRACT OF logic.Truths. -/
theorem ltruths_any (v lv : Value) (l : List (Int × Int)) (letter : List Bool) (claim : Int) (w : World) (hB : 0 < w.heap.size) (hT : TabAt w) (hV : OpsV w v l) (hL : BoolsV w lv letter) :
    Calls Tryz.prog 54 #[v, lv, .int .i64 claim] w fun e w' => ∃ v', e = .returned (.tuple #[v', .int .i64 (tcode l letter claim)]) ∧ Below w.heap.size w w' ∧ BoolsV w' v' (truL l letter claim) := by
  have hrd := lread2 v l letter.length w hB hT hV
  obtain ⟨lo, lc, rfl, hl⟩ := id hL
  obtain ⟨oo, oc, rfl, _⟩ := id hV
  by_cases hc : lcode letter.length l = 0
  · have HM : Hid (∀ w1 B aao ac, Below w.heap.size w w1 → WholeAt w1 (.slice oo l.length oc) B (.slice aao (aheadL l).length ac) l → ∀ o, Calls Tryz.prog 77 #[.agg #[.slice oo l.length oc, .slice (some ⟨B, 0, none⟩) l.length l.length, .slice aao (aheadL l).length ac], .slice lo letter.length lc, .int .i64 claim] (w1.alloc o) fun e w' => ∃ ro rn rc, e = .returned (.tuple #[.slice ro rn rc, .int .i64 (tcode l letter claim)]) ∧ Below w1.heap.size w1 w' ∧ Hid (BoolsV w' (.slice ro rn rc) (truL l letter claim))) := fun w1 B aao ac hb hW o => by
      have hA : Below w1.heap.size w1 (w1.alloc o) := (Below.refl _ _).alloc (Nat.le_refl _) o
      refine (meth_any _ B _ _ l letter claim (w1.alloc o) hc (hW.below hA) ((hL.below hb).below hA)).mono fun e w' ⟨h1, h2, h3⟩ => ?_
      have h1' := hA.trans (h1.mono hA.size)
      by_cases hn : ClaimNo l claim
      · exact ⟨none, 0, 0, by rw [tcode_no hc hn]; exact h2 hn, h1', by show BoolsV _ _ _; unfold truL; rw [tcode_no hc hn]; exact ⟨none, 0, rfl, fun h => absurd rfl h⟩⟩
      · obtain ⟨bH, he, hr⟩ := h3 hn
        exact ⟨_, _, _, by rw [tcode_ok hc hn]; exact he, h1', by show BoolsV _ _ _; unfold truL; rw [tcode_ok hc hn]; exact boolsV_tru hr⟩
    have hrd2 : Calls Tryz.prog 59 #[.slice oo l.length oc, .int .i64 (letter.length : Int)] w fun e w' => Below w.heap.size w w' ∧ ∃ B aao ac, e = .returned (.tuple #[.agg #[.slice oo l.length oc, .slice (some ⟨B, 0, none⟩) l.length l.length, .slice aao (aheadL l).length ac], .int .i64 0]) ∧ Hid (WholeAt w' (.slice oo l.length oc) B (.slice aao (aheadL l).length ac) l) := hrd.mono fun e w' ⟨h1, _, h3⟩ => ⟨h1, h3 hc⟩
    generalize tcode l letter claim = x at *
    generalize truL l letter claim = res at *
    generalize (aheadL l).length = an at *
    generalize letter.length = ln at *
    generalize l.length = n at *
    clear hrd hT hV hL hl hc
    go_enter Tryz.func54, Tryz.ntmps54
    go_wp2_with (first | (go_at_call 59; refine hrd2.mono ?_; rintro e w1 ⟨hb1, B, aao, ac, rfl, HW⟩; have hme := HM.out w1 B aao ac hb1 HW.out) | (go_at_call 77; refine (hme _).mono ?_; rintro e w2 ⟨ro, rn, rc, rfl, hb2, HR⟩))
    go_ret2
    exact ⟨_, rfl, hb1.trans (hb2.mono hb1.size), HR.out⟩
  · have hrd2 : Calls Tryz.prog 59 #[.slice oo l.length oc, .int .i64 (letter.length : Int)] w fun e w' => Below w.heap.size w w' ∧ e = .returned (.tuple #[.agg #[.slice none 0 0, .slice none 0 0, .slice none 0 0], .int .i64 (lcode letter.length l)]) := hrd.mono fun e w' ⟨h1, h2, _⟩ => ⟨h1, h2 hc⟩
    have HX : Hid (tcode l letter claim = lcode letter.length l ∧ truL l letter claim = []) := ⟨tcode_bad hc, by unfold truL; rw [if_neg (by rw [tcode_bad hc]; exact hc)]⟩
    rw [HX.out.1, HX.out.2]
    generalize lcode letter.length l = x at *
    generalize letter.length = ln at *
    generalize l.length = n at *
    clear hrd hT hV hL hl HX
    go_enter Tryz.func54, Tryz.ntmps54
    go_wp2_with (go_at_call 59; refine hrd2.mono ?_; rintro e w1 ⟨hb1, rfl⟩)
    go_ret2
    exact ⟨_, rfl, by first | exact hb1 | exact hb1.alloc hb1.size _, none, 0, rfl, fun h => absurd rfl h⟩
end Go.Proofs.YtdlpmomohbdpgaaGreatDoor

/-
  The contracts of logic's waits and comes.
-/
namespace Go.Proofs.YtdlpmomohbdpgaaGreatDoor
open Go.ChangeShapes Go.WideShapes Go.ChangeAt Go.RowKit Go.Deep
open Terms

/-- does an op that looks ahead put off what must come? -/
def waitB (k : Int) (a x y : Bool) : Bool := if k = 17 then a && !x else if k = 18 then !a && x else if k = 15 then a && !y else if k = 16 then !a && y else false
/-- does it hold by what holds now and at the next moment? -/
def comeB (k : Int) (x y z nx : Bool) : Bool := if k = 17 then x || z else if k = 18 then x && z else if k = 15 then y || (x && z) else if k = 16 then y && (x || z) else nx

/-- what waits and comes stand on. -/
structure PlaceIn (w : World) (b off n cap B bH : Nat) (l : List (Int × Int)) (h : Nat → Bool) (p : Nat) (kx : Int) : Prop where
  n60 : n ≤ 60
  pl : p < n
  one : p + 1 < n
  two : kx = 15 ∨ kx = 16 → sec l p < n
  kind : w.cell? ⟨b, off + p * 2, none⟩ = some (.int .i64 kx)
  bl : b < w.heap.size
  row : ∀ j, j < n → w.cell? ⟨bH, j, none⟩ = some (.bool (h j))
  hl : bH < w.heap.size
  ends : ∀ j, j < n → w.cell? ⟨B, j, none⟩ = some (.int .i64 (endAt (l.map Prod.fst) j))
  el : B < w.heap.size

set_option maxHeartbeats 1600000 in
set_option maxRecDepth 20000 in
theorem waits_any (b off n cap B bH : Nat) (l : List (Int × Int)) (h : Nat → Bool) (p : Nat) (kx : Int) (aao : Option Addr) (an ac : Nat) (w : World) (hI : PlaceIn w b off n cap B bH l h p kx) :
    Calls Tryz.prog 98 #[.agg #[.slice (some ⟨b, off, none⟩) n cap, .slice (some ⟨B, 0, none⟩) n n, .slice aao an ac], .int .i64 (p : Int), .slice (some ⟨bH, 0, none⟩) n n] w fun e w' => e = .returned (.bool (waitB kx (h p) (h (p + 1)) (h (sec l p)))) ∧ Below w.heap.size w w' := by
  obtain ⟨h60, hp, hp1, hp2, ck, hbl, hrow, hhl, hends, hel⟩ := hI
  have hA : ∀ o, Below w.heap.size w (w.alloc o) := fun o => (Below.refl _ _).alloc (Nat.le_refl _) o
  have hpa := fun o => parts_any b off cap n B bH p _ h l aao an ac rfl (w.alloc o) (fun j hj => ((hA o).cell (p := ⟨bH, j, none⟩) hhl).trans (hrow j hj)) (Nat.lt_of_lt_of_le hhl (hA o).size) (fun j hj => ((hA o).cell (p := ⟨B, j, none⟩) hel).trans (hends j hj)) (Nat.lt_of_lt_of_le hel (hA o).size)
  have hpa := hpa (.cells #[.slice (some ⟨b, off, none⟩) n cap, .slice (some ⟨B, 0, none⟩) n n, .slice aao an ac] 114)
  simp only [World.size_alloc] at hpa
  have HP2 : Hid (∀ w2, Below (w.heap.size + 1) (w.alloc (.cells #[.slice (some ⟨b, off, none⟩) n cap, .slice (some ⟨B, 0, none⟩) n n, .slice aao an ac] 114)) w2 → Below w.heap.size w w2 ∧ w2.cell? ⟨b, off + p * 2, none⟩ = some (.int .i64 kx) ∧ w2.cell? ⟨bH, p, none⟩ = some (.bool (h p)) ∧ w2.cell? ⟨w.heap.size, 0, none⟩ = some (.slice (some ⟨b, off, none⟩) n cap)) := fun w2 hb => by
    have hb2 := (hA _).trans (hb.mono (Nat.le_succ _))
    exact ⟨hb2, (hb2.cell (p := ⟨b, _, none⟩) hbl).trans ck, (hb2.cell (p := ⟨bH, _, none⟩) hhl).trans (hrow p hp), (hb.cell (p := ⟨w.heap.size, 0, none⟩) (by simp)).trans (by simp [go_sem])⟩
  have HF : Hid (∀ w2 bh bf bp, PartsAt w2 bh bf bp bH n B p h l → Calls Tryz.prog 116 #[.pointer (some ⟨bh, 0, none⟩), .pointer (some ⟨bp, 0, none⟩)] w2 fun e w' => e = .returned (.bool (h (p + 1))) ∧ w' = w2) := fun w2 bh bf bp hP => first_any bh bp bH n p _ w2 h60 hp1 hP.holds hP.place (hP.row _ hp1)
  have HS : Hid ((kx = 15 ∨ kx = 16) → ∀ w2 bh bf bp, PartsAt w2 bh bf bp bH n B p h l → Calls Tryz.prog 117 #[.pointer (some ⟨bh, 0, none⟩), .pointer (some ⟨bf, 0, none⟩), .pointer (some ⟨bp, 0, none⟩)] w2 fun e w' => e = .returned (.bool (h (sec l p))) ∧ ∃ r, w' = w2.drewN r) := fun hk w2 bh bf bp hP => second_any bh bf bp bH n B p (sec l p) _ w2 h60 hp1 (hp2 hk) hP.holds hP.place hP.ends (hP.erow _ hp1) (hP.row _ (hp2 hk))
  generalize hx : h (p + 1) = x at *
  generalize hy : h (sec l p) = y at *
  generalize hz : h p = z at *
  clear hx hy hz hrow hends ck hp2 hA
  by_cases e17 : kx = 17
  · subst e17
    rw [show waitB 17 z x y = (z && !x) by simp [waitB]]
    clear HS
    cases z
    all_goals
      go_enter Tryz.func98, Tryz.ntmps98
      go_wp2_with (first | (go_at_call 96; refine hpa.mono ?_; rintro e w2 ⟨rfl, hb2, HP⟩; obtain ⟨hbw, d0, d1, d2⟩ := HP2.out w2 hb2; have hf := HF.out w2 _ _ _ HP.out) | (go_at_call 116; refine hf.mono ?_; rintro e w3 ⟨rfl, hw3⟩; obtain rfl := hw3.symm))
      go_ret
      exact ⟨by first | rfl | simp, by first | exact hbw | exact below_drewN hbw _⟩
  · by_cases e18 : kx = 18
    · subst e18
      rw [show waitB 18 z x y = (!z && x) by simp [waitB]]
      clear HS
      cases z
      all_goals
        go_enter Tryz.func98, Tryz.ntmps98
        go_wp2_with (first | (go_at_call 96; refine hpa.mono ?_; rintro e w2 ⟨rfl, hb2, HP⟩; obtain ⟨hbw, d0, d1, d2⟩ := HP2.out w2 hb2; have hf := HF.out w2 _ _ _ HP.out) | (go_at_call 116; refine hf.mono ?_; rintro e w3 ⟨rfl, hw3⟩; obtain rfl := hw3.symm))
        go_ret
        exact ⟨by first | rfl | simp, by first | exact hbw | exact below_drewN hbw _⟩
    · by_cases e15 : kx = 15
      · subst e15
        rw [show waitB 15 z x y = (z && !y) by simp [waitB]]
        have HS2 := (show Hid _ from HS.out (by decide))
        clear HS
        cases z
        all_goals
          go_enter Tryz.func98, Tryz.ntmps98
          go_wp2_with (first | (go_at_call 96; refine hpa.mono ?_; rintro e w2 ⟨rfl, hb2, HP⟩; obtain ⟨hbw, d0, d1, d2⟩ := HP2.out w2 hb2; have hs := HS2.out w2 _ _ _ HP.out) | (go_at_call 117; refine hs.mono ?_; rintro e w3 ⟨rfl, r3, rfl⟩))
          go_ret
          exact ⟨by first | rfl | simp, by first | exact hbw | exact below_drewN hbw _⟩
      · by_cases e16 : kx = 16
        · subst e16
          rw [show waitB 16 z x y = (!z && y) by simp [waitB]]
          have HS2 := (show Hid _ from HS.out (by decide))
          clear HS
          cases z
          all_goals
            go_enter Tryz.func98, Tryz.ntmps98
            go_wp2_with (first | (go_at_call 96; refine hpa.mono ?_; rintro e w2 ⟨rfl, hb2, HP⟩; obtain ⟨hbw, d0, d1, d2⟩ := HP2.out w2 hb2; have hs := HS2.out w2 _ _ _ HP.out) | (go_at_call 117; refine hs.mono ?_; rintro e w3 ⟨rfl, r3, rfl⟩))
            go_ret
            exact ⟨by first | rfl | simp, by first | exact hbw | exact below_drewN hbw _⟩
        · rw [show waitB kx z x y = false by simp [waitB, e17, e18, e15, e16]]
          clear HS
          go_enter Tryz.func98, Tryz.ntmps98
          go_wp2_with (first | (go_at_call 96; refine hpa.mono ?_; rintro e w2 ⟨rfl, hb2, HP⟩; obtain ⟨hbw, d0, d1, d2⟩ := HP2.out w2 hb2))
          go_ret
          exact ⟨rfl, hbw⟩

theorem itself_any (bn bp bN n pl : Nat) (x : Bool) (w : World) (hp : pl < n) (c0 : w.cell? ⟨bn, 0, none⟩ = some (.slice (some ⟨bN, 0, none⟩) n n)) (c1 : w.cell? ⟨bp, 0, none⟩ = some (.int .i64 pl)) (c2 : w.cell? ⟨bN, pl, none⟩ = some (.bool x)) :
    Calls Tryz.prog 105 #[.pointer (some ⟨bn, 0, none⟩), .pointer (some ⟨bp, 0, none⟩)] w fun e w' => e = .returned (.bool x) ∧ w' = w := by
  go_enter Tryz.func105, Tryz.ntmps105
  go_wp2_with fail
  go_ret
  exact ⟨rfl, rfl⟩
end Go.Proofs.YtdlpmomohbdpgaaGreatDoor

/-
  What logic.Meets answers; its contract.
-/
namespace Go.Proofs.YtdlpmomohbdpgaaGreatDoor
open Go.ChangeShapes Go.WideShapes Go.ChangeAt Go.RowKit Go.Deep
open Terms

/-- does the op at a place wait? -/
def waitAt (l : List (Int × Int)) (h : Nat → Bool) (p : Nat) : Bool := waitB (l.getD p (0, 0)).1 (h p) (h (p + 1)) (h (sec l p))
/-- the bits of those that do not, of the first k. -/
def metTo (l : List (Int × Int)) (h : Nat → Bool) : Nat → Int
  | 0 => 0
  | k + 1 => metTo l h k + if waitAt l h ((aheadL l).getD k 0).toNat = true then 0 else 2 ^ k
theorem metTo_bounds (l : List (Int × Int)) (h : Nat → Bool) : ∀ k, 0 ≤ metTo l h k ∧ metTo l h k < 2 ^ k := by
  intro k
  induction k with
  | zero => simp [metTo]
  | succ k ih =>
    have h2 : (0 : Int) < 2 ^ k := Int.pow_pos (by decide)
    simp only [metTo]
    rw [Int.pow_succ]
    split <;> omega
theorem or_small : ∀ k, k < 6 → ∀ c, c < 2 ^ k → bits BinOp.or IntKind.i64 ((c : Nat) : Int) (2 ^ k) = ((c : Nat) : Int) + 2 ^ k := by decide
theorem or_bit {c : Int} {k : Nat} (hk : k < 6) (h0 : 0 ≤ c) (h1 : c < 2 ^ k) : bits BinOp.or IntKind.i64 c (2 ^ k) = c + 2 ^ k := by
  obtain ⟨m, rfl⟩ : ∃ m : Nat, c = m := ⟨c.toNat, by omega⟩
  refine or_small k hk m ?_
  have e : ((2 ^ k : Nat) : Int) = 2 ^ k := by simp
  omega
theorem pow_small {k : Nat} (hk : k ≤ 6) : (2 : Int) ^ k ≤ 64 := by
  have hcase : k = 0 ∨ k = 1 ∨ k = 2 ∨ k = 3 ∨ k = 4 ∨ k = 5 ∨ k = 6 := by omega
  rcases hcase with rfl | rfl | rfl | rfl | rfl | rfl | rfl <;> decide
/-- what Meets answers. -/
noncomputable def metN (l : List (Int × Int)) (letter : List Bool) (claim : Int) : Int := if tcode l letter claim = 0 then metTo l (tru l letter claim) (aheadL l).length else 0

/-- the place in the list of those that look ahead. -/
theorem place_in {w : World} {b off cap B bH : Nat} {av : Value} {l : List (Int × Int)} {h : Nat → Bool} (hW : WholeAt w (.slice (some ⟨b, off, none⟩) l.length cap) B av l) (hz : endsCode (l.map Prod.fst) = 0) (hr : w.rowIs bH 4 l.length (fun j => .bool (h j))) {p : Nat} (hp : p < l.length) (hk : lookB (l.getD p (0, 0)).1 = true) : PlaceIn w b off l.length cap B bH l h p (l.getD p (0, 0)).1 := by
  obtain ⟨b', off', cap', hv, hbl, hat, hrow, _⟩ := hW
  injection hv with e1 e2 e3
  injection Option.some.inj e1 with e4 e5
  subst e4 e5
  obtain ⟨hne, h60⟩ := ends_ne hz
  rw [List.length_map] at h60
  obtain ⟨h1, h2⟩ := part_in hz hp
  have hk' : 14 ≤ (l.getD p (0, 0)).1 ∧ (l.getD p (0, 0)).1 ≤ 18 := by simpa [lookB] using hk
  have hpn : 1 ≤ pn (l.getD p (0, 0)).1 := by
    unfold pn
    split
    · omega
    · split
      · omega
      · omega
  exact ⟨h60, hp, h1 hpn, fun e => (h2 (by rcases e with e | e <;> rw [e] <;> rfl)).2, (hat p hp).1, hbl, fun j hj => hr.cell hj, hr.lt, fun j hj => hrow.cell hj, hrow.lt⟩

set_option maxHeartbeats 1600000 in
set_option maxRecDepth 20000 in
/-- THE CONTRACT OF logic.Meets. -/
theorem lmeets_any (v lv : Value) (l : List (Int × Int)) (letter : List Bool) (claim : Int) (w : World) (hB : 0 < w.heap.size) (hT : TabAt w) (hV : OpsV w v l) (hL : BoolsV w lv letter) :
    Calls Tryz.prog 78 #[v, lv, .int .i64 claim] w fun e w' => e = .returned (.tuple #[.int .i64 (metN l letter claim), .int .i64 (tcode l letter claim)]) ∧ Below w.heap.size w w' := by
  have hrd := lread2 v l letter.length w hB hT hV
  obtain ⟨lo, lc, rfl, hl⟩ := id hL
  obtain ⟨oo, oc, rfl, _⟩ := id hV
  by_cases hc : lcode letter.length l = 0
  · obtain ⟨_, _, hz, _, h6⟩ := lcode_zero hc
    have hrd2 : Calls Tryz.prog 59 #[.slice oo l.length oc, .int .i64 (letter.length : Int)] w fun e w' => Below w.heap.size w w' ∧ ∃ B aao ac, e = .returned (.tuple #[.agg #[.slice oo l.length oc, .slice (some ⟨B, 0, none⟩) l.length l.length, .slice aao (aheadL l).length ac], .int .i64 0]) ∧ Hid (WholeAt w' (.slice oo l.length oc) B (.slice aao (aheadL l).length ac) l) := hrd.mono fun e w' ⟨h1, _, h3⟩ => ⟨h1, h3 hc⟩
    have HM : Hid (∀ w1 B aao ac, Below w.heap.size w w1 → WholeAt w1 (.slice oo l.length oc) B (.slice aao (aheadL l).length ac) l → Calls Tryz.prog 77 #[.agg #[.slice oo l.length oc, .slice (some ⟨B, 0, none⟩) l.length l.length, .slice aao (aheadL l).length ac], .slice lo letter.length lc, .int .i64 claim] (w1.alloc (.cells #[.slice oo l.length oc, .slice (some ⟨B, 0, none⟩) l.length l.length, .slice aao (aheadL l).length ac] 114)) fun e w' => Below (w1.heap.size + 1) (w1.alloc (.cells #[.slice oo l.length oc, .slice (some ⟨B, 0, none⟩) l.length l.length, .slice aao (aheadL l).length ac] 114)) w' ∧ (ClaimNo l claim → e = .returned (.tuple #[.slice none 0 0, .int .i64 2])) ∧ (¬ ClaimNo l claim → ∃ bH, e = .returned (.tuple #[.slice (some ⟨bH, 0, none⟩) l.length l.length, .int .i64 0]) ∧ Hid (w'.rowIs bH 4 l.length (fun j => .bool (tru l letter claim j))))) := fun w1 B aao ac hb hW => by
      have hA : ∀ o, Below w1.heap.size w1 (w1.alloc o) := fun o => (Below.refl _ _).alloc (Nat.le_refl _) o
      refine (meth_any _ B _ _ l letter claim (w1.alloc _) hc (hW.below (hA _)) ((hL.below hb).below (hA _))).mono fun e w' ⟨h1, h2, h3⟩ => ⟨?_, h2, h3⟩
      simpa using h1
    by_cases hcl : ClaimNo l claim
    · have htc : tcode l letter claim = 2 := tcode_no hc hcl
      rw [htc, show metN l letter claim = 0 by unfold metN; rw [htc]; rfl]
      have HM2 : Hid (∀ w1 B aao ac, Below w.heap.size w w1 → WholeAt w1 (.slice oo l.length oc) B (.slice aao (aheadL l).length ac) l → Calls Tryz.prog 77 #[.agg #[.slice oo l.length oc, .slice (some ⟨B, 0, none⟩) l.length l.length, .slice aao (aheadL l).length ac], .slice lo letter.length lc, .int .i64 claim] (w1.alloc (.cells #[.slice oo l.length oc, .slice (some ⟨B, 0, none⟩) l.length l.length, .slice aao (aheadL l).length ac] 114)) fun e w' => e = .returned (.tuple #[.slice none 0 0, .int .i64 2]) ∧ Below w1.heap.size w1 w') := fun w1 B aao ac hb hW => (HM.out w1 B aao ac hb hW).mono fun e w' ⟨h1, h2, _⟩ => ⟨h2 hcl, ((Below.refl _ _).alloc (Nat.le_refl _) _).trans (h1.mono (Nat.le_succ _))⟩
      generalize (aheadL l).length = an at *
      generalize letter.length = ln at *
      generalize l.length = n at *
      clear hrd hT hV hL hl hc HM hcl htc hz h6
      go_enter Tryz.func78, Tryz.ntmps78
      go_wp2_with (first | (go_at_call 59; refine hrd2.mono ?_; rintro e w1 ⟨hb1, B, aao, ac, rfl, HW⟩; have hme := HM2.out w1 B aao ac hb1 HW.out) | (go_at_call 77; refine hme.mono ?_; rintro e w2 ⟨rfl, hb2⟩))
      go_ret2
      exact ⟨rfl, hb1.trans (hb2.mono hb1.size)⟩
    · have htc : tcode l letter claim = 0 := tcode_ok hc hcl
      rw [htc, show metN l letter claim = metTo l (tru l letter claim) (aheadL l).length by unfold metN; rw [htc]; rfl]
      have HM2 : Hid (∀ w1 B aao ac, Below w.heap.size w w1 → WholeAt w1 (.slice oo l.length oc) B (.slice aao (aheadL l).length ac) l → Calls Tryz.prog 77 #[.agg #[.slice oo l.length oc, .slice (some ⟨B, 0, none⟩) l.length l.length, .slice aao (aheadL l).length ac], .slice lo letter.length lc, .int .i64 claim] (w1.alloc (.cells #[.slice oo l.length oc, .slice (some ⟨B, 0, none⟩) l.length l.length, .slice aao (aheadL l).length ac] 114)) fun e w' => ∃ bH, e = .returned (.tuple #[.slice (some ⟨bH, 0, none⟩) l.length l.length, .int .i64 0]) ∧ Below w1.heap.size w1 w' ∧ w1.heap.size < w'.heap.size ∧ w'.cell? ⟨w1.heap.size, 0, none⟩ = some (.slice oo l.length oc) ∧ w'.cell? ⟨w1.heap.size, 1, none⟩ = some (.slice (some ⟨B, 0, none⟩) l.length l.length) ∧ w'.cell? ⟨w1.heap.size, 2, none⟩ = some (.slice aao (aheadL l).length ac) ∧ Hid (WholeAt w' (.slice oo l.length oc) B (.slice aao (aheadL l).length ac) l ∧ w'.rowIs bH 4 l.length (fun j => .bool (tru l letter claim j)))) := fun w1 B aao ac hb hW => (HM.out w1 B aao ac hb hW).mono fun e w' ⟨h1, _, h3⟩ => by
        obtain ⟨bH, he, hr⟩ := h3 hcl
        have hb' : Below w1.heap.size w1 w' := ((Below.refl _ _).alloc (Nat.le_refl _) _).trans (h1.mono (Nat.le_succ _))
        refine ⟨bH, he, hb', by have := h1.size; simp at this; omega, (h1.cell (p := ⟨w1.heap.size, 0, none⟩) (Nat.lt_succ_self _)).trans (by simp [go_sem]), (h1.cell (p := ⟨w1.heap.size, 1, none⟩) (Nat.lt_succ_self _)).trans (by simp [go_sem]), (h1.cell (p := ⟨w1.heap.size, 2, none⟩) (Nat.lt_succ_self _)).trans (by simp [go_sem]), hW.below hb', hr.out⟩
      have HWa : Hid (∀ w2 B bH aao ac p, WholeAt w2 (.slice oo l.length oc) B (.slice aao (aheadL l).length ac) l → w2.rowIs bH 4 l.length (fun j => .bool (tru l letter claim j)) → p < l.length → lookB (l.getD p (0, 0)).1 = true → Calls Tryz.prog 98 #[.agg #[.slice oo l.length oc, .slice (some ⟨B, 0, none⟩) l.length l.length, .slice aao (aheadL l).length ac], .int .i64 (p : Int), .slice (some ⟨bH, 0, none⟩) l.length l.length] w2 fun e w' => e = .returned (.bool (waitAt l (tru l letter claim) p)) ∧ Below w2.heap.size w2 w') := fun w2 B bH aao ac p hW hr hp hk => by
        obtain ⟨b, off, cap, hv, _⟩ := id hW
        injection hv with e1 e2 e3
        subst e1 e3
        exact waits_any b off l.length oc B bH l _ p _ aao _ ac w2 (place_in hW hz hr hp hk)
      have HG : Hid (∀ w2 B aao ac k, WholeAt w2 (.slice oo l.length oc) B (.slice aao (aheadL l).length ac) l → k < (aheadL l).length → ∃ p : Nat, (∃ ab aoff, aao = some ⟨ab, aoff, none⟩ ∧ w2.cell? ⟨ab, aoff + k, none⟩ = some (.int .i64 (p : Int))) ∧ p < l.length ∧ lookB (l.getD p (0, 0)).1 = true ∧ ((aheadL l).getD k 0).toNat = p) := fun w2 B aao ac k hW hk => by
        obtain ⟨_, _, _, _, _, _, _, ao', ac', hsl, hai⟩ := hW
        injection hsl with e1 e2 e3
        subst e1
        obtain ⟨ab, aoff, rfl, habl, haat⟩ := hai (by intro h; rw [h] at hk; simp at hk)
        obtain ⟨p, h1, h2, h3, h4⟩ := aheadTo_get l l.length k hk
        have h1' : (aheadL l).getD k 0 = (p : Int) := h1
        exact ⟨p, ⟨ab, aoff, rfl, by rw [haat k hk, h1']⟩, h2, h3, by rw [h1']; rfl⟩
      have HMS : Hid (∀ k, metTo l (tru l letter claim) (k + 1) = metTo l (tru l letter claim) k + if waitAt l (tru l letter claim) ((aheadL l).getD k 0).toNat = true then 0 else 2 ^ k) := fun _ => rfl
      have HMB : Hid (∀ k, 0 ≤ metTo l (tru l letter claim) k ∧ metTo l (tru l letter claim) k < 2 ^ k) := metTo_bounds _ _
      have HM0 : Hid (metTo l (tru l letter claim) 0 = 0) := rfl
      generalize metTo l (tru l letter claim) = mt at *
      generalize hwt : waitAt l (tru l letter claim) = wt at *
      clear hwt
      obtain ⟨an, han⟩ : ∃ an, an = (aheadL l).length := ⟨_, rfl⟩
      rw [← han] at hrd2 HM2 HWa HG h6 ⊢
      generalize hnn : l.length = n at *
      generalize letter.length = ln at *
      clear hrd hT hV hL hl hc HM hcl htc hz hnn han
      go_enter Tryz.func78, Tryz.ntmps78
      go_wp2_with (first | (go_at_call 59; refine hrd2.mono ?_; rintro e w1 ⟨hb1, B, aao, ac, rfl, HW⟩; have hme := HM2.out w1 B aao ac hb1 HW.out) | (go_at_call 77; refine hme.mono ?_; rintro e w2 ⟨bH, rfl, hb2, hs2, d0, d1, d2, HW2⟩))
      have hb12 := hb1.trans (hb2.mono hb1.size)
      clear hrd2 hme HM2 HW
      go_loopw [11, 37] (fun mv i wr => ∃ k : Nat, k ≤ an ∧ i = .int .i64 (k : Int) ∧ mv = .int .i64 (mt k) ∧ Hid (Below w2.heap.size w2 wr)) (fun _ i _ => an - (intOf i).toNat)
      case atStart => exact ⟨0, Nat.zero_le _, rfl, by rw [HM0.out], Below.refl _ _⟩
      case round =>
        obtain ⟨k, hk, rfl, rfl, HBel⟩ := hrel
        have hbel := HBel.out
        have d0' := (hbel.cell (p := ⟨w1.heap.size, 0, none⟩) hs2).trans d0
        have d1' := (hbel.cell (p := ⟨w1.heap.size, 1, none⟩) hs2).trans d1
        have d2' := (hbel.cell (p := ⟨w1.heap.size, 2, none⟩) hs2).trans d2
        by_cases hlt : k < an
        · have hWr := HW2.out.1.below hbel
          obtain ⟨p, ⟨ab, aoff, rfl, hca⟩, hpn, hpk, hpi⟩ := HG.out wr B aao ac k hWr hlt
          have hwa := HWa.out wr B bH _ ac p hWr (row_later HW2.out.2 hbel) hpn hpk
          have HS := (show Hid _ from HMS.out k)
          rw [hpi] at HS
          obtain ⟨hm0, hm1⟩ := HMB.out k
          have hk6 : k < 6 := by omega
          have hps := pow_small (k := k) (by omega)
          have h2k : (0 : Int) < 2 ^ k := Int.pow_pos (by decide)
          have HOr : Hid (bits BinOp.or IntKind.i64 (mt k) (2 ^ k) = mt k + 2 ^ k) := or_bit hk6 hm0 hm1
          generalize wt p = wv at *
          clear HWa HG HMS HMB hpi hpk HW2 hWr
          cases wv with
          | true =>
            have HS2 : Hid (mt (k + 1) = mt k) := by show _ = _; rw [HS.out]; simp
            clear HS
            go_wp2_with (go_at_call 98; refine hwa.mono ?_; rintro e w3 ⟨rfl, hb3⟩)
            exact ⟨⟨k + 1, hlt, by first | rfl | simp, by rw [HS2.out], hbel.trans (hb3.mono hbel.size)⟩, by simp [intOf]; omega⟩
          | false =>
            have HS2 : Hid (mt (k + 1) = mt k + 2 ^ k) := by show _ = _; rw [HS.out]; simp
            clear HS
            go_wp2_with (go_at_call 98; refine hwa.mono ?_; rintro e w3 ⟨rfl, hb3⟩)
            exact ⟨⟨k + 1, hlt, by first | rfl | simp, by rw [HS2.out, ← HOr.out], hbel.trans (hb3.mono hbel.size)⟩, by simp [intOf]; omega⟩
        · obtain rfl : k = an := by omega
          go_wp2_with fail
          go_ret2
          exact ⟨rfl, hb12.trans (hbel.mono hb12.size)⟩
  · have htc := tcode_bad (claim := claim) hc
    rw [htc, show metN l letter claim = 0 by unfold metN; rw [htc, if_neg hc]]
    have hrd2 : Calls Tryz.prog 59 #[.slice oo l.length oc, .int .i64 (letter.length : Int)] w fun e w' => Below w.heap.size w w' ∧ e = .returned (.tuple #[.agg #[.slice none 0 0, .slice none 0 0, .slice none 0 0], .int .i64 (lcode letter.length l)]) := hrd.mono fun e w' ⟨h1, h2, _⟩ => ⟨h1, h2 hc⟩
    generalize lcode letter.length l = x at *
    generalize letter.length = ln at *
    generalize l.length = n at *
    clear hrd hT hV hL hl htc
    go_enter Tryz.func78, Tryz.ntmps78
    go_wp2_with (go_at_call 59; refine hrd2.mono ?_; rintro e w1 ⟨hb1, rfl⟩)
    go_ret2
    exact ⟨rfl, by first | exact hb1 | exact hb1.alloc hb1.size _⟩
end Go.Proofs.YtdlpmomohbdpgaaGreatDoor

/-
  The contract of logic's comes.
-/
namespace Go.Proofs.YtdlpmomohbdpgaaGreatDoor
open Go.ChangeShapes Go.WideShapes Go.ChangeAt Go.RowKit Go.Deep
open Terms

set_option maxHeartbeats 3200000 in
set_option maxRecDepth 20000 in
theorem comes_any (b off n cap B bH bN : Nat) (l : List (Int × Int)) (h g : Nat → Bool) (p : Nat) (kx : Int) (aao : Option Addr) (an ac : Nat) (w : World) (hI : PlaceIn w b off n cap B bH l h p kx) (hN : ∀ j, j < n → w.cell? ⟨bN, j, none⟩ = some (.bool (g j))) (hNl : bN < w.heap.size) :
    Calls Tryz.prog 84 #[.agg #[.slice (some ⟨b, off, none⟩) n cap, .slice (some ⟨B, 0, none⟩) n n, .slice aao an ac], .int .i64 (p : Int), .slice (some ⟨bH, 0, none⟩) n n, .slice (some ⟨bN, 0, none⟩) n n] w fun e w' => e = .returned (.bool (comeB kx (h (p + 1)) (h (sec l p)) (g p) (g (p + 1)))) ∧ Below w.heap.size w w' := by
  obtain ⟨h60, hp, hp1, hp2, ck, hbl, hrow, hhl, hends, hel⟩ := hI
  have hA : Below w.heap.size w (((w.alloc (.cells #[.slice (some ⟨b, off, none⟩) n cap, .slice (some ⟨B, 0, none⟩) n n, .slice aao an ac] 114)).alloc (.cells #[.int .i64 (p : Int)] 3)).alloc (.cells #[.slice (some ⟨bN, 0, none⟩) n n] 61)) := (((Below.refl _ _).alloc (Nat.le_refl _) _).alloc (by simp) _).alloc (by simp; omega) _
  have hpa := parts_any b off cap n B bH p _ h l aao an ac rfl (((w.alloc (.cells #[.slice (some ⟨b, off, none⟩) n cap, .slice (some ⟨B, 0, none⟩) n n, .slice aao an ac] 114)).alloc (.cells #[.int .i64 (p : Int)] 3)).alloc (.cells #[.slice (some ⟨bN, 0, none⟩) n n] 61)) (fun j hj => (hA.cell (p := ⟨bH, j, none⟩) hhl).trans (hrow j hj)) (Nat.lt_of_lt_of_le hhl hA.size) (fun j hj => (hA.cell (p := ⟨B, j, none⟩) hel).trans (hends j hj)) (Nat.lt_of_lt_of_le hel hA.size)
  simp only [World.size_alloc] at hpa
  have HP2 : Hid (∀ w2, Below (w.heap.size + 1 + 1 + 1) (((w.alloc (.cells #[.slice (some ⟨b, off, none⟩) n cap, .slice (some ⟨B, 0, none⟩) n n, .slice aao an ac] 114)).alloc (.cells #[.int .i64 (p : Int)] 3)).alloc (.cells #[.slice (some ⟨bN, 0, none⟩) n n] 61)) w2 → Below w.heap.size w w2 ∧ w2.cell? ⟨b, off + p * 2, none⟩ = some (.int .i64 kx) ∧ w2.cell? ⟨w.heap.size, 0, none⟩ = some (.slice (some ⟨b, off, none⟩) n cap) ∧ w2.cell? ⟨w.heap.size, 1, none⟩ = some (.slice (some ⟨B, 0, none⟩) n n) ∧ w2.cell? ⟨w.heap.size, 2, none⟩ = some (.slice aao an ac) ∧ w2.cell? ⟨w.heap.size + 1, 0, none⟩ = some (.int .i64 (p : Int)) ∧ w2.cell? ⟨w.heap.size + 1 + 1, 0, none⟩ = some (.slice (some ⟨bN, 0, none⟩) n n)) := fun w2 hb => by
    have hb2 := hA.trans (hb.mono (by omega))
    refine ⟨hb2, (hb2.cell (p := ⟨b, _, none⟩) hbl).trans ck, (hb.cell (p := ⟨w.heap.size, 0, none⟩) (by first | (simp; omega) | simp)).trans (by simp [go_sem]), (hb.cell (p := ⟨w.heap.size, 1, none⟩) (by first | (simp; omega) | simp)).trans (by simp [go_sem]), (hb.cell (p := ⟨w.heap.size, 2, none⟩) (by first | (simp; omega) | simp)).trans (by simp [go_sem]), (hb.cell (p := ⟨w.heap.size + 1, 0, none⟩) (by first | (simp; omega) | simp)).trans (by simp [go_sem]), (hb.cell (p := ⟨w.heap.size + 1 + 1, 0, none⟩) (by simp)).trans (by simp [go_sem])⟩
  have HF : Hid (∀ w2 bh bf bp, PartsAt w2 bh bf bp bH n B p h l → ∀ w3, (∀ q, w3.cell? q = w2.cell? q) → Calls Tryz.prog 116 #[.pointer (some ⟨bh, 0, none⟩), .pointer (some ⟨bp, 0, none⟩)] w3 fun e w' => e = .returned (.bool (h (p + 1))) ∧ w' = w3) := fun w2 bh bf bp hP w3 hc => first_any bh bp bH n p _ w3 h60 hp1 ((hc _).trans hP.holds) ((hc _).trans hP.place) ((hc _).trans (hP.row _ hp1))
  have HS : Hid ((kx = 15 ∨ kx = 16) → ∀ w2 bh bf bp, PartsAt w2 bh bf bp bH n B p h l → Calls Tryz.prog 117 #[.pointer (some ⟨bh, 0, none⟩), .pointer (some ⟨bf, 0, none⟩), .pointer (some ⟨bp, 0, none⟩)] w2 fun e w' => e = .returned (.bool (h (sec l p))) ∧ ∃ r, w' = w2.drewN r) := fun hk w2 bh bf bp hP => second_any bh bf bp bH n B p (sec l p) _ w2 h60 hp1 (hp2 hk) hP.holds hP.place hP.ends (hP.erow _ hp1) (hP.row _ (hp2 hk))
  have HZ : Hid (∀ w2, Below w.heap.size w w2 → w2.cell? ⟨w.heap.size + 1, 0, none⟩ = some (.int .i64 (p : Int)) → w2.cell? ⟨w.heap.size + 1 + 1, 0, none⟩ = some (.slice (some ⟨bN, 0, none⟩) n n) → ∀ w3, (∀ q, w3.cell? q = w2.cell? q) → Calls Tryz.prog 105 #[.pointer (some ⟨w.heap.size + 1 + 1, 0, none⟩), .pointer (some ⟨w.heap.size + 1, 0, none⟩)] w3 fun e w' => e = .returned (.bool (g p)) ∧ w' = w3) := fun w2 hb c1 c2 w3 hc => itself_any _ _ bN n p _ w3 hp ((hc _).trans c2) ((hc _).trans c1) ((hc _).trans ((hb.cell (p := ⟨bN, p, none⟩) hNl).trans (hN p hp)))
  have HPN : Hid (∀ w2, Below w.heap.size w w2 → Calls Tryz.prog 96 #[.agg #[.slice (some ⟨b, off, none⟩) n cap, .slice (some ⟨B, 0, none⟩) n n, .slice aao an ac], .int .i64 (p : Int), .slice (some ⟨bN, 0, none⟩) n n] w2 fun e w' => e = .returned (.tuple #[.func (.func 116) #[] #[.pointer (some ⟨w2.heap.size + 1 + 1, 0, none⟩), .pointer (some ⟨w2.heap.size + 1, 0, none⟩)], .func (.func 117) #[] #[.pointer (some ⟨w2.heap.size + 1 + 1, 0, none⟩), .pointer (some ⟨w2.heap.size, 0, none⟩), .pointer (some ⟨w2.heap.size + 1, 0, none⟩)]]) ∧ Below w.heap.size w w' ∧ Hid (Calls Tryz.prog 116 #[.pointer (some ⟨w2.heap.size + 1 + 1, 0, none⟩), .pointer (some ⟨w2.heap.size + 1, 0, none⟩)] w' fun e w'' => e = .returned (.bool (g (p + 1))) ∧ w'' = w')) := fun w2 hb => by
    refine (parts_any b off cap n B bN p _ g l aao an ac rfl w2 (fun j hj => (hb.cell (p := ⟨bN, j, none⟩) hNl).trans (hN j hj)) (Nat.lt_of_lt_of_le hNl hb.size) (fun j hj => (hb.cell (p := ⟨B, j, none⟩) hel).trans (hends j hj)) (Nat.lt_of_lt_of_le hel hb.size)).mono fun e w' ⟨h1, h2, h3⟩ => ⟨h1, hb.trans (h2.mono hb.size), ?_⟩
    exact first_any _ _ bN n p _ w' h60 hp1 h3.out.holds h3.out.place (h3.out.row _ hp1)
  generalize hx : h (p + 1) = x at *
  generalize hy : h (sec l p) = y at *
  generalize hz : g p = z at *
  generalize hnx : g (p + 1) = nx at *
  clear hx hy hz hnx hrow hends ck hp2 hN
  by_cases e17 : kx = 17
  · subst e17
    rw [show comeB 17 x y z nx = (x || z) by simp [comeB]]
    clear HS HPN
    cases x
    all_goals
      go_enter Tryz.func84, Tryz.ntmps84
      go_wp2_with (first | (go_at_call 96; refine hpa.mono ?_; clear hpa; rintro e w2 ⟨rfl, hb2, HP⟩; obtain ⟨hbw, d0, d1, d2, d3, d4, d5⟩ := HP2.out w2 hb2; have hf := HF.out w2 _ _ _ HP.out; have hit := HZ.out w2 hbw d4 d5) | (go_at_call 116; refine (hf _ (by first | exact fun _ => rfl | (intro q; simp))).mono ?_; rintro e w3 ⟨rfl, hw3⟩; obtain rfl := hw3.symm) | (go_at_call 105; refine (hit _ (by first | exact fun _ => rfl | (intro q; simp))).mono ?_; rintro e w3 ⟨rfl, hw3⟩; obtain rfl := hw3.symm))
      go_ret
      exact ⟨by first | rfl | simp, by first | exact hbw | exact below_drewN hbw _⟩
  · by_cases e18 : kx = 18
    · subst e18
      rw [show comeB 18 x y z nx = (x && z) by simp [comeB]]
      clear HS HPN
      cases x
      all_goals
        go_enter Tryz.func84, Tryz.ntmps84
        go_wp2_with (first | (go_at_call 96; refine hpa.mono ?_; clear hpa; rintro e w2 ⟨rfl, hb2, HP⟩; obtain ⟨hbw, d0, d1, d2, d3, d4, d5⟩ := HP2.out w2 hb2; have hf := HF.out w2 _ _ _ HP.out; have hit := HZ.out w2 hbw d4 d5) | (go_at_call 116; refine (hf _ (by first | exact fun _ => rfl | (intro q; simp))).mono ?_; rintro e w3 ⟨rfl, hw3⟩; obtain rfl := hw3.symm) | (go_at_call 105; refine (hit _ (by first | exact fun _ => rfl | (intro q; simp))).mono ?_; rintro e w3 ⟨rfl, hw3⟩; obtain rfl := hw3.symm))
        go_ret
        exact ⟨by first | rfl | simp, by first | exact hbw | exact below_drewN hbw _⟩
    · by_cases e15 : kx = 15
      · subst e15
        rw [show comeB 15 x y z nx = (y || (x && z)) by simp [comeB]]
        have HS2 := (show Hid _ from HS.out (by decide))
        clear HS HPN
        cases x <;> cases y
        all_goals
          go_enter Tryz.func84, Tryz.ntmps84
          go_wp2_with (first | (go_at_call 96; refine hpa.mono ?_; clear hpa; rintro e w2 ⟨rfl, hb2, HP⟩; obtain ⟨hbw, d0, d1, d2, d3, d4, d5⟩ := HP2.out w2 hb2; have hf := HF.out w2 _ _ _ HP.out; have hs := HS2.out w2 _ _ _ HP.out; have hit := HZ.out w2 hbw d4 d5) | (go_at_call 116; refine (hf _ (by first | exact fun _ => rfl | (intro q; simp))).mono ?_; rintro e w3 ⟨rfl, hw3⟩; obtain rfl := hw3.symm) | (go_at_call 117; refine hs.mono ?_; rintro e w3 ⟨rfl, r3, rfl⟩) | (go_at_call 105; refine (hit _ (by first | exact fun _ => rfl | (intro q; simp))).mono ?_; rintro e w3 ⟨rfl, hw3⟩; obtain rfl := hw3.symm))
          go_ret
          exact ⟨by first | rfl | simp, by first | exact hbw | exact below_drewN hbw _⟩
      · by_cases e16 : kx = 16
        · subst e16
          rw [show comeB 16 x y z nx = (y && (x || z)) by simp [comeB]]
          have HS2 := (show Hid _ from HS.out (by decide))
          clear HS HPN
          cases x <;> cases y
          all_goals
            go_enter Tryz.func84, Tryz.ntmps84
            go_wp2_with (first | (go_at_call 96; refine hpa.mono ?_; clear hpa; rintro e w2 ⟨rfl, hb2, HP⟩; obtain ⟨hbw, d0, d1, d2, d3, d4, d5⟩ := HP2.out w2 hb2; have hf := HF.out w2 _ _ _ HP.out; have hs := HS2.out w2 _ _ _ HP.out; have hit := HZ.out w2 hbw d4 d5) | (go_at_call 116; refine (hf _ (by first | exact fun _ => rfl | (intro q; simp))).mono ?_; rintro e w3 ⟨rfl, hw3⟩; obtain rfl := hw3.symm) | (go_at_call 117; refine hs.mono ?_; rintro e w3 ⟨rfl, r3, rfl⟩) | (go_at_call 105; refine (hit _ (by first | exact fun _ => rfl | (intro q; simp))).mono ?_; rintro e w3 ⟨rfl, hw3⟩; obtain rfl := hw3.symm))
            go_ret
            exact ⟨by first | rfl | simp, by first | exact hbw | exact below_drewN hbw _⟩
        · rw [show comeB kx x y z nx = nx by simp [comeB, e17, e18, e15, e16]]
          clear HS HF HZ
          go_enter Tryz.func84, Tryz.ntmps84
          go_wp2_with (first | (go_at_call 96; refine hpa.mono ?_; clear hpa; rintro e w2 ⟨rfl, hb2, HP⟩; obtain ⟨hbw, d0, d1, d2, d3, d4, d5⟩ := HP2.out w2 hb2; have hpn := HPN.out w2 hbw) | (go_at_call 96; refine hpn.mono ?_; rintro e w4 ⟨rfl, hb4, HF4⟩) | (go_at_call 116; refine HF4.out.mono ?_; rintro e w5 ⟨rfl, hw5⟩; obtain rfl := hw5.symm))
          go_ret
          exact ⟨rfl, hb4⟩
end Go.Proofs.YtdlpmomohbdpgaaGreatDoor

/-
  What logic.Follows answers; its contract.
-/
namespace Go.Proofs.YtdlpmomohbdpgaaGreatDoor
open Go.ChangeShapes Go.WideShapes Go.ChangeAt Go.RowKit Go.Deep
open Terms

/-- does the op at a place hold as it should? -/
def comeAt (l : List (Int × Int)) (h g : Nat → Bool) (p : Nat) : Bool := comeB (l.getD p (0, 0)).1 (h (p + 1)) (h (sec l p)) (g p) (g (p + 1))
/-- do two claims follow one another? -/
def Fol (l : List (Int × Int)) (h g : Nat → Bool) : Prop := ∀ p, p < l.length → lookB (l.getD p (0, 0)).1 = true → h p = comeAt l h g p
noncomputable def fcode (l : List (Int × Int)) (now : List Bool) (claim : Int) (next : List Bool) (later : Int) : Int := if now.length ≠ next.length then 1 else if tcode l now claim ≠ 0 then tcode l now claim else tcode l next later
open Classical in
noncomputable def folR (l : List (Int × Int)) (now : List Bool) (claim : Int) (next : List Bool) (later : Int) : Bool := if fcode l now claim next later = 0 then decide (Fol l (tru l now claim) (tru l next later)) else false
theorem folR_bad {l : List (Int × Int)} {now : List Bool} {claim : Int} {next : List Bool} {later : Int} (h : fcode l now claim next later ≠ 0) : folR l now claim next later = false := by unfold folR; rw [if_neg h]
open Classical in
theorem folR_yes {l : List (Int × Int)} {now : List Bool} {claim : Int} {next : List Bool} {later : Int} (h : fcode l now claim next later = 0) (h2 : Fol l (tru l now claim) (tru l next later)) : folR l now claim next later = true := by unfold folR; rw [if_pos h]; exact decide_eq_true h2
open Classical in
theorem folR_no {l : List (Int × Int)} {now : List Bool} {claim : Int} {next : List Bool} {later : Int} (h2 : ¬ Fol l (tru l now claim) (tru l next later)) : folR l now claim next later = false := by
  unfold folR
  split
  · exact decide_eq_false h2
  · rfl

theorem fol_len (v : Value) (no xo : Option Addr) (nn nc xn xc : Nat) (claim later : Int) (oo : Option Addr) (on oc : Nat) (hv : v = .slice oo on oc) (w : World) (h : nn ≠ xn) :
    Calls Tryz.prog 62 #[v, .slice no nn nc, .int .i64 claim, .slice xo xn xc, .int .i64 later] w fun e w' => e = .returned (.tuple #[.bool false, .int .i64 1]) ∧ Below w.heap.size w w' := by
  subst hv
  have hne : ¬ (nn : Int) = xn := by omega
  clear h
  go_enter Tryz.func62, Tryz.ntmps62
  go_wp2_with fail
  go_ret2
  exact ⟨rfl, Below.refl _ _⟩

set_option maxHeartbeats 3200000 in
set_option maxRecDepth 20000 in
/-- the answer, once both moments' truths are there. -/
theorem fol_main (oo : Option Addr) (oc : Nat) (l : List (Int × Int)) (no xo : Option Addr) (nc xc : Nat) (now next : List Bool) (claim later : Int) (w : World) (hB : 0 < w.heap.size) (hT : TabAt w) (hV : OpsV w (.slice oo l.length oc) l) (hL : BoolsV w (.slice no now.length nc) now) (hX : BoolsV w (.slice xo next.length xc) next) (hlen : now.length = next.length) :
    Calls Tryz.prog 62 #[.slice oo l.length oc, .slice no now.length nc, .int .i64 claim, .slice xo next.length xc, .int .i64 later] w fun e w' => e = .returned (.tuple #[.bool (folR l now claim next later), .int .i64 (fcode l now claim next later)]) ∧ Below w.heap.size w w' := by
  have hrd := lread2 _ l now.length w hB hT hV
  by_cases hc : lcode now.length l = 0
  · obtain ⟨_, _, hz, _, h6⟩ := lcode_zero hc
    have hcx : lcode next.length l = 0 := by rw [← hlen]; exact hc
    have hrd2 : Calls Tryz.prog 59 #[.slice oo l.length oc, .int .i64 (now.length : Int)] w fun e w' => Below w.heap.size w w' ∧ ∃ B aao ac, e = .returned (.tuple #[.agg #[.slice oo l.length oc, .slice (some ⟨B, 0, none⟩) l.length l.length, .slice aao (aheadL l).length ac], .int .i64 0]) ∧ Hid (WholeAt w' (.slice oo l.length oc) B (.slice aao (aheadL l).length ac) l) := hrd.mono fun e w' ⟨h1, _, h3⟩ => ⟨h1, h3 hc⟩
    have HM : Hid (∀ w1 B aao ac, Below w.heap.size w w1 → WholeAt w1 (.slice oo l.length oc) B (.slice aao (aheadL l).length ac) l → Calls Tryz.prog 77 #[.agg #[.slice oo l.length oc, .slice (some ⟨B, 0, none⟩) l.length l.length, .slice aao (aheadL l).length ac], .slice no now.length nc, .int .i64 claim] w1 (MethPost l now claim w1)) := fun w1 B aao ac hb hW => meth_any _ B _ _ l now claim w1 hc hW (hL.below hb)
    have HM2 : Hid (∀ w1 B aao ac, Below w.heap.size w w1 → WholeAt w1 (.slice oo l.length oc) B (.slice aao (aheadL l).length ac) l → Calls Tryz.prog 77 #[.agg #[.slice oo l.length oc, .slice (some ⟨B, 0, none⟩) l.length l.length, .slice aao (aheadL l).length ac], .slice xo next.length xc, .int .i64 later] w1 (MethPost l next later w1)) := fun w1 B aao ac hb hW => meth_any _ B _ _ l next later w1 hcx hW (hX.below hb)
    have HWA : Hid (∀ w1 B aao ac, WholeAt w1 (.slice oo l.length oc) B (.slice aao (aheadL l).length ac) l → ∀ o, WholeAt (w1.alloc o) (.slice oo l.length oc) B (.slice aao (aheadL l).length ac) l) := fun w1 B aao ac hW o => hW.below ((Below.refl _ _).alloc (Nat.le_refl _) o)
    by_cases hcl : ClaimNo l claim
    · have hft : fcode l now claim next later = 2 := by unfold fcode; rw [if_neg (by simpa using hlen), tcode_no hc hcl, if_pos (by decide)]
      rw [folR_bad (by rw [hft]; decide), hft]
      have HM3 : Hid (∀ w1 B aao ac, Below w.heap.size w w1 → WholeAt w1 (.slice oo l.length oc) B (.slice aao (aheadL l).length ac) l → ∀ o, Calls Tryz.prog 77 #[.agg #[.slice oo l.length oc, .slice (some ⟨B, 0, none⟩) l.length l.length, .slice aao (aheadL l).length ac], .slice no now.length nc, .int .i64 claim] (w1.alloc o) fun e w' => e = .returned (.tuple #[.slice none 0 0, .int .i64 2]) ∧ Below w1.heap.size w1 w') := fun w1 B aao ac hb hW o => (HM.out _ B aao ac (hb.alloc hb.size o) (HWA.out _ B aao ac hW o)).mono fun e w' ⟨h1, h2, _⟩ => ⟨h2 hcl, ((Below.refl _ _).alloc (Nat.le_refl _) o).trans (h1.mono (by simp))⟩
      generalize (aheadL l).length = an at *
      rw [← hlen]
      generalize now.length = ln at *
      generalize l.length = n at *
      clear hrd hT hV hL hX hc hcx HM HM2 HWA hcl hft hz h6 hlen
      go_enter Tryz.func62, Tryz.ntmps62
      go_wp2_with (first | (go_at_call 59; refine hrd2.mono ?_; rintro e w1 ⟨hb1, B, aao, ac, rfl, HW⟩; have hme := HM3.out w1 B aao ac hb1 HW.out) | (go_at_call 77; refine (hme _).mono ?_; rintro e w2 ⟨rfl, hb2⟩))
      go_ret2
      exact ⟨rfl, hb1.trans (hb2.mono hb1.size)⟩
    · have ht1 : tcode l now claim = 0 := tcode_ok hc hcl
      have hft : fcode l now claim next later = tcode l next later := by unfold fcode; rw [if_neg (by simpa using hlen), ht1]; rfl
      have HM3 : Hid (∀ w1 B aao ac, Below w.heap.size w w1 → WholeAt w1 (.slice oo l.length oc) B (.slice aao (aheadL l).length ac) l → Calls Tryz.prog 77 #[.agg #[.slice oo l.length oc, .slice (some ⟨B, 0, none⟩) l.length l.length, .slice aao (aheadL l).length ac], .slice no now.length nc, .int .i64 claim] (w1.alloc (.cells #[.slice oo l.length oc, .slice (some ⟨B, 0, none⟩) l.length l.length, .slice aao (aheadL l).length ac] 114)) fun e w' => ∃ bH, e = .returned (.tuple #[.slice (some ⟨bH, 0, none⟩) l.length l.length, .int .i64 0]) ∧ Below w1.heap.size w1 w' ∧ w1.heap.size < w'.heap.size ∧ w'.cell? ⟨w1.heap.size, 0, none⟩ = some (.slice oo l.length oc) ∧ w'.cell? ⟨w1.heap.size, 1, none⟩ = some (.slice (some ⟨B, 0, none⟩) l.length l.length) ∧ w'.cell? ⟨w1.heap.size, 2, none⟩ = some (.slice aao (aheadL l).length ac) ∧ Hid (WholeAt w' (.slice oo l.length oc) B (.slice aao (aheadL l).length ac) l ∧ w'.rowIs bH 4 l.length (fun j => .bool (tru l now claim j)))) := fun w1 B aao ac hb hW => (HM.out _ B aao ac (hb.alloc hb.size _) (HWA.out _ B aao ac hW _)).mono fun e w' ⟨h1, _, h3⟩ => by
        obtain ⟨bH, he, hr⟩ := h3 hcl
        have h1' : Below (w1.heap.size + 1) (w1.alloc (.cells #[.slice oo l.length oc, .slice (some ⟨B, 0, none⟩) l.length l.length, .slice aao (aheadL l).length ac] 114)) w' := by simpa using h1
        have hb' : Below w1.heap.size w1 w' := ((Below.refl _ _).alloc (Nat.le_refl _) _).trans (h1'.mono (Nat.le_succ _))
        refine ⟨bH, he, hb', by have := h1'.size; simp at this; omega, (h1'.cell (p := ⟨w1.heap.size, 0, none⟩) (Nat.lt_succ_self _)).trans (by simp [go_sem]), (h1'.cell (p := ⟨w1.heap.size, 1, none⟩) (Nat.lt_succ_self _)).trans (by simp [go_sem]), (h1'.cell (p := ⟨w1.heap.size, 2, none⟩) (Nat.lt_succ_self _)).trans (by simp [go_sem]), hW.below hb', hr⟩
      by_cases hcl2 : ClaimNo l later
      · have hft2 : fcode l now claim next later = 2 := by rw [hft, tcode_no hcx hcl2]
        rw [folR_bad (by rw [hft2]; decide), hft2]
        have HM4 : Hid (∀ w1 B aao ac, Below w.heap.size w w1 → WholeAt w1 (.slice oo l.length oc) B (.slice aao (aheadL l).length ac) l → Calls Tryz.prog 77 #[.agg #[.slice oo l.length oc, .slice (some ⟨B, 0, none⟩) l.length l.length, .slice aao (aheadL l).length ac], .slice xo next.length xc, .int .i64 later] w1 fun e w' => e = .returned (.tuple #[.slice none 0 0, .int .i64 2]) ∧ Below w1.heap.size w1 w') := fun w1 B aao ac hb hW => (HM2.out _ B aao ac hb hW).mono fun e w' ⟨h1, h2, _⟩ => ⟨h2 hcl2, h1⟩
        generalize (aheadL l).length = an at *
        rw [← hlen] at HM4 ⊢
        generalize now.length = ln at *
        generalize hnn : l.length = n at *
        clear hrd hT hV hL hX hc hcx HM HM2 HWA hcl hcl2 hft hft2 ht1 hz h6 hlen hnn
        go_enter Tryz.func62, Tryz.ntmps62
        go_wp2_with (first | (go_at_call 59; refine hrd2.mono ?_; rintro e w1 ⟨hb1, B, aao, ac, rfl, HW⟩; have hme := HM3.out w1 B aao ac hb1 HW.out) | (go_at_call 77; refine hme.mono ?_; clear hme; rintro e w2 ⟨bH, rfl, hb2, hs2, d0, d1, d2, HW2⟩; have hb12 := hb1.trans (hb2.mono hb1.size); have hme2 := HM4.out w2 B aao ac hb12 HW2.out.1) | (go_at_call 77; refine hme2.mono ?_; rintro e w3 ⟨rfl, hb3⟩))
        go_ret2
        exact ⟨rfl, hb12.trans (hb3.mono hb12.size)⟩
      · have hft2 : fcode l now claim next later = 0 := by rw [hft, tcode_ok hcx hcl2]
        have HM4 : Hid (∀ w1 B aao ac, Below w.heap.size w w1 → WholeAt w1 (.slice oo l.length oc) B (.slice aao (aheadL l).length ac) l → Calls Tryz.prog 77 #[.agg #[.slice oo l.length oc, .slice (some ⟨B, 0, none⟩) l.length l.length, .slice aao (aheadL l).length ac], .slice xo next.length xc, .int .i64 later] w1 fun e w' => ∃ bN, e = .returned (.tuple #[.slice (some ⟨bN, 0, none⟩) l.length l.length, .int .i64 0]) ∧ Below w1.heap.size w1 w' ∧ Hid (w'.rowIs bN 4 l.length (fun j => .bool (tru l next later j)))) := fun w1 B aao ac hb hW => (HM2.out _ B aao ac hb hW).mono fun e w' ⟨h1, _, h3⟩ => by
          obtain ⟨bN, he, hr⟩ := h3 hcl2
          exact ⟨bN, he, h1, hr⟩
        have HYes : Hid (Fol l (tru l now claim) (tru l next later) → folR l now claim next later = true) := folR_yes hft2
        have HNot : Hid (¬ Fol l (tru l now claim) (tru l next later) → folR l now claim next later = false) := folR_no
        have HFol : Hid (Fol l (tru l now claim) (tru l next later) ↔ ∀ p, p < l.length → lookB (l.getD p (0, 0)).1 = true → tru l now claim p = comeAt l (tru l now claim) (tru l next later) p) := Iff.rfl
        have HCo : Hid (∀ w2 B bH bN aao ac p, WholeAt w2 (.slice oo l.length oc) B (.slice aao (aheadL l).length ac) l → w2.rowIs bH 4 l.length (fun j => .bool (tru l now claim j)) → w2.rowIs bN 4 l.length (fun j => .bool (tru l next later j)) → p < l.length → lookB (l.getD p (0, 0)).1 = true → Calls Tryz.prog 84 #[.agg #[.slice oo l.length oc, .slice (some ⟨B, 0, none⟩) l.length l.length, .slice aao (aheadL l).length ac], .int .i64 (p : Int), .slice (some ⟨bH, 0, none⟩) l.length l.length, .slice (some ⟨bN, 0, none⟩) l.length l.length] w2 fun e w' => e = .returned (.bool (comeAt l (tru l now claim) (tru l next later) p)) ∧ Below w2.heap.size w2 w') := fun w2 B bH bN aao ac p hW hr hr2 hp hk => by
          obtain ⟨b, off, cap, hv, _⟩ := id hW
          injection hv with e1 e2 e3
          subst e1 e3
          exact comes_any b off l.length oc B bH bN l _ _ p _ aao _ ac w2 (place_in hW hz hr hp hk) (fun j hj => hr2.cell hj) hr2.lt
        have HG : Hid (∀ w2 B aao ac k, WholeAt w2 (.slice oo l.length oc) B (.slice aao (aheadL l).length ac) l → k < (aheadL l).length → ∃ p : Nat, (∃ ab aoff, aao = some ⟨ab, aoff, none⟩ ∧ ab < w2.heap.size ∧ w2.cell? ⟨ab, aoff + k, none⟩ = some (.int .i64 (p : Int))) ∧ p < l.length ∧ lookB (l.getD p (0, 0)).1 = true ∧ (aheadTo l p).length = k) := fun w2 B aao ac k hW hk => by
          obtain ⟨_, _, _, _, _, _, _, ao', ac', hsl, hai⟩ := hW
          injection hsl with e1 e2 e3
          subst e1
          obtain ⟨ab, aoff, rfl, habl, haat⟩ := hai (by intro h; rw [h] at hk; simp at hk)
          obtain ⟨p, h1, h2, h3, h4⟩ := aheadTo_get l l.length k hk
          have h1' : (aheadL l).getD k 0 = (p : Int) := h1
          exact ⟨p, ⟨ab, aoff, rfl, habl, by rw [haat k hk, h1']⟩, h2, h3, h4⟩
        have HLt : Hid (∀ p, p < l.length → lookB (l.getD p (0, 0)).1 = true → (aheadTo l p).length < (aheadL l).length) := fun p hp hk => aheadTo_lt l hp hk
        have HUq : Hid (∀ p q, lookB (l.getD p (0, 0)).1 = true → lookB (l.getD q (0, 0)).1 = true → (aheadTo l p).length = (aheadTo l q).length → p = q) := fun p q h1 h2 he => by
          rcases Nat.lt_trichotomy p q with h | h | h
          · have := aheadTo_lt l h h1; omega
          · exact h
          · have := aheadTo_lt l h h2; omega
        rw [hft2]
        generalize folR l now claim next later = fr at *
        generalize comeAt l (tru l now claim) (tru l next later) = cm at *
        generalize Fol l (tru l now claim) (tru l next later) = FP at *
        generalize tru l now claim = tn at *
        generalize tru l next later = tx at *
        obtain ⟨an, han⟩ : ∃ an, an = (aheadL l).length := ⟨_, rfl⟩
        rw [← han] at hrd2 HM3 HM4 HCo HG HLt h6
        rw [← hlen] at HM4 ⊢
        generalize now.length = ln at *
        generalize hnn : l.length = n at *
        clear hrd hT hV hL hX hc hcx HM HM2 HWA hcl hcl2 hft hft2 ht1 hz hlen hnn han
        go_enter Tryz.func62, Tryz.ntmps62
        go_wp2_with (first | (go_at_call 59; refine hrd2.mono ?_; rintro e w1 ⟨hb1, B, aao, ac, rfl, HW⟩; have hme := HM3.out w1 B aao ac hb1 HW.out) | (go_at_call 77; refine hme.mono ?_; clear hme; rintro e w2 ⟨bH, rfl, hb2, hs2, d0, d1, d2, HW2⟩; have hb12 := hb1.trans (hb2.mono hb1.size); have hme2 := HM4.out w2 B aao ac hb12 HW2.out.1) | (go_at_call 77; refine hme2.mono ?_; clear hme2; rintro e w3 ⟨bN, rfl, hb3, HN3⟩; have g0 := (hb3.cell (p := ⟨w1.heap.size, 0, none⟩) hs2).trans d0; have g1 := (hb3.cell (p := ⟨w1.heap.size, 1, none⟩) hs2).trans d1; have g2 := (hb3.cell (p := ⟨w1.heap.size, 2, none⟩) hs2).trans d2))
        have hb13 := hb12.trans (hb3.mono hb12.size)
        have hs3 := Nat.lt_of_lt_of_le hs2 hb3.size
        have HW3 : Hid (WholeAt w3 (.slice oo n oc) B (.slice aao an ac) l ∧ w3.rowIs bH 4 n (fun j => .bool (tn j))) := ⟨HW2.out.1.below hb3, row_later HW2.out.2 hb3⟩
        clear hrd2 HM3 HM4 HW HW2 d0 d1 d2
        go_loopw [56] (fun i wr => ∃ k : Nat, k ≤ an ∧ i = .int .i64 (k : Int) ∧ Hid (∀ p, p < n → lookB (l.getD p (0, 0)).1 = true → (aheadTo l p).length < k → tn p = cm p) ∧ Hid (Below w3.heap.size w3 wr)) (fun i _ => an - (intOf i).toNat)
        case atStart => exact ⟨0, Nat.zero_le _, rfl, fun p _ _ h => absurd h (Nat.not_lt_zero _), Below.refl _ _⟩
        case round =>
          obtain ⟨k, hk, rfl, HAll, HBel⟩ := hrel
          have hbel := HBel.out
          by_cases hlt : k < an
          · have hWr := HW3.out.1.below hbel
            obtain ⟨p, ⟨ab, aoff, rfl, habl, hca⟩, hpn, hpk, hpi⟩ := HG.out wr B aao ac k hWr hlt
            have hco := HCo.out
            have HSt : Hid (∀ w', Below wr.heap.size wr w' → w'.cell? ⟨w1.heap.size, 0, none⟩ = some (.slice oo n oc) ∧ w'.cell? ⟨w1.heap.size, 1, none⟩ = some (.slice (some ⟨B, 0, none⟩) n n) ∧ w'.cell? ⟨w1.heap.size, 2, none⟩ = some (.slice (some ⟨ab, aoff, none⟩) an ac) ∧ w'.cell? ⟨bH, p, none⟩ = some (.bool (tn p)) ∧ Below wr.heap.size wr w') := fun w' hb => by
              have hbw := hbel.trans (hb.mono hbel.size)
              have hr := row_later HW3.out.2 hbw
              exact ⟨(hbw.cell (p := ⟨w1.heap.size, 0, none⟩) hs3).trans g0, (hbw.cell (p := ⟨w1.heap.size, 1, none⟩) hs3).trans g1, (hbw.cell (p := ⟨w1.heap.size, 2, none⟩) hs3).trans g2, hr.cell hpn, hb⟩
            have hcc := fun w' (hb : Below wr.heap.size wr w') => HCo.out w' B bH bN _ ac p (hWr.below hb) (row_later (row_later HW3.out.2 hbel) hb) (row_later (row_later HN3.out hbel) hb) hpn hpk
            have hS := HSt.out
            have hB0 : Below wr.heap.size wr wr := Below.refl _ _
            have HNext : Hid (tn p = cm p → ∀ q, q < n → lookB (l.getD q (0, 0)).1 = true → (aheadTo l q).length < k + 1 → tn q = cm q) := fun he q hq hqk hql => by
              by_cases h : (aheadTo l q).length < k
              · exact HAll.out q hq hqk h
              · have hqp : q = p := HUq.out q p hqk hpk (by omega)
                rw [hqp]; exact he
            have HBad : Hid (tn p ≠ cm p → fr = false) := fun h => HNot.out fun hf => h (HFol.out.1 hf p hpn hpk)
            have hp0 : (0 : Int) ≤ (p : Int) := Int.natCast_nonneg _
            have hpI : (p : Int) < (n : Int) := by omega
            generalize tn p = tv at *
            generalize cm p = cv at *
            clear HG HCo HAll HNot HYes HFol HLt HUq hco HSt hWr hpk hpi
            by_cases htv : tv = cv
            · have HNx := (show Hid _ from HNext.out htv)
              subst htv
              clear HNext HBad
              go_wp2_with fail
              go_region_held3 (fun w' => w'.cell? ⟨w1.heap.size, 0, none⟩ = some (.slice oo n oc) ∧ w'.cell? ⟨w1.heap.size, 1, none⟩ = some (.slice (some ⟨B, 0, none⟩) n n) ∧ w'.cell? ⟨w1.heap.size, 2, none⟩ = some (.slice (some ⟨ab, aoff, none⟩) an ac) ∧ w'.cell? ⟨bH, p, none⟩ = some (.bool tv) ∧ Below wr.heap.size wr w')
                (exact hS _ (by first | exact hB0 | exact hB0.drew | exact hB0.drew.trans hb4))
                (first | (go_at_call 84; refine (hcc _ hB0.drew).mono ?_; rintro e w4 ⟨rfl, hb4⟩))
              go_wp2_with fail
              have hbf := hbel.trans ((hB0.drew.trans hb4).mono hbel.size)
              exact ⟨⟨k + 1, hlt, by first | rfl | simp, HNx.out, hbf⟩, by simp [intOf]; omega⟩
            · have HF := (show Hid _ from HBad.out htv)
              clear HNext HBad
              cases tv <;> cases cv
              · exact absurd rfl htv
              · go_wp2_with fail
                go_region_held3 (fun w' => w'.cell? ⟨w1.heap.size, 0, none⟩ = some (.slice oo n oc) ∧ w'.cell? ⟨w1.heap.size, 1, none⟩ = some (.slice (some ⟨B, 0, none⟩) n n) ∧ w'.cell? ⟨w1.heap.size, 2, none⟩ = some (.slice (some ⟨ab, aoff, none⟩) an ac) ∧ w'.cell? ⟨bH, p, none⟩ = some (.bool false) ∧ Below wr.heap.size wr w')
                  (exact hS _ (by first | exact hB0 | exact hB0.drew | exact hB0.drew.trans hb4))
                  (first | (go_at_call 84; refine (hcc _ hB0.drew).mono ?_; rintro e w4 ⟨rfl, hb4⟩))
                go_wp2_with fail
                have hbf := hbel.trans ((hB0.drew.trans hb4).mono hbel.size)
                go_ret2
                rw [HF.out]
                exact ⟨rfl, hb13.trans (hbf.mono hb13.size)⟩
              · go_wp2_with fail
                go_region_held3 (fun w' => w'.cell? ⟨w1.heap.size, 0, none⟩ = some (.slice oo n oc) ∧ w'.cell? ⟨w1.heap.size, 1, none⟩ = some (.slice (some ⟨B, 0, none⟩) n n) ∧ w'.cell? ⟨w1.heap.size, 2, none⟩ = some (.slice (some ⟨ab, aoff, none⟩) an ac) ∧ w'.cell? ⟨bH, p, none⟩ = some (.bool true) ∧ Below wr.heap.size wr w')
                  (exact hS _ (by first | exact hB0 | exact hB0.drew | exact hB0.drew.trans hb4))
                  (first | (go_at_call 84; refine (hcc _ hB0.drew).mono ?_; rintro e w4 ⟨rfl, hb4⟩))
                go_wp2_with fail
                have hbf := hbel.trans ((hB0.drew.trans hb4).mono hbel.size)
                go_ret2
                rw [HF.out]
                exact ⟨rfl, hb13.trans (hbf.mono hb13.size)⟩
              · exact absurd rfl htv
          · obtain rfl : k = an := by omega
            have HFr : Hid (fr = true) := HYes.out (HFol.out.2 fun p hp hpk => HAll.out p hp hpk (HLt.out p hp hpk))
            clear HG HCo HAll HNot HYes HFol HLt HUq
            go_wp2_with fail
            go_ret2
            rw [HFr.out]
            exact ⟨rfl, hb13.trans (hbel.mono hb13.size)⟩
  · have hft : fcode l now claim next later = lcode now.length l := by unfold fcode; rw [if_neg (by simpa using hlen), tcode_bad hc, if_pos hc]
    rw [folR_bad (by rw [hft]; exact hc), hft]
    have hrd2 : Calls Tryz.prog 59 #[.slice oo l.length oc, .int .i64 (now.length : Int)] w fun e w' => Below w.heap.size w w' ∧ e = .returned (.tuple #[.agg #[.slice none 0 0, .slice none 0 0, .slice none 0 0], .int .i64 (lcode now.length l)]) := hrd.mono fun e w' ⟨h1, h2, _⟩ => ⟨h1, h2 hc⟩
    rw [← hlen]
    generalize lcode now.length l = x at *
    generalize now.length = ln at *
    generalize l.length = n at *
    clear hrd hT hV hL hX hft hlen
    go_enter Tryz.func62, Tryz.ntmps62
    go_wp2_with (go_at_call 59; refine hrd2.mono ?_; rintro e w1 ⟨hb1, rfl⟩)
    go_ret2
    exact ⟨rfl, by first | exact hb1 | exact hb1.alloc hb1.size _⟩

/-- THE CONTRACT OF logic.Follows. -/
theorem lfol_any (v nv xv : Value) (l : List (Int × Int)) (now next : List Bool) (claim later : Int) (w : World) (hB : 0 < w.heap.size) (hT : TabAt w) (hV : OpsV w v l) (hL : BoolsV w nv now) (hX : BoolsV w xv next) :
    Calls Tryz.prog 62 #[v, nv, .int .i64 claim, xv, .int .i64 later] w fun e w' => e = .returned (.tuple #[.bool (folR l now claim next later), .int .i64 (fcode l now claim next later)]) ∧ Below w.heap.size w w' := by
  obtain ⟨oo, oc, rfl, _⟩ := id hV
  obtain ⟨no, nc, rfl, _⟩ := id hL
  obtain ⟨xo, xc, rfl, _⟩ := id hX
  by_cases hlen : now.length = next.length
  · exact fol_main oo oc l no xo nc xc now next claim later w hB hT hV hL hX hlen
  · have hf : fcode l now claim next later = 1 := by unfold fcode; rw [if_pos hlen]
    rw [folR_bad (by rw [hf]; decide), hf]
    exact fol_len _ no xo _ nc _ xc claim later oo l.length oc rfl w hlen
end Go.Proofs.YtdlpmomohbdpgaaGreatDoor

/-
  What of a moment counts for whether it may follow another one: its sign.
-/
namespace Go.Proofs.YtdlpmomohbdpgaaGreatDoor
open Go.ChangeShapes Go.WideShapes Go.ChangeAt Go.RowKit Go.Deep
open Terms

/-- the place that is asked at the next moment. -/
def askP (l : List (Int × Int)) (p : Nat) : Nat := if (l.getD p (0, 0)).1 = 14 then p + 1 else p
def signTo (l : List (Int × Int)) (g : Nat → Bool) : Nat → Int
  | 0 => 0
  | k + 1 => signTo l g k + if g (askP l ((aheadL l).getD k 0).toNat) = true then 2 ^ k else 0
def signN (l : List (Int × Int)) (g : Nat → Bool) : Int := signTo l g (aheadL l).length
theorem signTo_bounds (l : List (Int × Int)) (g : Nat → Bool) : ∀ k, 0 ≤ signTo l g k ∧ signTo l g k < 2 ^ k := by
  intro k
  induction k with
  | zero => simp [signTo]
  | succ k ih =>
    have h2 : (0 : Int) < 2 ^ k := Int.pow_pos (by decide)
    rw [signTo, Int.pow_succ]
    split <;> omega
theorem sign_inj {l : List (Int × Int)} {g g' : Nat → Bool} : ∀ {k : Nat}, signTo l g k = signTo l g' k → ∀ j, j < k → g (askP l ((aheadL l).getD j 0).toNat) = g' (askP l ((aheadL l).getD j 0).toNat)
  | 0, _, j, hj => by omega
  | k + 1, h, j, hj => by
    obtain ⟨a0, a1⟩ := signTo_bounds l g k
    obtain ⟨b0, b1⟩ := signTo_bounds l g' k
    have h2 : (0 : Int) < 2 ^ k := Int.pow_pos (by decide)
    rw [signTo, signTo] at h
    rcases (show j < k ∨ j = k by omega) with h3 | h3
    · refine sign_inj (k := k) ?_ j h3
      split at h <;> split at h <;> omega
    · subst h3
      generalize g (askP l ((aheadL l).getD j 0).toNat) = x at h ⊢
      generalize g' (askP l ((aheadL l).getD j 0).toNat) = y at h ⊢
      cases x <;> cases y
      · rfl
      · rw [if_neg (by simp), if_pos rfl] at h; omega
      · rw [if_pos rfl, if_neg (by simp)] at h; omega
      · rfl
theorem ahead_pre (l : List (Int × Int)) : ∀ (d n : Nat), ∃ r, aheadTo l (n + d) = aheadTo l n ++ r := by
  intro d
  induction d with
  | zero => exact fun n => ⟨[], by simp⟩
  | succ d ih =>
    intro n
    obtain ⟨r, hr⟩ := ih n
    refine ⟨r ++ (if lookB (l.getD (n + d) (0, 0)).1 = true then [((n + d : Nat) : Int)] else []), ?_⟩
    rw [show n + (d + 1) = (n + d) + 1 by omega, aheadTo, hr, List.append_assoc]
theorem ahead_spot {l : List (Int × Int)} {p : Nat} (hp : p < l.length) (hb : lookB (l.getD p (0, 0)).1 = true) : (aheadTo l p).length < (aheadL l).length ∧ (aheadL l).getD (aheadTo l p).length 0 = (p : Int) := by
  have h1 := aheadTo_lt l hp hb
  refine ⟨h1, ?_⟩
  obtain ⟨r, hr⟩ := ahead_pre l (l.length - (p + 1)) (p + 1)
  rw [show p + 1 + (l.length - (p + 1)) = l.length by omega, aheadTo_yes hb] at hr
  unfold aheadL
  rw [hr, List.append_assoc]
  simp [List.getD_eq_getElem?_getD]
/-- moments of the same sign follow alike. -/
theorem fol_sign {l : List (Int × Int)} {h g g' : Nat → Bool} (e : signN l g = signN l g') : Fol l h g ↔ Fol l h g' := by
  have key : ∀ p, p < l.length → lookB (l.getD p (0, 0)).1 = true → comeAt l h g p = comeAt l h g' p := by
    intro p hp hb
    obtain ⟨h1, h2⟩ := ahead_spot hp hb
    have h3 := sign_inj e (aheadTo l p).length h1
    rw [h2] at h3
    simp only [Int.toNat_natCast] at h3
    unfold comeAt comeB
    unfold askP at h3
    have hk : 14 ≤ (l.getD p (0, 0)).1 ∧ (l.getD p (0, 0)).1 ≤ 18 := by simpa [lookB] using hb
    by_cases h14 : (l.getD p (0, 0)).1 = 14
    · rw [if_pos h14] at h3
      rw [h14, h3]
      simp
    · rw [if_neg h14] at h3
      rw [h3]
      have : (l.getD p (0, 0)).1 = 15 ∨ (l.getD p (0, 0)).1 = 16 ∨ (l.getD p (0, 0)).1 = 17 ∨ (l.getD p (0, 0)).1 = 18 := by omega
      rcases this with h5 | h5 | h5 | h5 <;> rw [h5] <;> simp
  refine ⟨fun H p hp hb => ?_, fun H p hp hb => ?_⟩
  · rw [H p hp hb, key p hp hb]
  · rw [H p hp hb, key p hp hb]
end Go.Proofs.YtdlpmomohbdpgaaGreatDoor

/-
  Spots in memory, and one more appended.
-/
namespace Go.Proofs.YtdlpmomohbdpgaaGreatDoor
open Go.ChangeShapes Go.WideShapes Go.ChangeAt Go.RowKit Go.Deep

theorem infoSpot : (Tryz.prog.info? 31).map (fun i => (i.zero, i.size, i.bytes)) = some (some (.agg #[.int .i64 0, .int .i64 0]), 2, 16) := by kernel_rfl
/-- a row of spots of the call's own. -/
def SpO (w : World) (base : Nat) (v : Value) (l : List (Int × Int)) : Prop := w.ownsRow base 31 2 v l.length (flat l)
theorem SpO.nil (w : World) (base : Nat) : SpO w base (.slice none 0 0) [] := World.ownsRow_nil _ _ _ _
theorem SpO.later {w w' : World} {base B : Nat} {v : Value} {l : List (Int × Int)} (h : SpO w base v l) (hb : Below B w w') (hB : w.heap.size ≤ B) : SpO w' base v l := owns_later h hb hB
theorem SpO.shape {w : World} {base : Nat} {v : Value} {l : List (Int × Int)} (h : SpO w base v l) : ∃ ao cap, v = .slice ao l.length cap := owns_slice h
/-- spots that are read. -/
def SpV (w : World) (v : Value) (l : List (Int × Int)) : Prop := ∃ ao cap, v = .slice ao l.length cap ∧ (l ≠ [] → ∃ b off, ao = some ⟨b, off, none⟩ ∧ b < w.heap.size ∧ OpsAt w b off l)
theorem SpV.nil (w : World) : SpV w (.slice none 0 0) [] := ⟨none, 0, rfl, fun h => absurd rfl h⟩
theorem SpV.below {w w' : World} {v : Value} {l : List (Int × Int)} (h : SpV w v l) (hb : Below w.heap.size w w') : SpV w' v l := by
  obtain ⟨ao, cap, rfl, h⟩ := h
  refine ⟨ao, cap, rfl, fun hne => ?_⟩
  obtain ⟨b, off, rfl, hlt, hat⟩ := h hne
  exact ⟨b, off, rfl, Nat.lt_of_lt_of_le hlt hb.size, fun i hi => ⟨(hb.cell (p := ⟨b, _, none⟩) hlt).trans (hat i hi).1, (hb.cell (p := ⟨b, _, none⟩) hlt).trans (hat i hi).2⟩⟩
theorem SpO.v {w : World} {base : Nat} {v : Value} {l : List (Int × Int)} (h : SpO w base v l) : SpV w v l := by
  rcases h.2 with ⟨rfl, h0⟩ | ⟨g, cap, cur, rfl, hb, hg, hnc, hcm, hcs, htake⟩
  · have : l = [] := by simpa using h0
    subst this
    exact SpV.nil w
  · refine ⟨_, cap, rfl, fun _ => ⟨g, 0, rfl, (Array.getElem?_eq_some_iff.1 hg).1, fun i hi => ?_⟩⟩
    obtain ⟨f0, f1⟩ := flat_get l i hi
    rw [World.ownsRow.cellAt h _ (by omega), World.ownsRow.cellAt h _ (by omega)]
    simpa using ⟨f0, f1⟩
section
variable {W : World}
/-- one more spot: 'append(out, s)'. -/
theorem push_sp {ops : Array Oper} {rest : List Oper} {o : Oper} {a : Act} {Q : Exit → Act → World → Prop} (y z : Int) (hgd : o.guard = none) (s x : Operand)
    (ho : o.op = .call { callee := .builtin .append, args := #[s, x], argTypes := #[32, 32] })
    (base n cap : Nat) (vo : Option Addr) (l : List (Int × Int)) (hl : l.length = n) (hs : a.eval s = .slice vo n cap) (hown : SpO W base (.slice vo n cap) l) (hx : a.eval x = .slice (some ⟨W.heap.size, 0, none⟩) 1 1)
    (hsz : (n + 1) * 16 ≤ 140737488355328) (hbase : base ≤ W.heap.size)
    (h : ∀ vo' cap' w', SpO w' base (.slice vo' (n + 1) cap') (l ++ [(y, z)]) → Below base W w' → (W.alloc (.cells #[.int .i64 y, .int .i64 z] 31)).grownBy w' (Value.slice vo n cap).ownBlock → wpList Tryz.prog ops Q rest (a.put o.dst (.slice vo' (n + 1) cap')) w') : wpList Tryz.prog ops Q (o :: rest) a (W.alloc (.cells #[.int .i64 y, .int .i64 z] 31)) := by
  subst hl
  obtain ⟨i0, hi, hz0, hz1, hz2⟩ := info_parts infoSpot
  have hown' : W.ownsRow base 31 2 (.slice vo l.length cap) l.length (flat l) := hown
  refine wpList_append_own _ hgd s x 32 ho base 31 i0 (.agg #[.int .i64 0, .int .i64 0]) 2 16 Tryz.underlying32 hi hz0 hz1 hz2 rfl (by decide) (.slice vo l.length cap) l.length (flat l) hs (hown'.alloc _) ⟨W.heap.size, 0, none⟩ 1 1 [.int .i64 y, .int .i64 z] hx rfl (two_new _ _ _ _) (by intro u hu; simp at hu; rcases hu with rfl | rfl <;> rfl) (by unfold maxLen; omega) hsz (Nat.le_trans hbase (by simp)) ?_
  intro v' w4 hown' hgrow _
  obtain ⟨a4, c4, rfl⟩ := owns_slice hown'
  refine h a4 c4 w4 ?_ (((Below.refl base W).alloc hbase _).grown hgrow (Nat.le_trans hbase (by simp)) (fun q hq => (World.ownsRow.lt hown q hq).1)) hgrow
  unfold SpO
  rw [flat_append, List.length_append]
  exact hown'
end
end Go.Proofs.YtdlpmomohbdpgaaGreatDoor

/-
  Plain mathematics of states and their codes. Nothing of the program is named here.
-/
namespace Go.Proofs.YtdlpmomohbdpgaaGreatDoor
open Terms Tm

theorem wr64 {x : Int} (h1 : -9223372036854775808 ≤ x) (h2 : x ≤ 9223372036854775807) : IntKind.i64.wrap x = x := by
  rw [IntWalk.i64_left]
  exact IntWalk.wrap64_in x ⟨h1, h2⟩
/-- the product of so many spans from a place on. -/
def prodSeg (l : List Vr) (a : Nat) : Nat → Int
  | 0 => 1
  | c + 1 => prodSeg l a c * vspan (l.getD (a + c) vr0)
theorem prodSeg_zero (l : List Vr) (i : Nat) : prodSeg l 0 i = prodTo l i := by
  induction i with
  | zero => rfl
  | succ i ih => simp only [prodSeg, prodTo, ih, Nat.zero_add]
theorem prodSeg_first (l : List Vr) (a c : Nat) : prodSeg l a (c + 1) = vspan (l.getD a vr0) * prodSeg l (a + 1) c := by
  induction c with
  | zero => simp [prodSeg]
  | succ c ih =>
    rw [prodSeg, ih, prodSeg, Int.mul_assoc, show a + (c + 1) = a + 1 + c by omega]
theorem prodTo_seg (l : List Vr) (a c : Nat) : prodTo l a * prodSeg l a c = prodTo l (a + c) := by
  induction c with
  | zero => simp [prodSeg]
  | succ c ih =>
    rw [prodSeg, ← Int.mul_assoc, ih]
    rfl
/-- what the variables from a place on make. -/
def segP (l : List Vr) (i : Nat) : Int := prodSeg l i (l.length - i)
theorem segP_step {l : List Vr} {i : Nat} (h : i < l.length) : segP l i = vspan (l.getD i vr0) * segP l (i + 1) := by
  unfold segP
  rw [show l.length - i = (l.length - (i + 1)) + 1 by omega, prodSeg_first]
theorem segP_end (l : List Vr) : segP l l.length = 1 := by simp [segP, prodSeg]
theorem segP_zero (l : List Vr) : segP l 0 = prodTo l l.length := by simp [segP, prodSeg_zero]
theorem prodSeg_pos {l : List Vr} (h : VarsOk l) {a c : Nat} (hc : a + c ≤ l.length) : 1 ≤ prodSeg l a c := by
  induction c with
  | zero => simp [prodSeg]
  | succ c ih =>
    have h1 := ih (by omega)
    have h2 := (h.at (j := a + c) (by omega)).1
    have := Int.mul_le_mul h1 h2 (by omega) (by omega)
    simpa [prodSeg] using this
theorem prodSeg_le {l : List Vr} (h : VarsOk l) {a c : Nat} (hc : a + c ≤ l.length) : prodSeg l a c ≤ 4096 := by
  have h1 := h.prod (j := a + c) hc
  have h2 := h.prod (j := a) (by omega)
  have h3 := prodSeg_pos h hc
  rw [← prodTo_seg] at h1
  have := Int.mul_le_mul h2.1 (Int.le_refl (prodSeg l a c)) (by omega) (by omega)
  omega
theorem segP_bounds {l : List Vr} (h : VarsOk l) {i : Nat} (hi : i ≤ l.length) : 1 ≤ segP l i ∧ segP l i ≤ 4096 := ⟨prodSeg_pos h (by omega), prodSeg_le h (by omega)⟩

/-! ### codes of values -/

def dig (l : List Vr) (vals : List Int) (i : Nat) : Int := vals.getD i 0 - (l.getD i vr0).lo
def inB (l : List Vr) (vals : List Int) (i : Nat) : Prop := (l.getD i vr0).lo ≤ vals.getD i 0 ∧ vals.getD i 0 ≤ (l.getD i vr0).hi
def codeTo (l : List Vr) (vals : List Int) : Nat → Int
  | 0 => 0
  | k + 1 => codeTo l vals k * vspan (l.getD k vr0) + dig l vals k
def sumTo (l : List Vr) (vals : List Int) : Nat → Int
  | 0 => 0
  | k + 1 => sumTo l vals k + dig l vals k * segP l (k + 1)
theorem dig_bounds {l : List Vr} {vals : List Int} (h : VarsOk l) {i : Nat} (hi : i < l.length) (hb : inB l vals i) : 0 ≤ dig l vals i ∧ dig l vals i < vspan (l.getD i vr0) ∧ dig l vals i ≤ 63 := by
  have := h.at hi
  unfold inB at hb
  unfold dig
  unfold vspan at *
  omega
theorem code_bounds {l : List Vr} {vals : List Int} (h : VarsOk l) {k : Nat} (hk : k ≤ l.length) (hb : ∀ i, i < k → inB l vals i) : 0 ≤ codeTo l vals k ∧ codeTo l vals k < prodTo l k := by
  induction k with
  | zero => simp [codeTo, prodTo]
  | succ k ih =>
    obtain ⟨h1, h2⟩ := ih (by omega) (fun i hi => hb i (by omega))
    obtain ⟨h3, h4, _⟩ := dig_bounds h (by omega) (hb k (by omega))
    have h5 := (h.at (j := k) (by omega)).1
    simp only [codeTo, prodTo]
    have h6 : 0 ≤ codeTo l vals k * vspan (l.getD k vr0) := Int.mul_nonneg h1 (by omega)
    have h7 : (codeTo l vals k + 1) * vspan (l.getD k vr0) ≤ prodTo l k * vspan (l.getD k vr0) := Int.mul_le_mul_of_nonneg_right (by omega) (by omega)
    rw [Int.add_mul, Int.one_mul] at h7
    omega
theorem sum_code {l : List Vr} {vals : List Int} {k : Nat} (hk : k ≤ l.length) : sumTo l vals k = codeTo l vals k * segP l k := by
  induction k with
  | zero => simp [sumTo, codeTo]
  | succ k ih =>
    simp only [sumTo, codeTo]
    rw [ih (by omega), segP_step (by omega), Int.add_mul, Int.mul_assoc]
theorem sum_all (l : List Vr) (vals : List Int) : sumTo l vals l.length = codeTo l vals l.length := by
  rw [sum_code (Nat.le_refl _), segP_end, Int.mul_one]
theorem sum_bounds {l : List Vr} {vals : List Int} (h : VarsOk l) {k : Nat} (hk : k ≤ l.length) (hb : ∀ i, i < k → inB l vals i) : 0 ≤ sumTo l vals k ∧ sumTo l vals k ≤ 4096 := by
  obtain ⟨h1, h2⟩ := code_bounds h hk hb
  obtain ⟨h3, h4⟩ := segP_bounds h hk
  have h5 := h.prod (j := l.length) (Nat.le_refl _)
  have h6 : prodTo l k * segP l k = prodTo l l.length := by unfold segP; rw [prodTo_seg, show k + (l.length - k) = l.length by omega]
  rw [sum_code hk]
  refine ⟨Int.mul_nonneg h1 (by omega), ?_⟩
  have h7 : codeTo l vals k * segP l k ≤ prodTo l k * segP l k := Int.mul_le_mul_of_nonneg_right (by omega) (by omega)
  omega

/-! ### values of codes -/

def valAt (l : List Vr) (code : Int) (i : Nat) : Int := (l.getD i vr0).lo + (code / segP l (i + 1)) % vspan (l.getD i vr0)
theorem quo_step {l : List Vr} (h : VarsOk l) (code : Int) {i : Nat} (hi : i < l.length) : code / segP l (i + 1) / vspan (l.getD i vr0) = code / segP l i := by
  have h1 := (segP_bounds h (i := i + 1) (by omega)).1
  rw [segP_step hi, Int.ediv_ediv_of_nonneg (by omega), Int.mul_comm]
theorem mod_div (x s p : Int) (hp : 0 < p) : (x % (s * p)) / p = (x / p) % s := by
  rw [Int.emod_def x (s * p), Int.emod_def (x / p) s, Int.ediv_ediv_of_nonneg (by omega), Int.mul_comm s p, Int.mul_assoc]
  rw [Int.sub_mul_ediv_left _ _ (by omega)]
theorem valAt_ref {l : List Vr} (h : VarsOk l) (code : Int) {i : Nat} (hi : i < l.length) : (l.getD i vr0).lo + (code % segP l i) / segP l (i + 1) = valAt l code i := by
  have h1 := (segP_bounds h (i := i + 1) (by omega)).1
  rw [segP_step hi, mod_div _ _ _ (by omega)]
  rfl
theorem mod_step {l : List Vr} (code : Int) {i : Nat} (hi : i < l.length) : (code % segP l i) % segP l (i + 1) = code % segP l (i + 1) := by
  rw [segP_step hi, Int.mul_comm, Int.emod_emod_of_dvd]
  exact ⟨_, rfl⟩
theorem valAt_in {l : List Vr} (h : VarsOk l) (code : Int) {i : Nat} (hi : i < l.length) : (l.getD i vr0).lo ≤ valAt l code i ∧ valAt l code i ≤ (l.getD i vr0).hi := by
  have h1 := (h.at hi).1
  have h2 := Int.emod_nonneg (code / segP l (i + 1)) (show vspan (l.getD i vr0) ≠ 0 by omega)
  have h3 := Int.emod_lt_of_pos (code / segP l (i + 1)) (show 0 < vspan (l.getD i vr0) by omega)
  unfold valAt
  unfold vspan at *
  omega
def valsL (l : List Vr) (code : Int) : List Int := (List.range l.length).map (valAt l code)
def initsL (l : List Vr) : List Int := l.map Vr.ini
theorem inits_in {l : List Vr} (h : VarsOk l) : ∀ i, i < l.length → inB l (initsL l) i := by
  intro i hi
  have := h.at hi
  unfold inB initsL
  rw [show (l.map Vr.ini).getD i 0 = (l.getD i vr0).ini by simp [List.getD_eq_getElem?_getD, hi]]
  omega
end Go.Proofs.YtdlpmomohbdpgaaGreatDoor

/-
  What Code answers; slices of numbers at a place.
-/
namespace Go.Proofs.YtdlpmomohbdpgaaGreatDoor
open Go.ChangeShapes Go.WideShapes Go.ChangeAt Go.RowKit Go.Deep
open Terms Tm

theorem IntsV.shape {w : World} {v : Value} {l : List Int} (h : IntsV w v l) : ∃ ao cap, v = .slice ao l.length cap := by
  obtain ⟨ao, cap, h1, _⟩ := h
  exact ⟨ao, cap, h1⟩
theorem IntsV.at {w : World} {ao : Option Addr} {cap n : Nat} {l : List Int} (h : IntsV w (.slice ao n cap) l) {i : Nat} (hi : i < l.length) : ∃ b off, ao = some ⟨b, off, none⟩ ∧ b < w.heap.size ∧ w.cell? ⟨b, off + i, none⟩ = some (.int .i64 (l.getD i 0)) := by
  obtain ⟨ao', cap', h1, h3⟩ := h
  injection h1 with e1 e2 e3
  subst e1
  obtain ⟨b, off, e, hb, hh⟩ := h3 (by intro h; subst h; simp at hi)
  exact ⟨b, off, e, hb, hh i hi⟩

open Classical in
/-- with what Code refuses. -/
noncomputable def ccode (m : Mo) (vals : List Int) : Int := if mcode m = 0 then (if vals.length = m.vars.length ∧ ∀ i, i < m.vars.length → inB m.vars vals i then 0 else 9) else mcode m
noncomputable def cval (m : Mo) (vals : List Int) : Int := if ccode m vals = 0 then codeTo m.vars vals m.vars.length else 0
theorem ccode_bad {m : Mo} {vals : List Int} (h : mcode m ≠ 0) : ccode m vals = mcode m := by unfold ccode; rw [if_neg h]
theorem ccode_no {m : Mo} {vals : List Int} (h : mcode m = 0) (h2 : ¬ (vals.length = m.vars.length ∧ ∀ i, i < m.vars.length → inB m.vars vals i)) : ccode m vals = 9 := by unfold ccode; rw [if_pos h, if_neg h2]
theorem ccode_yes {m : Mo} {vals : List Int} (h : mcode m = 0) (h2 : vals.length = m.vars.length ∧ ∀ i, i < m.vars.length → inB m.vars vals i) : ccode m vals = 0 := by unfold ccode; rw [if_pos h, if_pos h2]

end Go.Proofs.YtdlpmomohbdpgaaGreatDoor

/-
  What Values answers.
-/
namespace Go.Proofs.YtdlpmomohbdpgaaGreatDoor
open Go.ChangeShapes Go.WideShapes Go.ChangeAt Go.RowKit Go.Deep
open Terms Tm

/-- with what Values refuses. -/
noncomputable def wcode (m : Mo) (code : Int) : Int := if mcode m = 0 then (if 0 ≤ code ∧ code < prodTo m.vars m.vars.length then 0 else 9) else mcode m
theorem wcode_bad {m : Mo} {code : Int} (h : mcode m ≠ 0) : wcode m code = mcode m := by unfold wcode; rw [if_neg h]
theorem wcode_no {m : Mo} {code : Int} (h : mcode m = 0) (h2 : ¬ (0 ≤ code ∧ code < prodTo m.vars m.vars.length)) : wcode m code = 9 := by unfold wcode; rw [if_pos h, if_neg h2]
theorem wcode_yes {m : Mo} {code : Int} (h : mcode m = 0) (h2 : 0 ≤ code ∧ code < prodTo m.vars m.vars.length) : wcode m code = 0 := by unfold wcode; rw [if_pos h, if_pos h2]


theorem intsV_of_row {w : World} {B n : Nat} {f : Nat → Int} (h : w.rowIs B 3 n (fun j => .int .i64 (f j))) : IntsV w (.slice (some ⟨B, 0, none⟩) n n) ((List.range n).map f) := by
  refine ⟨some ⟨B, 0, none⟩, n, by simp, fun _ => ⟨B, 0, rfl, h.lt, fun i hi => ?_⟩⟩
  simp only [List.length_map, List.length_range] at hi
  rw [Nat.zero_add, h.cell hi]
  simp [List.getD_eq_getElem?_getD, hi]
/-- what Values answers. -/
noncomputable def wvals (m : Mo) (code : Int) : List Int := if wcode m code = 0 then valsL m.vars code else []
end Go.Proofs.YtdlpmomohbdpgaaGreatDoor

/-
  The contracts of package expr's pairMakers, of the functions that it hands out, and of tooGreat and truth.
-/
namespace Go.Proofs.YtdlpmomohbdpgaaGreatDoor
open Go.ChangeShapes Go.WideShapes Go.ChangeAt Go.RowKit Go.Deep Go.Maps
open Terms Tm

theorem tooGreat_any (x : Int) (w : World) :
    Calls Tryz.prog 112 #[.int .i64 x] w fun e w' => e = .returned (.bool (decide (¬ (-1000000 ≤ x ∧ x ≤ 1000000)))) ∧ w' = w := by
  by_cases h1 : x < -1000000
  · rw [show decide (¬ (-1000000 ≤ x ∧ x ≤ 1000000)) = true by simp; omega]
    go_enter Tryz.func112, Tryz.ntmps112
    go_wp2
    all_goals go_ret
    all_goals exact ⟨rfl, rfl⟩
  · by_cases h2 : 1000000 < x
    · rw [show decide (¬ (-1000000 ≤ x ∧ x ≤ 1000000)) = true by simp; omega]
      go_enter Tryz.func112, Tryz.ntmps112
      go_wp2
      all_goals go_ret
      all_goals exact ⟨rfl, rfl⟩
    · rw [show decide (¬ (-1000000 ≤ x ∧ x ≤ 1000000)) = false by simp; omega]
      go_enter Tryz.func112, Tryz.ntmps112
      go_wp2
      all_goals go_ret
      all_goals exact ⟨rfl, rfl⟩

theorem truth_fn (c : Bool) (w : World) :
    Calls Tryz.prog 131 #[.bool c] w fun e w' => e = .returned (.int .i64 (if c = true then 1 else 0)) ∧ w' = w := by
  cases c
  all_goals
    go_enter Tryz.func131, Tryz.ntmps131
    go_wp2
    all_goals go_ret
    all_goals exact ⟨rfl, rfl⟩

/-- which function stands at a kind. -/
def pairFn (k : Int) : Nat := if k = 3 then 127 else if k = 4 then 128 else if k = 5 then 129 else if k = 6 then 130 else if k = 7 then 132 else if k = 8 then 133 else 134

theorem abs_le {x : Int} (h : -1000000 ≤ x ∧ x ≤ 1000000) : x.natAbs ≤ 1000000 := by omega
theorem mul_le {x y : Int} (hx : -1000000 ≤ x ∧ x ≤ 1000000) (hy : -1000000 ≤ y ∧ y ≤ 1000000) : -1000000000000 ≤ x * y ∧ x * y ≤ 1000000000000 := by
  have h := Nat.mul_le_mul (abs_le hx) (abs_le hy)
  rw [← Int.natAbs_mul] at h
  omega
set_option maxHeartbeats 800000 in
set_option maxRecDepth 20000 in
theorem pair_any (k x y : Int) (w : World) (h3 : 3 ≤ k) (h9 : k ≤ 9) (hx : -1000000 ≤ x ∧ x ≤ 1000000) (hy : -1000000 ≤ y ∧ y ≤ 1000000) (ht : 8 ≤ k → (x = 0 ∨ x = 1) ∧ (y = 0 ∨ y = 1)) :
    Calls Tryz.prog (pairFn k) #[.int .i64 x, .int .i64 y] w fun e w' => e = .returned (.int .i64 (bin k x y)) ∧ w' = w := by
  have hk : k = 3 ∨ k = 4 ∨ k = 5 ∨ k = 6 ∨ k = 7 ∨ k = 8 ∨ k = 9 := by omega
  have hm := mul_le hx hy
  obtain ⟨hm1, hm2⟩ := hm
  obtain ⟨hx1, hx2⟩ := hx
  obtain ⟨hy1, hy2⟩ := hy
  clear h3 h9
  rcases hk with rfl | rfl | rfl | rfl | rfl | rfl | rfl
  · show Calls Tryz.prog 127 _ _ _
    clear ht
    go_enter Tryz.func127, Tryz.ntmps127
    go_wp2
    go_ret
    exact ⟨rfl, rfl⟩
  · show Calls Tryz.prog 128 _ _ _
    clear ht
    go_enter Tryz.func128, Tryz.ntmps128
    go_wp2
    go_ret
    exact ⟨rfl, rfl⟩
  · show Calls Tryz.prog 129 _ _ _
    clear ht
    go_enter Tryz.func129, Tryz.ntmps129
    go_wp2
    go_ret
    exact ⟨rfl, rfl⟩
  · show Calls Tryz.prog 130 _ _ _
    clear ht
    have htr := fun w => truth_fn (x == y) w
    have hb : bin 6 x y = if (x == y) = true then 1 else 0 := by simp [bin]
    rw [← hb] at htr
    generalize bin 6 x y = z at htr ⊢
    clear hb
    go_enter Tryz.func130, Tryz.ntmps130
    go_wp2_with (go_at_call 131; refine (htr _).mono ?_; rintro e w1 ⟨rfl, rfl⟩)
    go_ret
    exact ⟨rfl, rfl⟩
  · show Calls Tryz.prog 132 _ _ _
    clear ht
    by_cases hc : x < y
    · have htr := fun w => truth_fn true w
      have hb : bin 7 x y = 1 := by simp [bin, hc]
      rw [hb]
      clear hb
      go_enter Tryz.func132, Tryz.ntmps132
      go_wp2_with (go_at_call 131; refine (htr _).mono ?_; rintro e w1 ⟨rfl, rfl⟩)
      go_ret
      exact ⟨rfl, rfl⟩
    · have htr := fun w => truth_fn false w
      have hb : bin 7 x y = 0 := by simp [bin, hc]
      rw [hb]
      clear hb
      go_enter Tryz.func132, Tryz.ntmps132
      go_wp2_with (go_at_call 131; refine (htr _).mono ?_; rintro e w1 ⟨rfl, rfl⟩)
      go_ret
      exact ⟨rfl, rfl⟩
  · show Calls Tryz.prog 133 _ _ _
    obtain ⟨ha, hb⟩ := ht (by decide)
    clear ht hm1 hm2 hx1 hx2 hy1 hy2
    rcases ha with rfl | rfl <;> rcases hb with rfl | rfl
    all_goals
      go_enter Tryz.func133, Tryz.ntmps133
      go_wp2
      go_ret
      exact ⟨rfl, rfl⟩
  · show Calls Tryz.prog 134 _ _ _
    obtain ⟨ha, hb⟩ := ht (by decide)
    clear ht hm1 hm2 hx1 hx2 hy1 hy2
    rcases ha with rfl | rfl <;> rcases hb with rfl | rfl
    all_goals
      go_enter Tryz.func134, Tryz.ntmps134
      go_wp2
      go_ret
      exact ⟨rfl, rfl⟩

/-! ### the map of functions -/

/-- how a function without what it captured reads: by its number. -/
def fnElem : Value → Option (DataW Unit × List MemPlace)
  | .func (.func f) first cap => if first = #[] ∧ cap = #[] then some (.lit (.int .i64 f), []) else none
  | .nilFunc => some (.nil, [])
  | _ => none
theorem fnElem_inv {v : Value} {f : Nat} {ps : List MemPlace} (h : fnElem v = some (.lit (.int .i64 f), ps)) : v = .func (.func f) #[] #[] := by
  unfold fnElem at h
  split at h
  · split at h
    · rename_i hc
      obtain ⟨rfl, rfl⟩ := hc
      simp at h
      rw [Int.ofNat.inj h.1]
    · simp at h
  · simp at h
  · simp at h
/-- a function of the program is put into a map of the call's own. -/
theorem wpList_insert_own {H : Type} {P : Program} (w : World) {ops : Array Oper} {rest : List Oper} {o : Oper} {a : Act} {Q : Exit → Act → World → Prop}
    (hg : o.guard = none) (m x v : Operand) (t : TypeId) (hop : o.op = Op.insert t m x v)
    (k e : TypeId) (K : Keyed P k) (ht : P.underlying t = some (.map k e)) (R : Value → Option (DataW H × List MemPlace)) (b n : Nat) (D : DataW H)
    (hm : a.eval m = .map (some b)) (hown : w.ownsMap P k R b n D) (hn : n < maxLen) (key val : Value) (kl : Lit) (hx : a.eval x = key) (hv : a.eval v = val) (hkey : keyOf P k key = some kl)
    (d : DataW H) (ps : List MemPlace) (hval : R val = some (d, ps))
    (hK : ∀ w', w'.ownsMap P k R b (n + 1) (D.put kl d) → w.grownBy w' (some b) → wpList P ops Q rest (a.put o.dst undef) w') :
    wpList P ops Q (o :: rest) a w := by
  refine wpList_plain hg fun K' hK' => ?_
  obtain ⟨w', hrun, r1, r2⟩ := hown.update K ht hn hkey hval
  unfold Oper.wp
  simp [execOp, hop, hm, hx, hv, hrun, Result.andThen]
  exact hK' _ _ (hK w' r1 r2)

def pairD : Nat → DataW Unit
  | 0 => .map []
  | n + 1 => (pairD n).put (.int .i64 ((n : Int) + 3)) (.lit (.int .i64 (pairFn ((n : Int) + 3))))
def PairsAt (w : World) (M : Nat) : Prop := w.ownsMap Tryz.prog 3 fnElem M 7 (pairD 7)
theorem PairsAt.later {w w' : World} {M : Nat} (h : PairsAt w M) (hb : Below w.heap.size w w') : PairsAt w' M := by
  have hlt := World.ownsMap.lt h
  obtain ⟨es, clock, h1, h2⟩ := h
  exact ⟨es, clock, (hb.block M hlt).trans h1, h2⟩
theorem keyInt : Keyed Tryz.prog 3 := int_keyed Tryz.underlying3
theorem key3 (k : Int) (h : 3 ≤ k ∧ k ≤ 9) : keyOf Tryz.prog 3 (.int .i64 k) = some (.int .i64 k) := keyOf_int_mk Tryz.underlying3 (WalkArith.wf_i64 (by omega))
theorem PairsAt.look {w : World} {M : Nat} (h : PairsAt w M) {k : Int} (h3 : 3 ≤ k) (h9 : k ≤ 9) :
    (Instr.lookup 161 (.map (some M)) (.int .i64 k) false).run Tryz.prog w = .ok (.func (.func (pairFn k)) #[] #[]) w := by
  obtain ⟨v, ps, hrun, hv⟩ := World.ownsMap.lookup h keyInt Tryz.underlying161 (z := .nilFunc) (by kernel_rfl) (zd := .nil) (zp := []) rfl (key3 k ⟨h3, h9⟩)
  have hat : (pairD 7).atKey (.int .i64 k) .nil = .lit (.int .i64 (pairFn k)) := by
    have hk : k = 3 ∨ k = 4 ∨ k = 5 ∨ k = 6 ∨ k = 7 ∨ k = 8 ∨ k = 9 := by omega
    rcases hk with rfl | rfl | rfl | rfl | rfl | rfl | rfl <;> rfl
  rw [hat] at hv
  rw [hrun, fnElem_inv hv]

set_option maxHeartbeats 1600000 in
set_option maxRecDepth 20000 in
/-- THE CONTRACT OF pairMakers. -/
theorem pairMakers_any (w : World) :
    Calls Tryz.prog 113 #[] w fun e w' => ∃ M, w.heap.size ≤ M ∧ e = .returned (.map (some M)) ∧ PairsAt w' M ∧ Below w.heap.size w w' := by
  have hmm := @run_makeMap Tryz.prog
  have h0 := World.ownsMap_made w Tryz.prog 3 fnElem
  go_enter Tryz.func113, Tryz.ntmps113
  go_wp2_with (first
    | (refine wpList_insert_own _ rfl _ _ _ 161 rfl 3 172 keyInt Tryz.underlying161 fnElem w.heap.size 6 _ rfl h6 (by unfold maxLen; omega) _ _ _ rfl rfl (key3 9 (by omega)) _ [] rfl ?_; intro w7 h7 g7)
    | (refine wpList_insert_own _ rfl _ _ _ 161 rfl 3 172 keyInt Tryz.underlying161 fnElem w.heap.size 5 _ rfl h5 (by unfold maxLen; omega) _ _ _ rfl rfl (key3 8 (by omega)) _ [] rfl ?_; intro w6 h6 g6)
    | (refine wpList_insert_own _ rfl _ _ _ 161 rfl 3 172 keyInt Tryz.underlying161 fnElem w.heap.size 4 _ rfl h4 (by unfold maxLen; omega) _ _ _ rfl rfl (key3 7 (by omega)) _ [] rfl ?_; intro w5 h5 g5)
    | (refine wpList_insert_own _ rfl _ _ _ 161 rfl 3 172 keyInt Tryz.underlying161 fnElem w.heap.size 3 _ rfl h3 (by unfold maxLen; omega) _ _ _ rfl rfl (key3 6 (by omega)) _ [] rfl ?_; intro w4 h4 g4)
    | (refine wpList_insert_own _ rfl _ _ _ 161 rfl 3 172 keyInt Tryz.underlying161 fnElem w.heap.size 2 _ rfl h2 (by unfold maxLen; omega) _ _ _ rfl rfl (key3 5 (by omega)) _ [] rfl ?_; intro w3 h3 g3)
    | (refine wpList_insert_own _ rfl _ _ _ 161 rfl 3 172 keyInt Tryz.underlying161 fnElem w.heap.size 1 _ rfl h1 (by unfold maxLen; omega) _ _ _ rfl rfl (key3 4 (by omega)) _ [] rfl ?_; intro w2 h2 g2)
    | (refine wpList_insert_own _ rfl _ _ _ 161 rfl 3 172 keyInt Tryz.underlying161 fnElem w.heap.size 0 _ rfl h0 (by unfold maxLen; omega) _ _ _ rfl rfl (key3 3 (by omega)) _ [] rfl ?_; intro w1 h1 g1))
  go_ret
  have hb0 : Below w.heap.size w (w.alloc (.map #[] 0)) := (Below.refl _ _).alloc (Nat.le_refl _) _
  have hb : ∀ {x y : World}, Below w.heap.size w x → x.grownBy y (some w.heap.size) → Below w.heap.size w y := fun h g => h.grown g h.size (fun j hj => by cases hj; exact Nat.le_refl _)
  exact ⟨w.heap.size, Nat.le_refl _, rfl, h7, hb (hb (hb (hb (hb (hb (hb hb0 g1) g2) g3) g4) g5) g6) g7⟩
end Go.Proofs.YtdlpmomohbdpgaaGreatDoor

/-
  The contract of package expr's (work).at.
-/
namespace Go.Proofs.YtdlpmomohbdpgaaGreatDoor
open Go.ChangeShapes Go.WideShapes Go.ChangeAt Go.RowKit Go.Deep
open Terms Tm

/-- what the work leans on: ops, their ends, the values, the functions. -/
structure WorkAt (w : World) (b off B : Nat) (eao : Option Addr) (M : Nat) (t : Tm) (env : List Int) : Prop where
  ob : b < w.heap.size
  ops : OpsAt w b off t.ops
  ends : w.rowIs B 3 t.size (fun q => .int .i64 (endAt (t.ops.map Prod.fst) q))
  env : ∀ i, i < env.length → ∃ eb eoff, eao = some ⟨eb, eoff, none⟩ ∧ eb < w.heap.size ∧ w.cell? ⟨eb, eoff + i, none⟩ = some (.int .i64 (env.getD i 0))
  pairs : PairsAt w M
theorem WorkAt.later {w w' : World} {b off B : Nat} {eao : Option Addr} {M : Nat} {t : Tm} {env : List Int} (h : WorkAt w b off B eao M t env) (hb : Below w.heap.size w w') : WorkAt w' b off B eao M t env := by
  obtain ⟨h1, h2, h3, h4, h5⟩ := h
  refine ⟨Nat.lt_of_lt_of_le h1 hb.size, h2.below hb h1, h3.of_block (hb.block B h3.lt), fun i hi => ?_, h5.later hb⟩
  obtain ⟨eb, eoff, e1, e2, e3⟩ := h4 i hi
  exact ⟨eb, eoff, e1, Nat.lt_of_lt_of_le e2 hb.size, (hb.cell (p := ⟨eb, eoff + i, none⟩) e2).trans e3⟩

/-- what the work on a tree leaves: a number, or it has given up. -/
def AtPost (r : Option Int) (w : World) (e : Ending) (w' : World) : Prop :=
  Below w.heap.size w w' ∧ match r with
    | some x => e = .returned (.int .i64 x)
    | none => e = .panicked [{ v := .iface 33 (.int .i64 8), recovered := false }]


abbrev workV (b off n cap B : Nat) (eao : Option Addr) (en ecap M : Nat) : Value := .agg #[.slice (some ⟨b, off, none⟩) n cap, .slice (some ⟨B, 0, none⟩) n n, .slice eao en ecap, .map (some M)]

set_option maxHeartbeats 400000 in
theorem at_num (b off n cap B : Nat) (eao : Option Addr) (en ecap M place : Nat) (x : Int) (w : World) (hob : b < w.heap.size) (hp : place < n) (c0 : w.cell? ⟨b, off + place * 2, none⟩ = some (.int .i64 1)) (c1 : w.cell? ⟨b, off + place * 2 + 1, none⟩ = some (.int .i64 x)) :
    Calls Tryz.prog 114 #[workV b off n cap B eao en ecap M, .int .i64 place] w (AtPost (some x) w) := by
  have hne : ¬ b = w.heap.size := by omega
  go_enter Tryz.func114, Tryz.ntmps114
  go_wp2_with fail
  go_ret
  exact ⟨((Below.refl _ _).alloc (Nat.le_refl _) _).alloc (by simp) _, rfl⟩
set_option maxHeartbeats 400000 in
theorem at_var (b off n cap B eb eoff en ecap M place j : Nat) (x : Int) (w : World) (hob : b < w.heap.size) (hp : place < n) (hj : j < en) (c0 : w.cell? ⟨b, off + place * 2, none⟩ = some (.int .i64 2)) (c1 : w.cell? ⟨b, off + place * 2 + 1, none⟩ = some (.int .i64 j)) (hbl : eb < w.heap.size) (c2 : w.cell? ⟨eb, eoff + j, none⟩ = some (.int .i64 x)) :
    Calls Tryz.prog 114 #[workV b off n cap B (some ⟨eb, eoff, none⟩) en ecap M, .int .i64 place] w (AtPost (some x) w) := by
  have hne : ¬ b = w.heap.size := by omega
  go_enter Tryz.func114, Tryz.ntmps114
  go_wp2_with fail
  go_ret
  exact ⟨((Below.refl _ _).alloc (Nat.le_refl _) _).alloc (by simp) _, rfl⟩
set_option maxHeartbeats 400000 in
theorem at_lit (b off n cap B : Nat) (eao : Option Addr) (en ecap M place : Nat) (k : Int) (hk : k = 11 ∨ k = 12) (w : World) (hob : b < w.heap.size) (hp : place < n) (c0 : w.cell? ⟨b, off + place * 2, none⟩ = some (.int .i64 k)) (c1 : w.cell? ⟨b, off + place * 2 + 1, none⟩ = some (.int .i64 0)) :
    Calls Tryz.prog 114 #[workV b off n cap B eao en ecap M, .int .i64 place] w (AtPost (some (if k = 11 then 1 else 0)) w) := by
  rcases hk with rfl | rfl
  · rw [if_pos rfl]
    have hne : ¬ b = w.heap.size := by omega
    go_enter Tryz.func114, Tryz.ntmps114
    go_wp2_with fail
    go_ret
    exact ⟨((Below.refl _ _).alloc (Nat.le_refl _) _).alloc (by simp) _, rfl⟩
  · rw [if_neg (by decide)]
    have hne : ¬ b = w.heap.size := by omega
    go_enter Tryz.func114, Tryz.ntmps114
    go_wp2_with fail
    go_ret
    exact ⟨((Below.refl _ _).alloc (Nat.le_refl _) _).alloc (by simp) _, rfl⟩
set_option maxHeartbeats 400000 in
theorem at_not (b off n cap B : Nat) (eao : Option Addr) (en ecap M place : Nat) (r : Option Int) (w : World) (hob : b < w.heap.size) (hp : place < n) (h60 : n ≤ 60) (c0 : w.cell? ⟨b, off + place * 2, none⟩ = some (.int .i64 10)) (c1 : w.cell? ⟨b, off + place * 2 + 1, none⟩ = some (.int .i64 0))
    (hr : ∀ x, r = some x → -1000000 ≤ x ∧ x ≤ 1000000)
    (hrec : ∀ w', Below w.heap.size w w' → Calls Tryz.prog 114 #[workV b off n cap B eao en ecap M, .int .i64 ((place : Int) + 1)] w' (AtPost r w')) :
    Calls Tryz.prog 114 #[workV b off n cap B eao en ecap M, .int .i64 place] w (AtPost (r.map (1 - ·)) w) := by
  have hne : ¬ b = w.heap.size := by omega
  have hb2 : Below w.heap.size w ((w.alloc (.cells #[.slice (some ⟨b, off, none⟩) n cap, .slice (some ⟨B, 0, none⟩) n n, .slice eao en ecap, .map (some M)] 164)).alloc (.cells #[.int .i64 10, .int .i64 0] 105)) := ((Below.refl _ _).alloc (Nat.le_refl _) _).alloc (by simp) _
  have hrec' := hrec _ hb2
  have HB2 := (show Hid _ from hb2)
  clear hrec hb2
  cases r with
  | none =>
    go_enter Tryz.func114, Tryz.ntmps114
    go_wp2_with (go_at_call 114; refine hrec'.mono ?_; rintro e w1 ⟨hb1, rfl⟩)
    exact ⟨rfl, HB2.out.trans (hb1.mono HB2.out.size), rfl⟩
  | some x =>
    obtain ⟨hx1, hx2⟩ := hr x rfl
    clear hr
    go_enter Tryz.func114, Tryz.ntmps114
    go_wp2_with (go_at_call 114; refine hrec'.mono ?_; rintro e w1 ⟨hb1, rfl⟩)
    go_ret
    exact ⟨HB2.out.trans (hb1.mono HB2.out.size), rfl⟩

end Go.Proofs.YtdlpmomohbdpgaaGreatDoor

/-
  The contract of package expr's (work).at: an op of two parts.
-/
namespace Go.Proofs.YtdlpmomohbdpgaaGreatDoor
open Go.ChangeShapes Go.WideShapes Go.ChangeAt Go.RowKit Go.Deep
open Terms Tm
attribute [local go_sem ↓] Go.wp_at_zero Go.wp_at_succ

theorem pair_enters (k : Int) (h3 : 3 ≤ k) (h9 : k ≤ 9) (args : Array Value) (w : World) : (callFunc (pairFn k) args).run Tryz.prog w = .ok (.enter (pairFn k) args) w := by
  have hk : k = 3 ∨ k = 4 ∨ k = 5 ∨ k = 6 ∨ k = 7 ∨ k = 8 ∨ k = 9 := by omega
  rcases hk with rfl | rfl | rfl | rfl | rfl | rfl | rfl
  · show (callFunc 127 args).run Tryz.prog w = .ok (.enter 127 args) w; simp [go_sem]
  · show (callFunc 128 args).run Tryz.prog w = .ok (.enter 128 args) w; simp [go_sem]
  · show (callFunc 129 args).run Tryz.prog w = .ok (.enter 129 args) w; simp [go_sem]
  · show (callFunc 130 args).run Tryz.prog w = .ok (.enter 130 args) w; simp [go_sem]
  · show (callFunc 132 args).run Tryz.prog w = .ok (.enter 132 args) w; simp [go_sem]
  · show (callFunc 133 args).run Tryz.prog w = .ok (.enter 133 args) w; simp [go_sem]
  · show (callFunc 134 args).run Tryz.prog w = .ok (.enter 134 args) w; simp [go_sem]
theorem wrap_small {x : Int} (h1 : 0 ≤ x) (h2 : x ≤ 1000) : IntKind.i64.wrap x = x := by
  simp [IntKind.wrap, IntKind.bits, IntKind.signed]; omega

set_option maxHeartbeats 800000 in
set_option maxRecDepth 20000 in
theorem at_bi (b off n cap B : Nat) (eao : Option Addr) (en ecap M place E1 F : Nat) (k x y z : Int) (w : World) (hob : b < w.heap.size) (hBB : B < w.heap.size) (hp : place + 1 < n) (P1 : Nat) (hP1 : P1 = place + 1) (h60 : n ≤ 60) (hk3 : 3 ≤ k) (hk9 : k ≤ 9) (c0 : w.cell? ⟨b, off + place * 2, none⟩ = some (.int .i64 k)) (c1 : w.cell? ⟨b, off + place * 2 + 1, none⟩ = some (.int .i64 0)) (cE : w.cell? ⟨B, P1, none⟩ = some (.int .i64 E1))
    (hlook : ∀ w', Below w.heap.size w w' → (Instr.lookup 161 (.map (some M)) (.int .i64 k) false).run Tryz.prog w' = .ok (.func (.func F) #[] #[]) w')
    (hent : ∀ args w, (callFunc F args).run Tryz.prog w = .ok (.enter F args) w)
    (hpair : ∀ w', Calls Tryz.prog F #[.int .i64 x, .int .i64 y] w' fun e w'' => e = .returned (.int .i64 z) ∧ w'' = w')
    (hra : ∀ w', Below w.heap.size w w' → Calls Tryz.prog 114 #[workV b off n cap B eao en ecap M, .int .i64 P1] w' (AtPost (some x) w'))
    (hrb : ∀ w', Below w.heap.size w w' → Calls Tryz.prog 114 #[workV b off n cap B eao en ecap M, .int .i64 E1] w' (AtPost (some y) w')) :
    Calls Tryz.prog 114 #[workV b off n cap B eao en ecap M, .int .i64 place] w (AtPost (lid z) w) := by
  have hne : ¬ b = w.heap.size := by omega
  have hneB : ¬ B = w.heap.size := by omega
  have e1 : ¬ k = 1 := by omega
  have e2 : ¬ k = 2 := by omega
  have e3 : ¬ k = 10 := by omega
  have e4 : ¬ k = 11 := by omega
  have e5 : ¬ k = 12 := by omega
  obtain ⟨W2, hW2⟩ : ∃ W2, W2 = ((w.alloc (.cells #[.slice (some ⟨b, off, none⟩) n cap, .slice (some ⟨B, 0, none⟩) n n, .slice eao en ecap, .map (some M)] 164)).alloc (.cells #[.int .i64 k, .int .i64 0] 105)) := ⟨_, rfl⟩
  have hb2 : Below w.heap.size w W2 := by rw [hW2]; exact ((Below.refl _ _).alloc (Nat.le_refl _) _).alloc (by simp) _
  have hsz : W2.heap.size = w.heap.size + 1 + 1 := by rw [hW2]; simp
  have d0 : W2.cell? ⟨w.heap.size, 0, none⟩ = some (.slice (some ⟨b, off, none⟩) n cap) := by rw [hW2]; simp [go_sem]
  have d1 : W2.cell? ⟨w.heap.size, 1, none⟩ = some (.slice (some ⟨B, 0, none⟩) n n) := by rw [hW2]; simp [go_sem]
  have d2 : W2.cell? ⟨w.heap.size, 2, none⟩ = some (.slice eao en ecap) := by rw [hW2]; simp [go_sem]
  have d3 : W2.cell? ⟨w.heap.size, 3, none⟩ = some (.map (some M)) := by rw [hW2]; simp [go_sem]
  have d4 : W2.cell? ⟨w.heap.size + 1, 0, none⟩ = some (.int .i64 k) := by rw [hW2]; simp [go_sem]
  have d5 : W2.cell? ⟨B, P1, none⟩ = some (.int .i64 E1) := (hb2.cell (p := ⟨B, P1, none⟩) hBB).trans cE
  have HW2 := (show Hid _ from hW2)
  have hS : ∀ w', Below W2.heap.size W2 w' → w'.cell? ⟨w.heap.size, 0, none⟩ = some (.slice (some ⟨b, off, none⟩) n cap) ∧ w'.cell? ⟨w.heap.size, 1, none⟩ = some (.slice (some ⟨B, 0, none⟩) n n) ∧ w'.cell? ⟨w.heap.size, 2, none⟩ = some (.slice eao en ecap) ∧ w'.cell? ⟨w.heap.size, 3, none⟩ = some (.map (some M)) ∧ w'.cell? ⟨w.heap.size + 1, 0, none⟩ = some (.int .i64 k) ∧ w'.cell? ⟨B, P1, none⟩ = some (.int .i64 E1) ∧ (Instr.lookup 161 (.map (some M)) (.int .i64 k) false).run Tryz.prog w' = .ok (.func (.func F) #[] #[]) w' := fun w' hw' =>
    ⟨(hw'.cell (p := ⟨w.heap.size, 0, none⟩) (by simp only; omega)).trans d0, (hw'.cell (p := ⟨w.heap.size, 1, none⟩) (by simp only; omega)).trans d1, (hw'.cell (p := ⟨w.heap.size, 2, none⟩) (by simp only; omega)).trans d2, (hw'.cell (p := ⟨w.heap.size, 3, none⟩) (by simp only; omega)).trans d3, (hw'.cell (p := ⟨w.heap.size + 1, 0, none⟩) (by simp only; omega)).trans d4, (hw'.cell (p := ⟨B, P1, none⟩) (by simp only; omega)).trans d5, hlook w' (hb2.trans (hw'.mono hb2.size))⟩
  have hra' : ∀ w', Below W2.heap.size W2 w' → Calls Tryz.prog 114 #[workV b off n cap B eao en ecap M, .int .i64 P1] w' (AtPost (some x) w') := fun w' hw' => hra w' (hb2.trans (hw'.mono hb2.size))
  have hrb' : ∀ w', Below W2.heap.size W2 w' → Calls Tryz.prog 114 #[workV b off n cap B eao en ecap M, .int .i64 E1] w' (AtPost (some y) w') := fun w' hw' => hrb w' (hb2.trans (hw'.mono hb2.size))
  have hB0 : Below W2.heap.size W2 W2 := Below.refl _ _
  have HB2 : Hid (Below w.heap.size w W2) := hb2
  have hp0 : place < n := by omega
  have hi0 : (0 : Int) ≤ (P1 : Int) := by omega
  have hi1 : (P1 : Int) < (n : Int) := by omega
  have hpp : (place : Int) + 1 = (P1 : Int) := by omega
  have hwr : IntKind.i64.wrap (P1 : Int) = (P1 : Int) := wrap_small (by omega) (by omega)
  have hwr2 : IntKind.i64.wrap ((place : Int) + 1) = (P1 : Int) := by rw [hpp]; exact hwr
  have htg := fun w => tooGreat_any z w
  clear hW2 hb2 hra hrb hlook hP1 hp hsz d0 d1 d2 d3 d4 d5
  by_cases hz : -1000000 ≤ z ∧ z ≤ 1000000
  · rw [show decide (¬ (-1000000 ≤ z ∧ z ≤ 1000000)) = false by simpa using hz] at htg
    rw [show lid z = some z by unfold lid; rw [if_pos hz]]
    clear hz
    go_enter Tryz.func114, Tryz.ntmps114
    go_wp2_with fail
    rw [← HW2.out]
    clear c0 c1 cE
    go_region_held3 (fun w' => w'.cell? ⟨w.heap.size, 0, none⟩ = some (.slice (some ⟨b, off, none⟩) n cap) ∧ w'.cell? ⟨w.heap.size, 1, none⟩ = some (.slice (some ⟨B, 0, none⟩) n n) ∧ w'.cell? ⟨w.heap.size, 2, none⟩ = some (.slice eao en ecap) ∧ w'.cell? ⟨w.heap.size, 3, none⟩ = some (.map (some M)) ∧ w'.cell? ⟨w.heap.size + 1, 0, none⟩ = some (.int .i64 k) ∧ w'.cell? ⟨B, P1, none⟩ = some (.int .i64 E1) ∧ (Instr.lookup 161 (.map (some M)) (.int .i64 k) false).run Tryz.prog w' = .ok (.func (.func F) #[] #[]) w')
      (exact hS _ (by first | exact hB0 | exact hB0.drew | exact hB0.drew.trans hb1 | exact (hB0.drew.trans hb1).trans (hb3.mono (hB0.drew.trans hb1).size)))
      (first | (go_at_call_of 114 E1; refine (hrb' _ (hB0.drew.trans hb1)).mono ?_; rintro e w3 ⟨hb3, rfl⟩) | (go_at_call 114; refine (hra' _ hB0.drew).mono ?_; rintro e w1 ⟨hb1, rfl⟩) | (refine (hpair _).mono ?_; rintro e w4 ⟨rfl, rfl⟩))
    all_goals
      go_wp2_with (go_at_call 112; refine (htg _).mono ?_; rintro e w5 ⟨rfl, rfl⟩)
      go_ret
      exact ⟨HB2.out.trans (((hB0.drew.trans hb1).trans (hb3.mono (hB0.drew.trans hb1).size)).mono HB2.out.size), rfl⟩
  · rw [show decide (¬ (-1000000 ≤ z ∧ z ≤ 1000000)) = true by simp; omega] at htg
    rw [show lid z = none by unfold lid; rw [if_neg hz]]
    clear hz
    go_enter Tryz.func114, Tryz.ntmps114
    go_wp2_with fail
    rw [← HW2.out]
    clear c0 c1 cE
    go_region_held3 (fun w' => w'.cell? ⟨w.heap.size, 0, none⟩ = some (.slice (some ⟨b, off, none⟩) n cap) ∧ w'.cell? ⟨w.heap.size, 1, none⟩ = some (.slice (some ⟨B, 0, none⟩) n n) ∧ w'.cell? ⟨w.heap.size, 2, none⟩ = some (.slice eao en ecap) ∧ w'.cell? ⟨w.heap.size, 3, none⟩ = some (.map (some M)) ∧ w'.cell? ⟨w.heap.size + 1, 0, none⟩ = some (.int .i64 k) ∧ w'.cell? ⟨B, P1, none⟩ = some (.int .i64 E1) ∧ (Instr.lookup 161 (.map (some M)) (.int .i64 k) false).run Tryz.prog w' = .ok (.func (.func F) #[] #[]) w')
      (exact hS _ (by first | exact hB0 | exact hB0.drew | exact hB0.drew.trans hb1 | exact (hB0.drew.trans hb1).trans (hb3.mono (hB0.drew.trans hb1).size)))
      (first | (go_at_call_of 114 E1; refine (hrb' _ (hB0.drew.trans hb1)).mono ?_; rintro e w3 ⟨hb3, rfl⟩) | (go_at_call 114; refine (hra' _ hB0.drew).mono ?_; rintro e w1 ⟨hb1, rfl⟩) | (refine (hpair _).mono ?_; rintro e w4 ⟨rfl, rfl⟩))
    all_goals
      go_wp2_with (go_at_call 112; refine (htg _).mono ?_; rintro e w5 ⟨rfl, rfl⟩)
      exact ⟨rfl, HB2.out.trans (((hB0.drew.trans hb1).trans (hb3.mono (hB0.drew.trans hb1).size)).mono HB2.out.size), rfl⟩
end Go.Proofs.YtdlpmomohbdpgaaGreatDoor

/-
  The contract of package expr's (work).at: an op of two parts, where a part gives up.
-/
namespace Go.Proofs.YtdlpmomohbdpgaaGreatDoor
open Go.ChangeShapes Go.WideShapes Go.ChangeAt Go.RowKit Go.Deep
open Terms Tm
attribute [local go_sem ↓] Go.wp_at_zero Go.wp_at_succ

/-- a callee that gives up: what would follow if it came back is shown from nothing. -/
theorem Calls.pan {f : FuncId} {args : Array Value} {w : World} {X : Ending → World → Prop} (x : Int) (h : Calls Tryz.prog f args w (AtPost none w))
    (hX : ∀ w', Below w.heap.size w w' → X (.panicked [{ v := .iface 33 (.int .i64 8), recovered := false }]) w') (_ : ∀ w', Below w.heap.size w w' → Hid False → X (.returned (.int .i64 x)) w') : Calls Tryz.prog f args w X :=
  h.mono fun e w' ⟨hb, he⟩ => by subst he; exact hX w' hb

set_option maxHeartbeats 800000 in
set_option maxRecDepth 20000 in
theorem at_bi_a (b off n cap B : Nat) (eao : Option Addr) (en ecap M place E1 F : Nat) (k x y z : Int) (w : World) (hob : b < w.heap.size) (hBB : B < w.heap.size) (hp : place + 1 < n) (P1 : Nat) (hP1 : P1 = place + 1) (h60 : n ≤ 60) (hk3 : 3 ≤ k) (hk9 : k ≤ 9) (c0 : w.cell? ⟨b, off + place * 2, none⟩ = some (.int .i64 k)) (c1 : w.cell? ⟨b, off + place * 2 + 1, none⟩ = some (.int .i64 0)) (cE : w.cell? ⟨B, P1, none⟩ = some (.int .i64 E1))
    (hlook : ∀ w', Below w.heap.size w w' → (Instr.lookup 161 (.map (some M)) (.int .i64 k) false).run Tryz.prog w' = .ok (.func (.func F) #[] #[]) w')
    (hent : ∀ args w, (callFunc F args).run Tryz.prog w = .ok (.enter F args) w)
    (hpair : ∀ w', Calls Tryz.prog F #[.int .i64 x, .int .i64 y] w' fun e w'' => e = .returned (.int .i64 z) ∧ w'' = w')
    (hra : ∀ w', Below w.heap.size w w' → Calls Tryz.prog 114 #[workV b off n cap B eao en ecap M, .int .i64 P1] w' (AtPost none w'))
    (hrb : Hid False → ∀ w', Below w.heap.size w w' → Calls Tryz.prog 114 #[workV b off n cap B eao en ecap M, .int .i64 E1] w' (AtPost (some y) w')) :
    Calls Tryz.prog 114 #[workV b off n cap B eao en ecap M, .int .i64 place] w (AtPost none w) := by
  have hne : ¬ b = w.heap.size := by omega
  have hneB : ¬ B = w.heap.size := by omega
  have e1 : ¬ k = 1 := by omega
  have e2 : ¬ k = 2 := by omega
  have e3 : ¬ k = 10 := by omega
  have e4 : ¬ k = 11 := by omega
  have e5 : ¬ k = 12 := by omega
  obtain ⟨W2, hW2⟩ : ∃ W2, W2 = ((w.alloc (.cells #[.slice (some ⟨b, off, none⟩) n cap, .slice (some ⟨B, 0, none⟩) n n, .slice eao en ecap, .map (some M)] 164)).alloc (.cells #[.int .i64 k, .int .i64 0] 105)) := ⟨_, rfl⟩
  have hb2 : Below w.heap.size w W2 := by rw [hW2]; exact ((Below.refl _ _).alloc (Nat.le_refl _) _).alloc (by simp) _
  have hsz : W2.heap.size = w.heap.size + 1 + 1 := by rw [hW2]; simp
  have d0 : W2.cell? ⟨w.heap.size, 0, none⟩ = some (.slice (some ⟨b, off, none⟩) n cap) := by rw [hW2]; simp [go_sem]
  have d1 : W2.cell? ⟨w.heap.size, 1, none⟩ = some (.slice (some ⟨B, 0, none⟩) n n) := by rw [hW2]; simp [go_sem]
  have d2 : W2.cell? ⟨w.heap.size, 2, none⟩ = some (.slice eao en ecap) := by rw [hW2]; simp [go_sem]
  have d3 : W2.cell? ⟨w.heap.size, 3, none⟩ = some (.map (some M)) := by rw [hW2]; simp [go_sem]
  have d4 : W2.cell? ⟨w.heap.size + 1, 0, none⟩ = some (.int .i64 k) := by rw [hW2]; simp [go_sem]
  have d5 : W2.cell? ⟨B, P1, none⟩ = some (.int .i64 E1) := (hb2.cell (p := ⟨B, P1, none⟩) hBB).trans cE
  have HW2 := (show Hid _ from hW2)
  have hS : ∀ w', Below W2.heap.size W2 w' → w'.cell? ⟨w.heap.size, 0, none⟩ = some (.slice (some ⟨b, off, none⟩) n cap) ∧ w'.cell? ⟨w.heap.size, 1, none⟩ = some (.slice (some ⟨B, 0, none⟩) n n) ∧ w'.cell? ⟨w.heap.size, 2, none⟩ = some (.slice eao en ecap) ∧ w'.cell? ⟨w.heap.size, 3, none⟩ = some (.map (some M)) ∧ w'.cell? ⟨w.heap.size + 1, 0, none⟩ = some (.int .i64 k) ∧ w'.cell? ⟨B, P1, none⟩ = some (.int .i64 E1) ∧ (Instr.lookup 161 (.map (some M)) (.int .i64 k) false).run Tryz.prog w' = .ok (.func (.func F) #[] #[]) w' := fun w' hw' =>
    ⟨(hw'.cell (p := ⟨w.heap.size, 0, none⟩) (by simp only; omega)).trans d0, (hw'.cell (p := ⟨w.heap.size, 1, none⟩) (by simp only; omega)).trans d1, (hw'.cell (p := ⟨w.heap.size, 2, none⟩) (by simp only; omega)).trans d2, (hw'.cell (p := ⟨w.heap.size, 3, none⟩) (by simp only; omega)).trans d3, (hw'.cell (p := ⟨w.heap.size + 1, 0, none⟩) (by simp only; omega)).trans d4, (hw'.cell (p := ⟨B, P1, none⟩) (by simp only; omega)).trans d5, hlook w' (hb2.trans (hw'.mono hb2.size))⟩
  have hra' : ∀ w', Below W2.heap.size W2 w' → Calls Tryz.prog 114 #[workV b off n cap B eao en ecap M, .int .i64 P1] w' (AtPost none w') := fun w' hw' => hra w' (hb2.trans (hw'.mono hb2.size))
  have hrb' : Hid False → ∀ w', Below W2.heap.size W2 w' → Calls Tryz.prog 114 #[workV b off n cap B eao en ecap M, .int .i64 E1] w' (AtPost (some y) w') := fun hF w' hw' => hrb hF w' (hb2.trans (hw'.mono hb2.size))
  have hB0 : Below W2.heap.size W2 W2 := Below.refl _ _
  have HB2 : Hid (Below w.heap.size w W2) := hb2
  have hp0 : place < n := by omega
  have hi0 : (0 : Int) ≤ (P1 : Int) := by omega
  have hi1 : (P1 : Int) < (n : Int) := by omega
  have hpp : (place : Int) + 1 = (P1 : Int) := by omega
  have hwr : IntKind.i64.wrap (P1 : Int) = (P1 : Int) := wrap_small (by omega) (by omega)
  have hwr2 : IntKind.i64.wrap ((place : Int) + 1) = (P1 : Int) := by rw [hpp]; exact hwr
  clear hW2 hb2 hra hrb hlook hP1 hp hsz d0 d1 d2 d3 d4 d5
  go_enter Tryz.func114, Tryz.ntmps114
  go_wp2_with fail
  rw [← HW2.out]
  clear c0 c1 cE
  go_region_held2 (fun w' => w'.cell? ⟨w.heap.size, 0, none⟩ = some (.slice (some ⟨b, off, none⟩) n cap) ∧ w'.cell? ⟨w.heap.size, 1, none⟩ = some (.slice (some ⟨B, 0, none⟩) n n) ∧ w'.cell? ⟨w.heap.size, 2, none⟩ = some (.slice eao en ecap) ∧ w'.cell? ⟨w.heap.size, 3, none⟩ = some (.map (some M)) ∧ w'.cell? ⟨w.heap.size + 1, 0, none⟩ = some (.int .i64 k) ∧ w'.cell? ⟨B, P1, none⟩ = some (.int .i64 E1) ∧ (Instr.lookup 161 (.map (some M)) (.int .i64 k) false).run Tryz.prog w' = .ok (.func (.func F) #[] #[]) w')
    (exact hS _ (by first | exact hB0 | exact hB0.drew | exact hB0.drew.trans hb1 | exact (hB0.drew.trans hb1).trans (hb3.mono (hB0.drew.trans hb1).size)))
    (first | (go_at_call_of 114 E1; refine (hrb' hF _ (hB0.drew.trans hb1)).mono ?_; rintro e w3 ⟨hb3, rfl⟩) | (go_at_call 114; refine Calls.pan x (hra' _ hB0.drew) (fun w1 hb1 => ⟨rfl, HB2.out.trans ((hB0.drew.trans hb1).mono HB2.out.size), rfl⟩) (fun w1 hb1 hF => ?_)) | (refine (hpair _).mono ?_; rintro e w4 ⟨rfl, rfl⟩))
  all_goals exact hF.out.elim
set_option maxHeartbeats 800000 in
set_option maxRecDepth 20000 in
theorem at_bi_b (b off n cap B : Nat) (eao : Option Addr) (en ecap M place E1 F : Nat) (k x y z : Int) (w : World) (hob : b < w.heap.size) (hBB : B < w.heap.size) (hp : place + 1 < n) (P1 : Nat) (hP1 : P1 = place + 1) (h60 : n ≤ 60) (hk3 : 3 ≤ k) (hk9 : k ≤ 9) (c0 : w.cell? ⟨b, off + place * 2, none⟩ = some (.int .i64 k)) (c1 : w.cell? ⟨b, off + place * 2 + 1, none⟩ = some (.int .i64 0)) (cE : w.cell? ⟨B, P1, none⟩ = some (.int .i64 E1))
    (hlook : ∀ w', Below w.heap.size w w' → (Instr.lookup 161 (.map (some M)) (.int .i64 k) false).run Tryz.prog w' = .ok (.func (.func F) #[] #[]) w')
    (hent : ∀ args w, (callFunc F args).run Tryz.prog w = .ok (.enter F args) w)
    (hpair : ∀ w', Calls Tryz.prog F #[.int .i64 x, .int .i64 y] w' fun e w'' => e = .returned (.int .i64 z) ∧ w'' = w')
    (hra : ∀ w', Below w.heap.size w w' → Calls Tryz.prog 114 #[workV b off n cap B eao en ecap M, .int .i64 P1] w' (AtPost (some x) w'))
    (hrb : ∀ w', Below w.heap.size w w' → Calls Tryz.prog 114 #[workV b off n cap B eao en ecap M, .int .i64 E1] w' (AtPost none w')) :
    Calls Tryz.prog 114 #[workV b off n cap B eao en ecap M, .int .i64 place] w (AtPost none w) := by
  have hne : ¬ b = w.heap.size := by omega
  have hneB : ¬ B = w.heap.size := by omega
  have e1 : ¬ k = 1 := by omega
  have e2 : ¬ k = 2 := by omega
  have e3 : ¬ k = 10 := by omega
  have e4 : ¬ k = 11 := by omega
  have e5 : ¬ k = 12 := by omega
  obtain ⟨W2, hW2⟩ : ∃ W2, W2 = ((w.alloc (.cells #[.slice (some ⟨b, off, none⟩) n cap, .slice (some ⟨B, 0, none⟩) n n, .slice eao en ecap, .map (some M)] 164)).alloc (.cells #[.int .i64 k, .int .i64 0] 105)) := ⟨_, rfl⟩
  have hb2 : Below w.heap.size w W2 := by rw [hW2]; exact ((Below.refl _ _).alloc (Nat.le_refl _) _).alloc (by simp) _
  have hsz : W2.heap.size = w.heap.size + 1 + 1 := by rw [hW2]; simp
  have d0 : W2.cell? ⟨w.heap.size, 0, none⟩ = some (.slice (some ⟨b, off, none⟩) n cap) := by rw [hW2]; simp [go_sem]
  have d1 : W2.cell? ⟨w.heap.size, 1, none⟩ = some (.slice (some ⟨B, 0, none⟩) n n) := by rw [hW2]; simp [go_sem]
  have d2 : W2.cell? ⟨w.heap.size, 2, none⟩ = some (.slice eao en ecap) := by rw [hW2]; simp [go_sem]
  have d3 : W2.cell? ⟨w.heap.size, 3, none⟩ = some (.map (some M)) := by rw [hW2]; simp [go_sem]
  have d4 : W2.cell? ⟨w.heap.size + 1, 0, none⟩ = some (.int .i64 k) := by rw [hW2]; simp [go_sem]
  have d5 : W2.cell? ⟨B, P1, none⟩ = some (.int .i64 E1) := (hb2.cell (p := ⟨B, P1, none⟩) hBB).trans cE
  have HW2 := (show Hid _ from hW2)
  have hS : ∀ w', Below W2.heap.size W2 w' → w'.cell? ⟨w.heap.size, 0, none⟩ = some (.slice (some ⟨b, off, none⟩) n cap) ∧ w'.cell? ⟨w.heap.size, 1, none⟩ = some (.slice (some ⟨B, 0, none⟩) n n) ∧ w'.cell? ⟨w.heap.size, 2, none⟩ = some (.slice eao en ecap) ∧ w'.cell? ⟨w.heap.size, 3, none⟩ = some (.map (some M)) ∧ w'.cell? ⟨w.heap.size + 1, 0, none⟩ = some (.int .i64 k) ∧ w'.cell? ⟨B, P1, none⟩ = some (.int .i64 E1) ∧ (Instr.lookup 161 (.map (some M)) (.int .i64 k) false).run Tryz.prog w' = .ok (.func (.func F) #[] #[]) w' := fun w' hw' =>
    ⟨(hw'.cell (p := ⟨w.heap.size, 0, none⟩) (by simp only; omega)).trans d0, (hw'.cell (p := ⟨w.heap.size, 1, none⟩) (by simp only; omega)).trans d1, (hw'.cell (p := ⟨w.heap.size, 2, none⟩) (by simp only; omega)).trans d2, (hw'.cell (p := ⟨w.heap.size, 3, none⟩) (by simp only; omega)).trans d3, (hw'.cell (p := ⟨w.heap.size + 1, 0, none⟩) (by simp only; omega)).trans d4, (hw'.cell (p := ⟨B, P1, none⟩) (by simp only; omega)).trans d5, hlook w' (hb2.trans (hw'.mono hb2.size))⟩
  have hra' : ∀ w', Below W2.heap.size W2 w' → Calls Tryz.prog 114 #[workV b off n cap B eao en ecap M, .int .i64 P1] w' (AtPost (some x) w') := fun w' hw' => hra w' (hb2.trans (hw'.mono hb2.size))
  have hrb' : ∀ w', Below W2.heap.size W2 w' → Calls Tryz.prog 114 #[workV b off n cap B eao en ecap M, .int .i64 E1] w' (AtPost none w') := fun w' hw' => hrb w' (hb2.trans (hw'.mono hb2.size))
  have hB0 : Below W2.heap.size W2 W2 := Below.refl _ _
  have HB2 : Hid (Below w.heap.size w W2) := hb2
  have hp0 : place < n := by omega
  have hi0 : (0 : Int) ≤ (P1 : Int) := by omega
  have hi1 : (P1 : Int) < (n : Int) := by omega
  have hpp : (place : Int) + 1 = (P1 : Int) := by omega
  have hwr : IntKind.i64.wrap (P1 : Int) = (P1 : Int) := wrap_small (by omega) (by omega)
  have hwr2 : IntKind.i64.wrap ((place : Int) + 1) = (P1 : Int) := by rw [hpp]; exact hwr
  clear hW2 hb2 hra hrb hlook hP1 hp hsz d0 d1 d2 d3 d4 d5
  go_enter Tryz.func114, Tryz.ntmps114
  go_wp2_with fail
  rw [← HW2.out]
  clear c0 c1 cE
  go_region_held2 (fun w' => w'.cell? ⟨w.heap.size, 0, none⟩ = some (.slice (some ⟨b, off, none⟩) n cap) ∧ w'.cell? ⟨w.heap.size, 1, none⟩ = some (.slice (some ⟨B, 0, none⟩) n n) ∧ w'.cell? ⟨w.heap.size, 2, none⟩ = some (.slice eao en ecap) ∧ w'.cell? ⟨w.heap.size, 3, none⟩ = some (.map (some M)) ∧ w'.cell? ⟨w.heap.size + 1, 0, none⟩ = some (.int .i64 k) ∧ w'.cell? ⟨B, P1, none⟩ = some (.int .i64 E1) ∧ (Instr.lookup 161 (.map (some M)) (.int .i64 k) false).run Tryz.prog w' = .ok (.func (.func F) #[] #[]) w')
    (exact hS _ (by first | exact hB0 | exact hB0.drew | exact hB0.drew.trans hb1 | exact (hB0.drew.trans hb1).trans (hb3.mono (hB0.drew.trans hb1).size)))
    (first | (go_at_call_of 114 E1; refine Calls.pan y (hrb' _ (hB0.drew.trans hb1)) (fun w3 hb3 => ⟨rfl, HB2.out.trans (((hB0.drew.trans hb1).trans (hb3.mono (hB0.drew.trans hb1).size)).mono HB2.out.size), rfl⟩) (fun w3 hb3 hF => ?_)) | (go_at_call 114; refine (hra' _ hB0.drew).mono ?_; rintro e w1 ⟨hb1, rfl⟩) | (refine (hpair _).mono ?_; rintro e w4 ⟨rfl, rfl⟩))
  all_goals exact hF.out.elim
end Go.Proofs.YtdlpmomohbdpgaaGreatDoor

/-
  The contract of package expr's (work).at, whole.
-/
namespace Go.Proofs.YtdlpmomohbdpgaaGreatDoor
open Go.ChangeShapes Go.WideShapes Go.ChangeAt Go.RowKit Go.Deep
open Terms Tm

/-- THE CONTRACT OF (work).at. -/
theorem at_any (b off n cap B : Nat) (eao : Option Addr) (en ecap M vars : Nat) (t : Tm) (env : List Int) (hn : n = t.size) (h60 : n ≤ 60) (hg : t.Good vars) (hty : t.typed = true) (hev : EnvOk env) (hen : env.length = vars) (hen2 : en = vars) (d : Nat) :
    ∀ (place : Nat) (w : World), place < n → (t.sub place).size ≤ d → WorkAt w b off B eao M t env →
    Calls Tryz.prog 114 #[workV b off n cap B eao en ecap M, .int .i64 place] w (AtPost ((t.sub place).eval env) w) := by
  induction d with
  | zero => intro place w _ hd; have := (t.sub place).size_pos; omega
  | succ d ih =>
    intro place w hp hd hW
    have hpt : place < t.size := by omega
    obtain ⟨s, hs⟩ : ∃ s, s = t.sub place := ⟨_, rfl⟩
    have hsg : s.Good vars := by rw [hs]; exact hg.sub _
    have hst : s.typed = true := by
      rw [hs]
      refine (typed_iff _).2 fun q hq => ?_
      rw [← t.sub_sub place q hpt hq]
      exact (typed_iff _).1 hty _ (by have := t.sub_fits hpt; omega)
    obtain ⟨c0, c1⟩ := hW.ops place (by rw [ops_length]; exact hpt)
    rw [op_at t hpt, ← hs] at c0 c1
    simp only at c0 c1
    have HKI : ∀ i, i < s.kids.length → place + s.koff i < n ∧ t.sub (place + s.koff i) = s.kids.getD i s ∧ endAt (t.ops.map Prod.fst) (place + s.koff i) = place + s.koff (i + 1) := fun i hi => by
      subst hs
      obtain ⟨h1, h2, h3, _⟩ := kid_in hg.wf hpt hi
      exact ⟨by omega, h2, h3⟩
    rw [← hs] at hd ⊢
    cases s with
    | leaf k v =>
      rcases hsg with ⟨rfl, h1, h2⟩ | ⟨rfl, h1, h2⟩ | ⟨hk, rfl⟩
      · exact at_num b off n cap B eao en ecap M place v w hW.ob hp c0 c1
      · obtain ⟨j, rfl⟩ := Int.eq_ofNat_of_zero_le h1
        obtain ⟨eb, eoff, rfl, e2, e3⟩ := hW.env j (by omega)
        exact at_var b off n cap B eb eoff en ecap M place j _ w hW.ob hp (by omega) c0 c1 e2 e3
      · have he : (Tm.leaf k 0).eval env = some (if k = 11 then 1 else 0) := by
          simp only [Tm.eval]
          rw [if_neg (by omega), if_neg (by omega)]
        rw [he]
        exact at_lit b off n cap B eao en ecap M place k hk w hW.ob hp c0 c1
    | un k v a =>
      obtain ⟨rfl, rfl, ha⟩ := hsg
      obtain ⟨p1, p2, _⟩ := HKI 0 (by simp [kids])
      rw [koff_zero] at p1 p2
      have hsz : a.size ≤ d := by simp only [Tm.size] at hd; omega
      have hta : a.typed = true := by simp only [Tm.typed, Bool.and_eq_true] at hst; exact hst.2
      have hrec : ∀ w', Below w.heap.size w w' → Calls Tryz.prog 114 #[workV b off n cap B eao en ecap M, .int .i64 ((place : Int) + 1)] w' (AtPost (a.eval env) w') := fun w' hw' => by
        have h := ih (place + 1) w' p1 (by rw [p2]; exact hsz) (hW.later hw')
        rw [p2] at h
        exact h
      have h := at_not b off n cap B eao en ecap M place (a.eval env) w hW.ob hp h60 c0 c1 (fun x hx => (eval_le hev hen ha hta x hx).1) hrec
      have he : (Tm.un 10 0 a).eval env = (a.eval env).map (1 - ·) := by
        simp only [Tm.eval]
        cases a.eval env <;> rfl
      rw [he]
      exact h
    | bi k v a b' =>
      obtain ⟨h3, h9, rfl, ha, hb⟩ := hsg
      obtain ⟨p1, p2, p3⟩ := HKI 0 (by simp [kids])
      obtain ⟨q1, q2, _⟩ := HKI 1 (by simp [kids])
      rw [koff_zero] at p1 p2 p3
      rw [Nat.zero_add] at p3
      have hsa : a.size ≤ d := by simp only [Tm.size] at hd; omega
      have hsb : b'.size ≤ d := by simp only [Tm.size] at hd; omega
      simp only [Tm.typed, Bool.and_eq_true, beq_iff_eq] at hst
      obtain ⟨⟨ka, hta⟩, kb, htb⟩ := hst
      have hra : ∀ w', Below w.heap.size w w' → Calls Tryz.prog 114 #[workV b off n cap B eao en ecap M, .int .i64 (place + 1 : Nat)] w' (AtPost (a.eval env) w') := fun w' hw' => by
        have h := ih (place + 1) w' p1 (by rw [p2]; exact hsa) (hW.later hw')
        rw [p2] at h
        exact h
      have hrb : ∀ w', Below w.heap.size w w' → Calls Tryz.prog 114 #[workV b off n cap B eao en ecap M, .int .i64 (place + (Tm.bi k 0 a b').koff 1 : Nat)] w' (AtPost (b'.eval env) w') := fun w' hw' => by
        have h := ih (place + (Tm.bi k 0 a b').koff 1) w' q1 (by rw [q2]; exact hsb) (hW.later hw')
        rw [q2] at h
        exact h
      have cE := hW.ends.cell (i := place + 1) (by omega)
      rw [p3] at cE
      have hlook := fun w' (hw' : Below w.heap.size w w') => (hW.pairs.later hw').look h3 h9
      have hent := pair_enters k h3 h9
      have hae := eval_le hev hen ha hta
      have hbe := eval_le hev hen hb htb
      simp only [Tm.eval]
      cases hx : a.eval env with
      | none =>
        rw [hx] at hra
        exact at_bi_a b off n cap B eao en ecap M place _ (pairFn k) k 0 0 (bin k 0 0) w hW.ob hW.ends.lt (by omega) (place + 1) rfl h60 h3 h9 c0 c1 cE hlook hent (fun w' => pair_any k 0 0 w' h3 h9 (by omega) (by omega) (fun _ => ⟨.inl rfl, .inl rfl⟩)) hra
          (fun h => h.out.elim)
      | some x =>
        rw [hx] at hra
        have hxl := hae x hx
        cases hy : b'.eval env with
        | none =>
          rw [hy] at hrb
          exact at_bi_b b off n cap B eao en ecap M place _ (pairFn k) k x 0 (bin k x 0) w hW.ob hW.ends.lt (by omega) (place + 1) rfl h60 h3 h9 c0 c1 cE hlook hent (fun w' => pair_any k x 0 w' h3 h9 hxl.1 (by omega) (fun h8 => ⟨hxl.2 (by rw [ka]; simp [tkT]; omega), .inl rfl⟩)) hra hrb
        | some y =>
          rw [hy] at hrb
          have hyl := hbe y hy
          exact at_bi b off n cap B eao en ecap M place _ (pairFn k) k x y (bin k x y) w hW.ob hW.ends.lt (by omega) (place + 1) rfl h60 h3 h9 c0 c1 cE hlook hent (fun w' => pair_any k x y w' h3 h9 hxl.1 hyl.1 (fun h8 => ⟨hxl.2 (by rw [ka]; simp [tkT]; omega), hyl.2 (by rw [kb]; simp [tkT]; omega)⟩)) hra hrb
end Go.Proofs.YtdlpmomohbdpgaaGreatDoor

/-
  The contract of expr.Eval.
-/
namespace Go.Proofs.YtdlpmomohbdpgaaGreatDoor
open Go.ChangeShapes Go.WideShapes Go.ChangeAt Go.RowKit Go.Deep
open Terms Tm

set_option maxHeartbeats 400000 in
theorem ecatch_panicking (s : Nat) (x : Int) (v0 v1 : Value) (w : World) (hc0 : w.cell? ⟨s, 0, none⟩ = some v0) (hc1 : w.cell? ⟨s + 1, 0, none⟩ = some v1) (hz0 : w.frozen? ⟨s, 0, none⟩ = false) (hz1 : w.frozen? ⟨s + 1, 0, none⟩ = false) :
    CallsD Tryz.prog 110 #[.pointer (some ⟨s, 0, none⟩), .pointer (some ⟨s + 1, 0, none⟩)] (.panicking [{ v := .iface 33 (.int .i64 x), recovered := false }]) w fun e u' w' =>
      e = .returned (.tuple #[]) ∧ u' = .panicking [{ v := .iface 33 (.int .i64 x), recovered := true }] ∧ w' = ((w.setCell ⟨s, 0, none⟩ (.int .i64 0)).setCell ⟨s + 1, 0, none⟩ (.int .i64 x)).drew := by
  have hta : ∀ w : World, (Instr.typeAssert (.iface 33 (.int .i64 x)) 20 33 false).run Tryz.prog w = .ok (.int .i64 x) w := fun _ => by kernel_rfl
  refine callsD_of_wpS Tryz.func110 rfl fun c₀ cs hu => ?_
  rw [Tryz.ntmps110]
  show Code.wpS _ _ _ { tmps := #[.pointer (some ⟨s, 0, none⟩), .pointer (some ⟨s + 1, 0, none⟩), undef, undef, undef, undef, undef, undef], defers := [] } _ _
  apply wpS_seq
  apply wpS_region
  simp [wpOpsS, go_sem, recoverD, hu, Exit.thenS]
  refine wpS_of_wp ?_
  go_wp2
  go_region
  go_wp2
  simp [bodyPostS, results, Tryz.results110]

theorem ecatch_idle (s : Nat) (w : World) :
    CallsD Tryz.prog 110 #[.pointer (some ⟨s, 0, none⟩), .pointer (some ⟨s + 1, 0, none⟩)] .returning w fun e u' w' =>
      e = .returned (.tuple #[]) ∧ u' = .returning ∧ w' = w := by
  refine callsD_of_wpS Tryz.func110 rfl fun c₀ cs hu => ?_
  rw [Tryz.ntmps110]
  show Code.wpS _ _ _ { tmps := #[.pointer (some ⟨s, 0, none⟩), .pointer (some ⟨s + 1, 0, none⟩), undef, undef, undef, undef, undef, undef], defers := [] } _ _
  apply wpS_seq
  apply wpS_region
  simp [wpOpsS, go_sem, recoverD, hu, Exit.thenS]
  refine wpS_of_wp ?_
  go_wp2
  cases c₀
  simp_all [bodyPostS, results, Tryz.results110]

/-- what Eval answers: a number, and an error's. -/
def envBad (env : List Int) : Bool := env.any fun x => decide (¬ (-1000000 ≤ x ∧ x ≤ 1000000))
def evalN (l : List (Int × Int)) (t : Tm) (env : List Int) : Int :=
  if xcode env.length l t ≠ 0 then 0 else if envBad env = true then 0 else match t.eval env with
    | some x => x
    | none => 0
def evalC (l : List (Int × Int)) (t : Tm) (env : List Int) : Int :=
  if xcode env.length l t ≠ 0 then xcode env.length l t else if envBad env = true then 2 else match t.eval env with
    | some _ => 0
    | none => 8
theorem envBad_false {env : List Int} (h : envBad env = false) : EnvOk env := fun i hi => by
  unfold envBad at h
  rw [List.any_eq_false] at h
  have := h (env.getD i 0) (by simp [List.getD_eq_getElem?_getD, hi])
  generalize env.getD i 0 = x at *
  simp at this
  omega
theorem envBad_ok {env : List Int} (h : ∀ j, j < env.length → -1000000 ≤ env.getD j 0 ∧ env.getD j 0 ≤ 1000000) : envBad env = false := by
  unfold envBad
  rw [List.any_eq_false]
  intro x hx
  obtain ⟨i, hi, rfl⟩ := List.getElem_of_mem hx
  have := h i hi
  simp [List.getD_eq_getElem?_getD, hi] at this
  simp
  omega
theorem envBad_at {env : List Int} {i : Nat} (hi : i < env.length) (h : ¬ (-1000000 ≤ env.getD i 0 ∧ env.getD i 0 ≤ 1000000)) : envBad env = true := by
  unfold envBad
  rw [List.any_eq_true]
  refine ⟨env[i], List.getElem_mem hi, ?_⟩
  simp [List.getD_eq_getElem?_getD, hi] at h
  simp
  omega

/-- the two results' cells, as Eval has laid them. -/
def e0 (w : World) : World := (w.alloc (.cells #[.int .i64 0] 3)).alloc (.cells #[.int .i64 0] 33)
theorem e0_below (w : World) : Below w.heap.size w (e0 w) := ((Below.refl _ _).alloc (Nat.le_refl _) _).alloc (by simp) _
theorem e0_cells (w : World) {w' : World} (h : Below (e0 w).heap.size (e0 w) w') :
    w'.cell? ⟨w.heap.size, 0, none⟩ = some (.int .i64 0) ∧ w'.cell? ⟨w.heap.size + 1, 0, none⟩ = some (.int .i64 0) ∧ w'.frozen? ⟨w.heap.size, 0, none⟩ = false ∧ w'.frozen? ⟨w.heap.size + 1, 0, none⟩ = false ∧ w.heap.size + 1 < w'.heap.size ∧ Below w.heap.size w w' := by
  have hs := h.size
  have hz : (e0 w).heap.size = w.heap.size + 1 + 1 := by simp [e0]
  refine ⟨?_, ?_, ?_, ?_, by omega, (e0_below w).trans (h.mono (e0_below w).size)⟩
  · rw [h.cell (p := ⟨w.heap.size, 0, none⟩) (by simp only; omega)]; simp [e0, go_sem]
  · rw [h.cell (p := ⟨w.heap.size + 1, 0, none⟩) (by simp only; omega)]; simp [e0, go_sem]
  · rw [h.frozen (p := ⟨w.heap.size, 0, none⟩) (by simp only; omega)]; simp [e0, go_sem]
  · rw [h.frozen (p := ⟨w.heap.size + 1, 0, none⟩) (by simp only; omega)]; simp [e0, go_sem]

set_option maxHeartbeats 1600000 in
/-- what Check refuses is refused. -/
theorem eval_no (ao : Option Addr) (n cap : Nat) (eao : Option Addr) (en ecap : Nat) (x : Int) (w : World) (hx : x ≠ 0)
    (heo : Calls Tryz.prog 111 #[.slice ao n cap, .int .i64 en] (e0 w) fun e w'' => e = .returned (.tuple #[.slice none 0 0, .int .i64 x]) ∧ Below (e0 w).heap.size (e0 w) w'') :
    Calls Tryz.prog 94 #[.slice ao n cap, .slice eao en ecap] w fun e w' => e = .returned (.tuple #[.int .i64 0, .int .i64 x]) ∧ Below w.heap.size w w' := by
  have hmf := hmakeFunc
  go_enter_defers Tryz.func94, Tryz.ntmps94
  go_wp2_with (go_at_call 111; refine heo.mono ?_; rintro e w2 ⟨rfl, hb2⟩; obtain ⟨c0, c1, f0, f1, hsz, hbw⟩ := e0_cells w hb2)
  go_region
  all_goals go_wp2_with fail
  all_goals
    refine leaves_cons (f := 110) (args := #[.pointer (some ⟨w.heap.size, 0, none⟩), .pointer (some ⟨w.heap.size + 1, 0, none⟩)]) (by simp) (by simp [go_sem]) ?_
    refine (ecatch_idle w.heap.size _).mono ?_
    rintro e u' w'' ⟨rfl, rfl, rfl⟩
    simp [Leaves, settle, results, Tryz.results94, go_sem, c0, c1]
    first
      | exact (((hbw.setCell (p := ⟨w.heap.size + 1, 0, none⟩) (by simp) _).drew).setCell (p := ⟨w.heap.size, 0, none⟩) (Nat.le_refl _) _).setCell (p := ⟨w.heap.size + 1, 0, none⟩) (by simp) _
      | exact (((hbw.setCell (p := ⟨w.heap.size + 1, 0, none⟩) (by simp) _).drew).setCell (p := ⟨w.heap.size + 1, 0, none⟩) (by simp) _).setCell (p := ⟨w.heap.size, 0, none⟩) (Nat.le_refl _) _
end Go.Proofs.YtdlpmomohbdpgaaGreatDoor

/-
  Plain mathematics of what comes behind a state. Nothing of the program is named here.
-/
namespace Go.Proofs.YtdlpmomohbdpgaaGreatDoor
open Terms Tm

/-- what an expression makes, and with what it is refused. -/
noncomputable def exN (l : List (Int × Int)) (env : List Int) : Int := evalN l (treeOf l) env
noncomputable def exC (l : List (Int × Int)) (env : List Int) : Int := evalC l (treeOf l) env
/-- does a truth hold? -/
noncomputable def holdsB (l : List (Int × Int)) (env : List Int) : Bool := decide (exC l env = 0) && decide (exN l env = 1)
/-- the values, so many sets done. -/
noncomputable def setTo (env : List Int) (sets : List St) : Nat → List Int
  | 0 => env
  | k + 1 => (setTo env sets k).set (sets.getD k st0).var.toNat (exN (sets.getD k st0).val env)
/-- one value, so many sets done. -/
noncomputable def setAt (env : List Int) (sets : List St) (i : Nat) : Nat → Int
  | 0 => env.getD i 0
  | k + 1 => if (sets.getD k st0).var = i then exN (sets.getD k st0).val env else setAt env sets i k
theorem setTo_length (env : List Int) (sets : List St) (k : Nat) : (setTo env sets k).length = env.length := by
  induction k with
  | zero => rfl
  | succ k ih => simp [setTo, ih]
theorem getD_set (l : List Int) (i j : Nat) (x : Int) (hi : i < l.length) : (l.set i x).getD j 0 = if i = j then x else l.getD j 0 := by
  simp only [List.getD_eq_getElem?_getD, List.getElem?_set]
  by_cases h : i = j
  · subst h; simp [hi]
  · simp [h]
theorem setTo_at {env : List Int} {sets : List St} {k : Nat} (h : ∀ j, j < k → 0 ≤ (sets.getD j st0).var ∧ (sets.getD j st0).var < env.length) (i : Nat) : (setTo env sets k).getD i 0 = setAt env sets i k := by
  induction k with
  | zero => rfl
  | succ k ih =>
    obtain ⟨h0, h1⟩ := h k (by omega)
    simp only [setTo, setAt]
    rw [getD_set _ _ _ _ (by rw [setTo_length]; omega), ih fun j hj => h j (by omega)]
    by_cases hk : (sets.getD k st0).var = i
    · rw [if_pos hk, if_pos (by omega)]
    · rw [if_neg hk, if_neg (by omega)]
/-- the values behind a rule. -/
noncomputable def behindL (env : List Int) (r : Ru) : List Int := setTo env r.sets r.sets.length
def setsOk (env : List Int) (r : Ru) : Prop := ∀ j, j < r.sets.length → exC (r.sets.getD j st0).val env = 0
open Classical in
/-- the state behind a rule, if it can be done. -/
noncomputable def ruleDo (vars : List Vr) (env : List Int) (r : Ru) : Option Int :=
  if holdsB r.guard env = true ∧ setsOk env r ∧ ∀ i, i < vars.length → inB vars (behindL env r) i then some (codeTo vars (behindL env r) vars.length) else none
def optN : Option Int → Int
  | some x => x
  | none => 0
def optC : Option Int → Int
  | some _ => 0
  | none => 11
theorem ruleDo_guard {vars : List Vr} {env : List Int} {r : Ru} (h : holdsB r.guard env = false) : ruleDo vars env r = none := by
  unfold ruleDo
  rw [if_neg (fun h2 => by rw [h] at h2; cases h2.1)]
theorem ruleDo_set {vars : List Vr} {env : List Int} {r : Ru} {j : Nat} (hj : j < r.sets.length) (h : exC (r.sets.getD j st0).val env ≠ 0) : ruleDo vars env r = none := by
  unfold ruleDo
  rw [if_neg (fun h2 => h (h2.2.1 j hj))]
theorem ruleDo_code {vars : List Vr} {env : List Int} {r : Ru} (h1 : holdsB r.guard env = true) (h2 : setsOk env r) (hl : env.length = vars.length) {m : Mo} (hm : mcode m = 0) (hv : m.vars = vars) :
    (ccode m (behindL env r) = 0 → ruleDo vars env r = some (cval m (behindL env r))) ∧ (ccode m (behindL env r) ≠ 0 → ruleDo vars env r = none) := by
  have hb : (behindL env r).length = m.vars.length := by unfold behindL; rw [setTo_length, hl, hv]
  subst hv
  by_cases hin : ∀ i, i < m.vars.length → inB m.vars (behindL env r) i
  · have hc := ccode_yes hm ⟨hb, hin⟩
    refine ⟨fun _ => ?_, fun h => absurd hc h⟩
    unfold ruleDo
    rw [if_pos ⟨h1, h2, hin⟩]
    unfold cval
    rw [if_pos hc]
  · have hc := ccode_no hm (vals := behindL env r) (fun h => hin h.2)
    refine ⟨fun h => (by rw [hc] at h; cases h), fun _ => ?_⟩
    unfold ruleDo
    rw [if_neg (fun h => hin h.2.2)]
/-- what is known of a rule that passes. -/
theorem rule_sets {vars : Int} {r : Ru} (h : rcode vars r = 0) : r.sets.length ≤ 6 ∧ ∀ j, j < r.sets.length → 0 ≤ (r.sets.getD j st0).var ∧ (r.sets.getD j st0).var < vars := by
  unfold rcode at h
  split at h
  · simp at h
  · rename_i h6
    refine ⟨by omega, fun j hj => ?_⟩
    split at h
    · have h1 := firstOf_zero h j hj
      unfold sAt at h1
      split at h1
      · simp at h1
      · rename_i h2; omega
    · rename_i h2; exact absurd h h2
theorem mcode_rules {m : Mo} (h : mcode m = 0) : m.rules.length ≤ 12 ∧ ∀ j, j < m.rules.length → rcode m.vars.length (m.rules.getD j ru0) = 0 := by
  unfold mcode at h
  split at h
  · split at h
    · simp at h
    · rename_i h1; exact ⟨by omega, firstOf_zero h⟩
  · rename_i h0; exact absurd h h0
theorem mcode_bare {m : Mo} (h : mcode m = 0) : mcode ⟨m.vars, []⟩ = 0 := by
  have hv : vcode m.vars = 0 := by
    unfold mcode at h
    split at h
    · assumption
    · rename_i h0; exact absurd h h0
  unfold mcode
  rw [if_pos hv]
  rfl
theorem valsL_length (l : List Vr) (c : Int) : (valsL l c).length = l.length := by simp [valsL]
end Go.Proofs.YtdlpmomohbdpgaaGreatDoor

/-
  The library's slices.Clone at lists of numbers: its contract at this program.
-/
namespace Go.Proofs.YtdlpmomohbdpgaaGreatDoor
open Go.Shelf Go.RowKit Go.Lib
def laysClone_ren : Go.Shelf.Ren := ⟨fun | 15 => 120 | n => n, fun | 22 => 40 | 3 => 3 | 4 => 4 | n => n, fun | n => n⟩
theorem laysClone : Go.Proofs.Lays2.n15 Tryz.prog laysClone_ren := {
  mixed := by kernel_rfl
  f15 := Tryz.func120.trans (congrArg some (by kernel_rfl))
  t3 := Tryz.underlying3
  a3 := Tryz.isAgg3
  z3 := Tryz.sizeOf3
  v3 := Tryz.zeroValue3
  t4 := Tryz.underlying4
  a4 := Tryz.isAgg4
  z4 := Tryz.sizeOf4
  v4 := Tryz.zeroValue4
  t22 := Tryz.underlying40
  a22 := Tryz.isAgg40
  z22 := Tryz.sizeOf40
  v22 := Tryz.zeroValue40
  i3 := by kernel_rfl }
/-- a copy of numbers that lie in a block of their own. -/
theorem clone_any (B : Nat) (l : List Int) (w : World) (hl : l.length ≤ 10000) (hr : w.rowIs B 3 l.length (fun j => .int .i64 (l.getD j 0))) :
    Calls Tryz.prog 120 #[.slice (some ⟨B, 0, none⟩) l.length l.length] w fun e w' => ∃ g cap, e = .returned (.slice (some ⟨g, 0, none⟩) l.length cap) ∧ w.heap.size ≤ g ∧ Below w.heap.size w w' ∧ w'.ownsRow w.heap.size 3 1 (.slice (some ⟨g, 0, none⟩) l.length cap) l.length (ivals l) := by
  have h : Calls Tryz.prog 120 #[.slice (some ⟨B, 0, none⟩) l.length l.length] w fun e w' => ∃ v', e = .returned v' ∧ w'.ownsRow w.heap.size 3 1 v' l.length ((l.take l.length).map (Value.int .i64)) ∧ v' ≠ .slice none 0 0 ∧ Below w.heap.size w w' :=
    Any.slices_Clone_int laysClone B 0 l.length l.length l w (Nat.le_refl _) (by omega) (fun j hj => by rw [Nat.zero_add]; exact hr.cell hj)
  refine h.mono fun e w' ⟨v', he, ho, hn, hb⟩ => ?_
  rw [List.take_length] at ho
  obtain ⟨g, cap, rfl, hg, _⟩ := Lib.holds_of_ownsRow ho hn
  exact ⟨g, cap, he, hg, hb, ho⟩
end Go.Proofs.YtdlpmomohbdpgaaGreatDoor

/-
  The contract of expr.Eval, where Check says yes.
-/
namespace Go.Proofs.YtdlpmomohbdpgaaGreatDoor
open Go.ChangeShapes Go.WideShapes Go.ChangeAt Go.RowKit Go.Deep
open Terms Tm

/-- the values, as they lie. -/
def EnvAt (w : World) (eao : Option Addr) (env : List Int) : Prop := ∀ i, i < env.length → ∃ eb eoff, eao = some ⟨eb, eoff, none⟩ ∧ eb < w.heap.size ∧ w.cell? ⟨eb, eoff + i, none⟩ = some (.int .i64 (env.getD i 0))
theorem EnvAt.later {w w' : World} {eao : Option Addr} {env : List Int} (h : EnvAt w eao env) (hb : Below w.heap.size w w') : EnvAt w' eao env := fun i hi => by
  obtain ⟨eb, eoff, e1, e2, e3⟩ := h i hi
  exact ⟨eb, eoff, e1, Nat.lt_of_lt_of_le e2 hb.size, (hb.cell (p := ⟨eb, eoff + i, none⟩) e2).trans e3⟩

def evalPost (env : List Int) (t : Tm) (w : World) (e : Ending) (w' : World) : Prop :=
  e = .returned (.tuple #[.int .i64 (if envBad env = true then 0 else match t.eval env with | some x => x | none => 0), .int .i64 (if envBad env = true then 2 else match t.eval env with | some _ => 0 | none => 8)]) ∧ Below w.heap.size w w'

set_option maxHeartbeats 3200000 in
theorem eval_yes (b off n cap : Nat) (eao : Option Addr) (en ecap : Nat) (t : Tm) (env : List Int) (w : World) (hn : n = t.size) (h60 : n ≤ 60) (hen : en = env.length) (hen6 : en ≤ 6) (hg : t.Good env.length) (hty : t.typed = true) (hbB : b < w.heap.size) (hA : OpsAt w b off t.ops) (hE : EnvAt w eao env)
    (heo : Calls Tryz.prog 111 #[.slice (some ⟨b, off, none⟩) n cap, .int .i64 en] (e0 w) fun e w' => Below (e0 w).heap.size (e0 w) w' ∧ ∃ B, (e0 w).heap.size ≤ B ∧ e = .returned (.tuple #[.slice (some ⟨B, 0, none⟩) n n, .int .i64 0]) ∧ w'.rowIs B 3 n (fun q => .int .i64 (endAt (t.ops.map Prod.fst) q))) :
    Calls Tryz.prog 94 #[.slice (some ⟨b, off, none⟩) n cap, .slice eao en ecap] w (evalPost env t w) := by
  have hmf := hmakeFunc
  have HE : Hid (EnvAt w eao env) := hE
  have HA : Hid (OpsAt w b off t.ops) := hA
  have HN : Hid (n = t.size ∧ t.Good env.length ∧ t.typed = true ∧ en = env.length) := ⟨hn, hg, hty, hen⟩
  have hn1 : 0 < n := by rw [hn]; exact t.size_pos
  have hzs : (e0 w).heap.size = w.heap.size + 1 + 1 := by simp [e0]
  clear hE hA hn hg hty hen
  go_enter_defers Tryz.func94, Tryz.ntmps94
  go_wp2_with (go_at_call 111; refine heo.mono ?_; rintro e w2 ⟨hb2, B, hBw, rfl, hrow⟩; obtain ⟨c0, c1, f0, f1, hsz, hbw⟩ := e0_cells w hb2)
  obtain ⟨W3, hW3⟩ : ∃ W3, W3 = w2.setCell ⟨w.heap.size + 1, 0, none⟩ (.int .i64 0) := ⟨_, rfl⟩
  have hb3 : Below w.heap.size w W3 := by rw [hW3]; exact hbw.setCell (p := ⟨w.heap.size + 1, 0, none⟩) (by simp) _
  have d0 : W3.cell? ⟨w.heap.size, 0, none⟩ = some (.int .i64 0) := by rw [hW3]; simp [go_sem, c0]
  have d1 : W3.cell? ⟨w.heap.size + 1, 0, none⟩ = some (.int .i64 0) := by rw [hW3]; simp [go_sem, c1]
  have g0 : W3.frozen? ⟨w.heap.size, 0, none⟩ = false := by rw [hW3]; simp [go_sem, f0]
  have g1 : W3.frozen? ⟨w.heap.size + 1, 0, none⟩ = false := by rw [hW3]; simp [go_sem, f1]
  have hrow3 : W3.rowIs B 3 n (fun q => .int .i64 (endAt (t.ops.map Prod.fst) q)) := by rw [hW3]; exact hrow.setOther (by simp; omega) _
  have hsz3 : w.heap.size + 1 < W3.heap.size := by rw [hW3]; simpa using hsz
  have HW3 := (show Hid _ from hW3)
  have HR : Hid (W3.rowIs B 3 n (fun q => .int .i64 (endAt (t.ops.map Prod.fst) q))) := hrow3
  rw [← hW3]
  clear hW3 hrow3 hrow heo hb2 c0 c1 f0 f1 hsz hbw HW3
  go_loop [23] (fun c => ∃ i : Nat, i ≤ en ∧ c = .int .i64 i ∧ Hid (∀ j, j < i → -1000000 ≤ env.getD j 0 ∧ env.getD j 0 ≤ 1000000)) (fun c => en - (intOf c).toNat)
  case atStart => exact ⟨0, Nat.zero_le _, rfl, fun j hj => by omega⟩
  case round =>
    obtain ⟨i, hi, rfl, HJ⟩ := hrel
    by_cases hlt : i < en
    · obtain ⟨eb, eoff, rfl, e2, e3⟩ := (HE.out.later hb3) i (by rw [← HN.out.2.2.2]; exact hlt)
      have htg := fun w => tooGreat_any (env.getD i 0) w
      by_cases hz : -1000000 ≤ env.getD i 0 ∧ env.getD i 0 ≤ 1000000
      · rw [show decide (¬ (-1000000 ≤ env.getD i 0 ∧ env.getD i 0 ≤ 1000000)) = false by simpa using hz] at htg
        have HJ2 : Hid (∀ j, j < i + 1 → -1000000 ≤ env.getD j 0 ∧ env.getD j 0 ≤ 1000000) := fun j hj => by
          by_cases hji : j < i
          · exact HJ.out j hji
          · obtain rfl : j = i := by omega
            exact hz
        clear hz
        generalize env.getD i 0 = x at e3 htg
        go_wp2_with (go_at_call 112; refine (htg _).mono ?_; rintro e w5 ⟨rfl, rfl⟩)
        go_round
        case rel => exact ⟨i + 1, by omega, by go_num, HJ2⟩
        case measure => simp [intOf]; omega
      · have HX : Hid (envBad env = true) := envBad_at (by rw [← HN.out.2.2.2]; exact hlt) hz
        generalize env.getD i 0 = x at e3 htg hz
        rw [show decide (¬ (-1000000 ≤ x ∧ x ≤ 1000000)) = true by simp; omega] at htg
        clear hz
        go_wp2_with (go_at_call 112; refine (htg _).mono ?_; rintro e w5 ⟨rfl, rfl⟩)
        refine leaves_cons (f := 110) (args := #[.pointer (some ⟨w.heap.size, 0, none⟩), .pointer (some ⟨w.heap.size + 1, 0, none⟩)]) (by simp) (by simp [go_sem]) ?_
        refine (ecatch_idle w.heap.size _).mono ?_
        rintro e u' w'' ⟨rfl, rfl, rfl⟩
        simp [Leaves, settle, results, Tryz.results94, go_sem, d0, d1]
        unfold evalPost
        rw [if_pos HX.out, if_pos HX.out]
        exact ⟨rfl, (hb3.setCell (p := ⟨w.heap.size, 0, none⟩) (Nat.le_refl _) _).setCell (p := ⟨w.heap.size + 1, 0, none⟩) (by simp) _⟩
    · have hin : i = en := by omega
      subst hin
      have hok : envBad env = false := envBad_ok (fun j hj => HJ.out j (by rw [HN.out.2.2.2]; exact hj))
      have HX : Hid (envBad env = false) := hok
      have hpm := pairMakers_any W3
      clear hlt hi
      go_wp2_with (go_at_call 113; refine hpm.mono ?_; rintro e W4 ⟨M, hM, rfl, hpa, hb4⟩)
      have hb5 : Below W3.heap.size W3 (W4.alloc (.cells #[.slice (some ⟨b, off, none⟩) n cap, .slice (some ⟨B, 0, none⟩) n n, .slice eao i ecap, .map (some M)] 164)) := hb4.alloc hb4.size _
      have hpa5 : PairsAt (W4.alloc (.cells #[.slice (some ⟨b, off, none⟩) n cap, .slice (some ⟨B, 0, none⟩) n n, .slice eao i ecap, .map (some M)] 164)) M := World.ownsMap.alloc hpa _
      have hwk : WorkAt (W4.alloc (.cells #[.slice (some ⟨b, off, none⟩) n cap, .slice (some ⟨B, 0, none⟩) n n, .slice eao i ecap, .map (some M)] 164)) b off B eao M t env := by
        have hbb := hb3.trans (hb5.mono hb3.size)
        refine ⟨Nat.lt_of_lt_of_le hbB hbb.size, HA.out.below hbb hbB, ?_, HE.out.later hbb, hpa5⟩
        have hr := HR.out
        rw [HN.out.1] at hr
        exact hr.of_block (hb5.block B hr.lt)
      generalize W4.alloc (.cells #[.slice (some ⟨b, off, none⟩) n cap, .slice (some ⟨B, 0, none⟩) n n, .slice eao i ecap, .map (some M)] 164) = W5 at *
      have hat := at_any b off n cap B eao i ecap M env.length t env HN.out.1 h60 HN.out.2.1 HN.out.2.2.1 (envBad_false hok) rfl HN.out.2.2.2 t.size 0 W5 hn1 (by rw [sub_zero]; omega) hwk
      rw [sub_zero] at hat
      have hs3 := hb3.size
      have hs5 := hb5.size
      clear hwk hpa hpa5 hok hpm hb4 HR
      cases hx : t.eval env with
      | none =>
        rw [hx] at hat
        have HXN : Hid (t.eval env = none) := hx
        clear hx
        refine hat.mono ?_
        rintro e w6 ⟨hb6, rfl⟩
        have hb36 := hb5.trans (hb6.mono hb5.size)
        have k0 := (hb36.cell (p := ⟨w.heap.size, 0, none⟩) (by simp only; omega)).trans d0
        have k1 := (hb36.cell (p := ⟨w.heap.size + 1, 0, none⟩) (by simp only; omega)).trans d1
        have z0 := (hb36.frozen (p := ⟨w.heap.size, 0, none⟩) (by simp only; omega)).trans g0
        have z1 := (hb36.frozen (p := ⟨w.heap.size + 1, 0, none⟩) (by simp only; omega)).trans g1
        have hbf := hb3.trans (hb36.mono hb3.size)
        refine leaves_cons (f := 110) (args := #[.pointer (some ⟨w.heap.size, 0, none⟩), .pointer (some ⟨w.heap.size + 1, 0, none⟩)]) (by simp) (by simp [go_sem]) ?_
        refine (ecatch_panicking w.heap.size 8 _ _ w6 k0 k1 z0 z1).mono ?_
        rintro e u' w'' ⟨rfl, rfl, rfl⟩
        simp [Leaves, settle, results, Tryz.results94, go_sem, k0, k1]
        unfold evalPost
        rw [if_neg (by rw [HX.out]; simp), if_neg (by rw [HX.out]; simp), HXN.out]
        exact ⟨rfl, (((hbf.setCell (p := ⟨w.heap.size, 0, none⟩) (Nat.le_refl _) _).setCell (p := ⟨w.heap.size + 1, 0, none⟩) (by simp) _)).drew⟩
      | some x =>
        rw [hx] at hat
        have HXN : Hid (t.eval env = some x) := hx
        clear hx
        refine hat.mono ?_
        rintro e w6 ⟨hb6, rfl⟩
        have hb36 := hb5.trans (hb6.mono hb5.size)
        have k0 := (hb36.cell (p := ⟨w.heap.size, 0, none⟩) (by simp only; omega)).trans d0
        have k1 := (hb36.cell (p := ⟨w.heap.size + 1, 0, none⟩) (by simp only; omega)).trans d1
        have z0 := (hb36.frozen (p := ⟨w.heap.size, 0, none⟩) (by simp only; omega)).trans g0
        have z1 := (hb36.frozen (p := ⟨w.heap.size + 1, 0, none⟩) (by simp only; omega)).trans g1
        have hbf := hb3.trans (hb36.mono hb3.size)
        clear d0 d1 g0 g1 hat
        go_wp2_with fail
        refine leaves_cons (f := 110) (args := #[.pointer (some ⟨w.heap.size, 0, none⟩), .pointer (some ⟨w.heap.size + 1, 0, none⟩)]) (by simp) (by simp [go_sem]) ?_
        refine (ecatch_idle w.heap.size _).mono ?_
        rintro e u' w'' ⟨rfl, rfl, rfl⟩
        simp [Leaves, settle, results, Tryz.results94, go_sem, k0, k1]
        unfold evalPost
        rw [if_neg (by rw [HX.out]; simp), if_neg (by rw [HX.out]; simp), HXN.out]
        exact ⟨rfl, (hbf.setCell (p := ⟨w.heap.size, 0, none⟩) (Nat.le_refl _) _).setCell (p := ⟨w.heap.size + 1, 0, none⟩) (by simp) _⟩

theorem IntsV.env {w : World} {v : Value} {env : List Int} (h : IntsV w v env) : ∃ eao ecap, v = .slice eao env.length ecap ∧ EnvAt w eao env := by
  obtain ⟨ao, cap, rfl, h⟩ := h
  refine ⟨ao, cap, rfl, fun i hi => ?_⟩
  obtain ⟨b, off, rfl, hlt, hat⟩ := h (by intro h; subst h; simp at hi)
  exact ⟨b, off, rfl, hlt, hat i hi⟩

/-- THE CONTRACT OF expr.Eval. -/
theorem eval_any (v ev : Value) (l : List (Int × Int)) (env : List Int) (t : Tm) (w : World) (hB : 0 < w.heap.size) (hT : TabAt w) (hV : OpsV w v l) (hE : IntsV w ev env) (ht : endsCode (l.map Prod.fst) = 0 → t.Wf ∧ t.ops = l) :
    Calls Tryz.prog 94 #[v, ev] w fun e w' => e = .returned (.tuple #[.int .i64 (evalN l t env), .int .i64 (evalC l t env)]) ∧ Below w.heap.size w w' := by
  have hb0 := e0_below w
  have heo := eo_any v l env.length t (e0 w) (Nat.lt_of_lt_of_le hB hb0.size) (hT.below hb0 hB) (hV.below hb0) ht
  obtain ⟨eao, ecap, rfl, hEA⟩ := hE.env
  by_cases hx : xcode env.length l t = 0
  · obtain ⟨h0, h6, hops, hg, htt, h60⟩ := xcode_zero hx ht
    subst hops
    obtain ⟨ao, cap, rfl, _, h⟩ := hV
    obtain ⟨b, off, rfl, hlt, hat⟩ := h t.ops_ne
    refine (eval_yes b off _ cap eao _ ecap t env w t.ops_length (by rw [ops_length]; exact h60) rfl (by omega) hg htt hlt hat hEA (heo.mono fun e w' ⟨h1, _, h3⟩ => ⟨h1, ?_⟩)).mono fun e w' ⟨h1, h2⟩ => ⟨?_, h2⟩
    · obtain ⟨B, p1, p2, p3⟩ := h3 hx
      exact ⟨B, p1, p2, p3⟩
    · rw [h1]
      simp only [evalN, evalC, hx, ne_eq, not_true_eq_false, if_false]
      all_goals (cases t.eval env <;> rfl)
  · obtain ⟨ao, cap, rfl, _, h⟩ := hV
    refine (eval_no ao _ cap eao _ ecap _ w hx (heo.mono fun e w' ⟨h1, h2, _⟩ => ⟨h2 hx, h1⟩)).mono fun e w' ⟨h1, h2⟩ => ⟨?_, h2⟩
    rw [h1]
    unfold evalN evalC
    rw [if_pos hx, if_pos hx]
end Go.Proofs.YtdlpmomohbdpgaaGreatDoor

/-
  The contracts of the program's countOf, Count.
-/
namespace Go.Proofs.YtdlpmomohbdpgaaGreatDoor
open Go.ChangeShapes Go.WideShapes Go.ChangeAt Go.RowKit Go.Deep
open Terms Tm

set_option maxRecDepth 20000 in
set_option maxHeartbeats 1600000 in
theorem countOf_any (va : Value) (l : List Vr) (w : World) (hok : VarsOk l) (hV : VarsV w va l) :
    Calls Tryz.prog 93 #[va] w fun e w' => e = .returned (.int .i64 (prodTo l l.length)) ∧ Below w.heap.size w w' := by
  obtain ⟨ao, cap, rfl⟩ := hV.shape
  have HV : Hid (VarsV w (.slice ao l.length cap) l) := hV
  have HOK : Hid (VarsOk l) := hok
  have h6 := hok.1
  obtain ⟨n, hn⟩ : ∃ n, n = l.length := ⟨_, rfl⟩
  have HN : Hid (n = l.length) := hn
  rw [← hn] at h6 HV ⊢
  clear hV hn hok
  go_enter Tryz.func93, Tryz.ntmps93
  go_wp2
  go_loopw [3, 8] (fun st i wr => ∃ k : Nat, k ≤ n ∧ i = .int .i64 k ∧ st = .int .i64 (prodTo l k) ∧ Below w.heap.size w wr) (fun _ i _ => n - (intOf i).toNat)
  case atStart => exact ⟨0, Nat.zero_le _, rfl, rfl, Below.refl _ _⟩
  case round =>
    obtain ⟨k, hk, rfl, rfl, hbel⟩ := hrel
    by_cases hlt : k < n
    · obtain ⟨b, off, rfl, hblt, hat⟩ := HV.out.at (i := k) (by rw [← HN.out]; exact hlt)
      obtain ⟨c0, c1, c2, c3⟩ := hat.below hbel hblt
      have hpb := HOK.out.prod (j := k) (by rw [← HN.out]; exact hk)
      have hvb := HOK.out.at (j := k) (by rw [← HN.out]; exact hlt)
      have HPr : Hid (prodTo l (k + 1) = prodTo l k * vspan (l.getD k vr0)) := rfl
      generalize prodTo l k = st at *
      generalize l.getD k vr0 = x at *
      obtain ⟨s, lo, hi, ini⟩ := x
      simp only [vspan] at c0 c1 c2 c3 HPr hvb
      obtain ⟨hv1, hv2, hv3, hv4, hv5, hv6, hv7⟩ := hvb
      have hsp := fun w => span_any s lo hi ini w hv3 hv4 hv5
      obtain ⟨sp, hspe⟩ : ∃ sp, hi - lo + 1 = sp := ⟨_, rfl⟩
      rw [hspe] at hv1 hv2 hsp HPr
      clear hspe hat
      have hm1 : 1 ≤ st * sp := by have := Int.mul_le_mul hpb.1 hv1 (by omega) (by omega); simpa using this
      have hm2 : st * sp ≤ 262144 := by have := Int.mul_le_mul hpb.2 hv2 (by omega) (by omega); simpa using this
      have hbA := hbel.alloc hbel.size (.cells #[.string s, .int .i64 lo, .int .i64 hi, .int .i64 ini] 112)
      go_wp2_with (go_at_call 92; refine (hsp _).mono ?_; rintro e w3 ⟨rfl, hb3⟩)
      go_roundw
      case rel => exact ⟨k + 1, hlt, by go_num, by rw [HPr.out], hbA.trans (hb3.mono hbA.size)⟩
      case measure => simp [intOf]; omega
    · have hkn : k = n := by omega
      subst hkn
      go_wp2
      go_ret
      exact ⟨rfl, hbel⟩

end Go.Proofs.YtdlpmomohbdpgaaGreatDoor

/-
  The contracts of the program's codeOf, Code.
-/
namespace Go.Proofs.YtdlpmomohbdpgaaGreatDoor
open Go.ChangeShapes Go.WideShapes Go.ChangeAt Go.RowKit Go.Deep
open Terms Tm

set_option maxRecDepth 20000 in
set_option maxHeartbeats 1600000 in
theorem codeOf_any (va vv : Value) (l : List Vr) (vals : List Int) (w : World) (hok : VarsOk l) (hlen : vals.length = l.length) (hin : ∀ i, i < l.length → inB l vals i) (hV : VarsV w va l) (hI : IntsV w vv vals) :
    Calls Tryz.prog 73 #[va, vv] w fun e w' => e = .returned (.int .i64 (codeTo l vals l.length)) ∧ Below w.heap.size w w' := by
  obtain ⟨ao, cap, rfl⟩ := hV.shape
  obtain ⟨io, icap, rfl⟩ := hI.shape
  have HV : Hid (VarsV w (.slice ao l.length cap) l) := hV
  have HI : Hid (IntsV w (.slice io vals.length icap) vals) := hI
  have HOK : Hid (VarsOk l) := hok
  have HIN : Hid (∀ i, i < l.length → inB l vals i) := hin
  have HLen : Hid (vals.length = l.length) := hlen
  have h6 := hok.1
  obtain ⟨n, hn⟩ : ∃ n, n = l.length := ⟨_, rfl⟩
  have HN : Hid (n = l.length) := hn
  rw [hlen, ← hn] at HI
  rw [hlen, ← hn]
  rw [← hn] at h6 HV
  clear hV hI hn hok hin hlen
  go_enter Tryz.func73, Tryz.ntmps73
  go_wp2
  go_loopw [5, 10] (fun st i wr => ∃ k : Nat, k ≤ n ∧ i = .int .i64 k ∧ st = .int .i64 (codeTo l vals k) ∧ Below w.heap.size w wr) (fun _ i _ => n - (intOf i).toNat)
  case atStart => exact ⟨0, Nat.zero_le _, rfl, rfl, Below.refl _ _⟩
  case round =>
    obtain ⟨k, hk, rfl, rfl, hbel⟩ := hrel
    by_cases hlt : k < n
    · obtain ⟨b, off, rfl, hblt, hat⟩ := HV.out.at (i := k) (by rw [← HN.out]; exact hlt)
      obtain ⟨ib, ioff, rfl, hilt, hic⟩ := HI.out.at (i := k) (by rw [HLen.out, ← HN.out]; exact hlt)
      obtain ⟨c0, c1, c2, c3⟩ := hat.below hbel hblt
      have hic2 := (hbel.cell (p := ⟨ib, ioff + k, none⟩) hilt).trans hic
      have hcb := code_bounds HOK.out (k := k) (by rw [← HN.out]; exact hk) (fun i hi => HIN.out i (by rw [← HN.out]; omega))
      have hpb := HOK.out.prod (j := k) (by rw [← HN.out]; exact hk)
      have hvb := HOK.out.at (j := k) (by rw [← HN.out]; exact hlt)
      have hxb := HIN.out k (by rw [← HN.out]; exact hlt)
      have HPr : Hid (codeTo l vals (k + 1) = codeTo l vals k * vspan (l.getD k vr0) + (vals.getD k 0 - (l.getD k vr0).lo)) := rfl
      unfold inB at hxb
      generalize codeTo l vals k = st at *
      generalize prodTo l k = pr at *
      generalize l.getD k vr0 = x at *
      generalize vals.getD k 0 = y at *
      obtain ⟨s, lo, hi, ini⟩ := x
      simp only [vspan] at c0 c1 c2 c3 HPr hvb hxb
      obtain ⟨hv1, hv2, hv3, hv4, hv5, hv6, hv7⟩ := hvb
      have hsp := fun w => span_any s lo hi ini w hv3 hv4 hv5
      obtain ⟨sp, hspe⟩ : ∃ sp, hi - lo + 1 = sp := ⟨_, rfl⟩
      rw [hspe] at hv1 hv2 hsp HPr
      clear hspe hat hic
      have hm1 : 0 ≤ st * sp := Int.mul_nonneg hcb.1 (by omega)
      have hm2 : st * sp ≤ 262144 := by
        have h1 : st ≤ 4096 := by omega
        have := Int.mul_le_mul h1 hv2 (by omega) (by omega); simpa using this
      have hw1 : IntKind.i64.wrap (st * sp) = st * sp := wr64 (by omega) (by omega)
      have hw2 : IntKind.i64.wrap (st * sp + y) = st * sp + y := wr64 (by omega) (by omega)
      have hw3 : IntKind.i64.wrap (st * sp + y - lo) = st * sp + y - lo := wr64 (by omega) (by omega)
      have hszw := hbel.size
      have hbA := hbel.alloc hszw (.cells #[.string s, .int .i64 lo, .int .i64 hi, .int .i64 ini] 112)
      have hic3 := (((Below.refl wr.heap.size wr).alloc (Nat.le_refl _) (.cells #[.string s, .int .i64 lo, .int .i64 hi, .int .i64 ini] 112)).cell (p := ⟨ib, ioff + k, none⟩) (by simp only; omega)).trans hic2
      have hi0 : (0 : Int) ≤ (k : Int) := Int.natCast_nonneg _
      have hi1 : (k : Int) < (n : Int) := by omega
      have hS0 : ∀ w', Below (wr.heap.size + 1) (wr.alloc (.cells #[.string s, .int .i64 lo, .int .i64 hi, .int .i64 ini] 112)) w' → w'.cell? ⟨wr.heap.size, 0, none⟩ = some (.string s) ∧ w'.cell? ⟨wr.heap.size, 1, none⟩ = some (.int .i64 lo) ∧ w'.cell? ⟨wr.heap.size, 2, none⟩ = some (.int .i64 hi) ∧ w'.cell? ⟨wr.heap.size, 3, none⟩ = some (.int .i64 ini) ∧ w'.cell? ⟨ib, ioff + k, none⟩ = some (.int .i64 y) := fun w' hw' =>
        ⟨(hw'.cell (p := ⟨wr.heap.size, 0, none⟩) (by simp)).trans (by simp [go_sem]), (hw'.cell (p := ⟨wr.heap.size, 1, none⟩) (by simp)).trans (by simp [go_sem]), (hw'.cell (p := ⟨wr.heap.size, 2, none⟩) (by simp)).trans (by simp [go_sem]), (hw'.cell (p := ⟨wr.heap.size, 3, none⟩) (by simp)).trans (by simp [go_sem]), (hw'.cell (p := ⟨ib, ioff + k, none⟩) (by simp only; omega)).trans hic3⟩
      have hB0 : Below (wr.heap.size + 1) (wr.alloc (.cells #[.string s, .int .i64 lo, .int .i64 hi, .int .i64 ini] 112)) (wr.alloc (.cells #[.string s, .int .i64 lo, .int .i64 hi, .int .i64 ini] 112)) := Below.refl _ _
      clear hic3 hic2
      go_wp2_with fail
      go_region_held3 (fun w' => w'.cell? ⟨wr.heap.size, 0, none⟩ = some (.string s) ∧ w'.cell? ⟨wr.heap.size, 1, none⟩ = some (.int .i64 lo) ∧ w'.cell? ⟨wr.heap.size, 2, none⟩ = some (.int .i64 hi) ∧ w'.cell? ⟨wr.heap.size, 3, none⟩ = some (.int .i64 ini) ∧ w'.cell? ⟨ib, ioff + k, none⟩ = some (.int .i64 y))
        (exact hS0 _ (by first | exact hB0 | exact hB0.drew | exact hB0.drew.trans (hb2.mono (by simp))))
        (first | (go_at_call 92; refine (hsp _).mono ?_; rintro e w2 ⟨rfl, hb2⟩))
      go_wp2_with fail
      go_roundw
      case rel => exact ⟨k + 1, hlt, by go_num, by rw [HPr.out]; first | (congr 1; omega) | (simp [hw1, hw2, hw3]; omega), hbA.drew.trans (hb2.mono (by simp; omega))⟩
      case measure => simp [intOf]; omega
    · have hkn : k = n := by omega
      subst hkn
      go_wp2
      go_ret
      exact ⟨rfl, hbel⟩
set_option maxRecDepth 20000 in
theorem mcode_bad (va vr vv : Value) (m : Mo) (w : World) (hB : 0 < w.heap.size) (hT : TabAt w) (hV : ModelV w va vr m) (io : Option Addr) (il ic : Nat) (hv : vv = .slice io il ic) (h : mcode m ≠ 0) :
    Calls Tryz.prog 121 #[.agg #[va, vr], vv] w fun e w' => e = .returned (.tuple #[.int .i64 0, .int .i64 (mcode m)]) ∧ Below w.heap.size w w' := by
  subst hv
  have hA : ∀ o, Below w.heap.size w (w.alloc o) := fun o => (Below.refl _ _).alloc (Nat.le_refl _) o
  have hch := fun o => mcheck_any va vr m (w.alloc o) (Nat.lt_of_lt_of_le hB (hA o).size) (hT.below (hA o) hB) (hV.below (hA o))
  obtain ⟨ao, cap, rfl⟩ := hV.1.shape
  obtain ⟨ro, rc, rfl⟩ := hV.2.shape
  generalize mcode m = x at *
  generalize m.vars.length = n at *
  generalize m.rules.length = rn at *
  clear hV hT
  go_enter Tryz.func121, Tryz.ntmps121
  go_wp2_with (go_at_call 72; refine (hch _).mono ?_; rintro e w1 ⟨rfl, hb1⟩)
  go_ret2
  exact ⟨rfl, (hA _).trans (hb1.mono (hA _).size)⟩
set_option maxRecDepth 20000 in
theorem mcode_len (va vr vv : Value) (m : Mo) (w : World) (hB : 0 < w.heap.size) (hT : TabAt w) (hV : ModelV w va vr m) (io : Option Addr) (il ic : Nat) (hv : vv = .slice io il ic) (h : mcode m = 0) (hl : il ≠ m.vars.length) :
    Calls Tryz.prog 121 #[.agg #[va, vr], vv] w fun e w' => e = .returned (.tuple #[.int .i64 0, .int .i64 9]) ∧ Below w.heap.size w w' := by
  subst hv
  have hA : ∀ o, Below w.heap.size w (w.alloc o) := fun o => (Below.refl _ _).alloc (Nat.le_refl _) o
  have hch := fun o => mcheck_any va vr m (w.alloc o) (Nat.lt_of_lt_of_le hB (hA o).size) (hT.below (hA o) hB) (hV.below (hA o))
  rw [h] at hch
  obtain ⟨ao, cap, rfl⟩ := hV.1.shape
  obtain ⟨ro, rc, rfl⟩ := hV.2.shape
  generalize m.vars.length = n at *
  generalize m.rules.length = rn at *
  have hne : ((il : Int) == (n : Int)) = false := by rw [beq_eq_false_iff_ne]; omega
  clear hV hT h
  go_enter Tryz.func121, Tryz.ntmps121
  go_wp2_with (go_at_call 72; refine (hch _).mono ?_; rintro e w1 ⟨rfl, hb1⟩; have hcb : w1.cell? ⟨w.heap.size, 0, none⟩ = some (.slice ao n cap) := (hb1.cell (p := ⟨w.heap.size, 0, none⟩) (by simp)).trans (by simp [go_sem]))
  all_goals first | (exfalso; omega) | go_ret2
  all_goals exact ⟨rfl, (hA _).trans (hb1.mono (hA _).size)⟩

set_option maxRecDepth 20000 in
set_option maxHeartbeats 1600000 in
theorem mcode_loop (va vr vv : Value) (m : Mo) (vals : List Int) (w : World) (hB : 0 < w.heap.size) (hT : TabAt w) (hV : ModelV w va vr m) (hI : IntsV w vv vals) (h : mcode m = 0) (hlen : vals.length = m.vars.length) :
    Calls Tryz.prog 121 #[.agg #[va, vr], vv] w fun e w' => e = .returned (.tuple #[.int .i64 (cval m vals), .int .i64 (ccode m vals)]) ∧ Below w.heap.size w w' := by
  have hA : ∀ o, Below w.heap.size w (w.alloc o) := fun o => (Below.refl _ _).alloc (Nat.le_refl _) o
  have hch := fun o => mcheck_any va vr m (w.alloc o) (Nat.lt_of_lt_of_le hB (hA o).size) (hT.below (hA o) hB) (hV.below (hA o))
  rw [h] at hch
  have hok := mcode_vars h
  have h6 := hok.1
  have hcf := (fun w1 (hb : Below w.heap.size w w1) (hin : ∀ i, i < m.vars.length → inB m.vars vals i) => codeOf_any va vv m.vars vals w1 hok hlen hin (hV.1.below hb) (hI.below hb))
  obtain ⟨ao, cap, rfl⟩ := hV.1.shape
  obtain ⟨ro, rc, rfl⟩ := hV.2.shape
  obtain ⟨io, icap, rfl⟩ := hI.shape
  have HCF := (show Hid _ from hcf)
  have HV : Hid (VarsV w (.slice ao m.vars.length cap) m.vars) := hV.1
  have HI : Hid (IntsV w (.slice io vals.length icap) vals) := hI
  have HYes : Hid ((∀ i, i < m.vars.length → inB m.vars vals i) → ccode m vals = 0 ∧ cval m vals = codeTo m.vars vals m.vars.length) := fun hin => by
    have h1 := ccode_yes h ⟨hlen, hin⟩
    exact ⟨h1, by unfold cval; rw [if_pos h1]⟩
  have HNo : Hid (∀ k, k < m.vars.length → ¬ inB m.vars vals k → ccode m vals = 9 ∧ cval m vals = 0) := fun k hk hin => by
    have h1 := ccode_no h (vals := vals) (fun h => hin (h.2 k hk))
    exact ⟨h1, by unfold cval; rw [h1, if_neg (by decide)]⟩
  have HLen : Hid (vals.length = m.vars.length) := hlen
  obtain ⟨n, hn⟩ : ∃ n, n = m.vars.length := ⟨_, rfl⟩
  have HN : Hid (n = m.vars.length) := hn
  rw [hlen] at HCF HI ⊢
  rw [← hn] at h6 hch HCF HV HI HYes HNo ⊢
  generalize m.rules.length = rn at *
  generalize ccode m vals = cc at *
  generalize cval m vals = cv at *
  clear hV hI hT hcf hlen hn hok h
  go_enter Tryz.func121, Tryz.ntmps121
  go_wp2_with (go_at_call 72; refine (hch _).mono ?_; rintro e w1 ⟨rfl, hb1⟩; have hcb : w1.cell? ⟨w.heap.size, 0, none⟩ = some (.slice ao n cap) := (hb1.cell (p := ⟨w.heap.size, 0, none⟩) (by simp)).trans (by simp [go_sem]))
  have hb1' : Below (w.heap.size + 1) (w.alloc (.cells #[.slice ao n cap, .slice ro rn rc] 25)) w1 := hb1.mono (by simp)
  clear hch hcb hb1
  go_loopw [23] (fun i wr => ∃ k : Nat, k ≤ n ∧ i = .int .i64 k ∧ Hid (∀ i, i < k → inB m.vars vals i) ∧ Below (w.heap.size + 1) (w.alloc (.cells #[.slice ao n cap, .slice ro rn rc] 25)) wr) (fun i _ => n - (intOf i).toNat)
  case atStart => exact ⟨0, Nat.zero_le _, rfl, fun j hj => by omega, hb1'⟩
  case round =>
    obtain ⟨k, hk, rfl, HJ, hbelB⟩ := hrel
    clear hb1'
    have hbel := (hA _).trans (hbelB.mono (Nat.le_succ _))
    have hszb : w.heap.size + 1 ≤ wr.heap.size := by have := hbelB.size; simp at this; omega
    have cb := (hbelB.cell (p := ⟨w.heap.size, 0, none⟩) (by simp)).trans (show _ = some (.slice ao n cap) by simp [go_sem])
    by_cases hlt : k < n
    · obtain ⟨b, off, rfl, hblt, hat⟩ := HV.out.at (i := k) (by rw [← HN.out]; exact hlt)
      obtain ⟨ib, ioff, rfl, hilt, hic⟩ := HI.out.at (i := k) (by rw [HLen.out, ← HN.out]; exact hlt)
      obtain ⟨c0, c1, c2, c3⟩ := hat.below hbel hblt
      have hic2 := (hbel.cell (p := ⟨ib, ioff + k, none⟩) hilt).trans hic
      have HNk := (show Hid _ from HNo.out k hlt)
      have HJ2 : Hid (inB m.vars vals k → ∀ i, i < k + 1 → inB m.vars vals i) := fun h i hi => by
        by_cases hik : i = k
        · subst hik; exact h
        · exact HJ.out i (by omega)
      unfold inB at HNk
      have HJ3 : Hid ((m.vars.getD k vr0).lo ≤ vals.getD k 0 ∧ vals.getD k 0 ≤ (m.vars.getD k vr0).hi → ∀ i, i < k + 1 → inB m.vars vals i) := fun h => HJ2.out h
      generalize m.vars.getD k vr0 = x at *
      generalize vals.getD k 0 = y at *
      obtain ⟨s, lo, hi, ini⟩ := x
      simp only at c0 c1 c2 c3 HNk HJ3
      have hwi := fun w => within_any s lo hi ini y w
      clear hat hic HJ2 HJ
      have hbA := hbelB.alloc hszb (.cells #[.string s, .int .i64 lo, .int .i64 hi, .int .i64 ini] 112)
      have hbwA := (hA _).trans (hbA.mono (Nat.le_succ _))
      have hic3 := (((Below.refl wr.heap.size wr).alloc (Nat.le_refl _) (.cells #[.string s, .int .i64 lo, .int .i64 hi, .int .i64 ini] 112)).cell (p := ⟨ib, ioff + k, none⟩) (by simp only; omega)).trans hic2
      have hi0 : (0 : Int) ≤ (k : Int) := Int.natCast_nonneg _
      have hi1 : (k : Int) < (n : Int) := by omega
      have hS0 : ∀ w', Below (wr.heap.size + 1) (wr.alloc (.cells #[.string s, .int .i64 lo, .int .i64 hi, .int .i64 ini] 112)) w' → w'.cell? ⟨wr.heap.size, 0, none⟩ = some (.string s) ∧ w'.cell? ⟨wr.heap.size, 1, none⟩ = some (.int .i64 lo) ∧ w'.cell? ⟨wr.heap.size, 2, none⟩ = some (.int .i64 hi) ∧ w'.cell? ⟨wr.heap.size, 3, none⟩ = some (.int .i64 ini) ∧ w'.cell? ⟨ib, ioff + k, none⟩ = some (.int .i64 y) := fun w' hw' =>
        ⟨(hw'.cell (p := ⟨wr.heap.size, 0, none⟩) (by simp)).trans (by simp [go_sem]), (hw'.cell (p := ⟨wr.heap.size, 1, none⟩) (by simp)).trans (by simp [go_sem]), (hw'.cell (p := ⟨wr.heap.size, 2, none⟩) (by simp)).trans (by simp [go_sem]), (hw'.cell (p := ⟨wr.heap.size, 3, none⟩) (by simp)).trans (by simp [go_sem]), (hw'.cell (p := ⟨ib, ioff + k, none⟩) (by simp only; omega)).trans hic3⟩
      have hB0 : Below (wr.heap.size + 1) (wr.alloc (.cells #[.string s, .int .i64 lo, .int .i64 hi, .int .i64 ini] 112)) (wr.alloc (.cells #[.string s, .int .i64 lo, .int .i64 hi, .int .i64 ini] 112)) := Below.refl _ _
      clear hic3 hic2
      by_cases hin : lo ≤ y ∧ y ≤ hi
      · rw [decide_eq_true hin] at hwi
        have HJ4 := (show Hid _ from HJ3.out hin)
        clear hin HJ3 HNk HNo HYes HCF
        go_wp2_with fail
        go_region_held3 (fun w' => w'.cell? ⟨wr.heap.size, 0, none⟩ = some (.string s) ∧ w'.cell? ⟨wr.heap.size, 1, none⟩ = some (.int .i64 lo) ∧ w'.cell? ⟨wr.heap.size, 2, none⟩ = some (.int .i64 hi) ∧ w'.cell? ⟨wr.heap.size, 3, none⟩ = some (.int .i64 ini) ∧ w'.cell? ⟨ib, ioff + k, none⟩ = some (.int .i64 y))
          (exact hS0 _ (by first | exact hB0 | exact hB0.drew | exact hB0.drew.trans (hb2.mono (by simp))))
          (first | (go_at_call 124; refine (hwi _).mono ?_; rintro e w2 ⟨rfl, hb2⟩))
        go_wp2_with fail
        go_roundw
        case rel => exact ⟨k + 1, hlt, by go_num, HJ4, hbA.drew.trans (hb2.mono (by simp; omega))⟩
        case measure => simp [intOf]; omega
      · rw [decide_eq_false hin] at hwi
        have HR := (show Hid _ from HNk.out hin)
        clear hin HJ3 HNk HNo HYes HCF
        go_wp2_with fail
        go_region_held3 (fun w' => w'.cell? ⟨wr.heap.size, 0, none⟩ = some (.string s) ∧ w'.cell? ⟨wr.heap.size, 1, none⟩ = some (.int .i64 lo) ∧ w'.cell? ⟨wr.heap.size, 2, none⟩ = some (.int .i64 hi) ∧ w'.cell? ⟨wr.heap.size, 3, none⟩ = some (.int .i64 ini) ∧ w'.cell? ⟨ib, ioff + k, none⟩ = some (.int .i64 y))
          (exact hS0 _ (by first | exact hB0 | exact hB0.drew | exact hB0.drew.trans (hb2.mono (by simp))))
          (first | (go_at_call 124; refine (hwi _).mono ?_; rintro e w2 ⟨rfl, hb2⟩))
        go_wp2_with fail
        go_ret2
        rw [HR.out.1, HR.out.2]
        exact ⟨rfl, hbwA.drew.trans (hb2.mono hbwA.size)⟩
    · have hkn : k = n := by omega
      subst hkn
      have HR := (show Hid _ from HYes.out HJ.out)
      have hcf := HCF.out wr hbel HJ.out
      generalize codeTo m.vars vals k = cd at *
      clear HJ HYes HNo HCF
      go_wp2_with (go_at_call 73; refine hcf.mono ?_; rintro e w2 ⟨rfl, hb2⟩)
      go_ret2
      rw [HR.out.1, HR.out.2]
      exact ⟨rfl, hbel.trans (hb2.mono hbel.size)⟩

set_option maxRecDepth 20000 in
/-- THE CONTRACT OF Code. -/
theorem mcodes_any (va vr vv : Value) (m : Mo) (vals : List Int) (w : World) (hB : 0 < w.heap.size) (hT : TabAt w) (hV : ModelV w va vr m) (hI : IntsV w vv vals) :
    Calls Tryz.prog 121 #[.agg #[va, vr], vv] w fun e w' => e = .returned (.tuple #[.int .i64 (cval m vals), .int .i64 (ccode m vals)]) ∧ Below w.heap.size w w' := by
  obtain ⟨io, ic, hv⟩ := hI.shape
  by_cases h : mcode m = 0
  · by_cases hl : vals.length = m.vars.length
    · exact mcode_loop va vr vv m vals w hB hT hV hI h hl
    · have h9 := ccode_no h (vals := vals) (fun h => hl h.1)
      unfold cval
      rw [h9, if_neg (by decide)]
      exact mcode_len va vr vv m w hB hT hV io _ ic hv h hl
  · have h9 := ccode_bad (vals := vals) h
    unfold cval
    rw [h9, if_neg h]
    exact mcode_bad va vr vv m w hB hT hV io _ ic hv h
end Go.Proofs.YtdlpmomohbdpgaaGreatDoor

/-
  The contracts of package step's inner functions: holds, withoutRules, doRule.
-/
namespace Go.Proofs.YtdlpmomohbdpgaaGreatDoor
open Go.ChangeShapes Go.WideShapes Go.ChangeAt Go.RowKit Go.Deep
open Terms Tm

/-- THE CONTRACT OF expr.Eval, in the step's words. -/
theorem ex_any (v ev : Value) (l : List (Int × Int)) (env : List Int) (w : World) (hB : 0 < w.heap.size) (hT : TabAt w) (hV : OpsV w v l) (hE : IntsV w ev env) :
    Calls Tryz.prog 94 #[v, ev] w fun e w' => e = .returned (.tuple #[.int .i64 (exN l env), .int .i64 (exC l env)]) ∧ Below w.heap.size w w' :=
  eval_any v ev l env (treeOf l) w hB hT hV hE (treeOf_spec l)

set_option maxHeartbeats 800000 in
/-- THE CONTRACT OF holds. -/
theorem sholds_any (v ev : Value) (l : List (Int × Int)) (env : List Int) (w : World) (hB : 0 < w.heap.size) (hT : TabAt w) (hV : OpsV w v l) (hE : IntsV w ev env) :
    Calls Tryz.prog 76 #[v, ev] w fun e w' => e = .returned (.bool (holdsB l env)) ∧ Below w.heap.size w w' := by
  have hx := ex_any v ev l env w hB hT hV hE
  unfold holdsB
  generalize exN l env = n at hx ⊢
  generalize exC l env = c at hx ⊢
  clear hV hE hT
  go_enter Tryz.func76, Tryz.ntmps76
  go_wp2_with (go_at_call 94; refine hx.mono ?_; rintro e w1 ⟨rfl, hb1⟩)
  all_goals go_ret
  all_goals exact ⟨by first | (simp [*]; done) | (simp [*]; by_cases h1 : n = 1 <;> simp [h1]), hb1⟩

/-- THE CONTRACT OF withoutRules. -/
theorem bare_any (ao ro : Option Addr) (n cap rn rc : Nat) (w : World) :
    Calls Tryz.prog 75 #[.agg #[.slice ao n cap, .slice ro rn rc]] w fun e w' => e = .returned (.agg #[.slice ao n cap, .slice none 0 0]) ∧ Below w.heap.size w w' := by
  go_enter Tryz.func75, Tryz.ntmps75
  go_wp2_with fail
  exact bodyPost_ret (v := .agg #[.slice ao n cap, .slice none 0 0]) (by simp [results, Tryz.results75, go_sem]) rfl ⟨rfl, ((Below.refl _ _).alloc (Nat.le_refl _) _).alloc (by simp) _⟩

set_option maxHeartbeats 3200000 in
set_option maxRecDepth 20000 in
/-- THE CONTRACT OF doRule. -/
theorem doRule_any (va vr gv sv : Value) (B : Nat) (m : Mo) (env : List Int) (r : Ru) (w : World) (hB : 0 < w.heap.size) (hT : TabAt w) (hV : ModelV w va vr m) (hm : mcode m = 0) (hr : rcode m.vars.length r = 0) (he : env.length = m.vars.length)
    (hrow : w.rowIs B 3 env.length (fun j => .int .i64 (env.getD j 0))) (hg : OpsV w gv r.guard) (hs : SetsV w sv r.sets) :
    Calls Tryz.prog 102 #[.agg #[va, vr], .slice (some ⟨B, 0, none⟩) env.length env.length, .agg #[gv, sv]] w fun e w' => e = .returned (.tuple #[.int .i64 (optN (ruleDo m.vars env r)), .int .i64 (optC (ruleDo m.vars env r))]) ∧ Below w.heap.size w w' := by
  obtain ⟨h6, hsv⟩ := rule_sets hr
  have hv6 := (mcode_vars hm).1
  obtain ⟨ao, cap, rfl⟩ := hV.1.shape
  obtain ⟨ro, rc, rfl⟩ := hV.2.shape
  obtain ⟨go, gc, rfl⟩ := hg.shape
  obtain ⟨so, sc, rfl⟩ := hs.shape
  have hA2 : ∀ o o', Below w.heap.size w ((w.alloc o).alloc o') := fun o o' => ((Below.refl _ _).alloc (Nat.le_refl _) o).alloc (by simp) o'
  have hI : IntsV w (.slice (some ⟨B, 0, none⟩) env.length env.length) env := by
    have h1 := intsV_of_row hrow
    have e1 : (List.range env.length).map (fun j => env.getD j 0) = env := by
      apply List.ext_getElem?
      intro i
      by_cases hi : i < env.length
      · simp [hi, List.getD_eq_getElem?_getD]
      · simp [hi]
    rwa [e1] at h1
  have hho := fun w' (hb : Below w.heap.size w w') => sholds_any (.slice go r.guard.length gc) (.slice (some ⟨B, 0, none⟩) env.length env.length) r.guard env w' (Nat.lt_of_lt_of_le hB hb.size) (hT.below hb hB) (hg.below hb) (hI.below hb)
  have hcl := fun w' (hb : Below w.heap.size w w') => clone_any B env w' (by omega) (row_later hrow hb)
  have HEx : Hid (∀ w' (_ : Below w.heap.size w w') v l, OpsV w' v l → Calls Tryz.prog 94 #[v, .slice (some ⟨B, 0, none⟩) env.length env.length] w' fun e w2 => e = .returned (.tuple #[.int .i64 (exN l env), .int .i64 (exC l env)]) ∧ Below w'.heap.size w' w2) := fun w' hb v l hv => ex_any v _ l env w' (Nat.lt_of_lt_of_le hB hb.size) (hT.below hb hB) hv (hI.below hb)
  have HCo : Hid (∀ w' (_ : Below w.heap.size w w') vv vals, IntsV w' vv vals → Calls Tryz.prog 121 #[.agg #[.slice ao m.vars.length cap, .slice none 0 0], vv] w' fun e w2 => e = .returned (.tuple #[.int .i64 (cval ⟨m.vars, []⟩ vals), .int .i64 (ccode ⟨m.vars, []⟩ vals)]) ∧ Below w'.heap.size w' w2) := fun w' hb vv vals hi =>
    mcodes_any _ _ vv ⟨m.vars, []⟩ vals w' (Nat.lt_of_lt_of_le hB hb.size) (hT.below hb hB) ⟨hV.1.below hb, ⟨none, 0, rfl, ⟨by simp, fun _ => ⟨rfl, rfl⟩⟩, fun h => by simp at h⟩⟩ hi
  have HS : Hid (SetsV w (.slice so r.sets.length sc) r.sets) := hs
  have HSV : Hid (∀ j, j < r.sets.length → 0 ≤ (r.sets.getD j st0).var ∧ (r.sets.getD j st0).var < m.vars.length) := hsv
  have HE : Hid (env.length = m.vars.length) := he
  have HM0 : Hid (mcode ⟨m.vars, []⟩ = 0) := mcode_bare hm
  clear hV hT hg hs hsv hm hr hI hrow he
  by_cases hgd : holdsB r.guard env = true
  · rw [hgd] at hho
    go_enter Tryz.func102, Tryz.ntmps102
    go_wp2_with (go_at_call 76; refine (hho _ (hA2 _ _)).mono ?_; rintro e w1 ⟨rfl, hb1⟩; have hbw1 := (hA2 _ _).trans (hb1.mono (hA2 _ _).size))
    have hs1 : w.heap.size + 1 < w1.heap.size := by have := hb1.size; simp at this; omega
    have k10 : w1.cell? ⟨w.heap.size, 0, none⟩ = some (.slice ao m.vars.length cap) := (hb1.cell (p := ⟨w.heap.size, 0, none⟩) (by simp; omega)).trans (by simp [go_sem])
    have k11 : w1.cell? ⟨w.heap.size, 1, none⟩ = some (.slice ro m.rules.length rc) := (hb1.cell (p := ⟨w.heap.size, 1, none⟩) (by simp; omega)).trans (by simp [go_sem])
    have k12 : w1.cell? ⟨w.heap.size + 1, 1, none⟩ = some (.slice so r.sets.length sc) := (hb1.cell (p := ⟨w.heap.size + 1, 1, none⟩) (by simp)).trans (by simp [go_sem])
    have HC1 : Hid (∀ w', Below w1.heap.size w1 w' → w'.cell? ⟨w.heap.size, 0, none⟩ = some (.slice ao m.vars.length cap) ∧ w'.cell? ⟨w.heap.size, 1, none⟩ = some (.slice ro m.rules.length rc) ∧ w'.cell? ⟨w.heap.size + 1, 1, none⟩ = some (.slice so r.sets.length sc)) := fun w' hb => ⟨(hb.cell (p := ⟨w.heap.size, 0, none⟩) (by simp only; omega)).trans k10, (hb.cell (p := ⟨w.heap.size, 1, none⟩) (by simp only; omega)).trans k11, (hb.cell (p := ⟨w.heap.size + 1, 1, none⟩) hs1).trans k12⟩
    have HBW1 : Hid (Below w.heap.size w w1) := hbw1
    have hcl1 := hcl w1 hbw1
    clear hho hcl hb1 hbw1
    go_wp2_with (go_at_call 120; refine hcl1.mono ?_; rintro e w2 ⟨g, gcap, rfl, hgl, hb2, ho2⟩; obtain ⟨k20, k21, k22⟩ := HC1.out w2 hb2)
    have HO2 : Hid (w2.ownsRow w1.heap.size 3 1 (.slice (some ⟨g, 0, none⟩) env.length gcap) env.length (ivals env)) := ho2
    have HB2 : Hid (Below w1.heap.size w1 w2) := hb2
    have HRS : Hid (∀ j, j < r.sets.length → exC (r.sets.getD j st0).val env ≠ 0 → ruleDo m.vars env r = none) := fun j hj h => ruleDo_set hj h
    have HRC : Hid (setsOk env r → (ccode ⟨m.vars, []⟩ (behindL env r) = 0 → ruleDo m.vars env r = some (cval ⟨m.vars, []⟩ (behindL env r))) ∧ (ccode ⟨m.vars, []⟩ (behindL env r) ≠ 0 → ruleDo m.vars env r = none)) := fun h => ruleDo_code hgd h HE.out HM0.out rfl
    have HBL : Hid (behindL env r = setTo env r.sets r.sets.length) := rfl
    obtain ⟨sn, hsn⟩ : ∃ sn, sn = r.sets.length := ⟨_, rfl⟩
    have HSN : Hid (sn = r.sets.length) := hsn
    rw [← hsn] at h6 HS HC1 k22 ⊢
    obtain ⟨res, hres⟩ : ∃ res, ruleDo m.vars env r = res := ⟨_, rfl⟩
    rw [hres] at HRS HRC
    have HRes : Hid (ruleDo m.vars env r = res) := hres
    clear hcl1 ho2 hb2 hsn hres hgd
    go_loopw [25] (fun i wr => ∃ k : Nat, k ≤ sn ∧ i = .int .i64 k ∧ Hid (∀ j, j < k → exC (r.sets.getD j st0).val env = 0) ∧ Hid (wr.ownsRow w1.heap.size 3 1 (.slice (some ⟨g, 0, none⟩) env.length gcap) env.length (ivals (setTo env r.sets k))) ∧ Hid (Below w1.heap.size w1 wr)) (fun i _ => sn - (intOf i).toNat)
    case atStart => exact ⟨0, Nat.zero_le _, rfl, fun j hj => by omega, HO2.out, HB2.out⟩
    case round =>
      obtain ⟨k, hk, rfl, HOK, HOwn, HBel⟩ := hrel
      have hbel := HBel.out
      have hbw := HBW1.out.trans (hbel.mono HBW1.out.size)
      obtain ⟨kr0, kr1, kr2⟩ := HC1.out wr hbel
      by_cases hlt : k < sn
      · obtain ⟨b, off, rfl, hblt, hat⟩ := HS.out.at (i := k) (by rw [← HSN.out]; exact hlt)
        obtain ⟨c0, u, c1, hou⟩ := hat.below hbw hblt
        obtain ⟨uo, uc, rfl⟩ := hou.shape
        have HSk := HSV.out k (by rw [← HSN.out]; exact hlt)
        have HRk : Hid (exC (r.sets.getD k st0).val env ≠ 0 → res = none) := HRS.out k (by rw [← HSN.out]; exact hlt)
        have HStep : Hid (setTo env r.sets (k + 1) = (setTo env r.sets k).set (r.sets.getD k st0).var.toNat (exN (r.sets.getD k st0).val env)) := rfl
        have HOK2 : Hid (exC (r.sets.getD k st0).val env = 0 → ∀ j, j < k + 1 → exC (r.sets.getD j st0).val env = 0) := fun h j hj => by
          by_cases hjk : j = k
          · subst hjk; exact h
          · exact HOK.out j (by omega)
        have hAr : ∀ o, Below w.heap.size w (wr.alloc o) := fun o => hbw.alloc hbw.size o
        have hex := fun o => HEx.out (wr.alloc o) (hAr o) _ _ (hou.below ((Below.refl _ _).alloc (Nat.le_refl _) o))
        obtain ⟨hv0, hv1⟩ := HSk
        obtain ⟨vn, hvn⟩ : ∃ vn : Nat, (r.sets.getD k st0).var = vn := ⟨(r.sets.getD k st0).var.toNat, by omega⟩
        rw [hvn] at hv0 hv1 c0 HStep
        rw [Int.toNat_natCast] at HStep
        have hvn2 : vn < env.length := by rw [HE.out]; omega
        generalize exN (r.sets.getD k st0).val env = N at hex HStep
        generalize exC (r.sets.getD k st0).val env = C at hex HRk HOK2
        generalize (r.sets.getD k st0).val.length = ul at hex c1 hou
        have HBr : Hid (∀ o w4, Below (wr.alloc o).heap.size (wr.alloc o) w4 → Below w1.heap.size w1 w4 ∧ w4.ownsRow w1.heap.size 3 1 (.slice (some ⟨g, 0, none⟩) env.length gcap) env.length (ivals (setTo env r.sets k)) ∧ w4.cell? ⟨wr.heap.size, 0, none⟩ = (wr.alloc o).cell? ⟨wr.heap.size, 0, none⟩) := fun o w4 hb =>
          ⟨(hbel.alloc hbel.size o).trans (hb.mono (hbel.alloc hbel.size o).size), owns_later (owns_later HOwn.out ((Below.refl _ _).alloc (Nat.le_refl _) o) (Nat.le_refl _)) hb (Nat.le_refl _), hb.cell (p := ⟨wr.heap.size, 0, none⟩) (by simp)⟩
        clear hat hou hvn hAr HRS HEx HCo HS HSV HRC kr0 kr1 kr2 k20 k21 k22 k10 k11 k12 hbel hbw
        by_cases hC : C = 0
        · subst hC
          go_wp2_with (go_at_call 94; refine (hex _).mono ?_; rintro e w4 ⟨rfl, hb4⟩; obtain ⟨hb14, ho4, hcv⟩ := HBr.out _ w4 hb4; have hcell := ho4.cellAt vn (by omega); rw [show (ivals (setTo env r.sets k))[vn]? = some (.int .i64 ((setTo env r.sets k).getD vn 0)) by simp [ivals, List.getD_eq_getElem?_getD, setTo_length, hvn2]] at hcell; have hfz := ho4.frozenAt vn; have hcv2 : w4.cell? ⟨wr.heap.size, 0, none⟩ = some (.int .i64 vn) := (by rw [hcv]; simp [go_sem]))
          refine ⟨⟨k + 1, hlt, by first | rfl | simp, HOK2.out trivial, ?_, hb14.setCell hgl _⟩, by simp [intOf]; omega⟩
          have hst := (ho4.stored vn (.int .i64 N)).1
          rw [show (ivals (setTo env r.sets k)).set vn (.int .i64 N) = ivals (setTo env r.sets (k + 1)) by rw [HStep.out]; simp [ivals, List.map_set]] at hst
          exact hst
        · have HRN : Hid (res = none) := HRk.out hC
          go_wp2_with (go_at_call 94; refine (hex _).mono ?_; rintro e w4 ⟨rfl, hb4⟩; obtain ⟨hb14, ho4, hcv⟩ := HBr.out _ w4 hb4)
          go_ret2
          exact ⟨by rw [HRes.out, HRN.out]; rfl, HBW1.out.trans (hb14.mono HBW1.out.size)⟩
      · have hkn : k = sn := by omega
        subst hkn
        have hbe : behindL env r = setTo env r.sets k := by rw [HBL.out, HSN.out]
        have hrc := HRC.out (fun j hj => HOK.out j (by rw [HSN.out]; exact hj))
        have ho := HOwn.out
        rw [← hbe] at ho
        have hlb : (behindL env r).length = env.length := by rw [hbe, setTo_length]
        rw [← hlb] at ho
        have hba := bare_any ao ro m.vars.length cap m.rules.length rc wr
        have HI : Hid (∀ w', Below wr.heap.size wr w' → IntsV w' (.slice (some ⟨g, 0, none⟩) (behindL env r).length gcap) (behindL env r)) := fun w' hb => (intsV_of_owns ho).below hb
        rw [hlb] at HI
        have hco := fun w' (hb : Below wr.heap.size wr w') => HCo.out w' (hbw.trans (hb.mono hbw.size)) _ _ (HI.out w' hb)
        have HBWr : Hid (Below w.heap.size w wr) := hbw
        generalize cval ⟨m.vars, []⟩ (behindL env r) = cv at hco hrc
        generalize ccode ⟨m.vars, []⟩ (behindL env r) = cc at hco hrc
        obtain ⟨hrc0, hrc1⟩ := hrc
        clear hbe ho hlb HI HRC HRS HEx HCo HS HSV k20 k21 k22 k10 k11 k12 hbel hbw hlt hk HOK HOwn
        by_cases hcc : cc = 0
        · have hrn := hrc0 hcc
          subst hcc
          have HRN : Hid (res = some cv) := hrn
          clear hrc0 hrc1 hrn
          go_wp2_with (first | (go_at_call 75; refine hba.mono ?_; rintro e w5 ⟨rfl, hb5⟩) | (go_at_call 121; refine (hco _ hb5).mono ?_; rintro e w6 ⟨rfl, hb6⟩))
          go_ret2
          exact ⟨by rw [HRes.out, HRN.out]; rfl, HBWr.out.trans ((hb5.trans (hb6.mono hb5.size)).mono HBWr.out.size)⟩
        · have HRN : Hid (res = none) := hrc1 hcc
          clear hrc0 hrc1
          go_wp2_with (first | (go_at_call 75; refine hba.mono ?_; rintro e w5 ⟨rfl, hb5⟩) | (go_at_call 121; refine (hco _ hb5).mono ?_; rintro e w6 ⟨rfl, hb6⟩))
          go_ret2
          exact ⟨by rw [HRes.out, HRN.out]; rfl, HBWr.out.trans ((hb5.trans (hb6.mono hb5.size)).mono HBWr.out.size)⟩
  · have hgd2 : holdsB r.guard env = false := by simpa using hgd
    rw [hgd2] at hho
    rw [ruleDo_guard hgd2]
    go_enter Tryz.func102, Tryz.ntmps102
    go_wp2_with (go_at_call 76; refine (hho _ (hA2 _ _)).mono ?_; rintro e w1 ⟨rfl, hb1⟩)
    go_ret2
    exact ⟨rfl, (hA2 _ _).trans (hb1.mono (hA2 _ _).size)⟩
end Go.Proofs.YtdlpmomohbdpgaaGreatDoor

/-
  The contract of the program's Values.
-/
namespace Go.Proofs.YtdlpmomohbdpgaaGreatDoor
open Go.ChangeShapes Go.WideShapes Go.ChangeAt Go.RowKit Go.Deep
open Terms Tm

set_option maxRecDepth 20000 in
set_option maxHeartbeats 1600000 in
theorem mvalues_loop (va vr : Value) (m : Mo) (code : Int) (w : World) (hB : 0 < w.heap.size) (hT : TabAt w) (hV : ModelV w va vr m) (h : mcode m = 0) (hc : 0 ≤ code ∧ code < prodTo m.vars m.vars.length) :
    Calls Tryz.prog 74 #[.agg #[va, vr], .int .i64 code] w fun e w' => ∃ B, e = .returned (.tuple #[.slice (some ⟨B, 0, none⟩) m.vars.length m.vars.length, .int .i64 0]) ∧ w.heap.size ≤ B ∧ Below w.heap.size w w' ∧ w'.rowIs B 3 m.vars.length (fun j => .int .i64 (valAt m.vars code j)) := by
  have hA : ∀ o, Below w.heap.size w (w.alloc o) := fun o => (Below.refl _ _).alloc (Nat.le_refl _) o
  have hch := fun o => mcheck_any va vr m (w.alloc o) (Nat.lt_of_lt_of_le hB (hA o).size) (hT.below (hA o) hB) (hV.below (hA o))
  rw [h] at hch
  have hok := mcode_vars h
  have HOK : Hid (VarsOk m.vars) := hok
  have h6 := hok.1
  have hcf := (fun w1 (hb : Below w.heap.size w w1) => countOf_any va m.vars w1 hok (hV.1.below hb))
  obtain ⟨ao, cap, rfl⟩ := hV.1.shape
  obtain ⟨ro, rc, rfl⟩ := hV.2.shape
  have HV : Hid (VarsV w (.slice ao m.vars.length cap) m.vars) := hV.1
  have hN := hok.prod (j := m.vars.length) (Nat.le_refl _)
  have HS0 : Hid (segP m.vars m.vars.length = 1) := segP_end _
  obtain ⟨hc1, hc2⟩ := hc
  generalize prodTo m.vars m.vars.length = N at *
  obtain ⟨n, hn⟩ : ∃ n, n = m.vars.length := ⟨_, rfl⟩
  have HN : Hid (n = m.vars.length) := hn
  rw [← hn] at h6 hch hcf HV HS0 ⊢
  generalize m.rules.length = rn at *
  have hmk := run_make_row' (P := Tryz.prog) 40 3 (.int .i64 0) 8 Tryz.underlying40 infoInt rfl .i64 .i64 n (by omega) (by omega)
  clear hV hT hn hok h
  go_enter Tryz.func74, Tryz.ntmps74
  go_wp2_with (first | (go_at_call 72; refine (hch _).mono ?_; rintro e w1 ⟨rfl, hb1⟩; have hcb : w1.cell? ⟨w.heap.size, 0, none⟩ = some (.slice ao n cap) := (hb1.cell (p := ⟨w.heap.size, 0, none⟩) (by simp)).trans (by simp [go_sem]); have hbw := (hA _).trans (hb1.mono (hA _).size); have hs1 : w.heap.size < w1.heap.size := (by have := hb1.size; simp at this; omega)) | (go_at_call 93; refine (hcf _ hbw).mono ?_; rintro e w2 ⟨rfl, hb2⟩; have hcb2 := (hb2.cell (p := ⟨w.heap.size, 0, none⟩) hs1).trans hcb))
  have hbw2 := hbw.trans (hb2.mono hbw.size)
  have hrow0 := World.rowIs_made w2 (.int .i64 0) n 3
  have hs2 := Nat.lt_of_lt_of_le hs1 hb2.size
  have HB2 : Hid (Below w.heap.size w w2) := hbw2
  have hcb3 := hcb2
  clear hch hcf hmk hb1 hb2 hcb hbw hs1 hbw2 hcb2
  go_loopw [1, 8] (fun cd i wr => ∃ k : Nat, k ≤ n ∧ i = .int .i64 ((k : Int) - 1) ∧ cd = .int .i64 (code / segP m.vars k) ∧ Hid (wr.rowIs w2.heap.size 3 n (fun j => if k ≤ j then .int .i64 (valAt m.vars code j) else .int .i64 0)) ∧ Hid (Below w2.heap.size w2 wr)) (fun _ i _ => (intOf i + 1).toNat)
  case atStart => exact ⟨n, Nat.le_refl _, by first | rfl | go_num, by rw [HS0.out]; simp, hrow0.congr (fun i hi => by rw [if_neg (by omega)]), (Below.refl _ _).alloc (Nat.le_refl _) _⟩
  case round =>
    obtain ⟨k, hk, rfl, rfl, HRow, HBel⟩ := hrel
    have hbel := HBel.out
    have hrow := HRow.out
    have hbw := HB2.out.trans (hbel.mono HB2.out.size)
    have hszr := hrow.lt
    have cb := (hbel.cell (p := ⟨w.heap.size, 0, none⟩) hs2).trans hcb3
    by_cases hk0 : 0 < k
    · obtain ⟨k, rfl⟩ : ∃ k', k = k' + 1 := ⟨k - 1, by omega⟩
      rw [show (((k + 1 : Nat) : Int) - 1) = (k : Int) by omega]
      have hlt : k < n := by omega
      obtain ⟨b, off, rfl, hblt, hat⟩ := HV.out.at (i := k) (by rw [← HN.out]; exact hlt)
      obtain ⟨c0, c1, c2, c3⟩ := hat.below hbw hblt
      have hvb := HOK.out.at (j := k) (by rw [← HN.out]; exact hlt)
      have hsg := segP_bounds HOK.out (i := k + 1) (by rw [← HN.out]; exact hlt)
      have HQ : Hid (code / segP m.vars (k + 1) / vspan (m.vars.getD k vr0) = code / segP m.vars k) := quo_step HOK.out code (by rw [← HN.out]; exact hlt)
      have HVa : Hid (valAt m.vars code k = (m.vars.getD k vr0).lo + (code / segP m.vars (k + 1)) % vspan (m.vars.getD k vr0)) := rfl
      have hq0 : 0 ≤ code / segP m.vars (k + 1) := Int.ediv_nonneg hc1 (by omega)
      have hq1 : code / segP m.vars (k + 1) ≤ 4096 := by
        have := Int.ediv_le_self (segP m.vars (k + 1)) hc1; omega
      have hf : wr.frozen? ⟨w2.heap.size, k, none⟩ = false := hrow.frozen k
      have hcl : wr.cell? ⟨w2.heap.size, k, none⟩ = some (.int .i64 0) := by rw [hrow.cell hlt, if_neg (by omega)]
      generalize code / segP m.vars (k + 1) = cd at *
      generalize m.vars.getD k vr0 = x at *
      obtain ⟨s, lo, hi, ini⟩ := x
      simp only [vspan] at c0 c1 c2 c3 HQ HVa hvb
      obtain ⟨hv1, hv2, hv3, hv4, hv5, hv6, hv7⟩ := hvb
      have hsp := fun w => span_any s lo hi ini w hv3 hv4 hv5
      obtain ⟨sp, hspe⟩ : ∃ sp, hi - lo + 1 = sp := ⟨_, rfl⟩
      rw [hspe] at hv1 hv2 hsp HQ HVa
      clear hspe hat
      have hr0 := Int.emod_nonneg cd (show sp ≠ 0 by omega)
      have hr1 := Int.emod_lt_of_pos cd (show 0 < sp by omega)
      have hi0 : (0 : Int) ≤ (k : Int) := Int.natCast_nonneg _
      have hi1 : (k : Int) < (n : Int) := by omega
      have hsz0 : ¬ sp = 0 := by omega
      have hsz1 : (sp == 0) = false := by rw [beq_eq_false_iff_ne]; omega
      have ht : cd.tmod sp = cd % sp := Int.tmod_eq_emod_of_nonneg hq0
      have htd : cd.tdiv sp = cd / sp := Int.tdiv_eq_ediv_of_nonneg hq0
      have hd0 := Int.ediv_nonneg hq0 (show 0 ≤ sp by omega)
      have hd1 := Int.ediv_le_self sp hq0
      have hw0 : IntKind.i64.wrap (cd % sp) = cd % sp := wr64 (by omega) (by omega)
      have hw1 : IntKind.i64.wrap (lo + cd % sp) = lo + cd % sp := wr64 (by omega) (by omega)
      have hbA := hbel.alloc (Nat.le_of_lt hszr) (.cells #[.string s, .int .i64 lo, .int .i64 hi, .int .i64 ini] 112)
      have HBA := (show Hid _ from hbA)
      have hfA := hrow.alloc (.cells #[.string s, .int .i64 lo, .int .i64 hi, .int .i64 ini] 112)
      have HRA := (show Hid _ from hfA)
      have hS0 : ∀ w', Below (wr.heap.size + 1) (wr.alloc (.cells #[.string s, .int .i64 lo, .int .i64 hi, .int .i64 ini] 112)) w' → w'.cell? ⟨wr.heap.size, 0, none⟩ = some (.string s) ∧ w'.cell? ⟨wr.heap.size, 1, none⟩ = some (.int .i64 lo) ∧ w'.cell? ⟨wr.heap.size, 2, none⟩ = some (.int .i64 hi) ∧ w'.cell? ⟨wr.heap.size, 3, none⟩ = some (.int .i64 ini) := fun w' hw' =>
        ⟨(hw'.cell (p := ⟨wr.heap.size, 0, none⟩) (by simp)).trans (by simp [go_sem]), (hw'.cell (p := ⟨wr.heap.size, 1, none⟩) (by simp)).trans (by simp [go_sem]), (hw'.cell (p := ⟨wr.heap.size, 2, none⟩) (by simp)).trans (by simp [go_sem]), (hw'.cell (p := ⟨wr.heap.size, 3, none⟩) (by simp)).trans (by simp [go_sem])⟩
      have hne : ∀ j : Nat, (⟨wr.heap.size, j, none⟩ : Addr) ≠ ⟨w2.heap.size, k, none⟩ := fun j h => by injection h with h1; omega
      have hS1 : ∀ w' v, Below (wr.heap.size + 1) (wr.alloc (.cells #[.string s, .int .i64 lo, .int .i64 hi, .int .i64 ini] 112)) w' → (w'.setCell ⟨w2.heap.size, k, none⟩ v).cell? ⟨wr.heap.size, 0, none⟩ = some (.string s) ∧ (w'.setCell ⟨w2.heap.size, k, none⟩ v).cell? ⟨wr.heap.size, 1, none⟩ = some (.int .i64 lo) ∧ (w'.setCell ⟨w2.heap.size, k, none⟩ v).cell? ⟨wr.heap.size, 2, none⟩ = some (.int .i64 hi) ∧ (w'.setCell ⟨w2.heap.size, k, none⟩ v).cell? ⟨wr.heap.size, 3, none⟩ = some (.int .i64 ini) := fun w' v hw' => by
        obtain ⟨a0, a1, a2, a3⟩ := hS0 w' hw'
        exact ⟨(World.cell?_setCell_other _ _ _ _ (hne 0).symm).trans a0, (World.cell?_setCell_other _ _ _ _ (hne 1).symm).trans a1, (World.cell?_setCell_other _ _ _ _ (hne 2).symm).trans a2, (World.cell?_setCell_other _ _ _ _ (hne 3).symm).trans a3⟩
      have hB0 : Below (wr.heap.size + 1) (wr.alloc (.cells #[.string s, .int .i64 lo, .int .i64 hi, .int .i64 ini] 112)) (wr.alloc (.cells #[.string s, .int .i64 lo, .int .i64 hi, .int .i64 ini] 112)).drew := (Below.refl _ _).drew
      have hrw := fun w' (hw' : Below (wr.heap.size + 1) (wr.alloc (.cells #[.string s, .int .i64 lo, .int .i64 hi, .int .i64 ini] 112)) w') => hfA.of_block (hw'.block w2.heap.size (by omega))
      have hcf3 : ∀ w', Below (wr.heap.size + 1) (wr.alloc (.cells #[.string s, .int .i64 lo, .int .i64 hi, .int .i64 ini] 112)) w' → w'.frozen? ⟨w2.heap.size, k, none⟩ = false ∧ w'.cell? ⟨w2.heap.size, k, none⟩ = some (.int .i64 0) := fun w' hw' => ⟨(hrw w' hw').frozen k, by rw [(hrw w' hw').cell hlt, if_neg (by omega)]⟩
      have HRw := (show Hid _ from hrw)
      clear hfA hbA hrw hbel hrow hbw
      go_wp2_with fail
      go_region_held3 (fun w' => w'.cell? ⟨wr.heap.size, 0, none⟩ = some (.string s) ∧ w'.cell? ⟨wr.heap.size, 1, none⟩ = some (.int .i64 lo) ∧ w'.cell? ⟨wr.heap.size, 2, none⟩ = some (.int .i64 hi) ∧ w'.cell? ⟨wr.heap.size, 3, none⟩ = some (.int .i64 ini))
        (first | exact hS0 _ hB0 | exact hS0 _ (hB0.trans (hb3.mono (by simp))) | exact hS1 _ _ (hB0.trans (hb3.mono (by simp))))
        (first | (go_at_call 92; refine (hsp _).mono ?_; rintro e w3 ⟨rfl, hb3⟩; obtain ⟨hf3, hc3⟩ := hcf3 _ (hB0.trans (hb3.mono (by simp)))))
      have hB3 := hB0.trans (hb3.mono (by simp))
      obtain ⟨e0, e1, e2, e3⟩ := hS1 w3 (.int .i64 (lo + cd % sp)) hB3
      have hs3 : wr.heap.size < w3.heap.size := by have := hb3.size; simp at this; omega
      have hrow4 : ∀ w4, Below w3.heap.size (w3.setCell ⟨w2.heap.size, k, none⟩ (.int .i64 (lo + cd % sp))) w4 → w4.rowIs w2.heap.size 3 n (fun j => if k ≤ j then .int .i64 (valAt m.vars code j) else .int .i64 0) ∧ Below w2.heap.size w2 w4 := fun w4 h4 => by
        refine ⟨(((HRw.out w3 hB3).set k (.int .i64 (lo + cd % sp))).of_block (h4.block w2.heap.size (by omega))).congr fun j hj => ?_, ?_⟩
        · by_cases hjk : j = k
          · subst hjk; rw [if_pos rfl, if_pos (Nat.le_refl _), HVa.out]
          · rw [if_neg hjk]
            by_cases hkj : k + 1 ≤ j
            · rw [if_pos hkj, if_pos (by omega)]
            · rw [if_neg hkj, if_neg (by omega)]
        · exact ((HBA.out.trans (hB3.mono (by omega))).setCell (by simp) _).trans (h4.mono (by omega))
      have HR4 := (show Hid _ from hrow4)
      clear hrow4 hf hcl hf3 hc3 hcf3 hS0 hS1
      go_wp2_with (go_at_call 92; refine (hsp _).mono ?_; rintro e w4 ⟨rfl, hb4⟩)
      have hb4' : Below w3.heap.size (w3.setCell ⟨w2.heap.size, k, none⟩ (.int .i64 (lo + cd % sp))) w4 := hb4.mono (by simp)
      go_roundw
      case rel => exact ⟨k, by omega, by first | rfl | go_num, by rw [← HQ.out], (HR4.out _ hb4').1, (HR4.out _ hb4').2⟩
      case measure => simp [intOf]
    · have hk0 : k = 0 := by omega
      subst hk0
      go_wp2
      go_ret2
      exact ⟨w2.heap.size, rfl, HB2.out.size, hbw, hrow.congr (fun i hi => by rw [if_pos (by omega)])⟩
set_option maxRecDepth 20000 in
theorem mvalues_bad (va vr : Value) (m : Mo) (code : Int) (w : World) (hB : 0 < w.heap.size) (hT : TabAt w) (hV : ModelV w va vr m) (h : mcode m ≠ 0) :
    Calls Tryz.prog 74 #[.agg #[va, vr], .int .i64 code] w fun e w' => e = .returned (.tuple #[.slice none 0 0, .int .i64 (mcode m)]) ∧ Below w.heap.size w w' := by
  have hA : ∀ o, Below w.heap.size w (w.alloc o) := fun o => (Below.refl _ _).alloc (Nat.le_refl _) o
  have hch := fun o => mcheck_any va vr m (w.alloc o) (Nat.lt_of_lt_of_le hB (hA o).size) (hT.below (hA o) hB) (hV.below (hA o))
  obtain ⟨ao, cap, rfl⟩ := hV.1.shape
  obtain ⟨ro, rc, rfl⟩ := hV.2.shape
  generalize mcode m = x at *
  generalize m.vars.length = n at *
  generalize m.rules.length = rn at *
  clear hV hT
  go_enter Tryz.func74, Tryz.ntmps74
  go_wp2_with (go_at_call 72; refine (hch _).mono ?_; rintro e w1 ⟨rfl, hb1⟩)
  go_ret2
  exact ⟨rfl, (hA _).trans (hb1.mono (hA _).size)⟩
set_option maxRecDepth 20000 in
theorem mvalues_no (va vr : Value) (m : Mo) (code : Int) (w : World) (hB : 0 < w.heap.size) (hT : TabAt w) (hV : ModelV w va vr m) (h : mcode m = 0) (hc : ¬ (0 ≤ code ∧ code < prodTo m.vars m.vars.length)) :
    Calls Tryz.prog 74 #[.agg #[va, vr], .int .i64 code] w fun e w' => e = .returned (.tuple #[.slice none 0 0, .int .i64 9]) ∧ Below w.heap.size w w' := by
  have hA : ∀ o, Below w.heap.size w (w.alloc o) := fun o => (Below.refl _ _).alloc (Nat.le_refl _) o
  have hch := fun o => mcheck_any va vr m (w.alloc o) (Nat.lt_of_lt_of_le hB (hA o).size) (hT.below (hA o) hB) (hV.below (hA o))
  rw [h] at hch
  have hok := mcode_vars h
  have hcf := (fun w1 (hb : Below w.heap.size w w1) => countOf_any va m.vars w1 hok (hV.1.below hb))
  obtain ⟨ao, cap, rfl⟩ := hV.1.shape
  obtain ⟨ro, rc, rfl⟩ := hV.2.shape
  have hN := hok.prod (j := m.vars.length) (Nat.le_refl _)
  generalize prodTo m.vars m.vars.length = N at *
  generalize m.vars.length = n at *
  generalize m.rules.length = rn at *
  clear hV hT hok h
  by_cases h0 : code < 0
  · clear hc
    go_enter Tryz.func74, Tryz.ntmps74
    go_wp2_with (go_at_call 72; refine (hch _).mono ?_; rintro e w1 ⟨rfl, hb1⟩)
    go_ret2
    exact ⟨rfl, (hA _).trans (hb1.mono (hA _).size)⟩
  · have h1 : N ≤ code := by omega
    clear hc
    go_enter Tryz.func74, Tryz.ntmps74
    go_wp2_with (first | (go_at_call 72; refine (hch _).mono ?_; rintro e w1 ⟨rfl, hb1⟩; have hcb : w1.cell? ⟨w.heap.size, 0, none⟩ = some (.slice ao n cap) := (hb1.cell (p := ⟨w.heap.size, 0, none⟩) (by simp)).trans (by simp [go_sem]); have hbw := (hA _).trans (hb1.mono (hA _).size)) | (go_at_call 93; refine (hcf _ hbw).mono ?_; rintro e w2 ⟨rfl, hb2⟩))
    go_ret2
    exact ⟨rfl, hbw.trans (hb2.mono hbw.size)⟩

set_option maxRecDepth 20000 in
/-- THE CONTRACT OF Values. -/
theorem mvalues_any (va vr : Value) (m : Mo) (code : Int) (w : World) (hB : 0 < w.heap.size) (hT : TabAt w) (hV : ModelV w va vr m) :
    Calls Tryz.prog 74 #[.agg #[va, vr], .int .i64 code] w fun e w' => ∃ v, e = .returned (.tuple #[v, .int .i64 (wcode m code)]) ∧ Below w.heap.size w w' ∧ IntsV w' v (wvals m code) := by
  by_cases h : mcode m = 0
  · by_cases hc : 0 ≤ code ∧ code < prodTo m.vars m.vars.length
    · have h0 := wcode_yes h hc
      unfold wvals
      rw [h0, if_pos rfl]
      exact (mvalues_loop va vr m code w hB hT hV h hc).mono fun e w' ⟨B, he, _, hb, hr⟩ => ⟨_, he, hb, intsV_of_row hr⟩
    · have h0 := wcode_no h hc
      unfold wvals
      rw [h0, if_neg (by decide)]
      exact (mvalues_no va vr m code w hB hT hV h hc).mono fun e w' ⟨he, hb⟩ => ⟨_, he, hb, none, 0, rfl, fun h => absurd rfl h⟩
  · have h0 := wcode_bad (code := code) h
    unfold wvals
    rw [h0, if_neg h]
    exact (mvalues_bad va vr m code w hB hT hV h).mono fun e w' ⟨he, hb⟩ => ⟨_, he, hb, none, 0, rfl, fun h => absurd rfl h⟩
end Go.Proofs.YtdlpmomohbdpgaaGreatDoor

/-
  The contract of step.After.
-/
namespace Go.Proofs.YtdlpmomohbdpgaaGreatDoor
open Go.ChangeShapes Go.WideShapes Go.ChangeAt Go.RowKit Go.Deep
open Terms Tm

/-- what After answers. -/
noncomputable def aftN (m : Mo) (code rule : Int) : Int := if wcode m code = 0 then (if 0 ≤ rule ∧ rule < m.rules.length then optN (ruleDo m.vars (valsL m.vars code) (m.rules.getD rule.toNat ru0)) else 0) else 0
noncomputable def aftC (m : Mo) (code rule : Int) : Int := if wcode m code = 0 then (if 0 ≤ rule ∧ rule < m.rules.length then optC (ruleDo m.vars (valsL m.vars code) (m.rules.getD rule.toNat ru0)) else 2) else wcode m code
theorem wcode_zero {m : Mo} {code : Int} (h : wcode m code = 0) : mcode m = 0 ∧ 0 ≤ code ∧ code < prodTo m.vars m.vars.length := by
  unfold wcode at h
  split at h
  · rename_i h1
    split at h
    · rename_i h2; exact ⟨h1, h2⟩
    · cases h
  · rename_i h1; exact absurd h h1
/-- THE CONTRACT OF Values, where there are some: a block of their own. -/
theorem svalues_any (va vr : Value) (m : Mo) (code : Int) (w : World) (hB : 0 < w.heap.size) (hT : TabAt w) (hV : ModelV w va vr m) (h : wcode m code = 0) :
    Calls Tryz.prog 74 #[.agg #[va, vr], .int .i64 code] w fun e w' => ∃ B, e = .returned (.tuple #[.slice (some ⟨B, 0, none⟩) (valsL m.vars code).length (valsL m.vars code).length, .int .i64 0]) ∧ w.heap.size ≤ B ∧ Below w.heap.size w w' ∧ w'.rowIs B 3 (valsL m.vars code).length (fun j => .int .i64 ((valsL m.vars code).getD j 0)) := by
  obtain ⟨h1, h2⟩ := wcode_zero h
  refine (mvalues_loop va vr m code w hB hT hV h1 h2).mono fun e w' ⟨B, he, hl, hb, hr⟩ => ?_
  rw [← valsL_length m.vars code] at he hr
  refine ⟨B, he, hl, hb, hr.congr fun j hj => ?_⟩
  rw [valsL_length] at hj
  simp [valsL, List.getD_eq_getElem?_getD, hj]

end Go.Proofs.YtdlpmomohbdpgaaGreatDoor

/-
  The contract of step.Letter.
-/
namespace Go.Proofs.YtdlpmomohbdpgaaGreatDoor
open Go.ChangeShapes Go.WideShapes Go.ChangeAt Go.RowKit Go.Deep
open Terms Tm

/-- what Letter answers. -/
noncomputable def letC (m : Mo) (ps : List (List (Int × Int))) (code : Int) : Int := if pcode m ps = 0 then wcode m code else pcode m ps
noncomputable def letL (m : Mo) (ps : List (List (Int × Int))) (code : Int) : List Bool := if letC m ps code = 0 then ps.map (fun p => holdsB p (valsL m.vars code)) else []
/-- a slice's row has elements of that type. -/
def RowTy (w : World) (v : Value) (t : TypeId) : Prop := ∀ a n c, v = .slice (some a) n c → ∃ cs fr, w.heap[a.block]? = some (.cells cs t fr)
theorem RowTy.nil (w : World) (t : TypeId) : RowTy w (.slice none 0 0) t := fun a n c e => by simp at e
theorem pcode_m {m : Mo} {ps : List (List (Int × Int))} (h : pcode m ps = 0) : mcode m = 0 ∧ ps.length ≤ 6 := by
  unfold pcode at h
  split at h
  · rename_i h1
    split at h
    · simp at h
    · exact ⟨h1, by omega⟩
  · rename_i h1; exact absurd h h1
theorem wcode_bare {m : Mo} (code : Int) (h : mcode m = 0) : wcode ⟨m.vars, []⟩ code = wcode m code := by
  unfold wcode
  rw [if_pos h, if_pos (mcode_bare h)]

set_option maxHeartbeats 3200000 in
set_option maxRecDepth 20000 in
/-- THE CONTRACT OF Letter. -/
theorem letter_own (va vr pv : Value) (m : Mo) (ps : List (List (Int × Int))) (code : Int) (w : World) (hB : 0 < w.heap.size) (hT : TabAt w) (hV : ModelV w va vr m) (hP : TermsV w pv ps) :
    Calls Tryz.prog 53 #[.agg #[va, vr], pv, .int .i64 code] w fun e w' => ∃ v, e = .returned (.tuple #[v, .int .i64 (letC m ps code)]) ∧ Below w.heap.size w w' ∧ BoolsV w' v (letL m ps code) ∧ RowTy w' v 4 := by
  have hA : ∀ o, Below w.heap.size w (w.alloc o) := fun o => (Below.refl _ _).alloc (Nat.le_refl _) o
  have hpr := fun o => mprops_any va vr pv m ps (w.alloc o) (Nat.lt_of_lt_of_le hB (hA o).size) (hT.below (hA o) hB) (hV.below (hA o)) (hP.below (hA o))
  obtain ⟨ao, cap, rfl⟩ := hV.1.shape
  obtain ⟨ro, rc, rfl⟩ := hV.2.shape
  obtain ⟨po, pc, rfl, hPa⟩ := hP
  have hba := fun w => bare_any ao ro m.vars.length cap m.rules.length rc w
  by_cases hp : pcode m ps = 0
  · obtain ⟨hm, hp6⟩ := pcode_m hp
    rw [hp] at hpr
    have hVb : ∀ w', Below w.heap.size w w' → ModelV w' (.slice ao m.vars.length cap) (.slice none 0 0) ⟨m.vars, []⟩ := fun w' hb => ⟨hV.1.below hb, ⟨none, 0, rfl, ⟨by simp, fun _ => ⟨rfl, rfl⟩⟩, fun h => by simp at h⟩⟩
    by_cases hw : wcode m code = 0
    · have hlc : letC m ps code = 0 := by unfold letC; rw [if_pos hp, hw]
      have hll : letL m ps code = ps.map (fun p => holdsB p (valsL m.vars code)) := by unfold letL; rw [if_pos hlc]
      rw [hlc, hll]
      have hvl := fun w' (hb : Below w.heap.size w w') => svalues_any _ _ ⟨m.vars, []⟩ code w' (Nat.lt_of_lt_of_le hB hb.size) (hT.below hb hB) (hVb w' hb) (by rw [wcode_bare _ hm]; exact hw)
      have hvl2 : ∀ w', Below w.heap.size w w' → Calls Tryz.prog 74 #[.agg #[.slice ao m.vars.length cap, .slice none 0 0], .int .i64 code] w' fun e w2 => ∃ B, e = .returned (.tuple #[.slice (some ⟨B, 0, none⟩) (valsL m.vars code).length (valsL m.vars code).length, .int .i64 0]) ∧ w'.heap.size ≤ B ∧ Below w'.heap.size w' w2 ∧ w2.rowIs B 3 (valsL m.vars code).length (fun j => .int .i64 ((valsL m.vars code).getD j 0)) := hvl
      generalize valsL m.vars code = env at hvl2 ⊢
      have HHo : Hid (∀ w' (_ : Below w.heap.size w w') v ev l, OpsV w' v l → IntsV w' ev env → Calls Tryz.prog 76 #[v, ev] w' fun e w2 => e = .returned (.bool (holdsB l env)) ∧ Below w'.heap.size w' w2) := fun w' hb v ev l h1 h2 => sholds_any v ev l env w' (Nat.lt_of_lt_of_le hB hb.size) (hT.below hb hB) h1 h2
      have HP : Hid (ps ≠ [] → ∃ b off, po = some ⟨b, off, none⟩ ∧ b < w.heap.size ∧ ∀ i, i < ps.length → ∃ u, w.cell? ⟨b, off + i, none⟩ = some u ∧ OpsV w u (ps.getD i [])) := hPa
      have HML : Hid ((ps.map (fun p => holdsB p env)).length = ps.length ∧ ∀ i, i < ps.length → (ps.map (fun p => holdsB p env)).getD i false = holdsB (ps.getD i []) env) := ⟨by simp, fun i hi => by simp [List.getD_eq_getElem?_getD, hi]⟩
      generalize ps.map (fun p => holdsB p env) = lt at HML ⊢
      obtain ⟨pn, hpn⟩ : ∃ pn, pn = ps.length := ⟨_, rfl⟩
      have HPN : Hid (pn = ps.length) := hpn
      rw [← hpn] at hpr hp6 HP HML ⊢
      generalize m.vars.length = n at *
      generalize m.rules.length = rn at *
      have hmk := run_make_row' (P := Tryz.prog) 61 4 (.bool false) 1 Tryz.underlying61 infoBool rfl .i64 .i64 pn (by omega) (by omega)
      clear hV hT hVb hlc hll hPa hvl hpn hw hm hp
      go_enter Tryz.func53, Tryz.ntmps53
      go_wp2_with (first | (go_at_call 57; refine (hpr _).mono ?_; rintro e w1 ⟨rfl, hb1⟩; have hbw1 := (hA _).trans (hb1.mono (hA _).size); have k10 : w1.cell? ⟨w.heap.size, 0, none⟩ = some (.slice ao n cap) := (hb1.cell (p := ⟨w.heap.size, 0, none⟩) (by simp)).trans (by simp [go_sem]); have k11 : w1.cell? ⟨w.heap.size, 1, none⟩ = some (.slice ro rn rc) := (hb1.cell (p := ⟨w.heap.size, 1, none⟩) (by simp)).trans (by simp [go_sem])) | (go_at_call 75; refine (hba _).mono ?_; rintro e w2 ⟨rfl, hb2⟩; have hbw2 := hbw1.trans (hb2.mono hbw1.size)) | (go_at_call 74; refine (hvl2 _ hbw2).mono ?_; rintro e w3 ⟨B, rfl, hBl, hb3, hr3⟩))
      have hbw3 := hbw2.trans (hb3.mono hbw2.size)
      have hrow0 := World.rowIs_made w3 (.bool false) pn 4
      have HI3 : Hid (∀ w', Below w3.heap.size w3 w' → IntsV w' (.slice (some ⟨B, 0, none⟩) env.length env.length) env) := fun w' hb => by
        have h1 := intsV_of_row hr3
        have e1 : (List.range env.length).map (fun j => env.getD j 0) = env := by
          apply List.ext_getElem?
          intro i
          by_cases hi : i < env.length
          · simp [hi, List.getD_eq_getElem?_getD]
          · simp [hi]
        rw [e1] at h1
        exact h1.below hb
      have HB3 : Hid (Below w.heap.size w w3) := hbw3
      clear hpr hvl2 hba hmk hb1 hbw1 k10 k11 hb2 hbw2 hb3 hr3 hbw3 hBl
      go_loopw [35] (fun i wr => ∃ k : Nat, k ≤ pn ∧ i = .int .i64 k ∧ Hid (wr.rowIs w3.heap.size 4 pn (fun j => if j < k then .bool (lt.getD j false) else .bool false)) ∧ Hid (Below w3.heap.size w3 wr)) (fun i _ => pn - (intOf i).toNat)
      case atStart => exact ⟨0, Nat.zero_le _, rfl, hrow0.congr (fun i hi => by rw [if_neg (by omega)]), (Below.refl _ _).alloc (Nat.le_refl _) _⟩
      case round =>
        obtain ⟨k, hk, rfl, HRow, HBel⟩ := hrel
        have hbel := HBel.out
        have hbw := HB3.out.trans (hbel.mono HB3.out.size)
        by_cases hlt : k < pn
        · obtain ⟨b, off, rfl, hblt, hat⟩ := HP.out (by intro h; have := HPN.out; subst h; simp at this; omega)
          obtain ⟨u, hu, hou⟩ := hat k hlt
          have c0 := (hbel.cell (p := ⟨b, off + k, none⟩) (Nat.lt_of_lt_of_le hblt HB3.out.size)).trans ((HB3.out.cell (p := ⟨b, off + k, none⟩) hblt).trans hu)
          obtain ⟨uo, uc, rfl⟩ := hou.shape
          have hho := HHo.out wr hbw _ _ _ (hou.below hbw) (HI3.out wr hbel)
          have HLk := (show Hid _ from HML.out.2 k hlt)
          generalize holdsB (ps.getD k []) env = tv at hho HLk
          generalize (ps.getD k []).length = ul at *
          have HWr : Hid (∀ w4, Below wr.heap.size wr w4 → w4.rowIs w3.heap.size 4 pn (fun j => if j < k then .bool (lt.getD j false) else .bool false) ∧ Below w3.heap.size w3 w4) := fun w4 hb => ⟨row_later HRow.out hb, hbel.trans (hb.mono hbel.size)⟩
          clear hat hu hou hbel hbw HHo HI3 HP HML
          go_wp2_with (go_at_call 76; refine hho.mono ?_; rintro e w4 ⟨rfl, hb4⟩; obtain ⟨hr4, hb34⟩ := HWr.out w4 hb4; have hf := hr4.frozen k; have hc : w4.cell? ⟨w3.heap.size, k, none⟩ = some (.bool false) := (by rw [hr4.cell hlt, if_neg (by omega)]); have HR4 : Hid (w4.rowIs w3.heap.size 4 pn (fun j => if j < k then .bool (lt.getD j false) else .bool false)) := hr4; clear hr4)
          refine ⟨⟨k + 1, hlt, by first | rfl | simp, (HR4.out.set k (.bool tv)).congr fun i hi => ?_, hb34.setCell (Nat.le_refl _) _⟩, by simp [intOf]; omega⟩
          by_cases hik : i = k
          · subst hik; rw [if_pos rfl, if_pos (by omega), HLk.out]
          · rw [if_neg hik]
            by_cases hlk : i < k
            · rw [if_pos hlk, if_pos (by omega)]
            · rw [if_neg hlk, if_neg (by omega)]
        · have hkn : k = pn := by omega
          subst hkn
          have hrow := HRow.out.congr (g := fun j => .bool (lt.getD j false)) (fun i hi => by rw [if_pos hi])
          rw [← HML.out.1] at hrow
          have hbo := boolsV_of_row hrow
          rw [HML.out.1] at hbo
          have HBO := (show Hid _ from hbo)
          have HTy : Hid (RowTy wr (.slice (some ⟨w3.heap.size, 0, none⟩) k k) 4) := by
            intro a n c e
            injection e with e _ _
            injection e with e
            subst e
            obtain ⟨cs, hcs, _⟩ := HRow.out
            exact ⟨cs, (0, 0), hcs⟩
          clear hrow hbo
          go_wp2_with fail
          go_ret2
          exact ⟨_, rfl, hbw, HBO.out, HTy.out⟩
    · have hlc : letC m ps code = wcode m code := by unfold letC; rw [if_pos hp]
      have hll : letL m ps code = [] := by unfold letL; rw [if_neg (by rw [hlc]; exact hw)]
      rw [hlc, hll]
      have hvl := fun w' (hb : Below w.heap.size w w') => mvalues_any _ _ ⟨m.vars, []⟩ code w' (Nat.lt_of_lt_of_le hB hb.size) (hT.below hb hB) (hVb w' hb)
      rw [wcode_bare _ hm] at hvl
      generalize wcode m code = c at *
      generalize wvals ⟨m.vars, []⟩ code = vs at *
      generalize m.vars.length = n at *
      generalize m.rules.length = rn at *
      generalize ps.length = pn at *
      clear hV hT hVb hlc hll hPa
      go_enter Tryz.func53, Tryz.ntmps53
      go_wp2_with (first | (go_at_call 57; refine (hpr _).mono ?_; rintro e w1 ⟨rfl, hb1⟩; have hbw1 := (hA _).trans (hb1.mono (hA _).size); have k10 : w1.cell? ⟨w.heap.size, 0, none⟩ = some (.slice ao n cap) := (hb1.cell (p := ⟨w.heap.size, 0, none⟩) (by simp)).trans (by simp [go_sem]); have k11 : w1.cell? ⟨w.heap.size, 1, none⟩ = some (.slice ro rn rc) := (hb1.cell (p := ⟨w.heap.size, 1, none⟩) (by simp)).trans (by simp [go_sem])) | (go_at_call 75; refine (hba _).mono ?_; rintro e w2 ⟨rfl, hb2⟩; have hbw2 := hbw1.trans (hb2.mono hbw1.size)) | (go_at_call 74; refine (hvl _ hbw2).mono ?_; rintro e w3 ⟨v, rfl, hb3, _⟩))
      go_ret2
      exact ⟨_, rfl, hbw2.trans (hb3.mono hbw2.size), ⟨none, 0, rfl, fun h => absurd rfl h⟩, RowTy.nil _ _⟩
  · have hlc : letC m ps code = pcode m ps := by unfold letC; rw [if_neg hp]
    have hll : letL m ps code = [] := by unfold letL; rw [if_neg (by rw [hlc]; exact hp)]
    rw [hlc, hll]
    generalize pcode m ps = c at *
    generalize m.vars.length = n at *
    generalize m.rules.length = rn at *
    generalize ps.length = pn at *
    clear hV hT hlc hll hPa
    go_enter Tryz.func53, Tryz.ntmps53
    go_wp2_with (go_at_call 57; refine (hpr _).mono ?_; rintro e w1 ⟨rfl, hb1⟩)
    go_ret2
    exact ⟨_, rfl, (hA _).trans (hb1.mono (hA _).size), ⟨none, 0, rfl, fun h => absurd rfl h⟩, RowTy.nil _ _⟩
theorem letter_any (va vr pv : Value) (m : Mo) (ps : List (List (Int × Int))) (code : Int) (w : World) (hB : 0 < w.heap.size) (hT : TabAt w) (hV : ModelV w va vr m) (hP : TermsV w pv ps) :
    Calls Tryz.prog 53 #[.agg #[va, vr], pv, .int .i64 code] w fun e w' => ∃ v, e = .returned (.tuple #[v, .int .i64 (letC m ps code)]) ∧ Below w.heap.size w w' ∧ BoolsV w' v (letL m ps code) :=
  (letter_own va vr pv m ps code w hB hT hV hP).mono fun _ _ ⟨v, h1, h2, h3, _⟩ => ⟨v, h1, h2, h3⟩
end Go.Proofs.YtdlpmomohbdpgaaGreatDoor

/-
  The contract of the program's First.
-/
namespace Go.Proofs.YtdlpmomohbdpgaaGreatDoor
open Go.ChangeShapes Go.WideShapes Go.ChangeAt Go.RowKit Go.Deep
open Terms Tm

set_option maxRecDepth 20000 in
theorem initsL_length (l : List Vr) : (initsL l).length = l.length := by simp [initsL]
set_option maxRecDepth 20000 in
theorem initsL_get {l : List Vr} {i : Nat} (h : i < l.length) : (initsL l).getD i 0 = (l.getD i vr0).ini := by
  simp [initsL, List.getD_eq_getElem?_getD, h]

set_option maxRecDepth 20000 in
set_option maxHeartbeats 1600000 in
theorem mfirst_loop (va vr : Value) (m : Mo) (w : World) (hB : 0 < w.heap.size) (hT : TabAt w) (hV : ModelV w va vr m) (h : mcode m = 0) :
    Calls Tryz.prog 52 #[.agg #[va, vr]] w fun e w' => e = .returned (.tuple #[.int .i64 (codeTo m.vars (initsL m.vars) m.vars.length), .int .i64 0]) ∧ Below w.heap.size w w' := by
  have hA : ∀ o, Below w.heap.size w (w.alloc o) := fun o => (Below.refl _ _).alloc (Nat.le_refl _) o
  have hch := fun o => mcheck_any va vr m (w.alloc o) (Nat.lt_of_lt_of_le hB (hA o).size) (hT.below (hA o) hB) (hV.below (hA o))
  rw [h] at hch
  have hok := mcode_vars h
  have h6 := hok.1
  have hcf := (fun vv w1 (hb : Below w.heap.size w w1) (hI : IntsV w1 vv (initsL m.vars)) => codeOf_any va vv m.vars (initsL m.vars) w1 hok (initsL_length _) (inits_in hok) (hV.1.below hb) hI)
  obtain ⟨ao, cap, rfl⟩ := hV.1.shape
  obtain ⟨ro, rc, rfl⟩ := hV.2.shape
  have HCF := (show Hid _ from hcf)
  have HV : Hid (VarsV w (.slice ao m.vars.length cap) m.vars) := hV.1
  have HIn : Hid (∀ i, i < m.vars.length → (initsL m.vars).getD i 0 = (m.vars.getD i vr0).ini) := fun i hi => initsL_get hi
  have HLn : Hid ((initsL m.vars).length = m.vars.length) := initsL_length _
  generalize codeTo m.vars (initsL m.vars) m.vars.length = res at *
  obtain ⟨n, hn⟩ : ∃ n, n = m.vars.length := ⟨_, rfl⟩
  have HN : Hid (n = m.vars.length) := hn
  rw [← hn] at h6 hch HCF HV HIn HLn ⊢
  generalize m.rules.length = rn at *
  have hmk := run_make_row' (P := Tryz.prog) 40 3 (.int .i64 0) 8 Tryz.underlying40 infoInt rfl .i64 .i64 n (by omega) (by omega)
  clear hV hT hn hok h hcf
  go_enter Tryz.func52, Tryz.ntmps52
  go_wp2_with (go_at_call 72; refine (hch _).mono ?_; rintro e w1 ⟨rfl, hb1⟩; have hcb : w1.cell? ⟨w.heap.size, 0, none⟩ = some (.slice ao n cap) := (hb1.cell (p := ⟨w.heap.size, 0, none⟩) (by simp)).trans (by simp [go_sem]); have hs1 : w.heap.size < w1.heap.size := (by have := hb1.size; simp at this; omega); have hcbA : ∀ o, (w1.alloc o).cell? ⟨w.heap.size, 0, none⟩ = some (.slice ao n cap) := (fun o => (((Below.refl w1.heap.size w1).alloc (Nat.le_refl _) o).cell (p := ⟨w.heap.size, 0, none⟩) hs1).trans hcb))
  have hbw := (hA _).trans (hb1.mono (hA _).size)
  have hrow0 := World.rowIs_made w1 (.int .i64 0) n 3
  have HB1 : Hid (Below w.heap.size w w1) := hbw
  clear hch hmk hb1 hbw hcbA
  go_loopw [20] (fun i wr => ∃ k : Nat, k ≤ n ∧ i = .int .i64 k ∧ Hid (wr.rowIs w1.heap.size 3 n (fun j => if j < k then .int .i64 ((initsL m.vars).getD j 0) else .int .i64 0)) ∧ Hid (Below w1.heap.size w1 wr)) (fun i _ => n - (intOf i).toNat)
  case atStart => exact ⟨0, Nat.zero_le _, rfl, hrow0.congr (fun i hi => by rw [if_neg (by omega)]), (Below.refl _ _).alloc (Nat.le_refl _) _⟩
  case round =>
    obtain ⟨k, hk, rfl, HRow, HBel⟩ := hrel
    have hbel := HBel.out
    have hrow := HRow.out
    have hbw := HB1.out.trans (hbel.mono HB1.out.size)
    have hszr := hrow.lt
    have cb := (hbel.cell (p := ⟨w.heap.size, 0, none⟩) hs1).trans hcb
    by_cases hlt : k < n
    · obtain ⟨b, off, rfl, hblt, hat⟩ := HV.out.at (i := k) (by rw [← HN.out]; exact hlt)
      obtain ⟨c0, c1, c2, c3⟩ := hat.below hbw hblt
      have HIk := (show Hid _ from HIn.out k hlt)
      have hA2 := fun o => hrow.alloc o
      have hf : ∀ o, (wr.alloc o).frozen? ⟨w1.heap.size, k, none⟩ = false := fun o => (hA2 o).frozen k
      have hcl : ∀ o, (wr.alloc o).cell? ⟨w1.heap.size, k, none⟩ = some (.int .i64 0) := fun o => by rw [(hA2 o).cell hlt, if_neg (by omega)]
      generalize m.vars.getD k vr0 = x at *
      obtain ⟨s, lo, hi, ini⟩ := x
      simp only at c0 c1 c2 c3 HIk
      have hfin : (((wr.setCell ⟨w1.heap.size, k, none⟩ (.int .i64 ini)).alloc (.cells #[.string s, .int .i64 lo, .int .i64 hi, .int .i64 ini] 112)).rowIs w1.heap.size 3 n (fun j => if j < k + 1 then .int .i64 ((initsL m.vars).getD j 0) else .int .i64 0)) := ((hrow.set k (.int .i64 ini)).alloc _).congr fun j hj => by
        by_cases hjk : j = k
        · subst hjk; rw [if_pos rfl, if_pos (by omega), HIk.out]
        · rw [if_neg hjk]
          by_cases hlk : j < k
          · rw [if_pos hlk, if_pos (by omega)]
          · rw [if_neg hlk, if_neg (by omega)]
      have hbA := (hbel.setCell (p := ⟨w1.heap.size, k, none⟩) (Nat.le_refl _) (.int .i64 ini)).alloc (by simp; omega) (.cells #[.string s, .int .i64 lo, .int .i64 hi, .int .i64 ini] 112)
      have HF := (show Hid _ from hfin)
      have HBA := (show Hid _ from hbA)
      have hfs := hf (.cells #[.string s, .int .i64 lo, .int .i64 hi, .int .i64 ini] 112)
      have hcs := hcl (.cells #[.string s, .int .i64 lo, .int .i64 hi, .int .i64 ini] 112)
      clear hat hA2 hf hcl hfin hbA hrow hbel hrow0
      go_wp2_with fail
      go_roundw
      case rel => exact ⟨k + 1, hlt, by go_num, HF.out, HBA.out⟩
      case measure => simp [intOf]; omega
    · have hkn : k = n := by omega
      subst hkn
      have hI : IntsV wr (.slice (some ⟨w1.heap.size, 0, none⟩) k k) (initsL m.vars) := by
        have := intsV_of_row (hrow.congr (g := fun j => .int .i64 ((initsL m.vars).getD j 0)) (fun i hi => by rw [if_pos hi]))
        have e : (List.range k).map (fun j => (initsL m.vars).getD j 0) = initsL m.vars := by
          apply List.ext_getElem?
          intro i
          by_cases hi : i < k
          · simp [hi, List.getD_eq_getElem?_getD, show i < (initsL m.vars).length by rw [HLn.out]; exact hi]
          · simp [hi, show ¬ i < (initsL m.vars).length by rw [HLn.out]; exact hi]
        rwa [e] at this
      have hcf := HCF.out _ wr hbw hI
      clear hI hrow HCF HRow hrow0
      go_wp2_with (go_at_call 73; refine hcf.mono ?_; rintro e w2 ⟨rfl, hb2⟩)
      go_ret2
      exact ⟨rfl, hbw.trans (hb2.mono hbw.size)⟩

set_option maxRecDepth 20000 in
theorem mfirst_bad (va vr : Value) (m : Mo) (w : World) (hB : 0 < w.heap.size) (hT : TabAt w) (hV : ModelV w va vr m) (h : mcode m ≠ 0) :
    Calls Tryz.prog 52 #[.agg #[va, vr]] w fun e w' => e = .returned (.tuple #[.int .i64 0, .int .i64 (mcode m)]) ∧ Below w.heap.size w w' := by
  have hA : ∀ o, Below w.heap.size w (w.alloc o) := fun o => (Below.refl _ _).alloc (Nat.le_refl _) o
  have hch := fun o => mcheck_any va vr m (w.alloc o) (Nat.lt_of_lt_of_le hB (hA o).size) (hT.below (hA o) hB) (hV.below (hA o))
  obtain ⟨ao, cap, rfl⟩ := hV.1.shape
  obtain ⟨ro, rc, rfl⟩ := hV.2.shape
  generalize mcode m = x at *
  generalize m.vars.length = n at *
  generalize m.rules.length = rn at *
  clear hV hT
  go_enter Tryz.func52, Tryz.ntmps52
  go_wp2_with (go_at_call 72; refine (hch _).mono ?_; rintro e w1 ⟨rfl, hb1⟩)
  go_ret2
  exact ⟨rfl, (hA _).trans (hb1.mono (hA _).size)⟩
set_option maxRecDepth 20000 in
/-- THE CONTRACT OF First. -/
theorem mfirst_any (va vr : Value) (m : Mo) (w : World) (hB : 0 < w.heap.size) (hT : TabAt w) (hV : ModelV w va vr m) :
    Calls Tryz.prog 52 #[.agg #[va, vr]] w fun e w' => e = .returned (.tuple #[.int .i64 (if mcode m = 0 then codeTo m.vars (initsL m.vars) m.vars.length else 0), .int .i64 (mcode m)]) ∧ Below w.heap.size w w' := by
  by_cases h : mcode m = 0
  · rw [if_pos h, h]
    exact mfirst_loop va vr m w hB hT hV h
  · rw [if_neg h]
    exact mfirst_bad va vr m w hB hT hV h
end Go.Proofs.YtdlpmomohbdpgaaGreatDoor

/-
  Where runs begin that do not keep the formula: the contracts of the survey's begin and of product.Begin.
-/
namespace Go.Proofs.YtdlpmomohbdpgaaGreatDoor
open Go.ChangeShapes Go.WideShapes Go.ChangeAt Go.RowKit Go.Deep
open Terms Tm

/-- the first state. -/
def begC (m : Mo) : Int := codeTo m.vars (initsL m.vars) m.vars.length
/-- the spots of the first claims. -/
noncomputable def begTo (m : Mo) (ps : List (List (Int × Int))) (l : List (Int × Int)) : Nat → List (Int × Int)
  | 0 => []
  | k + 1 => if tru l (letL m ps (begC m)) (k : Int) 0 = true then begTo m ps l k else begTo m ps l k ++ [(begC m, (k : Int))]
noncomputable def begL (m : Mo) (ps : List (List (Int × Int))) (l : List (Int × Int)) : List (Int × Int) := begTo m ps l (2 ^ (aheadL l).length)
theorem begTo_len (m : Mo) (ps : List (List (Int × Int))) (l : List (Int × Int)) : ∀ k, (begTo m ps l k).length ≤ k
  | 0 => Nat.le_refl _
  | k + 1 => by
    rw [begTo]
    have := begTo_len m ps l k
    split
    · omega
    · rw [List.length_append, List.length_singleton]; omega
theorem begL_len {m : Mo} {ps : List (List (Int × Int))} {l : List (Int × Int)} (h : tkcode m ps l = 0) : (begL m ps l).length ≤ 64 := by
  have h6 := (lcode_zero (tk_zero h).2).2.2.2.2
  have := begTo_len m ps l (2 ^ (aheadL l).length)
  have h2 : 2 ^ (aheadL l).length ≤ 2 ^ 6 := Nat.pow_le_pow_right (by decide) h6
  unfold begL
  omega
/-- the letter of a state of a right task. -/
theorem tk_let {m : Mo} {ps : List (List (Int × Int))} {l : List (Int × Int)} (h : tkcode m ps l = 0) {c : Int} (hc : 0 ≤ c ∧ c < prodTo m.vars m.vars.length) : letC m ps c = 0 ∧ (letL m ps c).length = ps.length := by
  obtain ⟨hp, _⟩ := tk_zero h
  obtain ⟨hm, _⟩ := pcode_m hp
  have h1 : letC m ps c = 0 := by unfold letC; rw [if_pos hp, wcode_yes hm hc]
  refine ⟨h1, ?_⟩
  unfold letL
  rw [if_pos h1, List.length_map]
theorem tk_beg {m : Mo} {ps : List (List (Int × Int))} {l : List (Int × Int)} (h : tkcode m ps l = 0) : 0 ≤ begC m ∧ begC m < prodTo m.vars m.vars.length := by
  obtain ⟨hp, _⟩ := tk_zero h
  obtain ⟨hm, _⟩ := pcode_m hp
  exact code_bounds (mcode_vars hm) (Nat.le_refl _) (fun i hi => inits_in (mcode_vars hm) i hi)
/-- the truths of a state and a claim. -/
theorem tk_tru {m : Mo} {ps : List (List (Int × Int))} {l : List (Int × Int)} (h : tkcode m ps l = 0) {c : Int} (hc : 0 ≤ c ∧ c < prodTo m.vars m.vars.length) {k : Nat} (hk : k < 2 ^ (aheadL l).length) :
    tcode l (letL m ps c) (k : Int) = 0 ∧ truL l (letL m ps c) (k : Int) = (List.range l.length).map (tru l (letL m ps c) (k : Int)) := by
  have h1 := (tk_let h hc).2
  have h2 : tcode l (letL m ps c) (k : Int) = 0 := by
    refine tcode_ok (by rw [h1]; exact (tk_zero h).2) fun hn => ?_
    unfold ClaimNo at hn
    have : ((2 ^ (aheadL l).length : Nat) : Int) = (2 : Int) ^ (aheadL l).length := by push_cast; rfl
    rcases hn with hn | hn
    · omega
    · rw [← this] at hn; omega
  exact ⟨h2, by unfold truL; rw [if_pos h2]⟩
theorem tk_ne {m : Mo} {ps : List (List (Int × Int))} {l : List (Int × Int)} (h : tkcode m ps l = 0) : 0 < l.length := by
  obtain ⟨_, _, hz, _, _⟩ := lcode_zero (tk_zero h).2
  have := (ends_ne hz).1
  rcases Nat.eq_zero_or_pos l.length with h0 | h0
  · rw [List.length_eq_zero_iff.1 h0] at this
    simp at this
  · exact h0

set_option maxHeartbeats 3200000 in
set_option maxRecDepth 20000 in
/-- THE CONTRACT OF the survey's begin. -/
theorem begin_any (B : Nat) (va vr pv fv : Value) (m : Mo) (ps : List (List (Int × Int))) (l : List (Int × Int)) (ho : Option Addr) (hcp bs bl : Nat) (w : World) (hB : 0 < w.heap.size) (hT : TabAt w) (hV : TaskV w va vr pv fv m ps l) (hc : tkcode m ps l = 0)
    (hS : SurvAt w B va vr pv fv (.slice ho (aheadL l).length hcp) bs bl) :
    Calls Tryz.prog 26 #[.pointer (some ⟨B, 0, none⟩)] w fun e w' => ∃ so sc, e = .returned (.tuple #[.slice so (begL m ps l).length sc, .int .i64 0]) ∧ Below w.heap.size w w' ∧ Hid (SpO w' w.heap.size (.slice so (begL m ps l).length sc) (begL m ps l)) := by
  obtain ⟨hp0, hl0⟩ := tk_zero hc
  obtain ⟨hm0, _⟩ := pcode_m hp0
  have h6 := (lcode_zero hl0).2.2.2.2
  have hne := tk_ne hc
  have hnei : (0 : Int) < (l.length : Int) := by omega
  obtain ⟨ao, ac, rfl⟩ := hV.mo.1.shape
  obtain ⟨ro, rc, rfl⟩ := hV.mo.2.shape
  obtain ⟨po, pc, rfl⟩ := hV.ps.shape
  obtain ⟨fo, fc, rfl, _⟩ := id hV.fo
  have hfi : Calls Tryz.prog 52 #[.agg #[.slice ao m.vars.length ac, .slice ro m.rules.length rc]] w fun e w' => e = .returned (.tuple #[.int .i64 (begC m), .int .i64 0]) ∧ Below w.heap.size w w' := by
    have := mfirst_any _ _ m w hB hT hV.mo
    rw [if_pos hm0, hm0] at this
    exact this
  have HLe : Hid (∀ w1, Below w.heap.size w w1 → Calls Tryz.prog 53 #[.agg #[.slice ao m.vars.length ac, .slice ro m.rules.length rc], .slice po ps.length pc, .int .i64 (begC m)] w1 fun e w' => ∃ lo lc, e = .returned (.tuple #[.slice lo ps.length lc, .int .i64 0]) ∧ Below w1.heap.size w1 w' ∧ Hid (BoolsV w' (.slice lo ps.length lc) (letL m ps (begC m)))) := fun w1 h => by
    refine (letter_any _ _ _ m ps (begC m) w1 (Nat.lt_of_lt_of_le hB h.size) (hT.below h hB) (hV.mo.below h) (hV.ps.below h)).mono fun e w' ⟨v, h1, h2, h3⟩ => ?_
    obtain ⟨t1, t2⟩ := tk_let hc (tk_beg hc)
    obtain ⟨lo, lc, rfl, hx⟩ := h3
    rw [t2] at h1
    exact ⟨lo, lc, by rw [h1, t1], h2, ⟨lo, lc, by rw [t2], hx⟩⟩
  have HTr : Hid (∀ (k : Nat) (lv : Value) (w1 : World), k < 2 ^ (aheadL l).length → Below w.heap.size w w1 → BoolsV w1 lv (letL m ps (begC m)) → Calls Tryz.prog 54 #[.slice fo l.length fc, lv, .int .i64 (k : Int)] w1 fun e w' => ∃ b off c, e = .returned (.tuple #[.slice (some ⟨b, off, none⟩) l.length c, .int .i64 0]) ∧ Below w1.heap.size w1 w' ∧ w'.cell? ⟨b, off, none⟩ = some (.bool (tru l (letL m ps (begC m)) (k : Int) 0))) := fun k lv w1 hk h hl => by
    refine (ltruths_any _ lv l (letL m ps (begC m)) (k : Int) w1 (Nat.lt_of_lt_of_le hB h.size) (hT.below h hB) (hV.fo.below h) hl).mono fun e w' ⟨v, h1, h2, h3⟩ => ?_
    obtain ⟨t1, t2⟩ := tk_tru hc (tk_beg hc) hk
    rw [t2] at h3
    have hn := tk_ne hc
    obtain ⟨lo, lc, rfl, hx⟩ := h3
    obtain ⟨b, off, rfl, _, hat⟩ := hx (by intro h0; have := congrArg List.length h0; rw [List.length_map, List.length_range, List.length_nil] at this; omega)
    have c0 := hat 0 (by simpa using hn)
    refine ⟨b, off, lc, by rw [h1, t1]; simp, h2, ?_⟩
    rw [Nat.add_zero] at c0
    rw [c0]
    simp [List.getD_eq_getElem?_getD, hn]
  have HS : Hid (∀ w1, Below w.heap.size w w1 → SurvAt w1 B (.slice ao m.vars.length ac) (.slice ro m.rules.length rc) (.slice po ps.length pc) (.slice fo l.length fc) (.slice ho (aheadL l).length hcp) bs bl) := fun w1 h => hS.later h
  have hcl := fun w1 (h : Below w.heap.size w w1) => claims_any B _ _ _ _ ho _ hcp bs bl w1 h6 (hS.later h)
  have HCl : Hid (∀ w1, Below w.heap.size w w1 → Calls Tryz.prog 14 #[.pointer (some ⟨B, 0, none⟩)] w1 fun e w' => e = .returned (.int .i64 ((2 ^ (aheadL l).length : Nat) : Int)) ∧ w' = w1) := hcl
  obtain ⟨_, s0, s1, s2, s3, s4, s5, s6⟩ := id hS
  have hq64 : 2 ^ (aheadL l).length ≤ 64 := Nat.pow_le_pow_right (show 0 < 2 by decide) h6
  have HNil : Hid (begTo m ps l 0 = []) := rfl
  have HSt : Hid (∀ k, begTo m ps l (k + 1) = if tru l (letL m ps (begC m)) (k : Int) 0 = true then begTo m ps l k else begTo m ps l k ++ [(begC m, (k : Int))]) := fun k => rfl
  have HLen : Hid (∀ k, (begTo m ps l k).length ≤ k) := begTo_len m ps l
  unfold begL
  generalize begTo m ps l = bg at *
  generalize letL m ps (begC m) = lt at *
  generalize begC m = first at *
  generalize m.vars.length = vn at *
  generalize m.rules.length = rn at *
  generalize ps.length = pn at *
  generalize (aheadL l).length = an at *
  generalize 2 ^ an = N at *
  have HTru : Hid (∀ k : Nat, tru l lt (k : Int) 0 = true ∨ tru l lt (k : Int) 0 = false) := fun k => by cases tru l lt (k : Int) 0 <;> simp
  generalize hfn : l.length = fn at *
  clear hV hT hc hl0 hp0 hm0 hS hcl h6 hfn
  go_enter Tryz.func26, Tryz.ntmps26
  go_wp2_with (first | (go_at_call 52; refine hfi.mono ?_; rintro e w1 ⟨rfl, hb1⟩; obtain ⟨_, p0, p1, p2, p3, p4, p5, p6⟩ := HS.out w1 hb1; have hle := HLe.out _ hb1.drew))
  have HSB : Hid (∀ w2, Below w1.heap.size w1 w2 → w2.cell? ⟨B, 0, none⟩ = some (.slice ao vn ac) ∧ w2.cell? ⟨B, 1, none⟩ = some (.slice ro rn rc) ∧ w2.cell? ⟨B, 2, none⟩ = some (.slice po pn pc)) := fun w2 h => by
    obtain ⟨_, q0, q1, q2, _, _, _, _⟩ := HS.out w2 (hb1.trans (h.mono hb1.size))
    exact ⟨q0, q1, q2⟩
  have hB0 : Below w1.heap.size w1 w1 := Below.refl _ _
  have hBw := hB0.drew
  go_region_held3 (fun w' => w'.cell? ⟨B, 0, none⟩ = some (.slice ao vn ac) ∧ w'.cell? ⟨B, 1, none⟩ = some (.slice ro rn rc) ∧ w'.cell? ⟨B, 2, none⟩ = some (.slice po pn pc))
    (first | exact HSB.out _ hb12 | exact HSB.out _ hBw | exact HSB.out _ hB0)
    (first
      | (go_at_call 53; refine hle.mono ?_; rintro e w2 ⟨lo, lc, rfl, hb2, HLv⟩; have hb12 := hBw.trans (hb2.mono hBw.size)))
  have hw2 := hb1.trans (hb12.mono hb1.size)
  have hcl := HCl.out w2 hw2
  clear hle hfi HLe HSB p0 p1 p2 p3 p4 p5 p6 s0 s1 s2 s3 s4 s5 s6
  have HLet : Hid (∀ w3, Below w2.heap.size w2 w3 → BoolsV w3 (.slice lo pn lc) lt) := fun w3 h => HLv.out.below h
  go_wp2_with (first | (go_at_call 14; refine hcl.mono ?_; rintro e w3 ⟨rfl, rfl⟩))
  go_loopw [7, 43] (fun u i wr => ∃ k : Nat, k ≤ N ∧ i = .int .i64 k ∧ (∃ so sn sc, u = .slice so sn sc ∧ sn ≤ k ∧ Hid ((bg k).length = sn ∧ SpO wr w3.heap.size (.slice so sn sc) (bg k))) ∧ Below w3.heap.size w3 wr) (fun _ i _ => N - (intOf i).toNat)
  case atStart => exact ⟨0, Nat.zero_le _, rfl, ⟨none, 0, 0, rfl, Nat.le_refl _, by rw [HNil.out]; rfl, by rw [HNil.out]; exact SpO.nil _ _⟩, Below.refl _ _⟩
  case round =>
    obtain ⟨k, hk, rfl, ⟨so, sn, sc, rfl, hsn, HSp⟩, hbr3⟩ := hrel
    have hbr := hw2.trans (hbr3.mono hw2.size)
    have HBo := (show Hid _ from HLet.out wr hbr3)
    obtain ⟨_, p0, p1, p2, p3, p4, p5, p6⟩ := HS.out wr hbr
    by_cases hkN : k < N
    · have htr := HTr.out k _ wr hkN hbr HBo.out
      have hst := HSt.out k
      have HSk : Hid (∀ w4, Below wr.heap.size wr w4 → SpO w4 w3.heap.size (.slice so sn sc) (bg k)) := fun w4 h => HSp.out.2.later h (Nat.le_refl _)
      have HSl : Hid ((bg k).length = sn) := HSp.out.1
      rcases HTru.out k with ht | ht
      · rw [ht] at htr hst
        rw [if_pos rfl] at hst
        have HE : Hid (bg (k + 1) = bg k) := hst
        clear hst ht HBo HSp
        go_wp2_with (first | (go_at_call 54; refine htr.mono ?_; rintro e w4 ⟨b, off, c, rfl, hb4, d0⟩; have hbw4 := hbr3.trans (hb4.mono hbr3.size)))
        go_roundw
        case rel => exact ⟨k + 1, by omega, by go_num, ⟨so, sn, sc, rfl, by omega, by rw [HE.out]; exact HSl.out, by rw [HE.out]; exact HSk.out _ hb4⟩, hbw4⟩
        case measure => simp [intOf]; omega
      · rw [ht] at htr hst
        rw [if_neg (by simp)] at hst
        have HE : Hid (bg (k + 1) = bg k ++ [(first, (k : Int))]) := hst
        have hsz : w.heap.size ≤ wr.heap.size := hbr.size
        clear hst ht HBo HSp
        go_wp2_with (first | (go_at_call 54; refine htr.mono ?_; rintro e w4 ⟨b, off, c, rfl, hb4, d0⟩; have hbw4 := hbr3.trans (hb4.mono hbr3.size); have hsp := HSk.out _ hb4; have hs4 := hbw4.size) | (at_builtin; refine push_sp first (k : Int) rfl _ _ rfl w3.heap.size sn sc so (bg k) HSl.out rfl hsp rfl (by omega) hs4 ?_; intro vo5 cap5 w5 ho5 hb5 hg5; have HO5 : Hid (SpO w5 w3.heap.size (.slice vo5 (sn + 1) cap5) (bg k ++ [(first, (k : Int))])) := ho5; have hbw5 := hbw4.trans hb5; clear ho5 hg5 hsp))
        go_roundw
        case rel => exact ⟨k + 1, by omega, by go_num, ⟨vo5, sn + 1, cap5, rfl, by omega, by rw [HE.out, List.length_append, HSl.out]; rfl, by rw [HE.out]; exact HO5.out⟩, hbw5⟩
        case measure => simp [intOf]; omega
    · obtain rfl : k = N := by omega
      have HSl : Hid ((bg k).length = sn) := HSp.out.1
      have HSk : Hid (SpO wr w.heap.size (.slice so sn sc) (bg k)) := owns_mono HSp.out.2 hw2.size
      clear HSp HBo
      go_wp2_with fail
      go_ret2
      refine ⟨so, sc, by rw [HSl.out]; rfl, hbr, by rw [HSl.out]; exact HSk.out⟩

/-- what Begin answers. -/
noncomputable def begR (m : Mo) (ps : List (List (Int × Int))) (l : List (Int × Int)) : List (Int × Int) := by classical exact if tkcode m ps l = 0 then begL m ps l else []
theorem begR_ok {m : Mo} {ps : List (List (Int × Int))} {l : List (Int × Int)} (h : tkcode m ps l = 0) : begR m ps l = begL m ps l := by unfold begR; rw [if_pos h]
theorem begR_bad {m : Mo} {ps : List (List (Int × Int))} {l : List (Int × Int)} (h : tkcode m ps l ≠ 0) : begR m ps l = [] := by unfold begR; rw [if_neg h]
theorem begR_len (m : Mo) (ps : List (List (Int × Int))) (l : List (Int × Int)) : (begR m ps l).length ≤ 64 := by
  by_cases h : tkcode m ps l = 0
  · rw [begR_ok h]; exact begL_len h
  · rw [begR_bad h]; simp
def BegPost (w : World) (m : Mo) (ps : List (List (Int × Int))) (l : List (Int × Int)) (e : Ending) (w' : World) : Prop := ∃ so sc, e = .returned (.tuple #[.slice so (begR m ps l).length sc, .int .i64 (tkcode m ps l)]) ∧ Below w.heap.size w w' ∧ Hid (SpO w' w.heap.size (.slice so (begR m ps l).length sc) (begR m ps l))

end Go.Proofs.YtdlpmomohbdpgaaGreatDoor

/-
  The library's slices.Sort and slices.Compact at lists of numbers: their contracts at this program, in plain words.
-/
namespace Go.Proofs.YtdlpmomohbdpgaaGreatDoor
open Go.Shelf
def lays189_ren : Go.Shelf.Ren := ⟨fun | 189 => 103 | 125 => 123 | 257 => 122 | 128 => 144 | 129 => 145 | 294 => 135 | 295 => 136 | 296 => 137 | 297 => 138 | 298 => 139 | 299 => 140 | 216 => 141 | 300 => 142 | 301 => 143 | 328 => 147 | 329 => 148 | 330 => 149 | 331 => 150 | 332 => 151 | 215 => 152 | 343 => 153 | n => n, fun | 28 => 40 | 3 => 3 | 46 => 169 | 0 => 0 | 51 => 184 | 53 => 186 | 4 => 4 | 183 => 177 | 182 => 176 | 131 => 109 | 5 => 5 | 9 => 9 | 218 => 187 | 222 => 191 | 228 => 193 | 229 => 194 | n => n, fun | n => n⟩
theorem lays189 : Go.Proofs.Lays.n189 Tryz.prog lays189_ren := {
  mixed := by kernel_rfl
  f125 := Tryz.func123.trans (congrArg some (by kernel_rfl))
  f128 := Tryz.func144.trans (congrArg some (by kernel_rfl))
  f129 := Tryz.func145.trans (congrArg some (by kernel_rfl))
  f189 := Tryz.func103.trans (congrArg some (by kernel_rfl))
  f215 := Tryz.func152.trans (congrArg some (by kernel_rfl))
  f216 := Tryz.func141.trans (congrArg some (by kernel_rfl))
  f257 := Tryz.func122.trans (congrArg some (by kernel_rfl))
  f294 := Tryz.func135.trans (congrArg some (by kernel_rfl))
  f295 := Tryz.func136.trans (congrArg some (by kernel_rfl))
  f296 := Tryz.func137.trans (congrArg some (by kernel_rfl))
  f297 := Tryz.func138.trans (congrArg some (by kernel_rfl))
  f298 := Tryz.func139.trans (congrArg some (by kernel_rfl))
  f299 := Tryz.func140.trans (congrArg some (by kernel_rfl))
  f300 := Tryz.func142.trans (congrArg some (by kernel_rfl))
  f301 := Tryz.func143.trans (congrArg some (by kernel_rfl))
  f328 := Tryz.func147.trans (congrArg some (by kernel_rfl))
  f329 := Tryz.func148.trans (congrArg some (by kernel_rfl))
  f330 := Tryz.func149.trans (congrArg some (by kernel_rfl))
  f331 := Tryz.func150.trans (congrArg some (by kernel_rfl))
  f332 := Tryz.func151.trans (congrArg some (by kernel_rfl))
  f343 := Tryz.func153.trans (congrArg some (by kernel_rfl))
  t0 := Tryz.underlying0
  a0 := Tryz.isAgg0
  z0 := Tryz.sizeOf0
  v0 := Tryz.zeroValue0
  t3 := Tryz.underlying3
  a3 := Tryz.isAgg3
  z3 := Tryz.sizeOf3
  v3 := Tryz.zeroValue3
  t4 := Tryz.underlying4
  a4 := Tryz.isAgg4
  z4 := Tryz.sizeOf4
  v4 := Tryz.zeroValue4
  t5 := Tryz.underlying5
  a5 := Tryz.isAgg5
  z5 := Tryz.sizeOf5
  v5 := Tryz.zeroValue5
  t9 := Tryz.underlying9
  a9 := Tryz.isAgg9
  z9 := Tryz.sizeOf9
  v9 := Tryz.zeroValue9
  t28 := Tryz.underlying40
  a28 := Tryz.isAgg40
  z28 := Tryz.sizeOf40
  v28 := Tryz.zeroValue40
  t46 := Tryz.underlying169
  a46 := Tryz.isAgg169
  z46 := Tryz.sizeOf169
  v46 := Tryz.zeroValue169
  t51 := Tryz.underlying184
  a51 := Tryz.isAgg184
  z51 := Tryz.sizeOf184
  v51 := Tryz.zeroValue184
  t53 := Tryz.underlying186
  a53 := Tryz.isAgg186
  z53 := Tryz.sizeOf186
  v53 := Tryz.zeroValue186
  t131 := Tryz.underlying109
  a131 := Tryz.isAgg109
  z131 := Tryz.sizeOf109
  v131 := Tryz.zeroValue109
  t182 := Tryz.underlying176
  a182 := Tryz.isAgg176
  z182 := Tryz.sizeOf176
  v182 := Tryz.zeroValue176
  t183 := Tryz.underlying177
  a183 := Tryz.isAgg177
  z183 := Tryz.sizeOf177
  v183 := Tryz.zeroValue177
  t218 := Tryz.underlying187
  a218 := Tryz.isAgg187
  z218 := Tryz.sizeOf187
  v218 := Tryz.zeroValue187
  t222 := Tryz.underlying191
  a222 := Tryz.isAgg191
  z222 := Tryz.sizeOf191
  v222 := Tryz.zeroValue191
  t228 := Tryz.underlying193
  a228 := Tryz.isAgg193
  z228 := Tryz.sizeOf193
  v228 := Tryz.zeroValue193
  t229 := Tryz.underlying194
  a229 := Tryz.isAgg194
  z229 := Tryz.sizeOf194
  v229 := Tryz.zeroValue194 }
open Go.Sort Go.RowKit in
theorem slices_Sort_int (blk off cap : Nat) (zs : List Int) (w : World) (hH : Holds (Value.int .i64) w blk off zs.toArray) (hblk : blk < w.heap.size) (hsz : zs.length < 4611686018427387904) :
    Calls Tryz.prog 103 #[.slice (some ⟨blk, off, none⟩) zs.length cap] w fun e w' =>
      e = .returned (.tuple #[]) ∧ ∃ n os, w' = grow (putRow (Value.int .i64) (Sort.ahead w n) blk off (zs.mergeSort fun x y => decide (x ≤ y)).toArray) os := Any.slices_Sort_int lays189 blk off cap zs w hH hblk hsz
def laysNm220_ren : Go.Shelf.Ren := ⟨fun | 20 => 104 | n => n, fun | 22 => 40 | 3 => 3 | 4 => 4 | 0 => 0 | n => n, fun | n => n⟩
theorem laysNm220 : Go.Proofs.Lays2.n20 Tryz.prog laysNm220_ren := {
  mixed := by kernel_rfl
  f20 := Tryz.func104.trans (congrArg some (by kernel_rfl))
  t0 := Tryz.underlying0
  a0 := Tryz.isAgg0
  z0 := Tryz.sizeOf0
  v0 := Tryz.zeroValue0
  t3 := Tryz.underlying3
  a3 := Tryz.isAgg3
  z3 := Tryz.sizeOf3
  v3 := Tryz.zeroValue3
  t4 := Tryz.underlying4
  a4 := Tryz.isAgg4
  z4 := Tryz.sizeOf4
  v4 := Tryz.zeroValue4
  t22 := Tryz.underlying40
  a22 := Tryz.isAgg40
  z22 := Tryz.sizeOf40
  v22 := Tryz.zeroValue40
  i3 := by kernel_rfl }
open Go.RowKit Go.Lib Go.Sort in
theorem slices_Compact_int (blk off cap : Nat) (zs : List Int) (w : World) (hH : Holds (Value.int .i64) w blk off zs.toArray) (hsz : zs.length ≤ 9223372036854775807) (hcap : zs.length ≤ cap) :
    Calls Tryz.prog 104 #[.slice (some ⟨blk, off, none⟩) zs.length cap] w fun e w' => e = .returned (.slice (some ⟨blk, off, none⟩) (Lib.compact zs).length cap) ∧ ∃ q, w' = putRow (Value.int .i64) (Sort.ahead w q) blk off (Lib.compact zs ++ List.replicate (zs.length - (Lib.compact zs).length) 0).toArray := Any.slices_Compact_int laysNm220 blk off cap zs w hH hsz hcap
end Go.Proofs.YtdlpmomohbdpgaaGreatDoor

/-
  The library's Sort and Compact of numbers that lie in a row of one's own; and what comes of them.
-/
namespace Go.Proofs.YtdlpmomohbdpgaaGreatDoor
open Go.RowKit Go.Sort

def leB (x y : Int) : Bool := decide (x ≤ y)
/-- slices.Sort. -/
theorem sort_own (g cap base : Nat) (zs : List Int) (w : World) (hz : zs.length ≤ 100000) (ho : w.ownsRow base 3 1 (.slice (some ⟨g, 0, none⟩) zs.length cap) zs.length (ivals zs)) :
    Calls Tryz.prog 103 #[.slice (some ⟨g, 0, none⟩) zs.length cap] w fun e w' => e = .returned (.tuple #[]) ∧ w.grownBy w' (some g) ∧ w'.ownsRow base 3 1 (.slice (some ⟨g, 0, none⟩) zs.length cap) zs.length (ivals (zs.mergeSort leB)) := by
  have ho' : w.ownsRow base 3 1 (.slice (some ⟨g, 0, none⟩) zs.length cap) zs.length (zs.map (Value.int .i64)) := ho
  obtain ⟨g', cap', hv, hbg, hlt, hn, hm, hl, hH⟩ := Lib.holds_of_ownsRow ho' (by simp)
  injection hv with h1 h2 h3
  injection h1 with h1
  injection h1 with h1
  subst h1 h3
  rcases ho.2 with ⟨e0, _⟩ | ⟨g2, cap2, cur, e0, hb, hg, hnc, hcm, hcs, ht⟩
  · cases e0
  · injection e0 with e1 _ e3
    injection e1 with e1
    injection e1 with e1
    subst e1 e3
    refine (slices_Sort_int g 0 cap zs w hH hlt (by omega)).mono fun e w' ⟨he, n, os, hw⟩ => ⟨he, ?_, ?_⟩
    · rw [hw]; exact grownBy_sortedI _
    · rw [hw]; exact ownsRow_sortedI (ts := zs.mergeSort leB) (by simp) hbg hg hnc hcm hcs
/-- slices.Compact. -/
theorem compact_own (g cap base : Nat) (zs : List Int) (w : World) (hz : zs.length ≤ 100000) (ho : w.ownsRow base 3 1 (.slice (some ⟨g, 0, none⟩) zs.length cap) zs.length (ivals zs)) :
    Calls Tryz.prog 104 #[.slice (some ⟨g, 0, none⟩) zs.length cap] w fun e w' => e = .returned (.slice (some ⟨g, 0, none⟩) (Lib.compact zs).length cap) ∧ w.grownBy w' (some g) ∧ w'.ownsRow base 3 1 (.slice (some ⟨g, 0, none⟩) (Lib.compact zs).length cap) (Lib.compact zs).length (ivals (Lib.compact zs)) := by
  have ho' : w.ownsRow base 3 1 (.slice (some ⟨g, 0, none⟩) zs.length cap) zs.length (zs.map (Value.int .i64)) := ho
  obtain ⟨g', cap', hv, hbg, hlt, hn, hm, hl, hH⟩ := Lib.holds_of_ownsRow ho' (by simp)
  injection hv with h1 h2 h3
  injection h1 with h1
  injection h1 with h1
  subst h1 h3
  have hcl := Lib.compact_length_le zs
  refine (slices_Compact_int g 0 cap zs w hH (by omega) hn).mono fun e w' ⟨he, q, hw⟩ => ⟨he, ?_, ?_⟩
  · rw [hw]
    refine ⟨rfl, rfl, rfl, by simp [putRow, mapBlock, Sort.ahead], fun k _ hne => ?_⟩
    have : g ≠ k := fun e => hne (by rw [e])
    simp [putRow, mapBlock, Sort.ahead, Array.getElem?_modify, this]
  · rw [hw]
    have h := Lib.ownsRow_putRow (q := q) (k := (Lib.compact zs).length) (ys := Lib.compact zs ++ List.replicate (zs.length - (Lib.compact zs).length) 0) ho' (by simp; omega) hcl
    rw [List.take_left] at h
    exact h

/-! ### lists that rise -/

abbrev Rise (l : List Int) : Prop := l.Pairwise (· < ·)
theorem rise_eq : ∀ {l l' : List Int}, Rise l → Rise l' → (∀ x, x ∈ l ↔ x ∈ l') → l = l'
  | [], [], _, _, _ => rfl
  | [], y :: l', _, _, h => absurd ((h y).2 (by simp)) (by simp)
  | x :: l, [], _, _, h => absurd ((h x).1 (by simp)) (by simp)
  | x :: l, y :: l', h1, h2, h => by
    obtain ⟨hx, t1⟩ := List.pairwise_cons.1 h1
    obtain ⟨hy, t2⟩ := List.pairwise_cons.1 h2
    have e : x = y := by
      rcases List.mem_cons.1 ((h x).1 (by simp)) with e | e
      · exact e
      · rcases List.mem_cons.1 ((h y).2 (by simp)) with e' | e'
        · exact e'.symm
        · have := hx y e'; have := hy x e; omega
    subst e
    refine congrArg (x :: ·) (rise_eq t1 t2 fun z => ⟨fun hz => ?_, fun hz => ?_⟩)
    · rcases List.mem_cons.1 ((h z).1 (by simp [hz])) with e | e
      · subst e; have := hx z hz; omega
      · exact e
    · rcases List.mem_cons.1 ((h z).2 (by simp [hz])) with e | e
      · subst e; have := hy z hz; omega
      · exact e
theorem compact_step {d : Array Int} {n : Nat} (hs : ∀ i j, i ≤ j → j < n → d[i]! ≤ d[j]!) : ∀ m, m ≤ n → Rise (Lib.compactUpTo d m) ∧ ∀ x, x ∈ Lib.compactUpTo d m ↔ ∃ j, j < m ∧ d[j]! = x := by
  intro m
  induction m with
  | zero => intro _; exact ⟨by simp [Lib.compactUpTo], fun x => by simp [Lib.compactUpTo]⟩
  | succ m ih =>
    intro hm
    obtain ⟨h1, h2⟩ := ih (by omega)
    rw [Lib.compactUpTo_succ]
    by_cases hk : Lib.keeps d m = true
    · rw [if_pos hk]
      refine ⟨List.pairwise_append.2 ⟨h1, by simp, fun x hx y hy => ?_⟩, fun x => ?_⟩
      · simp at hy
        subst hy
        obtain ⟨j, hj, rfl⟩ := (h2 x).1 hx
        have h3 := hs j m (by omega) (by omega)
        have h4 := hs j (m - 1) (by omega) (by omega)
        have h5 := hs (m - 1) m (by omega) (by omega)
        have h6 : d[m]! ≠ d[m - 1]! := by
          have : m ≠ 0 := by omega
          simpa [Lib.keeps, this] using hk
        omega
      · simp only [List.mem_append, List.mem_singleton, h2]
        constructor
        · rintro (⟨j, hj, e⟩ | e)
          · exact ⟨j, by omega, e⟩
          · exact ⟨m, by omega, e.symm⟩
        · rintro ⟨j, hj, e⟩
          by_cases hjm : j = m
          · subst hjm; exact .inr e.symm
          · exact .inl ⟨j, by omega, e⟩
    · rw [if_neg hk, List.append_nil]
      refine ⟨h1, fun x => ?_⟩
      rw [h2]
      constructor
      · rintro ⟨j, hj, e⟩; exact ⟨j, by omega, e⟩
      · rintro ⟨j, hj, e⟩
        by_cases hjm : j = m
        · subst hjm
          have h7 : j ≠ 0 ∧ d[j]! = d[j - 1]! := by simpa [Lib.keeps] using hk
          exact ⟨j - 1, by omega, by rw [← h7.2]; exact e⟩
        · exact ⟨j, by omega, e⟩
/-- the numbers of a list, each once, rising. -/
def upL (l : List Int) : List Int := Lib.compact (l.mergeSort leB)
theorem upL_spec (l : List Int) : Rise (upL l) ∧ ∀ x, x ∈ upL l ↔ x ∈ l := by
  have hp : (l.mergeSort leB).Pairwise (fun x y => leB x y = true) := List.pairwise_mergeSort (le := leB) (by intro a b c; simp only [leB, decide_eq_true_eq]; omega) (by intro a b; simp only [leB, Bool.or_eq_true, decide_eq_true_eq]; omega) l
  have hs : ∀ i j, i ≤ j → j < (l.mergeSort leB).length → (l.mergeSort leB).toArray[i]! ≤ (l.mergeSort leB).toArray[j]! := fun i j hij hj => by
    rw [getElem!_pos _ i (by simpa using (by omega : i < (l.mergeSort leB).length)), getElem!_pos _ j (by simpa using hj)]
    rcases Nat.lt_or_eq_of_le hij with h | h
    · have := List.pairwise_iff_getElem.1 hp i j (by omega) hj h
      simpa [leB] using this
    · subst h; exact Int.le_refl _
  obtain ⟨h1, h2⟩ := compact_step hs (l.mergeSort leB).length (Nat.le_refl _)
  refine ⟨h1, fun x => ?_⟩
  show x ∈ Lib.compactUpTo _ _ ↔ _
  rw [h2, ← (List.mergeSort_perm l leB).mem_iff, List.mem_iff_getElem]
  constructor
  · rintro ⟨j, hj, e⟩
    exact ⟨j, hj, by rw [← e, getElem!_pos _ j (by simpa using hj)]; rfl⟩
  · rintro ⟨j, hj, e⟩
    exact ⟨j, hj, by rw [getElem!_pos _ j (by simpa using hj)]; exact e⟩
theorem upL_eq {l l' : List Int} (h : Rise l) (hm : ∀ x, x ∈ l ↔ x ∈ l') : l = upL l' := rise_eq h (upL_spec l').1 fun x => by rw [hm, (upL_spec l').2]
end Go.Proofs.YtdlpmomohbdpgaaGreatDoor

/-
  Plain mathematics of what comes next.
-/
namespace Go.Proofs.YtdlpmomohbdpgaaGreatDoor
open Terms Tm

/-- what comes behind the first so many rules. -/
noncomputable def rawTo (vars : List Vr) (env : List Int) (rules : List Ru) (k : Nat) : List Int := (rules.take k).filterMap (ruleDo vars env)
theorem rawTo_some {vars : List Vr} {env : List Int} {rules : List Ru} {k : Nat} (hk : k < rules.length) {x : Int} (h : ruleDo vars env (rules.getD k ru0) = some x) : rawTo vars env rules (k + 1) = rawTo vars env rules k ++ [x] := by
  unfold rawTo
  rw [List.take_succ_eq_append_getElem hk, List.filterMap_append, show rules[k] = rules.getD k ru0 by simp [List.getD_eq_getElem?_getD, hk]]
  generalize rules.getD k ru0 = r at h
  simp [h]
theorem rawTo_none {vars : List Vr} {env : List Int} {rules : List Ru} {k : Nat} (hk : k < rules.length) (h : ruleDo vars env (rules.getD k ru0) = none) : rawTo vars env rules (k + 1) = rawTo vars env rules k := by
  unfold rawTo
  rw [List.take_succ_eq_append_getElem hk, List.filterMap_append, show rules[k] = rules.getD k ru0 by simp [List.getD_eq_getElem?_getD, hk]]
  generalize rules.getD k ru0 = r at h
  simp [h]
theorem rawTo_length (vars : List Vr) (env : List Int) (rules : List Ru) (k : Nat) : (rawTo vars env rules k).length ≤ k := by
  unfold rawTo
  exact Nat.le_trans (List.length_filterMap_le _ _) (by simp; omega)
/-- what comes behind all rules, or the state itself. -/
noncomputable def rawL (m : Mo) (code : Int) : List Int := if rawTo m.vars (valsL m.vars code) m.rules m.rules.length = [] then [code] else rawTo m.vars (valsL m.vars code) m.rules m.rules.length
/-- the next states. -/
noncomputable def nextL (m : Mo) (code : Int) : List Int := upL (rawL m code)
/-- what Next answers. -/
noncomputable def nxtL (m : Mo) (code : Int) : List Int := if wcode m code = 0 then nextL m code else []
theorem rawTo_mem {vars : List Vr} {env : List Int} {rules : List Ru} {k : Nat} (hk : k ≤ rules.length) (x : Int) : x ∈ rawTo vars env rules k ↔ ∃ j, j < k ∧ ruleDo vars env (rules.getD j ru0) = some x := by
  unfold rawTo
  rw [List.mem_filterMap]
  constructor
  · rintro ⟨r, hr, e⟩
    obtain ⟨j, hj, rfl⟩ := List.mem_iff_getElem.1 hr
    rw [List.length_take] at hj
    refine ⟨j, by omega, ?_⟩
    rw [List.getElem_take] at e
    rw [show rules.getD j ru0 = rules[j]'(by omega) by simp [List.getD_eq_getElem?_getD, show j < rules.length by omega]]
    exact e
  · rintro ⟨j, hj, e⟩
    refine ⟨rules.getD j ru0, ?_, e⟩
    rw [List.mem_iff_getElem]
    exact ⟨j, by rw [List.length_take]; omega, by rw [List.getElem_take]; simp [List.getD_eq_getElem?_getD, show j < rules.length by omega]⟩
/-- a state behind a rule is a state. -/
theorem ruleDo_state {vars : List Vr} {env : List Int} {r : Ru} {x : Int} (hv : VarsOk vars) (h : ruleDo vars env r = some x) : 0 ≤ x ∧ x < prodTo vars vars.length := by
  unfold ruleDo at h
  split at h
  · rename_i hc
    injection h with h
    subst h
    exact code_bounds hv (Nat.le_refl _) hc.2.2
  · cases h
theorem upL_length (l : List Int) : (upL l).length ≤ l.length := Nat.le_trans (Lib.compact_length_le _) (by simp)
theorem nxtL_length (m : Mo) (code : Int) : (nxtL m code).length ≤ 1 + m.rules.length := by
  unfold nxtL nextL
  split
  · refine Nat.le_trans (upL_length _) ?_
    unfold rawL
    split
    · simp
    · exact Nat.le_trans (rawTo_length _ _ _ _) (by omega)
  · simp
end Go.Proofs.YtdlpmomohbdpgaaGreatDoor

/-
  The contracts of step.nextOf and step.Next.
-/
namespace Go.Proofs.YtdlpmomohbdpgaaGreatDoor
open Go.ChangeShapes Go.WideShapes Go.ChangeAt Go.RowKit Go.Deep
open Terms Tm

/-- numbers in a row of one's own, in a slice that is not nil. -/
def OwnI (base : Nat) (w : World) (v : Value) (l : List Int) : Prop := w.ownsRow base 3 1 v l.length (ivals l) ∧ v ≠ .slice none 0 0
theorem OwnI.form {base : Nat} {w : World} {v : Value} {l : List Int} (h : OwnI base w v l) : ∃ g cap, v = .slice (some ⟨g, 0, none⟩) l.length cap ∧ base ≤ g ∧ g < w.heap.size := by
  rcases h.1.2 with ⟨e0, _⟩ | ⟨g, cap, cur, rfl, hb, hg, _⟩
  · exact absurd e0 h.2
  · exact ⟨g, cap, rfl, hb, (Array.getElem?_eq_some_iff.1 hg).1⟩

set_option maxHeartbeats 3200000 in
set_option maxRecDepth 20000 in
/-- THE CONTRACT OF nextOf. -/
theorem nextOf_own (va vr : Value) (m : Mo) (code : Int) (w : World) (hB : 0 < w.heap.size) (hT : TabAt w) (hV : ModelV w va vr m) (hm : mcode m = 0) :
    Calls Tryz.prog 83 #[.agg #[va, vr], .int .i64 code] w fun e w' => ∃ v, e = .returned (.tuple #[v, .int .i64 (wcode m code)]) ∧ Below w.heap.size w w' ∧ IntsV w' v (nxtL m code) ∧ w'.ownsRow w.heap.size 3 1 v (nxtL m code).length (ivals (nxtL m code)) := by
  have hA : ∀ o, Below w.heap.size w (w.alloc o) := fun o => (Below.refl _ _).alloc (Nat.le_refl _) o
  have hVb : ∀ w', Below w.heap.size w w' → ∀ ao cap, va = .slice ao m.vars.length cap → ModelV w' (.slice ao m.vars.length cap) (.slice none 0 0) ⟨m.vars, []⟩ := fun w' hb ao cap e => ⟨e ▸ hV.1.below hb, ⟨none, 0, rfl, ⟨by simp, fun _ => ⟨rfl, rfl⟩⟩, fun h => by simp at h⟩⟩
  obtain ⟨ao, cap, rfl⟩ := hV.1.shape
  obtain ⟨ro, rc, hro⟩ := hV.2.shape
  have hba := fun w => bare_any ao ro m.vars.length cap m.rules.length rc w
  by_cases hw : wcode m code = 0
  · have hvl : ∀ w', Below w.heap.size w w' → Calls Tryz.prog 74 #[.agg #[.slice ao m.vars.length cap, .slice none 0 0], .int .i64 code] w' fun e w2 => ∃ B, e = .returned (.tuple #[.slice (some ⟨B, 0, none⟩) (valsL m.vars code).length (valsL m.vars code).length, .int .i64 0]) ∧ w'.heap.size ≤ B ∧ Below w'.heap.size w' w2 ∧ w2.rowIs B 3 (valsL m.vars code).length (fun j => .int .i64 ((valsL m.vars code).getD j 0)) := fun w' hb =>
      svalues_any _ _ ⟨m.vars, []⟩ code w' (Nat.lt_of_lt_of_le hB hb.size) (hT.below hb hB) (hVb w' hb ao cap rfl) (by rw [wcode_bare _ hm]; exact hw)
    obtain ⟨hr12, hrs⟩ := mcode_rules hm
    have HDo : Hid (∀ w' (_ : Below w.heap.size w w') B k gv sv, k < m.rules.length → w'.rowIs B 3 (valsL m.vars code).length (fun j => .int .i64 ((valsL m.vars code).getD j 0)) → OpsV w' gv (m.rules.getD k ru0).guard → SetsV w' sv (m.rules.getD k ru0).sets → Calls Tryz.prog 102 #[.agg #[.slice ao m.vars.length cap, vr], .slice (some ⟨B, 0, none⟩) (valsL m.vars code).length (valsL m.vars code).length, .agg #[gv, sv]] w' fun e w2 => e = .returned (.tuple #[.int .i64 (optN (ruleDo m.vars (valsL m.vars code) (m.rules.getD k ru0))), .int .i64 (optC (ruleDo m.vars (valsL m.vars code) (m.rules.getD k ru0)))]) ∧ Below w'.heap.size w' w2) := fun w' hb B k gv sv hk hrow hg hs =>
      doRule_any _ vr gv sv B m (valsL m.vars code) (m.rules.getD k ru0) w' (Nat.lt_of_lt_of_le hB hb.size) (hT.below hb hB) (hV.below hb) hm (hrs k hk) (valsL_length _ _) hrow hg hs
    have HR : Hid (RulesV w vr m.rules) := hV.2
    have HNL : Hid (nxtL m code = upL (if rawTo m.vars (valsL m.vars code) m.rules m.rules.length = [] then [code] else rawTo m.vars (valsL m.vars code) m.rules m.rules.length)) := by show _ = _; unfold nxtL nextL rawL; rw [if_pos hw]
    rw [hw]
    generalize nxtL m code = res at *
    generalize valsL m.vars code = env at *
    subst hro
    obtain ⟨rn, hrn⟩ : ∃ rn, rn = m.rules.length := ⟨_, rfl⟩
    have HRN : Hid (rn = m.rules.length) := hrn
    rw [← hrn] at hba HDo HR HNL hr12 ⊢
    obtain ⟨i0, hi, hz0, hz1, hz2⟩ := info_parts infoInt
    clear hV hT hVb hw hm hrs hrn
    generalize m.vars.length = n at *
    go_enter Tryz.func83, Tryz.ntmps83
    go_wp2_with (first | (go_at_call 75; refine (hba _).mono ?_; rintro e w1 ⟨rfl, hb1⟩; have hbw1 := (hA _).trans (hb1.mono (hA _).size); have k10 : w1.cell? ⟨w.heap.size, 0, none⟩ = some (.slice ao n cap) := (hb1.cell (p := ⟨w.heap.size, 0, none⟩) (by simp)).trans (by simp [go_sem]); have k11 : w1.cell? ⟨w.heap.size, 1, none⟩ = some (.slice ro rn rc) := (hb1.cell (p := ⟨w.heap.size, 1, none⟩) (by simp)).trans (by simp [go_sem]); have hs1 : w.heap.size < w1.heap.size := (by have := hb1.size; simp at this; omega)) | (go_at_call 74; refine (hvl _ hbw1).mono ?_; rintro e w2 ⟨B, rfl, hBl, hb2, hr2⟩; have k20 := (hb2.cell (p := ⟨w.heap.size, 0, none⟩) hs1).trans k10; have k21 := (hb2.cell (p := ⟨w.heap.size, 1, none⟩) hs1).trans k11; have hs2 := Nat.lt_of_lt_of_le hs1 hb2.size; have kA1 : ∀ o, (w2.alloc o).cell? ⟨w.heap.size, 1, none⟩ = some (.slice ro rn rc) := fun o => (((Below.refl w2.heap.size w2).alloc (Nat.le_refl _) o).cell (p := ⟨w.heap.size, 1, none⟩) hs2).trans k21))
    have hbw2 := hbw1.trans (hb2.mono hbw1.size)
    have hA2 : ∀ o, Below w2.heap.size w2 (w2.alloc o) := fun o => (Below.refl _ _).alloc (Nat.le_refl _) o
    have HRow : Hid (w2.rowIs B 3 env.length (fun j => .int .i64 (env.getD j 0))) := hr2
    have HB2 : Hid (Below w.heap.size w w2) := hbw2
    have HK2 : Hid (∀ w', Below w2.heap.size w2 w' → w'.cell? ⟨w.heap.size, 0, none⟩ = some (.slice ao n cap) ∧ w'.cell? ⟨w.heap.size, 1, none⟩ = some (.slice ro rn rc)) := fun w' hb => ⟨(hb.cell (p := ⟨w.heap.size, 0, none⟩) hs2).trans k20, (hb.cell (p := ⟨w.heap.size, 1, none⟩) hs2).trans k21⟩
    have HO0 : Hid (OwnI w2.heap.size (w2.alloc (.cells #[] 3)) (.slice (some ⟨w2.heap.size, 0, none⟩) 0 0) (rawTo m.vars env m.rules 0)) := ⟨World.ownsRow_lit w2 #[] 0 (Nat.le_refl _) (by decide) rfl, by simp⟩
    clear hvl hba hb1 hbw1 k10 k11 hs1 hb2 hr2 k20 k21 kA1 hbw2
    go_loopw [8, 27] (fun nx i wr => ∃ k : Nat, k ≤ rn ∧ i = .int .i64 k ∧ Hid (OwnI w2.heap.size wr nx (rawTo m.vars env m.rules k)) ∧ Hid (Below w2.heap.size w2 wr)) (fun _ i _ => rn - (intOf i).toNat)
    case atStart => exact ⟨0, Nat.zero_le _, rfl, HO0.out, hA2 _⟩
    case round =>
      obtain ⟨k, hk, rfl, HOwn, HBel⟩ := hrel
      have hbel := HBel.out
      have hbw := HB2.out.trans (hbel.mono HB2.out.size)
      obtain ⟨kr0, kr1⟩ := HK2.out wr hbel
      obtain ⟨g, gc, rfl, hg, hgl⟩ := HOwn.out.form
      have hown := HOwn.out.1
      by_cases hlt : k < rn
      · obtain ⟨b, off, rfl, hblt, hat⟩ := HR.out.at (i := k) (by rw [← HRN.out]; exact hlt)
        obtain ⟨⟨u, c0, hou⟩, u', c1, hsu⟩ := hat.below hbw hblt
        obtain ⟨uo, uc, rfl⟩ := hou.shape
        obtain ⟨so, sc, rfl⟩ := hsu.shape
        have hAr : ∀ o, Below wr.heap.size wr (wr.alloc o) := fun o => (Below.refl _ _).alloc (Nat.le_refl _) o
        have hkA0 : ∀ o, (wr.alloc o).cell? ⟨w.heap.size, 0, none⟩ = some (.slice ao n cap) := fun o => (HK2.out _ (hbel.trans ((hAr o).mono hbel.size))).1
        have hkA1 : ∀ o, (wr.alloc o).cell? ⟨w.heap.size, 1, none⟩ = some (.slice (some ⟨b, off, none⟩) rn rc) := fun o => (HK2.out _ (hbel.trans ((hAr o).mono hbel.size))).2
        have hdo := fun o => HDo.out (wr.alloc o) (hbw.trans ((hAr o).mono hbw.size)) B k _ _ hlt (row_later (row_later HRow.out hbel) (hAr o)) (hou.below (hAr o)) (hsu.below (hAr o))
        have HRl : Hid ((rawTo m.vars env m.rules k).length ≤ k) := rawTo_length _ _ _ _
        have hk' : k < m.rules.length := by rw [← HRN.out]; exact hlt
        generalize (m.rules.getD k ru0).guard.length = gl at *
        generalize (m.rules.getD k ru0).sets.length = sl at *
        obtain ⟨L, hL⟩ : ∃ L, L = (rawTo m.vars env m.rules k).length := ⟨_, rfl⟩
        have HL : Hid (L = (rawTo m.vars env m.rules k).length) := hL
        rw [← hL] at hown HRl ⊢
        cases hres : ruleDo m.vars env (m.rules.getD k ru0) with
        | none =>
          rw [hres] at hdo
          simp only [optN, optC] at hdo
          have HN : Hid (rawTo m.vars env m.rules (k + 1) = rawTo m.vars env m.rules k) := rawTo_none hk' hres
          have HW4 : Hid (∀ o w4, Below (wr.alloc o).heap.size (wr.alloc o) w4 → Below w2.heap.size w2 w4 ∧ OwnI w2.heap.size w4 (.slice (some ⟨g, 0, none⟩) L gc) (rawTo m.vars env m.rules k)) := fun o w4 hb => ⟨(hbel.alloc hbel.size o).trans (hb.mono (hbel.alloc hbel.size o).size), by
            refine ⟨?_, by simp⟩
            rw [← HL.out]
            exact owns_later (owns_later hown (hAr o) (Nat.le_refl _)) hb (Nat.le_refl _)⟩
          clear hat hou hsu HDo HR hres hk' hown hL
          go_wp2_with (go_at_call 102; refine (hdo _).mono ?_; rintro e w4 ⟨rfl, hb4⟩; obtain ⟨hb24, ho4⟩ := HW4.out _ w4 hb4)
          exact ⟨⟨k + 1, hlt, by first | rfl | simp, by rw [HN.out]; exact ho4, hb24⟩, by simp [intOf]; omega⟩
        | some x =>
          rw [hres] at hdo
          simp only [optN, optC] at hdo
          have HN : Hid (rawTo m.vars env m.rules (k + 1) = rawTo m.vars env m.rules k ++ [x]) := rawTo_some hk' hres
          have h63 : L + 1 ≤ maxLen := by have := HRl.out; unfold maxLen; omega
          have hkb : (L + 1) * 8 ≤ 140737488355328 := by have := HRl.out; omega
          clear hat hou hsu HDo HR hres hk' hL
          go_wp2_with (first | (go_at_call 102; refine (hdo _).mono ?_; rintro e w4 ⟨rfl, hb4⟩; have hb24 := (hbel.alloc hbel.size _).trans (hb4.mono (hbel.alloc hbel.size _).size); have hown4 := fun o => (owns_later (owns_later hown (hAr _) (Nat.le_refl _)) hb4 (Nat.le_refl _)).alloc o; have hbase : ∀ o, w2.heap.size ≤ (w4.alloc o).heap.size := (fun o => by have := hb24.size; simp; omega)) | (at_builtin; refine wpList_append_lies _ rfl (.tmp 40) (.tmp 42) 40 rfl w2.heap.size 3 i0 (.int .i64 0) 1 8 Tryz.underlying40 hi hz0 hz1 hz2 rfl (by decide) (.slice (some ⟨g, 0, none⟩) L gc) L _ rfl (hown4 _) ⟨w4.heap.size, 0, none⟩ 1 1 [.int .i64 x] rfl rfl (cell_one_new _ _ _) (by intro u hu; simp at hu; subst hu; rfl) (by decide) h63 hkb (hbase _) _ rfl ?_; intro g5 cp5 w5 hown5 hgrow5 hat5 hgl5))
          have hb25 : Below w2.heap.size w2 w5 := (hb24.alloc hb24.size _).grown hgrow5 (hbase _) (fun z hz => by have hgz : g = z := (by simpa [Value.ownBlock] using hz); rw [← hgz]; exact hg)
          have ho5 : OwnI w2.heap.size w5 (.slice (some ⟨g5, 0, none⟩) (L + 1) cp5) (rawTo m.vars env m.rules (k + 1)) := by
            refine ⟨?_, by simp⟩
            rw [HN.out, List.length_append, ← HL.out]
            rw [show ivals (rawTo m.vars env m.rules k ++ [x]) = ivals (rawTo m.vars env m.rules k) ++ [.int .i64 x] by simp [ivals]]
            exact hown5
          exact ⟨⟨k + 1, hlt, by first | rfl | simp, ho5, hb25⟩, by simp [intOf]; omega⟩
      · have hkn : k = rn := by omega
        subst hkn
        have HRl : Hid ((rawTo m.vars env m.rules k).length ≤ k) := rawTo_length _ _ _ _
        generalize rawTo m.vars env m.rules k = raw at *
        clear HDo HR HOwn kr0 kr1 hlt hk
        by_cases hraw : raw = []
        · have HRes : Hid (res = upL [code]) := by show _ = _; rw [HNL.out, if_pos hraw]
          subst hraw
          have hown0 : wr.ownsRow w2.heap.size 3 1 (.slice (some ⟨g, 0, none⟩) 0 gc) 0 [] := hown
          have hown4 := fun o => hown0.alloc o
          have hbase : ∀ o, w2.heap.size ≤ (wr.alloc o).heap.size := fun o => by have := hbel.size; simp; omega
          have hAr : ∀ o, Below wr.heap.size wr (wr.alloc o) := fun o => (Below.refl _ _).alloc (Nat.le_refl _) o
          clear hown HNL HRl
          simp only [List.length_nil]
          have hso := fun (w5 : World) g5 cp5 (ho : w5.ownsRow w2.heap.size 3 1 (.slice (some ⟨g5, 0, none⟩) 1 cp5) 1 (ivals [code])) => sort_own g5 cp5 w2.heap.size [code] w5 (by simp) ho
          have hms : [code].mergeSort leB = [code] := List.mergeSort_singleton _
          have HUp : Hid (Lib.compact [code] = upL [code]) := by show _ = Lib.compact _; rw [hms]
          rw [hms] at hso
          simp only [List.length_cons, List.length_nil, Nat.zero_add] at hso
          have hco := fun (w5 : World) g5 cp5 (ho : w5.ownsRow w2.heap.size 3 1 (.slice (some ⟨g5, 0, none⟩) 1 cp5) 1 (ivals [code])) => compact_own g5 cp5 w2.heap.size [code] w5 (by simp) ho
          simp only [List.length_cons, List.length_nil, Nat.zero_add] at hco
          rw [HUp.out] at hco
          go_wp2_with (first | (at_builtin; refine wpList_append_lies _ rfl (.tmp 48) (.tmp 50) 40 rfl w2.heap.size 3 i0 (.int .i64 0) 1 8 Tryz.underlying40 hi hz0 hz1 hz2 rfl (by decide) (.slice (some ⟨g, 0, none⟩) 0 gc) 0 _ rfl (hown4 _) ⟨wr.heap.size, 0, none⟩ 1 1 [.int .i64 code] rfl rfl (cell_one_new _ _ _) (by intro u hu; simp at hu; subst hu; rfl) (by decide) (by decide) (by decide) (hbase _) _ rfl ?_; intro g5 cp5 w5 hown5 hgrow5 hat5 hgl5; have hg5 : w2.heap.size ≤ g5 := (by rcases hat5 with h5 | h5; (have hgz : g = g5 := (by simpa [Value.ownBlock] using h5)); (rw [← hgz]; exact hg); (rw [h5]; exact hbase _))) | (go_at_call 103; refine (hso _ _ _ hown5).mono ?_; rintro e w6 ⟨rfl, hgr6, ho6⟩) | (go_at_call 104; refine (hco _ _ _ ho6).mono ?_; rintro e w7 ⟨rfl, hgr7, ho7⟩))
          have hb5 : Below w2.heap.size w2 w5 := (hbel.alloc hbel.size _).grown hgrow5 (hbase _) (fun z hz => by have hgz : g = z := (by simpa [Value.ownBlock] using hz); rw [← hgz]; exact hg)
          have hb7 : Below w2.heap.size w2 w7 := (hb5.grown hgr6 hb5.size (fun z hz => by rw [← Option.some.inj hz]; exact hg5)).grown hgr7 (Nat.le_trans hb5.size hgr6.size) (fun z hz => by rw [← Option.some.inj hz]; exact hg5)
          have hI7 : IntsV w7 (.slice (some ⟨g5, 0, none⟩) (upL [code]).length cp5) (upL [code]) := intsV_of_owns ho7
          go_ret2
          exact ⟨_, rfl, HB2.out.trans (hb7.mono HB2.out.size), by rw [HRes.out]; exact ⟨hI7, owns_mono ho7 HB2.out.size⟩⟩
        · have HRes : Hid (res = upL raw) := by show _ = _; rw [HNL.out, if_neg hraw]
          have hpos : 0 < raw.length := List.length_pos_iff.2 hraw
          have hso := sort_own g gc w2.heap.size raw wr (by have := HRl.out; omega) hown
          obtain ⟨L, hL⟩ : ∃ L, L = raw.length := ⟨_, rfl⟩
          have HL : Hid (L = raw.length) := hL
          have HLs : Hid ((raw.mergeSort leB).length = L) := by show _ = _; rw [List.length_mergeSort, hL]
          have hL12 : L ≤ 12 := by have := HRl.out; omega
          rw [← hL] at hso hpos ⊢
          clear hown HNL HRl hraw hL
          have HCo : Hid (∀ w5 : World, w5.ownsRow w2.heap.size 3 1 (.slice (some ⟨g, 0, none⟩) L gc) L (ivals (raw.mergeSort leB)) → Calls Tryz.prog 104 #[.slice (some ⟨g, 0, none⟩) L gc] w5 fun e w' => e = .returned (.slice (some ⟨g, 0, none⟩) (upL raw).length gc) ∧ w5.grownBy w' (some g) ∧ w'.ownsRow w2.heap.size 3 1 (.slice (some ⟨g, 0, none⟩) (upL raw).length gc) (upL raw).length (ivals (upL raw))) := fun w5 ho => by
            rw [← HLs.out] at ho ⊢
            exact compact_own g gc w2.heap.size (raw.mergeSort leB) w5 (by rw [HLs.out]; omega) ho
          go_wp2_with (first | (go_at_call 103; refine hso.mono ?_; rintro e w6 ⟨rfl, hgr6, ho6⟩; have hco := HCo.out w6 ho6) | (go_at_call 104; refine hco.mono ?_; rintro e w7 ⟨rfl, hgr7, ho7⟩))
          have hb7 : Below w2.heap.size w2 w7 := (hbel.grown hgr6 hbel.size (fun z hz => by rw [← Option.some.inj hz]; exact hg)).grown hgr7 (Nat.le_trans hbel.size hgr6.size) (fun z hz => by rw [← Option.some.inj hz]; exact hg)
          have hI7 : IntsV w7 (.slice (some ⟨g, 0, none⟩) (upL raw).length gc) (upL raw) := intsV_of_owns ho7
          go_ret2
          exact ⟨_, rfl, HB2.out.trans (hb7.mono HB2.out.size), by rw [HRes.out]; exact ⟨hI7, owns_mono ho7 HB2.out.size⟩⟩
  · have hvl := fun w' (hb : Below w.heap.size w w') => mvalues_any _ _ ⟨m.vars, []⟩ code w' (Nat.lt_of_lt_of_le hB hb.size) (hT.below hb hB) (hVb w' hb ao cap rfl)
    rw [wcode_bare _ hm] at hvl
    have hnl : nxtL m code = [] := by unfold nxtL; rw [if_neg hw]
    rw [hnl]
    subst hro
    generalize wcode m code = c at *
    generalize wvals ⟨m.vars, []⟩ code = vs at *
    generalize m.vars.length = n at *
    generalize m.rules.length = rn at *
    clear hV hT hVb hnl hm
    go_enter Tryz.func83, Tryz.ntmps83
    go_wp2_with (first | (go_at_call 75; refine (hba _).mono ?_; rintro e w2 ⟨rfl, hb2⟩; have hbw2 := (hA _).trans (hb2.mono (hA _).size)) | (go_at_call 74; refine (hvl _ hbw2).mono ?_; rintro e w3 ⟨v, rfl, hb3, _⟩))
    go_ret2
    exact ⟨_, rfl, hbw2.trans (hb3.mono hbw2.size), ⟨none, 0, rfl, fun h => absurd rfl h⟩, World.ownsRow_nil _ _ _ _⟩

theorem nextOf_any (va vr : Value) (m : Mo) (code : Int) (w : World) (hB : 0 < w.heap.size) (hT : TabAt w) (hV : ModelV w va vr m) (hm : mcode m = 0) :
    Calls Tryz.prog 83 #[.agg #[va, vr], .int .i64 code] w fun e w' => ∃ v, e = .returned (.tuple #[v, .int .i64 (wcode m code)]) ∧ Below w.heap.size w w' ∧ IntsV w' v (nxtL m code) :=
  (nextOf_own va vr m code w hB hT hV hm).mono fun _ _ ⟨v, h1, h2, h3, _⟩ => ⟨v, h1, h2, h3⟩

set_option maxHeartbeats 1600000 in
set_option maxRecDepth 20000 in
/-- THE CONTRACT OF Next. -/
theorem next_any (va vr : Value) (m : Mo) (code : Int) (w : World) (hB : 0 < w.heap.size) (hT : TabAt w) (hV : ModelV w va vr m) :
    Calls Tryz.prog 60 #[.agg #[va, vr], .int .i64 code] w fun e w' => ∃ v, e = .returned (.tuple #[v, .int .i64 (wcode m code)]) ∧ Below w.heap.size w w' ∧ IntsV w' v (nxtL m code) := by
  have hA : ∀ o, Below w.heap.size w (w.alloc o) := fun o => (Below.refl _ _).alloc (Nat.le_refl _) o
  have hch := fun o => mcheck_any va vr m (w.alloc o) (Nat.lt_of_lt_of_le hB (hA o).size) (hT.below (hA o) hB) (hV.below (hA o))
  by_cases hm : mcode m = 0
  · have hne := fun w' (hb : Below w.heap.size w w') => nextOf_any va vr m code w' (Nat.lt_of_lt_of_le hB hb.size) (hT.below hb hB) (hV.below hb) hm
    rw [hm] at hch
    obtain ⟨ao, cap, rfl⟩ := hV.1.shape
    obtain ⟨ro, rc, rfl⟩ := hV.2.shape
    generalize wcode m code = c at *
    generalize nxtL m code = res at *
    generalize m.vars.length = n at *
    generalize m.rules.length = rn at *
    clear hV hT hm
    go_enter Tryz.func60, Tryz.ntmps60
    go_wp2_with (first | (go_at_call 72; refine (hch _).mono ?_; rintro e w1 ⟨rfl, hb1⟩; have hbw1 := (hA _).trans (hb1.mono (hA _).size); have k10 : w1.cell? ⟨w.heap.size, 0, none⟩ = some (.slice ao n cap) := (hb1.cell (p := ⟨w.heap.size, 0, none⟩) (by simp)).trans (by simp [go_sem]); have k11 : w1.cell? ⟨w.heap.size, 1, none⟩ = some (.slice ro rn rc) := (hb1.cell (p := ⟨w.heap.size, 1, none⟩) (by simp)).trans (by simp [go_sem])) | (go_at_call 83; refine (hne _ hbw1).mono ?_; rintro e w2 ⟨v, rfl, hb2, hI2⟩))
    go_ret2
    exact ⟨_, rfl, hbw1.trans (hb2.mono hbw1.size), hI2⟩
  · have hw : wcode m code = mcode m := wcode_bad hm
    have hnl : nxtL m code = [] := by unfold nxtL; rw [if_neg (by rw [hw]; exact hm)]
    rw [hw, hnl]
    obtain ⟨ao, cap, rfl⟩ := hV.1.shape
    obtain ⟨ro, rc, rfl⟩ := hV.2.shape
    generalize mcode m = c at *
    generalize m.vars.length = n at *
    generalize m.rules.length = rn at *
    clear hV hT hw hnl
    go_enter Tryz.func60, Tryz.ntmps60
    go_wp2_with (go_at_call 72; refine (hch _).mono ?_; rintro e w1 ⟨rfl, hb1⟩)
    go_ret2
    exact ⟨_, rfl, (hA _).trans (hb1.mono (hA _).size), none, 0, rfl, fun h => absurd rfl h⟩
end Go.Proofs.YtdlpmomohbdpgaaGreatDoor

/-
  step.Next hands its row as the caller's own.
-/
namespace Go.Proofs.YtdlpmomohbdpgaaGreatDoor
open Go.ChangeShapes Go.WideShapes Go.ChangeAt Go.RowKit Go.Deep
open Terms Tm

set_option maxHeartbeats 1600000 in
set_option maxRecDepth 20000 in
/-- Next's list lies in memory of its own. -/
theorem next_own (va vr : Value) (m : Mo) (code : Int) (w : World) (hB : 0 < w.heap.size) (hT : TabAt w) (hV : ModelV w va vr m) (hm : mcode m = 0) :
    Calls Tryz.prog 60 #[.agg #[va, vr], .int .i64 code] w fun e w' => ∃ v, e = .returned (.tuple #[v, .int .i64 (wcode m code)]) ∧ Below w.heap.size w w' ∧ w'.ownsRow w.heap.size 3 1 v (nxtL m code).length (ivals (nxtL m code)) := by
  have hA : ∀ o, Below w.heap.size w (w.alloc o) := fun o => (Below.refl _ _).alloc (Nat.le_refl _) o
  have hch := fun o => mcheck_any va vr m (w.alloc o) (Nat.lt_of_lt_of_le hB (hA o).size) (hT.below (hA o) hB) (hV.below (hA o))
  have hne := fun w' (hb : Below w.heap.size w w') => nextOf_own va vr m code w' (Nat.lt_of_lt_of_le hB hb.size) (hT.below hb hB) (hV.below hb) hm
  rw [hm] at hch
  obtain ⟨ao, cap, rfl⟩ := hV.1.shape
  obtain ⟨ro, rc, rfl⟩ := hV.2.shape
  generalize wcode m code = c at *
  generalize nxtL m code = res at *
  generalize m.vars.length = n at *
  generalize m.rules.length = rn at *
  clear hV hT hm
  go_enter Tryz.func60, Tryz.ntmps60
  go_wp2_with (first | (go_at_call 72; refine (hch _).mono ?_; rintro e w1 ⟨rfl, hb1⟩; have hbw1 := (hA _).trans (hb1.mono (hA _).size); have k10 : w1.cell? ⟨w.heap.size, 0, none⟩ = some (.slice ao n cap) := (hb1.cell (p := ⟨w.heap.size, 0, none⟩) (by simp)).trans (by simp [go_sem]); have k11 : w1.cell? ⟨w.heap.size, 1, none⟩ = some (.slice ro rn rc) := (hb1.cell (p := ⟨w.heap.size, 1, none⟩) (by simp)).trans (by simp [go_sem])) | (go_at_call 83; refine (hne _ hbw1).mono ?_; rintro e w2 ⟨v, rfl, hb2, hI2, ho2⟩))
  go_ret2
  exact ⟨_, rfl, hbw1.trans (hb2.mono hbw1.size), owns_mono ho2 hbw1.size⟩
end Go.Proofs.YtdlpmomohbdpgaaGreatDoor

/-
  States as a survey keeps them; a survey as it lies, with its two maps.
-/
namespace Go.Proofs.YtdlpmomohbdpgaaGreatDoor
open Go.ChangeShapes Go.WideShapes Go.ChangeAt Go.RowKit Go.Deep Go.Maps
open Terms Tm

/-- the signs of a state, by claims. -/
noncomputable def sgAt (l : List (Int × Int)) (lt : List Bool) (c : Nat) : Int := signN l (tru l lt (c : Int))
noncomputable def sgL (l : List (Int × Int)) (lt : List Bool) : List Int := (List.range (2 ^ (aheadL l).length)).map fun (c : Nat) => sgAt l lt c
theorem sgL_len (l : List (Int × Int)) (lt : List Bool) : (sgL l lt).length = 2 ^ (aheadL l).length := by simp [sgL]
theorem sgL_at {l : List (Int × Int)} {lt : List Bool} {c : Nat} (h : c < 2 ^ (aheadL l).length) : (sgL l lt).getD c 0 = sgAt l lt c := by simp [sgL, List.getD_eq_getElem?_getD, h]
theorem BoolsV.sk {bs bl : Nat} {w w' : World} {v : Value} {x : List Bool} (h : BoolsV w v x) (hs : Sk bs bl w w') (hm : TwoMaps w bs bl) : BoolsV w' v x := by
  obtain ⟨ao, cap, rfl, h⟩ := h
  refine ⟨ao, cap, rfl, fun hne => ?_⟩
  obtain ⟨b, off, rfl, hlt, hat⟩ := h hne
  exact ⟨b, off, rfl, Nat.lt_of_lt_of_le hlt hs.size, fun i hi => hs.cell hm (hat i hi)⟩
theorem IntsV.sk {bs bl : Nat} {w w' : World} {v : Value} {x : List Int} (h : IntsV w v x) (hs : Sk bs bl w w') (hm : TwoMaps w bs bl) : IntsV w' v x := by
  obtain ⟨ao, cap, rfl, h⟩ := h
  refine ⟨ao, cap, rfl, fun hne => ?_⟩
  obtain ⟨b, off, rfl, hlt, hat⟩ := h hne
  exact ⟨b, off, rfl, Nat.lt_of_lt_of_le hlt hs.size, fun i hi => hs.cell hm (hat i hi)⟩
theorem SurvAt.sk {bs bl : Nat} {w w' : World} {B : Nat} {va vr pv fv av : Value} (h : SurvAt w B va vr pv fv av bs bl) (hs : Sk bs bl w w') (hm : TwoMaps w bs bl) : SurvAt w' B va vr pv fv av bs bl :=
  ⟨Nat.lt_of_lt_of_le h.lt hs.size, hs.cell hm h.c0, hs.cell hm h.c1, hs.cell hm h.c2, hs.cell hm h.c3, hs.cell hm h.c4, hs.cell hm h.c5, hs.cell hm h.c6⟩
theorem SpO.sk {bs bl : Nat} {w w' : World} {base : Nat} {v : Value} {x : List (Int × Int)} (h : SpO w base v x) (hs : Sk bs bl w w') (hm : TwoMaps w bs bl) : SpO w' base v x := by
  refine ⟨h.1, ?_⟩
  rcases h.2 with h0 | ⟨g, cap, cur, h1, h2, h3, h4⟩
  · exact .inl h0
  · refine .inr ⟨g, cap, cur, h1, h2, ?_, h4⟩
    obtain ⟨⟨es, c, e1⟩, ⟨es', c', e2⟩⟩ := hm
    rw [hs.block g (Array.getElem?_eq_some_iff.1 h3).1 (fun e => by subst e; rw [e1] at h3; simp at h3) (fun e => by subst e; rw [e2] at h3; simp at h3)]
    exact h3
theorem RowTy.sk {bs bl : Nat} {w w' : World} {v : Value} {t : TypeId} (h : RowTy w v t) (hs : Sk bs bl w w') (hm : TwoMaps w bs bl) : RowTy w' v t := by
  intro a n c e
  obtain ⟨cs, fr, h1⟩ := h a n c e
  obtain ⟨⟨es, cl, e1⟩, ⟨es', cl', e2⟩⟩ := hm
  refine ⟨cs, fr, ?_⟩
  rw [hs.block a.block (Array.getElem?_eq_some_iff.1 h1).1 (fun e => by rw [e, e1] at h1; simp at h1) (fun e => by rw [e, e2] at h1; simp at h1)]
  exact h1
theorem RowTy.below {w w' : World} {v : Value} {t : TypeId} (h : RowTy w v t) (hb : Below w.heap.size w w') : RowTy w' v t := by
  intro a n c e
  obtain ⟨cs, fr, h1⟩ := h a n c e
  exact ⟨cs, fr, (hb.block _ (Array.getElem?_eq_some_iff.1 h1).1).trans h1⟩
theorem RowTy.setCell {w : World} {v : Value} {t : TypeId} (h : RowTy w v t) (b i : Nat) (u : Value) : RowTy (w.setCell ⟨b, i, none⟩ u) v t := by
  intro a n c e
  obtain ⟨cs, fr, h1⟩ := h a n c e
  by_cases hp : a.block = b
  · refine ⟨cs.setIfInBounds i u, fr, ?_⟩
    simp [World.setCell, Array.getElem?_modify, ← hp, h1]
  · exact ⟨cs, fr, (RowKit.Below.heap_setCell _ _ _ _ hp).trans h1⟩
theorem RowTy.grown {w w' : World} {v : Value} {t t' : TypeId} {own : Option Nat} (h : RowTy w v t) (hg : w.grownBy w' own) (ht : t ≠ t') (ho : ∀ g, own = some g → ∃ cs fr, w.heap[g]? = some (.cells cs t' fr)) : RowTy w' v t := by
  intro a n c e
  obtain ⟨cs, fr, h1⟩ := h a n c e
  refine ⟨cs, fr, (hg.block _ (Array.getElem?_eq_some_iff.1 h1).1 (fun e2 => ?_)).trans h1⟩
  obtain ⟨cs', fr', h2⟩ := ho _ e2.symm
  rw [h1] at h2
  injection h2 with h2
  injection h2 with _ h3 _
  exact ht h3
theorem RowTy.owns {w : World} {base n : Nat} {v : Value} {t : TypeId} {s : Nat} {xs : List Value} (h : w.ownsRow base t s v n xs) : RowTy w v t := by
  intro a k c e
  rcases h.2 with ⟨h0, _⟩ | ⟨g, cap, cur, h1, _, h3, _⟩
  · rw [h0] at e; simp at e
  · rw [h1] at e
    injection e with e _ _
    injection e with e
    subst e
    exact ⟨cur, _, h3⟩
theorem BoolsV.grown {w w' : World} {v : Value} {x : List Bool} {own : Option Nat} (h : BoolsV w v x) (hty : RowTy w v 4) (hg : w.grownBy w' own) (ho : ∀ g, own = some g → ∃ cs fr, w.heap[g]? = some (.cells cs 31 fr)) : BoolsV w' v x := by
  obtain ⟨ao, cap, rfl, h⟩ := h
  refine ⟨ao, cap, rfl, fun hne => ?_⟩
  obtain ⟨b, off, rfl, hlt, hat⟩ := h hne
  refine ⟨b, off, rfl, Nat.lt_of_lt_of_le hlt hg.size, fun i hi => ?_⟩
  obtain ⟨cs, fr, h1⟩ := hty _ _ _ rfl
  rw [World.cell?_of_block (hg.block b hlt (fun e2 => by
    obtain ⟨cs', fr', h2⟩ := ho _ e2.symm
    rw [h1] at h2
    injection h2 with h2
    injection h2 with _ h3 _
    exact absurd h3 (by decide)))]
  exact hat i hi
theorem IntsV.grown {w w' : World} {v : Value} {x : List Int} {own : Option Nat} (h : IntsV w v x) (hty : RowTy w v 3) (hg : w.grownBy w' own) (ho : ∀ g, own = some g → ∃ cs fr, w.heap[g]? = some (.cells cs 31 fr)) : IntsV w' v x := by
  obtain ⟨ao, cap, rfl, h⟩ := h
  refine ⟨ao, cap, rfl, fun hne => ?_⟩
  obtain ⟨b, off, rfl, hlt, hat⟩ := h hne
  refine ⟨b, off, rfl, Nat.lt_of_lt_of_le hlt hg.size, fun i hi => ?_⟩
  obtain ⟨cs, fr, h1⟩ := hty _ _ _ rfl
  rw [World.cell?_of_block (hg.block b hlt (fun e2 => by
    obtain ⟨cs', fr', h2⟩ := ho _ e2.symm
    rw [h1] at h2
    injection h2 with h2
    injection h2 with _ h3 _
    exact absurd h3 (by decide)))]
  exact hat i hi
/-- a state as it is kept. -/
def StOk (w : World) (m : Mo) (ps : List (List (Int × Int))) (l : List (Int × Int)) (code : Int) (v : Value) : Prop :=
  ∃ lo lc no nc so sc, v = .agg #[.slice lo ps.length lc, .slice no (nextL m code).length nc, .slice so (2 ^ (aheadL l).length) sc] ∧ BoolsV w (.slice lo ps.length lc) (letL m ps code) ∧ IntsV w (.slice no (nextL m code).length nc) (nextL m code) ∧ IntsV w (.slice so (2 ^ (aheadL l).length) sc) (sgL l (letL m ps code)) ∧ RowTy w (.slice lo ps.length lc) 4 ∧ RowTy w (.slice no (nextL m code).length nc) 3 ∧ RowTy w (.slice so (2 ^ (aheadL l).length) sc) 3
theorem StOk.sk {bs bl : Nat} {w w' : World} {m : Mo} {ps : List (List (Int × Int))} {l : List (Int × Int)} {code : Int} {v : Value} (h : StOk w m ps l code v) (hs : Sk bs bl w w') (hm : TwoMaps w bs bl) : StOk w' m ps l code v := by
  obtain ⟨lo, lc, no, nc, so, sc, h1, h2, h3, h4, h5, h6, h7⟩ := h
  exact ⟨lo, lc, no, nc, so, sc, h1, h2.sk hs hm, h3.sk hs hm, h4.sk hs hm, h5.sk hs hm, h6.sk hs hm, h7.sk hs hm⟩
theorem StOk.below {w w' : World} {m : Mo} {ps : List (List (Int × Int))} {l : List (Int × Int)} {code : Int} {v : Value} (h : StOk w m ps l code v) (hb : Below w.heap.size w w') : StOk w' m ps l code v := by
  obtain ⟨lo, lc, no, nc, so, sc, h1, h2, h3, h4, h5, h6, h7⟩ := h
  exact ⟨lo, lc, no, nc, so, sc, h1, h2.below hb, h3.below hb, h4.below hb, h5.below hb, h6.below hb, h7.below hb⟩
theorem StOk.grown {w w' : World} {m : Mo} {ps : List (List (Int × Int))} {l : List (Int × Int)} {code : Int} {v : Value} {own : Option Nat} (h : StOk w m ps l code v) (hg : w.grownBy w' own) (ho : ∀ g, own = some g → ∃ cs fr, w.heap[g]? = some (.cells cs 31 fr)) : StOk w' m ps l code v := by
  obtain ⟨lo, lc, no, nc, so, sc, h1, h2, h3, h4, h5, h6, h7⟩ := h
  exact ⟨lo, lc, no, nc, so, sc, h1, h2.grown h5 hg ho, h3.grown h6 hg ho, h4.grown h7 hg ho, h5.grown hg (by decide) ho, h6.grown hg (by decide) ho, h7.grown hg (by decide) ho⟩
/-- a letter as an array of six. -/
def six (x : List Bool) : List Bool := x ++ List.replicate (6 - x.length) false
/-- a link as a value. -/
def linkV (x : List Bool) (c sg : Int) : Value := .agg ((six x).map Value.bool ++ [Value.int .i64 c, Value.int .i64 sg]).toArray
theorem linkV_inj {x y : List Bool} {c d s t : Int} (hl : x.length = y.length) (h : linkV x c s = linkV y d t) : x = y ∧ c = d ∧ s = t := by
  unfold linkV at h
  injection h with h
  have h1 := congrArg Array.toList h
  have hs : ((six x).map Value.bool).length = ((six y).map Value.bool).length := by simp [six, hl]
  obtain ⟨h2, h3⟩ := List.append_inj h1 hs
  have h4 : six x = six y := by
    have := List.map_inj_right (f := Value.bool) (fun a b hab => by injection hab) |>.1 h2
    exact this
  unfold six at h4
  have h5 := (List.append_inj h4 hl).1
  simp at h3
  exact ⟨h5, h3.1, h3.2⟩
/-- a link as it is kept: whatever has that sign follows just if it says so. -/
def LinkOk (ps : List (List (Int × Int))) (l : List (Int × Int)) (kl : Lit) (v : Value) : Prop :=
  ∃ (x : List Bool) (c sg : Int) (b : Bool), x.length = ps.length ∧ keyOf Tryz.prog 121 (linkV x c sg) = some kl ∧ v = .agg #[.bool b] ∧ ∀ (y : List Bool) (d : Int), y.length = ps.length → tcode l y d = 0 → signN l (tru l y d) = sg → folR l x c y d = b
/-- a survey as it lies, with its two maps. -/
structure SvOk (w0 w : World) (B bs bl n : Nat) (va vr pv fv : Value) (m : Mo) (ps : List (List (Int × Int))) (l : List (Int × Int)) (ho : Option Addr) (hc : Nat) : Prop where
  box : SurvAt w B va vr pv fv (.slice ho (aheadL l).length hc) bs bl
  bel : Below w0.heap.size w0 w
  lo1 : w0.heap.size ≤ bs
  lo2 : w0.heap.size ≤ bl
  ne : bs ≠ bl
  ah : IntsV w (.slice ho (aheadL l).length hc) (aheadL l)
  aty : RowTy w (.slice ho (aheadL l).length hc) 3
  st : ∃ f, MapIs w 3 bs n f ∧ ∀ kl v, f kl = some v → ∃ code, kl = .int .i64 code ∧ (0 ≤ code ∧ code < prodTo m.vars m.vars.length) ∧ StOk w m ps l code v
  li : ∃ f, MapIs w 121 bl n f ∧ ∀ kl v, f kl = some v → LinkOk ps l kl v
section
variable {w0 w w' : World} {B bs bl n : Nat} {va vr pv fv : Value} {m : Mo} {ps : List (List (Int × Int))} {l : List (Int × Int)} {ho : Option Addr} {hc : Nat}
theorem SvOk.two (h : SvOk w0 w B bs bl n va vr pv fv m ps l ho hc) : TwoMaps w bs bl := by
  obtain ⟨f, h1, _⟩ := h.st
  obtain ⟨g, h2, _⟩ := h.li
  exact ⟨h1.isMap, h2.isMap⟩
theorem SvOk.below (h : SvOk w0 w B bs bl n va vr pv fv m ps l ho hc) (hb : Below w.heap.size w w') : SvOk w0 w' B bs bl n va vr pv fv m ps l ho hc := by
  obtain ⟨f, h1, h2⟩ := h.st
  obtain ⟨g, h3, h4⟩ := h.li
  refine ⟨h.box.later hb, h.bel.trans (hb.mono h.bel.size), h.lo1, h.lo2, h.ne, h.ah.below hb, h.aty.below hb, ⟨f, h1.kept (hb.block _ h1.lt), fun kl v hv => ?_⟩, ⟨g, h3.kept (hb.block _ h3.lt), h4⟩⟩
  obtain ⟨code, e1, e2, e3⟩ := h2 kl v hv
  exact ⟨code, e1, e2, e3.below hb⟩
theorem MapIs.mono {w : World} {kt : TypeId} {b n n' : Nat} {f : Lit → Option Value} (h : MapIs w kt b n f) (hn : n ≤ n') : MapIs w kt b n' f := by
  obtain ⟨D, h1, h2⟩ := h
  exact ⟨D, h1.mono hn, h2⟩
theorem SvOk.mono {n' : Nat} (h : SvOk w0 w B bs bl n va vr pv fv m ps l ho hc) (hn : n ≤ n') : SvOk w0 w B bs bl n' va vr pv fv m ps l ho hc := by
  obtain ⟨f, h1, h2⟩ := h.st
  obtain ⟨g, h3, h4⟩ := h.li
  exact ⟨h.box, h.bel, h.lo1, h.lo2, h.ne, h.ah, h.aty, ⟨f, h1.mono hn, h2⟩, ⟨g, h3.mono hn, h4⟩⟩
/-- a state is put. -/
theorem SvOk.putS (h : SvOk w0 w B bs bl n va vr pv fv m ps l ho hc) {f : Lit → Option Value} {code : Int} {v : Value} (hg : w.grownBy w' (some bs)) (h2 : ∀ kl v, f kl = some v → ∃ code, kl = .int .i64 code ∧ (0 ≤ code ∧ code < prodTo m.vars m.vars.length) ∧ StOk w m ps l code v)
    (hm : MapIs w' 3 bs (n + 1) (fput f (.int .i64 code) v)) (hc' : 0 ≤ code ∧ code < prodTo m.vars m.vars.length) (hv : StOk w m ps l code v) : SvOk w0 w' B bs bl (n + 1) va vr pv fv m ps l ho hc := by
  have hs : Sk bs bl w w' := Sk.grown hg (.inl rfl)
  have ht := h.two
  obtain ⟨g, h3, h4⟩ := h.li
  refine ⟨h.box.sk hs ht, h.bel.trans (hs.below h.lo1 h.lo2 h.bel.size), h.lo1, h.lo2, h.ne, h.ah.sk hs ht, h.aty.sk hs ht, ⟨_, hm, fun kl u hu => ?_⟩, ⟨g, (h3.kept (hg.block _ h3.lt (by intro e; injection e with e; exact h.ne e.symm))).mono (Nat.le_succ _), h4⟩⟩
  by_cases hk : kl = .int .i64 code
  · subst hk
    rw [fput_same] at hu
    cases hu
    exact ⟨code, rfl, hc', hv.sk hs ht⟩
  · rw [fput_other hk] at hu
    obtain ⟨c, e1, e2, e3⟩ := h2 kl u hu
    exact ⟨c, e1, e2, e3.sk hs ht⟩
/-- a link is put. -/
theorem SvOk.putL (h : SvOk w0 w B bs bl n va vr pv fv m ps l ho hc) {f : Lit → Option Value} {kl : Lit} {v : Value} (hg : w.grownBy w' (some bl)) (h2 : ∀ kl v, f kl = some v → LinkOk ps l kl v)
    (hm : MapIs w' 121 bl (n + 1) (fput f kl v)) (hv : LinkOk ps l kl v) : SvOk w0 w' B bs bl (n + 1) va vr pv fv m ps l ho hc := by
  have hs : Sk bs bl w w' := Sk.grown hg (.inr rfl)
  have ht := h.two
  obtain ⟨g, h3, h4⟩ := h.st
  refine ⟨h.box.sk hs ht, h.bel.trans (hs.below h.lo1 h.lo2 h.bel.size), h.lo1, h.lo2, h.ne, h.ah.sk hs ht, h.aty.sk hs ht, ⟨g, (h3.kept (hg.block _ h3.lt (by intro e; injection e with e; exact h.ne e))).mono (Nat.le_succ _), fun k u hu => ?_⟩, ⟨_, hm, fun k u hu => ?_⟩⟩
  · obtain ⟨c, e1, e2, e3⟩ := h4 k u hu
    exact ⟨c, e1, e2, e3.sk hs ht⟩
  · by_cases hk : k = kl
    · subst hk
      rw [fput_same] at hu
      cases hu
      exact hv
    · rw [fput_other hk] at hu
      exact h2 k u hu
/-- a row of spots grows elsewhere. -/
theorem SvOk.spots {own : Option Nat} (h : SvOk w0 w B bs bl n va vr pv fv m ps l ho hc) (hg : w.grownBy w' own) (hown : ∀ g, own = some g → B < g ∧ w0.heap.size ≤ g ∧ ∃ cs fr, w.heap[g]? = some (.cells cs 31 fr)) : SvOk w0 w' B bs bl n va vr pv fv m ps l ho hc := by
  have hty : ∀ g, own = some g → ∃ cs fr, w.heap[g]? = some (.cells cs 31 fr) := fun g e => (hown g e).2.2
  have hbx : ∀ i v, w.cell? ⟨B, i, none⟩ = some v → w'.cell? ⟨B, i, none⟩ = some v := fun i v hv => by
    rw [World.cell?_of_block (hg.block B h.box.lt (fun e => by have := (hown B e.symm).1; omega))]
    exact hv
  obtain ⟨f, h1, h2⟩ := h.st
  obtain ⟨q, h3, h4⟩ := h.li
  have hms : ∀ b es c, w.heap[b]? = some (.map es c) → b < w.heap.size → w'.heap[b]? = w.heap[b]? := fun b es c e hlt => hg.block b hlt (fun e2 => by
    obtain ⟨cs, fr, e3⟩ := hty b e2.symm
    rw [e] at e3
    simp at e3)
  obtain ⟨es1, c1, m1⟩ := h1.isMap
  obtain ⟨es2, c2, m2⟩ := h3.isMap
  refine ⟨⟨Nat.lt_of_lt_of_le h.box.lt hg.size, hbx _ _ h.box.c0, hbx _ _ h.box.c1, hbx _ _ h.box.c2, hbx _ _ h.box.c3, hbx _ _ h.box.c4, hbx _ _ h.box.c5, hbx _ _ h.box.c6⟩, ?_, h.lo1, h.lo2, h.ne, h.ah.grown h.aty hg hty, h.aty.grown hg (by decide) hty, ⟨f, h1.kept (hms bs _ _ m1 h1.lt), fun kl v hv => ?_⟩, ⟨q, h3.kept (hms bl _ _ m2 h3.lt), h4⟩⟩
  · refine h.bel.trans ⟨hg.os, hg.tape, hg.output, hg.size, fun i hi => hg.block i (Nat.lt_of_lt_of_le hi h.bel.size) (fun e => by have := (hown i e.symm).2.1; omega)⟩
  · obtain ⟨code, e1, e2, e3⟩ := h2 kl v hv
    exact ⟨code, e1, e2, e3.grown hg hty⟩
end
end Go.Proofs.YtdlpmomohbdpgaaGreatDoor

/-
  The contract of the survey's signOf.
-/
namespace Go.Proofs.YtdlpmomohbdpgaaGreatDoor
open Go.ChangeShapes Go.WideShapes Go.ChangeAt Go.RowKit Go.Deep
open Terms Tm

set_option maxHeartbeats 1600000 in
set_option maxRecDepth 20000 in
/-- THE CONTRACT OF signOf. -/
theorem signOf_any (B : Nat) (va vr pv fv lv : Value) (l : List (Int × Int)) (lt : List Bool) (c : Nat) (ho : Option Addr) (hcp bs bl : Nat) (w : World) (hB : 0 < w.heap.size) (hT : TabAt w) (hF : OpsV w fv l) (hL : BoolsV w lv lt)
    (hz : endsCode (l.map Prod.fst) = 0) (h6 : (aheadL l).length ≤ 6) (htc : tcode l lt (c : Int) = 0) (hS : SurvAt w B va vr pv fv (.slice ho (aheadL l).length hcp) bs bl) (hA : IntsV w (.slice ho (aheadL l).length hcp) (aheadL l)) :
    Calls Tryz.prog 61 #[.pointer (some ⟨B, 0, none⟩), lv, .int .i64 (c : Int)] w fun e w' => e = .returned (.tuple #[.int .i64 (sgAt l lt c), .int .i64 0]) ∧ Below w.heap.size w w' := by
  obtain ⟨hne, h60⟩ := ends_ne hz
  rw [List.length_map] at h60
  have hl0 : 0 < l.length := by
    rcases Nat.eq_zero_or_pos l.length with h0 | h0
    · rw [List.length_eq_zero_iff.1 h0] at hne
      simp at hne
    · exact h0
  have htr : Calls Tryz.prog 54 #[fv, lv, .int .i64 (c : Int)] w fun e w' => ∃ b off cp, e = .returned (.tuple #[.slice (some ⟨b, off, none⟩) l.length cp, .int .i64 0]) ∧ Below w.heap.size w w' ∧ b < w'.heap.size ∧ Hid (∀ j, j < l.length → w'.cell? ⟨b, off + j, none⟩ = some (.bool (tru l lt (c : Int) j))) := by
    refine (ltruths_any fv lv l lt (c : Int) w hB hT hF hL).mono fun e w' ⟨v, h1, h2, h3⟩ => ?_
    have t2 : truL l lt (c : Int) = (List.range l.length).map (tru l lt (c : Int)) := by unfold truL; rw [if_pos htc]
    rw [t2] at h3
    obtain ⟨lo, lc, rfl, hx⟩ := h3
    obtain ⟨b, off, rfl, hb, hat⟩ := hx (by intro h0; have := congrArg List.length h0; rw [List.length_map, List.length_range, List.length_nil] at this; omega)
    refine ⟨b, off, lc, by rw [h1, htc]; simp, h2, hb, fun j hj => ?_⟩
    have c0 := hat j (by simpa using hj)
    rw [c0]
    simp [List.getD_eq_getElem?_getD, hj]
  obtain ⟨fo, fc, rfl, _, hfv⟩ := id hF
  obtain ⟨fb, foff, rfl, hfb, hfat⟩ := hfv (by intro h0; rw [h0] at hl0; simp at hl0)
  obtain ⟨lo, lc, rfl, _⟩ := id hL
  have HP : Hid (∀ k, k < (aheadL l).length → ∃ p : Nat, (∃ ab aoff, ho = some ⟨ab, aoff, none⟩ ∧ ab < w.heap.size ∧ w.cell? ⟨ab, aoff + k, none⟩ = some (.int .i64 (p : Int))) ∧ p < l.length ∧ askP l p < l.length ∧ w.cell? ⟨fb, foff + p * 2, none⟩ = some (.int .i64 (l.getD p (0, 0)).1) ∧ ((aheadL l).getD k 0).toNat = p) := fun k hk => by
    obtain ⟨p, h1, h2, h3, _⟩ := aheadTo_get l l.length k hk
    obtain ⟨ao2, c2, e1, hah⟩ := hA
    injection e1 with e2 e3 e4
    subst e2
    obtain ⟨ab, aoff, rfl, hab, haat⟩ := hah (by intro h0; rw [h0] at hk; simp at hk)
    have h1' : (aheadL l).getD k 0 = (p : Int) := h1
    refine ⟨p, ⟨ab, aoff, rfl, hab, by rw [haat k hk, h1']⟩, h2, ?_, (hfat p h2).1, by rw [h1']; rfl⟩
    unfold askP
    split
    · refine (part_in hz h2).1 ?_
      have hk' : 14 ≤ (l.getD p (0, 0)).1 ∧ (l.getD p (0, 0)).1 ≤ 18 := by simpa [lookB] using h3
      unfold pn
      split
      · omega
      · split <;> omega
    · exact h2
  have HSt : Hid (∀ k, signTo l (tru l lt (c : Int)) (k + 1) = signTo l (tru l lt (c : Int)) k + if tru l lt (c : Int) (askP l ((aheadL l).getD k 0).toNat) = true then 2 ^ k else 0) := fun _ => rfl
  have HSb : Hid (∀ k, 0 ≤ signTo l (tru l lt (c : Int)) k ∧ signTo l (tru l lt (c : Int)) k < 2 ^ k) := signTo_bounds _ _
  have HS0 : Hid (signTo l (tru l lt (c : Int)) 0 = 0) := rfl
  unfold sgAt signN
  generalize signTo l (tru l lt (c : Int)) = sg at *
  generalize hth : tru l lt (c : Int) = th at *
  obtain ⟨_, s0, s1, s2, s3, s4, s5, s6⟩ := id hS
  have HS : Hid (∀ w1, Below w.heap.size w w1 → w1.cell? ⟨B, 3, none⟩ = some (.slice (some ⟨fb, foff, none⟩) l.length fc) ∧ w1.cell? ⟨B, 4, none⟩ = some (.slice ho (aheadL l).length hcp)) := fun w1 h => ⟨(hS.later h).c3, (hS.later h).c4⟩
  have HFb : Hid (fb < w.heap.size) := hfb
  generalize (aheadL l).length = an at *
  generalize lt.length = ltn at *
  generalize hnn : l.length = n at *
  clear hT hF hL hz htc hA hfv hfat hnn hth hS hne hfb
  go_enter Tryz.func61, Tryz.ntmps61
  go_wp2_with (first | (go_at_call 54; refine htr.mono ?_; rintro e w1 ⟨b, off, cp, rfl, hb1, hblt, HTb⟩; obtain ⟨q3, q4⟩ := HS.out w1 hb1))
  clear htr
  go_loopw [10, 33] (fun x i wr => ∃ k : Nat, k ≤ an ∧ i = .int .i64 (k : Int) ∧ x = .int .i64 (sg k) ∧ wr = w1) (fun _ i _ => an - (intOf i).toNat)
  case atStart => exact ⟨0, Nat.zero_le _, rfl, by rw [HS0.out], rfl⟩
  case round =>
    obtain ⟨k, hk, rfl, rfl, rfl⟩ := hrel
    by_cases hlt : k < an
    · obtain ⟨p, ⟨ab, aoff, rfl, hab, hca⟩, hpn, hpa, hpc, hpi⟩ := HP.out k hlt
      have HSk := (show Hid _ from HSt.out k)
      rw [hpi] at HSk
      have d0 := (hb1.cell (p := ⟨ab, aoff + k, none⟩) hab).trans hca
      have d1 := (hb1.cell (p := ⟨fb, foff + p * 2, none⟩) HFb.out).trans hpc
      have d2 := HTb.out (askP l p) hpa
      obtain ⟨hm0, hm1⟩ := HSb.out k
      have hk6 : k < 6 := by omega
      have hps := pow_small (k := k) (by omega)
      have h2k : (0 : Int) < 2 ^ k := Int.pow_pos (by decide)
      have HOr : Hid (bits BinOp.or IntKind.i64 (sg k) (2 ^ k) = sg k + 2 ^ k) := or_bit hk6 hm0 hm1
      have hpi2 : (p : Int) < (n : Int) := by omega
      unfold askP at d2 hpa HSk
      clear HP HSt HSb hca hpc hpi
      by_cases h14 : (l.getD p (0, 0)).1 = 14
      · rw [if_pos h14] at d2 hpa HSk
        rw [h14] at d1
        have hpa2 : (p : Int) + 1 < (n : Int) := by omega
        clear h14
        generalize th (p + 1) = tv at *
        cases tv with
        | true =>
          have HS2 : Hid (sg (k + 1) = sg k + 2 ^ k) := by show _ = _; rw [HSk.out]; simp
          clear HSk
          go_wp2_with fail
          exact ⟨⟨k + 1, hlt, by first | rfl | simp, by rw [HS2.out, ← HOr.out], by trivial⟩, by simp [intOf]; omega⟩
        | false =>
          have HS2 : Hid (sg (k + 1) = sg k) := by show _ = _; rw [HSk.out]; simp
          clear HSk
          go_wp2_with fail
          exact ⟨⟨k + 1, hlt, by first | rfl | simp, by rw [HS2.out], by trivial⟩, by simp [intOf]; omega⟩
      · rw [if_neg h14] at d2 hpa HSk
        generalize (l.getD p (0, 0)).1 = kx at *
        generalize th p = tv at *
        cases tv with
        | true =>
          have HS2 : Hid (sg (k + 1) = sg k + 2 ^ k) := by show _ = _; rw [HSk.out]; simp
          clear HSk
          go_wp2_with fail
          exact ⟨⟨k + 1, hlt, by first | rfl | simp, by rw [HS2.out, ← HOr.out], by trivial⟩, by simp [intOf]; omega⟩
        | false =>
          have HS2 : Hid (sg (k + 1) = sg k) := by show _ = _; rw [HSk.out]; simp
          clear HSk
          go_wp2_with fail
          exact ⟨⟨k + 1, hlt, by first | rfl | simp, by rw [HS2.out], by trivial⟩, by simp [intOf]; omega⟩
    · obtain rfl : k = an := by omega
      go_wp2_with fail
      go_ret2
      exact ⟨rfl, hb1⟩
end Go.Proofs.YtdlpmomohbdpgaaGreatDoor

/-
  The contract of the survey's stateOf.
-/
namespace Go.Proofs.YtdlpmomohbdpgaaGreatDoor
open Go.ChangeShapes Go.WideShapes Go.ChangeAt Go.RowKit Go.Deep Go.Maps
open Terms Tm

set_option maxRecDepth 20000 in
theorem keyedInt : Keyed Tryz.prog 3 := int_keyed Tryz.underlying3
set_option maxRecDepth 20000 in
theorem zeroState (w : World) : (zeroValue 88).run Tryz.prog w = .ok (.agg #[.slice none 0 0, .slice none 0 0, .slice none 0 0]) w := by kernel_rfl
set_option maxRecDepth 20000 in
theorem keyI {x : Int} (h : -9223372036854775808 ≤ x ∧ x ≤ 9223372036854775807) : keyOf Tryz.prog 3 (.int .i64 x) = some (.int .i64 x) := keyOf_int_mk Tryz.underlying3 (WalkArith.wf_i64 (by omega))
/-- three cells of a state. -/
def St3 (w : World) (b : Nat) (x y z : Value) : Prop := b < w.heap.size ∧ (w.cell? ⟨b, 0, none⟩ = some x ∧ w.cell? ⟨b, 1, none⟩ = some y ∧ w.cell? ⟨b, 2, none⟩ = some z) ∧ w.frozen? ⟨b, 0, none⟩ = false ∧ w.frozen? ⟨b, 1, none⟩ = false ∧ w.frozen? ⟨b, 2, none⟩ = false
theorem St3.new (w : World) (x y z : Value) (t : TypeId) : St3 (w.alloc (.cells #[x, y, z] t)) w.heap.size x y z := by
  refine ⟨by simp, ⟨?_, ?_, ?_⟩, ?_, ?_, ?_⟩ <;> simp [go_sem]
theorem St3.later {w w' : World} {b : Nat} {x y z : Value} (h : St3 w b x y z) (hb : Below w.heap.size w w') : St3 w' b x y z :=
  ⟨Nat.lt_of_lt_of_le h.1 hb.size, ⟨(hb.cell (p := ⟨b, 0, none⟩) h.1).trans h.2.1.1, (hb.cell (p := ⟨b, 1, none⟩) h.1).trans h.2.1.2.1, (hb.cell (p := ⟨b, 2, none⟩) h.1).trans h.2.1.2.2⟩, (hb.frozen (p := ⟨b, 0, none⟩) h.1).trans h.2.2.1, (hb.frozen (p := ⟨b, 1, none⟩) h.1).trans h.2.2.2.1, (hb.frozen (p := ⟨b, 2, none⟩) h.1).trans h.2.2.2.2⟩
/-- what stateOf leaves. -/
def StPost (w0 w : World) (B bs bl n : Nat) (va vr pv fv : Value) (m : Mo) (ps : List (List (Int × Int))) (l : List (Int × Int)) (ho : Option Addr) (hc : Nat) (code : Int) (e : Ending) (w' : World) : Prop :=
  Sk bs bl w w' ∧ Hid (SvOk w0 w' B bs bl (n + 1) va vr pv fv m ps l ho hc) ∧ ((wcode m code = 0 ∧ ∃ lo lc no nc so sc, e = .returned (.tuple #[.agg #[.slice lo ps.length lc, .slice no (nextL m code).length nc, .slice so (2 ^ (aheadL l).length) sc], .int .i64 0]) ∧ Hid (StOk w' m ps l code (.agg #[.slice lo ps.length lc, .slice no (nextL m code).length nc, .slice so (2 ^ (aheadL l).length) sc]))) ∨ (wcode m code ≠ 0 ∧ e = .returned (.tuple #[.agg #[.slice none 0 0, .slice none 0 0, .slice none 0 0], .int .i64 (wcode m code)])))

set_option maxHeartbeats 1600000 in
set_option maxRecDepth 20000 in
/-- one that is known. -/
theorem stateOf_known (w0 w : World) (B bs bl n : Nat) (va vr pv fv : Value) (m : Mo) (ps : List (List (Int × Int))) (l : List (Int × Int)) (ho : Option Addr) (hc : Nat) (code : Int) (hI : -9223372036854775808 ≤ code ∧ code ≤ 9223372036854775807) (hm0 : mcode m = 0) (hS : SvOk w0 w B bs bl n va vr pv fv m ps l ho hc)
    (f : Lit → Option Value) (hf : MapIs w 3 bs n f) (hfs : ∀ kl v, f kl = some v → ∃ code, kl = .int .i64 code ∧ (0 ≤ code ∧ code < prodTo m.vars m.vars.length) ∧ StOk w m ps l code v) (v : Value) (hv : f (.int .i64 code) = some v) :
    Calls Tryz.prog 40 #[.pointer (some ⟨B, 0, none⟩), .int .i64 code] w (StPost w0 w B bs bl n va vr pv fv m ps l ho hc code) := by
  obtain ⟨c', e1, hcr, hst⟩ := hfs _ _ hv
  injection e1 with _ e1
  subst e1
  have hw0 := wcode_yes hm0 hcr
  obtain ⟨lo, lc, no, nc, so, sc, rfl, _⟩ := id hst
  obtain ⟨W1, hW1⟩ : ∃ W1, W1 = w.alloc (.cells #[.slice none 0 0, .slice none 0 0, .slice none 0 0] 88) := ⟨_, rfl⟩
  have hb1 : Below w.heap.size w W1 := by rw [hW1]; exact (Below.refl _ _).alloc (Nat.le_refl _) _
  have h4 : St3 W1 w.heap.size (.slice none 0 0) (.slice none 0 0) (.slice none 0 0) := by rw [hW1]; exact St3.new _ _ _ _ _
  have hlk : (Instr.lookup 69 (.map (some bs)) (.int .i64 code) true).run Tryz.prog W1 = .ok (.tuple #[.agg #[.slice lo ps.length lc, .slice no (nextL m code).length nc, .slice so (2 ^ (aheadL l).length) sc], .bool true]) W1 := by
    have := (hf.kept (hb1.block _ hf.lt)).look keyedInt Tryz.underlying69 (zeroState _) (keyI hI)
    rw [hv] at this
    exact this
  have c5 := (hS.box.later hb1).c5
  have HFin : Hid (∀ w', Below w.heap.size w w' → Sk bs bl w w' ∧ SvOk w0 w' B bs bl (n + 1) va vr pv fv m ps l ho hc ∧ StOk w' m ps l code (.agg #[.slice lo ps.length lc, .slice no (nextL m code).length nc, .slice so (2 ^ (aheadL l).length) sc])) := fun w' h => ⟨Sk.of h, (hS.below h).mono (Nat.le_succ _), hst.below h⟩
  have HW : Hid (wcode m code = 0) := hw0
  unfold StPost
  generalize ps.length = pn at *
  generalize (nextL m code).length = nn at *
  generalize 2 ^ (aheadL l).length = N at *
  obtain ⟨hl4, ⟨k0, k1, k2⟩, g0, g1, g2⟩ := id h4
  have HH4 : Hid (St3 W1 w.heap.size (.slice none 0 0) (.slice none 0 0) (.slice none 0 0)) := h4
  clear hS hf hfs hv hst hw0 h4
  subst hW1
  go_enter Tryz.func40, Tryz.ntmps40
  go_wp2_with fail
  have hb : Below w.heap.size w ((w.alloc (.cells #[.slice lo pn lc, .slice no nn nc, .slice so N sc] 88)).alloc (.cells #[.slice lo pn lc, .slice no nn nc, .slice so N sc] 88)) := ((Below.refl _ _).alloc (Nat.le_refl _) _).alloc (by simp) _
  obtain ⟨r1, r2, r3⟩ := HFin.out _ hb
  refine bodyPost_ret (v := .tuple #[.agg #[.slice lo pn lc, .slice no nn nc, .slice so N sc], .int .i64 0]) ?_ rfl ⟨r1, r2, .inl ⟨HW.out, lo, lc, no, nc, so, sc, rfl, r3⟩⟩
  simp [results, Tryz.results40, go_sem]

theorem BoolsV.setBox {w : World} {v : Value} {l : List Bool} {p : Addr} {a : Option Addr} {n c : Nat} (h : BoolsV w v l) (hc : w.cell? p = some (.slice a n c)) (u : Value) : BoolsV (w.setCell p u) v l := by
  obtain ⟨ao, cap, rfl, h⟩ := h
  refine ⟨ao, cap, rfl, fun hne => ?_⟩
  obtain ⟨b, off, rfl, hlt, hat⟩ := h hne
  refine ⟨b, off, rfl, by simpa using hlt, fun i hi => ?_⟩
  have h1 := hat i hi
  have hne2 : (⟨b, off + i, none⟩ : Addr) ≠ p := by
    intro e
    rw [e, hc] at h1
    simp at h1
  rw [World.cell?_setCell_other _ _ _ _ hne2.symm]
  exact h1
theorem IntsV.setBox {w : World} {v : Value} {l : List Int} {p : Addr} {a : Option Addr} {n c : Nat} (h : IntsV w v l) (hc : w.cell? p = some (.slice a n c)) (u : Value) : IntsV (w.setCell p u) v l := by
  obtain ⟨ao, cap, rfl, h⟩ := h
  refine ⟨ao, cap, rfl, fun hne => ?_⟩
  obtain ⟨b, off, rfl, hlt, hat⟩ := h hne
  refine ⟨b, off, rfl, by simpa using hlt, fun i hi => ?_⟩
  have h1 := hat i hi
  have hne2 : (⟨b, off + i, none⟩ : Addr) ≠ p := by
    intro e
    rw [e, hc] at h1
    simp at h1
  rw [World.cell?_setCell_other _ _ _ _ hne2.symm]
  exact h1
theorem Sk.setNew {bs bl : Nat} {w w' : World} (h : Sk bs bl w w') {p : Addr} (hp : w.heap.size ≤ p.block) (v : Value) : Sk bs bl w (w'.setCell p v) :=
  ⟨h.os, h.tape, h.output, by simpa using h.size, fun i hi h1 h2 => (RowKit.Below.heap_setCell _ _ _ _ (by omega)).trans (h.block i hi h1 h2)⟩
/-- a state is put, and what else is new was written. -/
theorem SvOk.putN {w0 w w' : World} {B bs bl n : Nat} {va vr pv fv : Value} {m : Mo} {ps : List (List (Int × Int))} {l : List (Int × Int)} {ho : Option Addr} {hc : Nat} (h : SvOk w0 w B bs bl n va vr pv fv m ps l ho hc) {f : Lit → Option Value} {code : Int} {v : Value} (hs : Sk bs bl w w') (hbl : w'.heap[bl]? = w.heap[bl]?) (h2 : ∀ kl v, f kl = some v → ∃ code, kl = .int .i64 code ∧ (0 ≤ code ∧ code < prodTo m.vars m.vars.length) ∧ StOk w m ps l code v)
    (hm : MapIs w' 3 bs (n + 1) (fput f (.int .i64 code) v)) (hc' : 0 ≤ code ∧ code < prodTo m.vars m.vars.length) (hv : StOk w' m ps l code v) : SvOk w0 w' B bs bl (n + 1) va vr pv fv m ps l ho hc := by
  have ht := h.two
  obtain ⟨g, h3, h4⟩ := h.li
  refine ⟨h.box.sk hs ht, h.bel.trans (hs.below h.lo1 h.lo2 h.bel.size), h.lo1, h.lo2, h.ne, h.ah.sk hs ht, h.aty.sk hs ht, ⟨_, hm, fun kl u hu => ?_⟩, ⟨g, (h3.kept hbl).mono (Nat.le_succ _), h4⟩⟩
  by_cases hk : kl = .int .i64 code
  · subst hk
    rw [fput_same] at hu
    cases hu
    exact ⟨code, rfl, hc', hv⟩
  · rw [fput_other hk] at hu
    obtain ⟨c, e1, e2, e3⟩ := h2 kl u hu
    exact ⟨c, e1, e2, e3.sk hs ht⟩

set_option maxHeartbeats 1600000 in
set_option maxRecDepth 20000 in
/-- one that is no state. -/
theorem stateOf_out (w0 w : World) (B bs bl n : Nat) (va vr pv fv : Value) (m : Mo) (ps : List (List (Int × Int))) (l : List (Int × Int)) (ho : Option Addr) (hc : Nat) (code : Int) (hI : -9223372036854775808 ≤ code ∧ code ≤ 9223372036854775807) (hB : 0 < w0.heap.size) (hT : TabAt w0) (hV : TaskV w0 va vr pv fv m ps l) (hk : tkcode m ps l = 0) (hS : SvOk w0 w B bs bl n va vr pv fv m ps l ho hc)
    (f : Lit → Option Value) (hf : MapIs w 3 bs n f) (hv : f (.int .i64 code) = none) (hw : wcode m code ≠ 0) :
    Calls Tryz.prog 40 #[.pointer (some ⟨B, 0, none⟩), .int .i64 code] w (StPost w0 w B bs bl n va vr pv fv m ps l ho hc code) := by
  obtain ⟨hp0, _⟩ := tk_zero hk
  obtain ⟨ao, ac, rfl⟩ := hV.mo.1.shape
  obtain ⟨ro, rc, rfl⟩ := hV.mo.2.shape
  obtain ⟨po, pc, rfl⟩ := hV.ps.shape
  obtain ⟨W1, hW1⟩ : ∃ W1, W1 = w.alloc (.cells #[.slice none 0 0, .slice none 0 0, .slice none 0 0] 88) := ⟨_, rfl⟩
  have hb1 : Below w.heap.size w W1 := by rw [hW1]; exact (Below.refl _ _).alloc (Nat.le_refl _) _
  have hlk : (Instr.lookup 69 (.map (some bs)) (.int .i64 code) true).run Tryz.prog W1 = .ok (.tuple #[.agg #[.slice none 0 0, .slice none 0 0, .slice none 0 0], .bool false]) W1 := by
    have := (hf.kept (hb1.block _ hf.lt)).look keyedInt Tryz.underlying69 (zeroState _) (keyI hI)
    rw [hv] at this
    exact this
  have c5 := (hS.box.later hb1).c5
  have hb2 : Below w.heap.size w (W1.alloc (.cells #[.slice none 0 0, .slice none 0 0, .slice none 0 0] 88)) := hb1.alloc hb1.size _
  have HLe : Hid (∀ w1, Below w.heap.size w w1 → Calls Tryz.prog 53 #[.agg #[.slice ao m.vars.length ac, .slice ro m.rules.length rc], .slice po ps.length pc, .int .i64 code] w1 fun e w' => ∃ lo ln lc, e = .returned (.tuple #[.slice lo ln lc, .int .i64 (wcode m code)]) ∧ Below w1.heap.size w1 w') := fun w1 h => by
    have h0 := hS.bel.trans (h.mono hS.bel.size)
    refine (letter_any _ _ _ m ps code w1 (Nat.lt_of_lt_of_le hB h0.size) (hT.below h0 hB) (hV.mo.below h0) (hV.ps.below h0)).mono fun e w' ⟨v, h1, h2, h3⟩ => ?_
    have e1 : letC m ps code = wcode m code := by unfold letC; rw [if_pos hp0]
    obtain ⟨lo, lc, rfl, _⟩ := h3
    exact ⟨lo, _, lc, by rw [h1, e1], h2⟩
  have HSB : Hid (∀ w1, Below w.heap.size w w1 → w1.cell? ⟨B, 0, none⟩ = some (.slice ao m.vars.length ac) ∧ w1.cell? ⟨B, 1, none⟩ = some (.slice ro m.rules.length rc) ∧ w1.cell? ⟨B, 2, none⟩ = some (.slice po ps.length pc)) := fun w1 h => ⟨(hS.box.later h).c0, (hS.box.later h).c1, (hS.box.later h).c2⟩
  have HFin : Hid (∀ w', Below w.heap.size w w' → Sk bs bl w w' ∧ SvOk w0 w' B bs bl (n + 1) (.slice ao m.vars.length ac) (.slice ro m.rules.length rc) (.slice po ps.length pc) fv m ps l ho hc) := fun w' h => ⟨Sk.of h, (hS.below h).mono (Nat.le_succ _)⟩
  have H4 : Hid (∀ w', Below (w.heap.size + 1) W1 w' → w'.cell? ⟨w.heap.size, 0, none⟩ = some (.slice none 0 0) ∧ w'.cell? ⟨w.heap.size, 1, none⟩ = some (.slice none 0 0) ∧ w'.cell? ⟨w.heap.size, 2, none⟩ = some (.slice none 0 0) ∧ w'.frozen? ⟨w.heap.size, 0, none⟩ = false ∧ w'.frozen? ⟨w.heap.size, 1, none⟩ = false ∧ w'.frozen? ⟨w.heap.size, 2, none⟩ = false) := fun w' h => by
    have h3 : St3 W1 w.heap.size (.slice none 0 0) (.slice none 0 0) (.slice none 0 0) := by rw [hW1]; exact St3.new _ _ _ _ _
    obtain ⟨_, ⟨a, b, c⟩, d, e, f⟩ := h3
    have hlt : w.heap.size < w.heap.size + 1 := Nat.lt_succ_self _
    exact ⟨(h.cell (p := ⟨w.heap.size, 0, none⟩) hlt).trans a, (h.cell (p := ⟨w.heap.size, 1, none⟩) hlt).trans b, (h.cell (p := ⟨w.heap.size, 2, none⟩) hlt).trans c, (h.frozen (p := ⟨w.heap.size, 0, none⟩) hlt).trans d, (h.frozen (p := ⟨w.heap.size, 1, none⟩) hlt).trans e, (h.frozen (p := ⟨w.heap.size, 2, none⟩) hlt).trans f⟩
  have hz1 : W1.heap.size = w.heap.size + 1 := by rw [hW1]; simp
  unfold StPost
  generalize wcode m code = wc at *
  generalize m.vars.length = vn at *
  generalize m.rules.length = rn at *
  generalize ps.length = pn at *
  clear hS hf hv hT hV hk hp0
  obtain ⟨W2, hW2⟩ : ∃ W2, W2 = W1.alloc (.cells #[.slice none 0 0, .slice none 0 0, .slice none 0 0] 88) := ⟨_, rfl⟩
  have hk2 : Below (w.heap.size + 1) W1 W2 := by rw [hW2]; exact (Below.refl _ _).alloc (by omega) _
  have hbw2 : Below w.heap.size w W2 := by rw [hW2]; exact hb2
  have hz2 : w.heap.size + 1 ≤ W2.heap.size := by rw [hW2]; simp [hz1]
  rw [hW1] at hW2
  subst hW1
  go_enter Tryz.func40, Tryz.ntmps40
  go_wp2_with fail
  rw [← hW2]
  clear hW2 hlk c5
  have hle := HLe.out _ hbw2.drew
  have hB0 : Below W2.heap.size W2 W2 := Below.refl _ _
  have hBw := hB0.drew
  go_region_held3 (fun w' => w'.cell? ⟨B, 0, none⟩ = some (.slice ao vn ac) ∧ w'.cell? ⟨B, 1, none⟩ = some (.slice ro rn rc) ∧ w'.cell? ⟨B, 2, none⟩ = some (.slice po pn pc))
    (first | exact HSB.out _ hb12 | exact HSB.out _ hbw2.drew | exact HSB.out _ hbw2)
    (first
      | (go_at_call 53; refine hle.mono ?_; rintro e w3 ⟨lo, ln, lc, rfl, hb3⟩; have hb12 := hbw2.drew.trans (hb3.mono hbw2.drew.size); have hk3 := hk2.drew.trans (hb3.mono hz2)))
  obtain ⟨q0, q1, q2, q3, q4, q5⟩ := H4.out _ hk3
  go_wp2_with fail
  have hbF := ((hb12.setCell (p := ⟨w.heap.size, 0, none⟩) (Nat.le_refl _) (.slice none 0 0)).setCell (p := ⟨w.heap.size, 1, none⟩) (Nat.le_refl _) (.slice none 0 0)).setCell (p := ⟨w.heap.size, 2, none⟩) (Nat.le_refl _) (.slice none 0 0)
  obtain ⟨r1, r2⟩ := HFin.out _ hbF
  refine bodyPost_ret (v := .tuple #[.agg #[.slice none 0 0, .slice none 0 0, .slice none 0 0], .int .i64 wc]) ?_ rfl ⟨r1, r2, .inr ⟨hw, rfl⟩⟩
  simp [results, Tryz.results40, go_sem, q0, q1, q2]

/-- what holds while the signs are told. -/
structure SgAt (w4 wr : World) (N k : Nat) (sg : Nat → Int) (lv nv : Value) : Prop where
  bel : Below w4.heap.size w4 wr
  row : wr.rowIs w4.heap.size 3 N (fun j => .int .i64 (if j < k then sg j else 0))
  box : St3 wr (w4.heap.size + 1) lv nv (.slice (some ⟨w4.heap.size, 0, none⟩) N N)
theorem SgAt.start (w4 : World) (N : Nat) (sg : Nat → Int) (lv nv : Value) : SgAt w4 ((w4.alloc (.cells (madeCells #[.int .i64 0] N) 3)).alloc (.cells #[lv, nv, .slice (some ⟨w4.heap.size, 0, none⟩) N N] 88)) N 0 sg lv nv := by
  refine ⟨((Below.refl _ _).alloc (Nat.le_refl _) _).alloc (by simp) _, ?_, ?_⟩
  · exact ((World.rowIs_made w4 (.int .i64 0) N 3).alloc _).congr (fun j _ => by simp)
  · have := St3.new (w4.alloc (.cells (madeCells #[.int .i64 0] N) 3)) lv nv (.slice (some ⟨w4.heap.size, 0, none⟩) N N) 88
    rw [World.size_alloc] at this
    exact this
theorem SgAt.later {w4 wr w' : World} {N k : Nat} {sg : Nat → Int} {lv nv : Value} (h : SgAt w4 wr N k sg lv nv) (hb : Below wr.heap.size wr w') : SgAt w4 w' N k sg lv nv :=
  ⟨h.bel.trans (hb.mono h.bel.size), h.row.of_block (hb.block _ h.row.lt), h.box.later hb⟩
theorem SgAt.put {w4 wr : World} {N k : Nat} {sg : Nat → Int} {lv nv : Value} (h : SgAt w4 wr N k sg lv nv) : SgAt w4 (wr.setCell ⟨w4.heap.size, k, none⟩ (.int .i64 (sg k))) N (k + 1) sg lv nv := by
  refine ⟨h.bel.setCell (p := ⟨w4.heap.size, k, none⟩) (Nat.le_refl _) _, (h.row.set k _).congr (fun j hj => ?_), ?_⟩
  · by_cases e : j = k
    · subst e
      rw [if_pos rfl, if_pos (Nat.lt_succ_self _)]
    · rw [if_neg e]
      by_cases h1 : j < k
      · rw [if_pos h1, if_pos (by omega)]
      · rw [if_neg h1, if_neg (by omega)]
  · obtain ⟨h0, ⟨a, b, c⟩, d, e, f⟩ := h.box
    refine ⟨by simpa using h0, ⟨?_, ?_, ?_⟩, ?_, ?_, ?_⟩ <;> simp [go_sem, a, b, c, d, e, f]
theorem SgAt.done {w4 wr : World} {N : Nat} {sg : Nat → Int} {lv nv : Value} (h : SgAt w4 wr N N sg lv nv) : IntsV wr (.slice (some ⟨w4.heap.size, 0, none⟩) N N) ((List.range N).map sg) := by
  refine ⟨some ⟨w4.heap.size, 0, none⟩, N, by simp, fun _ => ⟨w4.heap.size, 0, rfl, h.row.lt, fun i hi => ?_⟩⟩
  have hi' : i < N := by simpa using hi
  rw [Nat.zero_add, h.row.cell hi', if_pos hi']
  simp [List.getD_eq_getElem?_getD, hi']

set_option maxHeartbeats 3200000 in
set_option maxRecDepth 20000 in
/-- one that is new. -/
theorem stateOf_new (w0 w : World) (B bs bl n : Nat) (va vr pv fv : Value) (m : Mo) (ps : List (List (Int × Int))) (l : List (Int × Int)) (ho : Option Addr) (hc : Nat) (code : Int) (hI : -9223372036854775808 ≤ code ∧ code ≤ 9223372036854775807) (hB : 0 < w0.heap.size) (hT : TabAt w0) (hV : TaskV w0 va vr pv fv m ps l) (hk : tkcode m ps l = 0) (hS : SvOk w0 w B bs bl n va vr pv fv m ps l ho hc) (hn : n < 1000000000000)
    (f : Lit → Option Value) (hf : MapIs w 3 bs n f) (hfs : ∀ kl v, f kl = some v → ∃ code, kl = .int .i64 code ∧ (0 ≤ code ∧ code < prodTo m.vars m.vars.length) ∧ StOk w m ps l code v) (hv : f (.int .i64 code) = none) (hcr : 0 ≤ code ∧ code < prodTo m.vars m.vars.length) :
    Calls Tryz.prog 40 #[.pointer (some ⟨B, 0, none⟩), .int .i64 code] w (StPost w0 w B bs bl n va vr pv fv m ps l ho hc code) := by
  obtain ⟨hp0, hl0⟩ := tk_zero hk
  obtain ⟨hm0, _⟩ := pcode_m hp0
  obtain ⟨_, _, hz, _, h6⟩ := lcode_zero hl0
  have hw := wcode_yes hm0 hcr
  obtain ⟨ao, ac, rfl⟩ := hV.mo.1.shape
  obtain ⟨ro, rc, rfl⟩ := hV.mo.2.shape
  obtain ⟨po, pc, rfl⟩ := hV.ps.shape
  obtain ⟨fo, fc, rfl, _⟩ := id hV.fo
  obtain ⟨W1, hW1⟩ : ∃ W1, W1 = w.alloc (.cells #[.slice none 0 0, .slice none 0 0, .slice none 0 0] 88) := ⟨_, rfl⟩
  have hb1 : Below w.heap.size w W1 := by rw [hW1]; exact (Below.refl _ _).alloc (Nat.le_refl _) _
  have hlk : (Instr.lookup 69 (.map (some bs)) (.int .i64 code) true).run Tryz.prog W1 = .ok (.tuple #[.agg #[.slice none 0 0, .slice none 0 0, .slice none 0 0], .bool false]) W1 := by
    have := (hf.kept (hb1.block _ hf.lt)).look keyedInt Tryz.underlying69 (zeroState _) (keyI hI)
    rw [hv] at this
    exact this
  have c5 := (hS.box.later hb1).c5
  have hb2 : Below w.heap.size w (W1.alloc (.cells #[.slice none 0 0, .slice none 0 0, .slice none 0 0] 88)) := hb1.alloc hb1.size _
  have HLe : Hid (∀ w1, Below w.heap.size w w1 → Calls Tryz.prog 53 #[.agg #[.slice ao m.vars.length ac, .slice ro m.rules.length rc], .slice po ps.length pc, .int .i64 code] w1 fun e w' => ∃ lo lc, e = .returned (.tuple #[.slice lo ps.length lc, .int .i64 0]) ∧ Below w1.heap.size w1 w' ∧ Hid (BoolsV w' (.slice lo ps.length lc) (letL m ps code) ∧ RowTy w' (.slice lo ps.length lc) 4)) := fun w1 h => by
    have h0 := hS.bel.trans (h.mono hS.bel.size)
    refine (letter_own _ _ _ m ps code w1 (Nat.lt_of_lt_of_le hB h0.size) (hT.below h0 hB) (hV.mo.below h0) (hV.ps.below h0)).mono fun e w' ⟨v, h1, h2, h3, h4⟩ => ?_
    obtain ⟨t1, t2⟩ := tk_let hk hcr
    obtain ⟨lo, lc, rfl, hx⟩ := h3
    rw [t2] at h1 h4
    exact ⟨lo, lc, by rw [h1, t1], h2, ⟨lo, lc, by rw [t2], hx⟩, h4⟩
  have HNe : Hid (∀ w1, Below w.heap.size w w1 → Calls Tryz.prog 60 #[.agg #[.slice ao m.vars.length ac, .slice ro m.rules.length rc], .int .i64 code] w1 fun e w' => ∃ no nc, e = .returned (.tuple #[.slice no (nextL m code).length nc, .int .i64 0]) ∧ Below w1.heap.size w1 w' ∧ Hid (IntsV w' (.slice no (nextL m code).length nc) (nextL m code) ∧ RowTy w' (.slice no (nextL m code).length nc) 3)) := fun w1 h => by
    have h0 := hS.bel.trans (h.mono hS.bel.size)
    refine (next_own _ _ m code w1 (Nat.lt_of_lt_of_le hB h0.size) (hT.below h0 hB) (hV.mo.below h0) hm0).mono fun e w' ⟨v, h1, h2, h3'⟩ => ?_
    have h4 := RowTy.owns h3'
    have h3 := intsV_of_owns h3'
    have e1 : nxtL m code = nextL m code := by unfold nxtL; rw [if_pos hw]
    rw [e1] at h3
    obtain ⟨no, nc, rfl, hx⟩ := h3
    exact ⟨no, nc, by rw [h1, hw], h2, ⟨no, nc, rfl, hx⟩, h4⟩
  have HSg : Hid (∀ (w1 : World) (c : Nat) (lv : Value), Below w.heap.size w w1 → c < 2 ^ (aheadL l).length → BoolsV w1 lv (letL m ps code) → Calls Tryz.prog 61 #[.pointer (some ⟨B, 0, none⟩), lv, .int .i64 (c : Int)] w1 fun e w' => e = .returned (.tuple #[.int .i64 (sgAt l (letL m ps code) c), .int .i64 0]) ∧ Below w1.heap.size w1 w') := fun w1 c lv h hcN hlv => by
    have h0 := hS.bel.trans (h.mono hS.bel.size)
    exact signOf_any B _ _ _ _ lv l (letL m ps code) c ho hc bs bl w1 (Nat.lt_of_lt_of_le hB h0.size) (hT.below h0 hB) (hV.fo.below h0) hlv hz h6 (tk_tru hk hcr hcN).1 (hS.box.later h) (hS.ah.below h)
  have HCl : Hid (∀ w1, Below w.heap.size w w1 → Calls Tryz.prog 14 #[.pointer (some ⟨B, 0, none⟩)] w1 fun e w' => e = .returned (.int .i64 ((2 ^ (aheadL l).length : Nat) : Int)) ∧ w' = w1) := fun w1 h => claims_any B _ _ _ _ ho _ hc bs bl w1 h6 (hS.box.later h)
  have HSB : Hid (∀ w1, Below w.heap.size w w1 → w1.cell? ⟨B, 0, none⟩ = some (.slice ao m.vars.length ac) ∧ w1.cell? ⟨B, 1, none⟩ = some (.slice ro m.rules.length rc) ∧ w1.cell? ⟨B, 2, none⟩ = some (.slice po ps.length pc) ∧ w1.cell? ⟨B, 5, none⟩ = some (.map (some bs))) := fun w1 h => ⟨(hS.box.later h).c0, (hS.box.later h).c1, (hS.box.later h).c2, (hS.box.later h).c5⟩
  have HPut : Hid (∀ w1, Below w.heap.size w w1 → ∀ v, ∃ w', (Instr.mapUpdate 69 (.map (some bs)) (.int .i64 code) v).run Tryz.prog w1.drew = .ok () w' ∧ MapIs w' 3 bs (n + 1) (fput f (.int .i64 code) v) ∧ w1.grownBy w' (some bs)) := fun w1 h v => by
    have hm1 : MapIs w1.drew 3 bs n f := hf.kept (h.block _ hf.lt)
    obtain ⟨w', h1, h2, h3⟩ := hm1.put keyedInt Tryz.underlying69 (by unfold maxLen; omega) (val := v) (keyI hI) (by simp [WideAt.IsKeyLit])
    exact ⟨w', h1, h2, ⟨h3.os, h3.tape, h3.output, h3.size, h3.block⟩⟩
  have HTwo : Hid (∀ w1, Below w.heap.size w w1 → TwoMaps w1 bs bl) := fun w1 h => (hS.below h).two
  have H4 : Hid (∀ w', Below (w.heap.size + 1) W1 w' → St3 w' w.heap.size (.slice none 0 0) (.slice none 0 0) (.slice none 0 0)) := fun w' h => by
    have h3 : St3 W1 w.heap.size (.slice none 0 0) (.slice none 0 0) (.slice none 0 0) := by rw [hW1]; exact St3.new _ _ _ _ _
    obtain ⟨g0, ⟨a, b, c⟩, d, e, f⟩ := h3
    have hlt : w.heap.size < w.heap.size + 1 := Nat.lt_succ_self _
    exact ⟨Nat.lt_of_lt_of_le g0 h.size, ⟨(h.cell (p := ⟨w.heap.size, 0, none⟩) hlt).trans a, (h.cell (p := ⟨w.heap.size, 1, none⟩) hlt).trans b, (h.cell (p := ⟨w.heap.size, 2, none⟩) hlt).trans c⟩, (h.frozen (p := ⟨w.heap.size, 0, none⟩) hlt).trans d, (h.frozen (p := ⟨w.heap.size, 1, none⟩) hlt).trans e, (h.frozen (p := ⟨w.heap.size, 2, none⟩) hlt).trans f⟩
  have HPN : Hid (∀ w' v, Sk bs bl w w' → w'.heap[bl]? = w.heap[bl]? → MapIs w' 3 bs (n + 1) (fput f (.int .i64 code) v) → StOk w' m ps l code v → SvOk w0 w' B bs bl (n + 1) (.slice ao m.vars.length ac) (.slice ro m.rules.length rc) (.slice po ps.length pc) (.slice fo l.length fc) m ps l ho hc) := fun w' v h1 h2 h3 h4 => hS.putN h1 h2 hfs h3 hcr h4
  have hbs : bs < w.heap.size := hf.lt
  have hbl : bl < w.heap.size := by obtain ⟨g, h1, _⟩ := hS.li; exact h1.lt
  have hne := hS.ne
  have hz1 : W1.heap.size = w.heap.size + 1 := by rw [hW1]; simp
  have hN64 : 2 ^ (aheadL l).length ≤ 64 := Nat.pow_le_pow_right (show 0 < 2 by decide) h6
  have HStI : Hid (∀ (w' : World) (lo no so : Option Addr) (lc nc sc : Nat), BoolsV w' (.slice lo ps.length lc) (letL m ps code) → IntsV w' (.slice no (nextL m code).length nc) (nextL m code) → IntsV w' (.slice so (2 ^ (aheadL l).length) sc) ((List.range (2 ^ (aheadL l).length)).map (sgAt l (letL m ps code))) → RowTy w' (.slice lo ps.length lc) 4 → RowTy w' (.slice no (nextL m code).length nc) 3 → RowTy w' (.slice so (2 ^ (aheadL l).length) sc) 3 → StOk w' m ps l code (.agg #[.slice lo ps.length lc, .slice no (nextL m code).length nc, .slice so (2 ^ (aheadL l).length) sc])) := fun w' lo no so lc nc sc h1 h2 h3 h4 h5 h6 => ⟨lo, lc, no, nc, so, sc, rfl, h1, h2, h3, h4, h5, h6⟩
  unfold StPost
  have HW : Hid (wcode m code = 0) := hw
  generalize sgAt l (letL m ps code) = sg at *
  generalize hlt : letL m ps code = lt at *
  generalize hnx : nextL m code = nx at *
  generalize nx.length = nn at *
  generalize m.vars.length = vn at *
  generalize m.rules.length = rn at *
  generalize ps.length = pn at *
  generalize l.length = fn at *
  generalize 2 ^ (aheadL l).length = N at *
  clear hS hf hfs hv hT hV hk hp0 hl0 hz h6 hlt hnx hw hm0
  obtain ⟨W2, hW2⟩ : ∃ W2, W2 = W1.alloc (.cells #[.slice none 0 0, .slice none 0 0, .slice none 0 0] 88) := ⟨_, rfl⟩
  have hk2 : Below (w.heap.size + 1) W1 W2 := by rw [hW2]; exact (Below.refl _ _).alloc (by omega) _
  have hbw2 : Below w.heap.size w W2 := by rw [hW2]; exact hb2
  have hz2 : w.heap.size + 1 ≤ W2.heap.size := by rw [hW2]; simp [hz1]
  rw [hW1] at hW2
  subst hW1
  go_enter Tryz.func40, Tryz.ntmps40
  go_wp2_with fail
  rw [← hW2]
  clear hW2 hlk c5
  have hle := HLe.out _ hbw2.drew
  have HSC : Hid (∀ w1, Below w.heap.size w w1 → w1.cell? ⟨B, 0, none⟩ = some (.slice ao vn ac) ∧ w1.cell? ⟨B, 1, none⟩ = some (.slice ro rn rc) ∧ w1.cell? ⟨B, 2, none⟩ = some (.slice po pn pc)) := fun w1 h => by obtain ⟨y0, y1, y2, _⟩ := HSB.out _ h; exact ⟨y0, y1, y2⟩
  have hmk := run_make_row' (P := Tryz.prog) 40 3 (.int .i64 0) 8 Tryz.underlying40 infoInt rfl .i64 .i64 N (by omega) (by omega)
  go_region_held3 (fun w' => w'.cell? ⟨B, 0, none⟩ = some (.slice ao vn ac) ∧ w'.cell? ⟨B, 1, none⟩ = some (.slice ro rn rc) ∧ w'.cell? ⟨B, 2, none⟩ = some (.slice po pn pc))
    (first | exact HSC.out _ hb12 | exact HSC.out _ hbw2.drew | exact HSC.out _ hbw2)
    (first
      | (go_at_call 53; refine hle.mono ?_; rintro e w3 ⟨lo, lc, rfl, hb3, HLv⟩; have hb12 := hbw2.drew.trans (hb3.mono hbw2.drew.size); have hk3 := hk2.drew.trans (hb3.mono hz2)))
  obtain ⟨z0, z1, z2, _⟩ := HSB.out _ hb12
  have hnx := HNe.out w3 hb12
  go_wp2_with (first | (go_at_call 60; refine hnx.mono ?_; rintro e w4 ⟨no, nc, rfl, hb4, HNv⟩; have hb14 := hb12.trans (hb4.mono hb12.size); have hk4 := hk3.trans (hb4.mono (Nat.le_trans hz2 hb3.size)); have hcl := HCl.out w4 hb14) | (go_at_call 14; refine hcl.mono ?_; rintro e w5 ⟨rfl, rfl⟩))
  clear hmk hle hnx hcl
  have HS0 : Hid (SgAt w5 ((w5.alloc (.cells (madeCells #[.int .i64 0] N) 3)).alloc (.cells #[.slice lo pn lc, .slice no nn nc, .slice (some ⟨w5.heap.size, 0, none⟩) N N] 88)) N 0 sg (.slice lo pn lc) (.slice no nn nc)) := SgAt.start _ _ _ _ _
  have HLt : Hid (∀ w', Below w5.heap.size w5 w' → BoolsV w' (.slice lo pn lc) lt) := fun w' h => (HLv.out.1.below hb4).below h
  generalize (w5.alloc (.cells (madeCells #[.int .i64 0] N) 3)).alloc (.cells #[.slice lo pn lc, .slice no nn nc, .slice (some ⟨w5.heap.size, 0, none⟩) N N] 88) = W5 at *
  obtain ⟨_, ⟨x0, x1, x2⟩, _, _, _⟩ := HS0.out.box
  go_wp2_with fail
  go_loopw [12, 66, 9] (fun _ i _ wr => ∃ k : Nat, k ≤ N ∧ i = .int .i64 k ∧ Hid (SgAt w5 wr N k sg (.slice lo pn lc) (.slice no nn nc))) (fun _ i _ _ => N - (intOf i).toNat)
  case atStart => exact ⟨0, Nat.zero_le _, rfl, HS0⟩
  case round =>
    obtain ⟨k, hk, rfl, HA⟩ := hrel
    have hA := HA.out
    obtain ⟨_, ⟨e0, e1, e2⟩, _, _, _⟩ := id hA.box
    have hbr := hb14.trans (hA.bel.mono hb14.size)
    by_cases hkN : k < N
    · have hsg := HSg.out wr.drew k _ hbr.drew hkN (HLt.out _ hA.bel.drew)
      have HAd : Hid (∀ w', Below wr.heap.size wr w' → SgAt w5 w' N k sg (.slice lo pn lc) (.slice no nn nc)) := fun w' h => hA.later h
      have HEB : Hid (∀ w', Below wr.heap.size wr w' → w'.cell? ⟨w5.heap.size + 1, 2, none⟩ = some (.slice (some ⟨w5.heap.size, 0, none⟩) N N)) := fun w' h => (hA.later h).box.2.1.2.2
      have hB0 : Below wr.heap.size wr wr := Below.refl _ _
      have hki : (k : Int) < (N : Int) := by omega
      clear hA HA
      go_wp2_with fail
      go_region_held3 (fun w' => w'.cell? ⟨w5.heap.size + 1, 2, none⟩ = some (.slice (some ⟨w5.heap.size, 0, none⟩) N N))
        (first | exact HEB.out _ hb6 | exact HEB.out _ hB0.drew | exact HEB.out _ hB0 | simp [go_sem, HEB.out _ hb6])
        (first
          | (go_at_call 61; refine hsg.mono ?_; rintro e w6 ⟨rfl, hb6'⟩; have hb6 := hB0.drew.trans (hb6'.mono hB0.drew.size); have hA6 := HAd.out _ hb6; have f0 := hA6.row.cell hkN; have f1 := hA6.row.frozen k; have HA7 := (show Hid _ from hA6.put); clear hA6))
      go_wp2_with fail
      go_roundw
      case rel => exact ⟨k + 1, by omega, by go_num, HA7⟩
      case measure => simp [intOf]; omega
    · obtain rfl : k = N := by omega
      obtain ⟨w7, hput, hm7, hg7⟩ := HPut.out wr hbr (.agg #[.slice lo pn lc, .slice no nn nc, .slice (some ⟨w5.heap.size, 0, none⟩) k k])
      obtain ⟨_, _, _, z5⟩ := HSB.out wr hbr
      have htw := HTwo.out wr hbr
      have hsk : Sk bs bl wr w7 := Sk.grown hg7 (.inl rfl)
      have hkr := hk4.trans (hA.bel.mono (by have := hb4.size; have := hb3.size; simp at *; omega))
      have hst4 := H4.out _ hkr
      have HFin : Hid (∀ w8, w8 = ((w7.setCell ⟨w.heap.size, 0, none⟩ (.slice lo pn lc)).setCell ⟨w.heap.size, 1, none⟩ (.slice no nn nc)).setCell ⟨w.heap.size, 2, none⟩ (.slice (some ⟨w5.heap.size, 0, none⟩) k k) → Sk bs bl w w8 ∧ SvOk w0 w8 B bs bl (n + 1) (.slice ao vn ac) (.slice ro rn rc) (.slice po pn pc) (.slice fo fn fc) m ps l ho hc ∧ StOk w8 m ps l code (.agg #[.slice lo pn lc, .slice no nn nc, .slice (some ⟨w5.heap.size, 0, none⟩) k k])) := fun w8 e8 => by
        obtain ⟨_, ⟨y0, y1, y2⟩, _, _, _⟩ := id hst4
        have y0' := hsk.cell htw y0
        have y1' := hsk.cell htw y1
        have y2' := hsk.cell htw y2
        have y1a : (w7.setCell ⟨w.heap.size, 0, none⟩ (.slice lo pn lc)).cell? ⟨w.heap.size, 1, none⟩ = some (.slice none 0 0) := by simp [go_sem, y1']
        have y2a : ((w7.setCell ⟨w.heap.size, 0, none⟩ (.slice lo pn lc)).setCell ⟨w.heap.size, 1, none⟩ (.slice no nn nc)).cell? ⟨w.heap.size, 2, none⟩ = some (.slice none 0 0) := by simp [go_sem, y2']
        have s1 : Sk bs bl w w8 := by
          rw [e8]
          exact ((((Sk.of hbr).trans hsk).setNew (p := ⟨w.heap.size, 0, none⟩) (Nat.le_refl _) _).setNew (p := ⟨w.heap.size, 1, none⟩) (Nat.le_refl _) _).setNew (p := ⟨w.heap.size, 2, none⟩) (Nat.le_refl _) _
        have hbk : ∀ i, i < w.heap.size → w8.heap[i]? = w7.heap[i]? := fun i hi => by
          rw [e8, RowKit.Below.heap_setCell _ _ _ _ (show i ≠ w.heap.size by omega), RowKit.Below.heap_setCell _ _ _ _ (show i ≠ w.heap.size by omega), RowKit.Below.heap_setCell _ _ _ _ (show i ≠ w.heap.size by omega)]
        have hso : StOk w8 m ps l code (.agg #[.slice lo pn lc, .slice no nn nc, .slice (some ⟨w5.heap.size, 0, none⟩) k k]) := by
          rw [e8]
          refine HStI.out _ lo no (some ⟨w5.heap.size, 0, none⟩) lc nc k ?_ ?_ ?_ ?_ ?_ ?_
          · exact ((((HLt.out wr hA.bel).sk hsk htw).setBox y0' _).setBox y1a _).setBox y2a _
          · exact (((((HNv.out.1.below hA.bel)).sk hsk htw).setBox y0' _).setBox y1a _).setBox y2a _
          · exact (((hA.done.sk hsk htw).setBox y0' _).setBox y1a _).setBox y2a _
          · exact ((((((HLv.out.2.below hb4).below hA.bel).sk hsk htw).setCell _ _ _).setCell _ _ _).setCell _ _ _)
          · exact (((((HNv.out.2.below hA.bel).sk hsk htw).setCell _ _ _).setCell _ _ _).setCell _ _ _)
          · refine (((RowTy.sk (fun a n c e => ?_) hsk htw).setCell _ _ _).setCell _ _ _).setCell _ _ _
            injection e with e _ _
            injection e with e
            subst e
            obtain ⟨cs, hcs, _⟩ := hA.row
            exact ⟨cs, (0, 0), hcs⟩
        refine ⟨s1, HPN.out w8 _ s1 ?_ (hm7.kept (hbk bs hbs)) hso, hso⟩
        rw [hbk bl hbl, hg7.block bl (Nat.lt_of_lt_of_le hbl hbr.size) (by intro e; injection e with e; exact hne e.symm), hbr.block bl hbl]
      obtain ⟨_, ⟨y0, y1, y2⟩, y3, y4, y5⟩ := id hst4
      have v0 := hsk.cell htw y0
      have v1 := hsk.cell htw y1
      have v2 := hsk.cell htw y2
      have u0 := hsk.cell htw e0
      have u1 := hsk.cell htw e1
      have u2 := hsk.cell htw e2
      have z7 := hsk.cell htw z5
      have g0 : w7.frozen? ⟨w.heap.size, 0, none⟩ = false := (World.frozen?_of_block (hg7.block w.heap.size hst4.1 (by intro e; injection e with e; omega))).trans y3
      have g1 : w7.frozen? ⟨w.heap.size, 1, none⟩ = false := (World.frozen?_of_block (hg7.block w.heap.size hst4.1 (by intro e; injection e with e; omega))).trans y4
      have g2 : w7.frozen? ⟨w.heap.size, 2, none⟩ = false := (World.frozen?_of_block (hg7.block w.heap.size hst4.1 (by intro e; injection e with e; omega))).trans y5
      clear HA hA hst4 hsk htw hm7 hg7 hkr HSg HLe HNe HCl HSB HPut HTwo H4 HPN HLt HNv HStI HS0
      go_wp2_with fail
      go_region_held3 (fun w' => w'.cell? ⟨B, 5, none⟩ = some (.map (some bs)) ∧ w'.cell? ⟨w5.heap.size + 1, 0, none⟩ = some (.slice lo pn lc) ∧ w'.cell? ⟨w5.heap.size + 1, 1, none⟩ = some (.slice no nn nc) ∧ w'.cell? ⟨w5.heap.size + 1, 2, none⟩ = some (.slice (some ⟨w5.heap.size, 0, none⟩) k k))
        (first | exact ⟨z5, e0, e1, e2⟩ | exact ⟨z7, u0, u1, u2⟩)
        (fail)
      go_wp2_with fail
      obtain ⟨r1, r2, r3⟩ := HFin.out _ rfl
      refine bodyPost_ret (v := .tuple #[.agg #[.slice lo pn lc, .slice no nn nc, .slice (some ⟨w5.heap.size, 0, none⟩) k k], .int .i64 0]) ?_ rfl ⟨r1, r2, .inl ⟨HW.out, lo, lc, no, nc, some ⟨w5.heap.size, 0, none⟩, k, rfl, r3⟩⟩
      simp [results, Tryz.results40, go_sem, v0, v1, v2]

/-- THE CONTRACT OF stateOf. -/
theorem stateOf_any (w0 w : World) (B bs bl n : Nat) (va vr pv fv : Value) (m : Mo) (ps : List (List (Int × Int))) (l : List (Int × Int)) (ho : Option Addr) (hc : Nat) (code : Int) (hI : -9223372036854775808 ≤ code ∧ code ≤ 9223372036854775807) (hB : 0 < w0.heap.size) (hT : TabAt w0) (hV : TaskV w0 va vr pv fv m ps l) (hk : tkcode m ps l = 0) (hS : SvOk w0 w B bs bl n va vr pv fv m ps l ho hc) (hn : n < 1000000000000) :
    Calls Tryz.prog 40 #[.pointer (some ⟨B, 0, none⟩), .int .i64 code] w (StPost w0 w B bs bl n va vr pv fv m ps l ho hc code) := by
  obtain ⟨f, hf, hfs⟩ := hS.st
  have hm0 := (pcode_m (tk_zero hk).1).1
  cases hv : f (.int .i64 code) with
  | some v => exact stateOf_known w0 w B bs bl n va vr pv fv m ps l ho hc code hI hm0 hS f hf hfs v hv
  | none =>
    by_cases hcr : 0 ≤ code ∧ code < prodTo m.vars m.vars.length
    · exact stateOf_new w0 w B bs bl n va vr pv fv m ps l ho hc code hI hB hT hV hk hS hn f hf hfs hv hcr
    · exact stateOf_out w0 w B bs bl n va vr pv fv m ps l ho hc code hI hB hT hV hk hS f hf hv (by rw [wcode_no hm0 hcr]; decide)
end Go.Proofs.YtdlpmomohbdpgaaGreatDoor

/-
  A link's key; what copy makes of a letter.
-/
namespace Go.Proofs.YtdlpmomohbdpgaaGreatDoor
open Go.ChangeShapes Go.WideShapes Go.ChangeAt Go.RowKit Go.Deep Go.Maps
open Terms Tm

set_option maxRecDepth 20000 in
theorem laidOutP : laidOutB Tryz.prog = true := by kernel_rfl
set_option maxRecDepth 20000 in
theorem rowLink : (121 : TypeId) < Tryz.prog.types.size := of_decide_eq_true (by kernel_rfl)
set_option maxRecDepth 20000 in
theorem keyedLink : Keyed Tryz.prog 121 := Keyed.of_law (deep_law_laid laidOutP (m := 3) (by omega) rowLink (by kernel_rfl) (by rw [Tryz.underlying121]))
set_option maxRecDepth 20000 in
theorem sizeTwo : ∃ d, Tryz.prog.types.size = d + 2 := ⟨Tryz.prog.types.size - 2, by have h : 2 ≤ Tryz.prog.types.size := of_decide_eq_true (by kernel_rfl); omega⟩
set_option maxRecDepth 20000 in
theorem keyTypeLink : Tryz.prog.keyType 121 = true := by kernel_rfl
set_option maxRecDepth 20000 in
theorem cellsLink : Tryz.prog.cellsOf 121 = 8 := by kernel_rfl
set_option maxRecDepth 20000 in
theorem cellsArr6 : Tryz.prog.cellsOf 119 = 6 := by kernel_rfl
set_option maxRecDepth 20000 in
theorem cellsB : Tryz.prog.cellsOf 4 = 1 := by kernel_rfl
set_option maxRecDepth 20000 in
theorem cellsI : Tryz.prog.cellsOf 3 = 1 := by kernel_rfl
set_option maxRecDepth 20000 in
set_option maxHeartbeats 800000 in
theorem keyLink (y0 y1 y2 y3 y4 y5 : Bool) {c s : Int} (hc : -9223372036854775808 ≤ c ∧ c ≤ 9223372036854775807) (hs : -9223372036854775808 ≤ s ∧ s ≤ 9223372036854775807) :
    ∃ kl, keyOf Tryz.prog 121 (.agg #[.bool y0, .bool y1, .bool y2, .bool y3, .bool y4, .bool y5, .int .i64 c, .int .i64 s]) = some kl := by
  obtain ⟨d, hd⟩ := sizeTwo
  have hwc : (Lit.int .i64 c).wf = true := WalkArith.wf_i64 (by omega)
  have hws : (Lit.int .i64 s).wf = true := WalkArith.wf_i64 (by omega)
  unfold keyOf
  rw [Tryz.underlying121]
  simp only [keyTypeLink, Value.formed, Tryz.underlying121, cellsLink, hd]
  simp [Program.keyLits, Tryz.underlying121, Tryz.underlying119, Tryz.underlying4, Tryz.underlying3, cellsLink, cellsArr6, cellsB, cellsI, Value.cells, hwc, hws, List.range, List.range.loop]
theorem six_len {x : List Bool} (h : x.length ≤ 6) : (six x).length = 6 := by simp [six]; omega
theorem six_cases {z : List Bool} (h : z.length = 6) : ∃ y0 y1 y2 y3 y4 y5, z = [y0, y1, y2, y3, y4, y5] := by
  match z, h with
  | [a, b, c, d, e, f], _ => exact ⟨a, b, c, d, e, f, rfl⟩
theorem setRow_grown (w : World) (g : Nat) (cs : Array Value) : w.grownBy (w.setRow g cs) (some g) := by
  refine ⟨rfl, rfl, rfl, by simp [World.setRow], fun k _ hk => ?_⟩
  simp only [World.setRow, Array.getElem?_modify]
  rw [if_neg (fun e => hk (by rw [e]))]
set_option maxRecDepth 20000 in
theorem infoBoolSize : (Tryz.prog.info? 4).map (·.size) = some 1 := by kernel_rfl
set_option maxRecDepth 20000 in
/-- copy(asked.letter[:], letter). -/
theorem copy_link (w : World) (g : Nat) (lo : Option Addr) (pn lc : Nat) (x : List Bool) (c s : Int) (t ty : TypeId) (hx : BoolsV w (.slice lo pn lc) x) (hl : x.length = pn) (h6 : pn ≤ 6) (hg : w.heap[g]? = some (.cells #[.bool false, .bool false, .bool false, .bool false, .bool false, .bool false, .int .i64 c, .int .i64 s] t (0, 0))) :
    ∃ w' y0 y1 y2 y3 y4 y5, (Builtin.copy_ #[61, 61] ty #[.slice (some ⟨g, 0, none⟩) 6 6, .slice lo pn lc]).run Tryz.prog w = .ok (goInt pn) w' ∧ six x = [y0, y1, y2, y3, y4, y5] ∧ w'.heap[g]? = some (.cells #[.bool y0, .bool y1, .bool y2, .bool y3, .bool y4, .bool y5, .int .i64 c, .int .i64 s] t (0, 0)) ∧ w.grownBy w' (some g) := by
  obtain ⟨y0, y1, y2, y3, y4, y5, hy⟩ := six_cases (six_len (x := x) (by omega))
  rcases Nat.eq_zero_or_pos pn with h0 | h0
  · subst h0
    have hx0 : x = [] := List.length_eq_zero_iff.1 hl
    subst hx0
    have e : [y0, y1, y2, y3, y4, y5] = [false, false, false, false, false, false] := by rw [← hy]; rfl
    simp only [List.cons.injEq, and_true] at e
    obtain ⟨rfl, rfl, rfl, rfl, rfl, rfl⟩ := e
    exact ⟨w, _, _, _, _, _, _, run_copy_none w _ _ _ 4 _ _ _ _ _ _ Tryz.underlying61 infoBoolSize (by simp), hy, hg, ⟨rfl, rfl, rfl, Nat.le_refl _, fun _ _ _ => rfl⟩⟩
  · obtain ⟨ao, cap, e1, hx⟩ := hx
    injection e1 with e1 e2 e3
    subst e1
    obtain ⟨b, off, rfl, hb, hat⟩ := hx (by intro e; rw [e] at hl; simp at hl; omega)
    have hrun := run_copy_row (P := Tryz.prog) w 61 61 ty 4 g 0 6 6 ⟨b, off, none⟩ pn lc _ t (x.map Value.bool) Tryz.underlying61 infoBoolSize hg (by rw [List.length_map, hl]; exact (Nat.min_eq_left h6).symm)
      (fun j v hv => by
        rw [List.getElem?_map] at hv
        cases hxj : x[j]? with
        | none => rw [hxj] at hv; simp at hv
        | some u =>
          rw [hxj] at hv
          have hj : j < x.length := (List.getElem?_eq_some_iff.1 hxj).1
          have := hat j hj
          rw [add_plain, this]
          rw [List.getD_eq_getElem?_getD, hxj]
          simpa using hv) (by simp; omega) (fun v hv => by
        simp only [List.mem_map] at hv
        obtain ⟨u, _, rfl⟩ := hv
        rfl)
    rw [List.length_map, hl] at hrun
    refine ⟨_, y0, y1, y2, y3, y4, y5, hrun, hy, ?_, setRow_grown _ _ _⟩
    rw [setRow_heap w g _ _ t (0, 0) hg]
    congr 2
    have e6 : (six x).map Value.bool = [.bool y0, .bool y1, .bool y2, .bool y3, .bool y4, .bool y5] := by rw [hy]; rfl
    have e7 : x.map Value.bool ++ List.drop pn [Value.bool false, .bool false, .bool false, .bool false, .bool false, .bool false, .int .i64 c, .int .i64 s] = (six x).map Value.bool ++ [.int .i64 c, .int .i64 s] := by
      unfold six
      rw [List.map_append, List.map_replicate, List.append_assoc, hl]
      congr 1
      have : pn = 1 ∨ pn = 2 ∨ pn = 3 ∨ pn = 4 ∨ pn = 5 ∨ pn = 6 := by omega
      rcases this with rfl | rfl | rfl | rfl | rfl | rfl <;> rfl
    simp only [List.take_zero, List.nil_append, Nat.zero_add]
    rw [e7, e6]
    rfl
end Go.Proofs.YtdlpmomohbdpgaaGreatDoor

/-
  The contract of the survey's follows.
-/
namespace Go.Proofs.YtdlpmomohbdpgaaGreatDoor
open Go.ChangeShapes Go.WideShapes Go.ChangeAt Go.RowKit Go.Deep Go.Maps
open Terms Tm

set_option maxRecDepth 20000 in
theorem zeroAnswer (w : World) : (zeroValue 123).run Tryz.prog w = .ok (.agg #[.bool false]) w := by kernel_rfl
theorem folR_sign {l : List (Int × Int)} {x y y' : List Bool} {c d d' : Int} (hl : y.length = y'.length) (ht : tcode l y d = 0) (ht' : tcode l y' d' = 0) (e : signN l (tru l y d) = signN l (tru l y' d')) : folR l x c y d = folR l x c y' d' := by
  have hf : fcode l x c y d = fcode l x c y' d' := by unfold fcode; rw [hl, ht, ht']
  unfold folR
  rw [hf]
  split
  · exact decide_eq_decide.2 (fol_sign e)
  · rfl
/-- what follows leaves. -/
def FoPost (w0 w : World) (B bs bl n : Nat) (va vr pv fv : Value) (m : Mo) (ps : List (List (Int × Int))) (l : List (Int × Int)) (ho : Option Addr) (hc : Nat) (b : Bool) (e : Ending) (w' : World) : Prop :=
  e = .returned (.tuple #[.bool b, .int .i64 0]) ∧ Sk bs bl w w' ∧ Hid (SvOk w0 w' B bs bl (n + 1) va vr pv fv m ps l ho hc)
/-- eight cells of a link. -/
def Li8 (w : World) (g : Nat) (y0 y1 y2 y3 y4 y5 : Bool) (c s : Int) : Prop := w.cell? ⟨g, 0, none⟩ = some (.bool y0) ∧ w.cell? ⟨g, 1, none⟩ = some (.bool y1) ∧ w.cell? ⟨g, 2, none⟩ = some (.bool y2) ∧ w.cell? ⟨g, 3, none⟩ = some (.bool y3) ∧ w.cell? ⟨g, 4, none⟩ = some (.bool y4) ∧ w.cell? ⟨g, 5, none⟩ = some (.bool y5) ∧ w.cell? ⟨g, 6, none⟩ = some (.int .i64 c) ∧ w.cell? ⟨g, 7, none⟩ = some (.int .i64 s)
theorem Li8.of {w : World} {g : Nat} {y0 y1 y2 y3 y4 y5 : Bool} {c s : Int} {t : TypeId} (h : w.heap[g]? = some (.cells #[.bool y0, .bool y1, .bool y2, .bool y3, .bool y4, .bool y5, .int .i64 c, .int .i64 s] t (0, 0))) : Li8 w g y0 y1 y2 y3 y4 y5 c s := by
  refine ⟨?_, ?_, ?_, ?_, ?_, ?_, ?_, ?_⟩ <;> simp [World.cell?, h]

theorem Li8.later {w w' : World} {g : Nat} {y0 y1 y2 y3 y4 y5 : Bool} {c s : Int} (h : Li8 w g y0 y1 y2 y3 y4 y5 c s) (hg : g < w.heap.size) (hb : Below w.heap.size w w') : Li8 w' g y0 y1 y2 y3 y4 y5 c s := by
  obtain ⟨h0, h1, h2, h3, h4, h5, h6, h7⟩ := h
  exact ⟨(hb.cell (p := ⟨g, 0, none⟩) hg).trans h0, (hb.cell (p := ⟨g, 1, none⟩) hg).trans h1, (hb.cell (p := ⟨g, 2, none⟩) hg).trans h2, (hb.cell (p := ⟨g, 3, none⟩) hg).trans h3, (hb.cell (p := ⟨g, 4, none⟩) hg).trans h4, (hb.cell (p := ⟨g, 5, none⟩) hg).trans h5, (hb.cell (p := ⟨g, 6, none⟩) hg).trans h6, (hb.cell (p := ⟨g, 7, none⟩) hg).trans h7⟩
set_option maxHeartbeats 3200000 in
set_option maxRecDepth 20000 in
theorem follows_any (w0 w : World) (B bs bl n : Nat) (va vr pv fv : Value) (m : Mo) (ps : List (List (Int × Int))) (l : List (Int × Int)) (ho : Option Addr) (hc : Nat) (x y : List Bool) (c d : Nat) (lo no so lo2 no2 so2 : Option Addr) (lc nn nc sc lc2 nn2 nc2 sc2 : Nat)
    (hB : 0 < w0.heap.size) (hT : TabAt w0) (hV : TaskV w0 va vr pv fv m ps l) (hk : tkcode m ps l = 0) (hS : SvOk w0 w B bs bl n va vr pv fv m ps l ho hc) (hn : n < 1000000000000)
    (hx : BoolsV w (.slice lo ps.length lc) x) (hy : BoolsV w (.slice lo2 ps.length lc2) y) (hsg : IntsV w (.slice so2 (2 ^ (aheadL l).length) sc2) (sgL l y)) (hxl : x.length = ps.length) (hyl : y.length = ps.length) (hcN : c < 2 ^ (aheadL l).length) (hdN : d < 2 ^ (aheadL l).length) :
    Calls Tryz.prog 41 #[.pointer (some ⟨B, 0, none⟩), .agg #[.slice lo ps.length lc, .slice no nn nc, .slice so (2 ^ (aheadL l).length) sc], .int .i64 (c : Int), .agg #[.slice lo2 ps.length lc2, .slice no2 nn2 nc2, .slice so2 (2 ^ (aheadL l).length) sc2], .int .i64 (d : Int)] w (FoPost w0 w B bs bl n va vr pv fv m ps l ho hc (folR l x (c : Int) y (d : Int))) := by
  obtain ⟨hp0, hl0⟩ := tk_zero hk
  obtain ⟨_, hps6⟩ := pcode_m hp0
  obtain ⟨_, _, hz, _, h6⟩ := lcode_zero hl0
  obtain ⟨fo, fc, rfl, _⟩ := id hV.fo
  have hN64 : 2 ^ (aheadL l).length ≤ 64 := Nat.pow_le_pow_right (show 0 < 2 by decide) h6
  have htc : ∀ (z : List Bool) (k : Nat), z.length = ps.length → k < 2 ^ (aheadL l).length → tcode l z (k : Int) = 0 := fun z k hz1 hk1 => by
    refine tcode_ok (by rw [hz1]; exact hl0) fun hno => ?_
    unfold ClaimNo at hno
    have : ((2 ^ (aheadL l).length : Nat) : Int) = (2 : Int) ^ (aheadL l).length := by push_cast; rfl
    rcases hno with hno | hno
    · omega
    · rw [← this] at hno; omega
  obtain ⟨g0, hg0, hgl⟩ := hS.li
  -- the sign
  obtain ⟨sb, soff, rfl, hsb, hsat⟩ : ∃ sb soff, so2 = some ⟨sb, soff, none⟩ ∧ sb < w.heap.size ∧ w.cell? ⟨sb, soff + d, none⟩ = some (.int .i64 (sgAt l y d)) := by
    obtain ⟨ao, cap, e1, h1⟩ := hsg
    injection e1 with e1 _ _
    subst e1
    obtain ⟨b, off, rfl, hb, hat⟩ := h1 (by intro e; have := congrArg List.length e; rw [sgL_len] at this; simp at this)
    refine ⟨b, off, rfl, hb, ?_⟩
    have := hat d (by rw [sgL_len]; exact hdN)
    rw [this, sgL_at hdN]
  obtain ⟨sg, hsgd⟩ : ∃ sg, sgAt l y d = sg := ⟨_, rfl⟩
  have hsgb : -9223372036854775808 ≤ sg ∧ sg ≤ 9223372036854775807 := by
    obtain ⟨b0, b1⟩ := signTo_bounds l (tru l y (d : Int)) (aheadL l).length
    have e : sg = signTo l (tru l y (d : Int)) (aheadL l).length := by rw [← hsgd]; rfl
    have : ((2 ^ (aheadL l).length : Nat) : Int) = (2 : Int) ^ (aheadL l).length := by push_cast; rfl
    rw [← this] at b1
    omega
  rw [hsgd] at hsat
  obtain ⟨W3, hW3⟩ : ∃ W3, W3 = ((w.alloc (.cells #[.slice lo ps.length lc, .slice no nn nc, .slice so (2 ^ (aheadL l).length) sc] 88)).alloc (.cells #[.slice lo2 ps.length lc2, .slice no2 nn2 nc2, .slice (some ⟨sb, soff, none⟩) (2 ^ (aheadL l).length) sc2] 88)).alloc (.cells #[.bool false, .bool false, .bool false, .bool false, .bool false, .bool false, .int .i64 (c : Int), .int .i64 sg] 121) := ⟨_, rfl⟩
  have hb3 : Below w.heap.size w W3 := by rw [hW3]; exact (((Below.refl _ _).alloc (Nat.le_refl _) _).alloc (by simp) _).alloc (by simp; omega) _
  have hz3 : W3.heap.size = w.heap.size + 3 := by rw [hW3]; simp
  have hg3 : W3.heap[w.heap.size + 2]? = some (.cells #[.bool false, .bool false, .bool false, .bool false, .bool false, .bool false, .int .i64 (c : Int), .int .i64 sg] 121 (0, 0)) := by
    rw [hW3]
    have := (MapKept.heap_alloc ((w.alloc (.cells #[.slice lo ps.length lc, .slice no nn nc, .slice so (2 ^ (aheadL l).length) sc] 88)).alloc (.cells #[.slice lo2 ps.length lc2, .slice no2 nn2 nc2, .slice (some ⟨sb, soff, none⟩) (2 ^ (aheadL l).length) sc2] 88)) (.cells #[.bool false, .bool false, .bool false, .bool false, .bool false, .bool false, .int .i64 (c : Int), .int .i64 sg] 121)).1
    simpa using this
  obtain ⟨w4, y0, y1, y2, y3, y4, y5, hcopy, hsix, hg4, hgr4⟩ := copy_link W3.drew (w.heap.size + 2) lo ps.length lc x (c : Int) sg 121 3 (hx.below hb3.drew) hxl hps6 hg3
  have hb4 : Below w.heap.size w w4 := ⟨hgr4.os.trans hb3.os, hgr4.tape.trans hb3.tape, hgr4.output.trans hb3.output, Nat.le_trans hb3.size hgr4.size, fun i hi => (hgr4.block i (Nat.lt_of_lt_of_le hi hb3.size) (by intro e; injection e with e; omega)).trans (hb3.block i hi)⟩
  have hli4 := Li8.of hg4
  have hlv : linkV x (c : Int) sg = .agg #[.bool y0, .bool y1, .bool y2, .bool y3, .bool y4, .bool y5, .int .i64 (c : Int), .int .i64 sg] := by unfold linkV; rw [hsix]; rfl
  obtain ⟨kl, hkl⟩ := keyLink y0 y1 y2 y3 y4 y5 (c := (c : Int)) (s := sg) (by omega) hsgb
  have hz4 : w.heap.size + 3 ≤ w4.heap.size := by have := hgr4.size; have e : W3.drew.heap.size = W3.heap.size := rfl; omega
  have hk4 : Below (w.heap.size + 2) W3 w4 := ⟨hgr4.os, hgr4.tape, hgr4.output, hgr4.size, fun i hi => hgr4.block i (by show i < W3.heap.size; omega) (by intro e; injection e with e; omega)⟩
  have HBx : Hid (∀ w', Below (w.heap.size + 2) W3 w' → w'.cell? ⟨w.heap.size, 0, none⟩ = some (.slice lo ps.length lc) ∧ w'.cell? ⟨w.heap.size + 1, 0, none⟩ = some (.slice lo2 ps.length lc2)) := fun w' h => by
    refine ⟨(h.cell (p := ⟨w.heap.size, 0, none⟩) (by show w.heap.size < _; omega)).trans ?_, (h.cell (p := ⟨w.heap.size + 1, 0, none⟩) (by show w.heap.size + 1 < _; omega)).trans ?_⟩ <;> (rw [hW3]; simp [go_sem])
  have hs2 : ∀ o1 o2, ((w.alloc o1).alloc o2).cell? ⟨sb, soff + d, none⟩ = some (.int .i64 sg) := fun o1 o2 => (Below.cell (p := ⟨sb, soff + d, none⟩) (((Below.refl w.heap.size w).alloc (Nat.le_refl _) o1).alloc (by simp) o2) hsb).trans hsat
  have HLk : Hid (∀ w', w'.heap[bl]? = w.heap[bl]? → (Instr.lookup 70 (.map (some bl)) (.agg #[.bool y0, .bool y1, .bool y2, .bool y3, .bool y4, .bool y5, .int .i64 (c : Int), .int .i64 sg]) true).run Tryz.prog w' = .ok (.tuple #[(g0 kl).getD (.agg #[.bool false]), .bool (g0 kl).isSome]) w') := fun w' h => (hg0.kept h).look keyedLink Tryz.underlying70 (zeroAnswer _) hkl
  have HS6 : Hid (∀ w', Below w.heap.size w w' → w'.cell? ⟨B, 3, none⟩ = some (.slice fo l.length fc) ∧ w'.cell? ⟨B, 6, none⟩ = some (.map (some bl))) := fun w' h => ⟨(hS.box.later h).c3, (hS.box.later h).c6⟩
  have hbl : bl < w.heap.size := hg0.lt
  have hdi : (d : Int) < ((2 ^ (aheadL l).length : Nat) : Int) := by omega
  have HLi : Hid (∀ w', Below w4.heap.size w4 w' → Li8 w' (w.heap.size + 1 + 1) y0 y1 y2 y3 y4 y5 (c : Int) sg) := fun w' h => hli4.later (by omega) h
  unfold FoPost
  cases hgk : g0 kl with
  | some v =>
    obtain ⟨x', c', sg', b, hx'l, hkl', rfl, hall⟩ := hgl kl v hgk
    have hinj := keyedLink.inj hkl' (hlv ▸ hkl)
    obtain ⟨rfl, rfl, rfl⟩ := linkV_inj (hx'l.trans hxl.symm) hinj
    have hbv : folR l x' (c : Int) y (d : Int) = b := hall y (d : Int) hyl (htc y d hyl hdN) (by rw [← hsgd]; rfl)
    rw [hbv]
    have HLk2 : Hid (∀ w', w'.heap[bl]? = w.heap[bl]? → (Instr.lookup 70 (.map (some bl)) (.agg #[.bool y0, .bool y1, .bool y2, .bool y3, .bool y4, .bool y5, .int .i64 (c : Int), .int .i64 sg']) true).run Tryz.prog w' = .ok (.tuple #[.agg #[.bool b], .bool true]) w') := fun w' h => by have := HLk.out w' h; rw [hgk] at this; exact this
    have HFin : Hid (∀ w', Below w.heap.size w w' → Sk bs bl w w' ∧ SvOk w0 w' B bs bl (n + 1) va vr pv (.slice fo l.length fc) m ps l ho hc) := fun w' h => ⟨Sk.of h, (hS.below h).mono (Nat.le_succ _)⟩
    generalize ps.length = pn at *
    generalize 2 ^ (aheadL l).length = N at *
    generalize l.length = fn at *
    clear HLk hS hgl hg0 hall hbv hT hV hx hy hsg htc hli4 hkl' hlv hkl hinj hgr4 hg3 hsix
    go_enter Tryz.func41, Tryz.ntmps41
    go_wp2_with fail
    rw [← hW3]
    obtain ⟨u0, u1⟩ := HBx.out W3 (Below.refl _ _)
    obtain ⟨v0, v1⟩ := HBx.out w4 hk4
    clear hW3
    go_region_held3 (fun w' => w'.cell? ⟨w.heap.size, 0, none⟩ = some (.slice lo pn lc))
      (first | exact u0 | exact v0)
      (fail)
    have hbl4 : w4.heap[bl]? = w.heap[bl]? := hb4.block bl hbl
    obtain ⟨_, q6⟩ := HS6.out w4 hb4
    obtain ⟨i0, i1, i2, i3, i4, i5, i6, i7⟩ := HLi.out w4 (Below.refl _ _)
    clear u0 u1 v0 v1 hs2 HBx
    go_wp2_with fail
    go_cut [13, 14] (fun u13 u14 w' => ∃ g13, u13 = .pointer (some ⟨g13, 0, none⟩) ∧ u14 = .bool true ∧ Below w4.heap.size w4 w' ∧ w'.cell? ⟨g13, 0, none⟩ = some (.bool b))
    case first =>
      have hal : Below w4.heap.size w4 (w4.alloc (.cells #[.bool false] 123)) := (Below.refl _ _).alloc (Nat.le_refl _) _
      have hlA := HLk2.out w4.drew hbl4
      have hlB := HLk2.out (w4.alloc (.cells #[.bool false] 123)).drew ((hal.block bl (Nat.lt_of_lt_of_le hbl hb4.size)).trans hbl4)
      obtain ⟨_, q6'⟩ := HS6.out _ (hb4.trans (hal.mono hb4.size))
      obtain ⟨j0, j1, j2, j3, j4, j5, j6, j7⟩ := HLi.out _ hal
      go_region_law (fail)
      all_goals go_wp2_with fail
      all_goals go_meet
      all_goals exact ⟨_, rfl, rfl, ((Below.refl _ _).alloc (Nat.le_refl _) _).drew, by simp [go_sem]⟩
    case rest =>
      obtain ⟨g13, rfl, rfl, hb5, d0⟩ := hcut
      have hbF := hb4.trans (hb5.mono hb4.size)
      go_wp2_with fail
      go_ret2
      obtain ⟨r1, r2⟩ := HFin.out _ hbF
      exact ⟨rfl, r1, r2⟩
  | none =>
    have HLk2 : Hid (∀ w', w'.heap[bl]? = w.heap[bl]? → (Instr.lookup 70 (.map (some bl)) (.agg #[.bool y0, .bool y1, .bool y2, .bool y3, .bool y4, .bool y5, .int .i64 (c : Int), .int .i64 sg]) true).run Tryz.prog w' = .ok (.tuple #[.agg #[.bool false], .bool false]) w') := fun w' h => by have := HLk.out w' h; rw [hgk] at this; exact this
    have hfc : fcode l x (c : Int) y (d : Int) = 0 := by
      unfold fcode
      rw [if_neg (by rw [hxl, hyl]; simp), if_neg (by rw [htc x c hxl hcN]; simp)]
      exact htc y d hyl hdN
    have HFo : Hid (∀ w', Below w.heap.size w w' → Calls Tryz.prog 62 #[.slice fo l.length fc, .slice lo ps.length lc, .int .i64 (c : Int), .slice lo2 ps.length lc2, .int .i64 (d : Int)] w' fun e w'' => e = .returned (.tuple #[.bool (folR l x (c : Int) y (d : Int)), .int .i64 0]) ∧ Below w'.heap.size w' w'') := fun w' h => by
      have h0 := hS.bel.trans (h.mono hS.bel.size)
      have := lfol_any _ _ _ l x y (c : Int) (d : Int) w' (Nat.lt_of_lt_of_le hB h0.size) (hT.below h0 hB) (hV.fo.below h0) (hx.below h) (hy.below h)
      rw [hfc] at this
      exact this
    have hLO : LinkOk ps l kl (.agg #[.bool (folR l x (c : Int) y (d : Int))]) := ⟨x, (c : Int), sg, _, hxl, hlv ▸ hkl, rfl, fun y' d' h1 h2 h3 => folR_sign (h1.trans hyl.symm) h2 (htc y d hyl hdN) (h3.trans (by rw [← hsgd]; rfl))⟩
    have HPut : Hid (∀ w', Below w.heap.size w w' → ∃ w'', (Instr.mapUpdate 70 (.map (some bl)) (.agg #[.bool y0, .bool y1, .bool y2, .bool y3, .bool y4, .bool y5, .int .i64 (c : Int), .int .i64 sg]) (.agg #[.bool (folR l x (c : Int) y (d : Int))])).run Tryz.prog w'.drew = .ok () w'' ∧ w'.grownBy w'' (some bl) ∧ Sk bs bl w w'' ∧ SvOk w0 w'' B bs bl (n + 1) va vr pv (.slice fo l.length fc) m ps l ho hc) := fun w' h => by
      have hm1 : MapIs w'.drew 121 bl n g0 := hg0.kept (h.block _ hg0.lt)
      obtain ⟨w'', h1, h2, h3⟩ := hm1.put keyedLink Tryz.underlying70 (by unfold maxLen; omega) (val := .agg #[.bool (folR l x (c : Int) y (d : Int))]) hkl (keyedLink.key hkl)
      have h4 : w'.grownBy w'' (some bl) := ⟨h3.os, h3.tape, h3.output, h3.size, h3.block⟩
      exact ⟨w'', h1, h4, (Sk.of h).trans (Sk.grown h4 (.inr rfl)), (hS.below h).putL h4 hgl h2 hLO⟩
    generalize folR l x (c : Int) y (d : Int) = b at *
    generalize ps.length = pn at *
    generalize 2 ^ (aheadL l).length = N at *
    generalize l.length = fn at *
    clear HLk hS hgl hg0 hT hV hx hy hsg htc hli4 hlv hkl hgr4 hg3 hsix hLO hfc
    go_enter Tryz.func41, Tryz.ntmps41
    go_wp2_with fail
    rw [← hW3]
    obtain ⟨u0, u1⟩ := HBx.out W3 (Below.refl _ _)
    obtain ⟨v0, v1⟩ := HBx.out w4 hk4
    clear hW3
    go_region_held3 (fun w' => w'.cell? ⟨w.heap.size, 0, none⟩ = some (.slice lo pn lc))
      (first | exact u0 | exact v0)
      (fail)
    have hbl4 : w4.heap[bl]? = w.heap[bl]? := hb4.block bl hbl
    obtain ⟨_, q6⟩ := HS6.out w4 hb4
    obtain ⟨i0, i1, i2, i3, i4, i5, i6, i7⟩ := HLi.out w4 (Below.refl _ _)
    clear u0 u1 v0 v1 hs2
    go_wp2_with fail
    go_cut [13, 14] (fun u13 u14 w' => ∃ g13, u13 = .pointer (some ⟨g13, 0, none⟩) ∧ u14 = .bool false ∧ Below w4.heap.size w4 w')
    case first =>
      have hal : Below w4.heap.size w4 (w4.alloc (.cells #[.bool false] 123)) := (Below.refl _ _).alloc (Nat.le_refl _) _
      have hlA := HLk2.out w4.drew hbl4
      have hlB := HLk2.out (w4.alloc (.cells #[.bool false] 123)).drew ((hal.block bl (Nat.lt_of_lt_of_le hbl hb4.size)).trans hbl4)
      obtain ⟨_, q6'⟩ := HS6.out _ (hb4.trans (hal.mono hb4.size))
      obtain ⟨j0, j1, j2, j3, j4, j5, j6, j7⟩ := HLi.out _ hal
      go_region_law (fail)
      all_goals go_wp2_with fail
      all_goals go_meet
      all_goals exact ⟨_, rfl, rfl, ((Below.refl _ _).alloc (Nat.le_refl _) _).drew⟩
    case rest =>
      obtain ⟨g13, rfl, rfl, hb5⟩ := hcut
      have hbF := hb4.trans (hb5.mono hb4.size)
      have HSF : Hid (∀ w', Below wc.heap.size wc w' → w'.cell? ⟨B, 3, none⟩ = some (.slice fo fn fc) ∧ w'.cell? ⟨w.heap.size, 0, none⟩ = some (.slice lo pn lc) ∧ w'.cell? ⟨w.heap.size + 1, 0, none⟩ = some (.slice lo2 pn lc2)) := fun w' h => by
        have h1 := hb5.trans (h.mono hb5.size)
        obtain ⟨e1, e2⟩ := HBx.out w' (hk4.trans (h1.mono (by omega)))
        exact ⟨(HS6.out w' (hbF.trans (h.mono hbF.size))).1, e1, e2⟩
      have hfo := HFo.out _ hbF.drew
      have hB0 : Below wc.heap.size wc wc := Below.refl _ _
      go_wp2_with fail
      go_region_held3 (fun w' => w'.cell? ⟨B, 3, none⟩ = some (.slice fo fn fc) ∧ w'.cell? ⟨w.heap.size, 0, none⟩ = some (.slice lo pn lc) ∧ w'.cell? ⟨w.heap.size + 1, 0, none⟩ = some (.slice lo2 pn lc2))
        (first | exact HSF.out _ hb6 | exact HSF.out _ hB0.drew | exact HSF.out _ hB0)
        (first
          | (go_at_call 62; refine hfo.mono ?_; rintro e w6 ⟨rfl, hb6'⟩; have hb6 := hB0.drew.trans (hb6'.mono hB0.drew.size)))
      have hbG := hbF.trans (hb6.mono hbF.size)
      obtain ⟨w7, hput, hg7, r1, r2⟩ := HPut.out _ hbG
      obtain ⟨_, z6⟩ := HS6.out _ hbG
      obtain ⟨k0, k1, k2, k3, k4, k5, k6, k7⟩ := HLi.out w6 (hb5.trans (hb6.mono hb5.size))
      have HR : Hid (Sk bs bl w w7 ∧ SvOk w0 w7 B bs bl (n + 1) va vr pv (.slice fo fn fc) m ps l ho hc) := ⟨r1, r2⟩
      clear r1 r2 hg7 HPut
      go_wp2_with fail
      go_region_law (fail)
      all_goals go_wp2_with fail
      all_goals go_ret2
      all_goals exact ⟨rfl, HR.out.1, HR.out.2⟩
end Go.Proofs.YtdlpmomohbdpgaaGreatDoor

/-
  Plain mathematics of what is reached.
-/
namespace Go.Proofs.YtdlpmomohbdpgaaGreatDoor
open Terms Tm

/-- reached from the first state on. -/
inductive RSt (nx : Int → List Int) (first : Int) : Int → Prop where
  | first : RSt nx first first
  | next {x y : Int} : RSt nx first x → y ∈ nx x → RSt nx first y
open Classical in
/-- the states that are reached, rising. -/
noncomputable def reachN (nx : Int → List Int) (first : Int) (N : Nat) : List Int := ((List.range N).filter (fun j : Nat => decide (RSt nx first (j : Int)))).map (fun j : Nat => (j : Int))
theorem reachN_rise (nx : Int → List Int) (first : Int) (N : Nat) : Rise (reachN nx first N) := by
  unfold reachN Rise
  rw [List.pairwise_map]
  refine List.Pairwise.imp (fun {a b} h => ?_) (List.Pairwise.filter _ List.pairwise_lt_range)
  omega
theorem reachN_mem (nx : Int → List Int) (first : Int) (N : Nat) (x : Int) : x ∈ reachN nx first N ↔ (0 ≤ x ∧ x < N) ∧ RSt nx first x := by
  unfold reachN
  simp only [List.mem_map, List.mem_filter, List.mem_range, decide_eq_true_eq]
  constructor
  · rintro ⟨j, ⟨h1, h2⟩, rfl⟩; exact ⟨⟨by omega, by omega⟩, h2⟩
  · rintro ⟨⟨h0, h1⟩, h2⟩; exact ⟨x.toNat, ⟨by omega, by rw [Int.toNat_of_nonneg h0]; exact h2⟩, by omega⟩
/-- states that are reached are states. -/
theorem RSt.in {nx : Int → List Int} {first : Int} {N : Nat} (hf : 0 ≤ first ∧ first < N) (hn : ∀ x y : Int, 0 ≤ x ∧ x < N → y ∈ nx x → 0 ≤ y ∧ y < N) {x : Int} (h : RSt nx first x) : 0 ≤ x ∧ x < N := by
  induction h with
  | first => exact hf
  | next _ hy ih => exact hn _ _ ih hy
/-- a list without a number twice, sorted, rises. -/
theorem sorted_rise {l : List Int} (h : l.Nodup) : Rise (l.mergeSort leB) := by
  have hp : (l.mergeSort leB).Pairwise (fun x y => leB x y = true) := List.pairwise_mergeSort (le := leB) (by intro a b c; simp only [leB, decide_eq_true_eq]; omega) (by intro a b; simp only [leB, Bool.or_eq_true, decide_eq_true_eq]; omega) l
  have hn : (l.mergeSort leB).Nodup := (List.mergeSort_perm l leB).nodup_iff.2 h
  refine (hp.and hn).imp fun {a b} hab => ?_
  have h1 : a ≤ b := by simpa [leB] using hab.1
  have h2 : a ≠ b := hab.2
  omega
/-- what goes through a list that is closed is all that is reached. -/
theorem closed_reach {nx : Int → List Int} {first : Int} {l : List Int} (hf : first ∈ l) (hr : ∀ x ∈ l, RSt nx first x) (hc : ∀ x ∈ l, ∀ y ∈ nx x, y ∈ l) (x : Int) : x ∈ l ↔ RSt nx first x := by
  refine ⟨hr x, fun h => ?_⟩
  induction h with
  | first => exact hf
  | next _ hy ih => exact hc _ ih _ hy
theorem rise_length : ∀ {l : List Int} {lo N : Int}, Rise l → (∀ x ∈ l, lo ≤ x ∧ x < N) → lo ≤ N → (l.length : Int) ≤ N - lo
  | [], lo, N, _, _, h => by simp; omega
  | x :: l, lo, N, h1, h2, _ => by
    obtain ⟨hx, t⟩ := List.pairwise_cons.1 h1
    have h3 := h2 x (by simp)
    have := rise_length (lo := x + 1) (N := N) t (fun y hy => ⟨by have := hx y hy; omega, (h2 y (by simp [hy])).2⟩) (by omega)
    simp only [List.length_cons]
    omega
/-- how long a list of states may be. -/
theorem nodup_length {l : List Int} {N : Nat} (h : l.Nodup) (hi : ∀ x ∈ l, 0 ≤ x ∧ x < N) : l.length ≤ N := by
  have h1 := rise_length (lo := 0) (N := N) (sorted_rise h) (fun x hx => hi x ((List.mergeSort_perm l leB).mem_iff.1 hx)) (by omega)
  rw [List.length_mergeSort] at h1
  omega
end Go.Proofs.YtdlpmomohbdpgaaGreatDoor

/-
  The spots behind a spot; boxes that stay while spots are laid down.
-/
namespace Go.Proofs.YtdlpmomohbdpgaaGreatDoor
open Go.ChangeShapes Go.WideShapes Go.ChangeAt Go.RowKit Go.Deep Go.Maps
open Terms Tm

/-- the claims of a next state that follow. -/
noncomputable def foTo (l : List (Int × Int)) (x : List Bool) (c : Int) (y : List Bool) (st : Int) : Nat → List (Int × Int)
  | 0 => []
  | k + 1 => if folR l x c y (k : Int) = true then foTo l x c y st k ++ [(st, (k : Int))] else foTo l x c y st k
theorem foTo_len (l : List (Int × Int)) (x : List Bool) (c : Int) (y : List Bool) (st : Int) : ∀ k, (foTo l x c y st k).length ≤ k
  | 0 => Nat.le_refl _
  | k + 1 => by
    rw [foTo]
    have := foTo_len l x c y st k
    split
    · rw [List.length_append, List.length_singleton]; omega
    · omega
/-- the spots behind a spot, state by state. -/
noncomputable def behTo (m : Mo) (ps : List (List (Int × Int))) (l : List (Int × Int)) (code c : Int) : Nat → List (Int × Int)
  | 0 => []
  | i + 1 => behTo m ps l code c i ++ foTo l (letL m ps code) c (letL m ps ((nextL m code).getD i 0)) ((nextL m code).getD i 0) (2 ^ (aheadL l).length)
noncomputable def behL (m : Mo) (ps : List (List (Int × Int))) (l : List (Int × Int)) (code c : Int) : List (Int × Int) := behTo m ps l code c (nextL m code).length
theorem behTo_len {m : Mo} {ps : List (List (Int × Int))} {l : List (Int × Int)} (h : 2 ^ (aheadL l).length ≤ 64) (code c : Int) : ∀ i, (behTo m ps l code c i).length ≤ i * 64
  | 0 => Nat.le_refl _
  | i + 1 => by
    rw [behTo, List.length_append]
    have := behTo_len (m := m) (ps := ps) h code c i
    have := foTo_len l (letL m ps code) c (letL m ps ((nextL m code).getD i 0)) ((nextL m code).getD i 0) (2 ^ (aheadL l).length)
    omega
theorem nextL_st {m : Mo} (hm : mcode m = 0) {x : Int} (hx : 0 ≤ x ∧ x < prodTo m.vars m.vars.length) {y : Int} (hy : y ∈ nextL m x) : 0 ≤ y ∧ y < prodTo m.vars m.vars.length := by
  have h1 := ((upL_spec _).2 y).1 hy
  unfold rawL at h1
  split at h1
  · simp at h1; subst h1; exact hx
  · obtain ⟨j, _, e⟩ := (rawTo_mem (Nat.le_refl _) y).1 h1
    exact ruleDo_state (mcode_vars hm) e
theorem nextL_len {m : Mo} (hm : mcode m = 0) {x : Int} (hx : 0 ≤ x ∧ x < prodTo m.vars m.vars.length) : (nextL m x).length ≤ 4096 := by
  have h1 : (nextL m x).Nodup := by
    have := (upL_spec (rawL m x)).1
    exact List.Pairwise.imp (fun {a b} h => by omega) this
  have h2 := (mcode_vars hm).prod (Nat.le_refl m.vars.length)
  have := nodup_length (N := (prodTo m.vars m.vars.length).toNat) h1 (fun y hy => by have := nextL_st hm hx hy; omega)
  omega
theorem Sk.after {bs bl : Nat} {wb w w' : World} (h : Sk bs bl wb w) (hb : Below wb.heap.size w w') : Sk bs bl wb w' :=
  ⟨hb.os.trans h.os, hb.tape.trans h.tape, hb.output.trans h.output, Nat.le_trans h.size hb.size, fun i hi h1 h2 => (hb.block i hi).trans (h.block i hi h1 h2)⟩
/-- a state in a box. -/
def Bx3 (w : World) (b : Nat) (x y z : Value) : Prop := (w.cell? ⟨b, 0, none⟩ = some x ∧ w.cell? ⟨b, 1, none⟩ = some y ∧ w.cell? ⟨b, 2, none⟩ = some z) ∧ RowTy w (.slice (some ⟨b, 0, none⟩) 1 1) 88
theorem Bx3.new (w : World) (x y z : Value) : Bx3 (w.alloc (.cells #[x, y, z] 88)) w.heap.size x y z := by
  refine ⟨(St3.new w x y z _).2.1, fun a n c e => ?_⟩
  injection e with e _ _
  injection e with e
  subst e
  exact ⟨_, _, (MapKept.heap_alloc w _).1⟩
theorem Bx3.sk {bs bl : Nat} {w w' : World} {b : Nat} {x y z : Value} (h : Bx3 w b x y z) (hs : Sk bs bl w w') (hm : TwoMaps w bs bl) : Bx3 w' b x y z :=
  ⟨⟨hs.cell hm h.1.1, hs.cell hm h.1.2.1, hs.cell hm h.1.2.2⟩, h.2.sk hs hm⟩
theorem Bx3.grown {w w' : World} {b : Nat} {x y z : Value} {own : Option Nat} (h : Bx3 w b x y z) (hg : w.grownBy w' own) (ho : ∀ g, own = some g → ∃ cs fr, w.heap[g]? = some (.cells cs 31 fr)) : Bx3 w' b x y z := by
  obtain ⟨cs, fr, h1⟩ := h.2 _ _ _ rfl
  have e : ∀ i v, w.cell? ⟨b, i, none⟩ = some v → w'.cell? ⟨b, i, none⟩ = some v := fun i v hv => by
    rw [World.cell?_of_block (hg.block b (Array.getElem?_eq_some_iff.1 h1).1 (fun e2 => by
      obtain ⟨cs', fr', h2⟩ := ho _ e2.symm
      rw [h1] at h2
      injection h2 with h2
      injection h2 with _ h3 _
      exact absurd h3 (by decide)))]
    exact hv
  exact ⟨⟨e _ _ h.1.1, e _ _ h.1.2.1, e _ _ h.1.2.2⟩, h.2.grown hg (by decide) ho⟩
theorem Bx3.below {w w' : World} {b : Nat} {x y z : Value} (h : Bx3 w b x y z) (hb : Below w.heap.size w w') : Bx3 w' b x y z := by
  obtain ⟨cs, fr, h1⟩ := h.2 _ _ _ rfl
  have hlt : b < w.heap.size := (Array.getElem?_eq_some_iff.1 h1).1
  exact ⟨⟨(hb.cell (p := ⟨b, 0, none⟩) hlt).trans h.1.1, (hb.cell (p := ⟨b, 1, none⟩) hlt).trans h.1.2.1, (hb.cell (p := ⟨b, 2, none⟩) hlt).trans h.1.2.2⟩, h.2.below hb⟩
/-- the block of a row of spots. -/
theorem SpO.own {w : World} {base : Nat} {vo : Option Addr} {n cap : Nat} {x : List (Int × Int)} (h : SpO w base (.slice vo n cap) x) (o : Obj) : ∀ g, (Value.slice vo n cap).ownBlock = some g → base ≤ g ∧ ∃ cs fr, (w.alloc o).heap[g]? = some (.cells cs 31 fr) := by
  intro g hg
  rcases h.2 with ⟨h0, _⟩ | ⟨g', cap', cur, h1, h2, h3, _⟩
  · rw [h0] at hg; simp [Value.ownBlock] at hg
  · rw [h1] at hg
    simp [Value.ownBlock] at hg
    subst hg
    exact ⟨h2, cur, _, (Below.heap_alloc w o g' (Array.getElem?_eq_some_iff.1 h3).1).trans h3⟩
end Go.Proofs.YtdlpmomohbdpgaaGreatDoor

/-
  The contract of the survey's behind.
-/
namespace Go.Proofs.YtdlpmomohbdpgaaGreatDoor
open Go.ChangeShapes Go.WideShapes Go.ChangeAt Go.RowKit Go.Deep Go.Maps
open Terms Tm

/-- what behind leaves. -/
def BhPost (w0 w : World) (B bs bl n : Nat) (va vr pv fv : Value) (m : Mo) (ps : List (List (Int × Int))) (l : List (Int × Int)) (ho : Option Addr) (hc : Nat) (code c : Int) (e : Ending) (w' : World) : Prop :=
  Sk bs bl w w' ∧ Hid (SvOk w0 w' B bs bl (n + 300000) va vr pv fv m ps l ho hc) ∧ ((wcode m code = 0 ∧ ∃ so sc, e = .returned (.tuple #[.slice so (behL m ps l code c).length sc, .int .i64 0]) ∧ Hid (SpO w' w.heap.size (.slice so (behL m ps l code c).length sc) (behL m ps l code c))) ∨ (wcode m code ≠ 0 ∧ e = .returned (.tuple #[.slice none 0 0, .int .i64 (wcode m code)])))

set_option maxHeartbeats 1600000 in
set_option maxRecDepth 20000 in
/-- of what is no state. -/
theorem behind_out (w0 w : World) (B bs bl n : Nat) (va vr pv fv : Value) (m : Mo) (ps : List (List (Int × Int))) (l : List (Int × Int)) (ho : Option Addr) (hc : Nat) (code c : Int) (hI : -9223372036854775808 ≤ code ∧ code ≤ 9223372036854775807) (hB : 0 < w0.heap.size) (hT : TabAt w0) (hV : TaskV w0 va vr pv fv m ps l) (hk : tkcode m ps l = 0) (hS : SvOk w0 w B bs bl n va vr pv fv m ps l ho hc) (hn : n + 300000 < 1000000000000) (hw : wcode m code ≠ 0) :
    Calls Tryz.prog 15 #[.pointer (some ⟨B, 0, none⟩), .agg #[.int .i64 code, .int .i64 c]] w (BhPost w0 w B bs bl n va vr pv fv m ps l ho hc code c) := by
  have hb1 : Below w.heap.size w (w.alloc (.cells #[.int .i64 code, .int .i64 c] 31)) := (Below.refl _ _).alloc (Nat.le_refl _) _
  have hst := stateOf_any w0 _ B bs bl n va vr pv fv m ps l ho hc code hI hB hT hV hk (hS.below hb1) (by omega)
  have hst2 : Calls Tryz.prog 40 #[.pointer (some ⟨B, 0, none⟩), .int .i64 code] (w.alloc (.cells #[.int .i64 code, .int .i64 c] 31)) fun e w' => e = .returned (.tuple #[.agg #[.slice none 0 0, .slice none 0 0, .slice none 0 0], .int .i64 (wcode m code)]) ∧ Hid (Sk bs bl w w' ∧ SvOk w0 w' B bs bl (n + 1) va vr pv fv m ps l ho hc) := hst.mono fun e w' ⟨h1, h2, h3⟩ => by
    rcases h3 with ⟨h4, _⟩ | ⟨_, h4⟩
    · exact absurd h4 hw
    · exact ⟨h4, (Sk.of hb1).trans h1, h2.out⟩
  unfold BhPost
  have HW : Hid (wcode m code ≠ 0) := hw
  have hw2 : ¬ wcode m code = 0 := hw
  generalize wcode m code = wc at *
  clear hst hS hT hV hk hw
  go_enter Tryz.func15, Tryz.ntmps15
  go_wp2_with (first | (go_at_call 40; refine hst2.mono ?_; rintro e w2 ⟨rfl, HR⟩))
  go_ret2
  have hb2 : ∀ o, Below w2.heap.size w2 (w2.alloc o) := fun o => (Below.refl _ _).alloc (Nat.le_refl _) o
  exact ⟨HR.out.1.trans (Sk.of (hb2 _)), (HR.out.2.below (hb2 _)).mono (by omega), .inr ⟨HW.out, rfl⟩⟩

set_option maxHeartbeats 6400000 in
set_option maxRecDepth 20000 in
/-- of a state. -/
theorem behind_in (w0 w : World) (B bs bl n : Nat) (va vr pv fv : Value) (m : Mo) (ps : List (List (Int × Int))) (l : List (Int × Int)) (ho : Option Addr) (hc : Nat) (code : Int) (c : Nat) (hI : -9223372036854775808 ≤ code ∧ code ≤ 9223372036854775807) (hB : 0 < w0.heap.size) (hT : TabAt w0) (hV : TaskV w0 va vr pv fv m ps l) (hk : tkcode m ps l = 0) (hS : SvOk w0 w B bs bl n va vr pv fv m ps l ho hc) (hn : n + 300000 < 1000000000000) (hcr : 0 ≤ code ∧ code < prodTo m.vars m.vars.length) (hcN : c < 2 ^ (aheadL l).length) :
    Calls Tryz.prog 15 #[.pointer (some ⟨B, 0, none⟩), .agg #[.int .i64 code, .int .i64 (c : Int)]] w (BhPost w0 w B bs bl n va vr pv fv m ps l ho hc code (c : Int)) := by
  obtain ⟨hp0, hl0⟩ := tk_zero hk
  obtain ⟨hm0, _⟩ := pcode_m hp0
  obtain ⟨_, _, _, _, h6⟩ := lcode_zero hl0
  have hw := wcode_yes hm0 hcr
  have hpr := ((mcode_vars hm0).prod (Nat.le_refl m.vars.length)).2
  have hN64 : 2 ^ (aheadL l).length ≤ 64 := Nat.pow_le_pow_right (show 0 < 2 by decide) h6
  have hnn := nextL_len hm0 hcr
  obtain ⟨W1, hW1⟩ : ∃ W1, W1 = w.alloc (.cells #[.int .i64 code, .int .i64 (c : Int)] 31) := ⟨_, rfl⟩
  have hb1 : Below w.heap.size w W1 := by rw [hW1]; exact (Below.refl _ _).alloc (Nat.le_refl _) _
  have hs1 : W1.cell? ⟨w.heap.size, 0, none⟩ = some (.int .i64 code) ∧ W1.cell? ⟨w.heap.size, 1, none⟩ = some (.int .i64 (c : Int)) := by rw [hW1]; constructor <;> simp [go_sem]
  have hS1 := hS.below hb1
  have hst := stateOf_any w0 W1 B bs bl n va vr pv fv m ps l ho hc code hI hB hT hV hk hS1 (by omega)
  have hst2 : Calls Tryz.prog 40 #[.pointer (some ⟨B, 0, none⟩), .int .i64 code] W1 fun e w' => ∃ lo lc no nc so sc, e = .returned (.tuple #[.agg #[.slice lo ps.length lc, .slice no (nextL m code).length nc, .slice so (2 ^ (aheadL l).length) sc], .int .i64 0]) ∧ Hid (Sk bs bl w w' ∧ SvOk w0 w' B bs bl (n + 1) va vr pv fv m ps l ho hc ∧ StOk w' m ps l code (.agg #[.slice lo ps.length lc, .slice no (nextL m code).length nc, .slice so (2 ^ (aheadL l).length) sc])) ∧ Hid (w'.cell? ⟨w.heap.size, 0, none⟩ = some (.int .i64 code) ∧ w'.cell? ⟨w.heap.size, 1, none⟩ = some (.int .i64 (c : Int))) := hst.mono fun e w' ⟨h1, h2, h3⟩ => by
    rcases h3 with ⟨_, lo, lc, no, nc, so, sc, h4, h5⟩ | ⟨h4, _⟩
    · exact ⟨lo, lc, no, nc, so, sc, h4, ⟨(Sk.of hb1).trans h1, h2.out, h5.out⟩, h1.cell hS1.two hs1.1, h1.cell hS1.two hs1.2⟩
    · exact absurd hw h4
  have HSt : Hid (∀ (w' : World) (n' : Nat) (c' : Int), n' < 1000000000000 → 0 ≤ c' ∧ c' < prodTo m.vars m.vars.length → SvOk w0 w' B bs bl n' va vr pv fv m ps l ho hc → Calls Tryz.prog 40 #[.pointer (some ⟨B, 0, none⟩), .int .i64 c'] w' fun e w'' => ∃ lo lc no nn2 nc so sc, e = .returned (.tuple #[.agg #[.slice lo ps.length lc, .slice no nn2 nc, .slice so (2 ^ (aheadL l).length) sc], .int .i64 0]) ∧ Hid (Sk bs bl w' w'' ∧ SvOk w0 w'' B bs bl (n' + 1) va vr pv fv m ps l ho hc ∧ StOk w'' m ps l c' (.agg #[.slice lo ps.length lc, .slice no nn2 nc, .slice so (2 ^ (aheadL l).length) sc]))) := fun w' n' c' hn' hc' hS' => (stateOf_any w0 w' B bs bl n' va vr pv fv m ps l ho hc c' (by omega) hB hT hV hk hS' hn').mono fun e w'' ⟨h1, h2, h3⟩ => by
    rcases h3 with ⟨_, lo, lc, no, nc, so, sc, h4, h5⟩ | ⟨h4, _⟩
    · exact ⟨lo, lc, no, _, nc, so, sc, h4, h1, h2.out, h5.out⟩
    · exact absurd (wcode_yes hm0 hc') h4
  have HFo : Hid (∀ (w' : World) (n' d : Nat) (c' : Int) (lo no so lo2 no2 so2 : Option Addr) (lc nn nc sc lc2 nn2 nc2 sc2 : Nat), n' < 1000000000000 → d < 2 ^ (aheadL l).length → 0 ≤ c' ∧ c' < prodTo m.vars m.vars.length → SvOk w0 w' B bs bl n' va vr pv fv m ps l ho hc → StOk w' m ps l code (.agg #[.slice lo ps.length lc, .slice no nn nc, .slice so (2 ^ (aheadL l).length) sc]) → StOk w' m ps l c' (.agg #[.slice lo2 ps.length lc2, .slice no2 nn2 nc2, .slice so2 (2 ^ (aheadL l).length) sc2]) → Calls Tryz.prog 41 #[.pointer (some ⟨B, 0, none⟩), .agg #[.slice lo ps.length lc, .slice no nn nc, .slice so (2 ^ (aheadL l).length) sc], .int .i64 (c : Int), .agg #[.slice lo2 ps.length lc2, .slice no2 nn2 nc2, .slice so2 (2 ^ (aheadL l).length) sc2], .int .i64 (d : Int)] w' fun e w'' => e = .returned (.tuple #[.bool (folR l (letL m ps code) (c : Int) (letL m ps c') (d : Int)), .int .i64 0]) ∧ Hid (Sk bs bl w' w'' ∧ SvOk w0 w'' B bs bl (n' + 1) va vr pv fv m ps l ho hc)) := fun w' n' d c' lo no so lo2 no2 so2 lc nn nc sc lc2 nn2 nc2 sc2 hn' hd hc' hS' hA hB' => by
    obtain ⟨_, _, _, _, _, _, e1, hx, _, _, _⟩ := hA
    obtain ⟨_, _, _, _, _, _, e2, hy, _, hz, _⟩ := hB'
    simp only [Value.agg.injEq, Array.mk.injEq, List.cons.injEq, Value.slice.injEq, and_true, true_and] at e1 e2
    obtain ⟨⟨rfl, rfl⟩, ⟨rfl, rfl, rfl⟩, rfl, rfl⟩ := e1
    obtain ⟨⟨rfl, rfl⟩, ⟨rfl, rfl, rfl⟩, rfl, rfl⟩ := e2
    exact (follows_any w0 w' B bs bl n' va vr pv fv m ps l ho hc (letL m ps code) (letL m ps c') c d _ _ _ _ _ _ _ _ _ _ _ _ _ _ hB hT hV hk hS' hn' hx hy hz (tk_let hk hcr).2 (tk_let hk hc').2 hcN hd).mono fun e w'' ⟨h1, h2, h3⟩ => ⟨h1, h2, h3.out⟩
  have HCl : Hid (∀ (w' : World) (n' : Nat), SvOk w0 w' B bs bl n' va vr pv fv m ps l ho hc → Calls Tryz.prog 14 #[.pointer (some ⟨B, 0, none⟩)] w' fun e w'' => e = .returned (.int .i64 ((2 ^ (aheadL l).length : Nat) : Int)) ∧ w'' = w') := fun w' n' h => claims_any B _ _ _ _ ho _ hc bs bl w' h6 h.box
  have HNx : Hid (∀ i, i < (nextL m code).length → 0 ≤ (nextL m code).getD i 0 ∧ (nextL m code).getD i 0 < prodTo m.vars m.vars.length) := fun i hi => nextL_st hm0 hcr (by rw [List.getD_eq_getElem?_getD, List.getElem?_eq_getElem hi]; exact List.getElem_mem hi)
  have HBt : Hid (∀ i, behTo m ps l code (c : Int) (i + 1) = behTo m ps l code (c : Int) i ++ foTo l (letL m ps code) (c : Int) (letL m ps ((nextL m code).getD i 0)) ((nextL m code).getD i 0) (2 ^ (aheadL l).length)) := fun _ => rfl
  have HB0 : Hid (behTo m ps l code (c : Int) 0 = []) := rfl
  have HBl : Hid (∀ i, (behTo m ps l code (c : Int) i).length ≤ i * 64) := behTo_len hN64 code (c : Int)
  have HInt : Hid (∀ (w' : World) (lo no so : Option Addr) (lc nc sc : Nat), StOk w' m ps l code (.agg #[.slice lo ps.length lc, .slice no (nextL m code).length nc, .slice so (2 ^ (aheadL l).length) sc]) → ∀ i, i < (nextL m code).length → ∃ b off, no = some ⟨b, off, none⟩ ∧ w'.cell? ⟨b, off + i, none⟩ = some (.int .i64 ((nextL m code).getD i 0))) := fun w' lo no so lc nc sc hA i hi => by
    obtain ⟨_, _, _, _, _, _, e1, _, hx, _, _⟩ := hA
    simp only [Value.agg.injEq, Array.mk.injEq, List.cons.injEq, Value.slice.injEq, and_true, true_and] at e1
    obtain ⟨⟨rfl, rfl⟩, ⟨rfl, rfl⟩, rfl, rfl⟩ := e1
    obtain ⟨ao, cap, e2, h1⟩ := hx
    injection e2 with e2 _ _
    subst e2
    obtain ⟨b, off, rfl, _, hat⟩ := h1 (by intro e; rw [e] at hi; simp at hi)
    exact ⟨b, off, rfl, hat i hi⟩
  have hw0 : w0.heap.size ≤ w.heap.size := hS.bel.size
  have hBlt : B < w.heap.size := hS.box.lt
  unfold BhPost behL
  have HW : Hid (wcode m code = 0) := hw
  generalize (nextL m code).length = nn at *
  generalize behTo m ps l code (c : Int) = bt at *
  generalize m.vars.length = vn at *
  generalize hpn : ps.length = pn at *
  generalize 2 ^ (aheadL l).length = N at *
  clear hst hS hS1 hT hV hk hp0 hl0 hm0 h6 hw hpn hs1 hcN
  subst hW1
  go_enter Tryz.func15, Tryz.ntmps15
  go_wp2_with (first | (go_at_call 40; refine hst2.mono ?_; rintro e w2 ⟨lo, lc, no, nc, so, sc, rfl, HR, HC⟩))
  obtain ⟨hsk2, hsv2, hso2⟩ := HR.out
  obtain ⟨hc0, hc1⟩ := HC.out
  have hb2 : Below w2.heap.size w2 (w2.alloc (.cells #[.slice lo pn lc, .slice no nn nc, .slice so N sc] 88)) := (Below.refl _ _).alloc (Nat.le_refl _) _
  have hbx := Bx3.new w2 (.slice lo pn lc) (.slice no nn nc) (.slice so N sc)
  have hzb : (w2.alloc (.cells #[.slice lo pn lc, .slice no nn nc, .slice so N sc] 88)).heap.size = w2.heap.size + 1 := by simp
  have hskb := hsk2.trans (Sk.of (bs := bs) (bl := bl) hb2)
  have hsvb := hsv2.below hb2
  have hsob := hso2.below hb2
  have hsz2 := hsk2.size
  have hcb1 : (w2.alloc (.cells #[.slice lo pn lc, .slice no nn nc, .slice so N sc] 88)).cell? ⟨w.heap.size, 1, none⟩ = some (.int .i64 (c : Int)) := (hb2.cell (p := ⟨w.heap.size, 1, none⟩) (World.block_lt_of_cell? _ _ hc1)).trans hc1
  generalize w2.alloc (.cells #[.slice lo pn lc, .slice no nn nc, .slice so N sc] 88) = Wb at *
  have htw := hsvb.two
  have HTw : Hid (TwoMaps Wb bs bl) := htw
  have HSob : Hid (∀ w', Sk bs bl Wb w' → StOk w' m ps l code (.agg #[.slice lo pn lc, .slice no nn nc, .slice so N sc])) := fun w' h => hsob.sk h htw
  have HBxb : Hid (∀ w', Sk bs bl Wb w' → (w'.cell? ⟨w2.heap.size, 0, none⟩ = some (.slice lo pn lc) ∧ w'.cell? ⟨w2.heap.size, 1, none⟩ = some (.slice no nn nc) ∧ w'.cell? ⟨w2.heap.size, 2, none⟩ = some (.slice so N sc)) ∧ w'.cell? ⟨w.heap.size, 1, none⟩ = some (.int .i64 (c : Int))) := fun w' h => ⟨(hbx.sk h htw).1, h.cell htw hcb1⟩
  have HSvb : Hid (SvOk w0 Wb B bs bl (n + 1) va vr pv fv m ps l ho hc) := hsvb
  have HSkb : Hid (Sk bs bl w Wb) := hskb
  clear hst2 HR HC hsk2 hsv2 hso2 hc0 hc1 hb2 hbx hskb hsvb hsob hcb1 htw
  go_loopw [8, 29] (fun u i wr => ∃ k : Nat, k ≤ nn ∧ i = .int .i64 k ∧ (∃ po pk pc, u = .slice po pk pc ∧ pk ≤ k * 64 ∧ Hid ((bt k).length = pk ∧ SpO wr Wb.heap.size (.slice po pk pc) (bt k))) ∧ Hid (Sk bs bl Wb wr ∧ SvOk w0 wr B bs bl (n + 1 + k * 65) va vr pv fv m ps l ho hc)) (fun _ i _ => nn - (intOf i).toNat)
  case atStart => exact ⟨0, Nat.zero_le _, rfl, ⟨none, 0, 0, rfl, Nat.zero_le _, by rw [HB0.out]; rfl, by rw [HB0.out]; exact SpO.nil _ _⟩, Sk.refl _ _ _, HSvb.out⟩
  case round =>
    obtain ⟨k, hkn, rfl, ⟨po, pk, pc, rfl, hpk, HSp⟩, HSS⟩ := hrel
    by_cases hlt : k < nn
    · obtain ⟨hskr, hsvr⟩ := HSS.out
      obtain ⟨nb, noff, rfl, hcell⟩ := HInt.out wr lo no so lc nc sc (HSob.out wr hskr) k hlt
      have hin := HNx.out k hlt
      have hst := HSt.out wr (n + 1 + k * 65) _ (by omega) hin hsvr
      have hki : (k : Int) < (nn : Int) := by omega
      have HBk := (show Hid _ from HBt.out k)
      have HSpk : Hid (∀ w', Sk bs bl wr w' → SpO w' Wb.heap.size (.slice po pk pc) (bt k)) := fun w' h => HSp.out.2.sk h hsvr.two
      have HSl : Hid ((bt k).length = pk) := HSp.out.1
      have HFk : Hid (∀ (w' : World) (n' d : Nat) (lo2 no2 so2 : Option Addr) (lc2 nn2 nc2 sc2 : Nat), n' < 1000000000000 → d < N → SvOk w0 w' B bs bl n' va vr pv fv m ps l ho hc → Sk bs bl Wb w' → StOk w' m ps l ((nextL m code).getD k 0) (.agg #[.slice lo2 pn lc2, .slice no2 nn2 nc2, .slice so2 N sc2]) → Calls Tryz.prog 41 #[.pointer (some ⟨B, 0, none⟩), .agg #[.slice lo pn lc, .slice (some ⟨nb, noff, none⟩) nn nc, .slice so N sc], .int .i64 (c : Int), .agg #[.slice lo2 pn lc2, .slice no2 nn2 nc2, .slice so2 N sc2], .int .i64 (d : Int)] w' fun e w'' => e = .returned (.tuple #[.bool (folR l (letL m ps code) (c : Int) (letL m ps ((nextL m code).getD k 0)) (d : Int)), .int .i64 0]) ∧ Hid (Sk bs bl w' w'' ∧ SvOk w0 w'' B bs bl (n' + 1) va vr pv fv m ps l ho hc)) := fun w' n' d lo2 no2 so2 lc2 nn2 nc2 sc2 h1 h2 h3 h4 h5 => HFo.out w' n' d _ lo _ so lo2 no2 so2 lc nn nc sc lc2 nn2 nc2 sc2 h1 h2 hin h3 (HSob.out w' h4) h5
      have HF0 : Hid (foTo l (letL m ps code) (c : Int) (letL m ps ((nextL m code).getD k 0)) ((nextL m code).getD k 0) 0 = []) := rfl
      have HFS : Hid (∀ d : Nat, foTo l (letL m ps code) (c : Int) (letL m ps ((nextL m code).getD k 0)) ((nextL m code).getD k 0) (d + 1) = if folR l (letL m ps code) (c : Int) (letL m ps ((nextL m code).getD k 0)) (d : Int) = true then foTo l (letL m ps code) (c : Int) (letL m ps ((nextL m code).getD k 0)) ((nextL m code).getD k 0) d ++ [((nextL m code).getD k 0, (d : Int))] else foTo l (letL m ps code) (c : Int) (letL m ps ((nextL m code).getD k 0)) ((nextL m code).getD k 0) d) := fun _ => rfl
      have HFl : Hid (∀ d, (foTo l (letL m ps code) (c : Int) (letL m ps ((nextL m code).getD k 0)) ((nextL m code).getD k 0) d).length ≤ d) := foTo_len _ _ _ _ _
      have HStk : Hid (∀ (w' w'' : World) (v : Value), StOk w' m ps l ((nextL m code).getD k 0) v → TwoMaps w' bs bl → Sk bs bl w' w'' → StOk w'' m ps l ((nextL m code).getD k 0) v) := fun w' w'' v h1 h2 h3 => h1.sk h3 h2
      have HStg : Hid (∀ (w' w'' : World) (v : Value) (own : Option Nat), StOk w' m ps l ((nextL m code).getD k 0) v → w'.grownBy w'' own → (∀ g, own = some g → ∃ cs fr, w'.heap[g]? = some (.cells cs 31 fr)) → StOk w'' m ps l ((nextL m code).getD k 0) v) := fun w' w'' v own h1 h2 h3 => h1.grown h2 h3
      have HStb : Hid (∀ (w' : World) (v : Value) (o : Obj), StOk w' m ps l ((nextL m code).getD k 0) v → StOk (w'.alloc o) m ps l ((nextL m code).getD k 0) v) := fun w' v o h1 => h1.below ((Below.refl _ _).alloc (Nat.le_refl _) o)
      generalize foTo l (letL m ps code) (c : Int) (letL m ps ((nextL m code).getD k 0)) ((nextL m code).getD k 0) = ft at *
      generalize hfr : (fun d : Nat => folR l (letL m ps code) (c : Int) (letL m ps ((nextL m code).getD k 0)) (d : Int)) = fr at *
      have HFr : Hid (∀ d : Nat, folR l (letL m ps code) (c : Int) (letL m ps ((nextL m code).getD k 0)) (d : Int) = fr d) := fun d => by rw [← hfr]
      generalize hstk : (fun (w' : World) (v : Value) => StOk w' m ps l ((nextL m code).getD k 0) v) = SK at *
      have HSK : Hid (∀ (w' : World) (v : Value), StOk w' m ps l ((nextL m code).getD k 0) v ↔ SK w' v) := fun w' v => by rw [← hstk]
      clear hfr hstk
      have hst' : Calls Tryz.prog 40 #[.pointer (some ⟨B, 0, none⟩), .int .i64 ((nextL m code).getD k 0)] wr fun e w'' => ∃ lo lc no nn2 nc so sc, e = .returned (.tuple #[.agg #[.slice lo pn lc, .slice no nn2 nc, .slice so N sc], .int .i64 0]) ∧ Hid (Sk bs bl wr w'' ∧ SvOk w0 w'' B bs bl (n + 1 + k * 65 + 1) va vr pv fv m ps l ho hc ∧ SK w'' (.agg #[.slice lo pn lc, .slice no nn2 nc, .slice so N sc])) := hst.mono fun e w'' ⟨a1, a2, a3, a4, a5, a6, a7, h1, h2⟩ => ⟨a1, a2, a3, a4, a5, a6, a7, h1, h2.out.1, h2.out.2.1, (HSK.out _ _).1 h2.out.2.2⟩
      clear hst HInt HSt HNx HBt HB0
      generalize (nextL m code).getD k 0 = cd at *
      clear hsvr HSp
      go_wp2_with (first | (go_at_call 40; refine hst'.mono ?_; rintro e w3 ⟨lo2, lc2, no2, nn2, nc2, so2, sc2, rfl, HR3⟩; have hcl := HCl.out _ _ (HR3.out.2.1.below ((Below.refl w3.heap.size w3).alloc (Nat.le_refl _) (.cells #[.slice lo2 pn lc2, .slice no2 nn2 nc2, .slice so2 N sc2] 88)))) | (go_at_call 14; refine hcl.mono ?_; rintro e w4 ⟨rfl, hw4⟩))
      have hbA : Below w3.heap.size w3 (w3.alloc (.cells #[.slice lo2 pn lc2, .slice no2 nn2 nc2, .slice so2 N sc2] 88)) := (Below.refl _ _).alloc (Nat.le_refl _) _
      have HIn : Hid (SpO (w3.alloc (.cells #[.slice lo2 pn lc2, .slice no2 nn2 nc2, .slice so2 N sc2] 88)) Wb.heap.size (.slice po pk pc) (bt k) ∧ Sk bs bl Wb (w3.alloc (.cells #[.slice lo2 pn lc2, .slice no2 nn2 nc2, .slice so2 N sc2] 88)) ∧ SvOk w0 (w3.alloc (.cells #[.slice lo2 pn lc2, .slice no2 nn2 nc2, .slice so2 N sc2] 88)) B bs bl (n + 1 + k * 65 + 1) va vr pv fv m ps l ho hc ∧ SK (w3.alloc (.cells #[.slice lo2 pn lc2, .slice no2 nn2 nc2, .slice so2 N sc2] 88)) (.agg #[.slice lo2 pn lc2, .slice no2 nn2 nc2, .slice so2 N sc2]) ∧ Bx3 (w3.alloc (.cells #[.slice lo2 pn lc2, .slice no2 nn2 nc2, .slice so2 N sc2] 88)) w3.heap.size (.slice lo2 pn lc2) (.slice no2 nn2 nc2) (.slice so2 N sc2)) :=
        ⟨(HSpk.out w3 HR3.out.1).later hbA (Nat.le_refl _), (hskr.trans HR3.out.1).trans (Sk.of hbA), HR3.out.2.1.below hbA, (HSK.out _ _).1 (HStb.out _ _ _ ((HSK.out _ _).2 HR3.out.2.2)), Bx3.new _ _ _ _⟩
      clear HR3 HSpk hst' hcl hbA HStb
      generalize w3.alloc (.cells #[.slice lo2 pn lc2, .slice no2 nn2 nc2, .slice so2 N sc2] 88) = Wc at *
      have HSKk : Hid (∀ (w' w'' : World) (v : Value), SK w' v → TwoMaps w' bs bl → Sk bs bl w' w'' → SK w'' v) := fun w' w'' v h1 h2 h3 => (HSK.out _ _).1 (HStk.out w' w'' v ((HSK.out _ _).2 h1) h2 h3)
      have HSKg : Hid (∀ (w' w'' : World) (v : Value) (own : Option Nat), SK w' v → w'.grownBy w'' own → (∀ g, own = some g → ∃ cs fr, w'.heap[g]? = some (.cells cs 31 fr)) → SK w'' v) := fun w' w'' v own h1 h2 h3 => (HSK.out _ _).1 (HStg.out w' w'' v own ((HSK.out _ _).2 h1) h2 h3)
      have HSKa : Hid (∀ (w' : World) (v : Value) (o : Obj), SK w' v → SK (w'.alloc o) v) := fun w' v o h1 => HSKg.out w' (w'.alloc o) v none h1 (World.grownBy_alloc w' o none) (fun g e => by simp at e)
      have HFk2 : Hid (∀ (w' : World) (n' d : Nat), n' < 1000000000000 → d < N → SvOk w0 w' B bs bl n' va vr pv fv m ps l ho hc → Sk bs bl Wb w' → SK w' (.agg #[.slice lo2 pn lc2, .slice no2 nn2 nc2, .slice so2 N sc2]) → Calls Tryz.prog 41 #[.pointer (some ⟨B, 0, none⟩), .agg #[.slice lo pn lc, .slice (some ⟨nb, noff, none⟩) nn nc, .slice so N sc], .int .i64 (c : Int), .agg #[.slice lo2 pn lc2, .slice no2 nn2 nc2, .slice so2 N sc2], .int .i64 (d : Int)] w' fun e w'' => e = .returned (.tuple #[.bool (fr d), .int .i64 0]) ∧ Hid (Sk bs bl w' w'' ∧ SvOk w0 w'' B bs bl (n' + 1) va vr pv fv m ps l ho hc)) := fun w' n' d h1 h2 h3 h4 h5 => by
        have := HFk.out w' n' d lo2 no2 so2 lc2 nn2 nc2 sc2 h1 h2 h3 h4 ((HSK.out _ _).2 h5)
        rw [HFr.out] at this
        exact this
      have HFS2 : Hid (∀ d : Nat, ft (d + 1) = if fr d = true then ft d ++ [(cd, (d : Int))] else ft d) := fun d => by
        have := HFS.out d
        rw [HFr.out] at this
        exact this
      clear HFk HFS HFr HSK HStk HStg HFo
      go_loopw [8, 44] (fun u i wr2 => ∃ d : Nat, d ≤ N ∧ i = .int .i64 d ∧ (∃ po pk2 pc, u = .slice po pk2 pc ∧ pk2 ≤ pk + d ∧ Hid ((bt k ++ ft d).length = pk2 ∧ SpO wr2 Wb.heap.size (.slice po pk2 pc) (bt k ++ ft d))) ∧ Hid (Sk bs bl Wb wr2 ∧ SvOk w0 wr2 B bs bl (n + 1 + k * 65 + 1 + d) va vr pv fv m ps l ho hc ∧ SK wr2 (.agg #[.slice lo2 pn lc2, .slice no2 nn2 nc2, .slice so2 N sc2]) ∧ Bx3 wr2 w3.heap.size (.slice lo2 pn lc2) (.slice no2 nn2 nc2) (.slice so2 N sc2))) (fun _ i _ => N - (intOf i).toNat)
      case atStart => exact ⟨0, Nat.zero_le _, rfl, ⟨po, pk, pc, rfl, Nat.le_refl _, by rw [HF0.out, List.append_nil]; exact HSl.out, by rw [HF0.out, List.append_nil]; exact HIn.out.1⟩, HIn.out.2⟩
      case round =>
        obtain ⟨d, hdN, rfl, ⟨po2, pk2, pc2, rfl, hpk2, HSp2⟩, HS2⟩ := hrel
        by_cases hd : d < N
        · obtain ⟨hsk2, hsv2, hSK2, hbx2⟩ := HS2.out
          have hfo := HFk2.out _ (n + 1 + k * 65 + 1 + d) d (by omega) hd hsv2 hsk2 hSK2
          obtain ⟨⟨x0, x1, x2⟩, x3⟩ := HBxb.out _ hsk2
          obtain ⟨⟨z0, z1, z2⟩, _⟩ := id hbx2
          have htw2 := hsv2.two
          have HE := (show Hid _ from HFS2.out d)
          have HNx2 : Hid (∀ w', Sk bs bl wr w' → SpO w' Wb.heap.size (.slice po2 pk2 pc2) (bt k ++ ft d) ∧ Sk bs bl Wb w' ∧ SK w' (.agg #[.slice lo2 pn lc2, .slice no2 nn2 nc2, .slice so2 N sc2]) ∧ Bx3 w' w3.heap.size (.slice lo2 pn lc2) (.slice no2 nn2 nc2) (.slice so2 N sc2)) := fun w' h => ⟨HSp2.out.2.sk h htw2, hsk2.trans h, HSKk.out _ _ _ hSK2 htw2 h, hbx2.sk h htw2⟩
          have HSl2 : Hid ((bt k ++ ft d).length = pk2) := HSp2.out.1
          clear hskr
          cases hfd : fr d with
          | false =>
            rw [hfd] at hfo HE
            have HE2 : Hid (ft (d + 1) = ft d) := by have := HE.out; rw [if_neg (by simp)] at this; exact this
            clear HE hsv2 hSK2 hbx2 HSp2 HS2 hfd
            go_wp2_with (first | (go_at_call 41; refine hfo.mono ?_; rintro e w5 ⟨rfl, HR5⟩))
            obtain ⟨q1, q2, q3, q4⟩ := HNx2.out _ HR5.out.1
            have HQ := (show Hid (SpO w5 Wb.heap.size (.slice po2 pk2 pc2) (bt k ++ ft d) ∧ Sk bs bl Wb w5 ∧ SvOk w0 w5 B bs bl (n + 1 + k * 65 + 1 + d + 1) va vr pv fv m ps l ho hc ∧ SK w5 (.agg #[.slice lo2 pn lc2, .slice no2 nn2 nc2, .slice so2 N sc2]) ∧ Bx3 w5 w3.heap.size (.slice lo2 pn lc2) (.slice no2 nn2 nc2) (.slice so2 N sc2)) from ⟨q1, q2, HR5.out.2, q3, q4⟩)
            clear q1 q2 q3 q4 HR5
            go_roundw
            case rel => exact ⟨d + 1, by omega, by go_num, ⟨po2, pk2, pc2, rfl, by omega, by rw [HE2.out]; exact HSl2.out, by rw [HE2.out]; exact HQ.out.1⟩, HQ.out.2⟩
            case measure => simp [intOf]; omega
          | true =>
            rw [hfd] at hfo HE
            have HE2 : Hid (ft (d + 1) = ft d ++ [(cd, (d : Int))]) := by have := HE.out; rw [if_pos rfl] at this; exact this
            clear HE hsv2 hSK2 hbx2 HSp2 HS2 hfd
            go_wp2_with (first | (go_at_call 41; refine hfo.mono ?_; rintro e w5 ⟨rfl, HR5⟩; obtain ⟨q1, q2, q3, q4⟩ := HNx2.out _ HR5.out.1; have HQ := (show Hid (SpO w5 Wb.heap.size (.slice po2 pk2 pc2) (bt k ++ ft d) ∧ Sk bs bl Wb w5 ∧ SvOk w0 w5 B bs bl (n + 1 + k * 65 + 1 + d + 1) va vr pv fv m ps l ho hc ∧ SK w5 (.agg #[.slice lo2 pn lc2, .slice no2 nn2 nc2, .slice so2 N sc2]) ∧ Bx3 w5 w3.heap.size (.slice lo2 pn lc2) (.slice no2 nn2 nc2) (.slice so2 N sc2)) from ⟨q1, q2, HR5.out.2, q3, q4⟩); clear q1 q2 q3 q4 HR5; have hsp5 := HQ.out.1; have hsz5 := HQ.out.2.1.size) | (at_builtin; refine push_sp cd (d : Int) rfl _ _ rfl Wb.heap.size pk2 pc2 po2 (bt k ++ ft d) HSl2.out rfl hsp5 rfl (by omega) hsz5 ?_; intro vo6 cap6 w6 ho6 hb6 hg6))
            have hown := hsp5.own (.cells #[.int .i64 cd, .int .i64 (d : Int)] 31)
            have HQ6 : Hid (SpO w6 Wb.heap.size (.slice vo6 (pk2 + 1) cap6) (bt k ++ ft d ++ [(cd, (d : Int))]) ∧ Sk bs bl Wb w6 ∧ SvOk w0 w6 B bs bl (n + 1 + k * 65 + 1 + d + 1) va vr pv fv m ps l ho hc ∧ SK w6 (.agg #[.slice lo2 pn lc2, .slice no2 nn2 nc2, .slice so2 N sc2]) ∧ Bx3 w6 w3.heap.size (.slice lo2 pn lc2) (.slice no2 nn2 nc2) (.slice so2 N sc2)) := by
              have ha : Below w5.heap.size w5 (w5.alloc (.cells #[.int .i64 cd, .int .i64 (d : Int)] 31)) := (Below.refl _ _).alloc (Nat.le_refl _) _
              refine ⟨ho6, HQ.out.2.1.after hb6, (HQ.out.2.2.1.below ha).spots hg6 (fun g e => ?_), HSKg.out _ _ _ _ (HSKa.out _ _ _ HQ.out.2.2.2.1) hg6 (fun g e => (hown g e).2), (HQ.out.2.2.2.2.below ha).grown hg6 (fun g e => (hown g e).2)⟩
              obtain ⟨h1, h2⟩ := hown g e
              have := HSkb.out.size
              exact ⟨by omega, by omega, h2⟩
            clear hown ho6 hb6 hg6 hsp5 HQ
            go_wp2_with fail
            go_roundw
            case rel => exact ⟨d + 1, by omega, by go_num, ⟨vo6, pk2 + 1, cap6, rfl, by omega, by rw [HE2.out, ← List.append_assoc, List.length_append, HSl2.out]; rfl, by rw [HE2.out, ← List.append_assoc]; exact HQ6.out.1⟩, HQ6.out.2⟩
            case measure => simp [intOf]; omega
        · obtain rfl : d = N := by omega
          have HSl2 : Hid ((bt (k + 1)).length = pk2 ∧ SpO wr Wb.heap.size (.slice po2 pk2 pc2) (bt (k + 1))) := by rw [HBk.out]; exact HSp2.out
          have HS3 : Hid (Sk bs bl Wb wr ∧ SvOk w0 wr B bs bl (n + 1 + (k + 1) * 65) va vr pv fv m ps l ho hc) := ⟨HS2.out.1, HS2.out.2.1.mono (by omega)⟩
          clear HSp2 HS2
          go_wp2_with fail
          go_roundw
          case rel => exact ⟨k + 1, by omega, by go_num, ⟨po2, pk2, pc2, rfl, by omega, HSl2.out.1, HSl2.out.2⟩, HS3⟩
          case measure => simp [intOf]; omega
    · obtain rfl : k = nn := by omega
      have HSl : Hid ((bt k).length = pk) := HSp.out.1
      have HSpp : Hid (SpO wr Wb.heap.size (.slice po pk pc) (bt k)) := HSp.out.2
      have hwb : w.heap.size ≤ Wb.heap.size := HSkb.out.size
      clear HSp
      go_wp2_with fail
      go_ret2
      exact ⟨HSkb.out.trans HSS.out.1, HSS.out.2.mono (by omega), .inl ⟨HW.out, po, pc, by rw [HSl.out]; rfl, by rw [HSl.out]; exact owns_mono HSpp.out hwb⟩⟩
end Go.Proofs.YtdlpmomohbdpgaaGreatDoor

/-
  The contract of product.Behind.
-/
namespace Go.Proofs.YtdlpmomohbdpgaaGreatDoor
open Go.ChangeShapes Go.WideShapes Go.ChangeAt Go.RowKit Go.Deep Go.Maps
open Terms Tm

theorem belowD (w : World) (q : Nat) : Below w.heap.size w (w.drewN q) := ⟨rfl, rfl, rfl, Nat.le_refl _, fun _ _ => rfl⟩
/-- a survey that was just made. -/
theorem SvOk.made {w0 w w' : World} {n : Nat} {va vr pv fv : Value} {m : Mo} {ps : List (List (Int × Int))} {l : List (Int × Int)} {ho : Option Addr} {hc : Nat} (hb : Below w0.heap.size w0 w) (hb2 : Below w.heap.size w w') (hn : w.heap.size ≤ n) (hs : SurvAt w' (n + 2) va vr pv fv (.slice ho (aheadL l).length hc) n (n + 1))
    (ho' : w'.ownsRow w.heap.size 3 1 (.slice ho (aheadL l).length hc) (aheadL l).length (ivals (aheadL l))) (h1 : w'.heap[n]? = some (.map #[] 0)) (h2 : w'.heap[n + 1]? = some (.map #[] 0)) : SvOk w0 w' (n + 2) n (n + 1) 0 va vr pv fv m ps l ho hc := by
  have := hb.size
  exact ⟨hs, hb.trans (hb2.mono hb.size), by omega, by omega, by omega, intsV_of_owns ho', RowTy.owns ho', ⟨_, MapIs.new _ h1, fun kl v h => by simp at h⟩, ⟨_, MapIs.new _ h2, fun kl v h => by simp at h⟩⟩

/-- what Behind answers. -/
noncomputable def bhC (m : Mo) (ps : List (List (Int × Int))) (l : List (Int × Int)) (code c : Int) : Int := by classical exact if tkcode m ps l = 0 then (if 0 ≤ c ∧ c < ((2 ^ (aheadL l).length : Nat) : Int) then wcode m code else 9) else tkcode m ps l
noncomputable def bhL (m : Mo) (ps : List (List (Int × Int))) (l : List (Int × Int)) (code c : Int) : List (Int × Int) := by classical exact if bhC m ps l code c = 0 then behL m ps l code c else []
theorem bhC_bad {m : Mo} {ps : List (List (Int × Int))} {l : List (Int × Int)} {code c : Int} (h : tkcode m ps l ≠ 0) : bhC m ps l code c = tkcode m ps l := by unfold bhC; rw [if_neg h]
theorem bhC_no {m : Mo} {ps : List (List (Int × Int))} {l : List (Int × Int)} {code c : Int} (h : tkcode m ps l = 0) (h2 : ¬ (0 ≤ c ∧ c < ((2 ^ (aheadL l).length : Nat) : Int))) : bhC m ps l code c = 9 := by unfold bhC; rw [if_pos h, if_neg h2]
theorem bhC_ok {m : Mo} {ps : List (List (Int × Int))} {l : List (Int × Int)} {code c : Int} (h : tkcode m ps l = 0) (h2 : 0 ≤ c ∧ c < ((2 ^ (aheadL l).length : Nat) : Int)) : bhC m ps l code c = wcode m code := by unfold bhC; rw [if_pos h, if_pos h2]
theorem bhL_bad {m : Mo} {ps : List (List (Int × Int))} {l : List (Int × Int)} {code c : Int} (h : bhC m ps l code c ≠ 0) : bhL m ps l code c = [] := by unfold bhL; rw [if_neg h]
theorem bhL_ok {m : Mo} {ps : List (List (Int × Int))} {l : List (Int × Int)} {code c : Int} (h : bhC m ps l code c = 0) : bhL m ps l code c = behL m ps l code c := by unfold bhL; rw [if_pos h]
def BdPost (w : World) (m : Mo) (ps : List (List (Int × Int))) (l : List (Int × Int)) (code c : Int) (e : Ending) (w' : World) : Prop := ∃ so sc, e = .returned (.tuple #[.slice so (bhL m ps l code c).length sc, .int .i64 (bhC m ps l code c)]) ∧ Below w.heap.size w w' ∧ Hid (SpO w' w.heap.size (.slice so (bhL m ps l code c).length sc) (bhL m ps l code c))

set_option maxHeartbeats 1600000 in
set_option maxRecDepth 20000 in
theorem pbehind_bad (va vr pv fv : Value) (m : Mo) (ps : List (List (Int × Int))) (l : List (Int × Int)) (code c : Int) (w : World) (hB : 0 < w.heap.size) (hT : TabAt w) (hV : TaskV w va vr pv fv m ps l) (hk : tkcode m ps l ≠ 0) :
    Calls Tryz.prog 5 #[.agg #[va, vr, pv, fv], .agg #[.int .i64 code, .int .i64 c]] w (BdPost w m ps l code c) := by
  unfold BdPost
  rw [bhL_bad (by rw [bhC_bad hk]; exact hk), bhC_bad hk]
  obtain ⟨ao, ac, rfl⟩ := hV.mo.1.shape
  obtain ⟨ro, rc, rfl⟩ := hV.mo.2.shape
  obtain ⟨po, pc, rfl⟩ := hV.ps.shape
  obtain ⟨fo, fc, rfl, _⟩ := id hV.fo
  have hA : ∀ o o', Below w.heap.size w ((w.alloc o).alloc o') := fun o o' => ((Below.refl _ _).alloc (Nat.le_refl _) o).alloc (by simp) o'
  have hsv := surveyOf_bad _ _ _ _ m ps l _ (Nat.lt_of_lt_of_le hB (hA (.cells #[.slice ao m.vars.length ac, .slice ro m.rules.length rc, .slice po ps.length pc, .slice fo l.length fc] 29) (.cells #[.int .i64 code, .int .i64 c] 31)).size) (hT.below (hA _ _) hB) (hV.below (hA _ _)) hk
  generalize tkcode m ps l = tc at *
  generalize m.vars.length = vn at *
  generalize m.rules.length = rn at *
  generalize ps.length = pn at *
  generalize l.length = fn at *
  clear hV hT
  go_enter Tryz.func5, Tryz.ntmps5
  go_wp2_with (first | (go_at_call 13; refine hsv.mono ?_; rintro e w1 ⟨rfl, hb1⟩; have hbw := (hA _ _).trans (hb1.mono (hA _ _).size)))
  go_ret2
  exact ⟨none, 0, rfl, hbw, SpO.nil _ _⟩

set_option maxHeartbeats 1600000 in
set_option maxRecDepth 20000 in
theorem pbehind_no (va vr pv fv : Value) (m : Mo) (ps : List (List (Int × Int))) (l : List (Int × Int)) (code c : Int) (w : World) (hB : 0 < w.heap.size) (hT : TabAt w) (hV : TaskV w va vr pv fv m ps l) (hk : tkcode m ps l = 0) (hno : ¬ (0 ≤ c ∧ c < ((2 ^ (aheadL l).length : Nat) : Int))) :
    Calls Tryz.prog 5 #[.agg #[va, vr, pv, fv], .agg #[.int .i64 code, .int .i64 c]] w (BdPost w m ps l code c) := by
  unfold BdPost
  rw [bhL_bad (by rw [bhC_no hk hno]; decide), bhC_no hk hno]
  have h6 := (lcode_zero (tk_zero hk).2).2.2.2.2
  obtain ⟨ao, ac, rfl⟩ := hV.mo.1.shape
  obtain ⟨ro, rc, rfl⟩ := hV.mo.2.shape
  obtain ⟨po, pc, rfl⟩ := hV.ps.shape
  obtain ⟨fo, fc, rfl, _⟩ := id hV.fo
  have hA : ∀ o o', Below w.heap.size w ((w.alloc o).alloc o') := fun o o' => ((Below.refl _ _).alloc (Nat.le_refl _) o).alloc (by simp) o'
  have hsv := surveyOf_ok _ _ _ _ m ps l _ (Nat.lt_of_lt_of_le hB (hA (.cells #[.slice ao m.vars.length ac, .slice ro m.rules.length rc, .slice po ps.length pc, .slice fo l.length fc] 29) (.cells #[.int .i64 code, .int .i64 c] 31)).size) (hT.below (hA _ _) hB) (hV.below (hA _ _)) hk
  have HCl : Hid (∀ (w' : World) (B bs bl : Nat) (ho : Option Addr) (hc : Nat), SurvAt w' B (.slice ao m.vars.length ac) (.slice ro m.rules.length rc) (.slice po ps.length pc) (.slice fo l.length fc) (.slice ho (aheadL l).length hc) bs bl → ∀ q, Calls Tryz.prog 14 #[.pointer (some ⟨B, 0, none⟩)] (w'.drewN q) fun e w'' => e = .returned (.int .i64 ((2 ^ (aheadL l).length : Nat) : Int)) ∧ w'' = w'.drewN q) := fun w' B bs bl ho hc h q => claims_any B _ _ _ _ ho _ hc bs bl (w'.drewN q) h6 (h.later (belowD _ _))
  have HSp : Hid (∀ (o o' : Obj) (w' : World), o' = .cells #[.int .i64 code, .int .i64 c] 31 → Below ((w.alloc o).alloc o').heap.size ((w.alloc o).alloc o') w' → w'.cell? ⟨w.heap.size + 1, 0, none⟩ = some (.int .i64 code) ∧ w'.cell? ⟨w.heap.size + 1, 1, none⟩ = some (.int .i64 c)) := fun o o' w' e h => by
    subst e
    exact ⟨(h.cell (p := ⟨w.heap.size + 1, 0, none⟩) (by simp)).trans (by simp [go_sem]), (h.cell (p := ⟨w.heap.size + 1, 1, none⟩) (by simp)).trans (by simp [go_sem])⟩
  unfold SurvPost at hsv
  generalize 2 ^ (aheadL l).length = N at *
  generalize (aheadL l).length = an at *
  generalize m.vars.length = vn at *
  generalize m.rules.length = rn at *
  generalize ps.length = pn at *
  generalize l.length = fn at *
  clear hV hT hk
  go_enter Tryz.func5, Tryz.ntmps5
  go_wp2_with (first | (go_at_call 13; refine hsv.mono ?_; rintro e w1 ⟨n, ho, hc, rfl, hb1, _, _, HSv, _, _⟩; have hbw := (hA _ _).trans (hb1.mono (hA _ _).size); have hcl := HCl.out w1 _ _ _ _ _ HSv.out; obtain ⟨s0, s1⟩ := HSp.out _ _ w1 rfl hb1))
  by_cases h0 : c < 0
  · have h0d : decide (c < 0) = true := decide_eq_true h0
    go_quiet (first | (go_at_call 14; exact Calls.quiet_of_same (hcl _)))
    go_wp2_with fail
    go_ret2
    exact ⟨none, 0, rfl, ⟨hbw.os, hbw.tape, hbw.output, hbw.size, hbw.block⟩, SpO.nil _ _⟩
  · have h0d : decide (c < 0) = false := decide_eq_false h0
    have h1 : (N : Int) ≤ c := by omega
    have h1d : decide ((N : Int) ≤ c) = true := decide_eq_true h1
    go_quiet (first | (go_at_call 14; exact Calls.quiet_of_same (hcl _)))
    go_wp2_with fail
    go_ret2
    exact ⟨none, 0, rfl, ⟨hbw.os, hbw.tape, hbw.output, hbw.size, hbw.block⟩, SpO.nil _ _⟩

set_option maxHeartbeats 1600000 in
set_option maxRecDepth 20000 in
theorem pbehind_ok (va vr pv fv : Value) (m : Mo) (ps : List (List (Int × Int))) (l : List (Int × Int)) (code : Int) (c : Nat) (hI : -9223372036854775808 ≤ code ∧ code ≤ 9223372036854775807) (w : World) (hB : 0 < w.heap.size) (hT : TabAt w) (hV : TaskV w va vr pv fv m ps l) (hk : tkcode m ps l = 0) (hcN : c < 2 ^ (aheadL l).length) :
    Calls Tryz.prog 5 #[.agg #[va, vr, pv, fv], .agg #[.int .i64 code, .int .i64 (c : Int)]] w (BdPost w m ps l code (c : Int)) := by
  unfold BdPost
  have hbc := bhC_ok (code := code) hk (c := (c : Int)) ⟨by omega, by omega⟩
  have h6 := (lcode_zero (tk_zero hk).2).2.2.2.2
  have hm0 := (pcode_m (tk_zero hk).1).1
  obtain ⟨ao, ac, rfl⟩ := hV.mo.1.shape
  obtain ⟨ro, rc, rfl⟩ := hV.mo.2.shape
  obtain ⟨po, pc, rfl⟩ := hV.ps.shape
  obtain ⟨fo, fc, rfl, _⟩ := id hV.fo
  have hA : ∀ o o', Below w.heap.size w ((w.alloc o).alloc o') := fun o o' => ((Below.refl _ _).alloc (Nat.le_refl _) o).alloc (by simp) o'
  have hsv := surveyOf_ok _ _ _ _ m ps l _ (Nat.lt_of_lt_of_le hB (hA (.cells #[.slice ao m.vars.length ac, .slice ro m.rules.length rc, .slice po ps.length pc, .slice fo l.length fc] 29) (.cells #[.int .i64 code, .int .i64 (c : Int)] 31)).size) (hT.below (hA _ _) hB) (hV.below (hA _ _)) hk
  have HCl : Hid (∀ (w' : World) (B bs bl : Nat) (ho : Option Addr) (hc : Nat), SurvAt w' B (.slice ao m.vars.length ac) (.slice ro m.rules.length rc) (.slice po ps.length pc) (.slice fo l.length fc) (.slice ho (aheadL l).length hc) bs bl → ∀ q, Calls Tryz.prog 14 #[.pointer (some ⟨B, 0, none⟩)] (w'.drewN q) fun e w'' => e = .returned (.int .i64 ((2 ^ (aheadL l).length : Nat) : Int)) ∧ w'' = w'.drewN q) := fun w' B bs bl ho hc h q => claims_any B _ _ _ _ ho _ hc bs bl (w'.drewN q) h6 (h.later (belowD _ _))
  have HSp : Hid (∀ (o o' : Obj) (w' : World), o' = .cells #[.int .i64 code, .int .i64 (c : Int)] 31 → Below ((w.alloc o).alloc o').heap.size ((w.alloc o).alloc o') w' → w'.cell? ⟨w.heap.size + 1, 0, none⟩ = some (.int .i64 code) ∧ w'.cell? ⟨w.heap.size + 1, 1, none⟩ = some (.int .i64 (c : Int))) := fun o o' w' e h => by
    subst e
    exact ⟨(h.cell (p := ⟨w.heap.size + 1, 0, none⟩) (by simp)).trans (by simp [go_sem]), (h.cell (p := ⟨w.heap.size + 1, 1, none⟩) (by simp)).trans (by simp [go_sem])⟩
  have HBh : Hid (∀ (w' : World) (n : Nat) (ho : Option Addr) (hc : Nat), Below w.heap.size w w' → SvOk w w' (n + 2) n (n + 1) 0 (.slice ao m.vars.length ac) (.slice ro m.rules.length rc) (.slice po ps.length pc) (.slice fo l.length fc) m ps l ho hc → Calls Tryz.prog 15 #[.pointer (some ⟨n + 2, 0, none⟩), .agg #[.int .i64 code, .int .i64 (c : Int)]] w' fun e w'' => ∃ so sc, e = .returned (.tuple #[.slice so (bhL m ps l code (c : Int)).length sc, .int .i64 (bhC m ps l code (c : Int))]) ∧ Below w.heap.size w w'' ∧ Hid (SpO w'' w.heap.size (.slice so (bhL m ps l code (c : Int)).length sc) (bhL m ps l code (c : Int)))) := fun w' n ho hc hb hS => by
    by_cases hcr : 0 ≤ code ∧ code < prodTo m.vars m.vars.length
    · refine (behind_in w w' (n + 2) n (n + 1) 0 _ _ _ _ m ps l ho hc code c hI hB hT hV hk hS (by omega) hcr hcN).mono fun e w'' ⟨h1, h2, h3⟩ => ?_
      have hw0 := wcode_yes hm0 hcr
      rcases h3 with ⟨_, so, sc, h4, h5⟩ | ⟨h4, _⟩
      · rw [bhL_ok (by rw [hbc, hw0]), hbc, hw0]
        exact ⟨so, sc, h4, h2.out.bel, owns_mono h5.out hb.size⟩
      · exact absurd hw0 h4
    · refine (behind_out w w' (n + 2) n (n + 1) 0 _ _ _ _ m ps l ho hc code (c : Int) hI hB hT hV hk hS (by omega) (by rw [wcode_no hm0 hcr]; decide)).mono fun e w'' ⟨h1, h2, h3⟩ => ?_
      have hw9 := wcode_no hm0 hcr
      rcases h3 with ⟨h4, _⟩ | ⟨_, h4⟩
      · rw [hw9] at h4; exact absurd h4 (by decide)
      · rw [bhL_bad (by rw [hbc, hw9]; decide), hbc]
        exact ⟨none, 0, h4, h2.out.bel, SpO.nil _ _⟩
  have HMd : Hid (∀ (o o' : Obj) (w' : World) (n : Nat) (ho : Option Addr) (hc : Nat), Below ((w.alloc o).alloc o').heap.size ((w.alloc o).alloc o') w' → ((w.alloc o).alloc o').heap.size ≤ n → SurvAt w' (n + 2) (.slice ao m.vars.length ac) (.slice ro m.rules.length rc) (.slice po ps.length pc) (.slice fo l.length fc) (.slice ho (aheadL l).length hc) n (n + 1) → w'.ownsRow ((w.alloc o).alloc o').heap.size 3 1 (.slice ho (aheadL l).length hc) (aheadL l).length (ivals (aheadL l)) → w'.heap[n]? = some (.map #[] 0) ∧ w'.heap[n + 1]? = some (.map #[] 0) → ∀ q, SvOk w (w'.drewN q) (n + 2) n (n + 1) 0 (.slice ao m.vars.length ac) (.slice ro m.rules.length rc) (.slice po ps.length pc) (.slice fo l.length fc) m ps l ho hc) := fun o o' w' n ho hc h1 h2 h3 h4 h5 q => (SvOk.made (hA o o') h1 h2 h3 h4 h5.1 h5.2).below (belowD _ _)
  have hci : (c : Int) < ((2 ^ (aheadL l).length : Nat) : Int) := by omega
  unfold SurvPost at hsv
  generalize (bhL m ps l code (c : Int)) = bhl at *
  generalize bhC m ps l code (c : Int) = bhc at *
  generalize ivals (aheadL l) = iv at *
  generalize 2 ^ (aheadL l).length = N at *
  generalize (aheadL l).length = an at *
  generalize m.vars.length = vn at *
  generalize m.rules.length = rn at *
  generalize ps.length = pn at *
  generalize l.length = fn at *
  generalize bhl.length = bn at *
  clear hV hT hk hbc
  go_enter Tryz.func5, Tryz.ntmps5
  go_wp2_with (first | (go_at_call 13; refine hsv.mono ?_; rintro e w1 ⟨n, ho, hc, rfl, hb1, hn1, _, HSv, HOw, HMp⟩; have hbw := (hA _ _).trans (hb1.mono (hA _ _).size); have hcl := HCl.out w1 _ _ _ _ _ HSv.out; obtain ⟨s0, s1⟩ := HSp.out _ _ w1 rfl hb1; have HSk := (show Hid _ from HMd.out _ _ w1 n ho hc hb1 hn1 HSv.out HOw.out HMp.out)))
  have h0 : ¬ (c : Int) < 0 := by omega
  have h1 : ¬ (N : Int) ≤ (c : Int) := by omega
  have h1n : ¬ N ≤ c := by omega
  have h0d : decide ((c : Int) < 0) = false := decide_eq_false h0
  have h1d : decide ((N : Int) ≤ (c : Int)) = false := decide_eq_false h1
  go_quiet (first | (go_at_call 14; exact Calls.quiet_of_same (hcl _)))
  have hbe := fun q => HBh.out (w1.drewN q) n ho hc ⟨hbw.os, hbw.tape, hbw.output, hbw.size, hbw.block⟩ (HSk.out q)
  clear hcl HSk
  go_wp2_with (first | (go_at_call 15; refine (hbe _).mono ?_; rintro e w2 ⟨so, sc, rfl, hb2, HO⟩))
  go_ret2
  exact ⟨so, sc, rfl, hb2, HO⟩
/-- THE CONTRACT OF product.Behind. -/
theorem pbehind_any (va vr pv fv : Value) (m : Mo) (ps : List (List (Int × Int))) (l : List (Int × Int)) (code c : Int) (hI : -9223372036854775808 ≤ code ∧ code ≤ 9223372036854775807) (w : World) (hB : 0 < w.heap.size) (hT : TabAt w) (hV : TaskV w va vr pv fv m ps l) :
    Calls Tryz.prog 5 #[.agg #[va, vr, pv, fv], .agg #[.int .i64 code, .int .i64 c]] w (BdPost w m ps l code c) := by
  by_cases hk : tkcode m ps l = 0
  · by_cases hc : 0 ≤ c ∧ c < ((2 ^ (aheadL l).length : Nat) : Int)
    · obtain ⟨k, rfl⟩ : ∃ k : Nat, c = (k : Int) := ⟨c.toNat, by omega⟩
      exact pbehind_ok va vr pv fv m ps l code k hI w hB hT hV hk (by omega)
    · exact pbehind_no va vr pv fv m ps l code c w hB hT hV hk hc
  · exact pbehind_bad va vr pv fv m ps l code c w hB hT hV hk
end Go.Proofs.YtdlpmomohbdpgaaGreatDoor

/-
  The contract of the document's own AheadOf.
-/
namespace Go.Proofs.YtdlpmomohbdpgaaGreatDoor
open Go.ChangeShapes Go.WideShapes Go.ChangeAt Go.RowKit Go.Deep
open Terms

theorem refl_post {α : Prop} (h : α) : α := h

set_option maxHeartbeats 800000 in
set_option maxRecDepth 20000 in
/-- THE CONTRACT OF the document's AheadOf. -/
theorem aheadOf_any (v : Value) (l : List (Int × Int)) (props : Int) (w : World) (hV : OpsV w v l) :
    Calls Tryz.prog 30 #[v, .int .i64 props] w fun e w' => ∃ av, e = .returned (.tuple #[av, .int .i64 (lcode props l)]) ∧ Below w.heap.size w w' ∧ w'.ownsRow w.heap.size 3 1 av (ahL props l).length (ivals (ahL props l)) := by
  have hff := fault_any v l props w hV
  by_cases hz : lcode props l = 0
  · obtain ⟨_, _, hz0', _, _⟩ := lcode_zero hz
    obtain ⟨hne, h60⟩ := ends_ne hz0'
    rw [List.length_map] at h60
    obtain ⟨ao, cap, rfl, h0, h⟩ := hV
    obtain ⟨b, off, rfl, hblt, hat⟩ := h (by rintro rfl; exact hne rfl)
    rw [hz] at hff
    have HLd : Hid (ahL props l = aheadTo l l.length) := by show _ = _; unfold ahL aheadL; rw [if_pos hz]
    have HA : Hid (OpsAt w b off l) := hat
    rw [hz]
    obtain ⟨n, hn⟩ : ∃ n, n = l.length := ⟨_, rfl⟩
    have HN : Hid (n = l.length) := hn
    rw [← hn] at h60 HLd hff ⊢
    obtain ⟨i0, hi, hz0, hz1, hz2⟩ := info_parts infoInt
    clear h0 h hat hne hz hn hz0'
    go_enter Tryz.func30, Tryz.ntmps30
    go_wp2_with (go_at_call 43; refine hff.mono ?_; rintro e w1 ⟨rfl, hb1⟩)
    have hs1 := hb1.size
    clear hff
    go_loopw [7, 8] (fun out i wr => ∃ k : Nat, k ≤ n ∧ i = .int .i64 k ∧ Hid (wr.ownsRow w1.heap.size 3 1 out (aheadTo l k).length (ivals (aheadTo l k))) ∧ Below w1.heap.size w1 wr) (fun _ i _ => n - (intOf i).toNat)
    case atStart => exact ⟨0, Nat.zero_le _, rfl, World.ownsRow_nil _ _ _ _, Below.refl _ _⟩
    case round =>
      obtain ⟨k, hk, rfl, HOw, hbel⟩ := hrel
      have hbw := hb1.trans (hbel.mono hb1.size)
      have hlen := aheadTo_length l k
      have hown := HOw.out
      obtain ⟨aao, aac, rfl⟩ := owns_slice hown
      by_cases hlt : k < n
      · obtain ⟨c0, c1⟩ := (HA.out.below hbw hblt) k (by rw [← HN.out]; exact hlt)
        have HY : Hid (lookB (l.getD k (0, 0)).1 = true → aheadTo l (k + 1) = aheadTo l k ++ [(k : Int)]) := aheadTo_yes
        have HNo : Hid (lookB (l.getD k (0, 0)).1 = false → aheadTo l (k + 1) = aheadTo l k) := aheadTo_no
        generalize l.getD k (0, 0) = xy at c0 c1 HY HNo
        obtain ⟨x, y⟩ := xy
        simp only at c0 c1 HY HNo
        have hlk := fun w => rlook_any x w
        obtain ⟨L, hL⟩ : ∃ L, L = (aheadTo l k).length := ⟨_, rfl⟩
        have HL : Hid (L = (aheadTo l k).length) := hL
        rw [← hL] at hlen hown ⊢
        clear hL HA HOw
        cases hb : lookB x with
        | true =>
          have HAh := (show Hid _ from HY.out hb)
          rw [hb] at hlk
          have h63 : L + 1 ≤ maxLen := by unfold maxLen; omega
          have hkb : (L + 1) * 8 ≤ 140737488355328 := by omega
          have hbase : ∀ o, w1.heap.size ≤ (wr.alloc o).heap.size := fun o => by have := hbel.size; simp; omega
          clear HY HNo hb
          go_wp2_with (first | (go_at_call 50; refine (hlk _).mono ?_; rintro e w3 ⟨rfl, rfl⟩) | (at_builtin; refine wpList_append_own _ rfl _ _ 40 rfl w1.heap.size 3 i0 (.int .i64 0) 1 8 Tryz.underlying40 hi hz0 hz1 hz2 rfl (by decide) _ _ _ rfl (hown.alloc _) ⟨_, 0, none⟩ 1 1 _ rfl rfl (cell_one_new _ _ _) (by intro u hu; simp at hu; subst hu; rfl) h63 hkb (hbase _) ?_; intro v5 w5 hown5 hgrow5 _; obtain ⟨g5, cp5, rfl⟩ := owns_more hown5))
          have hb5 : Below w1.heap.size w1 w5 := (hbel.alloc hbel.size _).grown hgrow5 (hbase _) (owns_block hown)
          refine ⟨⟨k + 1, hlt, by first | rfl | simp, ?_, hb5⟩, by simp [intOf]; omega⟩
          show World.ownsRow _ _ _ _ _ _ _
          rw [HAh.out, List.length_append, ← HL.out]
          rw [show ivals (aheadTo l k ++ [(k : Int)]) = ivals (aheadTo l k) ++ [.int .i64 (k : Int)] by simp [ivals]]
          exact hown5
        | false =>
          have HAh := (show Hid _ from HNo.out hb)
          rw [hb] at hlk
          clear HY HNo hb
          have HO2 : Hid (wr.ownsRow w1.heap.size 3 1 (.slice aao L aac) L (ivals (aheadTo l k))) := hown
          go_wp2_with (go_at_call 50; refine (hlk _).mono ?_; rintro e w3 ⟨rfl, rfl⟩)
          refine ⟨⟨k + 1, hlt, by first | rfl | simp, ?_, hbel⟩, by simp [intOf]; omega⟩
          show World.ownsRow _ _ _ _ _ _ _
          rw [HAh.out, ← HL.out]
          exact HO2.out
      · have hkn : k = n := by omega
        subst hkn
        obtain ⟨L, hL⟩ : ∃ L, L = (aheadTo l k).length := ⟨_, rfl⟩
        have HL : Hid (L = (aheadTo l k).length) := hL
        rw [← hL] at hlen hown ⊢
        clear hL HA HOw
        have HO2 : Hid (wr.ownsRow w1.heap.size 3 1 (.slice aao L aac) L (ivals (aheadTo l k))) := hown
        clear hown
        go_wp2_with fail
        go_ret2
        refine ⟨_, rfl, hbw, ?_⟩
        rw [HLd.out, ← HL.out]
        exact owns_mono HO2.out hs1
  · obtain ⟨ao, cap, rfl, _⟩ := hV
    have HLd : Hid (ahL props l = []) := by show _ = _; unfold ahL; rw [if_neg hz]
    generalize lcode props l = x at *
    go_enter Tryz.func30, Tryz.ntmps30
    go_wp2_with (go_at_call 43; refine hff.mono ?_; rintro e w1 ⟨rfl, hb1⟩)
    go_ret2
    exact ⟨_, rfl, hb1, by rw [HLd.out]; exact World.ownsRow_nil _ _ _ _⟩
end Go.Proofs.YtdlpmomohbdpgaaGreatDoor

/-
  The contracts of the document's own behindVar, StateCount.
-/
namespace Go.Proofs.YtdlpmomohbdpgaaGreatDoor
open Go.ChangeShapes Go.WideShapes Go.ChangeAt Go.RowKit Go.Deep
open Terms Tm

set_option maxHeartbeats 1600000 in
theorem behindVar_any (va : Value) (ro : Option Addr) (rn rc : Nat) (l : List Vr) (a : Nat) (w : World) (hok : VarsOk l) (ha : a ≤ l.length) (hV : VarsV w va l) :
    Calls Tryz.prog 45 #[.agg #[va, .slice ro rn rc], .int .i64 ((a : Int) - 1)] w fun e w' => e = .returned (.int .i64 (segP l a)) ∧ Below w.heap.size w w' := by
  obtain ⟨ao, cap, rfl⟩ := hV.shape
  have HV : Hid (VarsV w (.slice ao l.length cap) l) := hV
  have HOK : Hid (VarsOk l) := hok
  have h6 := hok.1
  unfold segP
  obtain ⟨n, hn⟩ : ∃ n, n = l.length := ⟨_, rfl⟩
  have HN : Hid (n = l.length) := hn
  rw [← hn] at h6 ha HV ⊢
  clear hV hn hok
  have hA : Below w.heap.size w (w.alloc (.cells #[.slice ao n cap, .slice ro rn rc] 25)) := (Below.refl _ _).alloc (Nat.le_refl _) _
  go_enter Tryz.func45, Tryz.ntmps45
  go_wp2
  go_loopw [5, 6] (fun st i wr => ∃ c : Nat, a + c ≤ n ∧ i = .int .i64 ((a + c : Nat) : Int) ∧ st = .int .i64 (prodSeg l a c) ∧ ∃ d, wr = (w.alloc (.cells #[.slice ao n cap, .slice ro rn rc] 25)).drewN d) (fun _ i _ => n - (intOf i).toNat)
  case atStart => exact ⟨0, by omega, by first | rfl | (congr 1; omega) | go_num, rfl, 0, rfl⟩
  case round =>
    obtain ⟨c, hc, rfl, rfl, d, rfl⟩ := hrel
    by_cases hlt : a + c < n
    · obtain ⟨b, off, rfl, hblt, hat⟩ := HV.out.at (i := a + c) (by rw [← HN.out]; exact hlt)
      obtain ⟨c0, c1, c2, c3⟩ := hat.below hA hblt
      have hpb1 := prodSeg_pos HOK.out (a := a) (c := c) (by rw [← HN.out]; exact hc)
      have hpb2 := prodSeg_le HOK.out (a := a) (c := c) (by rw [← HN.out]; exact hc)
      have hvb := HOK.out.at (j := a + c) (by rw [← HN.out]; exact hlt)
      have HPr : Hid (prodSeg l a (c + 1) = prodSeg l a c * vspan (l.getD (a + c) vr0)) := rfl
      generalize prodSeg l a c = st at *
      generalize l.getD (a + c) vr0 = x at *
      obtain ⟨s, lo, hi, ini⟩ := x
      simp only [vspan] at c0 c1 c2 c3 HPr hvb
      obtain ⟨hv1, hv2, hv3, hv4, hv5, hv6, hv7⟩ := hvb
      have hm1 : 1 ≤ st * (hi - lo + 1) := by have := Int.mul_le_mul hpb1 hv1 (by omega) (by omega); simpa using this
      have hm2 : st * (hi - lo + 1) ≤ 262144 := by have := Int.mul_le_mul hpb2 hv2 (by omega) (by omega); simpa using this
      obtain ⟨k, hk⟩ : ∃ k, k = a + c := ⟨_, rfl⟩
      have HK : Hid (k = a + c) := hk
      rw [← hk] at hlt c0 c1 c2 c3 ⊢
      clear hat hk
      have hi0 : (0 : Int) ≤ (k : Int) := Int.natCast_nonneg _
      have hi1 : (k : Int) < (n : Int) := by omega
      have hw1 : IntKind.i64.wrap (hi - lo) = hi - lo := wr64 (by omega) (by omega)
      have hw2 : IntKind.i64.wrap (hi - lo + 1) = hi - lo + 1 := wr64 (by omega) (by omega)
      have hw3 : IntKind.i64.wrap (st * (hi - lo + 1)) = st * (hi - lo + 1) := wr64 (by omega) (by omega)
      go_wp2_with fail
      go_quiet (fail)
      go_wp2_with fail
      go_roundw
      case rel => exact ⟨c + 1, by have := HK.out; omega, by have := HK.out; congr 1; omega, by rw [HPr.out], _, rfl⟩
      case measure => simp [intOf]; omega
    · have hce : c = n - a := by omega
      subst hce
      go_wp2_with fail
      go_ret
      exact ⟨rfl, below_drewN hA _⟩
/-- THE CONTRACT OF StateCount. -/
theorem rcount_any (va vr : Value) (m : Mo) (w : World) (hV : ModelV w va vr m) :
    Calls Tryz.prog 20 #[.agg #[va, vr]] w fun e w' => e = .returned (.tuple #[.int .i64 (if mcode m = 0 then prodTo m.vars m.vars.length else 0), .int .i64 (mcode m)]) ∧ Below w.heap.size w w' := by
  have hA : ∀ o, Below w.heap.size w (w.alloc o) := fun o => (Below.refl _ _).alloc (Nat.le_refl _) o
  have hch := fun o => rmodel_any va vr m (w.alloc o) (hV.below (hA o))
  have HV : Hid (ModelV w va vr m) := hV
  obtain ⟨ao, cap, rfl⟩ := hV.1.shape
  obtain ⟨ro, rc, rfl⟩ := hV.2.shape
  clear hV
  by_cases hz : mcode m = 0
  · have hok := mcode_vars hz
    have hcn := (fun w1 (hb : Below w.heap.size w w1) => behindVar_any _ ro m.rules.length rc m.vars 0 w1 hok (Nat.zero_le _) (HV.out.1.below hb))
    rw [segP_zero, show ((0 : Nat) : Int) - 1 = -1 by decide] at hcn
    rw [hz] at hch ⊢
    rw [if_pos rfl]
    generalize prodTo m.vars m.vars.length = N at *
    generalize m.vars.length = n at *
    generalize m.rules.length = rn at *
    clear hz hok HV
    go_enter Tryz.func20, Tryz.ntmps20
    go_wp2_with (first | (go_at_call 44; refine (hch _).mono ?_; rintro e w1 ⟨rfl, hb1⟩; have hcb0 : w1.cell? ⟨w.heap.size, 0, none⟩ = some (.slice ao n cap) := (hb1.cell (p := ⟨w.heap.size, 0, none⟩) (by simp)).trans (by simp [go_sem]); have hcb1 : w1.cell? ⟨w.heap.size, 1, none⟩ = some (.slice ro rn rc) := (hb1.cell (p := ⟨w.heap.size, 1, none⟩) (by simp)).trans (by simp [go_sem]); have hbw := (hA _).trans (hb1.mono (hA _).size)) | (go_at_call 45; refine (hcn _ hbw).mono ?_; rintro e w2 ⟨rfl, hb2⟩))
    go_ret2
    exact ⟨rfl, hbw.trans (hb2.mono hbw.size)⟩
  · rw [if_neg hz]
    generalize mcode m = x at *
    generalize m.vars.length = n at *
    generalize m.rules.length = rn at *
    clear HV
    go_enter Tryz.func20, Tryz.ntmps20
    go_wp2_with (go_at_call 44; refine (hch _).mono ?_; rintro e w1 ⟨rfl, hb1⟩)
    go_ret2
    exact ⟨rfl, (hA _).trans (hb1.mono (hA _).size)⟩
end Go.Proofs.YtdlpmomohbdpgaaGreatDoor

/-
  The contract of the document's own CodeOf.
-/
namespace Go.Proofs.YtdlpmomohbdpgaaGreatDoor
open Go.ChangeShapes Go.WideShapes Go.ChangeAt Go.RowKit Go.Deep
open Terms Tm

theorem rcode_bad (va vr vv : Value) (m : Mo) (w : World) (hV : ModelV w va vr m) (io : Option Addr) (il ic : Nat) (hv : vv = .slice io il ic) (h : mcode m ≠ 0) :
    Calls Tryz.prog 69 #[.agg #[va, vr], vv] w fun e w' => e = .returned (.tuple #[.int .i64 0, .int .i64 (mcode m)]) ∧ Below w.heap.size w w' := by
  subst hv
  have hA : ∀ o, Below w.heap.size w (w.alloc o) := fun o => (Below.refl _ _).alloc (Nat.le_refl _) o
  have hch := fun o => rmodel_any va vr m (w.alloc o) (hV.below (hA o))
  obtain ⟨ao, cap, rfl⟩ := hV.1.shape
  obtain ⟨ro, rc, rfl⟩ := hV.2.shape
  generalize mcode m = x at *
  generalize m.vars.length = n at *
  generalize m.rules.length = rn at *
  clear hV
  go_enter Tryz.func69, Tryz.ntmps69
  go_wp2_with (go_at_call 44; refine (hch _).mono ?_; rintro e w1 ⟨rfl, hb1⟩)
  go_ret2
  exact ⟨rfl, (hA _).trans (hb1.mono (hA _).size)⟩
theorem rcode_len (va vr vv : Value) (m : Mo) (w : World) (hV : ModelV w va vr m) (io : Option Addr) (il ic : Nat) (hv : vv = .slice io il ic) (h : mcode m = 0) (hl : il ≠ m.vars.length) :
    Calls Tryz.prog 69 #[.agg #[va, vr], vv] w fun e w' => e = .returned (.tuple #[.int .i64 0, .int .i64 9]) ∧ Below w.heap.size w w' := by
  subst hv
  have hA : ∀ o, Below w.heap.size w (w.alloc o) := fun o => (Below.refl _ _).alloc (Nat.le_refl _) o
  have hch := fun o => rmodel_any va vr m (w.alloc o) (hV.below (hA o))
  rw [h] at hch
  obtain ⟨ao, cap, rfl⟩ := hV.1.shape
  obtain ⟨ro, rc, rfl⟩ := hV.2.shape
  generalize m.vars.length = n at *
  generalize m.rules.length = rn at *
  have hne : ((il : Int) == (n : Int)) = false := by rw [beq_eq_false_iff_ne]; omega
  clear hV h
  go_enter Tryz.func69, Tryz.ntmps69
  go_wp2_with (go_at_call 44; refine (hch _).mono ?_; rintro e w1 ⟨rfl, hb1⟩; have hcb : w1.cell? ⟨w.heap.size, 0, none⟩ = some (.slice ao n cap) := (hb1.cell (p := ⟨w.heap.size, 0, none⟩) (by simp)).trans (by simp [go_sem]))
  all_goals first | (exfalso; omega) | go_ret2
  all_goals exact ⟨rfl, (hA _).trans (hb1.mono (hA _).size)⟩

set_option maxHeartbeats 3200000 in
theorem rcode_loop (va vr vv : Value) (m : Mo) (vals : List Int) (w : World) (hV : ModelV w va vr m) (hI : IntsV w vv vals) (h : mcode m = 0) (hlen : vals.length = m.vars.length) :
    Calls Tryz.prog 69 #[.agg #[va, vr], vv] w fun e w' => e = .returned (.tuple #[.int .i64 (cval m vals), .int .i64 (ccode m vals)]) ∧ Below w.heap.size w w' := by
  have hA : ∀ o, Below w.heap.size w (w.alloc o) := fun o => (Below.refl _ _).alloc (Nat.le_refl _) o
  have hch := fun o => rmodel_any va vr m (w.alloc o) (hV.below (hA o))
  rw [h] at hch
  have hok := mcode_vars h
  have HOK : Hid (VarsOk m.vars) := hok
  have h6 := hok.1
  obtain ⟨ao, cap, rfl⟩ := hV.1.shape
  obtain ⟨ro, rc, rfl⟩ := hV.2.shape
  obtain ⟨io, icap, rfl⟩ := hI.shape
  have hbv := (fun w1 (hb : Below w.heap.size w w1) a (ha : a ≤ m.vars.length) => behindVar_any (.slice ao m.vars.length cap) ro m.rules.length rc m.vars a w1 hok ha (hV.1.below hb))
  have HBV := (show Hid _ from hbv)
  have HV : Hid (VarsV w (.slice ao m.vars.length cap) m.vars) := hV.1
  have HI : Hid (IntsV w (.slice io vals.length icap) vals) := hI
  have HYes : Hid ((∀ i, i < m.vars.length → inB m.vars vals i) → ccode m vals = 0 ∧ cval m vals = sumTo m.vars vals m.vars.length) := fun hin => by
    have h1 := ccode_yes h ⟨hlen, hin⟩
    exact ⟨h1, by unfold cval; rw [if_pos h1, sum_all]⟩
  have HNo : Hid (∀ k, k < m.vars.length → ¬ inB m.vars vals k → ccode m vals = 9 ∧ cval m vals = 0) := fun k hk hin => by
    have h1 := ccode_no h (vals := vals) (fun h => hin (h.2 k hk))
    exact ⟨h1, by unfold cval; rw [h1, if_neg (by decide)]⟩
  have HLen : Hid (vals.length = m.vars.length) := hlen
  obtain ⟨n, hn⟩ : ∃ n, n = m.vars.length := ⟨_, rfl⟩
  have HN : Hid (n = m.vars.length) := hn
  rw [hlen] at HI ⊢
  rw [← hn] at h6 hch HBV HV HI HYes HNo ⊢
  generalize m.rules.length = rn at *
  generalize ccode m vals = cc at *
  generalize cval m vals = cv at *
  clear hV hI hbv hlen hn hok h
  go_enter Tryz.func69, Tryz.ntmps69
  go_wp2_with (go_at_call 44; refine (hch _).mono ?_; rintro e w1 ⟨rfl, hb1⟩; have hcb : w1.cell? ⟨w.heap.size, 0, none⟩ = some (.slice ao n cap) := (hb1.cell (p := ⟨w.heap.size, 0, none⟩) (by simp)).trans (by simp [go_sem]))
  have hb1' : Below (w.heap.size + 1) (w.alloc (.cells #[.slice ao n cap, .slice ro rn rc] 25)) w1 := hb1.mono (by simp)
  clear hch hcb hb1
  go_loopw [7, 8] (fun st i wr => ∃ k : Nat, k ≤ n ∧ i = .int .i64 k ∧ st = .int .i64 (sumTo m.vars vals k) ∧ Hid (∀ i, i < k → inB m.vars vals i) ∧ Below (w.heap.size + 1) (w.alloc (.cells #[.slice ao n cap, .slice ro rn rc] 25)) wr) (fun _ i _ => n - (intOf i).toNat)
  case atStart => exact ⟨0, Nat.zero_le _, rfl, rfl, fun j hj => by omega, hb1'⟩
  case round =>
    obtain ⟨k, hk, rfl, rfl, HJ, hbelB⟩ := hrel
    clear hb1'
    have hbel := (hA _).trans (hbelB.mono (Nat.le_succ _))
    have hszb : w.heap.size + 1 ≤ wr.heap.size := by have := hbelB.size; simp at this; omega
    have hlb : w.heap.size < wr.heap.size := by omega
    have cb := (hbelB.cell (p := ⟨w.heap.size, 0, none⟩) (by simp)).trans (show _ = some (.slice ao n cap) by simp [go_sem])
    have cb1 := (hbelB.cell (p := ⟨w.heap.size, 1, none⟩) (by simp)).trans (show _ = some (.slice ro rn rc) by simp [go_sem])
    by_cases hlt : k < n
    · obtain ⟨b, off, rfl, hblt, hat⟩ := HV.out.at (i := k) (by rw [← HN.out]; exact hlt)
      obtain ⟨ib, ioff, rfl, hilt, hic⟩ := HI.out.at (i := k) (by rw [HLen.out, ← HN.out]; exact hlt)
      obtain ⟨c0, c1, c2, c3⟩ := hat.below hbel hblt
      have hic2 := (hbel.cell (p := ⟨ib, ioff + k, none⟩) hilt).trans hic
      have HNk := (show Hid _ from HNo.out k hlt)
      unfold inB at HNk
      have hsb := sum_bounds HOK.out (k := k) (by rw [← HN.out]; exact hk) HJ.out
      have hgb := segP_bounds HOK.out (i := k + 1) (by rw [← HN.out]; exact hlt)
      have hvb := HOK.out.at (j := k) (by rw [← HN.out]; exact hlt)
      have HPr : Hid (sumTo m.vars vals (k + 1) = sumTo m.vars vals k + (vals.getD k 0 - (m.vars.getD k vr0).lo) * segP m.vars (k + 1)) := rfl
      have HJ3 : Hid ((m.vars.getD k vr0).lo ≤ vals.getD k 0 ∧ vals.getD k 0 ≤ (m.vars.getD k vr0).hi → ∀ i, i < k + 1 → inB m.vars vals i) := fun h i hi => by
        by_cases hik : i = k
        · subst hik; exact h
        · exact HJ.out i (by omega)
      have hbvk := (fun w1 hb => HBV.out w1 hb (k + 1) (by omega))
      rw [show ((k + 1 : Nat) : Int) - 1 = (k : Int) by omega] at hbvk
      generalize sumTo m.vars vals k = st at *
      generalize segP m.vars (k + 1) = sg at *
      generalize m.vars.getD k vr0 = x at *
      generalize vals.getD k 0 = y at *
      obtain ⟨s, lo, hi, ini⟩ := x
      simp only [vspan] at c0 c1 c2 c3 HNk HJ3 HPr hvb
      obtain ⟨hv1, hv2, hv3, hv4, hv5, hv6, hv7⟩ := hvb
      clear hat hic HJ
      have hi0 : (0 : Int) ≤ (k : Int) := Int.natCast_nonneg _
      have hi1 : (k : Int) < (n : Int) := by omega
      have hin0 := fun w => in_any y lo hi w
      have hbo : b < wr.heap.size := by omega
      have hio : ib < wr.heap.size := by omega
      by_cases hin : lo ≤ y ∧ y ≤ hi
      · rw [decide_eq_true hin] at hin0
        have HJ4 := (show Hid _ from HJ3.out hin)
        obtain ⟨hy1, hy2⟩ := hin
        have hm1 : 0 ≤ (y - lo) * sg := Int.mul_nonneg (by omega) (by omega)
        have hm2 : (y - lo) * sg ≤ 262144 := by
          have := Int.mul_le_mul (show y - lo ≤ 64 by omega) hgb.2 (by omega) (by omega); simpa using this
        have hw1 : IntKind.i64.wrap (y - lo) = y - lo := wr64 (by omega) (by omega)
        have hw2 : IntKind.i64.wrap ((y - lo) * sg) = (y - lo) * sg := wr64 (by omega) (by omega)
        have hw3 : IntKind.i64.wrap (st + (y - lo) * sg) = st + (y - lo) * sg := wr64 (by omega) (by omega)
        clear HJ3 HNk HNo HYes HBV
        go_wp2_with fail
        go_quiet ((go_at_call 22; exact Calls.quiet_of_same (hin0 _)))
        go_wp2_with fail
        have hB0 : Below wr.heap.size wr (wr.drewN nq) := below_drewN (Below.refl _ _) _
        have hbvk2 := fun w2 (hb2 : Below wr.heap.size wr w2) => hbvk w2 (hbel.trans (hb2.mono hbel.size))
        have hS0 : ∀ w', Below wr.heap.size wr w' → w'.cell? ⟨w.heap.size, 0, none⟩ = some (.slice (some ⟨b, off, none⟩) n cap) ∧ w'.cell? ⟨w.heap.size, 1, none⟩ = some (.slice ro rn rc) ∧ w'.cell? ⟨b, off + k * 4 + 1, none⟩ = some (.int .i64 lo) ∧ w'.cell? ⟨ib, ioff + k, none⟩ = some (.int .i64 y) := fun w' hw' =>
          ⟨(hw'.cell (p := ⟨w.heap.size, 0, none⟩) hlb).trans cb, (hw'.cell (p := ⟨w.heap.size, 1, none⟩) hlb).trans cb1, (hw'.cell (p := ⟨b, off + k * 4 + 1, none⟩) hbo).trans c1, (hw'.cell (p := ⟨ib, ioff + k, none⟩) hio).trans hic2⟩
        clear hbvk cb cb1 c0 c1 c2 c3 hic2
        go_region_held3 (fun w' => w'.cell? ⟨w.heap.size, 0, none⟩ = some (.slice (some ⟨b, off, none⟩) n cap) ∧ w'.cell? ⟨w.heap.size, 1, none⟩ = some (.slice ro rn rc) ∧ w'.cell? ⟨b, off + k * 4 + 1, none⟩ = some (.int .i64 lo) ∧ w'.cell? ⟨ib, ioff + k, none⟩ = some (.int .i64 y))
          (exact hS0 _ (by first | exact hB0 | exact hB0.drew | exact hB0.drew.trans (hb2.mono (by simp))))
          (first | (go_at_call 45; refine (hbvk2 _ hB0.drew).mono ?_; rintro e w2 ⟨rfl, hb2⟩))
        go_wp2_with fail
        go_roundw
        case rel => exact ⟨k + 1, hlt, by go_num, by rw [HPr.out], HJ4, hbelB.trans ((hB0.drew.trans (hb2.mono (by simp))).mono hszb)⟩
        case measure => simp [intOf]; omega
      · rw [decide_eq_false hin] at hin0
        have HR := (show Hid _ from HNk.out hin)
        clear hin HJ3 HNk HNo HYes HBV hbvk
        go_wp2_with fail
        go_quiet ((go_at_call 22; exact Calls.quiet_of_same (hin0 _)))
        go_wp2_with fail
        go_ret2
        rw [HR.out.1, HR.out.2]
        exact ⟨rfl, below_drewN hbel _⟩
    · have hkn : k = n := by omega
      subst hkn
      have HR := (show Hid _ from HYes.out HJ.out)
      generalize sumTo m.vars vals k = cd at *
      clear HJ HYes HNo HBV
      go_wp2
      go_ret2
      rw [HR.out.1, HR.out.2]
      exact ⟨rfl, hbel⟩

/-- THE CONTRACT OF CodeOf. -/
theorem rcodes_any (va vr vv : Value) (m : Mo) (vals : List Int) (w : World) (hV : ModelV w va vr m) (hI : IntsV w vv vals) :
    Calls Tryz.prog 69 #[.agg #[va, vr], vv] w fun e w' => e = .returned (.tuple #[.int .i64 (cval m vals), .int .i64 (ccode m vals)]) ∧ Below w.heap.size w w' := by
  obtain ⟨io, ic, hv⟩ := hI.shape
  by_cases h : mcode m = 0
  · by_cases hl : vals.length = m.vars.length
    · exact rcode_loop va vr vv m vals w hV hI h hl
    · have h9 := ccode_no h (vals := vals) (fun h => hl h.1)
      unfold cval
      rw [h9, if_neg (by decide)]
      exact rcode_len va vr vv m w hV io _ ic hv h hl
  · have h9 := ccode_bad (vals := vals) h
    unfold cval
    rw [h9, if_neg h]
    exact rcode_bad va vr vv m w hV io _ ic hv h
end Go.Proofs.YtdlpmomohbdpgaaGreatDoor

/-
  The contract of the document's own FirstCode.
-/
namespace Go.Proofs.YtdlpmomohbdpgaaGreatDoor
open Go.ChangeShapes Go.WideShapes Go.ChangeAt Go.RowKit Go.Deep
open Terms Tm

theorem ivals_inits {l : List Vr} {k : Nat} (h : k < l.length) : ivals (initsL (l.take (k + 1))) = ivals (initsL (l.take k)) ++ [.int .i64 (l.getD k vr0).ini] := by
  rw [List.take_succ_eq_append_getElem h, List.getD_eq_getElem?_getD, List.getElem?_eq_getElem h]
  simp only [ivals, initsL, List.map_append, List.map_cons, List.map_nil, Option.getD_some]

set_option maxHeartbeats 1600000 in
/-- THE CONTRACT OF FirstCode. -/
theorem rfirst_any (va vr : Value) (m : Mo) (w : World) (hz : m.vars.length * 40 ≤ 140737488355328) (hV : ModelV w va vr m) :
    Calls Tryz.prog 56 #[.agg #[va, vr]] w fun e w' => e = .returned (.tuple #[.int .i64 (if mcode m = 0 then codeTo m.vars (initsL m.vars) m.vars.length else 0), .int .i64 (mcode m)]) ∧ Below w.heap.size w w' := by
  have hres : ccode m (initsL m.vars) = mcode m ∧ cval m (initsL m.vars) = if mcode m = 0 then codeTo m.vars (initsL m.vars) m.vars.length else 0 := by
    by_cases h : mcode m = 0
    · have h1 := ccode_yes h (vals := initsL m.vars) ⟨by simp [initsL], inits_in (mcode_vars h)⟩
      refine ⟨by rw [h1, h], ?_⟩
      unfold cval
      rw [h1, if_pos rfl, if_pos h]
    · have h1 := ccode_bad (vals := initsL m.vars) h
      refine ⟨h1, ?_⟩
      unfold cval
      rw [h1, if_neg h]
  have hcf := (fun vv w1 (hb : Below w.heap.size w w1) (hI : IntsV w1 vv (initsL m.vars)) => rcodes_any va vr vv m (initsL m.vars) w1 (hV.below hb) hI)
  rw [hres.1, hres.2] at hcf
  have HCF := (show Hid _ from hcf)
  have HV : Hid (VarsV w va m.vars) := hV.1
  obtain ⟨ao, cap, rfl⟩ := hV.1.shape
  obtain ⟨ro, rc, rfl⟩ := hV.2.shape
  generalize (if mcode m = 0 then codeTo m.vars (initsL m.vars) m.vars.length else 0) = res at *
  generalize mcode m = x at *
  obtain ⟨n, hn⟩ : ∃ n, n = m.vars.length := ⟨_, rfl⟩
  have HN : Hid (n = m.vars.length) := hn
  rw [← hn] at hz HCF HV ⊢
  generalize m.rules.length = rn at *
  obtain ⟨i0, hi, hz0, hz1, hz2⟩ := info_parts infoInt
  clear hV hn hcf hres
  have hA : Below w.heap.size w (w.alloc (.cells #[.slice ao n cap, .slice ro rn rc] 25)) := (Below.refl _ _).alloc (Nat.le_refl _) _
  go_enter Tryz.func56, Tryz.ntmps56
  go_wp2
  go_loopw [4, 5] (fun vv i wr => ∃ k : Nat, k ≤ n ∧ i = .int .i64 k ∧ Hid (wr.ownsRow (w.heap.size + 1) 3 1 vv k (ivals (initsL (m.vars.take k)))) ∧ Below (w.heap.size + 1) (w.alloc (.cells #[.slice ao n cap, .slice ro rn rc] 25)) wr) (fun _ i _ => n - (intOf i).toNat)
  case atStart => exact ⟨0, Nat.zero_le _, rfl, World.ownsRow_nil _ _ _ _, Below.refl _ _⟩
  case round =>
    obtain ⟨k, hk, rfl, HOwn, hbelB⟩ := hrel
    have hbel := hA.trans (hbelB.mono (Nat.le_succ _))
    have hszb : w.heap.size + 1 ≤ wr.heap.size := by have := hbelB.size; simp at this; omega
    have hlb : w.heap.size < wr.heap.size := by omega
    have cb := (hbelB.cell (p := ⟨w.heap.size, 0, none⟩) (by simp)).trans (show _ = some (.slice ao n cap) by simp [go_sem])
    have cb1 := (hbelB.cell (p := ⟨w.heap.size, 1, none⟩) (by simp)).trans (show _ = some (.slice ro rn rc) by simp [go_sem])
    by_cases hlt : k < n
    · obtain ⟨b, off, rfl, hblt, hat⟩ := HV.out.at (i := k) (by rw [← HN.out]; exact hlt)
      obtain ⟨c0, c1, c2, c3⟩ := hat.below hbel hblt
      have HSn := (show Hid _ from ivals_inits (l := m.vars) (k := k) (by rw [← HN.out]; exact hlt))
      generalize m.vars.getD k vr0 = x at *
      obtain ⟨s, lo, hi', ini⟩ := x
      simp only at c0 c1 c2 c3 HSn
      have hown := HOwn.out
      have hnb := hown.lt
      have hown2 := fun o => hown.alloc o
      have h63 : k + 1 ≤ maxLen := by unfold maxLen; omega
      have hkb : (k + 1) * 8 ≤ 140737488355328 := by omega
      have hbase : ∀ o, w.heap.size + 1 ≤ (wr.alloc o).heap.size := fun o => by simp; omega
      clear hat hown
      go_wp2_with (at_builtin; refine wpList_append_own _ rfl (.tmp 15) (.tmp 22) 40 rfl (w.heap.size + 1) 3 i0 (.int .i64 0) 1 8 Tryz.underlying40 hi hz0 hz1 hz2 rfl (by decide) _ k _ rfl (hown2 _) ⟨wr.heap.size, 0, none⟩ 1 1 [.int .i64 ini] rfl rfl (cell_one_new _ _ _) (by intro u hu; simp at hu; subst hu; rfl) h63 hkb (hbase _) ?_)
      intro v' w4 hown' hgrow _
      have hb4 : Below (w.heap.size + 1) (w.alloc (.cells #[.slice (some ⟨b, off, none⟩) n cap, .slice ro rn rc] 25)) w4 := (hbelB.alloc hszb _).grown hgrow (by simp; omega) (fun q hq => (hnb q hq).1)
      have HO4 : Hid (w4.ownsRow (w.heap.size + 1) 3 1 v' (k + 1) (ivals (initsL (m.vars.take (k + 1))))) := by
        show World.ownsRow _ _ _ _ _ _ _
        rw [HSn.out]
        exact hown'
      clear hown' hgrow hown2
      go_wp2
      go_roundw
      case rel => exact ⟨k + 1, hlt, by go_num, HO4, hb4⟩
      case measure => simp [intOf]; omega
    · have hkn : k = n := by omega
      subst hkn
      have hown := HOwn.out
      obtain ⟨vo, vc, rfl⟩ := owns_slice hown
      have hI : IntsV wr (.slice vo k vc) (initsL m.vars) := by
        rw [List.take_of_length_le (by rw [← HN.out]; omega)] at hown
        exact intsV_of_owns (by rw [show (initsL m.vars).length = k by simp [initsL, HN.out]]; exact hown)
      have hcf := HCF.out _ wr hbel hI
      clear hI hown HOwn HCF
      go_wp2_with (go_at_call 69; refine hcf.mono ?_; rintro e w2 ⟨rfl, hb2⟩)
      go_ret2
      exact ⟨rfl, hbel.trans (hb2.mono hbel.size)⟩
end Go.Proofs.YtdlpmomohbdpgaaGreatDoor

/-
  The contract of the document's own worked.
-/
namespace Go.Proofs.YtdlpmomohbdpgaaGreatDoor
open Go.ChangeShapes Go.WideShapes Go.ChangeAt Go.RowKit Go.Deep
open Terms Tm

def wkN (r : Option Int) : Int := match r with
  | some x => x
  | none => 0
def wkC (r : Option Int) : Int := match r with
  | some _ => 0
  | none => 8

/-- what the row of the parts' values is, when those from k on are in it. -/
def RowF (t : Tm) (env : List Int) (base np : Nat) (vao : Option Addr) (wr : World) (k : Nat) : Prop :=
  np = 0 ∨ ∃ g, vao = some ⟨g, 0, none⟩ ∧ base ≤ g ∧ g < wr.heap.size ∧ (∀ j, j < np → wr.frozen? ⟨g, j, none⟩ = false ∧ ∃ u, wr.cell? ⟨g, j, none⟩ = some u) ∧ (∀ j, k ≤ j → j < np → ∃ x, (t.kids.getD j t).eval env = some x ∧ wr.cell? ⟨g, j, none⟩ = some (.int .i64 x))
theorem RowF.later {t : Tm} {env : List Int} {base np k : Nat} {vao : Option Addr} {w w' : World} (h : RowF t env base np vao w k) (hb : Below w.heap.size w w') : RowF t env base np vao w' k := by
  rcases h with h | ⟨g, h1, h2, h3, h4, h5⟩
  · exact .inl h
  · refine .inr ⟨g, h1, h2, Nat.lt_of_lt_of_le h3 hb.size, fun j hj => ?_, fun j hk hj => ?_⟩
    · obtain ⟨f, u, c⟩ := h4 j hj
      exact ⟨(hb.frozen (p := ⟨g, j, none⟩) h3).trans f, u, (hb.cell (p := ⟨g, j, none⟩) h3).trans c⟩
    · obtain ⟨x, e, c⟩ := h5 j hk hj
      exact ⟨x, e, (hb.cell (p := ⟨g, j, none⟩) h3).trans c⟩
theorem RowF.store {t : Tm} {env : List Int} {base np k g : Nat} {x : Int} {w : World} (h : RowF t env base np (some ⟨g, 0, none⟩) w (k + 1)) (hk : k < np) (hx : (t.kids.getD k t).eval env = some x) : RowF t env base np (some ⟨g, 0, none⟩) (w.setCell ⟨g, k, none⟩ (.int .i64 x)) k := by
  rcases h with h | ⟨g', h1, h2, h3, h4, h5⟩
  · omega
  · obtain rfl : g = g' := by simpa using h1
    refine .inr ⟨g, rfl, h2, by simpa using h3, fun j hj => ?_, fun j hkj hj => ?_⟩
    · obtain ⟨f, u, c⟩ := h4 j hj
      refine ⟨by simpa [go_sem] using f, ?_⟩
      by_cases hjk : j = k
      · subst hjk; exact ⟨.int .i64 x, by simp [go_sem, c]⟩
      · exact ⟨u, by rw [← c]; exact World.cell?_setCell_other _ _ _ _ (by intro h; injection h with _ h2; omega)⟩
    · by_cases hjk : j = k
      · subst hjk
        obtain ⟨f, u, c⟩ := h4 j hj
        exact ⟨x, hx, by simp [go_sem, c]⟩
      · obtain ⟨y, e, c⟩ := h5 j (by omega) hj
        exact ⟨y, e, by rw [← c]; exact World.cell?_setCell_other _ _ _ _ (by intro h; injection h with _ h2; omega)⟩

theorem wrE {x : Int} (h1 : -9223372036854775808 ≤ x) (h2 : x ≤ 9223372036854775807) : IntKind.i64.wrap x = x := by
  rw [IntWalk.i64_left]
  exact IntWalk.wrap64_in x ⟨h1, h2⟩
theorem mul_big {x y : Int} (hx : -1000000 ≤ x ∧ x ≤ 1000000) (hy : -1000000 ≤ y ∧ y ≤ 1000000) : -1000000000000 ≤ x * y ∧ x * y ≤ 1000000000000 := by
  have h : (x * y).natAbs ≤ 1000000000000 := by
    rw [Int.natAbs_mul]
    exact Nat.mul_le_mul (show x.natAbs ≤ 1000000 by omega) (show y.natAbs ≤ 1000000 by omega)
  omega
theorem IntsV.atE {w : World} {ao : Option Addr} {cap n : Nat} {l : List Int} (h : IntsV w (.slice ao n cap) l) {i : Nat} (hi : i < l.length) : ∃ b off, ao = some ⟨b, off, none⟩ ∧ b < w.heap.size ∧ w.cell? ⟨b, off + i, none⟩ = some (.int .i64 (l.getD i 0)) := by
  obtain ⟨ao', cap', h1, h3⟩ := h
  injection h1 with e1 e2 e3
  subst e1
  obtain ⟨b, off, e, hb, hh⟩ := h3 (by intro h; subst h; simp at hi)
  exact ⟨b, off, e, hb, hh i hi⟩
theorem eval_kid_none {t : Tm} {env : List Int} {k : Nat} (hk : k < t.kids.length) (h : (t.kids.getD k t).eval env = none) : t.eval env = none := by
  cases t with
  | leaf a b => simp [kids] at hk
  | un a b s =>
    have : k = 0 := by simp [kids] at hk; exact hk
    subst this
    simp only [kids, List.getD_cons_zero] at h
    simp [eval, h]
  | bi a b s u =>
    have hk2 : k = 0 ∨ k = 1 := by simp [kids] at hk; omega
    rcases hk2 with rfl | rfl
    · simp only [kids, List.getD_cons_zero] at h
      simp [eval, h]
    · simp only [kids, List.getD_cons_succ, List.getD_cons_zero] at h
      cases hs : s.eval env <;> simp [eval, h, hs]

set_option maxHeartbeats 1600000 in
set_option maxRecDepth 20000 in
theorem worked_any (eao : Option Addr) (ecap en : Nat) (env : List Int) (hev : Hid (EnvOk env)) (hen : Hid (env.length = en)) (d : Nat) : ∀ (t : Tm) (v : Value) (w : World), t.size ≤ d → t.size ≤ 60 → t.Good en → t.typed = true → OpsV w v t.ops → IntsV w (.slice eao en ecap) env →
    Calls Tryz.prog 68 #[v, .slice eao en ecap] w fun e w' => e = .returned (.tuple #[.int .i64 (wkN (t.eval env)), .int .i64 (wkC (t.eval env))]) ∧ Below w.heap.size w w' := by
  induction d with
  | zero => intro t v w hd; have := t.size_pos; omega
  | succ d ih =>
    intro t v w hd h60 hg hty hV hE
    have hsp := splitOf_any v t.ops w hV
    rw [splitL_tree hg.wf h60, tree_code hg.wf h60] at hsp
    obtain ⟨i0, hi, hz0, hz1, hz2⟩ := info_parts infoInt
    have HV : Hid (OpsV w v t.ops) := hV
    have HE : Hid (IntsV w (.slice eao en ecap) env) := hE
    have HGT : Hid (t.Good en ∧ t.typed = true) := ⟨hg, hty⟩
    obtain ⟨va, vn, vc, hvs⟩ : ∃ a n c, v = .slice a n c := by obtain ⟨a, c, rfl, _⟩ := hV; exact ⟨_, _, _, rfl⟩
    subst hvs
    have hk2 := t.kids_le
    have HS : Hid (∀ i, i < t.kids.length → (t.kids.getD i t).size ≤ d ∧ (t.kids.getD i t).size ≤ 60 ∧ (t.kids.getD i t).Good en ∧ (t.kids.getD i t).typed = true) := fun i hi => by
      have := t.kid_at hi
      exact ⟨by omega, by omega, hg.kid hi, ((typed_kids t).1 hty i hi).2⟩
    obtain ⟨np, hnp⟩ : ∃ np, np = t.kids.length := ⟨_, rfl⟩
    have HNP : Hid (np = t.kids.length) := hnp
    rw [← hnp] at hk2
    obtain ⟨res, hres⟩ : ∃ res, t.eval env = res := ⟨_, rfl⟩
    rw [hres]
    have HRS : Hid (t.eval env = res) := hres
    clear hV hE hnp hres hg hty
    go_enter Tryz.func68, Tryz.ntmps68
    go_wp2_with (go_at_call 88; refine hsp.mono ?_; rintro e w1 ⟨tv, rfl, hb1, ht⟩; obtain ⟨tao, tcap, htv, htat⟩ := ht; rw [List.length_map, ← HNP.out] at htv; subst htv)
    have HT := (show Hid _ from htat)
    clear htat hsp
    go_loopw [8, 9] (fun vv c wr => ∃ i : Nat, i ≤ np ∧ c = .int .i64 i ∧ wr.ownsRow w1.heap.size 3 1 vv i (List.replicate i (.int .i64 0)) ∧ Below w1.heap.size w1 wr) (fun _ c _ => np - (intOf c).toNat)
    case atStart => exact ⟨0, Nat.zero_le _, rfl, World.ownsRow_nil _ _ _ _, Below.refl _ _⟩
    case round =>
      obtain ⟨i, hile, rfl, hown, hbel⟩ := hrel
      by_cases hlt : i < np
      · have hsz := hbel.size
        go_wp2_with (at_builtin; refine wpList_append_own _ rfl (.tmp 26) (.tmp 27) 40 rfl w1.heap.size 3 i0 (.int .i64 0) 1 8 Tryz.underlying40 hi hz0 hz1 hz2 rfl (by decide) _ _ _ rfl (hown.alloc _) ⟨_, 0, none⟩ 1 1 [.int .i64 0] rfl rfl (cell_one_new _ _ _) ?c2 ?c3 ?c4 ?c5 ?_)
        case c2 => intro u hu; simp at hu; subst hu; rfl
        case c3 => unfold maxLen; omega
        case c4 => omega
        case c5 => simp; omega
        intro v' w4 hown' hgrow _
        have hb4 : Below w1.heap.size w1 w4 := (hbel.alloc (by omega) _).grown hgrow (by simp; omega) (fun q hq => (hown.lt q hq).1)
        have ho4 : w4.ownsRow w1.heap.size 3 1 v' (i + 1) (List.replicate (i + 1) (.int .i64 0)) := by
          rw [List.replicate_succ']; exact hown'
        clear hown' hgrow hown
        go_wp2
        go_roundw
        case rel => exact ⟨i + 1, by omega, by go_num, ho4, hb4⟩
        case measure => simp [intOf]; omega
      · have hin : i = np := by omega
        subst hin
        clear hlt hile
        generalize wr = wo at *
        go_wp2_with fail
        obtain ⟨vao, vcap, rfl⟩ := owns_slice hown
        have HR0 : Hid (RowF t env w1.heap.size i vao wo i) := by
          show RowF _ _ _ _ _ _ _
          rcases hown.2 with ⟨h1, h2⟩ | ⟨g, cap, cur, h1, h2, h3, h4⟩
          · exact .inl h2
          · injection h1 with e1 e2 e3
            refine .inr ⟨g, e1, h2, (Array.getElem?_eq_some_iff.1 h3).1, fun j hj => ⟨by simp [World.frozen?, h3], ?_⟩, fun j hkj hj => by omega⟩
            exact ⟨.int .i64 0, by rw [e1, e3] at hown; rw [hown.cellAt j (by omega)]; simp [hj]⟩
        have HBo : Hid (Below w1.heap.size w1 wo) := hbel
        clear hown hbel
        go_loopw [10] (fun c wr => ∃ k : Nat, k ≤ i ∧ c = .int .i64 ((k : Int) - 1) ∧ Below w1.heap.size w1 wr ∧ Hid (RowF t env w1.heap.size i vao wr k)) (fun c _ => ((intOf c) + 1).toNat)
        case atStart => exact ⟨i, Nat.le_refl _, by go_num, HBo.out, HR0.out⟩
        case round =>
          obtain ⟨k, hki, rfl, hbel, HR⟩ := hrel
          by_cases hk : 0 < k
          · obtain ⟨k, rfl⟩ : ∃ k', k = k' + 1 := ⟨k - 1, by omega⟩
            rw [show (((k + 1 : Nat) : Int) - 1) = (k : Int) by omega]
            have hltk : k < t.kids.length := by rw [← HNP.out]; omega
            obtain ⟨tb, toff, rfl, hbl, hcs⟩ := HT.out (by intro h; have := congrArg List.length h; rw [List.length_map] at this; simp at this; rw [this] at hltk; simp at hltk)
            obtain ⟨u, hu, hou⟩ := hcs k (by rw [List.length_map]; exact hltk)
            have hgd : (t.kids.map ops).getD k [] = (t.kids.getD k t).ops := by
              rw [List.getD_eq_getElem?_getD, List.getElem?_map, List.getD_eq_getElem?_getD, List.getElem?_eq_getElem hltk]
              rfl
            rw [hgd] at hou
            obtain ⟨hs1, hs2, hs3, hs4⟩ := HS.out k hltk
            have hbw := hb1.trans (hbel.mono hb1.size)
            have hrec := ih (t.kids.getD k t) u wr hs1 hs2 hs3 hs4 (hou.below hbel) (HE.out.below hbw)
            clear ih
            have hcu := (hbel.cell (p := ⟨tb, toff + k, none⟩) hbl).trans hu
            obtain ⟨ua, un, uc, hus⟩ : ∃ a n c, u = .slice a n c := by obtain ⟨a, c, rfl, _⟩ := hou; exact ⟨_, _, _, rfl⟩
            subst hus
            have HBw : Hid (Below w.heap.size w wr) := hbw
            have HBe : Hid (Below w1.heap.size w1 wr) := hbel
            cases hx : (t.kids.getD k t).eval env with
            | none =>
              rw [hx] at hrec
              have HX : Hid (res = none) := by
                show _ = _
                rw [← HRS.out]
                exact eval_kid_none hltk hx
              simp only [wkN, wkC] at hrec
              clear hgd hou hu hcs hs1 hs2 hs3 hs4 hx hbel hbw
              go_wp2_with (go_at_call 68; refine hrec.mono ?_; rintro e w2 ⟨rfl, hb2⟩)
              go_ret2
              rw [HX.out]
              exact ⟨rfl, HBw.out.trans (hb2.mono HBw.out.size)⟩
            | some x =>
              rw [hx] at hrec
              simp only [wkN, wkC] at hrec
              obtain ⟨g, rfl, hg1, hg2, hg3, _⟩ := HR.out.resolve_left (by omega)
              have HX : Hid ((t.kids.getD k t).eval env = some x) := hx
              have HFZ := (show Hid _ from hg3 k (by omega))
              clear hgd hou hu hcs hs1 hs2 hs3 hs4 hx hbel hbw hg3
              go_wp2_with (go_at_call 68; refine hrec.mono ?_; rintro e w2 ⟨rfl, hb2⟩; obtain ⟨hf0, u0, hc0⟩ := HFZ.out; have hf2 := (hb2.frozen (p := ⟨g, k, none⟩) hg2).trans hf0; have hc2 := (hb2.cell (p := ⟨g, k, none⟩) hg2).trans hc0)
              go_roundw
              case rel => exact ⟨k, by omega, by go_num, (HBe.out.trans (hb2.mono HBe.out.size)).setCell (p := ⟨g, k, none⟩) hg1 _, RowF.store (HR.out.later hb2) (by omega) HX.out⟩
              case measure => simp [intOf]
          · have hk0 : k = 0 := by omega
            subst hk0
            have hbw := hb1.trans (hbel.mono hb1.size)
            obtain ⟨bo, bcap, hbe, _, hbh⟩ := HV.out
            obtain ⟨b, off, rfl, hblt, hbat⟩ := hbh t.ops_ne
            injection hbe with e1 e2 e3
            subst e1 e2 e3
            have hhd := hbat 0 (by rw [ops_length]; exact t.size_pos)
            rw [t.ops_head] at hhd
            simp only [Nat.zero_mul, Nat.add_zero] at hhd
            have c0 := (hbw.cell (p := ⟨b, off, none⟩) hblt).trans hhd.1
            have c1 := (hbw.cell (p := ⟨b, off + 1, none⟩) hblt).trans hhd.2
            have hln : 0 < t.ops.length := by rw [ops_length]; exact t.size_pos
            generalize hol : t.ops.length = ol at *
            have HHE : Hid (IntsV wr (.slice eao en ecap) env) := HE.out.below hbw
            have hrow := HR.out
            clear hbat hbh hol hhd HV HT HS HR HR0 HBo ih hk hki
            cases t with
            | leaf k v =>
              have hi0 : i = 0 := HNP.out
              subst hi0
              simp only [kind, val] at c0 c1
              have HRv : Hid (res = some (if k = 1 then v else if k = 2 then env.getD v.toNat 0 else if k = 11 then 1 else 0)) := HRS.out.symm
              have hgd : (k = 1 ∧ -1000 ≤ v ∧ v ≤ 1000) ∨ (k = 2 ∧ 0 ≤ v ∧ v ≤ (en : Int) - 1) ∨ ((k = 11 ∨ k = 12) ∧ v = 0) := HGT.out.1
              clear HRS HGT HNP hrow
              rcases hgd with ⟨rfl, hv1, hv2⟩ | ⟨rfl, hv1, hv2⟩ | ⟨rfl | rfl, rfl⟩
              · have hin := fun w => in_any v (-1000000) 1000000 w
                rw [decide_eq_true (show -1000000 ≤ v ∧ v ≤ 1000000 by omega)] at hin
                go_wp2_with (go_at_call 22; refine (hin _).mono ?_; rintro e w2 ⟨rfl, rfl⟩)
                go_ret2
                rw [HRv.out]
                exact ⟨rfl, hbw⟩
              · obtain ⟨j, rfl⟩ : ∃ j : Nat, v = (j : Int) := ⟨v.toNat, by omega⟩
                have hj : j < env.length := by rw [hen.out]; omega
                obtain ⟨eb, eoff, hea, _, hec⟩ := (show IntsV wr (.slice eao en ecap) env from HHE.out) |> fun h => IntsV.atE h hj
                subst hea
                have hb := hev.out j hj
                have HEV : Hid (res = some (env.getD j 0)) := by show _ = _; rw [HRv.out]; simp
                generalize env.getD j 0 = y at *
                have hin := fun w => in_any y (-1000000) 1000000 w
                rw [decide_eq_true hb] at hin
                have hj0 : (0 : Int) ≤ (j : Int) := Int.natCast_nonneg _
                have hj1 : (j : Int) < (en : Int) := by omega
                clear HRv HHE
                go_wp2_with (go_at_call 22; refine (hin _).mono ?_; rintro e w2 ⟨rfl, rfl⟩)
                go_ret2
                rw [HEV.out]
                exact ⟨rfl, hbw⟩
              · have hin := fun w => in_any 1 (-1000000) 1000000 w
                rw [decide_eq_true (by omega)] at hin
                go_wp2_with (go_at_call 22; refine (hin _).mono ?_; rintro e w2 ⟨rfl, rfl⟩)
                go_ret2
                rw [HRv.out]
                exact ⟨rfl, hbw⟩
              · have hin := fun w => in_any 0 (-1000000) 1000000 w
                rw [decide_eq_true (by omega)] at hin
                go_wp2_with (go_at_call 22; refine (hin _).mono ?_; rintro e w2 ⟨rfl, rfl⟩)
                go_ret2
                rw [HRv.out]
                exact ⟨rfl, hbw⟩
            | un k v a =>
              have hi0 : i = 1 := HNP.out
              subst hi0
              obtain ⟨g, rfl, hg1, hg2, _, hg4⟩ := hrow.resolve_left (by omega)
              obtain ⟨x, hx, cx⟩ := hg4 0 (Nat.le_refl _) (by omega)
              simp only [kids, List.getD_cons_zero] at hx
              obtain ⟨hgk, hgv, hga⟩ := HGT.out.1
              have hty := HGT.out.2
              simp only [typed, Bool.and_eq_true, beq_iff_eq] at hty
              subst hgk hgv
              have hxx := (eval_le hev.out hen.out hga hty.2 x hx).2 (by rw [hty.1]; rfl)
              have HRv : Hid (res = some (1 - x)) := by show _ = _; rw [← HRS.out]; simp [eval, hx]
              simp only [kind, val] at c0 c1
              clear HRS HGT HNP hrow hg4 hx hga hty HHE
              rcases hxx with rfl | rfl
              · have hin := fun w => in_any 1 (-1000000) 1000000 w
                rw [decide_eq_true (by omega)] at hin
                go_wp2_with (go_at_call 22; refine (hin _).mono ?_; rintro e w2 ⟨rfl, rfl⟩)
                go_ret2
                rw [HRv.out]
                exact ⟨rfl, hbw⟩
              · have hin := fun w => in_any 0 (-1000000) 1000000 w
                rw [decide_eq_true (by omega)] at hin
                go_wp2_with (go_at_call 22; refine (hin _).mono ?_; rintro e w2 ⟨rfl, rfl⟩)
                go_ret2
                rw [HRv.out]
                exact ⟨rfl, hbw⟩
            | bi k v a a' =>
              have hi0 : i = 2 := HNP.out
              subst hi0
              obtain ⟨g, rfl, hg1, hg2, _, hg4⟩ := hrow.resolve_left (by omega)
              obtain ⟨x, hx, cx⟩ := hg4 0 (Nat.zero_le _) (by omega)
              obtain ⟨y, hy, cy⟩ := hg4 1 (Nat.zero_le _) (by omega)
              simp only [kids, List.getD_cons_zero, List.getD_cons_succ] at hx hy
              obtain ⟨hk3, hk9, hgv, hga, hga'⟩ := HGT.out.1
              have hty := HGT.out.2
              simp only [typed, Bool.and_eq_true, beq_iff_eq] at hty
              subst hgv
              have hxb := eval_le hev.out hen.out hga hty.1.2 x hx
              have hyb := eval_le hev.out hen.out hga' hty.2.2 y hy
              rw [hty.1.1] at hxb
              rw [hty.2.1] at hyb
              have HRv : Hid (res = lid (bin k x y)) := by show _ = _; rw [← HRS.out]; simp [eval, hx, hy]
              simp only [kind, val] at c0 c1
              obtain ⟨⟨hx1, hx2⟩, hxt⟩ := hxb
              obtain ⟨⟨hy1, hy2⟩, hyt⟩ := hyb
              clear HRS HGT HNP hrow hg4 hx hy hga hga' hty HHE
              have hm1 : -1000000000000 ≤ x * y ∧ x * y ≤ 1000000000000 := mul_big ⟨hx1, hx2⟩ ⟨hy1, hy2⟩
              have hkk : k = 3 ∨ k = 4 ∨ k = 5 ∨ k = 6 ∨ k = 7 ∨ k = 8 ∨ k = 9 := by omega
              rcases hkk with rfl | rfl | rfl | rfl | rfl | rfl | rfl
              · have hw : IntKind.i64.wrap (x + y) = x + y := wrE (by omega) (by omega)
                have hbn : bin 3 x y = x + y := rfl
                rw [hbn] at HRv
                have hin := fun w => in_any (x + y) (-1000000) 1000000 w
                by_cases hr : -1000000 ≤ x + y ∧ x + y ≤ 1000000
                · rw [decide_eq_true hr] at hin
                  have HR2 : Hid (res = some (x + y)) := by show _ = _; rw [HRv.out]; unfold lid; rw [if_pos hr]
                  clear HRv hbn
                  go_wp2_with fail
                  go_quiet (fail)
                  go_wp2_with (go_at_call 22; refine (hin _).mono ?_; rintro e w2 ⟨rfl, rfl⟩)
                  go_ret2
                  rw [HR2.out]
                  exact ⟨rfl, below_drewN hbw _⟩
                · rw [decide_eq_false hr] at hin
                  have HR2 : Hid (res = none) := by show _ = _; rw [HRv.out]; unfold lid; rw [if_neg hr]
                  clear HRv hbn hr
                  go_wp2_with fail
                  go_quiet (fail)
                  go_wp2_with (go_at_call 22; refine (hin _).mono ?_; rintro e w2 ⟨rfl, rfl⟩)
                  go_ret2
                  rw [HR2.out]
                  exact ⟨rfl, below_drewN hbw _⟩
              · have hw : IntKind.i64.wrap (x - y) = x - y := wrE (by omega) (by omega)
                have hbn : bin 4 x y = x - y := rfl
                rw [hbn] at HRv
                have hin := fun w => in_any (x - y) (-1000000) 1000000 w
                by_cases hr : -1000000 ≤ x - y ∧ x - y ≤ 1000000
                · rw [decide_eq_true hr] at hin
                  have HR2 : Hid (res = some (x - y)) := by show _ = _; rw [HRv.out]; unfold lid; rw [if_pos hr]
                  clear HRv hbn
                  go_wp2_with fail
                  go_quiet (fail)
                  go_wp2_with (go_at_call 22; refine (hin _).mono ?_; rintro e w2 ⟨rfl, rfl⟩)
                  go_ret2
                  rw [HR2.out]
                  exact ⟨rfl, below_drewN hbw _⟩
                · rw [decide_eq_false hr] at hin
                  have HR2 : Hid (res = none) := by show _ = _; rw [HRv.out]; unfold lid; rw [if_neg hr]
                  clear HRv hbn hr
                  go_wp2_with fail
                  go_quiet (fail)
                  go_wp2_with (go_at_call 22; refine (hin _).mono ?_; rintro e w2 ⟨rfl, rfl⟩)
                  go_ret2
                  rw [HR2.out]
                  exact ⟨rfl, below_drewN hbw _⟩
              · have hw : IntKind.i64.wrap (x * y) = x * y := wrE (by omega) (by omega)
                have hbn : bin 5 x y = x * y := rfl
                rw [hbn] at HRv
                have hin := fun w => in_any (x * y) (-1000000) 1000000 w
                by_cases hr : -1000000 ≤ x * y ∧ x * y ≤ 1000000
                · rw [decide_eq_true hr] at hin
                  have HR2 : Hid (res = some (x * y)) := by show _ = _; rw [HRv.out]; unfold lid; rw [if_pos hr]
                  clear HRv hbn
                  go_wp2_with fail
                  go_quiet (fail)
                  go_wp2_with (go_at_call 22; refine (hin _).mono ?_; rintro e w2 ⟨rfl, rfl⟩)
                  go_ret2
                  rw [HR2.out]
                  exact ⟨rfl, below_drewN hbw _⟩
                · rw [decide_eq_false hr] at hin
                  have HR2 : Hid (res = none) := by show _ = _; rw [HRv.out]; unfold lid; rw [if_neg hr]
                  clear HRv hbn hr
                  go_wp2_with fail
                  go_quiet (fail)
                  go_wp2_with (go_at_call 22; refine (hin _).mono ?_; rintro e w2 ⟨rfl, rfl⟩)
                  go_ret2
                  rw [HR2.out]
                  exact ⟨rfl, below_drewN hbw _⟩
              · have hbn : bin 6 x y = if x = y then 1 else 0 := rfl
                rw [hbn] at HRv
                by_cases hc : x = y
                · have hin := fun w => in_any 1 (-1000000) 1000000 w
                  rw [decide_eq_true (by omega)] at hin
                  have HR2 : Hid (res = some 1) := by show _ = _; rw [HRv.out, if_pos hc]; rfl
                  clear HRv hbn
                  subst hc
                  go_wp2_with fail
                  go_quiet (fail)
                  go_wp2_with (go_at_call 22; refine (hin _).mono ?_; rintro e w2 ⟨rfl, rfl⟩)
                  go_ret2
                  rw [HR2.out]
                  exact ⟨rfl, below_drewN hbw _⟩
                · have hin := fun w => in_any 0 (-1000000) 1000000 w
                  rw [decide_eq_true (by omega)] at hin
                  have HR2 : Hid (res = some 0) := by show _ = _; rw [HRv.out, if_neg hc]; rfl
                  have hne : (x == y) = false := by simpa using hc
                  clear HRv hbn
                  go_wp2_with fail
                  go_quiet (fail)
                  go_wp2_with (go_at_call 22; refine (hin _).mono ?_; rintro e w2 ⟨rfl, rfl⟩)
                  go_ret2
                  rw [HR2.out]
                  exact ⟨rfl, below_drewN hbw _⟩
              · have hbn : bin 7 x y = if x < y then 1 else 0 := rfl
                rw [hbn] at HRv
                by_cases hc : x < y
                · have hin := fun w => in_any 1 (-1000000) 1000000 w
                  rw [decide_eq_true (by omega)] at hin
                  have HR2 : Hid (res = some 1) := by show _ = _; rw [HRv.out, if_pos hc]; rfl
                  clear HRv hbn
                  skip
                  go_wp2_with fail
                  go_quiet (fail)
                  go_wp2_with (go_at_call 22; refine (hin _).mono ?_; rintro e w2 ⟨rfl, rfl⟩)
                  go_ret2
                  rw [HR2.out]
                  exact ⟨rfl, below_drewN hbw _⟩
                · have hin := fun w => in_any 0 (-1000000) 1000000 w
                  rw [decide_eq_true (by omega)] at hin
                  have HR2 : Hid (res = some 0) := by show _ = _; rw [HRv.out, if_neg hc]; rfl
                  skip
                  clear HRv hbn
                  go_wp2_with fail
                  go_quiet (fail)
                  go_wp2_with (go_at_call 22; refine (hin _).mono ?_; rintro e w2 ⟨rfl, rfl⟩)
                  go_ret2
                  rw [HR2.out]
                  exact ⟨rfl, below_drewN hbw _⟩
              · have hxx := hxt rfl
                have hyy := hyt rfl
                rcases hxx with rfl | rfl <;> rcases hyy with rfl | rfl
                · have hin := fun w => in_any 0 (-1000000) 1000000 w
                  rw [decide_eq_true (by omega)] at hin
                  have HR2 : Hid (res = some 0) := by show _ = _; rw [HRv.out]; rfl
                  clear HRv
                  go_wp2_with (go_at_call 22; refine (hin _).mono ?_; rintro e w2 ⟨rfl, rfl⟩)
                  go_ret2
                  rw [HR2.out]
                  exact ⟨rfl, hbw⟩
                · have hin := fun w => in_any 0 (-1000000) 1000000 w
                  rw [decide_eq_true (by omega)] at hin
                  have HR2 : Hid (res = some 0) := by show _ = _; rw [HRv.out]; rfl
                  clear HRv
                  go_wp2_with (go_at_call 22; refine (hin _).mono ?_; rintro e w2 ⟨rfl, rfl⟩)
                  go_ret2
                  rw [HR2.out]
                  exact ⟨rfl, hbw⟩
                · have hin := fun w => in_any 0 (-1000000) 1000000 w
                  rw [decide_eq_true (by omega)] at hin
                  have HR2 : Hid (res = some 0) := by show _ = _; rw [HRv.out]; rfl
                  clear HRv
                  go_wp2_with (go_at_call 22; refine (hin _).mono ?_; rintro e w2 ⟨rfl, rfl⟩)
                  go_ret2
                  rw [HR2.out]
                  exact ⟨rfl, hbw⟩
                · have hin := fun w => in_any 1 (-1000000) 1000000 w
                  rw [decide_eq_true (by omega)] at hin
                  have HR2 : Hid (res = some 1) := by show _ = _; rw [HRv.out]; rfl
                  clear HRv
                  go_wp2_with (go_at_call 22; refine (hin _).mono ?_; rintro e w2 ⟨rfl, rfl⟩)
                  go_ret2
                  rw [HR2.out]
                  exact ⟨rfl, hbw⟩
              · have hxx := hxt rfl
                have hyy := hyt rfl
                rcases hxx with rfl | rfl <;> rcases hyy with rfl | rfl
                · have hin := fun w => in_any 0 (-1000000) 1000000 w
                  rw [decide_eq_true (by omega)] at hin
                  have HR2 : Hid (res = some 0) := by show _ = _; rw [HRv.out]; rfl
                  clear HRv
                  go_wp2_with (go_at_call 22; refine (hin _).mono ?_; rintro e w2 ⟨rfl, rfl⟩)
                  go_ret2
                  rw [HR2.out]
                  exact ⟨rfl, hbw⟩
                · have hin := fun w => in_any 1 (-1000000) 1000000 w
                  rw [decide_eq_true (by omega)] at hin
                  have HR2 : Hid (res = some 1) := by show _ = _; rw [HRv.out]; rfl
                  clear HRv
                  go_wp2_with (go_at_call 22; refine (hin _).mono ?_; rintro e w2 ⟨rfl, rfl⟩)
                  go_ret2
                  rw [HR2.out]
                  exact ⟨rfl, hbw⟩
                · have hin := fun w => in_any 1 (-1000000) 1000000 w
                  rw [decide_eq_true (by omega)] at hin
                  have HR2 : Hid (res = some 1) := by show _ = _; rw [HRv.out]; rfl
                  clear HRv
                  go_wp2_with (go_at_call 22; refine (hin _).mono ?_; rintro e w2 ⟨rfl, rfl⟩)
                  go_ret2
                  rw [HR2.out]
                  exact ⟨rfl, hbw⟩
                · have hin := fun w => in_any 1 (-1000000) 1000000 w
                  rw [decide_eq_true (by omega)] at hin
                  have HR2 : Hid (res = some 1) := by show _ = _; rw [HRv.out]; rfl
                  clear HRv
                  go_wp2_with (go_at_call 22; refine (hin _).mono ?_; rintro e w2 ⟨rfl, rfl⟩)
                  go_ret2
                  rw [HR2.out]
                  exact ⟨rfl, hbw⟩
end Go.Proofs.YtdlpmomohbdpgaaGreatDoor

/-
  The contract of the document's own Evaluated.
-/
namespace Go.Proofs.YtdlpmomohbdpgaaGreatDoor
open Go.ChangeShapes Go.WideShapes Go.ChangeAt Go.RowKit Go.Deep
open Terms Tm

set_option maxHeartbeats 1600000 in
/-- THE CONTRACT OF Evaluated. -/
theorem evaluated_any (v ev : Value) (l : List (Int × Int)) (env : List Int) (t : Tm) (w : World) (hV : OpsV w v l) (hE : IntsV w ev env) (ht : endsCode (l.map Prod.fst) = 0 → t.Wf ∧ t.ops = l) :
    Calls Tryz.prog 47 #[v, ev] w fun e w' => e = .returned (.tuple #[.int .i64 (evalN l t env), .int .i64 (evalC l t env)]) ∧ Below w.heap.size w w' := by
  have hch := exprChecked_any v l env.length t w hV ht
  obtain ⟨va, vc, rfl⟩ : ∃ ao cap, v = .slice ao l.length cap := by obtain ⟨ao, cap, h, _⟩ := hV; exact ⟨ao, cap, h⟩
  obtain ⟨eao, ecap, rfl⟩ : ∃ ao cap, ev = .slice ao env.length cap := by obtain ⟨ao, cap, h, _⟩ := hE; exact ⟨ao, cap, h⟩
  by_cases hx : xcode env.length l t = 0
  · obtain ⟨h0, h6, hops, hg, htt, h60⟩ := xcode_zero hx ht
    have HWK : Hid (EnvOk env → ∀ w1, Below w.heap.size w w1 → Calls Tryz.prog 68 #[.slice va l.length vc, .slice eao env.length ecap] w1 fun e w' => e = .returned (.tuple #[.int .i64 (wkN (t.eval env)), .int .i64 (wkC (t.eval env))]) ∧ Below w1.heap.size w1 w') :=
      fun hok w1 hb => worked_any eao ecap env.length env hok rfl _ t _ w1 (Nat.le_refl _) h60 hg htt (by rw [hops]; exact hV.below hb) (hE.below hb)
    have HE : Hid (IntsV w (.slice eao env.length ecap) env) := hE
    have HBad : Hid (envBad env = true → evalN l t env = 0 ∧ evalC l t env = 2) := fun h => by
      unfold evalN evalC
      simp [hx, h]
    have HOk : Hid (envBad env = false → evalN l t env = wkN (t.eval env) ∧ evalC l t env = wkC (t.eval env)) := fun h => by
      unfold evalN evalC wkN wkC
      simp only [hx, h]
      cases t.eval env <;> simp
    rw [hx] at hch
    generalize (decide ((0 : Int) = 0) && mkT t.kind) = bb at hch
    generalize evalN l t env = rn at *
    generalize evalC l t env = rc at *
    generalize wkN (t.eval env) = kn at *
    generalize wkC (t.eval env) = kc at *
    obtain ⟨n, hn⟩ : ∃ n, n = env.length := ⟨_, rfl⟩
    have HN : Hid (n = env.length) := hn
    rw [← hn] at h6 hch HWK HE ⊢
    generalize l.length = ln at *
    clear hV hE ht hx hops hg htt h60 h0 hn
    go_enter Tryz.func47, Tryz.ntmps47
    go_wp2_with (go_at_call 67; refine hch.mono ?_; rintro e w1 ⟨rfl, hb1⟩)
    go_loopw [8] (fun i wr => ∃ k : Nat, k ≤ n ∧ i = .int .i64 k ∧ Hid (∀ j, j < k → -1000000 ≤ env.getD j 0 ∧ env.getD j 0 ≤ 1000000) ∧ wr = w1) (fun i _ => n - (intOf i).toNat)
    case atStart => exact ⟨0, Nat.zero_le _, rfl, fun j hj => by omega, rfl⟩
    case round =>
      obtain ⟨k, hk, rfl, HJ, rfl⟩ := hrel
      by_cases hlt : k < n
      · obtain ⟨b, off, rfl, hblt, hc⟩ := IntsV.atE HE.out (i := k) (by rw [← HN.out]; exact hlt)
        have hc2 := (hb1.cell (p := ⟨b, off + k, none⟩) hblt).trans hc
        have HBk : Hid (¬ (-1000000 ≤ env.getD k 0 ∧ env.getD k 0 ≤ 1000000) → rn = 0 ∧ rc = 2) := fun h => HBad.out (envBad_at (by rw [← HN.out]; exact hlt) h)
        have HJ2 : Hid (-1000000 ≤ env.getD k 0 ∧ env.getD k 0 ≤ 1000000 → ∀ j, j < k + 1 → -1000000 ≤ env.getD j 0 ∧ env.getD j 0 ≤ 1000000) := fun h j hj => by
          by_cases hjk : j = k
          · subst hjk; exact h
          · exact HJ.out j (by omega)
        generalize env.getD k 0 = y at *
        have hin := fun w => in_any y (-1000000) 1000000 w
        clear hc HJ HWK hch
        by_cases hr : -1000000 ≤ y ∧ y ≤ 1000000
        · rw [decide_eq_true hr] at hin
          have HJ3 := (show Hid _ from HJ2.out hr)
          clear HJ2 HBk hr
          go_wp2_with (go_at_call 22; refine (hin _).mono ?_; rintro e w2 ⟨rfl, rfl⟩)
          go_roundw
          case rel => exact ⟨k + 1, hlt, by go_num, HJ3, by first | rfl | trivial⟩
          case measure => simp [intOf]; omega
        · rw [decide_eq_false hr] at hin
          have HR := (show Hid _ from HBk.out hr)
          clear HJ2 HBk hr
          go_wp2_with (go_at_call 22; refine (hin _).mono ?_; rintro e w2 ⟨rfl, rfl⟩)
          go_ret2
          rw [HR.out.1, HR.out.2]
          exact ⟨rfl, hb1⟩
      · have hok : ∀ i, i < env.length → -1000000 ≤ env.getD i 0 ∧ env.getD i 0 ≤ 1000000 := fun i hi => HJ.out i (by have := HN.out; omega)
        have HR := (show Hid _ from HOk.out (envBad_ok hok))
        have hwk := HWK.out hok _ hb1
        clear HJ HWK HOk HBad hok hch
        go_wp2_with (go_at_call 68; refine hwk.mono ?_; rintro e w2 ⟨rfl, hb2⟩)
        go_ret2
        rw [HR.out.1, HR.out.2]
        exact ⟨rfl, hb1.trans (hb2.mono hb1.size)⟩
  · have h1 : evalN l t env = 0 ∧ evalC l t env = xcode env.length l t := by
      unfold evalN evalC
      simp [hx]
    rw [h1.1, h1.2]
    generalize xcode env.length l t = x at *
    rw [show (decide (x = 0) && mkT t.kind) = false by simp [hx]] at hch
    generalize env.length = n at *
    generalize l.length = ln at *
    clear hV hE ht h1
    go_enter Tryz.func47, Tryz.ntmps47
    go_wp2_with (go_at_call 67; refine hch.mono ?_; rintro e w1 ⟨rfl, hb1⟩)
    go_ret2
    exact ⟨rfl, hb1⟩
end Go.Proofs.YtdlpmomohbdpgaaGreatDoor

/-
  The contract of the document's own ValuesOf.
-/
namespace Go.Proofs.YtdlpmomohbdpgaaGreatDoor
open Go.ChangeShapes Go.WideShapes Go.ChangeAt Go.RowKit Go.Deep
open Terms Tm

theorem ivals_snoc (f : Nat → Int) (k : Nat) : ivals ((List.range (k + 1)).map f) = ivals ((List.range k).map f) ++ [.int .i64 (f k)] := by
  simp [ivals, List.range_succ]

theorem rvalues_bad (va vr : Value) (m : Mo) (code : Int) (w : World) (hV : ModelV w va vr m) (h : mcode m ≠ 0) :
    Calls Tryz.prog 46 #[.agg #[va, vr], .int .i64 code] w fun e w' => e = .returned (.tuple #[.slice none 0 0, .int .i64 (mcode m)]) ∧ Below w.heap.size w w' := by
  have hA : ∀ o, Below w.heap.size w (w.alloc o) := fun o => (Below.refl _ _).alloc (Nat.le_refl _) o
  have hch := fun o => rcount_any va vr m (w.alloc o) (hV.below (hA o))
  rw [if_neg h] at hch
  obtain ⟨ao, cap, rfl⟩ := hV.1.shape
  obtain ⟨ro, rc, rfl⟩ := hV.2.shape
  generalize mcode m = x at *
  generalize m.vars.length = n at *
  generalize m.rules.length = rn at *
  clear hV
  go_enter Tryz.func46, Tryz.ntmps46
  go_wp2_with (go_at_call 20; refine (hch _).mono ?_; rintro e w1 ⟨rfl, hb1⟩)
  go_ret2
  exact ⟨rfl, (hA _).trans (hb1.mono (hA _).size)⟩
theorem rvalues_no (va vr : Value) (m : Mo) (code : Int) (w : World) (hV : ModelV w va vr m) (h : mcode m = 0) (hc : ¬ (0 ≤ code ∧ code < prodTo m.vars m.vars.length)) :
    Calls Tryz.prog 46 #[.agg #[va, vr], .int .i64 code] w fun e w' => e = .returned (.tuple #[.slice none 0 0, .int .i64 9]) ∧ Below w.heap.size w w' := by
  have hA : ∀ o, Below w.heap.size w (w.alloc o) := fun o => (Below.refl _ _).alloc (Nat.le_refl _) o
  have hch := fun o => rcount_any va vr m (w.alloc o) (hV.below (hA o))
  rw [if_pos h, h] at hch
  have hN := (mcode_vars h).prod (j := m.vars.length) (Nat.le_refl _)
  obtain ⟨ao, cap, rfl⟩ := hV.1.shape
  obtain ⟨ro, rc, rfl⟩ := hV.2.shape
  generalize prodTo m.vars m.vars.length = N at *
  generalize m.vars.length = n at *
  generalize m.rules.length = rn at *
  have hin := fun w => in_any code 0 (N - 1) w
  rw [decide_eq_false (show ¬ (0 ≤ code ∧ code ≤ N - 1) by omega)] at hin
  clear hV h hc
  go_enter Tryz.func46, Tryz.ntmps46
  go_wp2_with (first | (go_at_call 20; refine (hch _).mono ?_; rintro e w1 ⟨rfl, hb1⟩) | (go_at_call 22; refine (hin _).mono ?_; rintro e w2 ⟨rfl, rfl⟩))
  go_ret2
  exact ⟨rfl, (hA _).trans (hb1.mono (hA _).size)⟩

set_option maxHeartbeats 3200000 in
theorem rvalues_loop (va vr : Value) (m : Mo) (code : Int) (w : World) (hV : ModelV w va vr m) (h : mcode m = 0) (hc : 0 ≤ code ∧ code < prodTo m.vars m.vars.length) :
    Calls Tryz.prog 46 #[.agg #[va, vr], .int .i64 code] w fun e w' => ∃ v, e = .returned (.tuple #[v, .int .i64 0]) ∧ Below w.heap.size w w' ∧ IntsV w' v (valsL m.vars code) := by
  have hA : ∀ o, Below w.heap.size w (w.alloc o) := fun o => (Below.refl _ _).alloc (Nat.le_refl _) o
  have hch := fun o => rcount_any va vr m (w.alloc o) (hV.below (hA o))
  rw [if_pos h, h] at hch
  have hok := mcode_vars h
  have HOK : Hid (VarsOk m.vars) := hok
  have h6 := hok.1
  obtain ⟨ao, cap, rfl⟩ := hV.1.shape
  obtain ⟨ro, rc, rfl⟩ := hV.2.shape
  have hbv := (fun w1 (hb : Below w.heap.size w w1) a (ha : a ≤ m.vars.length) => behindVar_any (.slice ao m.vars.length cap) ro m.rules.length rc m.vars a w1 hok ha (hV.1.below hb))
  have HBV := (show Hid _ from hbv)
  have HV : Hid (VarsV w (.slice ao m.vars.length cap) m.vars) := hV.1
  have hN := hok.prod (j := m.vars.length) (Nat.le_refl _)
  have HS0 : Hid (segP m.vars 0 = prodTo m.vars m.vars.length) := segP_zero _
  obtain ⟨hc1, hc2⟩ := hc
  generalize prodTo m.vars m.vars.length = N at *
  obtain ⟨n, hn⟩ : ∃ n, n = m.vars.length := ⟨_, rfl⟩
  have HN : Hid (n = m.vars.length) := hn
  rw [← hn] at h6 hch HBV HV ⊢
  generalize m.rules.length = rn at *
  have hin := fun w => in_any code 0 (N - 1) w
  rw [decide_eq_true (show (0 ≤ code ∧ code ≤ N - 1) by omega)] at hin
  obtain ⟨i0, hi, hz0, hz1, hz2⟩ := info_parts infoInt
  have HL : Hid (valsL m.vars code = (List.range n).map (valAt m.vars code)) := by show _ = _; rw [HN.out]; rfl
  clear hV hn hok h hbv
  go_enter Tryz.func46, Tryz.ntmps46
  go_wp2_with (first | (go_at_call 20; refine (hch _).mono ?_; rintro e w1 ⟨rfl, hb1⟩) | (go_at_call 22; refine (hin _).mono ?_; rintro e w2 ⟨rfl, rfl⟩))
  have hb1' : Below (w.heap.size + 1) (w.alloc (.cells #[.slice ao n cap, .slice ro rn rc] 25)) w2 := hb1.mono (by simp)
  clear hch hin hb1
  go_loopw [1, 8, 9] (fun cd vv i wr => ∃ k : Nat, k ≤ n ∧ i = .int .i64 k ∧ cd = .int .i64 (code % segP m.vars k) ∧ Hid (wr.ownsRow (w.heap.size + 1) 3 1 vv k (ivals ((List.range k).map (valAt m.vars code)))) ∧ Below (w.heap.size + 1) (w.alloc (.cells #[.slice ao n cap, .slice ro rn rc] 25)) wr) (fun _ _ i _ => n - (intOf i).toNat)
  case atStart => exact ⟨0, Nat.zero_le _, rfl, by rw [HS0.out, Int.emod_eq_of_lt hc1 hc2], World.ownsRow_nil _ _ _ _, hb1'⟩
  case round =>
    obtain ⟨k, hk, rfl, rfl, HOwn, hbelB⟩ := hrel
    clear hb1'
    have hbel := (hA _).trans (hbelB.mono (Nat.le_succ _))
    have hszb : w.heap.size + 1 ≤ wr.heap.size := by have := hbelB.size; simp at this; omega
    have hlb : w.heap.size < wr.heap.size := by omega
    have cb := (hbelB.cell (p := ⟨w.heap.size, 0, none⟩) (by simp)).trans (show _ = some (.slice ao n cap) by simp [go_sem])
    have cb1 := (hbelB.cell (p := ⟨w.heap.size, 1, none⟩) (by simp)).trans (show _ = some (.slice ro rn rc) by simp [go_sem])
    by_cases hlt : k < n
    · obtain ⟨b, off, rfl, hblt, hat⟩ := HV.out.at (i := k) (by rw [← HN.out]; exact hlt)
      obtain ⟨c0, c1, c2, c3⟩ := hat.below hbel hblt
      have hvb := HOK.out.at (j := k) (by rw [← HN.out]; exact hlt)
      have hsg := segP_bounds HOK.out (i := k + 1) (by rw [← HN.out]; exact hlt)
      have hsg0 := segP_bounds HOK.out (i := k) (by rw [← HN.out]; exact hk)
      have HQ : Hid ((code % segP m.vars k) % segP m.vars (k + 1) = code % segP m.vars (k + 1)) := mod_step code (by rw [← HN.out]; exact hlt)
      have HVa : Hid ((m.vars.getD k vr0).lo + (code % segP m.vars k) / segP m.vars (k + 1) = valAt m.vars code k) := valAt_ref HOK.out code (by rw [← HN.out]; exact hlt)
      have HSn := (show Hid _ from ivals_snoc (valAt m.vars code) k)
      have hcd0 := Int.emod_nonneg code (show segP m.vars k ≠ 0 by omega)
      have hcd1 := Int.emod_lt_of_pos code (show 0 < segP m.vars k by omega)
      have hbvk := HBV.out wr hbel (k + 1) (by omega)
      rw [show ((k + 1 : Nat) : Int) - 1 = (k : Int) by omega] at hbvk
      generalize hcd : code % segP m.vars k = cd at *
      generalize segP m.vars k = sg0 at *
      obtain ⟨sg, hsge⟩ : ∃ sg, segP m.vars (k + 1) = sg := ⟨_, rfl⟩
      have HSG : Hid (segP m.vars (k + 1) = sg) := hsge
      rw [hsge] at hsg hbvk HQ HVa
      generalize m.vars.getD k vr0 = x at *
      obtain ⟨s, lo, hi', ini⟩ := x
      simp only [vspan] at c0 c1 c2 c3 HVa hvb
      obtain ⟨hv1, hv2, hv3, hv4, hv5, hv6, hv7⟩ := hvb
      clear hat hsge hcd
      have hi0 : (0 : Int) ≤ (k : Int) := Int.natCast_nonneg _
      have hi1 : (k : Int) < (n : Int) := by omega
      have hsz0 : ¬ sg = 0 := by omega
      have hsz1 : (sg == 0) = false := by rw [beq_eq_false_iff_ne]; omega
      have ht : cd.tmod sg = cd % sg := Int.tmod_eq_emod_of_nonneg hcd0
      have htd : cd.tdiv sg = cd / sg := Int.tdiv_eq_ediv_of_nonneg hcd0
      have hd0 := Int.ediv_nonneg hcd0 (show 0 ≤ sg by omega)
      have hd1 := Int.ediv_le_self sg hcd0
      have hw0 : IntKind.i64.wrap (cd / sg) = cd / sg := wr64 (by omega) (by omega)
      have hw1 : IntKind.i64.wrap (lo + cd / sg) = lo + cd / sg := wr64 (by omega) (by omega)
      have hbo : b < wr.heap.size := by omega
      have hown := HOwn.out
      go_wp2_with (go_at_call 45; refine hbvk.mono ?_; rintro e w3 ⟨rfl, hb3⟩)
      have hown3 : ∀ o, (w3.alloc o).ownsRow (w.heap.size + 1) 3 1 _ k _ := fun o => (owns_later hown hb3 (Nat.le_refl _)).alloc o
      have hnb := hown.lt
      generalize hxs : ivals ((List.range k).map (valAt m.vars code)) = xs at *
      have HXS : Hid (ivals ((List.range k).map (valAt m.vars code)) = xs) := hxs
      have hs3 : w.heap.size < w3.heap.size := Nat.lt_of_lt_of_le hlb hb3.size
      have hS0 : ∀ w', Below wr.heap.size wr w' → w'.cell? ⟨w.heap.size, 0, none⟩ = some (.slice (some ⟨b, off, none⟩) n cap) ∧ w'.cell? ⟨b, off + k * 4 + 1, none⟩ = some (.int .i64 lo) := fun w' hw' =>
        ⟨(hw'.cell (p := ⟨w.heap.size, 0, none⟩) hlb).trans cb, (hw'.cell (p := ⟨b, off + k * 4 + 1, none⟩) hbo).trans c1⟩
      have hSA : ∀ o, (w3.alloc o).cell? ⟨w.heap.size, 0, none⟩ = some (.slice (some ⟨b, off, none⟩) n cap) ∧ (w3.alloc o).cell? ⟨b, off + k * 4 + 1, none⟩ = some (.int .i64 lo) := fun o => hS0 _ (hb3.alloc hb3.size o)
      have hkb : (k + 1) * 8 ≤ 140737488355328 := by omega
      have h63 : k + 1 ≤ maxLen := by unfold maxLen; omega
      have hbase : ∀ o, w.heap.size + 1 ≤ (w3.alloc o).heap.size := fun o => by simp; omega
      clear hxs hown hbvk HOwn cb cb1 c0 c1 c2 c3
      go_region_held3 (fun w' => w'.cell? ⟨w.heap.size, 0, none⟩ = some (.slice (some ⟨b, off, none⟩) n cap) ∧ w'.cell? ⟨b, off + k * 4 + 1, none⟩ = some (.int .i64 lo))
        (first | exact hS0 _ hb3 | exact hS0 _ hb3.drew | exact hSA _ | exact hk4)
        (first
          | (refine step_append_lies _ (by rfl) (.tmp 34) (.tmp 45) 40 (by rfl) (w.heap.size + 1) 3 i0 _ 1 8 Tryz.underlying40 hi hz0 hz1 hz2 (by rfl) (by decide) _ k xs (by rfl) (hown3 _) ⟨w3.heap.size, 0, none⟩ 1 1 [.int .i64 (lo + cd / sg)] (by rfl) (by rfl) (cell_one_new _ _ _) (by intro u hu; simp at hu; subst hu; rfl) (by decide) h63 hkb (hbase _) (w3.heap.size + 1) (by simp) ?_; intro g cp w4 ho4 hg4 hat4 hl4; have hk4 : w4.cell? ⟨w.heap.size, 0, none⟩ = some (.slice (some ⟨b, off, none⟩) n cap) ∧ w4.cell? ⟨b, off + k * 4 + 1, none⟩ = some (.int .i64 lo) := ⟨(hg4.cell_far ⟨w.heap.size, 0, none⟩ (by simp; omega) (fun he => by have := (hnb _ he.symm).1; simp only at this; omega)).trans (hSA _).1, (hg4.cell_far ⟨b, off + k * 4 + 1, none⟩ (by simp; omega) (fun he => by have := (hnb _ he.symm).1; simp only at this; omega)).trans (hSA _).2⟩))
      have hbk : Below (w.heap.size + 1) (w.alloc (.cells #[.slice (some ⟨b, off, none⟩) n cap, .slice ro rn rc] 25)) w4 := by
        have h3 := hbelB.trans (hb3.mono hszb)
        first
          | exact Below.grown (Below.alloc h3.drew (by simp; omega) _) hg4 (by simp; omega) (fun q hq => (hnb q hq).1)
          | exact Below.grown (Below.alloc h3 (by omega) _) hg4 (by simp; omega) (fun q hq => (hnb q hq).1)
      have HO4 : Hid (w4.ownsRow (w.heap.size + 1) 3 1 (.slice (some ⟨g, 0, none⟩) (k + 1) cp) (k + 1) (ivals ((List.range (k + 1)).map (valAt m.vars code)))) := by
        show World.ownsRow _ _ _ _ _ _ _
        rw [HSn.out, ← HVa.out]
        exact ho4
      clear ho4 hg4 hown3 hk4
      go_wp2_with fail
      go_roundw
      case rel => exact ⟨k + 1, hlt, by go_num, by rw [HSG.out, ← HQ.out], HO4, hbk⟩
      case measure => simp [intOf]; omega
    · have hkn : k = n := by omega
      subst hkn
      have hown := HOwn.out
      obtain ⟨vo, vc, rfl⟩ := owns_slice hown
      have hI : IntsV wr (.slice vo k vc) (valsL m.vars code) := by
        rw [HL.out]
        exact intsV_of_owns (by simpa using hown)
      have HI := (show Hid _ from hI)
      clear hI hown
      go_wp2
      go_ret2
      exact ⟨_, rfl, hbel, HI.out⟩
/-- THE CONTRACT OF ValuesOf. -/
theorem rvalues_any (va vr : Value) (m : Mo) (code : Int) (w : World) (hV : ModelV w va vr m) :
    Calls Tryz.prog 46 #[.agg #[va, vr], .int .i64 code] w fun e w' => ∃ v, e = .returned (.tuple #[v, .int .i64 (wcode m code)]) ∧ Below w.heap.size w w' ∧ IntsV w' v (wvals m code) := by
  by_cases h : mcode m = 0
  · by_cases hc : 0 ≤ code ∧ code < prodTo m.vars m.vars.length
    · have h0 := wcode_yes h hc
      unfold wvals
      rw [h0, if_pos rfl]
      exact rvalues_loop va vr m code w hV h hc
    · have h0 := wcode_no h hc
      unfold wvals
      rw [h0, if_neg (by decide)]
      exact (rvalues_no va vr m code w hV h hc).mono fun e w' ⟨he, hb⟩ => ⟨_, he, hb, none, 0, rfl, fun h => absurd rfl h⟩
  · have h0 := wcode_bad (code := code) h
    unfold wvals
    rw [h0, if_neg h]
    exact (rvalues_bad va vr m code w hV h).mono fun e w' ⟨he, hb⟩ => ⟨_, he, hb, none, 0, rfl, fun h => absurd rfl h⟩
end Go.Proofs.YtdlpmomohbdpgaaGreatDoor

/-
  The contract of the document's own AfterRule.
-/
namespace Go.Proofs.YtdlpmomohbdpgaaGreatDoor
open Go.ChangeShapes Go.WideShapes Go.ChangeAt Go.RowKit Go.Deep
open Terms Tm

/-- THE CONTRACT OF Evaluated, in the step's words. -/
theorem rex_any (v ev : Value) (l : List (Int × Int)) (env : List Int) (w : World) (hV : OpsV w v l) (hE : IntsV w ev env) :
    Calls Tryz.prog 47 #[v, ev] w fun e w' => e = .returned (.tuple #[.int .i64 (exN l env), .int .i64 (exC l env)]) ∧ Below w.heap.size w w' :=
  evaluated_any v ev l env (treeOf l) w hV hE (treeOf_spec l)
theorem behindL_eq {env : List Int} {r : Ru} (h : ∀ j, j < r.sets.length → 0 ≤ (r.sets.getD j st0).var ∧ (r.sets.getD j st0).var < env.length) : (List.range env.length).map (fun i => setAt env r.sets i r.sets.length) = behindL env r := by
  apply List.ext_getElem?
  intro i
  by_cases hi : i < env.length
  · have h1 := setTo_at (k := r.sets.length) h i
    rw [List.getElem?_map, List.getElem?_range hi]
    have h2 : i < (behindL env r).length := by unfold behindL; rw [setTo_length]; exact hi
    rw [List.getElem?_eq_getElem h2]
    show some (setAt env r.sets i r.sets.length) = _
    rw [← h1]
    unfold behindL at h2 ⊢
    simp [List.getD_eq_getElem?_getD, h2]
  · simp [hi, behindL, setTo_length]

set_option maxHeartbeats 3200000 in
set_option maxRecDepth 20000 in
/-- one rule that is there, at a state. -/
theorem rafter_in (va vr : Value) (m : Mo) (code : Int) (k : Nat) (w : World) (hV : ModelV w va vr m) (hw : wcode m code = 0) (hk : k < m.rules.length) :
    Calls Tryz.prog 48 #[.agg #[va, vr], .int .i64 code, .int .i64 k] w fun e w' => e = .returned (.tuple #[.int .i64 (optN (ruleDo m.vars (valsL m.vars code) (m.rules.getD k ru0))), .int .i64 (optC (ruleDo m.vars (valsL m.vars code) (m.rules.getD k ru0)))]) ∧ Below w.heap.size w w' := by
  have hA : ∀ o, Below w.heap.size w (w.alloc o) := fun o => (Below.refl _ _).alloc (Nat.le_refl _) o
  obtain ⟨hm, _⟩ := wcode_zero hw
  obtain ⟨hr12, hrs⟩ := mcode_rules hm
  have hrk := hrs k hk
  obtain ⟨h6, hsv⟩ := rule_sets hrk
  have hv6 := (mcode_vars hm).1
  have he := valsL_length m.vars code
  have hvl := fun o => rvalues_any va vr m code (w.alloc o) (hV.below (hA o))
  rw [hw, show wvals m code = valsL m.vars code by unfold wvals; rw [if_pos hw]] at hvl
  have HCo : Hid (∀ w' (_ : Below w.heap.size w w') vv vals, IntsV w' vv vals → Calls Tryz.prog 69 #[.agg #[va, vr], vv] w' fun e w2 => e = .returned (.tuple #[.int .i64 (cval m vals), .int .i64 (ccode m vals)]) ∧ Below w'.heap.size w' w2) := fun w' hb vv vals hi => rcodes_any va vr vv m vals w' (hV.below hb) hi
  have HR : Hid (RulesV w vr m.rules) := hV.2
  obtain ⟨ao, cap, rfl⟩ := hV.1.shape
  obtain ⟨ro, rc, rfl⟩ := hV.2.shape
  obtain ⟨b, off, rfl, hblt, hat⟩ := HR.out.at (i := k) hk
  have hin := fun w => in_any k 0 (m.rules.length - 1) w
  rw [decide_eq_true (show (0 : Int) ≤ k ∧ (k : Int) ≤ (m.rules.length : Int) - 1 by omega)] at hin
  have HG : Hid (holdsB (m.rules.getD k ru0).guard (valsL m.vars code) = false → ruleDo m.vars (valsL m.vars code) (m.rules.getD k ru0) = none) := fun h => ruleDo_guard h
  have HGd : Hid (holdsB (m.rules.getD k ru0).guard (valsL m.vars code) = (decide (exC (m.rules.getD k ru0).guard (valsL m.vars code) = 0) && decide (exN (m.rules.getD k ru0).guard (valsL m.vars code) = 1))) := rfl
  have HRS : Hid (∀ j, j < (m.rules.getD k ru0).sets.length → exC ((m.rules.getD k ru0).sets.getD j st0).val (valsL m.vars code) ≠ 0 → ruleDo m.vars (valsL m.vars code) (m.rules.getD k ru0) = none) := fun j hj h => ruleDo_set hj h
  have HRC : Hid (holdsB (m.rules.getD k ru0).guard (valsL m.vars code) = true → setsOk (valsL m.vars code) (m.rules.getD k ru0) → (ccode m (behindL (valsL m.vars code) (m.rules.getD k ru0)) = 0 → ruleDo m.vars (valsL m.vars code) (m.rules.getD k ru0) = some (cval m (behindL (valsL m.vars code) (m.rules.getD k ru0)))) ∧ (ccode m (behindL (valsL m.vars code) (m.rules.getD k ru0)) ≠ 0 → ruleDo m.vars (valsL m.vars code) (m.rules.getD k ru0) = none)) := fun h1 h2 => ruleDo_code h1 h2 he hm rfl
  generalize ruleDo m.vars (valsL m.vars code) (m.rules.getD k ru0) = res at *
  rw [← he] at hsv hv6
  generalize valsL m.vars code = env at *
  generalize m.rules.getD k ru0 = r at *
  have HSV : Hid (∀ j, j < r.sets.length → 0 ≤ (r.sets.getD j st0).var ∧ (r.sets.getD j st0).var < env.length) := hsv
  clear hV hw hm hrs hrk he hsv
  generalize m.vars.length = n at *
  generalize m.rules.length = rn at *
  go_enter Tryz.func48, Tryz.ntmps48
  go_wp2_with (first | (go_at_call 46; refine (hvl _).mono ?_; rintro e w1 ⟨v, rfl, hb1, hI⟩; obtain ⟨vo, vc, rfl⟩ := hI.shape; have hbw1 := (hA _).trans (hb1.mono (hA _).size); have k10 : w1.cell? ⟨w.heap.size, 0, none⟩ = some (.slice ao n cap) := (hb1.cell (p := ⟨w.heap.size, 0, none⟩) (by simp)).trans (by simp [go_sem]); have k11 : w1.cell? ⟨w.heap.size, 1, none⟩ = some (.slice (some ⟨b, off, none⟩) rn rc) := (hb1.cell (p := ⟨w.heap.size, 1, none⟩) (by simp)).trans (by simp [go_sem]); have hs1 : w.heap.size < w1.heap.size := (by have := hb1.size; simp at this; omega); obtain ⟨⟨u, c0, hou⟩, u', c1, hsu⟩ := hat.below hbw1 hblt; obtain ⟨uo, uc, rfl⟩ := hou.shape; obtain ⟨so, sc, rfl⟩ := hsu.shape) | (go_at_call 22; refine (hin _).mono ?_; rintro e w9 ⟨rfl, rfl⟩))
  have hAr : Below w9.heap.size w9 (w9.alloc (.cells #[.slice uo r.guard.length uc, .slice so r.sets.length sc] 94)) := (Below.refl _ _).alloc (Nat.le_refl _) _
  have hbA := hbw1.trans (hAr.mono hbw1.size)
  have q10 : (w9.alloc (.cells #[.slice uo r.guard.length uc, .slice so r.sets.length sc] 94)).cell? ⟨w9.heap.size, 1, none⟩ = some (.slice so r.sets.length sc) := by simp [go_sem]
  have q11 := (hAr.cell (p := ⟨w.heap.size, 0, none⟩) hs1).trans k10
  have q12 := (hAr.cell (p := ⟨w.heap.size, 1, none⟩) hs1).trans k11
  have hIA := hI.below hAr
  have hsA := hsu.below hAr
  have hgu := rex_any _ _ r.guard env _ (hou.below hAr) hIA
  have hszA : w9.heap.size < (w9.alloc (.cells #[.slice uo r.guard.length uc, .slice so r.sets.length sc] 94)).heap.size := by simp
  generalize w9.alloc (.cells #[.slice uo r.guard.length uc, .slice so r.sets.length sc] 94) = W2 at *
  have HK2 : Hid (∀ w', Below W2.heap.size W2 w' → w'.cell? ⟨w9.heap.size, 1, none⟩ = some (.slice so r.sets.length sc) ∧ w'.cell? ⟨w.heap.size, 0, none⟩ = some (.slice ao n cap) ∧ w'.cell? ⟨w.heap.size, 1, none⟩ = some (.slice (some ⟨b, off, none⟩) rn rc)) := fun w' hb => ⟨(hb.cell (p := ⟨w9.heap.size, 1, none⟩) hszA).trans q10, (hb.cell (p := ⟨w.heap.size, 0, none⟩) (Nat.lt_trans hs1 hszA)).trans q11, (hb.cell (p := ⟨w.heap.size, 1, none⟩) (Nat.lt_trans hs1 hszA)).trans q12⟩
  have HI2 : Hid (IntsV W2 (.slice vo env.length vc) env) := hIA
  have HS2 : Hid (SetsV W2 (.slice so r.sets.length sc) r.sets) := hsA
  have HBW2 : Hid (Below w.heap.size w W2) := hbA
  clear hAr hbA q10 q11 q12 hIA hsA hszA hou hsu hI c0 c1 k10 k11 hb1 hbw1 hat hvl hin HR hA hs1
  have hgd := HGd.out
  generalize exN r.guard env = gn at hgu hgd
  generalize exC r.guard env = gc at hgu hgd
  by_cases hc0 : gc = 0
  · by_cases hn1 : gn = 1
    · have hg1 : holdsB r.guard env = true := by rw [hgd]; simp [hc0, hn1]
      have HRC2 : Hid _ := HRC.out hg1
      subst hc0 hn1
      clear hgd HGd HG HRC hg1
      go_wp2_with (go_at_call 47; refine hgu.mono ?_; rintro e w3 ⟨rfl, hb3⟩; obtain ⟨k30, k31, k32⟩ := HK2.out w3 hb3)
      have HBE : Hid ((List.range env.length).map (fun i => setAt env r.sets i r.sets.length) = behindL env r) := behindL_eq HSV.out
      have hI3 := HI2.out.below hb3
      have HI3 : Hid (IntsV w3 (.slice vo env.length vc) env) := hI3
      have HS3 : Hid (SetsV w3 (.slice so r.sets.length sc) r.sets) := HS2.out.below hb3
      have HK3 : Hid (∀ w', Below w3.heap.size w3 w' → w'.cell? ⟨w9.heap.size, 1, none⟩ = some (.slice so r.sets.length sc) ∧ w'.cell? ⟨w.heap.size, 0, none⟩ = some (.slice ao n cap) ∧ w'.cell? ⟨w.heap.size, 1, none⟩ = some (.slice (some ⟨b, off, none⟩) rn rc)) := fun w' hb => HK2.out w' (hb3.trans (hb.mono hb3.size))
      have HBW3 : Hid (Below w.heap.size w w3) := HBW2.out.trans (hb3.mono HBW2.out.size)
      have HEx : Hid (∀ w' (_ : Below w3.heap.size w3 w') v l, OpsV w' v l → Calls Tryz.prog 47 #[v, .slice vo env.length vc] w' fun e w2 => e = .returned (.tuple #[.int .i64 (exN l env), .int .i64 (exC l env)]) ∧ Below w'.heap.size w' w2) := fun w' hb v l hv => rex_any v _ l env w' hv (hI3.below hb)
      obtain ⟨en, hen⟩ : ∃ en, en = env.length := ⟨_, rfl⟩
      have HEN : Hid (en = env.length) := hen
      obtain ⟨sn, hsn⟩ : ∃ sn, sn = r.sets.length := ⟨_, rfl⟩
      have HSN : Hid (sn = r.sets.length) := hsn
      rw [← hen, ← hsn] at HBE
      rw [← hen] at HI3 HEx hv6 ⊢
      rw [← hsn] at HS3 HK3 h6 k30 ⊢
      have HSV2 : Hid (∀ j, j < sn → 0 ≤ (r.sets.getD j st0).var ∧ (r.sets.getD j st0).var < en) := by rw [hsn, hen]; exact HSV.out
      have HRS2 : Hid (∀ j, j < sn → exC (r.sets.getD j st0).val env ≠ 0 → res = none) := by rw [hsn]; exact HRS.out
      obtain ⟨i0, hi, hz0, hz1, hz2⟩ := info_parts infoInt
      clear hen hsn hI3 hb3 hgu HK2 HI2 HS2 HBW2 HSV HRS
      go_loopw [13, 14] (fun out i wr => ∃ q : Nat, q ≤ en ∧ i = .int .i64 q ∧ Hid (∀ j, j < sn → (r.sets.getD j st0).var < q → exC (r.sets.getD j st0).val env = 0) ∧ Hid (wr.ownsRow w3.heap.size 3 1 out q (ivals ((List.range q).map (fun i => setAt env r.sets i sn)))) ∧ Hid (Below w3.heap.size w3 wr)) (fun _ i _ => en - (intOf i).toNat)
      case atStart => exact ⟨0, Nat.zero_le _, rfl, fun j hj h => absurd h (by have := (HSV2.out j hj).1; omega), World.ownsRow_nil _ _ _ _, Below.refl _ _⟩
      case round =>
        obtain ⟨q, hq, rfl, HOK, HOwn, HBel⟩ := hrel
        have hbel := HBel.out
        by_cases hlt : q < en
        · obtain ⟨vb, voff, rfl, hvblt, hvc⟩ := HI3.out.at (i := q) (by rw [← HEN.out]; exact hlt)
          have hvc2 := (hbel.cell (p := ⟨vb, voff + q, none⟩) hvblt).trans hvc
          obtain ⟨kr0, kr1, kr2⟩ := HK3.out wr hbel
          have HA0 : Hid (setAt env r.sets q 0 = env.getD q 0) := rfl
          generalize env.getD q 0 = x0 at hvc2 HA0
          clear hvc k30 k31 k32
          go_wp2_with fail
          obtain ⟨wo, hwo⟩ : ∃ wo, wo = wr := ⟨_, rfl⟩
          subst hwo
          go_loopw [15, 16] (fun x kk wi => ∃ k : Nat, k ≤ sn ∧ kk = .int .i64 k ∧ x = .int .i64 (setAt env r.sets q k) ∧ Hid (∀ j, j < k → (r.sets.getD j st0).var = q → exC (r.sets.getD j st0).val env = 0) ∧ Hid (Below wo.heap.size wo wi)) (fun _ kk _ => sn - (intOf kk).toNat)
          case atStart => exact ⟨0, Nat.zero_le _, rfl, by rw [HA0.out], fun j hj => by omega, Below.refl _ _⟩
          case round =>
            obtain ⟨k, hk', rfl, rfl, HOKi, HBi⟩ := hrel
            have hbi := hbel.trans (HBi.out.mono hbel.size)
            obtain ⟨ki0, ki1, ki2⟩ := HK3.out wr hbi
            by_cases hlk : k < sn
            · obtain ⟨sb, soff, rfl, hsblt, hsat⟩ := HS3.out.at (i := k) (by rw [← HSN.out]; exact hlk)
              obtain ⟨c0, u, c1, hou⟩ := hsat.below hbi hsblt
              obtain ⟨uo2, uc2, rfl⟩ := hou.shape
              have HStep : Hid (setAt env r.sets q (k + 1) = if (r.sets.getD k st0).var = q then exN (r.sets.getD k st0).val env else setAt env r.sets q k) := rfl
              have HOK2 : Hid (((r.sets.getD k st0).var = q → exC (r.sets.getD k st0).val env = 0) → ∀ j, j < k + 1 → (r.sets.getD j st0).var = q → exC (r.sets.getD j st0).val env = 0) := fun h j hj => by
                by_cases hjk : j = k
                · subst hjk; exact h
                · exact HOKi.out j (by omega)
              have HRk : Hid (exC (r.sets.getD k st0).val env ≠ 0 → res = none) := HRS2.out k hlk
              have hex := HEx.out wr hbi _ _ hou
              generalize exN (r.sets.getD k st0).val env = N at hex HStep
              generalize exC (r.sets.getD k st0).val env = C at hex HRk HOK2
              generalize (r.sets.getD k st0).val.length = ul at hex c1 hou
              generalize (r.sets.getD k st0).var = sv at c0 HStep HOK2
              clear hsat hou HRS2 HEx HS3 HSV2 HRC2 HCo HOKi kr0 kr1 kr2
              by_cases hsv : sv = q
              · have hst : setAt env r.sets q (k + 1) = N := by rw [HStep.out, if_pos hsv]
                have HST : Hid (setAt env r.sets q (k + 1) = N) := hst
                by_cases hC : C = 0
                · have HJ : Hid _ := HOK2.out (fun _ => hC)
                  subst hC hsv
                  clear hst HStep HOK2 HRk
                  go_wp2_with (go_at_call 47; refine hex.mono ?_; rintro e w5 ⟨rfl, hb5⟩)
                  refine ⟨⟨k + 1, hlk, by first | rfl | simp, by rw [HST.out], HJ.out, HBi.out.trans (hb5.mono HBi.out.size)⟩, by simp [intOf]; omega⟩
                · have HRN : Hid (res = none) := HRk.out hC
                  subst hsv
                  clear hst HStep HOK2 HRk
                  go_wp2_with (go_at_call 47; refine hex.mono ?_; rintro e w5 ⟨rfl, hb5⟩)
                  go_ret2
                  exact ⟨by rw [HRN.out]; rfl, HBW3.out.trans ((hbi.trans (hb5.mono hbi.size)).mono HBW3.out.size)⟩
              · have HST : Hid (setAt env r.sets q (k + 1) = setAt env r.sets q k) := by show _ = _; rw [HStep.out, if_neg hsv]
                have HJ : Hid _ := HOK2.out (fun h => absurd h hsv)
                clear HStep HOK2 HRk
                go_wp2_with fail
                refine ⟨⟨k + 1, hlk, by first | rfl | simp, by rw [HST.out], HJ.out, HBi.out⟩, by simp [intOf]; omega⟩
            · have hks : k = sn := by omega
              subst hks
              have hown := HOwn.out
              have hown2 := owns_later hown HBi.out (Nat.le_refl _)
              have hnb := hown.lt
              obtain ⟨oo, oc, rfl⟩ := owns_slice hown
              have HSn : Hid (ivals ((List.range (q + 1)).map (fun i => setAt env r.sets i k)) = ivals ((List.range q).map (fun i => setAt env r.sets i k)) ++ [.int .i64 (setAt env r.sets q k)]) := by
                show _ = _
                simp [ivals, List.range_succ]
              have HOK2 : Hid (∀ j, j < k → (r.sets.getD j st0).var < ((q + 1 : Nat) : Int) → exC (r.sets.getD j st0).val env = 0) := fun j hj h => by
                by_cases hjq : (r.sets.getD j st0).var = q
                · exact HOKi.out j hj hjq
                · exact HOK.out j hj (by omega)
              generalize setAt env r.sets q k = xv at *
              have hown3 := fun o => hown2.alloc o
              have h63 : q + 1 ≤ maxLen := by unfold maxLen; omega
              have hkb : (q + 1) * 8 ≤ 140737488355328 := by omega
              have hbase : ∀ o, w3.heap.size ≤ (wr.alloc o).heap.size := fun o => by have := hbi.size; simp; omega
              clear hown hown2 HRS2 HEx HS3 HSV2 HRC2 HCo HOKi kr0 kr1 kr2
              go_wp2_with (at_builtin; refine wpList_append_own _ rfl (.tmp 94) (.tmp 96) 40 rfl w3.heap.size 3 i0 (.int .i64 0) 1 8 Tryz.underlying40 hi hz0 hz1 hz2 rfl (by decide) _ q _ rfl (hown3 _) ⟨wr.heap.size, 0, none⟩ 1 1 [.int .i64 xv] rfl rfl (cell_one_new _ _ _) (by intro u hu; simp at hu; subst hu; rfl) h63 hkb (hbase _) ?_)
              intro v' w4 hown' hgrow _
              have hb4 : Below w3.heap.size w3 w4 := (hbi.alloc hbi.size _).grown hgrow (hbase _) (fun z hz => (hnb z hz).1)
              have HO4 : Hid (w4.ownsRow w3.heap.size 3 1 v' (q + 1) (ivals ((List.range (q + 1)).map (fun i => setAt env r.sets i k)))) := by
                show World.ownsRow _ _ _ _ _ _ _
                rw [HSn.out]
                exact hown'
              clear hown' hgrow hown3
              go_wp2
              go_roundw
              case rel => exact ⟨q + 1, hlt, by go_num, HOK2, HO4, hb4⟩
              case measure => simp [intOf]; omega
        · have hqn : q = en := by omega
          subst hqn
          have hown := HOwn.out
          rw [HBE.out] at hown
          obtain ⟨oo, oc, rfl⟩ := owns_slice hown
          have hlb : (behindL env r).length = q := by unfold behindL; rw [setTo_length, HEN.out]
          have hI : IntsV wr (.slice oo q oc) (behindL env r) := intsV_of_owns (by rw [hlb]; exact hown)
          have hbw := HBW3.out.trans (hbel.mono HBW3.out.size)
          have hco := HCo.out wr hbw _ _ hI
          have hrc := HRC2.out (fun j hj => HOK.out j (by rw [HSN.out]; exact hj) (HSV2.out j (by rw [HSN.out]; exact hj)).2)
          obtain ⟨kr0, kr1, kr2⟩ := HK3.out wr hbel
          have HBWr : Hid (Below w.heap.size w wr) := hbw
          generalize cval m (behindL env r) = cv at hco hrc
          generalize ccode m (behindL env r) = cc at hco hrc
          obtain ⟨hrc0, hrc1⟩ := hrc
          clear hown hlb hI HCo HRC2 HOK HOwn HI3 HS3 HEx HSV2 HRS2 k30 k31 k32 hbel hbw hlt hq
          by_cases hcc : cc = 0
          · have HRN : Hid (res = some cv) := hrc0 hcc
            subst hcc
            clear hrc0 hrc1
            go_wp2_with (go_at_call 69; refine hco.mono ?_; rintro e w6 ⟨rfl, hb6⟩)
            go_ret2
            exact ⟨by rw [HRN.out]; rfl, HBWr.out.trans (hb6.mono HBWr.out.size)⟩
          · have HRN : Hid (res = none) := hrc1 hcc
            clear hrc0 hrc1
            go_wp2_with (go_at_call 69; refine hco.mono ?_; rintro e w6 ⟨rfl, hb6⟩)
            go_ret2
            exact ⟨by rw [HRN.out]; rfl, HBWr.out.trans (hb6.mono HBWr.out.size)⟩
    · have hrn := HG.out (by rw [hgd]; simp [hn1])
      subst hrn hc0
      clear hgd HGd HRC
      go_wp2_with (go_at_call 47; refine hgu.mono ?_; rintro e w3 ⟨rfl, hb3⟩)
      go_ret2
      exact ⟨rfl, HBW2.out.trans (hb3.mono HBW2.out.size)⟩
  · have hrn := HG.out (by rw [hgd]; simp [hc0])
    subst hrn
    clear hgd HGd HRC
    go_wp2_with (go_at_call 47; refine hgu.mono ?_; rintro e w3 ⟨rfl, hb3⟩)
    go_ret2
    exact ⟨rfl, HBW2.out.trans (hb3.mono HBW2.out.size)⟩

set_option maxHeartbeats 1600000 in
set_option maxRecDepth 20000 in
/-- THE CONTRACT OF AfterRule. -/
theorem rafter_any (va vr : Value) (m : Mo) (code rule : Int) (w : World) (hV : ModelV w va vr m) (hz : m.rules.length ≤ 1000000000000000) :
    Calls Tryz.prog 48 #[.agg #[va, vr], .int .i64 code, .int .i64 rule] w fun e w' => e = .returned (.tuple #[.int .i64 (aftN m code rule), .int .i64 (aftC m code rule)]) ∧ Below w.heap.size w w' := by
  have hA : ∀ o, Below w.heap.size w (w.alloc o) := fun o => (Below.refl _ _).alloc (Nat.le_refl _) o
  by_cases hw : wcode m code = 0
  · by_cases hin : 0 ≤ rule ∧ rule < m.rules.length
    · obtain ⟨k, rfl⟩ : ∃ k : Nat, rule = k := ⟨rule.toNat, by omega⟩
      have h := rafter_in va vr m code k w hV hw (by omega)
      unfold aftN aftC
      rw [if_pos hw, if_pos hw, if_pos hin, if_pos hin, Int.toNat_natCast]
      exact h
    · have hvl := fun o => rvalues_any va vr m code (w.alloc o) (hV.below (hA o))
      rw [hw] at hvl
      unfold aftN aftC
      rw [if_pos hw, if_pos hw, if_neg hin, if_neg hin]
      have hii := fun w => in_any rule 0 (m.rules.length - 1) w
      rw [decide_eq_false (show ¬ (0 ≤ rule ∧ rule ≤ (m.rules.length : Int) - 1) by omega)] at hii
      obtain ⟨ao, cap, rfl⟩ := hV.1.shape
      obtain ⟨ro, rc, rfl⟩ := hV.2.shape
      generalize wvals m code = vals at hvl
      generalize m.vars.length = n at *
      generalize m.rules.length = rn at *
      clear hV hw hin
      go_enter Tryz.func48, Tryz.ntmps48
      go_wp2_with (first | (go_at_call 46; refine (hvl _).mono ?_; rintro e w1 ⟨v, rfl, hb1, hI⟩; have k11 : w1.cell? ⟨w.heap.size, 1, none⟩ = some (.slice ro rn rc) := (hb1.cell (p := ⟨w.heap.size, 1, none⟩) (by simp)).trans (by simp [go_sem])) | (go_at_call 22; refine (hii _).mono ?_; rintro e w9 ⟨rfl, rfl⟩))
      go_ret2
      exact ⟨rfl, (hA _).trans (hb1.mono (hA _).size)⟩
  · have hvl := fun o => rvalues_any va vr m code (w.alloc o) (hV.below (hA o))
    unfold aftN aftC
    rw [if_neg hw, if_neg hw]
    obtain ⟨ao, cap, rfl⟩ := hV.1.shape
    obtain ⟨ro, rc, rfl⟩ := hV.2.shape
    generalize wvals m code = vals at hvl
    generalize wcode m code = c at *
    generalize m.vars.length = n at *
    generalize m.rules.length = rn at *
    clear hV
    go_enter Tryz.func48, Tryz.ntmps48
    go_wp2_with (go_at_call 46; refine (hvl _).mono ?_; rintro e w1 ⟨v, rfl, hb1, hI⟩)
    go_ret2
    exact ⟨rfl, (hA _).trans (hb1.mono (hA _).size)⟩
end Go.Proofs.YtdlpmomohbdpgaaGreatDoor

/-
  The contract of the document's own LetterOf.
-/
namespace Go.Proofs.YtdlpmomohbdpgaaGreatDoor
open Go.ChangeShapes Go.WideShapes Go.ChangeAt Go.RowKit Go.Deep
open Terms Tm
theorem rowTy_owns {w : World} {base n : Nat} {v : Value} {t : TypeId} {s : Nat} {xs : List Value} (h : w.ownsRow base t s v n xs) : RowTy w v t := by
  intro a k c e
  rcases h.2 with ⟨h0, _⟩ | ⟨g, cap, cur, h1, _, h3, _⟩
  · rw [h0] at e; simp at e
  · rw [h1] at e
    injection e with e _ _
    injection e with e
    subst e
    exact ⟨cur, _, h3⟩


set_option maxHeartbeats 3200000 in
set_option maxRecDepth 20000 in
/-- THE CONTRACT OF LetterOf. -/
theorem rletter_own (va vr pv : Value) (m : Mo) (ps : List (List (Int × Int))) (code : Int) (w : World) (hlz : ps.length * 24 ≤ 140737488355328) (hV : ModelV w va vr m) (hP : TermsV w pv ps) :
    Calls Tryz.prog 23 #[.agg #[va, vr], pv, .int .i64 code] w fun e w' => ∃ v, e = .returned (.tuple #[v, .int .i64 (letC m ps code)]) ∧ Below w.heap.size w w' ∧ BoolsV w' v (letL m ps code) ∧ RowTy w' v 4 := by
  have hA : ∀ o, Below w.heap.size w (w.alloc o) := fun o => (Below.refl _ _).alloc (Nat.le_refl _) o
  have hpr := fun o => rprops_any va vr pv m ps (w.alloc o) hlz (hV.below (hA o)) (hP.below (hA o))
  have hvl := fun w' (hb : Below w.heap.size w w') => rvalues_any va vr m code w' (hV.below hb)
  obtain ⟨ao, cap, rfl⟩ := hV.1.shape
  obtain ⟨ro, rc, rfl⟩ := hV.2.shape
  obtain ⟨po, pc, rfl, hPa⟩ := hP
  by_cases hp : pcode m ps = 0
  · obtain ⟨hm, hp6⟩ := pcode_m hp
    rw [hp] at hpr
    by_cases hw : wcode m code = 0
    · have hlc : letC m ps code = 0 := by unfold letC; rw [if_pos hp, hw]
      have hll : letL m ps code = ps.map (fun p => holdsB p (valsL m.vars code)) := by unfold letL; rw [if_pos hlc]
      rw [hlc, hll]
      rw [hw, show wvals m code = valsL m.vars code by unfold wvals; rw [if_pos hw]] at hvl
      generalize valsL m.vars code = env at hvl ⊢
      have HEx : Hid (∀ w' v ev l, OpsV w' v l → IntsV w' ev env → Calls Tryz.prog 47 #[v, ev] w' fun e w2 => e = .returned (.tuple #[.int .i64 (exN l env), .int .i64 (exC l env)]) ∧ Below w'.heap.size w' w2) := fun w' v ev l h1 h2 => rex_any v ev l env w' h1 h2
      have HP : Hid (ps ≠ [] → ∃ b off, po = some ⟨b, off, none⟩ ∧ b < w.heap.size ∧ ∀ i, i < ps.length → ∃ u, w.cell? ⟨b, off + i, none⟩ = some u ∧ OpsV w u (ps.getD i [])) := hPa
      have HML : Hid (∀ k, k < ps.length → bvals ((ps.take (k + 1)).map (fun p => holdsB p env)) = bvals ((ps.take k).map (fun p => holdsB p env)) ++ [.bool (decide (exC (ps.getD k []) env = 0) && decide (exN (ps.getD k []) env = 1))]) := fun k hk => by
        rw [List.take_succ_eq_append_getElem hk, show ps[k] = ps.getD k [] by simp [List.getD_eq_getElem?_getD, hk]]
        unfold bvals
        rw [List.map_append, List.map_append]
        rfl
      obtain ⟨pn, hpn⟩ : ∃ pn, pn = ps.length := ⟨_, rfl⟩
      have HPN : Hid (pn = ps.length) := hpn
      rw [← hpn] at hpr hp6 HP HML ⊢
      generalize m.vars.length = n at *
      generalize m.rules.length = rn at *
      obtain ⟨i0, hi, hz0, hz1, hz2⟩ := info_parts infoBool
      clear hV hlc hll hPa hpn hw hm hp hlz
      go_enter Tryz.func23, Tryz.ntmps23
      go_wp2_with (first | (go_at_call 42; refine (hpr _).mono ?_; rintro e w1 ⟨rfl, hb1⟩; have hbw1 := (hA _).trans (hb1.mono (hA _).size); have k10 : w1.cell? ⟨w.heap.size, 0, none⟩ = some (.slice ao n cap) := (hb1.cell (p := ⟨w.heap.size, 0, none⟩) (by simp)).trans (by simp [go_sem]); have k11 : w1.cell? ⟨w.heap.size, 1, none⟩ = some (.slice ro rn rc) := (hb1.cell (p := ⟨w.heap.size, 1, none⟩) (by simp)).trans (by simp [go_sem])) | (go_at_call 46; refine (hvl _ hbw1).mono ?_; rintro e w3 ⟨v, rfl, hb3, hI3⟩; obtain ⟨vo, vc, rfl⟩ := hI3.shape))
      have hbw3 := hbw1.trans (hb3.mono hbw1.size)
      have HI3 : Hid (IntsV w3 (.slice vo env.length vc) env) := hI3
      have HB3 : Hid (Below w.heap.size w w3) := hbw3
      clear hpr hvl hb1 hbw1 k10 k11 hb3 hI3 hbw3
      go_loopw [10, 11] (fun out i wr => ∃ k : Nat, k ≤ pn ∧ i = .int .i64 k ∧ Hid (wr.ownsRow w3.heap.size 4 1 out k (bvals ((ps.take k).map (fun p => holdsB p env)))) ∧ Hid (Below w3.heap.size w3 wr)) (fun _ i _ => pn - (intOf i).toNat)
      case atStart => exact ⟨0, Nat.zero_le _, rfl, World.ownsRow_nil _ _ _ _, Below.refl _ _⟩
      case round =>
        obtain ⟨k, hk, rfl, HOwn, HBel⟩ := hrel
        have hbel := HBel.out
        have hbw := HB3.out.trans (hbel.mono HB3.out.size)
        by_cases hlt : k < pn
        · obtain ⟨b, off, rfl, hblt, hat⟩ := HP.out (by intro h; have := HPN.out; subst h; simp at this; omega)
          obtain ⟨u, hu, hou⟩ := hat k hlt
          have c0 := (hbel.cell (p := ⟨b, off + k, none⟩) (Nat.lt_of_lt_of_le hblt HB3.out.size)).trans ((HB3.out.cell (p := ⟨b, off + k, none⟩) hblt).trans hu)
          obtain ⟨uo, uc, rfl⟩ := hou.shape
          have hex := HEx.out wr _ _ _ (hou.below hbw) (HI3.out.below hbel)
          have HLk := (show Hid _ from HML.out k hlt)
          generalize exN (ps.getD k []) env = N at hex HLk
          generalize exC (ps.getD k []) env = C at hex HLk
          generalize (ps.getD k []).length = ul at *
          have hown := HOwn.out
          have hnb := hown.lt
          obtain ⟨oo, oc, rfl⟩ := owns_slice hown
          have h63 : k + 1 ≤ maxLen := by unfold maxLen; omega
          have hkb : (k + 1) * 1 ≤ 140737488355328 := by omega
          clear hat hu hou HEx HP HML
          by_cases hC : C = 0
          · have HEl : Hid (bvals ((ps.take (k + 1)).map (fun p => holdsB p env)) = bvals ((ps.take k).map (fun p => holdsB p env)) ++ [.bool (N == 1)]) := by
              show _ = _
              rw [HLk.out, hC]
              rfl
            subst hC
            clear HLk
            go_wp2_with (first | (go_at_call 47; refine hex.mono ?_; rintro e w4 ⟨rfl, hb4⟩; have hb34 := hbel.trans (hb4.mono hbel.size); have hown3 := fun o => (owns_later hown hb4 (Nat.le_refl _)).alloc o; have hbase : ∀ o, w3.heap.size ≤ (w4.alloc o).heap.size := (fun o => by have := hb34.size; simp; omega)) | (at_builtin; refine wpList_append_own _ rfl (.tmp 44) (.tmp 51) 61 rfl w3.heap.size 4 i0 (.bool false) 1 1 Tryz.underlying61 hi hz0 hz1 hz2 rfl (by decide) _ k _ rfl (hown3 _) ⟨w4.heap.size, 0, none⟩ 1 1 [.bool (N == 1)] rfl rfl (cell_one_new _ _ _) (by intro u hu; simp at hu; subst hu; rfl) h63 hkb (hbase _) ?_; intro v' w5 hown' hgrow _))
            have hb5 : Below w3.heap.size w3 w5 := (hb34.alloc hb34.size _).grown hgrow (hbase _) (fun z hz => (hnb z hz).1)
            have HO5 : Hid (w5.ownsRow w3.heap.size 4 1 v' (k + 1) (bvals ((ps.take (k + 1)).map (fun p => holdsB p env)))) := by
              show World.ownsRow _ _ _ _ _ _ _
              rw [HEl.out]
              exact hown'
            clear hown' hgrow hown3
            exact ⟨⟨k + 1, hlt, by first | rfl | simp, HO5.out, hb5⟩, by simp [intOf]; omega⟩
          · have HEl : Hid (bvals ((ps.take (k + 1)).map (fun p => holdsB p env)) = bvals ((ps.take k).map (fun p => holdsB p env)) ++ [.bool false]) := by
              show _ = _
              rw [HLk.out, decide_eq_false hC]
              rfl
            clear HLk
            go_wp2_with (first | (go_at_call 47; refine hex.mono ?_; rintro e w4 ⟨rfl, hb4⟩; have hb34 := hbel.trans (hb4.mono hbel.size); have hown3 := fun o => (owns_later hown hb4 (Nat.le_refl _)).alloc o; have hbase : ∀ o, w3.heap.size ≤ (w4.alloc o).heap.size := (fun o => by have := hb34.size; simp; omega)) | (at_builtin; refine wpList_append_own _ rfl (.tmp 44) (.tmp 51) 61 rfl w3.heap.size 4 i0 (.bool false) 1 1 Tryz.underlying61 hi hz0 hz1 hz2 rfl (by decide) _ k _ rfl (hown3 _) ⟨w4.heap.size, 0, none⟩ 1 1 [.bool false] rfl rfl (cell_one_new _ _ _) (by intro u hu; simp at hu; subst hu; rfl) h63 hkb (hbase _) ?_; intro v' w5 hown' hgrow _))
            have hb5 : Below w3.heap.size w3 w5 := (hb34.alloc hb34.size _).grown hgrow (hbase _) (fun z hz => (hnb z hz).1)
            have HO5 : Hid (w5.ownsRow w3.heap.size 4 1 v' (k + 1) (bvals ((ps.take (k + 1)).map (fun p => holdsB p env)))) := by
              show World.ownsRow _ _ _ _ _ _ _
              rw [HEl.out]
              exact hown'
            clear hown' hgrow hown3
            exact ⟨⟨k + 1, hlt, by first | rfl | simp, HO5.out, hb5⟩, by simp [intOf]; omega⟩
        · have hkn : k = pn := by omega
          subst hkn
          have hown := HOwn.out
          rw [List.take_of_length_le (by rw [← HPN.out]; omega)] at hown
          obtain ⟨oo, oc, rfl⟩ := owns_slice hown
          have HTy : Hid (RowTy wr (.slice oo k oc) 4) := rowTy_owns hown
          have hbo : BoolsV wr (.slice oo k oc) (ps.map (fun p => holdsB p env)) := boolsV_of_owns (by rw [show (ps.map (fun p => holdsB p env)).length = k by simp [HPN.out]]; exact hown)
          have HBO := (show Hid _ from hbo)
          clear hown hbo
          go_wp2_with fail
          go_ret2
          exact ⟨_, rfl, hbw, HBO.out, HTy.out⟩
    · have hlc : letC m ps code = wcode m code := by unfold letC; rw [if_pos hp]
      have hll : letL m ps code = [] := by unfold letL; rw [if_neg (by rw [hlc]; exact hw)]
      rw [hlc, hll]
      generalize wcode m code = c at *
      generalize wvals m code = vs at *
      generalize m.vars.length = n at *
      generalize m.rules.length = rn at *
      generalize ps.length = pn at *
      clear hV hlc hll hPa
      go_enter Tryz.func23, Tryz.ntmps23
      go_wp2_with (first | (go_at_call 42; refine (hpr _).mono ?_; rintro e w1 ⟨rfl, hb1⟩; have hbw1 := (hA _).trans (hb1.mono (hA _).size); have k10 : w1.cell? ⟨w.heap.size, 0, none⟩ = some (.slice ao n cap) := (hb1.cell (p := ⟨w.heap.size, 0, none⟩) (by simp)).trans (by simp [go_sem]); have k11 : w1.cell? ⟨w.heap.size, 1, none⟩ = some (.slice ro rn rc) := (hb1.cell (p := ⟨w.heap.size, 1, none⟩) (by simp)).trans (by simp [go_sem])) | (go_at_call 46; refine (hvl _ hbw1).mono ?_; rintro e w3 ⟨v, rfl, hb3, _⟩))
      go_ret2
      exact ⟨_, rfl, hbw1.trans (hb3.mono hbw1.size), ⟨none, 0, rfl, fun h => absurd rfl h⟩, RowTy.nil _ _⟩
  · have hlc : letC m ps code = pcode m ps := by unfold letC; rw [if_neg hp]
    have hll : letL m ps code = [] := by unfold letL; rw [if_neg (by rw [hlc]; exact hp)]
    rw [hlc, hll]
    generalize pcode m ps = c at *
    generalize m.vars.length = n at *
    generalize m.rules.length = rn at *
    generalize ps.length = pn at *
    clear hV hlc hll hPa
    go_enter Tryz.func23, Tryz.ntmps23
    go_wp2_with (go_at_call 42; refine (hpr _).mono ?_; rintro e w1 ⟨rfl, hb1⟩)
    go_ret2
    exact ⟨_, rfl, (hA _).trans (hb1.mono (hA _).size), ⟨none, 0, rfl, fun h => absurd rfl h⟩, RowTy.nil _ _⟩
theorem rletter_any (va vr pv : Value) (m : Mo) (ps : List (List (Int × Int))) (code : Int) (w : World) (hlz : ps.length * 24 ≤ 140737488355328) (hV : ModelV w va vr m) (hP : TermsV w pv ps) :
    Calls Tryz.prog 23 #[.agg #[va, vr], pv, .int .i64 code] w fun e w' => ∃ v, e = .returned (.tuple #[v, .int .i64 (letC m ps code)]) ∧ Below w.heap.size w w' ∧ BoolsV w' v (letL m ps code) :=
  (rletter_own va vr pv m ps code w hlz hV hP).mono fun _ _ ⟨v, h1, h2, h3, _⟩ => ⟨v, h1, h2, h3⟩
end Go.Proofs.YtdlpmomohbdpgaaGreatDoor

/-
  The contracts of the document's own secondAt, truthAt and TruthsOf.
-/
namespace Go.Proofs.YtdlpmomohbdpgaaGreatDoor
open Go.ChangeShapes Go.WideShapes Go.ChangeAt Go.RowKit Go.Deep
open Terms

theorem rsec_any (b off cap p : Nat) (l : List (Int × Int)) (w : World) (h60 : l.length ≤ 60) (hz : endsCode (l.map Prod.fst) = 0) (hp : p < l.length) (h2 : pn (l.getD p (0, 0)).1 = 2) (hat : OpsAt w b off l) :
    Calls Tryz.prog 51 #[.slice (some ⟨b, off, none⟩) l.length cap, .int .i64 (p : Int)] w fun e w' => e = .returned (.int .i64 (sec l p : Int)) ∧ w' = w := by
  obtain ⟨h1, hs⟩ := part_in hz hp
  have hp1 := h1 (by omega)
  obtain ⟨_, hc⟩ := code_zero hz
  rw [List.length_map] at hc
  obtain ⟨m, hm, hm1, hml⟩ := cnt_in (l.map Prod.fst) 1 l.length (p + 1) hc hp1
  have hks : KindsAt w b off (l.map Prod.fst) := fun i hi => by
    rw [List.length_map] at hi
    rw [(hat i hi).1]
    simp [List.getD_eq_getElem?_getD, hi]
  have hen := endOf_any b off l.length cap (p + 1) (l.map Prod.fst) w h60 (by rw [List.length_map]) (by omega) hks
  have hsec : sec l p = p + 1 + m := by unfold sec; exact endAt_ok hm
  rw [hm] at hen
  rw [hsec]
  have hpc : ((p + 1 : Nat) : Int) = (p : Int) + 1 := by omega
  simp only [endOfVal] at hen
  rw [hpc] at hen
  generalize ((p + 1 + m : Nat) : Int) = z at *
  generalize l.length = n at *
  clear hat hks hc hm hs h1 h2 hsec hpc
  go_enter Tryz.func51, Tryz.ntmps51
  go_wp2_with (go_at_call 71; refine hen.mono ?_; rintro e w1 ⟨rfl, rfl⟩)
  go_ret
  exact ⟨rfl, rfl⟩

theorem kind_ok {l : List (Int × Int)} (hz : endsCode (l.map Prod.fst) = 0) {p : Nat} (hp : p < l.length) : 1 ≤ (l.getD p (0, 0)).1 ∧ (l.getD p (0, 0)).1 ≤ 18 := by
  obtain ⟨_, hc⟩ := code_zero hz
  rw [List.length_map] at hc
  obtain ⟨m, hm, _, _⟩ := cnt_in (l.map Prod.fst) 1 l.length p hc hp
  have ha := cnt_at (ks := l.map Prod.fst) (q := p) (by rw [List.length_map]; exact hp)
  rw [hm] at ha
  have hget : (l.map Prod.fst).getD p 0 = (l.getD p (0, 0)).1 := by simp [List.getD_eq_getElem?_getD, hp]
  rw [hget] at ha
  split at ha
  · rename_i hk; simpa [okK] using hk
  · simp at ha

/-- what truthAt stands on. -/
structure TruIn (w : World) (v lv av : Value) (l : List (Int × Int)) (letter : List Bool) : Prop where
  ops : OpsV w v l
  letter : BoolsV w lv letter
  ahead : IntsV w av (aheadL l)
theorem TruIn.below {w w' : World} {v lv av : Value} {l : List (Int × Int)} {letter : List Bool} (h : TruIn w v lv av l letter) (hb : Below w.heap.size w w') : TruIn w' v lv av l letter := ⟨h.ops.below hb, h.letter.below hb, h.ahead.below hb⟩

set_option maxHeartbeats 1600000 in
set_option maxRecDepth 20000 in
theorem truthAt_look (b off n cap : Nat) (lo : Option Addr) (ln lc : Nat) (aao : Option Addr) (an ac : Nat) (kx : Int) (hk : 14 ≤ kx ∧ kx ≤ 18) (p : Nat) (hpn : p < n) (l : List (Int × Int)) (claim : Int) (w : World) (h0 : 0 ≤ claim) (h64 : claim < 64) (han : an ≤ 6)
    (c0 : w.cell? ⟨b, off + p * 2, none⟩ = some (.int .i64 kx)) (hA : an = (aheadL l).length) (hav : IntsV w (.slice aao an ac) (aheadL l)) (hpl : p < l.length) (hlk : lookB (l.getD p (0, 0)).1 = true) :
    Calls Tryz.prog 70 #[.slice (some ⟨b, off, none⟩) n cap, .int .i64 (p : Int), .slice lo ln lc, .slice aao an ac, .int .i64 claim] w fun e w' => e = .returned (.bool (bitB claim (aheadTo l p).length)) ∧ Below w.heap.size w w' := by
  have hlt := aheadTo_lt l hpl hlk
  obtain ⟨ao', ac', hsl, hai⟩ := hav
  injection hsl with e1 e2 e3
  subst e1
  obtain ⟨ab, aoff, rfl, habl, haat⟩ := hai (by intro h; rw [show aheadTo l l.length = aheadL l from rfl, h] at hlt; simp at hlt)
  have HG : Hid (∀ k, k < an → ∃ q : Nat, w.cell? ⟨ab, aoff + k, none⟩ = some (.int .i64 (q : Int)) ∧ (q = p ↔ k = (aheadTo l p).length)) := fun k hk => by
    obtain ⟨q, h1, h2, h3, h4⟩ := aheadTo_get l l.length k (by unfold aheadL at hA; omega)
    refine ⟨q, by rw [haat k (by omega)]; exact congrArg (fun z => some (Value.int .i64 z)) h1, fun e => by rw [← e]; exact h4.symm, fun e => ?_⟩
    rcases Nat.lt_trichotomy q p with h | h | h
    · have := aheadTo_lt l h h3; omega
    · exact h
    · have := aheadTo_lt l h hlk; omega
  have hia : (aheadTo l p).length < an := by unfold aheadL at hA; omega
  generalize (aheadTo l p).length = ix at *
  have e13 : ¬ kx = 13 := by omega
  have e11 : ¬ kx = 11 := by omega
  have e12 : ¬ kx = 12 := by omega
  have e10 : ¬ kx = 10 := by omega
  have e8 : ¬ kx = 8 := by omega
  have e9 : ¬ kx = 9 := by omega
  clear hk hai haat hlk hpl hlt hA e2 e3
  go_enter Tryz.func70, Tryz.ntmps70
  go_wp2_with fail
  go_loop [4, 13] (fun c i => ∃ k : Nat, k ≤ ix ∧ i = .int .i64 (k : Int) ∧ c = .int .i64 (claim / 2 ^ k)) (fun _ i => an - (intOf i).toNat)
  case atStart => exact ⟨0, Nat.zero_le _, rfl, by simp⟩
  case round =>
    obtain ⟨k, hk, rfl, rfl⟩ := hrel
    obtain ⟨q, hq, hqi⟩ := HG.out k (by omega)
    have h2 : (0 : Int) < 2 ^ k := Int.pow_pos (by decide)
    have h3 : 0 ≤ claim / 2 ^ k := Int.ediv_nonneg h0 (Int.le_of_lt h2)
    have h4 : claim / 2 ^ k < 64 := Int.lt_of_le_of_lt (Int.ediv_le_self _ h0) h64
    have HD : Hid (claim / 2 ^ (k + 1) = claim / 2 ^ k / 2) := by show _ = _; rw [Int.pow_succ]; first | exact (Int.ediv_ediv (Int.le_of_lt h2)).symm | exact (Int.ediv_ediv_of_nonneg (Int.le_of_lt h2)).symm | exact (Int.ediv_ediv_eq (Int.le_of_lt h2)).symm
    have HB : Hid (bitB claim k = decide (claim / 2 ^ k % 2 = 1)) := rfl
    generalize claim / 2 ^ k = cl at *
    have hka : k < an := by omega
    clear h2
    by_cases hqp : q = p
    · have hki := hqi.1 hqp
      have HKI : Hid (k = ix) := hki
      subst hqp
      clear hki hqi HG
      go_wp2_with fail
      go_ret
      rw [← HKI.out, HB.out]
      exact ⟨rfl, Below.refl _ _⟩
    · have hki : k ≠ ix := fun e => hqp (hqi.2 e)
      have hne : ¬ (q : Int) = p := by omega
      have hlt' : k < ix := by omega
      clear hki hqi HG hqp
      go_wp2_with fail
      exact ⟨⟨k + 1, hlt', by first | rfl | simp, by rw [HD.out]⟩, by simp [intOf]; omega⟩

set_option maxHeartbeats 1600000 in
set_option maxRecDepth 20000 in
/-- THE CONTRACT OF the document's truthAt. -/
theorem truthAt_any (l : List (Int × Int)) (letter : List Bool) (claim : Int) (hc : lcode letter.length l = 0) (h0 : 0 ≤ claim) (h64 : claim < 64) : ∀ (m p : Nat) (w : World) (v lv av : Value), l.length ≤ m + p → p < l.length → TruIn w v lv av l letter →
    Calls Tryz.prog 70 #[v, .int .i64 (p : Int), lv, av, .int .i64 claim] w fun e w' => e = .returned (.bool (tru l letter claim p)) ∧ Below w.heap.size w w' := by
  obtain ⟨hp0, hp6, hz, hlf, h6⟩ := lcode_zero hc
  obtain ⟨hne, h60⟩ := ends_ne hz
  rw [List.length_map] at h60
  intro m
  induction m with
  | zero => intro p w v lv av hm hp; omega
  | succ m ih =>
    intro p w v lv av hm hp hI
    obtain ⟨ao, cap, rfl, _, hv⟩ := id hI.ops
    obtain ⟨b, off, rfl, hbl, hat⟩ := hv (by rintro rfl; exact hne rfl)
    obtain ⟨lo, lc, rfl, hl⟩ := id hI.letter
    obtain ⟨aao, ac, rfl, ha⟩ := id hI.ahead
    obtain ⟨c0, c1⟩ := hat p hp
    have hop := lfirst_all hlf p hp
    have hko := kind_ok hz hp
    obtain ⟨hq1, hq2⟩ := part_in hz hp
    cases hb : lookB (l.getD p (0, 0)).1 with
    | true =>
      rw [tru_look hp hb]
      have hk : 14 ≤ (l.getD p (0, 0)).1 ∧ (l.getD p (0, 0)).1 ≤ 18 := by simpa [lookB] using hb
      exact truthAt_look b off l.length cap lo _ lc aao _ ac _ hk p hp l claim w h0 h64 h6 c0 rfl hI.ahead hp hb
    | false =>
      have HE : Hid (tru l letter claim p = mkB (l.getD p (0, 0)) letter (tru l letter claim (p + 1)) (tru l letter claim (sec l p))) := tru_mk hp hb (fun h => (hq2 h).1)
      have hsc := rsec_any b off cap p l
      have ihp : p + 1 < l.length → ∀ w', Below w.heap.size w w' → Calls Tryz.prog 70 #[.slice (some ⟨b, off, none⟩) l.length cap, .int .i64 ((p : Int) + 1), .slice lo letter.length lc, .slice aao (aheadL l).length ac, .int .i64 claim] w' fun e w2 => e = .returned (.bool (tru l letter claim (p + 1))) ∧ Below w'.heap.size w' w2 := fun h w' hb' => by
        have := ih (p + 1) w' _ _ _ (by omega) h (hI.below hb')
        rw [show ((p + 1 : Nat) : Int) = (p : Int) + 1 by omega] at this
        exact this
      have ihs : pn (l.getD p (0, 0)).1 = 2 → ∀ w', Below w.heap.size w w' → Calls Tryz.prog 70 #[.slice (some ⟨b, off, none⟩) l.length cap, .int .i64 (sec l p : Int), .slice lo letter.length lc, .slice aao (aheadL l).length ac, .int .i64 claim] w' fun e w2 => e = .returned (.bool (tru l letter claim (sec l p))) ∧ Below w'.heap.size w' w2 := fun h w' hb' => ih (sec l p) w' _ _ _ (by have := (hq2 h).1; omega) (hq2 h).2 (hI.below hb')
      have hss : pn (l.getD p (0, 0)).1 = 2 → ∀ w', Below w.heap.size w w' → Calls Tryz.prog 51 #[.slice (some ⟨b, off, none⟩) l.length cap, .int .i64 (p : Int)] w' fun e w2 => e = .returned (.int .i64 (sec l p : Int)) ∧ w2 = w' := fun h w' hb' => rsec_any b off cap p l w' h60 hz hp h (hat.below hb' hbl)
      generalize tru l letter claim (p + 1) = ta at *
      generalize tru l letter claim (sec l p) = tb at *
      generalize tru l letter claim p = tp at *
      generalize l.getD p (0, 0) = xy at *
      obtain ⟨kx, vx⟩ := xy
      simp only at c0 c1 hb hop hq1 hq2 ihs hss hko
      have hk8 : 8 ≤ kx := by
        simp only [lopErr] at hop
        split at hop
        · omega
        · omega
      generalize (sec l p : Int) = sp at *
      rw [HE.out]
      have hlf13 : kx = 13 → 0 ≤ vx ∧ vx < letter.length := fun e => by
        simp only [lopErr] at hop
        rw [if_neg (by omega), if_pos e] at hop
        split at hop
        · omega
        · omega
      generalize (aheadL l).length = an at *
      clear hv ha hop hI hsc ih HE
      by_cases e13 : kx = 13
      · subst e13
        obtain ⟨hv0, hv1⟩ := hlf13 rfl
        obtain ⟨vn, rfl⟩ : ∃ vn : Nat, vx = vn := ⟨vx.toNat, by omega⟩
        obtain ⟨lb, loff, rfl, hlbl, hlat⟩ := hl (by intro h; rw [h] at hv1; simp at hv1; omega)
        have hcl := hlat vn (by omega)
        rw [show mkB (13, (vn : Int)) letter ta tb = letter.getD vn false by simp [mkB]]
        generalize letter.getD vn false = x at *
        generalize letter.length = ln at *
        generalize l.length = n at *
        have hvl : vn < ln := by omega
        clear hlat hl hlf13 hv0 hv1 ihp ihs hss hq1 hq2
        go_enter Tryz.func70, Tryz.ntmps70
        go_wp2_with fail
        go_ret
        exact ⟨rfl, Below.refl _ _⟩
      · generalize hln : letter.length = ln at *
        generalize hnn : l.length = n at *
        clear hl hlf13 hat
        by_cases e11 : kx = 11
        · subst e11
          rw [show mkB (11, vx) letter ta tb = true by simp [mkB]]
          clear ihp ihs hss hq1 hq2
          go_enter Tryz.func70, Tryz.ntmps70
          go_wp2_with fail
          go_ret
          exact ⟨rfl, Below.refl _ _⟩
        · by_cases e12 : kx = 12
          · subst e12
            rw [show mkB (12, vx) letter ta tb = false by simp [mkB]]
            clear ihp ihs hss hq1 hq2
            go_enter Tryz.func70, Tryz.ntmps70
            go_wp2_with fail
            go_ret
            exact ⟨rfl, Below.refl _ _⟩
          · by_cases e10 : kx = 10
            · subst e10
              rw [show mkB (10, vx) letter ta tb = !ta by simp [mkB]]
              have hc1 := ihp (hq1 (by decide)) w (Below.refl _ _)
              clear ihp ihs hss hq1 hq2
              go_enter Tryz.func70, Tryz.ntmps70
              go_wp2_with (go_at_call 70; refine hc1.mono ?_; rintro e w1 ⟨rfl, hb1⟩)
              go_ret
              exact ⟨rfl, hb1⟩
            · by_cases e89 : kx = 8 ∨ kx = 9
              · have hpn2 : pn kx = 2 := by rcases e89 with rfl | rfl <;> rfl
                have hc1 := ihp (hq1 (by omega)) w (Below.refl _ _)
                have hc2 := ihs hpn2
                have hc3 := hss hpn2
                have HM : Hid (mkB (kx, vx) letter ta tb = if kx = 8 then (ta && tb) else (ta || tb)) := by show _ = _; rcases e89 with rfl | rfl <;> simp [mkB]
                rw [HM.out]
                clear ihp ihs hss hq1 hq2 hpn2 HM
                rcases e89 with rfl | rfl
                · cases ta <;> cases tb
                  all_goals
                    go_enter Tryz.func70, Tryz.ntmps70
                    go_wp2_with (first | (go_at_call 51; refine (hc3 _ hb1).mono ?_; rintro e w2 ⟨rfl, hw2⟩; obtain rfl := hw2.symm) | (go_at_call 70; refine hc1.mono ?_; clear hc1; rintro e w1 ⟨rfl, hb1⟩; have hk1 := (hb1.cell (p := ⟨b, off + p * 2, none⟩) hbl).trans c0; have hc4 := hc2 _ hb1) | (go_at_call 70; refine hc4.mono ?_; clear hc4; rintro e w3 ⟨rfl, hb3⟩; have hb13 := hb1.trans (hb3.mono hb1.size); have hk3 := (hb13.cell (p := ⟨b, off + p * 2, none⟩) hbl).trans c0))
                    all_goals go_ret
                    all_goals exact ⟨by first | rfl | simp, hb13⟩
                · cases ta <;> cases tb
                  all_goals
                    go_enter Tryz.func70, Tryz.ntmps70
                    go_wp2_with (first | (go_at_call 51; refine (hc3 _ hb1).mono ?_; rintro e w2 ⟨rfl, hw2⟩; obtain rfl := hw2.symm) | (go_at_call 70; refine hc1.mono ?_; clear hc1; rintro e w1 ⟨rfl, hb1⟩; have hk1 := (hb1.cell (p := ⟨b, off + p * 2, none⟩) hbl).trans c0; have hc4 := hc2 _ hb1) | (go_at_call 70; refine hc4.mono ?_; clear hc4; rintro e w3 ⟨rfl, hb3⟩; have hb13 := hb1.trans (hb3.mono hb1.size); have hk3 := (hb13.cell (p := ⟨b, off + p * 2, none⟩) hbl).trans c0))
                    all_goals go_ret
                    all_goals exact ⟨by first | rfl | simp, hb13⟩
              · exfalso
                simp [lookB] at hb
                omega
end Go.Proofs.YtdlpmomohbdpgaaGreatDoor

/-
  The contract of the document's own TruthsOf.
-/
namespace Go.Proofs.YtdlpmomohbdpgaaGreatDoor
open Go.ChangeShapes Go.WideShapes Go.ChangeAt Go.RowKit Go.Deep
open Terms

def truTo (l : List (Int × Int)) (letter : List Bool) (claim : Int) (k : Nat) : List Bool := (List.range k).map (tru l letter claim)
theorem truTo_succ (l : List (Int × Int)) (letter : List Bool) (claim : Int) (k : Nat) : truTo l letter claim (k + 1) = truTo l letter claim k ++ [tru l letter claim k] := by simp [truTo, List.range_succ]
theorem truTo_length (l : List (Int × Int)) (letter : List Bool) (claim : Int) (k : Nat) : (truTo l letter claim k).length = k := by simp [truTo]

set_option maxHeartbeats 1600000 in
set_option maxRecDepth 20000 in
/-- THE CONTRACT OF the document's TruthsOf. -/
theorem rtruths_any (v lv : Value) (l : List (Int × Int)) (letter : List Bool) (claim : Int) (w : World) (hV : OpsV w v l) (hL : BoolsV w lv letter) :
    Calls Tryz.prog 49 #[v, lv, .int .i64 claim] w fun e w' => ∃ v', e = .returned (.tuple #[v', .int .i64 (tcode l letter claim)]) ∧ Below w.heap.size w w' ∧ BoolsV w' v' (truL l letter claim) := by
  have hah := aheadOf_any v l letter.length w hV
  obtain ⟨oo, oc, rfl, _⟩ := id hV
  obtain ⟨lo, lc, rfl, hl⟩ := id hL
  by_cases hc : lcode letter.length l = 0
  · obtain ⟨hp0, hp6, hz, hlf, h6⟩ := lcode_zero hc
    obtain ⟨hne, h60⟩ := ends_ne hz
    rw [List.length_map] at h60
    rw [hc] at hah
    have hal : ahL letter.length l = aheadL l := by unfold ahL; rw [if_pos hc]
    rw [hal] at hah
    have hsh : (2 : Int) ^ (aheadL l).length ≤ 64 := by
      have hcase : (aheadL l).length = 0 ∨ (aheadL l).length = 1 ∨ (aheadL l).length = 2 ∨ (aheadL l).length = 3 ∨ (aheadL l).length = 4 ∨ (aheadL l).length = 5 ∨ (aheadL l).length = 6 := by omega
      rcases hcase with h | h | h | h | h | h | h <;> rw [h] <;> decide
    have HTr : Hid (ClaimNo l claim → False) ∨ Hid (ClaimNo l claim) := by
      by_cases h : ClaimNo l claim
      · exact .inr h
      · exact .inl h
    have HTa : Hid (¬ ClaimNo l claim → ∀ p w' av, p < l.length → TruIn w' (.slice oo l.length oc) (.slice lo letter.length lc) av l letter → Calls Tryz.prog 70 #[.slice oo l.length oc, .int .i64 (p : Int), .slice lo letter.length lc, av, .int .i64 claim] w' fun e w2 => e = .returned (.bool (tru l letter claim p)) ∧ Below w'.heap.size w' w2) := fun hn p w' av hp hI => by
      unfold ClaimNo at hn
      exact truthAt_any l letter claim hc (by omega) (by omega) l.length p w' _ _ _ (by omega) hp hI
    have HCl : Hid (ClaimNo l claim ↔ (claim < 0 ∨ 2 ^ (aheadL l).length ≤ claim)) := Iff.rfl
    have HV : Hid (OpsV w (.slice oo l.length oc) l) := hV
    have HL : Hid (BoolsV w (.slice lo letter.length lc) letter) := hL
    have HTC : Hid (ClaimNo l claim → tcode l letter claim = 2 ∧ truL l letter claim = []) := fun h => ⟨tcode_no hc h, by unfold truL; rw [tcode_no hc h]; rfl⟩
    have HTO : Hid (¬ ClaimNo l claim → tcode l letter claim = 0 ∧ truL l letter claim = truTo l letter claim l.length) := fun h => ⟨tcode_ok hc h, by unfold truL truTo; rw [tcode_ok hc h]; rfl⟩
    generalize tcode l letter claim = x at *
    generalize truL l letter claim = res at *
    have hin := fun w => in_any claim 0 ((2 : Int) ^ (aheadL l).length - 1) w
    obtain ⟨an, han⟩ : ∃ an, an = (aheadL l).length := ⟨_, rfl⟩
    have HAN : Hid (an = (aheadL l).length) := han
    rw [← han] at hah h6 hsh HCl hin
    obtain ⟨n, hn⟩ : ∃ n, n = l.length := ⟨_, rfl⟩
    have HN : Hid (n = l.length) := hn
    rw [← hn] at hah h60 HTa HTO HV ⊢
    generalize letter.length = ln at *
    obtain ⟨i0, hi, hz0, hz1, hz2⟩ := info_parts infoBool
    clear hV hL hl hal hc hz hne hlf han hn hp0 hp6
    go_enter Tryz.func49, Tryz.ntmps49
    go_wp2_with (go_at_call 30; refine hah.mono ?_; rintro e w1 ⟨av, rfl, hb1, ho1⟩; obtain ⟨aao, ac, rfl⟩ := owns_slice ho1)
    have HI1 : Hid (TruIn w1 (.slice oo n oc) (.slice lo ln lc) (.slice aao an ac) l letter) := ⟨HV.out.below hb1, HL.out.below hb1, by have := ho1; rw [HAN.out] at this ⊢; exact intsV_of_owns this⟩
    clear hah ho1
    go_loop [10, 11] (fun ms i => ∃ k : Nat, k ≤ an ∧ i = .int .i64 (k : Int) ∧ ms = .int .i64 (2 ^ k)) (fun _ i => an - (intOf i).toNat)
    case atStart => exact ⟨0, Nat.zero_le _, rfl, rfl⟩
    case round =>
      obtain ⟨k, hk, rfl, rfl⟩ := hrel
      by_cases hlt : k < an
      · have h2 : (2 : Int) ^ k * 2 = 2 ^ (k + 1) := (Int.pow_succ 2 k).symm
        have h3 : (2 : Int) ^ (k + 1) ≤ 64 := by
          have hcase : k = 0 ∨ k = 1 ∨ k = 2 ∨ k = 3 ∨ k = 4 ∨ k = 5 := by omega
          rcases hcase with rfl | rfl | rfl | rfl | rfl | rfl <;> decide
        have h4 : (0 : Int) < 2 ^ k := Int.pow_pos (by decide)
        have HP : Hid ((2 : Int) ^ k * 2 = 2 ^ (k + 1)) := h2
        rw [← h2] at h3
        generalize (2 : Int) ^ k = pw at *
        clear h2
        go_wp2_with fail
        exact ⟨⟨k + 1, hlt, by first | rfl | simp, by rw [HP.out]⟩, by simp [intOf]; omega⟩
      · obtain rfl : k = an := by omega
        have h4 : (0 : Int) < 2 ^ k := Int.pow_pos (by decide)
        rcases HTr with HNo | HYes
        · have hnc : ¬ (claim < 0 ∨ 2 ^ k ≤ claim) := fun h => HNo.out (HCl.out.2 h)
          obtain ⟨hx0, hrl⟩ := HTO.out (fun h => HNo.out h)
          have HRL : Hid (res = truTo l letter claim n) := hrl
          have HX0 : Hid (x = 0) := hx0
          rw [show decide (0 ≤ claim ∧ claim ≤ 2 ^ k - 1) = true by simp; omega] at hin
          have HTa2 := (show Hid _ from HTa.out (fun h => HNo.out h))
          generalize (2 : Int) ^ k = pw at *
          clear hnc hx0 hrl hlt hk HTO HTC HTa HCl HNo
          go_wp2_with (go_at_call 22; refine (hin _).mono ?_; rintro e wz ⟨rfl, hwz⟩; obtain rfl := hwz.symm)
          go_loopw [12, 13] (fun out i wr => ∃ q : Nat, q ≤ n ∧ i = .int .i64 (q : Int) ∧ Hid (wr.ownsRow w1.heap.size 4 1 out (truTo l letter claim q).length (bvals (truTo l letter claim q))) ∧ Below w1.heap.size w1 wr) (fun _ i _ => n - (intOf i).toNat)
          case atStart => exact ⟨0, Nat.zero_le _, rfl, World.ownsRow_nil _ _ _ _, Below.refl _ _⟩
          case round =>
            obtain ⟨q, hq, rfl, HOw, hbel⟩ := hrel
            have hown := HOw.out
            rw [truTo_length] at hown
            obtain ⟨ro, rc, rfl⟩ := owns_slice hown
            by_cases hlt : q < n
            · have hta := HTa2.out q wr _ hlt (HI1.out.below hbel)
              have HS : Hid (truTo l letter claim (q + 1) = truTo l letter claim q ++ [tru l letter claim q]) := truTo_succ _ _ _ _
              generalize tru l letter claim q = tv at *
              have h63 : q + 1 ≤ maxLen := by unfold maxLen; omega
              have hkb : (q + 1) * 1 ≤ 140737488355328 := by omega
              clear HOw HTa2
              go_wp2_with (first | (go_at_call 70; refine hta.mono ?_; rintro e w3 ⟨rfl, hb3⟩; have ho3 := fun o => (owns_later hown hb3 (Nat.le_refl _)).alloc o; have hb13 := hbel.trans (hb3.mono hbel.size); have hbase : ∀ o, w1.heap.size ≤ (w3.alloc o).heap.size := (fun o => by have := hb13.size; simp; omega)) | (at_builtin; refine wpList_append_own _ rfl _ _ 61 rfl w1.heap.size 4 i0 (.bool false) 1 1 Tryz.underlying61 hi hz0 hz1 hz2 rfl (by decide) _ _ _ rfl (ho3 _) ⟨_, 0, none⟩ 1 1 _ rfl rfl (cell_one_new _ _ _) (by intro u hu; simp at hu; subst hu; rfl) h63 hkb (hbase _) ?_; intro v5 w5 hown5 hgrow5 _; obtain ⟨g5, cp5, rfl⟩ := owns_more hown5))
              have hb5 : Below w1.heap.size w1 w5 := (hb13.alloc hb13.size _).grown hgrow5 (hbase _) (owns_block hown)
              refine ⟨⟨q + 1, hlt, by first | rfl | simp, ?_, hb5⟩, by simp [intOf]; omega⟩
              show World.ownsRow _ _ _ _ _ _ _
              rw [truTo_length, HS.out]
              rw [show bvals (truTo l letter claim q ++ [tv]) = bvals (truTo l letter claim q) ++ [.bool tv] by simp [bvals]]
              exact hown5
            · obtain rfl : q = n := by omega
              have HO2 : Hid (BoolsV wr (.slice ro q rc) (truTo l letter claim q)) := by
                have := HOw.out
                show BoolsV _ _ _
                exact boolsV_of_owns this
              clear HOw hown HTa2
              go_wp2_with fail
              go_ret2
              rw [HX0.out, HRL.out]
              exact ⟨_, rfl, hb1.trans (hbel.mono hb1.size), HO2.out⟩
        · have hnc : claim < 0 ∨ 2 ^ k ≤ claim := HCl.out.1 HYes.out
          obtain ⟨hx0, hrl⟩ := HTC.out HYes.out
          rw [show decide (0 ≤ claim ∧ claim ≤ 2 ^ k - 1) = false by simp; omega] at hin
          generalize (2 : Int) ^ k = pw at *
          subst hx0 hrl
          clear hnc hlt hk HTO HTC HTa HCl HYes
          go_wp2_with (go_at_call 22; refine (hin _).mono ?_; rintro e wz ⟨rfl, hwz⟩; obtain rfl := hwz.symm)
          go_ret2
          exact ⟨_, rfl, hb1, none, 0, rfl, fun h => absurd rfl h⟩
  · have HX : Hid (tcode l letter claim = lcode letter.length l ∧ truL l letter claim = []) := ⟨tcode_bad hc, by unfold truL; rw [if_neg (by rw [tcode_bad hc]; exact hc)]⟩
    rw [HX.out.1, HX.out.2]
    generalize lcode letter.length l = x at *
    generalize letter.length = ln at *
    generalize l.length = n at *
    clear hV hL hl HX
    go_enter Tryz.func49, Tryz.ntmps49
    go_wp2_with (go_at_call 30; refine hah.mono ?_; rintro e w1 ⟨av, rfl, hb1, ho1⟩; obtain ⟨aao, ac, rfl⟩ := owns_slice ho1)
    go_ret2
    exact ⟨_, rfl, hb1, none, 0, rfl, fun h => absurd rfl h⟩
end Go.Proofs.YtdlpmomohbdpgaaGreatDoor

/-
  The document's own: how many claims there are, where runs begin; two lists of spots compared.
-/
namespace Go.Proofs.YtdlpmomohbdpgaaGreatDoor
open Go.ChangeShapes Go.WideShapes Go.ChangeAt Go.RowKit Go.Deep
open Terms Tm

set_option maxHeartbeats 1600000 in
set_option maxRecDepth 20000 in
theorem many_any (va vr pv fv : Value) (m : Mo) (ps : List (List (Int × Int))) (l : List (Int × Int)) (w : World) (hV : TaskV w va vr pv fv m ps l) (hc : tkcode m ps l = 0) :
    Calls Tryz.prog 21 #[.agg #[va, vr, pv, fv]] w fun e w' => e = .returned (.int .i64 ((2 ^ (aheadL l).length : Nat) : Int)) ∧ Below w.heap.size w w' := by
  have hA : ∀ o, Below w.heap.size w (w.alloc o) := fun o => (Below.refl _ _).alloc (Nat.le_refl _) o
  obtain ⟨_, hl0⟩ := tk_zero hc
  have h6 := (lcode_zero hl0).2.2.2.2
  obtain ⟨ao, ac, rfl⟩ := hV.mo.1.shape
  obtain ⟨ro, rc, rfl⟩ := hV.mo.2.shape
  obtain ⟨po, pc, rfl⟩ := hV.ps.shape
  obtain ⟨fo, fc, rfl, _⟩ := id hV.fo
  have hah : Calls Tryz.prog 30 #[.slice fo l.length fc, .int .i64 (ps.length : Int)] (w.alloc (.cells #[.slice ao m.vars.length ac, .slice ro m.rules.length rc, .slice po ps.length pc, .slice fo l.length fc] 29)) fun e w' => ∃ ho hcp, e = .returned (.tuple #[.slice ho (aheadL l).length hcp, .int .i64 0]) ∧ Below (w.alloc (.cells #[.slice ao m.vars.length ac, .slice ro m.rules.length rc, .slice po ps.length pc, .slice fo l.length fc] 29)).heap.size (w.alloc (.cells #[.slice ao m.vars.length ac, .slice ro m.rules.length rc, .slice po ps.length pc, .slice fo l.length fc] 29)) w' := by
    refine (aheadOf_any _ l ps.length _ (hV.fo.below (hA _))).mono fun e w' ⟨av, h1, h2, h3⟩ => ?_
    have e1 : ahL ps.length l = aheadL l := by unfold ahL; rw [if_pos hl0]
    rw [e1] at h3
    obtain ⟨a, c, rfl⟩ := owns_slice h3
    exact ⟨a, c, by rw [h1, hl0], h2⟩
  have hpow : ∀ k : Nat, k ≤ 6 → 2 ^ k ≤ 64 := fun k hk => Nat.pow_le_pow_right (show 0 < 2 by decide) hk
  generalize (aheadL l).length = an at *
  generalize m.vars.length = vn at *
  generalize m.rules.length = rn at *
  generalize ps.length = pn at *
  generalize l.length = fn at *
  clear hV hc hl0
  go_enter Tryz.func21, Tryz.ntmps21
  go_wp2_with (first | (go_at_call 30; refine hah.mono ?_; rintro e w1 ⟨ho, hcp, rfl, hb1⟩; have hbw := (hA _).trans (hb1.mono (hA _).size)))
  go_loopw [5, 6] (fun x i wr => ∃ k n : Nat, k ≤ an ∧ i = .int .i64 k ∧ x = .int .i64 n ∧ Hid (n = 2 ^ k) ∧ wr = w1) (fun _ i _ => an - (intOf i).toNat)
  case atStart => exact ⟨0, 1, Nat.zero_le _, rfl, rfl, rfl, rfl⟩
  case round =>
    obtain ⟨k, n, hk, rfl, rfl, HN, rfl⟩ := hrel
    have hn64 : n ≤ 64 := by rw [HN.out]; exact hpow k (by omega)
    by_cases hlt : k < an
    · have HN2 : Hid (n * 2 = 2 ^ (k + 1)) := by show _ = _; rw [Nat.pow_succ, HN.out]
      clear HN
      go_wp2_with fail
      go_roundw
      case rel => exact ⟨k + 1, n * 2, by omega, by go_num, by go_num, HN2, by trivial⟩
      case measure => simp [intOf]; omega
    · obtain rfl : k = an := by omega
      go_wp2_with fail
      go_ret
      exact ⟨by rw [← HN.out]; rfl, hbw⟩

set_option maxHeartbeats 1600000 in
set_option maxRecDepth 20000 in
theorem sameSpots_true (va vb : Value) (l : List (Int × Int)) (w : World) (hl : l.length ≤ 1048576) (hA : SpV w va l) (hB : SpV w vb l) :
    Calls Tryz.prog 8 #[va, vb] w fun e w' => e = .returned (.bool true) ∧ ∃ n, w' = w.drewN n := by
  obtain ⟨ao, ca, rfl, ha⟩ := hA
  obtain ⟨bo, cb, rfl, hb⟩ := hB
  obtain ⟨n, hn⟩ : ∃ n, l.length = n := ⟨_, rfl⟩
  rw [hn] at hl ⊢
  have HA : Hid (l ≠ [] → ∃ b off, ao = some ⟨b, off, none⟩ ∧ b < w.heap.size ∧ OpsAt w b off l) := ha
  have HB : Hid (l ≠ [] → ∃ b off, bo = some ⟨b, off, none⟩ ∧ b < w.heap.size ∧ OpsAt w b off l) := hb
  have HN : Hid (l.length = n) := hn
  clear ha hb hn
  go_enter Tryz.func8, Tryz.ntmps8
  go_wp2
  go_loopw [5] (fun i wr => ∃ k : Nat, k ≤ n ∧ i = .int .i64 k ∧ ∃ q, wr = w.drewN q) (fun i _ => n - (intOf i).toNat)
  case atStart => exact ⟨0, Nat.zero_le _, rfl, 0, rfl⟩
  case round =>
    obtain ⟨k, hk, rfl, q, rfl⟩ := hrel
    by_cases hlt : k < n
    · have hne : l ≠ [] := by intro h; subst h; have := HN.out; simp at this; omega
      obtain ⟨b, off, rfl, _, hca⟩ := HA.out hne
      obtain ⟨b', off', rfl, _, hcb⟩ := HB.out hne
      obtain ⟨c1, c2⟩ := hca k (by rw [HN.out]; exact hlt)
      obtain ⟨c3, c4⟩ := hcb k (by rw [HN.out]; exact hlt)
      generalize (l.getD k (0, 0)).1 = x at c1 c3
      generalize (l.getD k (0, 0)).2 = y at c2 c4
      clear hca hcb hne
      go_wp2_with fail
      go_quiet (fail)
      go_wp2_with fail
      go_roundw
      case rel => exact ⟨k + 1, by omega, by go_num, _, rfl⟩
      case measure => simp [intOf]; omega
    · go_wp2_with fail
      go_ret
      exact ⟨rfl, q, rfl⟩

set_option maxHeartbeats 3200000 in
set_option maxRecDepth 20000 in
/-- THE CONTRACT OF BeginOf. -/
theorem beginOf_any (va vr pv fv : Value) (m : Mo) (ps : List (List (Int × Int))) (l : List (Int × Int)) (w : World) (hZ : m.vars.length * 40 ≤ 140737488355328) (hp1 : ps.length * 24 ≤ 140737488355328) (hV : TaskV w va vr pv fv m ps l) :
    Calls Tryz.prog 29 #[.agg #[va, vr, pv, fv]] w (BegPost w m ps l) := by
  have hA : ∀ o, Below w.heap.size w (w.alloc o) := fun o => (Below.refl _ _).alloc (Nat.le_refl _) o
  obtain ⟨ao, ac, rfl⟩ := hV.mo.1.shape
  obtain ⟨ro, rc, rfl⟩ := hV.mo.2.shape
  obtain ⟨po, pc, rfl⟩ := hV.ps.shape
  obtain ⟨fo, fc, rfl, _⟩ := id hV.fo
  have hp := taskFault_any _ _ _ _ m ps l _ hp1 (hV.below (hA (.cells #[.slice ao m.vars.length ac, .slice ro m.rules.length rc, .slice po ps.length pc, .slice fo l.length fc] 29)))
  unfold BegPost
  by_cases hc : tkcode m ps l = 0
  · obtain ⟨hp0, hl0⟩ := tk_zero hc
    obtain ⟨hm0, _⟩ := pcode_m hp0
    have h6 := (lcode_zero hl0).2.2.2.2
    have hne := tk_ne hc
    have hnei : (0 : Int) < (l.length : Int) := by omega
    have HFi : Hid (∀ w1, Below w.heap.size w w1 → Calls Tryz.prog 56 #[.agg #[.slice ao m.vars.length ac, .slice ro m.rules.length rc]] w1 fun e w' => e = .returned (.tuple #[.int .i64 (begC m), .int .i64 0]) ∧ Below w1.heap.size w1 w') := fun w1 h => by
      have := rfirst_any _ _ m w1 hZ (hV.mo.below h)
      rw [if_pos hm0, hm0] at this
      exact this
    have HLe : Hid (∀ w1, Below w.heap.size w w1 → Calls Tryz.prog 23 #[.agg #[.slice ao m.vars.length ac, .slice ro m.rules.length rc], .slice po ps.length pc, .int .i64 (begC m)] w1 fun e w' => ∃ lo lc, e = .returned (.tuple #[.slice lo ps.length lc, .int .i64 0]) ∧ Below w1.heap.size w1 w' ∧ Hid (BoolsV w' (.slice lo ps.length lc) (letL m ps (begC m)))) := fun w1 h => by
      refine (rletter_any _ _ _ m ps (begC m) w1 hp1 (hV.mo.below h) (hV.ps.below h)).mono fun e w' ⟨v, h1, h2, h3⟩ => ?_
      obtain ⟨t1, t2⟩ := tk_let hc (tk_beg hc)
      obtain ⟨lo, lc, rfl, hx⟩ := h3
      rw [t2] at h1
      exact ⟨lo, lc, by rw [h1, t1], h2, ⟨lo, lc, by rw [t2], hx⟩⟩
    have HTr : Hid (∀ (k : Nat) (lv : Value) (w1 : World), k < 2 ^ (aheadL l).length → Below w.heap.size w w1 → BoolsV w1 lv (letL m ps (begC m)) → Calls Tryz.prog 49 #[.slice fo l.length fc, lv, .int .i64 (k : Int)] w1 fun e w' => ∃ b off c, e = .returned (.tuple #[.slice (some ⟨b, off, none⟩) l.length c, .int .i64 0]) ∧ Below w1.heap.size w1 w' ∧ w'.cell? ⟨b, off, none⟩ = some (.bool (tru l (letL m ps (begC m)) (k : Int) 0))) := fun k lv w1 hk h hl => by
      refine (rtruths_any _ lv l (letL m ps (begC m)) (k : Int) w1 (hV.fo.below h) hl).mono fun e w' ⟨v, h1, h2, h3⟩ => ?_
      obtain ⟨t1, t2⟩ := tk_tru hc (tk_beg hc) hk
      rw [t2] at h3
      obtain ⟨lo, lc, rfl, hx⟩ := h3
      obtain ⟨b, off, rfl, _, hat⟩ := hx (by intro h0; have := congrArg List.length h0; rw [List.length_map, List.length_range, List.length_nil] at this; omega)
      have c0 := hat 0 (by simpa using hne)
      refine ⟨b, off, lc, by rw [h1, t1]; simp, h2, ?_⟩
      rw [Nat.add_zero] at c0
      rw [c0]
      simp [List.getD_eq_getElem?_getD, hne]
    have HMa : Hid (∀ w1, Below w.heap.size w w1 → Calls Tryz.prog 21 #[.agg #[.slice ao m.vars.length ac, .slice ro m.rules.length rc, .slice po ps.length pc, .slice fo l.length fc]] w1 fun e w' => e = .returned (.int .i64 ((2 ^ (aheadL l).length : Nat) : Int)) ∧ Below w1.heap.size w1 w') := fun w1 h => many_any _ _ _ _ m ps l w1 (hV.below h) hc
    have hq64 : 2 ^ (aheadL l).length ≤ 64 := Nat.pow_le_pow_right (show 0 < 2 by decide) h6
    have HNil : Hid (begTo m ps l 0 = []) := rfl
    have HSt : Hid (∀ k, begTo m ps l (k + 1) = if tru l (letL m ps (begC m)) (k : Int) 0 = true then begTo m ps l k else begTo m ps l k ++ [(begC m, (k : Int))]) := fun k => rfl
    rw [begR_ok hc]
    rw [hc] at hp ⊢
    unfold begL
    generalize begTo m ps l = bg at *
    generalize letL m ps (begC m) = lt at *
    generalize begC m = first at *
    generalize m.vars.length = vn at *
    generalize m.rules.length = rn at *
    generalize ps.length = pn at *
    generalize (aheadL l).length = an at *
    generalize 2 ^ an = N at *
    have HTru : Hid (∀ k : Nat, tru l lt (k : Int) 0 = true ∨ tru l lt (k : Int) 0 = false) := fun k => by cases tru l lt (k : Int) 0 <;> simp
    generalize hfn : l.length = fn at *
    clear hV hc hl0 hp0 hm0 h6 hfn
    have HB : Hid (∀ w1, Below (w.heap.size + 1) (w.alloc (.cells #[.slice ao vn ac, .slice ro rn rc, .slice po pn pc, .slice fo fn fc] 29)) w1 → w1.cell? ⟨w.heap.size, 0, none⟩ = some (.slice ao vn ac) ∧ w1.cell? ⟨w.heap.size, 1, none⟩ = some (.slice ro rn rc) ∧ w1.cell? ⟨w.heap.size, 2, none⟩ = some (.slice po pn pc) ∧ w1.cell? ⟨w.heap.size, 3, none⟩ = some (.slice fo fn fc)) := fun w1 h => ⟨(h.cell (p := ⟨w.heap.size, 0, none⟩) (Nat.lt_succ_self _)).trans (by simp [go_sem]), (h.cell (p := ⟨w.heap.size, 1, none⟩) (Nat.lt_succ_self _)).trans (by simp [go_sem]), (h.cell (p := ⟨w.heap.size, 2, none⟩) (Nat.lt_succ_self _)).trans (by simp [go_sem]), (h.cell (p := ⟨w.heap.size, 3, none⟩) (Nat.lt_succ_self _)).trans (by simp [go_sem])⟩
    go_enter Tryz.func29, Tryz.ntmps29
    go_wp2_with (first
      | (go_at_call 19; refine hp.mono ?_; rintro e w1 ⟨rfl, hb1⟩; have hbw1 := (hA _).trans (hb1.mono (hA _).size); have hk1 : Below (w.heap.size + 1) (w.alloc (.cells #[.slice ao vn ac, .slice ro rn rc, .slice po pn pc, .slice fo fn fc] 29)) w1 := (by simpa using hb1); have hz1 : w.heap.size + 1 ≤ w1.heap.size := (by have := hb1.size; simpa using this); obtain ⟨a0, a1, a2, a3⟩ := HB.out w1 hk1; have hfi := HFi.out w1 hbw1)
      | (go_at_call 56; refine hfi.mono ?_; rintro e w2 ⟨rfl, hb2⟩; have hbw2 := hbw1.trans (hb2.mono hbw1.size); obtain ⟨b0, b1, b2, b3⟩ := HB.out w2 (hk1.trans (hb2.mono hz1)); have hle := HLe.out w2 hbw2)
      | (go_at_call 23; refine hle.mono ?_; rintro e w3 ⟨lo, lc, rfl, hb3, HLv⟩; have hbw3 := hbw2.trans (hb3.mono hbw2.size); have hb23 := hb2.trans (hb3.mono hb2.size); obtain ⟨c0, c1, c2, c3⟩ := HB.out w3 (hk1.trans (hb23.mono hz1)); have hma := HMa.out w3 hbw3)
      | (go_at_call 21; refine hma.mono ?_; rintro e w4 ⟨rfl, hb4⟩; have hbw4 := hbw3.trans (hb4.mono hbw3.size); have hb24 := hb23.trans (hb4.mono hb23.size); have hk4 := hk1.trans (hb24.mono hz1)))
    have HLet : Hid (∀ w5, Below w4.heap.size w4 w5 → BoolsV w5 (.slice lo pn lc) lt) := fun w5 h => (HLv.out.below hb4).below h
    have HF : Hid (∀ w5, Below w4.heap.size w4 w5 → w5.cell? ⟨w.heap.size, 3, none⟩ = some (.slice fo fn fc)) := fun w5 h => (HB.out w5 (hk4.trans (h.mono (Nat.le_trans hz1 hb24.size)))).2.2.2
    clear hp hfi hle hma HFi HLe HMa HB a0 a1 a2 a3 b0 b1 b2 b3 c0 c1 c2 c3 HLv
    go_loopw [10, 11] (fun u i wr => ∃ k : Nat, k ≤ N ∧ i = .int .i64 k ∧ (∃ so sn sc, u = .slice so sn sc ∧ sn ≤ k ∧ Hid ((bg k).length = sn ∧ SpO wr w4.heap.size (.slice so sn sc) (bg k))) ∧ Below w4.heap.size w4 wr) (fun _ i _ => N - (intOf i).toNat)
    case atStart => exact ⟨0, Nat.zero_le _, rfl, ⟨none, 0, 0, rfl, Nat.le_refl _, by rw [HNil.out]; rfl, by rw [HNil.out]; exact SpO.nil _ _⟩, Below.refl _ _⟩
    case round =>
      obtain ⟨k, hk, rfl, ⟨so, sn, sc, rfl, hsn, HSp⟩, hbr3⟩ := hrel
      have hbr := hbw4.trans (hbr3.mono hbw4.size)
      have p3 := HF.out wr hbr3
      by_cases hkN : k < N
      · have htr := HTr.out k _ wr hkN hbr (HLet.out wr hbr3)
        have hst := HSt.out k
        have HSk : Hid (∀ w4', Below wr.heap.size wr w4' → SpO w4' w4.heap.size (.slice so sn sc) (bg k)) := fun w4' h => HSp.out.2.later h (Nat.le_refl _)
        have HSl : Hid ((bg k).length = sn) := HSp.out.1
        rcases HTru.out k with ht | ht
        · rw [ht] at htr hst
          rw [if_pos rfl] at hst
          have HE : Hid (bg (k + 1) = bg k) := hst
          clear hst ht HSp
          go_wp2_with (first | (go_at_call 49; refine htr.mono ?_; rintro e w5 ⟨b, off, c, rfl, hb5, d0⟩; have hbw5 := hbr3.trans (hb5.mono hbr3.size)))
          go_roundw
          case rel => exact ⟨k + 1, by omega, by go_num, ⟨so, sn, sc, rfl, by omega, by rw [HE.out]; exact HSl.out, by rw [HE.out]; exact HSk.out _ hb5⟩, hbw5⟩
          case measure => simp [intOf]; omega
        · rw [ht] at htr hst
          rw [if_neg (by simp)] at hst
          have HE : Hid (bg (k + 1) = bg k ++ [(first, (k : Int))]) := hst
          clear hst ht HSp
          go_wp2_with (first | (go_at_call 49; refine htr.mono ?_; rintro e w5 ⟨b, off, c, rfl, hb5, d0⟩; have hbw5 := hbr3.trans (hb5.mono hbr3.size); have hsp := HSk.out _ hb5; have hs5 := hbw5.size) | (at_builtin; refine push_sp first (k : Int) rfl _ _ rfl w4.heap.size sn sc so (bg k) HSl.out rfl hsp rfl (by omega) hs5 ?_; intro vo6 cap6 w6 ho6 hb6 hg6; have HO6 : Hid (SpO w6 w4.heap.size (.slice vo6 (sn + 1) cap6) (bg k ++ [(first, (k : Int))])) := ho6; have hbw6 := hbw5.trans hb6; clear ho6 hg6 hsp))
          go_roundw
          case rel => exact ⟨k + 1, by omega, by go_num, ⟨vo6, sn + 1, cap6, rfl, by omega, by rw [HE.out, List.length_append, HSl.out]; rfl, by rw [HE.out]; exact HO6.out⟩, hbw6⟩
          case measure => simp [intOf]; omega
      · obtain rfl : k = N := by omega
        have HSl : Hid ((bg k).length = sn) := HSp.out.1
        have HSk : Hid (SpO wr w.heap.size (.slice so sn sc) (bg k)) := owns_mono HSp.out.2 hbw4.size
        clear HSp
        go_wp2_with fail
        go_ret2
        refine ⟨so, sc, by rw [HSl.out]; rfl, hbr, by rw [HSl.out]; exact HSk.out⟩
  · rw [begR_bad hc]
    generalize tkcode m ps l = c at *
    generalize m.vars.length = vn at *
    generalize m.rules.length = rn at *
    generalize ps.length = pn at *
    generalize l.length = fn at *
    clear hV
    go_enter Tryz.func29, Tryz.ntmps29
    go_wp2_with (first | (go_at_call 19; refine hp.mono ?_; rintro e w1 ⟨rfl, hb1⟩; have hbw := (hA _).trans (hb1.mono (hA _).size)))
    go_ret2
    exact ⟨none, 0, rfl, hbw, SpO.nil _ _⟩
end Go.Proofs.YtdlpmomohbdpgaaGreatDoor

/-
  The contract of the document's own FollowsOn.
-/
namespace Go.Proofs.YtdlpmomohbdpgaaGreatDoor
open Go.ChangeShapes Go.WideShapes Go.ChangeAt Go.RowKit Go.Deep
open Terms

/-- the truths as the document lays them. -/
def TruAt (w : World) (tb toff n : Nat) (h : Nat → Bool) : Prop := ∀ q, q < n → w.cell? ⟨tb, toff + q, none⟩ = some (.bool (h q))
theorem rtruths_ok (v lv : Value) (l : List (Int × Int)) (letter : List Bool) (claim : Int) (w : World) (hV : OpsV w v l) (hL : BoolsV w lv letter) (hl0 : 0 < l.length) (hc : tcode l letter claim = 0) :
    Calls Tryz.prog 49 #[v, lv, .int .i64 claim] w fun e w' => ∃ tb toff tc, e = .returned (.tuple #[.slice (some ⟨tb, toff, none⟩) l.length tc, .int .i64 0]) ∧ Below w.heap.size w w' ∧ tb < w'.heap.size ∧ Hid (TruAt w' tb toff l.length (tru l letter claim)) := by
  have htl : truL l letter claim = truTo l letter claim l.length := by unfold truL truTo; rw [hc]; rfl
  have htr := rtruths_any v lv l letter claim w hV hL
  rw [hc, htl] at htr
  refine htr.mono fun e w' ⟨v', he, hb, hv'⟩ => ?_
  obtain ⟨to', tc, rfl, ht⟩ := hv'
  rw [truTo_length] at he
  obtain ⟨tb, toff, rfl, htl, hta⟩ := ht (by intro h; have := truTo_length l letter claim l.length; rw [h] at this; simp at this; omega)
  refine ⟨tb, toff, tc, he, hb, htl, fun q hq => ?_⟩
  rw [hta q (by rw [truTo_length]; exact hq)]
  simp [truTo, List.getD_eq_getElem?_getD, hq]

set_option maxHeartbeats 3200000 in
set_option maxRecDepth 20000 in
theorem rfol_main (b off cap : Nat) (l : List (Int × Int)) (no xo : Option Addr) (nc xc ln : Nat) (now next : List Bool) (claim later : Int) (w : World) (hz : endsCode (l.map Prod.fst) = 0) (hbl : b < w.heap.size) (hat : OpsAt w b off l) (hcap : l.length ≤ cap) (hL : BoolsV w (.slice no ln nc) now) (hX : BoolsV w (.slice xo ln xc) next) (hc1 : tcode l now claim = 0) (hc2 : tcode l next later = 0) (fr : Bool) (hyes : Fol l (tru l now claim) (tru l next later) → fr = true) (hnot : ¬ Fol l (tru l now claim) (tru l next later) → fr = false) :
    Calls Tryz.prog 25 #[.slice (some ⟨b, off, none⟩) l.length cap, .slice no ln nc, .int .i64 claim, .slice xo ln xc, .int .i64 later] w fun e w' => e = .returned (.tuple #[.bool fr, .int .i64 0]) ∧ Below w.heap.size w w' := by
  obtain ⟨hne, h60⟩ := ends_ne hz
  rw [List.length_map] at h60
  have hl0 : 0 < l.length := by
    cases l with
    | nil => exact absurd rfl hne
    | cons _ _ => simp
  have hV : OpsV w (.slice (some ⟨b, off, none⟩) l.length cap) l := ⟨_, cap, rfl, ⟨hcap, fun h => by simp at h⟩, fun _ => ⟨b, off, rfl, hbl, hat⟩⟩
  have hta := rtruths_ok _ _ l now claim w hV hL hl0 hc1
  have htb := fun w1 (hb : Below w.heap.size w w1) => rtruths_ok _ _ l next later w1 (hV.below hb) (hX.below hb) hl0 hc2
  have HA : Hid (OpsAt w b off l) := hat
  have HSe : Hid (∀ w' p, Below w.heap.size w w' → p < l.length → pn (l.getD p (0, 0)).1 = 2 → Calls Tryz.prog 51 #[.slice (some ⟨b, off, none⟩) l.length cap, .int .i64 (p : Int)] w' fun e w2 => e = .returned (.int .i64 (sec l p : Int)) ∧ w2 = w') := fun w' p hb hp h2 => rsec_any b off cap p l w' h60 hz hp h2 (hat.below hb hbl)
  have HPt : Hid (∀ p, p < l.length → (1 ≤ pn (l.getD p (0, 0)).1 → p + 1 < l.length) ∧ (pn (l.getD p (0, 0)).1 = 2 → p + 1 < sec l p ∧ sec l p < l.length)) := fun p hp => part_in hz hp
  have HFol : Hid (Fol l (tru l now claim) (tru l next later) ↔ ∀ p, p < l.length → lookB (l.getD p (0, 0)).1 = true → tru l now claim p = comeB (l.getD p (0, 0)).1 (tru l now claim (p + 1)) (tru l now claim (sec l p)) (tru l next later p) (tru l next later (p + 1))) := Iff.rfl
  have HYes := (show Hid _ from hyes)
  have HNot := (show Hid _ from hnot)
  generalize Fol l (tru l now claim) (tru l next later) = FP at *
  generalize tru l now claim = tn at *
  generalize tru l next later = tx at *
  obtain ⟨n, hn⟩ : ∃ n, n = l.length := ⟨_, rfl⟩
  have HN : Hid (n = l.length) := hn
  rw [← hn] at hta htb HSe HPt HFol h60 ⊢
  obtain ⟨ALL, HALL⟩ : ∃ ALL : Nat → Prop, Hid (∀ q, ALL q ↔ ∀ p, p < q → lookB (l.getD p (0, 0)).1 = true → tn p = comeB (l.getD p (0, 0)).1 (tn (p + 1)) (tn (sec l p)) (tx p) (tx (p + 1))) := ⟨_, fun _ => Iff.rfl⟩
  clear hat hV hL hX hc1 hc2 hyes hnot hz hne hn hl0 hcap
  go_enter Tryz.func25, Tryz.ntmps25
  go_wp2_with (first | (go_at_call 49; refine hta.mono ?_; clear hta; rintro e w1 ⟨ta, aoff, tc, rfl, hb1, hal, HTa⟩; have htb1 := htb w1 hb1) | (go_at_call 49; refine htb1.mono ?_; clear htb1; rintro e w2 ⟨tb, boff, uc, rfl, hb2, hbl2, HTb⟩))
  have hb12 := hb1.trans (hb2.mono hb1.size)
  clear htb
  go_loopw [15] (fun i wr => ∃ q : Nat, q ≤ n ∧ i = .int .i64 (q : Int) ∧ Hid (ALL q) ∧ Hid (Below w2.heap.size w2 wr)) (fun i _ => n - (intOf i).toNat)
  case atStart => exact ⟨0, Nat.zero_le _, rfl, (HALL.out 0).2 fun p hp => absurd hp (Nat.not_lt_zero _), Below.refl _ _⟩
  case round =>
    obtain ⟨q, hq, rfl, HAll, HBel⟩ := hrel
    have hbel := HBel.out
    have hbw := hb12.trans (hbel.mono hb12.size)
    by_cases hlt : q < n
    · obtain ⟨c0, c1⟩ := (HA.out.below hbw hbl) q (by rw [← HN.out]; exact hlt)
      obtain ⟨hp1, hp2⟩ := HPt.out q hlt
      have hsc := HSe.out wr q hbw hlt
      have hca : ∀ j, j < n → wr.cell? ⟨ta, aoff + j, none⟩ = some (.bool (tn j)) := fun j hj => (hbel.cell (p := ⟨ta, aoff + j, none⟩) (Nat.lt_of_lt_of_le hal hb2.size)).trans ((hb2.cell (p := ⟨ta, aoff + j, none⟩) hal).trans (HTa.out j hj))
      have hcb : ∀ j, j < n → wr.cell? ⟨tb, boff + j, none⟩ = some (.bool (tx j)) := fun j hj => (hbel.cell (p := ⟨tb, boff + j, none⟩) hbl2).trans (HTb.out j hj)
      have t0 := hca q hlt
      have s0 := hcb q hlt
      have HNl0 : Hid (lookB (l.getD q (0, 0)).1 = false → ∀ p, p < q + 1 → lookB (l.getD p (0, 0)).1 = true → tn p = comeB (l.getD p (0, 0)).1 (tn (p + 1)) (tn (sec l p)) (tx p) (tx (p + 1))) := fun h p hp hk => by
        by_cases hpq : p < q
        · exact (HALL.out q).1 HAll.out p hpq hk
        · obtain rfl : p = q := by omega
          rw [h] at hk; cases hk
      have HNx0 : Hid (tn q = comeB (l.getD q (0, 0)).1 (tn (q + 1)) (tn (sec l q)) (tx q) (tx (q + 1)) → ∀ p, p < q + 1 → lookB (l.getD p (0, 0)).1 = true → tn p = comeB (l.getD p (0, 0)).1 (tn (p + 1)) (tn (sec l p)) (tx p) (tx (p + 1))) := fun h p hp hk => by
        by_cases hpq : p < q
        · exact (HALL.out q).1 HAll.out p hpq hk
        · obtain rfl : p = q := by omega
          exact h
      have HBd0 : Hid (lookB (l.getD q (0, 0)).1 = true → ¬ tn q = comeB (l.getD q (0, 0)).1 (tn (q + 1)) (tn (sec l q)) (tx q) (tx (q + 1)) → fr = false) := fun hk h => HNot.out fun hf => h (HFol.out.1 hf q hlt hk)
      generalize l.getD q (0, 0) = xy at c0 c1 hp1 hp2 hsc HBd0 HNl0 HNx0
      obtain ⟨kx, vx⟩ := xy
      simp only at c0 c1 hp1 hp2 hsc
      have HBd1 : Hid (lookB kx = true → ¬ tn q = comeB kx (tn (q + 1)) (tn (sec l q)) (tx q) (tx (q + 1)) → fr = false) := HBd0.out
      clear HBd0
      have HNl : Hid (lookB kx = false → ALL (q + 1)) := fun h => (HALL.out _).2 (HNl0.out h)
      have HNx : Hid (tn q = comeB kx (tn (q + 1)) (tn (sec l q)) (tx q) (tx (q + 1)) → ALL (q + 1)) := fun h => (HALL.out _).2 (HNx0.out h)
      clear HNl0 HNx0
      have hlk := fun w => rlook_any kx w
      cases hb : lookB kx with
      | false =>
        have HNl2 : Hid (ALL (q + 1)) := HNl.out hb
        rw [hb] at hlk
        clear hb HNl HNx HBd1 hsc hp1 hp2 hca hcb t0 s0 HPt HSe HA HFol HYes HNot HAll
        go_wp2_with (go_at_call 50; refine (hlk _).mono ?_; rintro e w3 ⟨rfl, hw3⟩; obtain rfl := hw3.symm)
        exact ⟨⟨q + 1, hlt, by first | rfl | simp, HNl2, hbel⟩, by simp [intOf]; omega⟩
      | true =>
        have HBd : Hid (¬ tn q = comeB kx (tn (q + 1)) (tn (sec l q)) (tx q) (tx (q + 1)) → fr = false) := HBd1.out hb
        rw [hb] at hlk
        have hkk : 14 ≤ kx ∧ kx ≤ 18 := by simpa [lookB] using hb
        have hpn : 1 ≤ pn kx := by
          unfold pn
          split
          · omega
          · split
            · omega
            · omega
        have hq1 := hp1 hpn
        have t1 := hca (q + 1) hq1
        have s1 := hcb (q + 1) hq1
        have hcase : kx = 14 ∨ kx = 15 ∨ kx = 16 ∨ kx = 17 ∨ kx = 18 := by omega
        clear hb HNl HBd1 hkk hpn hp1 HPt HSe HA HFol HYes HNot HAll
        rcases hcase with rfl | rfl | rfl | rfl | rfl
        · rw [show comeB 14 (tn (q + 1)) (tn (sec l q)) (tx q) (tx (q + 1)) = (tx (q + 1)) by simp [comeB]] at HNx HBd
          generalize tn q = a at *
          generalize tn (q + 1) = x at *
          generalize tx q = z at *
          generalize tx (q + 1) = nx at *
          clear hca hcb hsc hp2
          cases a <;> cases nx
          all_goals
            go_wp2_with ((go_at_call 50; refine (hlk _).mono ?_; rintro e w3 ⟨rfl, hw3⟩; obtain rfl := hw3.symm))
            first | (exact ⟨⟨q + 1, hlt, by first | rfl | simp, HNx.out (by simp), hbel⟩, by simp [intOf]; omega⟩) | (go_ret2; rw [HBd.out (by simp)]; exact ⟨rfl, hbw⟩)
        · obtain ⟨hs1, hs2⟩ := hp2 (by decide)
          have t2 := hca (sec l q) hs2
          have hsq := hsc (by decide)
          generalize hsn : sec l q = sn at *
          rw [show comeB 15 (tn (q + 1)) (tn sn) (tx q) (tx (q + 1)) = (tn sn || (tn (q + 1) && tx q)) by simp [comeB]] at HNx HBd
          generalize tn sn = y at *
          generalize tn q = a at *
          generalize tn (q + 1) = x at *
          generalize tx q = z at *
          generalize tx (q + 1) = nx at *
          clear hca hcb hsc hp2 hsn
          cases a <;> cases y <;> cases x <;> cases z
          all_goals
            go_wp2_with (first | (go_at_call 50; refine (hlk _).mono ?_; rintro e w3 ⟨rfl, hw3⟩; obtain rfl := hw3.symm) | (go_at_call 51; refine hsq.mono ?_; rintro e w3 ⟨rfl, hw3⟩; obtain rfl := hw3.symm))
            first | (exact ⟨⟨q + 1, hlt, by first | rfl | simp, HNx.out (by simp), hbel⟩, by simp [intOf]; omega⟩) | (go_ret2; rw [HBd.out (by simp)]; exact ⟨rfl, hbw⟩)
        · obtain ⟨hs1, hs2⟩ := hp2 (by decide)
          have t2 := hca (sec l q) hs2
          have hsq := hsc (by decide)
          generalize hsn : sec l q = sn at *
          rw [show comeB 16 (tn (q + 1)) (tn sn) (tx q) (tx (q + 1)) = (tn sn && (tn (q + 1) || tx q)) by simp [comeB]] at HNx HBd
          generalize tn sn = y at *
          generalize tn q = a at *
          generalize tn (q + 1) = x at *
          generalize tx q = z at *
          generalize tx (q + 1) = nx at *
          clear hca hcb hsc hp2 hsn
          cases a <;> cases y <;> cases x <;> cases z
          all_goals
            go_wp2_with (first | (go_at_call 50; refine (hlk _).mono ?_; rintro e w3 ⟨rfl, hw3⟩; obtain rfl := hw3.symm) | (go_at_call 51; refine hsq.mono ?_; rintro e w3 ⟨rfl, hw3⟩; obtain rfl := hw3.symm))
            first | (exact ⟨⟨q + 1, hlt, by first | rfl | simp, HNx.out (by simp), hbel⟩, by simp [intOf]; omega⟩) | (go_ret2; rw [HBd.out (by simp)]; exact ⟨rfl, hbw⟩)
        · rw [show comeB 17 (tn (q + 1)) (tn (sec l q)) (tx q) (tx (q + 1)) = (tn (q + 1) || tx q) by simp [comeB]] at HNx HBd
          generalize tn q = a at *
          generalize tn (q + 1) = x at *
          generalize tx q = z at *
          generalize tx (q + 1) = nx at *
          clear hca hcb hsc hp2
          cases a <;> cases x <;> cases z
          all_goals
            go_wp2_with ((go_at_call 50; refine (hlk _).mono ?_; rintro e w3 ⟨rfl, hw3⟩; obtain rfl := hw3.symm))
            first | (exact ⟨⟨q + 1, hlt, by first | rfl | simp, HNx.out (by simp), hbel⟩, by simp [intOf]; omega⟩) | (go_ret2; rw [HBd.out (by simp)]; exact ⟨rfl, hbw⟩)
        · rw [show comeB 18 (tn (q + 1)) (tn (sec l q)) (tx q) (tx (q + 1)) = (tn (q + 1) && tx q) by simp [comeB]] at HNx HBd
          generalize tn q = a at *
          generalize tn (q + 1) = x at *
          generalize tx q = z at *
          generalize tx (q + 1) = nx at *
          clear hca hcb hsc hp2
          cases a <;> cases x <;> cases z
          all_goals
            go_wp2_with ((go_at_call 50; refine (hlk _).mono ?_; rintro e w3 ⟨rfl, hw3⟩; obtain rfl := hw3.symm))
            first | (exact ⟨⟨q + 1, hlt, by first | rfl | simp, HNx.out (by simp), hbel⟩, by simp [intOf]; omega⟩) | (go_ret2; rw [HBd.out (by simp)]; exact ⟨rfl, hbw⟩)
    · obtain rfl : q = n := by omega
      have HFr : Hid (fr = true) := HYes.out (HFol.out.2 fun p hp hk => (HALL.out q).1 HAll.out p hp hk)
      clear HAll HYes HNot HFol HSe HPt
      go_wp2_with fail
      go_ret2
      rw [HFr.out]
      exact ⟨rfl, hbw⟩

theorem tcode_len {l : List (Int × Int)} {letter : List Bool} {claim : Int} (h : tcode l letter claim = 0) : lcode letter.length l = 0 := by
  by_cases h2 : lcode letter.length l = 0
  · exact h2
  · rw [tcode_bad h2] at h; exact absurd h h2

set_option maxHeartbeats 1600000 in
set_option maxRecDepth 20000 in
/-- THE CONTRACT OF the document's FollowsOn. -/
theorem rfol_any (v nv xv : Value) (l : List (Int × Int)) (now next : List Bool) (claim later : Int) (w : World) (hV : OpsV w v l) (hL : BoolsV w nv now) (hX : BoolsV w xv next) :
    Calls Tryz.prog 25 #[v, nv, .int .i64 claim, xv, .int .i64 later] w fun e w' => e = .returned (.tuple #[.bool (folR l now claim next later), .int .i64 (fcode l now claim next later)]) ∧ Below w.heap.size w w' := by
  obtain ⟨oo, oc, rfl, ⟨hcap, hn0⟩, hvv⟩ := id hV
  obtain ⟨no, nc, rfl, _⟩ := id hL
  obtain ⟨xo, xc, rfl, _⟩ := id hX
  by_cases hlen : now.length = next.length
  · have hta := rtruths_any _ _ l now claim w hV hL
    by_cases hc1 : tcode l now claim = 0
    · by_cases hc2 : tcode l next later = 0
      · have hf : fcode l now claim next later = 0 := by unfold fcode; rw [if_neg (by simpa using hlen), if_neg (by simpa using hc1), hc2]
        obtain ⟨_, _, hz, _, _⟩ := lcode_zero (tcode_len hc1)
        obtain ⟨hne, _⟩ := ends_ne hz
        obtain ⟨b, off, rfl, hbl, hat⟩ := hvv (by rintro rfl; exact hne rfl)
        rw [hf]
        rw [← hlen] at hX ⊢
        exact rfol_main b off oc l no xo nc xc now.length now next claim later w hz hbl hat hcap hL hX hc1 hc2 _ (folR_yes hf) folR_no
      · have hf : fcode l now claim next later = tcode l next later := by unfold fcode; rw [if_neg (by simpa using hlen), if_neg (by simpa using hc1)]
        rw [folR_bad (by rw [hf]; exact hc2), hf]
        have htb := fun w1 (hb : Below w.heap.size w w1) => rtruths_any _ _ l next later w1 (hV.below hb) (hX.below hb)
        rw [hc1] at hta
        rw [← hlen] at htb ⊢
        generalize tcode l next later = x at *
        generalize truL l next later = tl at *
        generalize truL l now claim = tm at *
        generalize now.length = ln at *
        generalize l.length = n at *
        clear hV hL hX hvv hn0 hcap hf hlen hc1
        go_enter Tryz.func25, Tryz.ntmps25
        go_wp2_with (first | (go_at_call 49; refine hta.mono ?_; clear hta; rintro e w1 ⟨tv, rfl, hb1, ht1⟩; obtain ⟨to', tc, rfl, _⟩ := ht1; have htb1 := htb w1 hb1) | (go_at_call 49; refine htb1.mono ?_; clear htb1; rintro e w2 ⟨uv, rfl, hb2, ht2⟩; obtain ⟨uo', uc, rfl, _⟩ := ht2))
        go_ret2
        exact ⟨rfl, hb1.trans (hb2.mono hb1.size)⟩
    · have hf : fcode l now claim next later = tcode l now claim := by unfold fcode; rw [if_neg (by simpa using hlen), if_pos hc1]
      rw [folR_bad (by rw [hf]; exact hc1), hf]
      rw [← hlen]
      generalize tcode l now claim = x at *
      generalize truL l now claim = tm at *
      generalize now.length = ln at *
      generalize l.length = n at *
      clear hV hL hX hvv hn0 hcap hf hlen
      go_enter Tryz.func25, Tryz.ntmps25
      go_wp2_with (go_at_call 49; refine hta.mono ?_; clear hta; rintro e w1 ⟨tv, rfl, hb1, ht1⟩; obtain ⟨to', tc, rfl, _⟩ := ht1)
      go_ret2
      exact ⟨rfl, hb1⟩
  · have hf : fcode l now claim next later = 1 := by unfold fcode; rw [if_pos hlen]
    rw [folR_bad (by rw [hf]; decide), hf]
    generalize l.length = n at *
    have hne : ¬ (now.length : Int) = next.length := by omega
    generalize now.length = ln at *
    generalize next.length = xn at *
    clear hV hL hX hvv hn0 hcap hf hlen
    go_enter Tryz.func25, Tryz.ntmps25
    go_wp2_with fail
    go_ret2
    exact ⟨rfl, Below.refl _ _⟩
end Go.Proofs.YtdlpmomohbdpgaaGreatDoor

/-
  The contract of the document's own NextOf.
-/
namespace Go.Proofs.YtdlpmomohbdpgaaGreatDoor
open Go.ChangeShapes Go.WideShapes Go.ChangeAt Go.RowKit Go.Deep
open Terms Tm

/-- of the first so many numbers those that a list has. -/
def pickTo (raw : List Int) (c : Nat) : List Int := ((List.range c).filter (fun j : Nat => decide ((j : Int) ∈ raw))).map (fun j : Nat => (j : Int))
theorem pickTo_yes {raw : List Int} {c : Nat} (h : (c : Int) ∈ raw) : pickTo raw (c + 1) = pickTo raw c ++ [(c : Int)] := by simp [pickTo, List.range_succ, List.filter_append, h]
theorem pickTo_no {raw : List Int} {c : Nat} (h : ¬ (c : Int) ∈ raw) : pickTo raw (c + 1) = pickTo raw c := by simp [pickTo, List.range_succ, List.filter_append, h]
theorem pickTo_rise (raw : List Int) (c : Nat) : Rise (pickTo raw c) := by
  induction c with
  | zero => simp [pickTo]
  | succ c ih =>
    by_cases h : (c : Int) ∈ raw
    · rw [pickTo_yes h]
      refine List.pairwise_append.2 ⟨ih, by simp, fun x hx y hy => ?_⟩
      simp [pickTo] at hx
      obtain ⟨j, hj, rfl⟩ := hx
      simp at hy
      omega
    · rw [pickTo_no h]; exact ih
theorem pickTo_mem {raw : List Int} {c : Nat} (h : ∀ x ∈ raw, 0 ≤ x ∧ x < c) (x : Int) : x ∈ pickTo raw c ↔ x ∈ raw := by
  simp only [pickTo, List.mem_map, List.mem_filter, List.mem_range, decide_eq_true_eq]
  constructor
  · rintro ⟨j, ⟨_, h2⟩, rfl⟩; exact h2
  · intro hx
    obtain ⟨h0, h1⟩ := h x hx
    exact ⟨x.toNat, ⟨by omega, by rw [Int.toNat_of_nonneg h0]; exact hx⟩, by omega⟩
theorem pickTo_length (raw : List Int) (c : Nat) : (pickTo raw c).length ≤ c := by
  unfold pickTo
  rw [List.length_map]
  exact Nat.le_trans (List.length_filter_le _ _) (by simp)
theorem upL_one (c : Int) : upL [c] = [c] := (upL_eq (l := [c]) (by simp) (fun _ => Iff.rfl)).symm

set_option maxHeartbeats 3200000 in
set_option maxRecDepth 20000 in
/-- THE CONTRACT OF NextOf. -/
theorem rnext_own (va vr : Value) (m : Mo) (code : Int) (w : World) (hV : ModelV w va vr m) :
    Calls Tryz.prog 24 #[.agg #[va, vr], .int .i64 code] w fun e w' => ∃ v, e = .returned (.tuple #[v, .int .i64 (wcode m code)]) ∧ Below w.heap.size w w' ∧ w'.ownsRow w.heap.size 3 1 v (nxtL m code).length (ivals (nxtL m code)) := by
  have hA : ∀ o, Below w.heap.size w (w.alloc o) := fun o => (Below.refl _ _).alloc (Nat.le_refl _) o
  have hcn := fun o => rcount_any va vr m (w.alloc o) (hV.below (hA o))
  by_cases hm : mcode m = 0
  · rw [hm, if_pos rfl] at hcn
    have hok := mcode_vars hm
    have hN := hok.prod (j := m.vars.length) (Nat.le_refl _)
    by_cases hc : 0 ≤ code ∧ code < prodTo m.vars m.vars.length
    · have hw : wcode m code = 0 := wcode_yes hm hc
      obtain ⟨hr12, _⟩ := mcode_rules hm
      have HAf : Hid (∀ w' (_ : Below w.heap.size w w') k, k < m.rules.length → Calls Tryz.prog 48 #[.agg #[va, vr], .int .i64 code, .int .i64 k] w' fun e w2 => e = .returned (.tuple #[.int .i64 (optN (ruleDo m.vars (valsL m.vars code) (m.rules.getD k ru0))), .int .i64 (optC (ruleDo m.vars (valsL m.vars code) (m.rules.getD k ru0)))]) ∧ Below w'.heap.size w' w2) := fun w' hb k hk => rafter_in va vr m code k w' (hV.below hb) hw hk
      have HSt : Hid (∀ k x, ruleDo m.vars (valsL m.vars code) (m.rules.getD k ru0) = some x → 0 ≤ x ∧ x < prodTo m.vars m.vars.length) := fun k x h => ruleDo_state hok h
      have HNL : Hid (nxtL m code = upL (if rawTo m.vars (valsL m.vars code) m.rules m.rules.length = [] then [code] else rawTo m.vars (valsL m.vars code) m.rules m.rules.length)) := by show _ = _; unfold nxtL nextL rawL; rw [if_pos hw]
      have HRM : Hid (∀ x ∈ rawTo m.vars (valsL m.vars code) m.rules m.rules.length, 0 ≤ x ∧ x < prodTo m.vars m.vars.length) := fun x hx => by
        obtain ⟨j, _, e⟩ := (rawTo_mem (Nat.le_refl _) x).1 hx
        exact ruleDo_state hok e
      rw [hw]
      generalize nxtL m code = res at *
      generalize valsL m.vars code = env at *
      obtain ⟨pn, hpn⟩ : ∃ pn : Nat, prodTo m.vars m.vars.length = pn := ⟨(prodTo m.vars m.vars.length).toNat, by omega⟩
      rw [hpn] at hcn hN hc HSt HRM
      have hii := fun w => in_any code 0 ((pn : Int) - 1) w
      rw [decide_eq_true (show 0 ≤ code ∧ code ≤ (pn : Int) - 1 by omega)] at hii
      obtain ⟨ao, cap, rfl⟩ := hV.1.shape
      obtain ⟨ro, rc, rfl⟩ := hV.2.shape
      obtain ⟨rn, hrn⟩ : ∃ rn, rn = m.rules.length := ⟨_, rfl⟩
      have HRN : Hid (rn = m.rules.length) := hrn
      rw [← hrn] at hcn HAf HNL HRM hr12 ⊢
      have hmk := run_make_row' (P := Tryz.prog) 61 4 (.bool false) 1 Tryz.underlying61 infoBool rfl .i64 .i64 pn (by omega) (by omega)
      obtain ⟨i0, hi, hz0, hz1, hz2⟩ := info_parts infoInt
      obtain ⟨hN0, hN1⟩ := hN
      clear hV hw hm hok hrn hpn hc
      generalize m.vars.length = n at *
      go_enter Tryz.func24, Tryz.ntmps24
      go_wp2_with (first | (go_at_call 20; refine (hcn _).mono ?_; rintro e w1 ⟨rfl, hb1⟩; have hbw1 := (hA _).trans (hb1.mono (hA _).size); have k10 : w1.cell? ⟨w.heap.size, 0, none⟩ = some (.slice ao n cap) := (hb1.cell (p := ⟨w.heap.size, 0, none⟩) (by simp)).trans (by simp [go_sem]); have k11 : w1.cell? ⟨w.heap.size, 1, none⟩ = some (.slice ro rn rc) := (hb1.cell (p := ⟨w.heap.size, 1, none⟩) (by simp)).trans (by simp [go_sem]); have hs1 : w.heap.size < w1.heap.size := (by have := hb1.size; simp at this; omega)) | (go_at_call 22; refine (hii _).mono ?_; rintro e w9 ⟨rfl, rfl⟩))
      have hrow0 := World.rowIs_made w9 (.bool false) pn 4
      have HB1 : Hid (Below w.heap.size w w9) := hbw1
      have HK1 : Hid (∀ w', Below w9.heap.size w9 w' → w'.cell? ⟨w.heap.size, 0, none⟩ = some (.slice ao n cap) ∧ w'.cell? ⟨w.heap.size, 1, none⟩ = some (.slice ro rn rc)) := fun w' hb => ⟨(hb.cell (p := ⟨w.heap.size, 0, none⟩) hs1).trans k10, (hb.cell (p := ⟨w.heap.size, 1, none⟩) hs1).trans k11⟩
      clear hcn hii hmk hb1 hbw1 k10 k11
      go_loopw [9, 10] (fun sm i wr => ∃ k : Nat, k ≤ rn ∧ i = .int .i64 k ∧ sm = .bool (decide (rawTo m.vars env m.rules k ≠ [])) ∧ Hid (wr.rowIs w9.heap.size 4 pn (fun j => .bool (decide ((j : Int) ∈ rawTo m.vars env m.rules k)))) ∧ Hid (Below w9.heap.size w9 wr)) (fun _ i _ => rn - (intOf i).toNat)
      case atStart => exact ⟨0, Nat.zero_le _, rfl, by simp [rawTo], hrow0.congr (fun i hi => by simp [rawTo]), (Below.refl _ _).alloc (Nat.le_refl _) _⟩
      case round =>
        obtain ⟨k, hk, rfl, rfl, HRow, HBel⟩ := hrel
        have hbel := HBel.out
        have hbw := HB1.out.trans (hbel.mono HB1.out.size)
        obtain ⟨kr0, kr1⟩ := HK1.out wr hbel
        by_cases hlt : k < rn
        · have haf := HAf.out wr hbw k hlt
          have hk' : k < m.rules.length := by rw [← HRN.out]; exact hlt
          have HW4 : Hid (∀ w4, Below wr.heap.size wr w4 → Below w9.heap.size w9 w4 ∧ w4.rowIs w9.heap.size 4 pn (fun j => .bool (decide ((j : Int) ∈ rawTo m.vars env m.rules k)))) := fun w4 hb => ⟨hbel.trans (hb.mono hbel.size), row_later HRow.out hb⟩
          cases hres : ruleDo m.vars env (m.rules.getD k ru0) with
          | none =>
            rw [hres] at haf
            simp only [optN, optC] at haf
            have HN : Hid (rawTo m.vars env m.rules (k + 1) = rawTo m.vars env m.rules k) := rawTo_none hk' hres
            clear HAf hres hk' hbel hbw HSt
            go_wp2_with (go_at_call 48; refine haf.mono ?_; rintro e w4 ⟨rfl, hb4⟩; obtain ⟨hb94, hr4⟩ := HW4.out w4 hb4)
            exact ⟨⟨k + 1, hlt, by first | rfl | simp, by rw [HN.out]; simp, by rw [HN.out]; exact hr4, hb94⟩, by simp [intOf]; omega⟩
          | some x =>
            rw [hres] at haf
            simp only [optN, optC] at haf
            have HN : Hid (rawTo m.vars env m.rules (k + 1) = rawTo m.vars env m.rules k ++ [x]) := rawTo_some hk' hres
            obtain ⟨hx0, hx1⟩ := HSt.out k x hres
            obtain ⟨xn, rfl⟩ : ∃ xn : Nat, x = xn := ⟨x.toNat, by omega⟩
            have hxn : xn < pn := by omega
            clear HAf hres hk' hbel hbw HSt
            go_wp2_with (go_at_call 48; refine haf.mono ?_; rintro e w4 ⟨rfl, hb4⟩; obtain ⟨hb94, hr4⟩ := HW4.out w4 hb4; have hf := hr4.frozen xn; have hc := hr4.cell hxn; have HR4 : Hid (w4.rowIs w9.heap.size 4 pn (fun j => .bool (decide ((j : Int) ∈ rawTo m.vars env m.rules k)))) := hr4; clear hr4)
            refine ⟨⟨k + 1, hlt, by first | rfl | simp, by rw [HN.out]; simp, (HR4.out.set xn (.bool true)).congr fun i hi => ?_, hb94.setCell (Nat.le_refl _) _⟩, by simp [intOf]; omega⟩
            rw [HN.out]
            by_cases hix : i = xn
            · subst hix; simp
            · rw [if_neg hix]
              simp [show ¬ (i : Int) = (xn : Int) by omega]
        · have hkn : k = rn := by omega
          subst hkn
          generalize rawTo m.vars env m.rules k = raw at *
          clear HAf HSt kr0 kr1 hlt hk
          by_cases hraw : raw = []
          · have HRes : Hid (res = [code]) := by show _ = _; rw [HNL.out, if_pos hraw, upL_one]
            subst hraw
            obtain ⟨kr0, kr1⟩ := HK1.out wr hbel
            have HIl : Hid ((wr.alloc (.cells #[.int .i64 code] 3)).ownsRow w.heap.size 3 1 (.slice (some ⟨wr.heap.size, 0, none⟩) 1 1) 1 (ivals [code])) := World.ownsRow_lit wr #[.int .i64 code] 1 hbw.size (by decide) rfl
            go_wp2_with fail
            go_ret2
            exact ⟨_, rfl, hbw.alloc hbw.size _, by rw [HRes.out]; exact HIl.out⟩
          · have HRes : Hid (res = pickTo raw pn) := by
              show _ = _
              rw [HNL.out, if_neg hraw]
              exact (upL_eq (pickTo_rise raw pn) (pickTo_mem HRM.out)).symm
            obtain ⟨kr0, kr1⟩ := HK1.out wr hbel
            have HRow2 : Hid (wr.rowIs w9.heap.size 4 pn (fun j => .bool (decide ((j : Int) ∈ raw)))) := HRow.out
            obtain ⟨wo, hwo⟩ : ∃ wo, wo = wr := ⟨_, rfl⟩
            subst hwo
            rw [decide_eq_true hraw]
            clear hraw HNL
            go_wp2_with fail
            go_loopw [13, 14] (fun out i wr => ∃ c : Nat, c ≤ pn ∧ i = .int .i64 c ∧ Hid (wr.ownsRow wo.heap.size 3 1 out (pickTo raw c).length (ivals (pickTo raw c))) ∧ Hid (Below wo.heap.size wo wr)) (fun _ i _ => pn - (intOf i).toNat)
            case atStart => exact ⟨0, Nat.zero_le _, rfl, World.ownsRow_nil _ _ _ _, Below.refl _ _⟩
            case round =>
              obtain ⟨c, hc, rfl, HOwn, HBc⟩ := hrel
              have hbc := HBc.out
              have hrc := row_later HRow2.out hbc
              have hown := HOwn.out
              have hnb := hown.lt
              obtain ⟨oo, oc, rfl⟩ := owns_slice hown
              by_cases hlc : c < pn
              · have hcc := hrc.cell hlc
                have HPl : Hid ((pickTo raw c).length ≤ c) := pickTo_length _ _
                clear hrc
                by_cases hin : (c : Int) ∈ raw
                · simp only [hin, decide_true] at hcc
                  have HN : Hid (pickTo raw (c + 1) = pickTo raw c ++ [(c : Int)]) := pickTo_yes hin
                  obtain ⟨L, hL⟩ : ∃ L, L = (pickTo raw c).length := ⟨_, rfl⟩
                  have HL : Hid (L = (pickTo raw c).length) := hL
                  rw [← hL] at hown hnb HPl ⊢
                  have h63 : L + 1 ≤ maxLen := by have := HPl.out; unfold maxLen; omega
                  have hkb : (L + 1) * 8 ≤ 140737488355328 := by have := HPl.out; omega
                  have hown4 := fun o => hown.alloc o
                  have hbase : ∀ o, wo.heap.size ≤ (wr.alloc o).heap.size := fun o => by have := hbc.size; simp; omega
                  clear hL hin HOwn hown
                  go_wp2_with (at_builtin; refine wpList_append_own _ rfl (.tmp 62) (.tmp 64) 40 rfl wo.heap.size 3 i0 (.int .i64 0) 1 8 Tryz.underlying40 hi hz0 hz1 hz2 rfl (by decide) (.slice oo L oc) L _ rfl (hown4 _) ⟨wr.heap.size, 0, none⟩ 1 1 [.int .i64 c] rfl rfl (cell_one_new _ _ _) (by intro u hu; simp at hu; subst hu; rfl) h63 hkb (hbase _) ?_; intro v' w4 hown' hgrow _)
                  have hb4 : Below wo.heap.size wo w4 := (hbc.alloc hbc.size _).grown hgrow (hbase _) (fun z hz => (hnb z hz).1)
                  have ho4 : w4.ownsRow wo.heap.size 3 1 v' (pickTo raw (c + 1)).length (ivals (pickTo raw (c + 1))) := by
                    rw [HN.out, List.length_append, ← HL.out]
                    rw [show ivals (pickTo raw c ++ [(c : Int)]) = ivals (pickTo raw c) ++ [.int .i64 c] by simp [ivals]]
                    exact hown'
                  go_roundw
                  case rel => exact ⟨c + 1, hlc, by go_num, ho4, hb4⟩
                  case measure => simp [intOf]; omega
                · simp only [hin, decide_false] at hcc
                  have HN : Hid (pickTo raw (c + 1) = pickTo raw c) := pickTo_no hin
                  clear hin hown
                  go_wp2_with fail
                  exact ⟨⟨c + 1, hlc, by first | rfl | simp, by rw [HN.out]; exact HOwn.out, hbc⟩, by simp [intOf]; omega⟩
              · have hcn : c = pn := by omega
                subst hcn
                have hI : wr.ownsRow w.heap.size 3 1 (.slice oo (pickTo raw c).length oc) (pickTo raw c).length (ivals (pickTo raw c)) := owns_mono hown hbw.size
                have HI := (show Hid _ from hI)
                clear hI hown hrc HOwn
                go_wp2_with fail
                go_ret2
                exact ⟨_, rfl, hbw.trans (hbc.mono hbw.size), by rw [HRes.out]; exact HI.out⟩
    · have hw : wcode m code = 9 := wcode_no hm hc
      have hnl : nxtL m code = [] := by unfold nxtL; rw [if_neg (by rw [hw]; decide)]
      rw [hw, hnl]
      have hii := fun w => in_any code 0 (prodTo m.vars m.vars.length - 1) w
      rw [decide_eq_false (show ¬ (0 ≤ code ∧ code ≤ prodTo m.vars m.vars.length - 1) by omega)] at hii
      obtain ⟨ao, cap, rfl⟩ := hV.1.shape
      obtain ⟨ro, rc, rfl⟩ := hV.2.shape
      obtain ⟨hN0, hN1⟩ := hN
      generalize prodTo m.vars m.vars.length = N at *
      generalize m.vars.length = n at *
      generalize m.rules.length = rn at *
      clear hV hw hnl hm hok hc
      go_enter Tryz.func24, Tryz.ntmps24
      go_wp2_with (first | (go_at_call 20; refine (hcn _).mono ?_; rintro e w1 ⟨rfl, hb1⟩) | (go_at_call 22; refine (hii _).mono ?_; rintro e w9 ⟨rfl, rfl⟩))
      go_ret2
      exact ⟨_, rfl, (hA _).trans (hb1.mono (hA _).size), World.ownsRow_nil _ _ _ _⟩
  · have hw : wcode m code = mcode m := wcode_bad hm
    have hnl : nxtL m code = [] := by unfold nxtL; rw [if_neg (by rw [hw]; exact hm)]
    rw [hw, hnl]
    rw [if_neg hm] at hcn
    obtain ⟨ao, cap, rfl⟩ := hV.1.shape
    obtain ⟨ro, rc, rfl⟩ := hV.2.shape
    generalize mcode m = c at *
    generalize m.vars.length = n at *
    generalize m.rules.length = rn at *
    clear hV hw hnl
    go_enter Tryz.func24, Tryz.ntmps24
    go_wp2_with (go_at_call 20; refine (hcn _).mono ?_; rintro e w1 ⟨rfl, hb1⟩)
    go_ret2
    exact ⟨_, rfl, (hA _).trans (hb1.mono (hA _).size), World.ownsRow_nil _ _ _ _⟩
theorem rnext_any (va vr : Value) (m : Mo) (code : Int) (w : World) (hV : ModelV w va vr m) :
    Calls Tryz.prog 24 #[.agg #[va, vr], .int .i64 code] w fun e w' => ∃ v, e = .returned (.tuple #[v, .int .i64 (wcode m code)]) ∧ Below w.heap.size w w' ∧ IntsV w' v (nxtL m code) :=
  (rnext_own va vr m code w hV).mono fun _ _ ⟨v, h1, h2, h3⟩ => ⟨v, h1, h2, intsV_of_owns h3⟩
end Go.Proofs.YtdlpmomohbdpgaaGreatDoor

/-
  The document's own: the spots behind a spot.
-/
namespace Go.Proofs.YtdlpmomohbdpgaaGreatDoor
open Go.ChangeShapes Go.WideShapes Go.ChangeAt Go.RowKit Go.Deep Go.Maps
open Terms Tm

set_option maxHeartbeats 3200000 in
set_option maxRecDepth 20000 in
theorem behindOf_bad (va vr pv fv : Value) (m : Mo) (ps : List (List (Int × Int))) (l : List (Int × Int)) (code c : Int) (w : World) (hp1 : ps.length * 24 ≤ 140737488355328) (hV : TaskV w va vr pv fv m ps l) (hk : tkcode m ps l ≠ 0) :
    Calls Tryz.prog 7 #[.agg #[va, vr, pv, fv], .agg #[.int .i64 code, .int .i64 c]] w (BdPost w m ps l code c) := by
  unfold BdPost
  rw [bhL_bad (by rw [bhC_bad hk]; exact hk), bhC_bad hk]
  obtain ⟨ao, ac, rfl⟩ := hV.mo.1.shape
  obtain ⟨ro, rc, rfl⟩ := hV.mo.2.shape
  obtain ⟨po, pc, rfl⟩ := hV.ps.shape
  obtain ⟨fo, fc, rfl, _⟩ := id hV.fo
  have hA : ∀ o o', Below w.heap.size w ((w.alloc o).alloc o') := fun o o' => ((Below.refl _ _).alloc (Nat.le_refl _) o).alloc (by simp) o'
  have hsv := taskFault_any _ _ _ _ m ps l _ hp1 (hV.below (hA (.cells #[.slice ao m.vars.length ac, .slice ro m.rules.length rc, .slice po ps.length pc, .slice fo l.length fc] 29) (.cells #[.int .i64 code, .int .i64 c] 31)))
  generalize tkcode m ps l = tc at *
  generalize m.vars.length = vn at *
  generalize m.rules.length = rn at *
  generalize ps.length = pn at *
  generalize l.length = fn at *
  clear hV
  go_enter Tryz.func7, Tryz.ntmps7
  go_wp2_with (first | (go_at_call 19; refine hsv.mono ?_; rintro e w1 ⟨rfl, hb1⟩; have hbw := (hA _ _).trans (hb1.mono (hA _ _).size)))
  go_ret2
  exact ⟨none, 0, rfl, hbw, SpO.nil _ _⟩

set_option maxHeartbeats 3200000 in
set_option maxRecDepth 20000 in
theorem behindOf_no (va vr pv fv : Value) (m : Mo) (ps : List (List (Int × Int))) (l : List (Int × Int)) (code c : Int) (w : World) (hp1 : ps.length * 24 ≤ 140737488355328) (hV : TaskV w va vr pv fv m ps l) (hk : tkcode m ps l = 0) (hno : ¬ ((0 ≤ code ∧ code < prodTo m.vars m.vars.length) ∧ (0 ≤ c ∧ c < ((2 ^ (aheadL l).length : Nat) : Int)))) :
    Calls Tryz.prog 7 #[.agg #[va, vr, pv, fv], .agg #[.int .i64 code, .int .i64 c]] w (BdPost w m ps l code c) := by
  obtain ⟨hp0, hl0⟩ := tk_zero hk
  have h6 := (lcode_zero hl0).2.2.2.2
  have hm0 := (pcode_m hp0).1
  have hbc : bhC m ps l code c = 9 := by
    by_cases h2 : 0 ≤ c ∧ c < ((2 ^ (aheadL l).length : Nat) : Int)
    · rw [bhC_ok hk h2, wcode_no hm0 (fun h => hno ⟨h, h2⟩)]
    · exact bhC_no hk h2
  unfold BdPost
  rw [bhL_bad (by rw [hbc]; decide), hbc]
  obtain ⟨ao, ac, rfl⟩ := hV.mo.1.shape
  obtain ⟨ro, rc, rfl⟩ := hV.mo.2.shape
  obtain ⟨po, pc, rfl⟩ := hV.ps.shape
  obtain ⟨fo, fc, rfl, _⟩ := id hV.fo
  have hA : ∀ o o', Below w.heap.size w ((w.alloc o).alloc o') := fun o o' => ((Below.refl _ _).alloc (Nat.le_refl _) o).alloc (by simp) o'
  obtain ⟨W2, hW2⟩ : ∃ W2, W2 = (w.alloc (.cells #[.slice ao m.vars.length ac, .slice ro m.rules.length rc, .slice po ps.length pc, .slice fo l.length fc] 29)).alloc (.cells #[.int .i64 code, .int .i64 c] 31) := ⟨_, rfl⟩
  have hb2 : Below w.heap.size w W2 := by rw [hW2]; exact hA _ _
  have hsv : Calls Tryz.prog 19 #[.agg #[.slice ao m.vars.length ac, .slice ro m.rules.length rc, .slice po ps.length pc, .slice fo l.length fc]] W2 fun e w' => e = .returned (.int .i64 0) ∧ Below W2.heap.size W2 w' := by
    have := taskFault_any _ _ _ _ m ps l W2 hp1 (hV.below hb2)
    rw [hk] at this
    exact this
  have HCo : Hid (∀ w', Below w.heap.size w w' → Calls Tryz.prog 20 #[.agg #[.slice ao m.vars.length ac, .slice ro m.rules.length rc]] w' fun e w'' => e = .returned (.tuple #[.int .i64 (prodTo m.vars m.vars.length), .int .i64 0]) ∧ Below w'.heap.size w' w'') := fun w' h => by
    have := rcount_any _ _ m w' (hV.mo.below h)
    rw [if_pos hm0, hm0] at this
    exact this
  have HMa : Hid (∀ w', Below w.heap.size w w' → Calls Tryz.prog 21 #[.agg #[.slice ao m.vars.length ac, .slice ro m.rules.length rc, .slice po ps.length pc, .slice fo l.length fc]] w' fun e w'' => e = .returned (.int .i64 ((2 ^ (aheadL l).length : Nat) : Int)) ∧ Below w'.heap.size w' w'') := fun w' h => many_any _ _ _ _ m ps l w' (hV.below h) hk
  have HBx : Hid (∀ w', Below W2.heap.size W2 w' → (w'.cell? ⟨w.heap.size, 0, none⟩ = some (.slice ao m.vars.length ac) ∧ w'.cell? ⟨w.heap.size, 1, none⟩ = some (.slice ro m.rules.length rc) ∧ w'.cell? ⟨w.heap.size, 2, none⟩ = some (.slice po ps.length pc) ∧ w'.cell? ⟨w.heap.size, 3, none⟩ = some (.slice fo l.length fc)) ∧ w'.cell? ⟨w.heap.size + 1, 0, none⟩ = some (.int .i64 code) ∧ w'.cell? ⟨w.heap.size + 1, 1, none⟩ = some (.int .i64 c)) := fun w' h => by
    have hz : W2.heap.size = w.heap.size + 2 := by rw [hW2]; simp
    refine ⟨⟨?_, ?_, ?_, ?_⟩, ?_, ?_⟩
    · exact (h.cell (p := ⟨w.heap.size, 0, none⟩) (by show w.heap.size < _; omega)).trans (by rw [hW2]; simp [go_sem])
    · exact (h.cell (p := ⟨w.heap.size, 1, none⟩) (by show w.heap.size < _; omega)).trans (by rw [hW2]; simp [go_sem])
    · exact (h.cell (p := ⟨w.heap.size, 2, none⟩) (by show w.heap.size < _; omega)).trans (by rw [hW2]; simp [go_sem])
    · exact (h.cell (p := ⟨w.heap.size, 3, none⟩) (by show w.heap.size < _; omega)).trans (by rw [hW2]; simp [go_sem])
    · exact (h.cell (p := ⟨w.heap.size + 1, 0, none⟩) (by show w.heap.size + 1 < _; omega)).trans (by rw [hW2]; simp [go_sem])
    · exact (h.cell (p := ⟨w.heap.size + 1, 1, none⟩) (by show w.heap.size + 1 < _; omega)).trans (by rw [hW2]; simp [go_sem])
  obtain ⟨hP1, hP2⟩ := (mcode_vars hm0).prod (Nat.le_refl m.vars.length)
  have hN64 : 2 ^ (aheadL l).length ≤ 64 := Nat.pow_le_pow_right (show 0 < 2 by decide) h6
  have hin := in_any
  generalize prodTo m.vars m.vars.length = P at *
  generalize 2 ^ (aheadL l).length = N at *
  generalize m.vars.length = vn at *
  generalize m.rules.length = rn at *
  generalize ps.length = pn at *
  generalize l.length = fn at *
  clear hV hk hbc hp0 hl0 h6 hm0
  subst hW2
  go_enter Tryz.func7, Tryz.ntmps7
  by_cases hc1 : 0 ≤ code ∧ code < P
  · have hd1 : decide (0 ≤ code ∧ code ≤ P - 1) = true := decide_eq_true (by omega)
    have hd2 : decide (0 ≤ c ∧ c ≤ (N : Int) - 1) = false := decide_eq_false (by omega)
    go_wp2_with (first
      | (go_at_call 19; refine hsv.mono ?_; rintro e w1 ⟨rfl, hb1⟩; have hbw1 := hb2.trans (hb1.mono hb2.size); obtain ⟨⟨a0, a1, a2, a3⟩, a4, a5⟩ := HBx.out w1 hb1; have hco := HCo.out w1 hbw1)
      | (go_at_call 20; refine hco.mono ?_; rintro e w2 ⟨rfl, hb22⟩; have hbw2 := hbw1.trans (hb22.mono hbw1.size); have hbb2 := hb1.trans (hb22.mono hb1.size); obtain ⟨⟨d0, d1, d2, d3⟩, d4, d5⟩ := HBx.out w2 hbb2; have hma := HMa.out w2 hbw2)
      | (go_at_call 21; refine hma.mono ?_; rintro e w3 ⟨rfl, hb3⟩; have hbw3 := hbw2.trans (hb3.mono hbw2.size); have hbb3 := hbb2.trans (hb3.mono hbb2.size); obtain ⟨⟨e0, e1, e2, e3⟩, e4, e5⟩ := HBx.out w3 hbb3)
      | (go_at_call 22; refine (hin _ _ _ _).mono ?_; rintro e w4 ⟨rfl, rfl⟩; first | rw [hd1] | rw [hd2]))
    go_ret2
    exact ⟨none, 0, rfl, hbw3, SpO.nil _ _⟩
  · have hd1 : decide (0 ≤ code ∧ code ≤ P - 1) = false := decide_eq_false (by omega)
    go_wp2_with (first
      | (go_at_call 19; refine hsv.mono ?_; rintro e w1 ⟨rfl, hb1⟩; have hbw1 := hb2.trans (hb1.mono hb2.size); obtain ⟨⟨a0, a1, a2, a3⟩, a4, a5⟩ := HBx.out w1 hb1; have hco := HCo.out w1 hbw1)
      | (go_at_call 20; refine hco.mono ?_; rintro e w2 ⟨rfl, hb22⟩; have hbw2 := hbw1.trans (hb22.mono hbw1.size); have hbb2 := hb1.trans (hb22.mono hb1.size); obtain ⟨⟨d0, d1, d2, d3⟩, d4, d5⟩ := HBx.out w2 hbb2; have hma := HMa.out w2 hbw2)
      | (go_at_call 21; refine hma.mono ?_; rintro e w3 ⟨rfl, hb3⟩; have hbw3 := hbw2.trans (hb3.mono hbw2.size); have hbb3 := hbb2.trans (hb3.mono hbb2.size); obtain ⟨⟨e0, e1, e2, e3⟩, e4, e5⟩ := HBx.out w3 hbb3)
      | (go_at_call 22; refine (hin _ _ _ _).mono ?_; rintro e w4 ⟨rfl, rfl⟩; rw [hd1]))
    go_ret2
    exact ⟨none, 0, rfl, hbw3, SpO.nil _ _⟩

set_option maxHeartbeats 6400000 in
set_option maxRecDepth 20000 in
theorem behindOf_ok (va vr pv fv : Value) (m : Mo) (ps : List (List (Int × Int))) (l : List (Int × Int)) (code : Int) (c : Nat) (w : World) (hp1 : ps.length * 24 ≤ 140737488355328) (hV : TaskV w va vr pv fv m ps l) (hk : tkcode m ps l = 0) (hcr : 0 ≤ code ∧ code < prodTo m.vars m.vars.length) (hcN : c < 2 ^ (aheadL l).length) :
    Calls Tryz.prog 7 #[.agg #[va, vr, pv, fv], .agg #[.int .i64 code, .int .i64 (c : Int)]] w (BdPost w m ps l code (c : Int)) := by
  obtain ⟨hp0, hl0⟩ := tk_zero hk
  have h6 := (lcode_zero hl0).2.2.2.2
  have hm0 := (pcode_m hp0).1
  have hw0 := wcode_yes hm0 hcr
  have hbc : bhC m ps l code (c : Int) = 0 := by rw [bhC_ok hk ⟨by omega, by omega⟩, hw0]
  unfold BdPost
  rw [bhL_ok hbc, hbc]
  obtain ⟨ao, ac, rfl⟩ := hV.mo.1.shape
  obtain ⟨ro, rc, rfl⟩ := hV.mo.2.shape
  obtain ⟨po, pc, rfl⟩ := hV.ps.shape
  obtain ⟨fo, fc, rfl, _⟩ := id hV.fo
  have hA : ∀ o o', Below w.heap.size w ((w.alloc o).alloc o') := fun o o' => ((Below.refl _ _).alloc (Nat.le_refl _) o).alloc (by simp) o'
  obtain ⟨W2, hW2⟩ : ∃ W2, W2 = (w.alloc (.cells #[.slice ao m.vars.length ac, .slice ro m.rules.length rc, .slice po ps.length pc, .slice fo l.length fc] 29)).alloc (.cells #[.int .i64 code, .int .i64 (c : Int)] 31) := ⟨_, rfl⟩
  have hb2 : Below w.heap.size w W2 := by rw [hW2]; exact hA _ _
  have hsv : Calls Tryz.prog 19 #[.agg #[.slice ao m.vars.length ac, .slice ro m.rules.length rc, .slice po ps.length pc, .slice fo l.length fc]] W2 fun e w' => e = .returned (.int .i64 0) ∧ Below W2.heap.size W2 w' := by
    have := taskFault_any _ _ _ _ m ps l W2 hp1 (hV.below hb2)
    rw [hk] at this
    exact this
  have HCo : Hid (∀ w', Below w.heap.size w w' → Calls Tryz.prog 20 #[.agg #[.slice ao m.vars.length ac, .slice ro m.rules.length rc]] w' fun e w'' => e = .returned (.tuple #[.int .i64 (prodTo m.vars m.vars.length), .int .i64 0]) ∧ Below w'.heap.size w' w'') := fun w' h => by
    have := rcount_any _ _ m w' (hV.mo.below h)
    rw [if_pos hm0, hm0] at this
    exact this
  have HMa : Hid (∀ w', Below w.heap.size w w' → Calls Tryz.prog 21 #[.agg #[.slice ao m.vars.length ac, .slice ro m.rules.length rc, .slice po ps.length pc, .slice fo l.length fc]] w' fun e w'' => e = .returned (.int .i64 ((2 ^ (aheadL l).length : Nat) : Int)) ∧ Below w'.heap.size w' w'') := fun w' h => many_any _ _ _ _ m ps l w' (hV.below h) hk
  have HBx : Hid (∀ w', Below W2.heap.size W2 w' → (w'.cell? ⟨w.heap.size, 0, none⟩ = some (.slice ao m.vars.length ac) ∧ w'.cell? ⟨w.heap.size, 1, none⟩ = some (.slice ro m.rules.length rc) ∧ w'.cell? ⟨w.heap.size, 2, none⟩ = some (.slice po ps.length pc) ∧ w'.cell? ⟨w.heap.size, 3, none⟩ = some (.slice fo l.length fc)) ∧ w'.cell? ⟨w.heap.size + 1, 0, none⟩ = some (.int .i64 code) ∧ w'.cell? ⟨w.heap.size + 1, 1, none⟩ = some (.int .i64 (c : Int))) := fun w' h => by
    have hz : W2.heap.size = w.heap.size + 2 := by rw [hW2]; simp
    refine ⟨⟨?_, ?_, ?_, ?_⟩, ?_, ?_⟩
    · exact (h.cell (p := ⟨w.heap.size, 0, none⟩) (by show w.heap.size < _; omega)).trans (by rw [hW2]; simp [go_sem])
    · exact (h.cell (p := ⟨w.heap.size, 1, none⟩) (by show w.heap.size < _; omega)).trans (by rw [hW2]; simp [go_sem])
    · exact (h.cell (p := ⟨w.heap.size, 2, none⟩) (by show w.heap.size < _; omega)).trans (by rw [hW2]; simp [go_sem])
    · exact (h.cell (p := ⟨w.heap.size, 3, none⟩) (by show w.heap.size < _; omega)).trans (by rw [hW2]; simp [go_sem])
    · exact (h.cell (p := ⟨w.heap.size + 1, 0, none⟩) (by show w.heap.size + 1 < _; omega)).trans (by rw [hW2]; simp [go_sem])
    · exact (h.cell (p := ⟨w.heap.size + 1, 1, none⟩) (by show w.heap.size + 1 < _; omega)).trans (by rw [hW2]; simp [go_sem])
  obtain ⟨hP1, hP2⟩ := (mcode_vars hm0).prod (Nat.le_refl m.vars.length)
  have hN64 : 2 ^ (aheadL l).length ≤ 64 := Nat.pow_le_pow_right (show 0 < 2 by decide) h6
  have hin := in_any
  have HLe : Hid (∀ (c' : Int) (w' : World), 0 ≤ c' ∧ c' < prodTo m.vars m.vars.length → Below w.heap.size w w' → Calls Tryz.prog 23 #[.agg #[.slice ao m.vars.length ac, .slice ro m.rules.length rc], .slice po ps.length pc, .int .i64 c'] w' fun e w'' => ∃ lo lc, e = .returned (.tuple #[.slice lo ps.length lc, .int .i64 0]) ∧ Below w'.heap.size w' w'' ∧ Hid (BoolsV w'' (.slice lo ps.length lc) (letL m ps c') ∧ RowTy w'' (.slice lo ps.length lc) 4)) := fun c' w' hc' h => by
    refine (rletter_own _ _ _ m ps c' w' hp1 (hV.mo.below h) (hV.ps.below h)).mono fun e w'' ⟨v, h1, h2, h3, h4⟩ => ?_
    obtain ⟨t1, t2⟩ := tk_let hk hc'
    obtain ⟨lo, lc, rfl, hx⟩ := h3
    rw [t2] at h1 h4
    exact ⟨lo, lc, by rw [h1, t1], h2, ⟨lo, lc, by rw [t2], hx⟩, h4⟩
  have HNe : Hid (∀ w', Below w.heap.size w w' → Calls Tryz.prog 24 #[.agg #[.slice ao m.vars.length ac, .slice ro m.rules.length rc], .int .i64 code] w' fun e w'' => ∃ no nc, e = .returned (.tuple #[.slice no (nextL m code).length nc, .int .i64 0]) ∧ Below w'.heap.size w' w'' ∧ Hid (IntsV w'' (.slice no (nextL m code).length nc) (nextL m code))) := fun w' h => by
    refine (rnext_any _ _ m code w' (hV.mo.below h)).mono fun e w'' ⟨v, h1, h2, h3⟩ => ?_
    have e1 : nxtL m code = nextL m code := by unfold nxtL; rw [if_pos hw0]
    rw [e1] at h3
    obtain ⟨no, nc, rfl, hx⟩ := h3
    exact ⟨no, nc, by rw [h1, hw0], h2, ⟨no, nc, rfl, hx⟩⟩
  have HFo : Hid (∀ (c' : Int) (d : Nat) (w' : World) (lo lo2 : Option Addr) (lc lc2 : Nat), 0 ≤ c' ∧ c' < prodTo m.vars m.vars.length → d < 2 ^ (aheadL l).length → Below w.heap.size w w' → BoolsV w' (.slice lo ps.length lc) (letL m ps code) → BoolsV w' (.slice lo2 ps.length lc2) (letL m ps c') → Calls Tryz.prog 25 #[.slice fo l.length fc, .slice lo ps.length lc, .int .i64 (c : Int), .slice lo2 ps.length lc2, .int .i64 (d : Int)] w' fun e w'' => e = .returned (.tuple #[.bool (folR l (letL m ps code) (c : Int) (letL m ps c') (d : Int)), .int .i64 0]) ∧ Below w'.heap.size w' w'') := fun c' d w' lo lo2 lc lc2 hc' hd h hx hy => by
    have := rfol_any _ _ _ l (letL m ps code) (letL m ps c') (c : Int) (d : Int) w' (hV.fo.below h) hx hy
    have hf : fcode l (letL m ps code) (c : Int) (letL m ps c') (d : Int) = 0 := by
      unfold fcode
      rw [if_neg (by rw [(tk_let hk hcr).2, (tk_let hk hc').2]; simp), if_neg (by rw [(tk_tru hk hcr hcN).1]; simp)]
      exact (tk_tru hk hc' hd).1
    rw [hf] at this
    exact this
  have hnn := nextL_len hm0 hcr
  have HNx : Hid (∀ i, i < (nextL m code).length → 0 ≤ (nextL m code).getD i 0 ∧ (nextL m code).getD i 0 < prodTo m.vars m.vars.length) := fun i hi => nextL_st hm0 hcr (by rw [List.getD_eq_getElem?_getD, List.getElem?_eq_getElem hi]; exact List.getElem_mem hi)
  have HBt : Hid (∀ i, behTo m ps l code (c : Int) (i + 1) = behTo m ps l code (c : Int) i ++ foTo l (letL m ps code) (c : Int) (letL m ps ((nextL m code).getD i 0)) ((nextL m code).getD i 0) (2 ^ (aheadL l).length)) := fun _ => rfl
  have HB0 : Hid (behTo m ps l code (c : Int) 0 = []) := rfl
  have HGet : Hid (∀ (w' : World) (no : Option Addr) (nc : Nat), IntsV w' (.slice no (nextL m code).length nc) (nextL m code) → ∀ i, i < (nextL m code).length → ∃ b off, no = some ⟨b, off, none⟩ ∧ b < w'.heap.size ∧ w'.cell? ⟨b, off + i, none⟩ = some (.int .i64 ((nextL m code).getD i 0))) := fun w' no nc hx i hi => by
    obtain ⟨ao, cap, e2, h1⟩ := hx
    injection e2 with e2 _ _
    subst e2
    obtain ⟨b, off, rfl, hb, hat⟩ := h1 (by intro e; rw [e] at hi; simp at hi)
    exact ⟨b, off, rfl, hb, hat i hi⟩
  have hcrP : 0 ≤ code ∧ code < prodTo m.vars m.vars.length := hcr
  unfold behL
  generalize (nextL m code).length = nn at *
  generalize behTo m ps l code (c : Int) = bt at *
  generalize prodTo m.vars m.vars.length = P at *
  generalize 2 ^ (aheadL l).length = N at *
  generalize m.vars.length = vn at *
  generalize m.rules.length = rn at *
  generalize ps.length = pn at *
  generalize l.length = fn at *
  clear hV hk hbc hp0 hl0 h6 hm0 hw0
  subst hW2
  go_enter Tryz.func7, Tryz.ntmps7
  have hd1 : decide (0 ≤ code ∧ code ≤ P - 1) = true := decide_eq_true (by omega)
  have hd2 : decide (0 ≤ (c : Int) ∧ (c : Int) ≤ (N : Int) - 1) = true := decide_eq_true (by omega)
  go_wp2_with (first
    | (go_at_call 19; refine hsv.mono ?_; rintro e w1 ⟨rfl, hb1⟩; have hbw1 := hb2.trans (hb1.mono hb2.size); obtain ⟨⟨a0, a1, a2, a3⟩, a4, a5⟩ := HBx.out w1 hb1; have hco := HCo.out w1 hbw1)
    | (go_at_call 20; refine hco.mono ?_; rintro e w2 ⟨rfl, hb22⟩; have hbw2 := hbw1.trans (hb22.mono hbw1.size); have hbb2 := hb1.trans (hb22.mono hb1.size); obtain ⟨⟨d0, d1, d2, d3⟩, d4, d5⟩ := HBx.out w2 hbb2; have hma := HMa.out w2 hbw2)
    | (go_at_call 21; refine hma.mono ?_; rintro e w3 ⟨rfl, hb3⟩; have hbw3 := hbw2.trans (hb3.mono hbw2.size); have hbb3 := hbb2.trans (hb3.mono hbb2.size); obtain ⟨⟨e0, e1, e2, e3⟩, e4, e5⟩ := HBx.out w3 hbb3; have hle := HLe.out code w3 hcr hbw3)
    | (go_at_call 22; refine (hin _ _ _ _).mono ?_; rintro e w4 ⟨rfl, rfl⟩; first | rw [hd1] | rw [hd2])
    | (go_at_call 23; refine hle.mono ?_; rintro e w5 ⟨lo, lc, rfl, hb5, HLv⟩; have hbw5 := hbw3.trans (hb5.mono hbw3.size); have hbb5 := hbb3.trans (hb5.mono hbb3.size); obtain ⟨⟨f0, f1, f2, f3⟩, f4, f5⟩ := HBx.out w5 hbb5; have hne := HNe.out w5 hbw5)
    | (go_at_call 24; refine hne.mono ?_; rintro e w6 ⟨no, nc, rfl, hb6, HNv⟩; have hbw6 := hbw5.trans (hb6.mono hbw5.size); have hbb6 := hbb5.trans (hb6.mono hbb5.size)))
  have HX6 : Hid (∀ w', Below w6.heap.size w6 w' → BoolsV w' (.slice lo pn lc) (letL m ps code) ∧ IntsV w' (.slice no nn nc) (nextL m code) ∧ (w'.cell? ⟨w.heap.size, 0, none⟩ = some (.slice ao vn ac) ∧ w'.cell? ⟨w.heap.size, 1, none⟩ = some (.slice ro rn rc) ∧ w'.cell? ⟨w.heap.size, 2, none⟩ = some (.slice po pn pc) ∧ w'.cell? ⟨w.heap.size, 3, none⟩ = some (.slice fo fn fc)) ∧ w'.cell? ⟨w.heap.size + 1, 1, none⟩ = some (.int .i64 (c : Int))) := fun w' h => by
    obtain ⟨q1, _, q3⟩ := HBx.out w' (hbb6.trans (h.mono hbb6.size))
    exact ⟨(HLv.out.1.below hb6).below h, HNv.out.below h, q1, q3⟩
  clear a0 a1 a2 a3 a4 a5 d0 d1 d2 d3 d4 d5 e0 e1 e2 e3 e4 e5 f0 f1 f2 f3 f4 f5 hsv hco hma hle hne HCo HMa HNe HBx HLv HNv
  go_loopw [14, 15] (fun u i wr => ∃ k : Nat, k ≤ nn ∧ i = .int .i64 k ∧ (∃ qo qk qc, u = .slice qo qk qc ∧ qk ≤ k * 64 ∧ Hid ((bt k).length = qk ∧ SpO wr w6.heap.size (.slice qo qk qc) (bt k))) ∧ Below w6.heap.size w6 wr) (fun _ i _ => nn - (intOf i).toNat)
  case atStart => exact ⟨0, Nat.zero_le _, rfl, ⟨none, 0, 0, rfl, Nat.zero_le _, by rw [HB0.out]; rfl, by rw [HB0.out]; exact SpO.nil _ _⟩, Below.refl _ _⟩
  case round =>
    obtain ⟨k, hkn, rfl, ⟨qo, qk, qc, rfl, hqk, HSp⟩, hbr⟩ := hrel
    by_cases hlt : k < nn
    · obtain ⟨_, hiv, ⟨x0, x1, x2, x3⟩, x4⟩ := HX6.out wr hbr
      obtain ⟨nb, noff, rfl, hnb, hcell⟩ := HGet.out wr no nc hiv k hlt
      have hbwr := hbw6.trans (hbr.mono hbw6.size)
      have hinr := HNx.out k hlt
      have hle := HLe.out _ wr.drew hinr hbwr.drew
      have hki : (k : Int) < (nn : Int) := by omega
      have HBk := (show Hid _ from HBt.out k)
      have HGk : Hid (∀ w', Below w6.heap.size w6 w' → w'.cell? ⟨nb, noff + k, none⟩ = some (.int .i64 ((nextL m code).getD k 0))) := fun w' h => by
        obtain ⟨b', off', e1, _, e2⟩ := HGet.out w' _ nc (HX6.out w' h).2.1 k hlt
        injection e1 with e1
        injection e1 with e3 e4
        subst e3 e4
        exact e2
      have HFk : Hid (∀ (d : Nat) (w' : World) (lo2 : Option Addr) (lc2 : Nat), d < N → Below w6.heap.size w6 w' → BoolsV w' (.slice lo2 pn lc2) (letL m ps ((nextL m code).getD k 0)) → Calls Tryz.prog 25 #[.slice fo fn fc, .slice lo pn lc, .int .i64 (c : Int), .slice lo2 pn lc2, .int .i64 (d : Int)] w' fun e w'' => e = .returned (.tuple #[.bool (folR l (letL m ps code) (c : Int) (letL m ps ((nextL m code).getD k 0)) (d : Int)), .int .i64 0]) ∧ Below w'.heap.size w' w'') := fun d w' lo2 lc2 h1 h2 h3 => HFo.out _ d w' lo lo2 lc lc2 hinr h1 (hbw6.trans (h2.mono hbw6.size)) (HX6.out w' h2).1 h3
      have HF0 : Hid (foTo l (letL m ps code) (c : Int) (letL m ps ((nextL m code).getD k 0)) ((nextL m code).getD k 0) 0 = []) := rfl
      have HFS : Hid (∀ d : Nat, foTo l (letL m ps code) (c : Int) (letL m ps ((nextL m code).getD k 0)) ((nextL m code).getD k 0) (d + 1) = if folR l (letL m ps code) (c : Int) (letL m ps ((nextL m code).getD k 0)) (d : Int) = true then foTo l (letL m ps code) (c : Int) (letL m ps ((nextL m code).getD k 0)) ((nextL m code).getD k 0) d ++ [((nextL m code).getD k 0, (d : Int))] else foTo l (letL m ps code) (c : Int) (letL m ps ((nextL m code).getD k 0)) ((nextL m code).getD k 0) d) := fun _ => rfl
      generalize foTo l (letL m ps code) (c : Int) (letL m ps ((nextL m code).getD k 0)) ((nextL m code).getD k 0) = ft at *
      generalize hfr : (fun d : Nat => folR l (letL m ps code) (c : Int) (letL m ps ((nextL m code).getD k 0)) (d : Int)) = fr at *
      have HFr : Hid (∀ d : Nat, folR l (letL m ps code) (c : Int) (letL m ps ((nextL m code).getD k 0)) (d : Int) = fr d) := fun d => by rw [← hfr]
      clear hfr HNx HBt HB0 HFo HGet HLe hiv
      generalize letL m ps ((nextL m code).getD k 0) = lt2 at *
      generalize (nextL m code).getD k 0 = cd at *
      have HSl : Hid ((bt k).length = qk) := HSp.out.1
      have HSpk : Hid (∀ w', Below wr.heap.size wr w' → SpO w' w6.heap.size (.slice qo qk qc) (bt k)) := fun w' h => HSp.out.2.later h (Nat.le_refl _)
      have HSB : Hid (∀ w', Below w6.heap.size w6 w' → w'.cell? ⟨w.heap.size, 0, none⟩ = some (.slice ao vn ac) ∧ w'.cell? ⟨w.heap.size, 1, none⟩ = some (.slice ro rn rc) ∧ w'.cell? ⟨w.heap.size, 2, none⟩ = some (.slice po pn pc) ∧ w'.cell? ⟨nb, noff + k, none⟩ = some (.int .i64 cd)) := fun w' h => by
        obtain ⟨_, _, ⟨p0, p1, p2, _⟩, _⟩ := HX6.out w' h
        exact ⟨p0, p1, p2, HGk.out w' h⟩
      clear HSp
      go_wp2_with fail
      go_region_held3 (fun w' => w'.cell? ⟨w.heap.size, 0, none⟩ = some (.slice ao vn ac) ∧ w'.cell? ⟨w.heap.size, 1, none⟩ = some (.slice ro rn rc) ∧ w'.cell? ⟨w.heap.size, 2, none⟩ = some (.slice po pn pc) ∧ w'.cell? ⟨nb, noff + k, none⟩ = some (.int .i64 cd))
        (first | exact HSB.out _ hbc7 | exact HSB.out _ hbr.drew | exact HSB.out _ hbr)
        (first
          | (go_at_call 23; refine hle.mono ?_; rintro e w7 ⟨lo2, lc2, rfl, hb7, HLv7⟩; have hb7w := hb7; have hbc7 := hbr.drew.trans (hb7.mono hbr.drew.size)))
      have hb7r : Below wr.heap.size wr w7 := ⟨hb7w.os, hb7w.tape, hb7w.output, hb7w.size, hb7w.block⟩
      clear hle hcell x0 x1 x2 x3 x4
      go_wp2_with fail
      go_loopw [14, 18] (fun u i wr2 => ∃ d : Nat, d ≤ N ∧ i = .int .i64 d ∧ (∃ qo2 qk2 qc2, u = .slice qo2 qk2 qc2 ∧ qk2 ≤ qk + d ∧ Hid ((bt k ++ ft d).length = qk2 ∧ SpO wr2 w6.heap.size (.slice qo2 qk2 qc2) (bt k ++ ft d))) ∧ Below w6.heap.size w6 wr2 ∧ Hid (BoolsV wr2 (.slice lo2 pn lc2) lt2 ∧ RowTy wr2 (.slice lo2 pn lc2) 4)) (fun _ i _ => N - (intOf i).toNat)
      case atStart => exact ⟨0, Nat.zero_le _, rfl, ⟨qo, qk, qc, rfl, Nat.le_refl _, by rw [HF0.out, List.append_nil]; exact HSl.out, by rw [HF0.out, List.append_nil]; exact HSpk.out _ hb7r⟩, hbc7, HLv7⟩
      case round =>
        obtain ⟨d, hdN, rfl, ⟨qo2, qk2, qc2, rfl, hqk2, HSp2⟩, hbr2, HL2⟩ := hrel
        by_cases hd : d < N
        · obtain ⟨_, _, ⟨y0, y1, y2, y3⟩, y4⟩ := HX6.out wr hbr2
          have hfo := HFk.out d wr lo2 lc2 hd hbr2 HL2.out.1
          rw [HFr.out] at hfo
          have HE := (show Hid _ from HFS.out d)
          rw [HFr.out] at HE
          have HSl2 : Hid ((bt k ++ ft d).length = qk2) := HSp2.out.1
          have HN2 : Hid (∀ w', Below wr.heap.size wr w' → SpO w' w6.heap.size (.slice qo2 qk2 qc2) (bt k ++ ft d) ∧ BoolsV w' (.slice lo2 pn lc2) lt2 ∧ RowTy w' (.slice lo2 pn lc2) 4) := fun w' h => ⟨HSp2.out.2.later h (Nat.le_refl _), HL2.out.1.below h, HL2.out.2.below h⟩
          clear HSp2 HL2
          cases hfd : fr d with
          | false =>
            rw [hfd] at hfo HE
            have HE2 : Hid (ft (d + 1) = ft d) := by have := HE.out; rw [if_neg (by simp)] at this; exact this
            clear HE hfd
            go_wp2_with (first | (go_at_call 25; refine hfo.mono ?_; rintro e w8 ⟨rfl, hb8⟩; have hbc8 := hbr2.trans (hb8.mono hbr2.size)))
            go_roundw
            case rel => exact ⟨d + 1, by omega, by go_num, ⟨qo2, qk2, qc2, rfl, by omega, by rw [HE2.out]; exact HSl2.out, by rw [HE2.out]; exact (HN2.out _ hb8).1⟩, hbc8, (HN2.out _ hb8).2⟩
            case measure => simp [intOf]; omega
          | true =>
            rw [hfd] at hfo HE
            have HE2 : Hid (ft (d + 1) = ft d ++ [(cd, (d : Int))]) := by have := HE.out; rw [if_pos rfl] at this; exact this
            clear HE hfd
            go_wp2_with (first | (go_at_call 25; refine hfo.mono ?_; rintro e w8 ⟨rfl, hb8⟩; have hbc8 := hbr2.trans (hb8.mono hbr2.size); have hg8 := HGk.out w8 hbc8; have hsp8 := (HN2.out _ hb8).1; have hsz8 := hbc8.size) | (at_builtin; refine push_sp cd (d : Int) rfl _ _ rfl w6.heap.size qk2 qc2 qo2 (bt k ++ ft d) HSl2.out rfl hsp8 rfl (by omega) hsz8 ?_; intro vo9 cap9 w9 ho9 hb9 hg9))
            have hown := hsp8.own (.cells #[.int .i64 cd, .int .i64 (d : Int)] 31)
            have HQ9 : Hid (SpO w9 w6.heap.size (.slice vo9 (qk2 + 1) cap9) (bt k ++ ft d ++ [(cd, (d : Int))]) ∧ Below w6.heap.size w6 w9 ∧ BoolsV w9 (.slice lo2 pn lc2) lt2 ∧ RowTy w9 (.slice lo2 pn lc2) 4) := by
              have ha : Below w8.heap.size w8 (w8.alloc (.cells #[.int .i64 cd, .int .i64 (d : Int)] 31)) := (Below.refl _ _).alloc (Nat.le_refl _) _
              obtain ⟨_, h1, h2⟩ := HN2.out _ hb8
              exact ⟨ho9, hbc8.trans hb9, (h1.below ha).grown (h2.below ha) hg9 (fun g e => (hown g e).2), (h2.below ha).grown hg9 (by decide) (fun g e => (hown g e).2)⟩
            clear hown ho9 hb9 hg9 hsp8
            go_wp2_with fail
            go_roundw
            case rel => exact ⟨d + 1, by omega, by go_num, ⟨vo9, qk2 + 1, cap9, rfl, by omega, by rw [HE2.out, ← List.append_assoc, List.length_append, HSl2.out]; rfl, by rw [HE2.out, ← List.append_assoc]; exact HQ9.out.1⟩, HQ9.out.2.1, HQ9.out.2.2⟩
            case measure => simp [intOf]; omega
        · obtain rfl : d = N := by omega
          have HSl2 : Hid ((bt (k + 1)).length = qk2 ∧ SpO wr w6.heap.size (.slice qo2 qk2 qc2) (bt (k + 1))) := by rw [HBk.out]; exact HSp2.out
          clear HSp2 HL2
          go_wp2_with fail
          go_roundw
          case rel => exact ⟨k + 1, by omega, by go_num, ⟨qo2, qk2, qc2, rfl, by omega, HSl2.out.1, HSl2.out.2⟩, hbr2⟩
          case measure => simp [intOf]; omega
    · obtain rfl : k = nn := by omega
      have HSl : Hid ((bt k).length = qk) := HSp.out.1
      have HSpp : Hid (SpO wr w6.heap.size (.slice qo qk qc) (bt k)) := HSp.out.2
      have hbF := hbw6.trans (hbr.mono hbw6.size)
      clear HSp
      go_wp2_with fail
      go_ret2
      exact ⟨qo, qc, by rw [HSl.out]; rfl, hbF, by rw [HSl.out]; exact owns_mono HSpp.out hbw6.size⟩
/-- THE CONTRACT OF BehindOf. -/
theorem behindOf_any (va vr pv fv : Value) (m : Mo) (ps : List (List (Int × Int))) (l : List (Int × Int)) (code c : Int) (w : World) (hp1 : ps.length * 24 ≤ 140737488355328) (hV : TaskV w va vr pv fv m ps l) :
    Calls Tryz.prog 7 #[.agg #[va, vr, pv, fv], .agg #[.int .i64 code, .int .i64 c]] w (BdPost w m ps l code c) := by
  by_cases hk : tkcode m ps l = 0
  · by_cases hc : (0 ≤ code ∧ code < prodTo m.vars m.vars.length) ∧ (0 ≤ c ∧ c < ((2 ^ (aheadL l).length : Nat) : Int))
    · obtain ⟨k, rfl⟩ : ∃ k : Nat, c = (k : Int) := ⟨c.toNat, by omega⟩
      exact behindOf_ok va vr pv fv m ps l code k w hp1 hV hk hc.1 (by omega)
    · exact behindOf_no va vr pv fv m ps l code c w hp1 hV hk hc
  · exact behindOf_bad va vr pv fv m ps l code c w hp1 hV hk
end Go.Proofs.YtdlpmomohbdpgaaGreatDoor

/-
  The walk of the law ProductBehinds.
-/
namespace Go.Proofs.YtdlpmomohbdpgaaGreatDoor
open Go.ChangeShapes Go.WideShapes Go.ChangeAt Go.RowKit Go.Deep Go.Joins
open Terms Tm

set_option maxRecDepth 20000 in
theorem cellsSpot : Tryz.prog.cellsOf 31 = 2 := by kernel_rfl
section
variable {H : Type} {enc : TypeId × Value → H} {W : World}
set_option maxRecDepth 20000 in
/-- A SPOT THAT CAME IN. -/
theorem open_spot {base : Nat} {v : Value} {d : DataW H} {p : List MemPlace} (hv : Value.okWide Tryz.prog W .any base 31 v) (h : DataW.Trod enc Tryz.prog W 0 (fun _ => true) true 31 v d p) :
    ∃ a b : Int, v = .agg #[.int .i64 a, .int .i64 b] ∧ (-9223372036854775808 ≤ a ∧ a ≤ 9223372036854775807) := by
  obtain ⟨cs, rfl, hs⟩ := okWide_struct Tryz.underlying31 hv
  have hs2 := hs.trans cellsSpot
  obtain ⟨c0, c1, rfl⟩ : ∃ c0 c1, cs = #[c0, c1] := by
    obtain ⟨ls⟩ := cs
    match ls, hs2 with
    | [a, b], _ => exact ⟨a, b, rfl⟩
  obtain ⟨fuel, hf⟩ := h
  obtain ⟨y0, y1, n, hx, _, h0, h1⟩ := trod_struct2 Tryz.underlying31 hf
  have g0 : DataW.trod enc Tryz.prog W 0 (fun _ => true) true n 3 [c0] = some y0 := by simpa [Value.cells, cellsI] using h0
  have g1 : DataW.trod enc Tryz.prog W 0 (fun _ => true) true n 3 [c1] = some y1 := by simpa [Value.cells, cellsI] using h1
  obtain ⟨x0, e0, _, w0⟩ := DataW.trod_int Tryz.underlying3 g0
  obtain ⟨x1, e1, _, _⟩ := DataW.trod_int Tryz.underlying3 g1
  simp at e0 e1
  subst e0 e1
  exact ⟨x0, x1, rfl, by simpa [Lit.wf, IntKind.min, IntKind.max, IntKind.signed, IntKind.bits] using w0⟩
end
theorem bhL_len (m : Mo) (ps : List (List (Int × Int))) (l : List (Int × Int)) (code c : Int) : (bhL m ps l code c).length ≤ 1048576 := by
  by_cases hc : bhC m ps l code c = 0
  · rw [bhL_ok hc]
    have hk : tkcode m ps l = 0 := by
      by_cases hk : tkcode m ps l = 0
      · exact hk
      · rw [bhC_bad hk] at hc; exact absurd hc hk
    obtain ⟨hp0, hl0⟩ := tk_zero hk
    have h6 := (lcode_zero hl0).2.2.2.2
    have hm0 := (pcode_m hp0).1
    have hcr : 0 ≤ code ∧ code < prodTo m.vars m.vars.length := by
      by_cases hcr : 0 ≤ code ∧ code < prodTo m.vars m.vars.length
      · exact hcr
      · by_cases h2 : 0 ≤ c ∧ c < ((2 ^ (aheadL l).length : Nat) : Int)
        · rw [bhC_ok hk h2, wcode_no hm0 hcr] at hc; exact absurd hc (by decide)
        · rw [bhC_no hk h2] at hc; exact absurd hc (by decide)
    have h1 := behTo_len (m := m) (ps := ps) (l := l) (Nat.pow_le_pow_right (show 0 < 2 by decide) h6) code c (nextL m code).length
    have h2 := nextL_len hm0 hcr
    unfold behL
    omega
  · rw [bhL_bad hc]; simp

set_option maxHeartbeats 1600000 in
set_option maxRecDepth 20000 in
theorem productBehinds_walk (va vr pv fv : Value) (m : Mo) (ps : List (List (Int × Int))) (l : List (Int × Int)) (code c : Int) (hI : -9223372036854775808 ≤ code ∧ code ≤ 9223372036854775807) (w : World) (hB : 0 < w.heap.size) (hT : TabAt w) (hZ : TkSz m ps l) (hV : TaskV w va vr pv fv m ps l) :
    Calls Tryz.prog 3 #[.agg #[va, vr, pv, fv], .agg #[.int .i64 code, .int .i64 c]] w fun e w' => e = .returned (.bool true) ∧ Below w.heap.size w w' := by
  obtain ⟨ao, ac, rfl⟩ := hV.mo.1.shape
  obtain ⟨ro, rc, rfl⟩ := hV.mo.2.shape
  obtain ⟨po, pc, rfl⟩ := hV.ps.shape
  obtain ⟨fo, fc, rfl, _⟩ := id hV.fo
  have HTk : Hid (∀ w1, Below w.heap.size w w1 → Calls Tryz.prog 6 #[.agg #[.slice ao m.vars.length ac, .slice ro m.rules.length rc, .slice po ps.length pc, .slice fo l.length fc]] w1 fun e w' => ∃ ao vn ac ro rn rc po pn pc fo fn fc, e = .returned (.agg #[.slice ao vn ac, .slice ro rn rc, .slice po pn pc, .slice fo fn fc]) ∧ Below w1.heap.size w1 w' ∧ Hid (TaskV w' (.slice ao vn ac) (.slice ro rn rc) (.slice po pn pc) (.slice fo fn fc) m ps l)) := fun w1 h => tasks_any _ _ _ _ m ps l w1 hZ (hV.below h)
  have HCk : Hid (∀ w1 va vr pv fv, Below w.heap.size w w1 → TaskV w1 va vr pv fv m ps l → Calls Tryz.prog 5 #[.agg #[va, vr, pv, fv], .agg #[.int .i64 code, .int .i64 c]] w1 (BdPost w1 m ps l code c)) := fun w1 va vr pv fv h hv => pbehind_any va vr pv fv m ps l code c hI w1 (Nat.lt_of_lt_of_le hB h.size) (hT.below h hB) hv
  have HRf : Hid (∀ w1, Below w.heap.size w w1 → Calls Tryz.prog 7 #[.agg #[.slice ao m.vars.length ac, .slice ro m.rules.length rc, .slice po ps.length pc, .slice fo l.length fc], .agg #[.int .i64 code, .int .i64 c]] w1 (BdPost w1 m ps l code c)) := fun w1 h => behindOf_any _ _ _ _ m ps l code c w1 hZ.p1 (hV.below h)
  have HSm : Hid (∀ (a b : Value) (w1 : World), SpV w1 a (bhL m ps l code c) → SpV w1 b (bhL m ps l code c) → Calls Tryz.prog 8 #[a, b] w1 fun e w' => e = .returned (.bool true) ∧ ∃ n, w' = w1.drewN n) := fun a b w1 h1 h2 => sameSpots_true a b _ w1 (bhL_len m ps l code c) h1 h2
  obtain ⟨W2, hW2⟩ : ∃ W2, W2 = (w.alloc (.cells #[.slice ao m.vars.length ac, .slice ro m.rules.length rc, .slice po ps.length pc, .slice fo l.length fc] 29)).alloc (.cells #[.int .i64 code, .int .i64 c] 31) := ⟨_, rfl⟩
  have hb2 : Below w.heap.size w W2 := by rw [hW2]; exact ((Below.refl _ _).alloc (Nat.le_refl _) _).alloc (by simp) _
  have HBx : Hid (∀ w', Below W2.heap.size W2 w' → w'.cell? ⟨w.heap.size, 0, none⟩ = some (.slice ao m.vars.length ac) ∧ w'.cell? ⟨w.heap.size, 1, none⟩ = some (.slice ro m.rules.length rc) ∧ w'.cell? ⟨w.heap.size, 2, none⟩ = some (.slice po ps.length pc) ∧ w'.cell? ⟨w.heap.size, 3, none⟩ = some (.slice fo l.length fc) ∧ w'.cell? ⟨w.heap.size + 1, 0, none⟩ = some (.int .i64 code) ∧ w'.cell? ⟨w.heap.size + 1, 1, none⟩ = some (.int .i64 c)) := fun w' h => by
    have hz : W2.heap.size = w.heap.size + 2 := by rw [hW2]; simp
    refine ⟨?_, ?_, ?_, ?_, ?_, ?_⟩
    · exact (h.cell (p := ⟨w.heap.size, 0, none⟩) (by show w.heap.size < _; omega)).trans (by rw [hW2]; simp [go_sem])
    · exact (h.cell (p := ⟨w.heap.size, 1, none⟩) (by show w.heap.size < _; omega)).trans (by rw [hW2]; simp [go_sem])
    · exact (h.cell (p := ⟨w.heap.size, 2, none⟩) (by show w.heap.size < _; omega)).trans (by rw [hW2]; simp [go_sem])
    · exact (h.cell (p := ⟨w.heap.size, 3, none⟩) (by show w.heap.size < _; omega)).trans (by rw [hW2]; simp [go_sem])
    · exact (h.cell (p := ⟨w.heap.size + 1, 0, none⟩) (by show w.heap.size + 1 < _; omega)).trans (by rw [hW2]; simp [go_sem])
    · exact (h.cell (p := ⟨w.heap.size + 1, 1, none⟩) (by show w.heap.size + 1 < _; omega)).trans (by rw [hW2]; simp [go_sem])
  unfold BdPost at HCk HRf
  generalize bhL m ps l code c = bg at *
  generalize bhC m ps l code c = x at *
  generalize bg.length = bn at *
  generalize m.vars.length = vn at *
  generalize m.rules.length = rn at *
  generalize ps.length = pn at *
  generalize l.length = fn at *
  clear hV hZ hT
  have htk := HTk.out _ hb2.drew
  go_enter Tryz.func3, Tryz.ntmps3
  go_wp2_with fail
  rw [← hW2]
  clear hW2
  have hB0 : Below W2.heap.size W2 W2 := Below.refl _ _
  go_region_held3 (fun w' => w'.cell? ⟨w.heap.size, 0, none⟩ = some (.slice ao vn ac) ∧ w'.cell? ⟨w.heap.size, 1, none⟩ = some (.slice ro rn rc) ∧ w'.cell? ⟨w.heap.size, 2, none⟩ = some (.slice po pn pc) ∧ w'.cell? ⟨w.heap.size, 3, none⟩ = some (.slice fo fn fc) ∧ w'.cell? ⟨w.heap.size + 1, 0, none⟩ = some (.int .i64 code) ∧ w'.cell? ⟨w.heap.size + 1, 1, none⟩ = some (.int .i64 c))
    (first | exact HBx.out _ hbb2 | exact HBx.out _ hbb1 | exact HBx.out _ hB0.drew | exact HBx.out _ hB0)
    (first
      | (go_at_call 6; refine htk.mono ?_; rintro e w1 ⟨a1, n1, c1, a2, n2, c2, a3, n3, c3, a4, n4, c4, rfl, hb1, HV1⟩; have hbb1 := hB0.drew.trans (hb1.mono hB0.drew.size); have hbw1 := hb2.trans (hbb1.mono hb2.size); have hck := HCk.out _ _ _ _ _ hbw1 HV1.out)
      | (go_at_call 5; refine hck.mono ?_; rintro e w2 ⟨so, sc, rfl, hb22, HO⟩; have hbb2 := hbb1.trans (hb22.mono hbb1.size); have hbw2 := hbw1.trans (hb22.mono hbw1.size)))
  obtain ⟨k0, k1, k2, k3, k4, k5⟩ := HBx.out _ hbb2
  have hrf := HRf.out w2 hbw2
  go_wp2_with (first
    | (go_at_call 7; refine hrf.mono ?_; rintro e w3 ⟨so', sc', rfl, hb3, HO'⟩; have hbw3 := hbw2.trans (hb3.mono hbw2.size); have hsm := HSm.out _ _ w3 (HO.out.v.below hb3) HO'.out.v)
    | (go_at_call 8; refine hsm.mono ?_; rintro e w4 ⟨rfl, q, rfl⟩))
  go_ret
  exact ⟨by first | rfl | simp, ⟨hbw3.os, hbw3.tape, hbw3.output, hbw3.size, hbw3.block⟩⟩
end Go.Proofs.YtdlpmomohbdpgaaGreatDoor
