/-
  Joined out of Bools, LogicParts, LogicBack, LogicTru, LogicRound, LogicTru2, LogicTr3, States, CodeRes, ValRes, Pairs, At, At2, At3, At4, Eval, Steps, ShelfClone, Eval2, MCount, MCode, StepRule, MValues, StepAfter, StepLetter, MFirst, PBegin, RefAhead, RefCount, RefCode, RefFirst, RefWorked, RefEval, RefValues, RefAfter, RefLetter, RefTruths, RefTruL, RefBegin, PbegWalk, in their order: a claim bears at most so many files.
-/
import Derived.Test.YtdlpmomohbdpgaaDoorMem
import Derived.Deep.OwnRows
import Derived.Test.YtdlpmomohbdpgaaDoorLogicT
import Derived.Test.YtdlpmomohbdpgaaDoorLogicRead
import Derived.RangeFuncNested
import Derived.RangeFuncBound
import Derived.RangeFuncCalls
import Derived.RangeFuncLeaves
import Derived.Shelf.Abstract
import Derived.Shelf.RegionOpen
import Derived.WalkKit
import Derived.OwnWalkIn
import Derived.TacticsInMore
import Derived.LoopNIn
import Derived.LoopIn
import Derived.Deep.RegionHeld3
import Derived.Test.YtdlpmomohbdpgaaDoorModels
import Derived.Test.YtdlpmomohbdpgaaDoorIntsOf
import Derived.Test.YtdlpmomohbdpgaaDoorTrees
import Derived.Maps.Own
import Derived.Deep.DrawnRows
import Derived.Deep.RegionHeld2
import Derived.Test.YtdlpmomohbdpgaaDoorExpr3
import Derived.Ground.Names2Prog
import Derived.Shelf.Slices.Clone
import Derived.Lib.OwnBridge
import Derived.Laws.OwnMore
import Derived.Test.YtdlpmomohbdpgaaDoorMCheck2
import Derived.Test.YtdlpmomohbdpgaaDoorMProps
import Derived.Test.YtdlpmomohbdpgaaDoorPSurv
import Derived.Test.YtdlpmomohbdpgaaDoorPSpots
import Derived.Test.YtdlpmomohbdpgaaDoorRefLook
import Derived.Test.YtdlpmomohbdpgaaDoorRefModel
import Derived.Test.YtdlpmomohbdpgaaDoorRefExpr2
import Derived.Deep.AppendLies
import Derived.Test.YtdlpmomohbdpgaaDoorTasksOf
/-
  Slices of truths; the contract of the laws' own sameTruths.
-/
namespace Go.Proofs.YtdlpmomohbdpgaaDoor
open Go.ChangeShapes Go.WideShapes Go.ChangeAt Go.RowKit Go.Deep
open Terms

theorem infoBool : (Tryd.prog.info? 4).map (fun i => (i.zero, i.size, i.bytes)) = some (some (.bool false), 1, 1) := by kernel_rfl
/-- a slice of truths. -/
def BoolsAt (w : World) (b off : Nat) (l : List Bool) : Prop := ∀ i, i < l.length → w.cell? ⟨b, off + i, none⟩ = some (.bool (l.getD i false))
def BoolsV (w : World) (v : Value) (l : List Bool) : Prop := ∃ ao cap, v = .slice ao l.length cap ∧ (l ≠ [] → ∃ b off, ao = some ⟨b, off, none⟩ ∧ b < w.heap.size ∧ BoolsAt w b off l)
theorem BoolsV.below {w w' : World} {v : Value} {l : List Bool} (h : BoolsV w v l) (hb : Below w.heap.size w w') : BoolsV w' v l := by
  obtain ⟨ao, cap, rfl, h⟩ := h
  refine ⟨ao, cap, rfl, fun hne => ?_⟩
  obtain ⟨b, off, rfl, hlt, hat⟩ := h hne
  exact ⟨b, off, rfl, Nat.lt_of_lt_of_le hlt hb.size, fun i hi => (hb.cell (p := ⟨b, _, none⟩) hlt).trans (hat i hi)⟩
def bvals (l : List Bool) : List Value := l.map fun x => .bool x
theorem boolsV_of_owns {w : World} {base : Nat} {v : Value} {l : List Bool} (h : w.ownsRow base 4 1 v l.length (bvals l)) : BoolsV w v l := by
  rcases h.2 with ⟨rfl, h0⟩ | ⟨g, cap, cur, rfl, hb, hg, hnc, hcm, hcs, htake⟩
  · have : l = [] := by simpa using h0
    subst this
    exact ⟨none, 0, rfl, fun h => absurd rfl h⟩
  · refine ⟨_, cap, rfl, fun _ => ⟨g, 0, rfl, (Array.getElem?_eq_some_iff.1 hg).1, fun i hi => ?_⟩⟩
    rw [Nat.zero_add, h.cellAt i (by omega)]
    simp [bvals, List.getD_eq_getElem?_getD, hi]
theorem boolsV_of_row {w : World} {B : Nat} {l : List Bool} (h : w.rowIs B 4 l.length (fun j => .bool (l.getD j false))) : BoolsV w (.slice (some ⟨B, 0, none⟩) l.length l.length) l :=
  ⟨some ⟨B, 0, none⟩, l.length, rfl, fun _ => ⟨B, 0, rfl, h.lt, fun i hi => by rw [Nat.zero_add, h.cell hi]⟩⟩

end Go.Proofs.YtdlpmomohbdpgaaDoor

/-
  The contracts of logic's parts (and its two functions) and makes.
-/
namespace Go.Proofs.YtdlpmomohbdpgaaDoor
open Go.ChangeShapes Go.WideShapes Go.ChangeAt Go.RowKit Go.Deep
open Terms

/-- what the functions that tell of the parts stand on: the box of holds, the row behind it, the boxes of the formula and of the place. -/
structure PartsAt (w : World) (bh bf bp bH n B pl : Nat) (h : Nat → Bool) (l : List (Int × Int)) : Prop where
  holds : w.cell? ⟨bh, 0, none⟩ = some (.slice (some ⟨bH, 0, none⟩) n n)
  row : ∀ j, j < n → w.cell? ⟨bH, j, none⟩ = some (.bool (h j))
  ends : w.cell? ⟨bf, 1, none⟩ = some (.slice (some ⟨B, 0, none⟩) n n)
  erow : ∀ j, j < n → w.cell? ⟨B, j, none⟩ = some (.int .i64 (endAt (l.map Prod.fst) j))
  place : w.cell? ⟨bp, 0, none⟩ = some (.int .i64 pl)

theorem first_any (bh bp bH n pl : Nat) (x : Bool) (w : World) (hn : n ≤ 60) (hp : pl + 1 < n) (c0 : w.cell? ⟨bh, 0, none⟩ = some (.slice (some ⟨bH, 0, none⟩) n n)) (c1 : w.cell? ⟨bp, 0, none⟩ = some (.int .i64 pl)) (c2 : w.cell? ⟨bH, pl + 1, none⟩ = some (.bool x)) :
    Calls Tryd.prog 79 #[.pointer (some ⟨bh, 0, none⟩), .pointer (some ⟨bp, 0, none⟩)] w fun e w' => e = .returned (.bool x) ∧ w' = w := by
  go_enter Tryd.func79, Tryd.ntmps79
  go_wp2_with fail
  go_ret
  exact ⟨rfl, rfl⟩

theorem second_any (bh bf bp bH n B pl s : Nat) (x : Bool) (w : World) (hn : n ≤ 60) (hp : pl + 1 < n) (hs : s < n) (c0 : w.cell? ⟨bh, 0, none⟩ = some (.slice (some ⟨bH, 0, none⟩) n n)) (c1 : w.cell? ⟨bp, 0, none⟩ = some (.int .i64 pl)) (c2 : w.cell? ⟨bf, 1, none⟩ = some (.slice (some ⟨B, 0, none⟩) n n)) (c3 : w.cell? ⟨B, pl + 1, none⟩ = some (.int .i64 s)) (c4 : w.cell? ⟨bH, s, none⟩ = some (.bool x)) :
    Calls Tryd.prog 80 #[.pointer (some ⟨bh, 0, none⟩), .pointer (some ⟨bf, 0, none⟩), .pointer (some ⟨bp, 0, none⟩)] w fun e w' => e = .returned (.bool x) ∧ ∃ q, w' = w.drewN q := by
  go_enter Tryd.func80, Tryd.ntmps80
  go_wp2_with fail
  go_quiet (fail)
  go_wp2_with fail
  go_ret
  exact ⟨rfl, _, rfl⟩

/-- the two functions that parts hands back. -/
def fst2 (bh bp : Nat) : Value := .func (.func 79) #[] #[.pointer (some ⟨bh, 0, none⟩), .pointer (some ⟨bp, 0, none⟩)]
def snd2 (bh bf bp : Nat) : Value := .func (.func 80) #[] #[.pointer (some ⟨bh, 0, none⟩), .pointer (some ⟨bf, 0, none⟩), .pointer (some ⟨bp, 0, none⟩)]

theorem parts_any (b off cap n B bH pl : Nat) (av : Value) (h : Nat → Bool) (l : List (Int × Int)) (aao : Option Addr) (an ac : Nat) (hav : av = .slice aao an ac) (w : World) (hr : ∀ j, j < n → w.cell? ⟨bH, j, none⟩ = some (.bool (h j))) (hbH : bH < w.heap.size) (he : ∀ j, j < n → w.cell? ⟨B, j, none⟩ = some (.int .i64 (endAt (l.map Prod.fst) j))) (hbB : B < w.heap.size) :
    Calls Tryd.prog 60 #[.agg #[.slice (some ⟨b, off, none⟩) n cap, .slice (some ⟨B, 0, none⟩) n n, av], .int .i64 pl, .slice (some ⟨bH, 0, none⟩) n n] w fun e w' =>
      e = .returned (.tuple #[.func (.func 79) #[] #[.pointer (some ⟨w.heap.size + 1 + 1, 0, none⟩), .pointer (some ⟨w.heap.size + 1, 0, none⟩)], .func (.func 80) #[] #[.pointer (some ⟨w.heap.size + 1 + 1, 0, none⟩), .pointer (some ⟨w.heap.size, 0, none⟩), .pointer (some ⟨w.heap.size + 1, 0, none⟩)]]) ∧ Below w.heap.size w w' ∧ Hid (PartsAt w' (w.heap.size + 1 + 1) w.heap.size (w.heap.size + 1) bH n B pl h l) := by
  subst hav
  have HR := (show Hid _ from hr)
  have HE := (show Hid _ from he)
  clear hr he
  go_enter Tryd.func60, Tryd.ntmps60
  go_wp2_with fail
  go_ret2
  have hb : Below w.heap.size w (((w.alloc (.cells #[.slice (some ⟨b, off, none⟩) n cap, .slice (some ⟨B, 0, none⟩) n n, .slice aao an ac] 77)).alloc (.cells #[.int .i64 pl] 3)).alloc (.cells #[.slice (some ⟨bH, 0, none⟩) n n] 47)) := (((Below.refl _ _).alloc (Nat.le_refl _) _).alloc (by simp) _).alloc (by simp; omega) _
  refine ⟨rfl, hb, ?_⟩
  show PartsAt _ _ _ _ _ _ _ _ _ _
  constructor
  · simp [go_sem]
  · exact fun j hj => (hb.cell (p := ⟨bH, j, none⟩) hbH).trans (HR.out j hj)
  · simp [go_sem]
  · exact fun j hj => (hb.cell (p := ⟨B, j, none⟩) hbB).trans (HE.out j hj)
  · simp [go_sem]
theorem PartsAt.below {w w' : World} {bh bf bp bH n B pl : Nat} {h : Nat → Bool} {l : List (Int × Int)} (p : PartsAt w bh bf bp bH n B pl h l) (hb : Below w.heap.size w w') (h1 : bh < w.heap.size) (h2 : bf < w.heap.size) (h3 : bp < w.heap.size) (h4 : bH < w.heap.size) (h5 : B < w.heap.size) : PartsAt w' bh bf bp bH n B pl h l :=
  ⟨(hb.cell (p := ⟨bh, 0, none⟩) h1).trans p.holds, fun j hj => (hb.cell (p := ⟨bH, j, none⟩) h4).trans (p.row j hj), (hb.cell (p := ⟨bf, 1, none⟩) h2).trans p.ends, fun j hj => (hb.cell (p := ⟨B, j, none⟩) h5).trans (p.erow j hj), (hb.cell (p := ⟨bp, 0, none⟩) h3).trans p.place⟩
theorem PartsAt.first {w : World} {bh bf bp bH n B pl : Nat} {h : Nat → Bool} {l : List (Int × Int)} (p : PartsAt w bh bf bp bH n B pl h l) (hn : n ≤ 60) (hp : pl + 1 < n) (q : Nat) :
    Calls Tryd.prog 79 #[.pointer (some ⟨bh, 0, none⟩), .pointer (some ⟨bp, 0, none⟩)] (w.drewN q) fun e w' => e = .returned (.bool (h (pl + 1))) ∧ w' = w.drewN q :=
  first_any bh bp bH n pl _ _ hn hp (by simpa using p.holds) (by simpa using p.place) (by simpa using p.row _ hp)
theorem PartsAt.second {w : World} {bh bf bp bH n B pl : Nat} {h : Nat → Bool} {l : List (Int × Int)} (p : PartsAt w bh bf bp bH n B pl h l) (hn : n ≤ 60) (hp : pl + 1 < n) (hs : sec l pl < n) (q : Nat) :
    Calls Tryd.prog 80 #[.pointer (some ⟨bh, 0, none⟩), .pointer (some ⟨bf, 0, none⟩), .pointer (some ⟨bp, 0, none⟩)] (w.drewN q) fun e w' => e = .returned (.bool (h (sec l pl))) ∧ ∃ r, w' = w.drewN r :=
  (second_any bh bf bp bH n B pl (sec l pl) _ _ hn hp hs (by simpa using p.holds) (by simpa using p.place) (by simpa using p.ends) (by have := p.erow _ hp; unfold sec; simpa using this) (by simpa using p.row _ hs)).mono fun e w' ⟨h1, r, h2⟩ => ⟨h1, q + r, by rw [h2, World.drewN_drewN]⟩

set_option maxHeartbeats 1600000 in
set_option maxRecDepth 20000 in
/-- THE CONTRACT OF makes. -/
theorem makes_any (k v : Int) (lo : Option Addr) (lc bh bf bp bH n B pl : Nat) (letter : List Bool) (h : Nat → Bool) (l : List (Int × Int)) (w : World) (hn : n ≤ 60)
    (hL : BoolsV w (.slice lo letter.length lc) letter) (hP : PartsAt w bh bf bp bH n B pl h l) (b1 : bh < w.heap.size) (b2 : bf < w.heap.size) (b3 : bp < w.heap.size) (b4 : bH < w.heap.size) (b5 : B < w.heap.size)
    (h13 : k = 13 → 0 ≤ v ∧ v < letter.length) (h1 : k = 10 ∨ k = 8 ∨ k = 9 → pl + 1 < n) (h2 : k = 8 ∨ k = 9 → sec l pl < n) :
    Calls Tryd.prog 61 #[.agg #[.int .i64 k, .int .i64 v], .slice lo letter.length lc, .func (.func 79) #[] #[.pointer (some ⟨bh, 0, none⟩), .pointer (some ⟨bp, 0, none⟩)], .func (.func 80) #[] #[.pointer (some ⟨bh, 0, none⟩), .pointer (some ⟨bf, 0, none⟩), .pointer (some ⟨bp, 0, none⟩)]] w fun e w' =>
      e = .returned (.bool (mkB (k, v) letter (h (pl + 1)) (h (sec l pl)))) ∧ Below w.heap.size w w' := by
  have hA : ∀ o, Below w.heap.size w (w.alloc o) := fun o => (Below.refl _ _).alloc (Nat.le_refl _) o
  have hP' := fun o => hP.below (hA o) b1 b2 b3 b4 b5
  by_cases e13 : k = 13
  · subst e13
    obtain ⟨hv0, hv1⟩ := h13 rfl
    obtain ⟨vn, rfl⟩ : ∃ vn : Nat, v = vn := ⟨v.toNat, by omega⟩
    obtain ⟨lo', lc', hls, hll⟩ := hL
    injection hls with e1 e2 e3
    subst e1
    obtain ⟨b, off, rfl, hbl, hat⟩ := hll (by intro h; rw [h] at hv1; simp at hv1; omega)
    have hc := fun o => ((hA o).cell (p := ⟨b, off + vn, none⟩) hbl).trans (hat vn (by omega))
    have hm : mkB (13, (vn : Int)) letter (h (pl + 1)) (h (sec l pl)) = letter.getD vn false := by simp [mkB]
    rw [hm]
    generalize letter.getD vn false = x at hc ⊢
    generalize letter.length = ln at *
    have hvl : vn < ln := by omega
    clear hm hll hat hv0 hv1 h1 h2 h13 hP hP'
    go_enter Tryd.func61, Tryd.ntmps61
    go_wp2_with fail
    go_ret
    exact ⟨rfl, hA _⟩
  · by_cases e11 : k = 11
    · subst e11
      have hm : mkB (11, v) letter (h (pl + 1)) (h (sec l pl)) = true := by simp [mkB]
      rw [hm]
      clear hm hL h1 h2 h13 hP hP' e13
      go_enter Tryd.func61, Tryd.ntmps61
      go_wp2_with fail
      go_ret
      exact ⟨rfl, hA _⟩
    · by_cases e10 : k = 10
      · subst e10
        have hp := h1 (.inl rfl)
        have hf := fun o => (hP' o).first hn hp 0
        have hm : mkB (10, v) letter (h (pl + 1)) (h (sec l pl)) = !h (pl + 1) := by simp [mkB]
        rw [hm]
        generalize h (pl + 1) = x at hf ⊢
        clear hm hL h1 h2 h13 hP hP' e13 e11
        go_enter Tryd.func61, Tryd.ntmps61
        go_wp2_with (go_at_call 79; refine (hf _).mono ?_; rintro e w1 ⟨rfl, rfl⟩)
        go_ret
        exact ⟨rfl, below_drewN (hA _) 0⟩
      · by_cases e8 : k = 8
        · subst e8
          have hp := h1 (.inr (.inl rfl))
          have hs := h2 (.inl rfl)
          have hf := fun o q => (hP' o).first hn hp q
          have hf2 := fun o q => (hP' o).second hn hp hs q
          have hm : mkB (8, v) letter (h (pl + 1)) (h (sec l pl)) = (h (pl + 1) && h (sec l pl)) := by simp [mkB]
          rw [hm]
          generalize h (pl + 1) = x at hf ⊢
          generalize h (sec l pl) = y at hf2 ⊢
          clear hm hL h1 h2 h13 hP hP' e13 e11 e10
          cases x
          · go_enter Tryd.func61, Tryd.ntmps61
            go_wp2_with (go_at_call 79; refine (hf _ 0).mono ?_; rintro e w1 ⟨rfl, rfl⟩)
            go_ret
            exact ⟨rfl, below_drewN (hA _) 0⟩
          · go_enter Tryd.func61, Tryd.ntmps61
            go_wp2_with (first | (go_at_call 79; refine (hf _ 0).mono ?_; rintro e w1 ⟨rfl, rfl⟩) | (go_at_call 80; refine (hf2 _ 0).mono ?_; rintro e w1 ⟨rfl, r, rfl⟩))
            go_ret
            exact ⟨by simp, below_drewN (hA _) _⟩
        · by_cases e9 : k = 9
          · subst e9
            have hp := h1 (.inr (.inr rfl))
            have hs := h2 (.inr rfl)
            have hf := fun o q => (hP' o).first hn hp q
            have hf2 := fun o q => (hP' o).second hn hp hs q
            have hm : mkB (9, v) letter (h (pl + 1)) (h (sec l pl)) = (h (pl + 1) || h (sec l pl)) := by simp [mkB]
            rw [hm]
            generalize h (pl + 1) = x at hf ⊢
            generalize h (sec l pl) = y at hf2 ⊢
            clear hm hL h1 h2 h13 hP hP' e13 e11 e10 e8
            cases x
            · go_enter Tryd.func61, Tryd.ntmps61
              go_wp2_with (first | (go_at_call 79; refine (hf _ 0).mono ?_; rintro e w1 ⟨rfl, rfl⟩) | (go_at_call 80; refine (hf2 _ 0).mono ?_; rintro e w1 ⟨rfl, r, rfl⟩))
              go_ret
              exact ⟨by simp, below_drewN (hA _) _⟩
            · go_enter Tryd.func61, Tryd.ntmps61
              go_wp2_with (go_at_call 79; refine (hf _ 0).mono ?_; rintro e w1 ⟨rfl, rfl⟩)
              go_ret
              exact ⟨rfl, below_drewN (hA _) 0⟩
          · have hm : mkB (k, v) letter (h (pl + 1)) (h (sec l pl)) = false := by simp [mkB, e13, e11, e10, e8, e9]
            rw [hm]
            clear hm hL h1 h2 h13 hP hP'
            go_enter Tryd.func61, Tryd.ntmps61
            go_wp2_with fail
            go_ret
            exact ⟨rfl, hA _⟩
end Go.Proofs.YtdlpmomohbdpgaaDoor

/-
  The contract of slices.Backward over a list of ops, for every body that keeps what it reads.
-/
namespace Go.Proofs.YtdlpmomohbdpgaaDoor
open Go.ChangeShapes Go.WideShapes Go.ChangeAt Go.RowKit Go.Deep Go.Shelf
open Terms

attribute [local go_sem] Oper.semAt_some

/-- the places from the last one on. -/
def backAt {n : Nat} (h : 0 < n) (j : Nat) : Fin n := ⟨n - 1 - j, by omega⟩
def backTo {n : Nat} (h : 0 < n) (k : Nat) : List (Fin n) := (List.range k).map (backAt h)
theorem backTo_succ {n : Nat} (h : 0 < n) (k : Nat) : backTo h (k + 1) = backTo h k ++ [backAt h k] := by simp [backTo, List.range_succ]
theorem backTo_length {n : Nat} (h : 0 < n) (k : Nat) : (backTo h k).length = k := by simp [backTo]
def opV (l : List (Int × Int)) (j : Nat) : Value := .agg #[.int .i64 (l.getD j (0, 0)).1, .int .i64 (l.getD j (0, 0)).2]
def backEnc (l : List (Int × Int)) (n : Nat) (x : Fin n) : Array Value := #[.int .i64 (x.1 : Int), .agg #[.int .i64 (l.getD x.1 (0, 0)).1, .int .i64 (l.getD x.1 (0, 0)).2]]
/-- what a round keeps: what lies below, and the iterator's own box. -/
def BackK (n₀ Bs : Nat) (A B : World) : Prop := Below n₀ A B ∧ B.heap[Bs]? = A.heap[Bs]?

set_option maxRecDepth 100000 in
set_option maxHeartbeats 2000000 in
theorem back1_in (F : Fence) (m : Nat) (h7 : F.fn 78) (hro : F.round = none) (hm : 1 ≤ m) (L Bs n₀ b off n cap : Nat) (l : List (Int × Int)) (h0n : 0 < n) (h60 : n ≤ 60) (hnl : n = l.length) (hb : b < n₀) (J Jx : List (Fin n) → World → Prop)
    (hY : ∀ pre x W, J pre W → pre.length < n → YieldAt F (m - 1) Tryd.prog L (backEnc l n x) W fun e W' =>
      (e = .returned (.bool true) ∧ J (pre ++ [x]) W' ∧ BackK n₀ Bs W W') ∨ (e = .returned (.bool false) ∧ Jx (pre ++ [x]) W'))
    (W : World) (hBs : W.cell? ⟨Bs, 0, none⟩ = some (.slice (some ⟨b, off, none⟩) n cap)) (hc : OpsAt W b off l) (h0 : J [] W) :
    CallsIn F m Tryd.prog 78 #[.func (.yield L) #[] #[], .pointer (some ⟨Bs, 0, none⟩)] W fun e W' => (∃ v, e = .returned v) ∧
      ((∃ ys, ys = backTo h0n n ∧ J ys W') ∨ (∃ pre, (∃ k, k ≤ n ∧ pre = backTo h0n k) ∧ Jx pre W')) := by
  refine callsIn_of_wp Tryd.func78 rfl h7 ?_ hro
  simp only [Tryd.ntmps78, List.size_toArray, List.length_cons, List.length_nil, Nat.reduceAdd, Nat.reduceSub, Array.replicate_succ, Array.replicate_zero, List.push_toArray, List.append_toArray, List.nil_append, List.cons_append]
  have HC : Hid (OpsAt W b off l) := hc
  have HN : Hid (n = l.length) := hnl
  clear hc hnl
  gi_wp2
  gi_loopw [3] (fun i wr => ∃ k : Nat, k ≤ n ∧ i = .int .i64 ((n : Int) - 1 - k) ∧ J (backTo h0n k) wr ∧ BackK n₀ Bs W wr)
    (fun i _ => (intOf i + 1).toNat)
  case atStart => exact ⟨0, Nat.zero_le _, by first | rfl | simp, h0, Below.refl _ _, rfl⟩
  case round =>
    obtain ⟨k, hk, rfl, hJs, hnx, hbx⟩ := hrel
    have hcb : wr.cell? ⟨Bs, 0, none⟩ = some (.slice (some ⟨b, off, none⟩) n cap) := (World.cell?_of_block (w := W) hbx).trans hBs
    by_cases hlt : k < n
    · obtain ⟨p, hp⟩ : ∃ p : Nat, p = n - 1 - k := ⟨_, rfl⟩
      have hpi : (n : Int) - 1 - k = (p : Int) := by omega
      have hpn : p < n := by omega
      obtain ⟨c0, c1⟩ := (HC.out.below hnx hb) p (by rw [← HN.out]; exact hpn)
      obtain ⟨fn, tmps, assign, body, hy, hR⟩ := hY _ (backAt h0n k) wr hJs (by rw [backTo_length]; exact hlt)
      have hba : (backAt h0n k).1 = p := hp.symm
      simp only [backEnc, hba] at hy
      rw [hpi]
      have HPI : Hid ((n : Int) - 1 - k = (p : Int)) := hpi
      clear hp hpi hba
      generalize l.getD p (0, 0) = xy at c0 c1 hy
      obtain ⟨x, y⟩ := xy
      simp only at c0 c1 hy
      gi_wp2
      refine hR.mono ?_
      rintro e W3 (⟨rfl, hJ3, hk3, hk4⟩ | ⟨rfl, hJx3⟩)
      · gi_wp2
        go_roundw
        case rel => exact ⟨k + 1, by omega, by have := HPI.out; first | (congr 1; omega) | (simp; omega), by rw [backTo_succ]; exact hJ3, hnx.trans hk3, hk4.trans hbx⟩
        case measure => have := HPI.out; first | (simp [intOf]; omega) | simp [intOf]
      · gi_wp2
        refine bodyPost_ret (results_none rfl _ _ _) rfl ?_
        exact ⟨⟨_, rfl⟩, .inr ⟨_, ⟨k + 1, by omega, (backTo_succ _ _).symm⟩, hJx3⟩⟩
    · obtain rfl : k = n := by omega
      have hpi : (k : Int) - 1 - k = -1 := by omega
      rw [hpi]
      gi_wp2
      go_end0
      exact ⟨⟨_, rfl⟩, .inl ⟨_, rfl, hJs⟩⟩

set_option maxHeartbeats 1000000 in
theorem back_in (F : Fence) (m : Nat) (h5 : F.fn 59) (hro : F.round = none) (a : Option Addr) (len cap : Nat) (w : World) :
    CallsIn F m Tryd.prog 59 #[.slice a len cap] w fun e w' => e = .returned (.func (.func 78) #[] #[.pointer (some ⟨w.heap.size, 0, none⟩)]) ∧ w' = w.alloc (.cells #[.slice a len cap] 27) := by
  refine callsIn_of_wp Tryd.func59 rfl h5 ?_ hro
  simp only [Tryd.ntmps59, List.size_toArray, List.length_cons, List.length_nil, Nat.reduceAdd, Nat.reduceSub, Array.replicate_succ, Array.replicate_zero, List.push_toArray, List.append_toArray, List.nil_append, List.cons_append]
  gi_wp2
  go_ret
  exact ⟨rfl, rfl⟩

theorem back_stops (F : Fence) (m : Nat) (h7 : F.fn 78) (hro : F.round = none) (hm : 1 ≤ m) (Bs n₀ b off n cap : Nat) (l : List (Int × Int)) (h0n : 0 < n) (h60 : n ≤ 60) (hnl : n = l.length) (hb : b < n₀) (w : World) (hBs : Bs < w.heap.size) (hn₀ : n₀ ≤ w.heap.size)
    (hc : w.cell? ⟨Bs, 0, none⟩ = some (.slice (some ⟨b, off, none⟩) n cap)) (hI : OpsAt w b off l) :
    SeqStopsK F m Tryd.prog 78 #[.pointer (some ⟨Bs, 0, none⟩)] (backEnc l n) (BackK n₀ Bs) (fun ys => ys = backTo h0n n)
      (fun pre => ∃ k, k ≤ n ∧ pre = backTo h0n k) n w := fun L J Jx W hW _ _ hY h0 =>
  back1_in F m h7 hro hm L Bs n₀ b off n cap l h0n h60 hnl hb J Jx hY W ((hW.cell (p := ⟨Bs, 0, none⟩) hBs).trans hc) (hI.below (hW.mono hn₀) hb) h0
theorem backK_t {n₀ Bs : Nat} {A B C : World} (h : BackK n₀ Bs A B) (k : BackK n₀ Bs B C) : BackK n₀ Bs A C := ⟨h.1.trans k.1, k.2.trans h.2⟩
theorem backK_b {n₀ Bs : Nat} {w : World} (hn : n₀ ≤ w.heap.size) (hB : Bs < w.heap.size) (W : World) (l : Nat) (o o' : Obj) (hl : w.heap.size ≤ l) (h : W.heap[l]? = some o) (h1 : o.isCells = false) (h2 : o.isWalk = false) : BackK n₀ Bs W (W.putObj l o') :=
  ⟨belowK_b hn W l o o' hl h h1 h2, (belowK_b (n₀ := Bs + 1) (w := w) hB W l o o' hl h h1 h2).block Bs (Nat.lt_succ_self _)⟩
end Go.Proofs.YtdlpmomohbdpgaaDoor

/-
  The contract of logic's method truths.
-/
namespace Go.Proofs.YtdlpmomohbdpgaaDoor
open Go.ChangeShapes Go.WideShapes Go.ChangeAt Go.RowKit Go.Deep Go.Shelf
open Terms

attribute [local go_sem] Oper.semAt_some

/-- what the row holds ahead of the rounds, when k claims are laid. -/
def iniB (l : List (Int × Int)) (claim : Int) (k : Nat) (j : Nat) : Bool := if lookB (l.getD j (0, 0)).1 = true ∧ (aheadTo l j).length < k then bitB claim (aheadTo l j).length else false
/-- a round. -/
def stepB (l : List (Int × Int)) (letter : List Bool) (h : Nat → Bool) (p : Nat) : Nat → Bool := if lookB (l.getD p (0, 0)).1 = true then h else fun j => if j = p then mkB (l.getD p (0, 0)) letter (h (p + 1)) (h (sec l p)) else h j
def foldB (l : List (Int × Int)) (letter : List Bool) (h : Nat → Bool) {n : Nat} (xs : List (Fin n)) : Nat → Bool := xs.foldl (fun h x => stepB l letter h x.1) h
theorem foldB_snoc (l : List (Int × Int)) (letter : List Bool) (h : Nat → Bool) {n : Nat} (xs : List (Fin n)) (x : Fin n) : foldB l letter h (xs ++ [x]) = stepB l letter (foldB l letter h xs) x.1 := by simp [foldB]
theorem foldB_done {l : List (Int × Int)} {letter : List Bool} {claim : Int} (hz : endsCode (l.map Prod.fst) = 0) {n : Nat} (h0n : 0 < n) (hn : n = l.length) :
    ∀ k, k ≤ n → ∀ j, j < n → foldB l letter (iniB l claim (aheadL l).length) (backTo h0n k) j = if n - k ≤ j then tru l letter claim j else iniB l claim (aheadL l).length j := by
  intro k
  induction k with
  | zero =>
    intro _ j hj
    rw [if_neg (by omega)]
    simp [backTo, foldB]
  | succ k ih =>
    intro hk j hj
    have ih' := ih (by omega)
    rw [backTo_succ, foldB_snoc]
    have hp : (backAt h0n k).1 = n - 1 - k := rfl
    rw [hp]
    obtain ⟨p, hpe⟩ : ∃ p, p = n - 1 - k := ⟨_, rfl⟩
    rw [← hpe]
    have hpl : p < l.length := by omega
    unfold stepB
    cases hb : lookB (l.getD p (0, 0)).1 with
    | true =>
      rw [if_pos rfl, ih' j hj]
      by_cases hjp : j = p
      · subst hjp
        rw [if_neg (by omega), if_pos (by omega), tru_look hpl hb]
        unfold iniB
        exact if_pos ⟨hb, aheadTo_lt l hpl hb⟩
      · by_cases hle : n - k ≤ j
        · rw [if_pos hle, if_pos (by omega)]
        · rw [if_neg hle, if_neg (by omega)]
    | false =>
      rw [if_neg (by decide)]
      by_cases hjp : j = p
      · subst hjp
        rw [if_pos rfl, if_pos (by omega)]
        obtain ⟨h1, h2⟩ := part_in hz hpl
        rw [tru_mk hpl hb (fun h => (h2 h).1)]
        have hpn := pn_le (l.getD j (0, 0)).1
        by_cases p2 : pn (l.getD j (0, 0)).1 = 2
        · obtain ⟨s1, s2⟩ := h2 p2
          have s0 := h1 (by omega)
          rw [ih' (j + 1) (by omega), ih' (sec l j) (by omega), if_pos (by omega), if_pos (by omega)]
        · have hk89 : (l.getD j (0, 0)).1 ≠ 8 ∧ (l.getD j (0, 0)).1 ≠ 9 := by
            constructor <;> intro e <;> rw [e] at p2 <;> exact absurd rfl p2
          by_cases p1 : pn (l.getD j (0, 0)).1 = 1
          · have s0 := h1 (by omega)
            rw [ih' (j + 1) (by omega), if_pos (by omega)]
            simp only [mkB, hk89.1, hk89.2, if_false]
          · have hk10 : (l.getD j (0, 0)).1 ≠ 10 := by intro e; rw [e] at p1; exact absurd rfl p1
            simp only [mkB, hk89.1, hk89.2, hk10, if_false]
      · rw [if_neg hjp, ih' j hj]
        by_cases hle : n - k ≤ j
        · rw [if_pos hle, if_pos (by omega)]
        · rw [if_neg hle, if_neg (by omega)]

/-- what lies beside the rounds. -/
structure TrSt (w : World) (fo ev av lv : Value) (n : Nat) (h : Nat → Bool) (W0s : Nat) (W : World) : Prop where
  three : Three W w.heap.size fo ev av
  letter : W.cell? ⟨w.heap.size + 1, 0, none⟩ = some lv
  holds : W.cell? ⟨w.heap.size + 1 + 1 + 1, 0, none⟩ = some (.slice (some ⟨w.heap.size + 1 + 1, 0, none⟩) n n)
  row : W.rowIs (w.heap.size + 1 + 1) 4 n (fun j => .bool (h j))
  below : Below w.heap.size w W
  size : W0s ≤ W.heap.size
theorem TrSt.later {w : World} {fo ev av lv : Value} {n : Nat} {h : Nat → Bool} {s B : Nat} {W W' : World} (t : TrSt w fo ev av lv n h s W) (hb : Below B W W') (hB : w.heap.size + 4 ≤ B) : TrSt w fo ev av lv n h s W' :=
  ⟨t.three.below hb (by omega), (hb.cell (p := ⟨w.heap.size + 1, 0, none⟩) (by simp; omega)).trans t.letter, (hb.cell (p := ⟨w.heap.size + 1 + 1 + 1, 0, none⟩) (by simp; omega)).trans t.holds, t.row.of_block (hb.block _ (by omega)), t.below.trans (hb.mono (by omega)), Nat.le_trans t.size hb.size⟩

theorem TrSt.congr {w : World} {fo ev av lv : Value} {n : Nat} {h h' : Nat → Bool} {s : Nat} {W : World} (t : TrSt w fo ev av lv n h s W) (e : ∀ j, j < n → h j = h' j) : TrSt w fo ev av lv n h' s W :=
  ⟨t.three, t.letter, t.holds, t.row.congr fun j hj => by rw [e j hj], t.below, t.size⟩
theorem TrSt.put {w : World} {fo ev av lv : Value} {n : Nat} {h : Nat → Bool} {s : Nat} {W : World} (t : TrSt w fo ev av lv n h s W) (p : Nat) (x : Bool) : TrSt w fo ev av lv n (fun j => if j = p then x else h j) s (W.setCell ⟨w.heap.size + 1 + 1, p, none⟩ (.bool x)) := by
  have hb : ∀ k, k ≠ w.heap.size + 1 + 1 → (W.setCell ⟨w.heap.size + 1 + 1, p, none⟩ (.bool x)).heap[k]? = W.heap[k]? := fun k hk => Below.heap_setCell W _ _ k hk
  have hc : ∀ k q, k ≠ w.heap.size + 1 + 1 → (W.setCell ⟨w.heap.size + 1 + 1, p, none⟩ (.bool x)).cell? ⟨k, q, none⟩ = W.cell? ⟨k, q, none⟩ := fun k q hk => World.cell?_of_block (w := W) (hb k hk)
  have hf : ∀ q, (W.setCell ⟨w.heap.size + 1 + 1, p, none⟩ (.bool x)).frozen? ⟨w.heap.size, q, none⟩ = W.frozen? ⟨w.heap.size, q, none⟩ := fun q => by rw [World.frozen?_setCell]
  obtain ⟨k0, k1, k2, f0, f1, f2, hl⟩ := t.three
  refine ⟨⟨(hc _ _ (by omega)).trans k0, (hc _ _ (by omega)).trans k1, (hc _ _ (by omega)).trans k2, (hf 0).trans f0, (hf 1).trans f1, (hf 2).trans f2, by simpa using hl⟩, (hc _ _ (by omega)).trans t.letter, (hc _ _ (by omega)).trans t.holds, ?_, t.below.setCell (by simp; omega) _, by simpa using t.size⟩
  refine (t.row.set p (.bool x)).congr fun i _ => ?_
  by_cases hip : i = p
  · rw [if_pos hip, if_pos hip]
  · rw [if_neg hip, if_neg hip]
theorem TrSt.drew {w : World} {fo ev av lv : Value} {n : Nat} {h : Nat → Bool} {s : Nat} {W : World} (t : TrSt w fo ev av lv n h s W) : TrSt w fo ev av lv n h s W.drew :=
  ⟨⟨t.three.1, t.three.2.1, t.three.2.2.1, t.three.2.2.2.1, t.three.2.2.2.2.1, t.three.2.2.2.2.2.1, t.three.2.2.2.2.2.2⟩, t.letter, t.holds, t.row.of_block rfl, t.below.drew, t.size⟩
theorem bits_small : ∀ c, c < 64 → (bits BinOp.and IntKind.i64 ((c : Nat) : Int) 1 == 1) = decide (((c : Nat) : Int) % 2 = 1) := by decide
theorem bits_bitB {claim : Int} {k : Nat} (h0 : 0 ≤ claim) (h : claim < 64) : (bits BinOp.and IntKind.i64 (claim / 2 ^ k) 1 == 1) = bitB claim k := by
  have h2 : (0 : Int) < 2 ^ k := Int.pow_pos (by decide)
  have h3 : 0 ≤ claim / 2 ^ k := Int.ediv_nonneg h0 (Int.le_of_lt h2)
  have h4 : claim / 2 ^ k ≤ claim := Int.ediv_le_self _ h0
  obtain ⟨c, hc⟩ : ∃ c : Nat, claim / 2 ^ k = c := ⟨(claim / 2 ^ k).toNat, by omega⟩
  unfold bitB
  rw [hc]
  exact bits_small c (by omega)
theorem iniB_step {l : List (Int × Int)} {claim : Int} {k p : Nat} (hlk : lookB (l.getD p (0, 0)).1 = true) (hpi : (aheadTo l p).length = k) (j : Nat) : (if j = p then bitB claim k else iniB l claim k j) = iniB l claim (k + 1) j := by
  unfold iniB
  by_cases hjp : j = p
  · subst hjp
    rw [if_pos rfl, if_pos ⟨hlk, by omega⟩, hpi]
  · rw [if_neg hjp]
    by_cases hb : lookB (l.getD j (0, 0)).1 = true
    · have hne : (aheadTo l j).length ≠ k := by
        intro e
        rcases Nat.lt_or_gt_of_ne hjp with h | h
        · have := aheadTo_lt l h hb; omega
        · have := aheadTo_lt l h hlk; omega
      by_cases hl : (aheadTo l j).length < k
      · rw [if_pos ⟨hb, hl⟩, if_pos ⟨hb, by omega⟩]
      · rw [if_neg (fun h => hl h.2), if_neg (fun h => by have := h.2; omega)]
    · rw [if_neg (fun h => hb h.1), if_neg (fun h => hb h.1)]

theorem truths_out (fv lv : Value) (fo ev : Value) (aao : Option Addr) (an ac : Nat) (claim : Int) (lo : Option Addr) (ln lc : Nat) (oo eo : Option Addr) (on oc en ec : Nat) (hfo : fo = .slice oo on oc) (hev : ev = .slice eo en ec) (hlv : lv = .slice lo ln lc) (hfv : fv = .agg #[fo, ev, .slice aao an ac]) (h6 : an ≤ 6) (w : World) (h : claim < 0 ∨ 2 ^ an ≤ claim) :
    Calls Tryd.prog 40 #[fv, lv, .int .i64 claim] w fun e w' => e = .returned (.tuple #[.slice none 0 0, .int .i64 2]) ∧ Below w.heap.size w w' := by
  subst hfo hev hlv hfv
  have hb : ∀ o o', Below w.heap.size w ((w.alloc o).alloc o') := fun o o' => ((Below.refl _ _).alloc (Nat.le_refl _) o).alloc (by simp) o'
  rcases h with h | h
  · go_enter Tryd.func40, Tryd.ntmps40
    go_wp2_with fail
    go_ret2
    exact ⟨rfl, hb _ _⟩
  · have h0 : 0 ≤ claim := by have : (0 : Int) < 2 ^ an := Int.pow_pos (by decide); omega
    have hcase : an = 0 ∨ an = 1 ∨ an = 2 ∨ an = 3 ∨ an = 4 ∨ an = 5 ∨ an = 6 := by omega
    clear h6
    rcases hcase with rfl | rfl | rfl | rfl | rfl | rfl | rfl
    all_goals
      simp only [Int.reducePow] at h
      go_enter Tryd.func40, Tryd.ntmps40
      go_wp2_with fail
      go_ret2
      exact ⟨rfl, hb _ _⟩
end Go.Proofs.YtdlpmomohbdpgaaDoor

/-
  A region whose order is drawn, inside of a round: by the plain walk under a condition.
-/
namespace Go.Proofs.YtdlpmomohbdpgaaDoor
open Go.ChangeShapes Go.WideShapes Go.ChangeAt Go.RowKit Go.Deep Go.Shelf

theorem upon_in {P : Program} (L n : Nat) {o : Oper} {a : Act} {next : Act → World → Prop} {Q : Exit → Act → World → Prop} {r : Result Next} (h : o.upon P a next Q r) : o.uponIn (Fence.wide.inRound L) n P a next Q r := by
  have hd : ∀ m : Nat, (Fence.wide.inRound L).depth.isSome = true → 1 ≤ m := fun m h => by simp [Fence.wide, Fence.inRound] at h
  cases r with
  | halt x w' => cases x <;> first | exact h | exact h.elim
  | ok x w' =>
    cases x with
    | value v => exact h
    | skip => exact h
    | defer d => exact h
    | enter f args => exact ⟨hd _, CallsIn.inRound L ((callsIn_wide.2 h).mono fun e w'' he => by cases e <;> exact he)⟩
    | row row args => exact ⟨hd _, fun c cs _ => by obtain ⟨v, w'', h1, h2⟩ := h c cs; exact ⟨v, w'', h1, stepsIn_wide.2 h2⟩⟩
    | _ => exact (h : False).elim

theorem any_in {P : Program} (L n : Nat) {md : Region.Mode} {ops : Array Oper} {Q : Exit → Act → World → Prop} (hd : ∀ (i : Nat) (o : Oper), ops[i]? = some o → ∀ c, o.op ≠ Op.defer c) (hQ : LetsOut Q → False) :
    ∀ (fuel : Nat) (listed : Array Bool) (a : Act) (w : World), wpAny P md ops Q fuel listed a w → wpAnyIn (Fence.wide.inRound L) n P md ops Q fuel listed a w := by
  intro fuel
  induction fuel with
  | zero => intro listed a w h; exact h
  | succ fuel ih =>
    intro listed a w h
    refine ⟨h.1, fun i hi => ?_⟩
    have h1 := wpOp_mono (K' := wpAnyIn (Fence.wide.inRound L) n P md ops Q fuel (listed.setIfInBounds i true)) (fun a' w' h' => ih _ a' w' h') (h.2 i hi)
    unfold wpOp at h1
    unfold wpOpIn
    cases ho : ops[i]? with
    | none => simp only [ho] at h1 ⊢; exact h1
    | some o =>
      simp only [ho] at h1 ⊢
      split
      · rename_i hw
        rw [if_pos hw] at h1
        rcases h1 with h1 | ⟨_, h1⟩
        · refine ⟨fun f _ => trivial, ?_⟩
          rw [Oper.semAt_eq _ _ _ (hd i o ho)]
          exact upon_in L n h1
        · exact (hQ h1).elim
      · rename_i hw
        rw [if_neg hw] at h1
        exact ⟨fun f _ => trivial, h1⟩

theorem region_round {P : Program} {L n id : Nat} {ops : Array Oper} {Q : Exit → Act → World → Prop} {a : Act} {w : World} (S : World → Prop) (hm : P.follows .mixedOrders = true) (hd : ∀ (i : Nat) (o : Oper), ops[i]? = some o → ∀ c, o.op ≠ Op.defer c) (hQ : LetsOut Q → False)
    (h : wpAnyH P .any ops Q S ops.size (Array.replicate ops.size false) a w.drew) : (Code.region id ops true).wpIn (Fence.wide.inRound L) n P Q a w :=
  wpIn_region_any hm (any_in L n hd hQ _ _ _ _ (wpAny_of_held _ _ _ _ h))
theorem wpOp_call {P : Program} {ops : Array Oper} {Q : Exit → Act → World → Prop} {i : Nat} {K : Act → World → Prop} {a : Act} {w : World} {o : Oper} {f : FuncId} {args : Array Value} {R : Ending → World → Prop} (hi : ops[i]? = some o) (hw : Region.wanted o (yielded ops a.tmps) = true) (hr : (execOp a.eval o).run P w = .ok (.enter f args) w) (h : Calls P f args w R)
    (hR : ∀ e w', R e w' → ∃ v, e = .returned v ∧ K (a.put o.dst v) w') : wpOp P ops Q i K a w := by
  unfold wpOp
  simp only [hi]
  rw [if_pos hw]
  refine Or.inl ?_
  unfold Oper.wp
  rw [hr]
  refine h.mono fun e w' he => ?_
  obtain ⟨v, rfl, hk⟩ := hR e w' he
  exact hk
theorem wpOp_skip {P : Program} {ops : Array Oper} {Q : Exit → Act → World → Prop} {i : Nat} {K : Act → World → Prop} {a : Act} {w w' : World} {o : Oper} (hi : ops[i]? = some o) (hw : Region.wanted o (yielded ops a.tmps) = true) (hr : (execOp a.eval o).run P w = .ok .skip w') (h : K (a.put o.dst undef) w') : wpOp P ops Q i K a w := by
  unfold wpOp
  simp only [hi]
  rw [if_pos hw]
  refine Or.inl ?_
  unfold Oper.wp
  rw [hr]
  exact h
end Go.Proofs.YtdlpmomohbdpgaaDoor

/-
  The contract of logic's method truths.
-/
namespace Go.Proofs.YtdlpmomohbdpgaaDoor
open Go.ChangeShapes Go.WideShapes Go.ChangeAt Go.RowKit Go.Deep Go.Shelf
open Terms

attribute [local go_sem] Oper.semAt_some
/-- the temporaries of a round. -/
def trAct (p3 p4 p8 p11 p12 r0 r1 r2 r5 r6 r7 r9 r10 r13 r14 r15 r16 r17 r18 r19 r20 r21 r22 r23 r24 r25 r26 r27 r28 r29 r30 r31 r32 r33 r34 r35 r36 r37 r38 r39 r40 r41 r42 r43 r44 r45 r46 r47 r48 r49 r50 r51 r52 r53 r54 r55 r56 r57 r58 r59 r60 r61 r62 r63 r64 r65 r66 r67 r68 r69 r70 : Value) : Act := { tmps := #[r0, r1, r2, p3, p4, r5, r6, r7, p8, r9, r10, p11, p12, r13, r14, r15, r16, r17, r18, r19, r20, r21, r22, r23, r24, r25, r26, r27, r28, r29, r30, r31, r32, r33, r34, r35, r36, r37, r38, r39, r40, r41, r42, r43, r44, r45, r46, r47, r48, r49, r50, r51, r52, r53, r54, r55, r56, r57, r58, r59, r60, r61, r62, r63, r64, r65, r66, r67, r68, r69, r70], defers := [] }
/-- what a round begins with. -/
def TrAx (w : World) (s : Nat) (o : Int × Int) (p : Nat) (a' : Act) (W : World) : Prop := ∃ Bx, s ≤ Bx ∧ W.cell? ⟨Bx, 0, none⟩ = some (.int .i64 o.1) ∧ W.cell? ⟨Bx, 1, none⟩ = some (.int .i64 o.2) ∧ ∃ r0 r1 r2 r5 r6 r7 r9 r10 r13 r14 r15 r16 r17 r18 r19 r20 r21 r22 r23 r24 r25 r26 r27 r28 r29 r30 r31 r32 r33 r34 r35 r36 r37 r38 r39 r40 r41 r42 r43 r44 r45 r46 r47 r48 r49 r50 r51 r52 r53 r54 r55 r56 r57 r58 r59 r60 r61 r62 r63 r64 r65 r66 r67 r68 r69 r70 : Value, a' = trAct (.pointer (some ⟨w.heap.size, 0, none⟩)) (.pointer (some ⟨w.heap.size + 1, 0, none⟩)) (.pointer (some ⟨w.heap.size + 1 + 1 + 1, 0, none⟩)) (.int .i64 (p : Int)) (.pointer (some ⟨Bx, 0, none⟩)) r0 r1 r2 r5 r6 r7 r9 r10 r13 r14 r15 r16 r17 r18 r19 r20 r21 r22 r23 r24 r25 r26 r27 r28 r29 r30 r31 r32 r33 r34 r35 r36 r37 r38 r39 r40 r41 r42 r43 r44 r45 r46 r47 r48 r49 r50 r51 r52 r53 r54 r55 r56 r57 r58 r59 r60 r61 r62 r63 r64 r65 r66 r67 r68 r69 r70
theorem keeps_of_below {B : Nat} {W W' : World} (h : Below W.heap.size W W') : KeepsFrom B W W' := ⟨h.size, fun k _ _ hk _ => (h.block k (Array.getElem?_eq_some_iff.1 hk).1).trans hk⟩
set_option maxRecDepth 100000 in
set_option maxHeartbeats 4000000 in
theorem truths_in (b off cap n B : Nat) (aao : Option Addr) (an ac : Nat) (lo : Option Addr) (ln lc : Nat) (l : List (Int × Int)) (letter : List Bool) (claim : Int) (w : World) (h0n : 0 < n) (h60 : n ≤ 60) (hn : n = l.length) (hz : endsCode (l.map Prod.fst) = 0) (hops : OpsAt w b off l) (hbl : b < w.heap.size)
    (hrow : w.rowIs B 3 n (fun q => .int .i64 (endAt (l.map Prod.fst) q))) (han : an = (aheadL l).length) (hav : IntsV w (.slice aao an ac) (aheadL l)) (h6 : an ≤ 6) (hln : ln = letter.length) (hL : BoolsV w (.slice lo ln lc) letter) (hlf : lfirst ln l = 0) (h0 : 0 ≤ claim) (h1 : claim < 2 ^ an) :
    Calls Tryd.prog 40 #[.agg #[.slice (some ⟨b, off, none⟩) n cap, .slice (some ⟨B, 0, none⟩) n n, .slice aao an ac], .slice lo ln lc, .int .i64 claim] w fun e w' => ∃ bH, e = .returned (.tuple #[.slice (some ⟨bH, 0, none⟩) n n, .int .i64 0]) ∧ Below w.heap.size w w' ∧ Hid (w'.rowIs bH 4 n (fun j => .bool (tru l letter claim j))) ∧ w.heap.size ≤ bH := by
  refine (callsIn_wide (n := 8)).1 ?_
  refine callsIn_of_wp_marks Tryd.func40 rfl trivial ?_ rfl
  simp only [Tryd.ntmps40, List.size_toArray, List.length_cons, List.length_nil, Nat.reduceAdd, Nat.reduceSub, Array.replicate_succ, Array.replicate_zero, List.push_toArray, List.append_toArray, List.nil_append, List.cons_append]
  have hmk := run_make_row' (P := Tryd.prog) 47 4 (.bool false) 1 Tryd.underlying47 infoBool rfl .i64 .i64 n (by omega) (by omega)
  have HO : Hid (OpsAt w b off l) := hops
  have HN : Hid (n = l.length) := hn
  have HR : Hid (w.rowIs B 3 n (fun q => .int .i64 (endAt (l.map Prod.fst) q))) := hrow
  have HAN : Hid (an = (aheadL l).length) := han
  have HAV : Hid (IntsV w (.slice aao an ac) (aheadL l)) := hav
  have HLN : Hid (ln = letter.length) := hln
  have HL : Hid (BoolsV w (.slice lo ln lc) letter) := hL
  have HLF : Hid (lfirst ln l = 0) := hlf
  have HZ : Hid (endsCode (l.map Prod.fst) = 0) := hz
  clear hops hn hrow han hav hln hL hlf hz
  have hcase : an = 0 ∨ an = 1 ∨ an = 2 ∨ an = 3 ∨ an = 4 ∨ an = 5 ∨ an = 6 := by omega
  have hsh : (2 : Int) ^ an ≤ 64 := by rcases hcase with rfl | rfl | rfl | rfl | rfl | rfl | rfl <;> decide
  clear hcase
  gi_wp2
  have HS0 : Hid (TrSt w (.slice (some ⟨b, off, none⟩) n cap) (.slice (some ⟨B, 0, none⟩) n n) (.slice aao an ac) (.slice lo ln lc) n (iniB l claim 0) 0 ((((w.alloc (.cells #[.slice (some ⟨b, off, none⟩) n cap, .slice (some ⟨B, 0, none⟩) n n, .slice aao an ac] 77)).alloc (.cells #[.slice lo ln lc] 47)).alloc (.cells (madeCells #[.bool false] n) 4)).alloc (.cells #[.slice (some ⟨w.heap.size + 1 + 1, 0, none⟩) n n] 47))) := by
    have r := World.rowIs_made ((w.alloc (.cells #[.slice (some ⟨b, off, none⟩) n cap, .slice (some ⟨B, 0, none⟩) n n, .slice aao an ac] 77)).alloc (.cells #[.slice lo ln lc] 47)) (.bool false) n 4
    simp only [World.size_alloc] at r
    have hB3 : ∀ o1 o2 o3 o4, Below (w.heap.size + 1) (w.alloc o1) ((((w.alloc o1).alloc o2).alloc o3).alloc o4) := fun o1 o2 o3 o4 => (((Below.refl _ _).alloc (by simp) o2).alloc (by simp) o3).alloc (by simp) o4
    exact ⟨(Three.new w _ _ _ _).below (hB3 _ _ _ _) (Nat.lt_succ_self _), by simp [go_sem], by simp [go_sem], (r.of_block (Below.heap_alloc _ _ _ r.lt)).congr (fun j _ => by simp [iniB]), ((((Below.refl _ _).alloc (Nat.le_refl _) _).alloc (by simp) _).alloc (by simp; omega) _).alloc (by simp; omega) _, Nat.zero_le _⟩
  gi_loopw [32] (fun i wr => ∃ k : Nat, k ≤ an ∧ i = .int .i64 k ∧ Hid (TrSt w (.slice (some ⟨b, off, none⟩) n cap) (.slice (some ⟨B, 0, none⟩) n n) (.slice aao an ac) (.slice lo ln lc) n (iniB l claim k) 0 wr)) (fun i _ => an - (intOf i).toNat)
  case atStart =>
    exact ⟨0, Nat.zero_le _, rfl, HS0.out⟩
  case round =>
    obtain ⟨k, hk, rfl, HSt⟩ := hrel
    have hst := HSt.out
    by_cases hlt : k < an
    · obtain ⟨p, hp, hpn, hlk, hpi⟩ := aheadTo_get l l.length k (by have := HAN.out; unfold aheadL at this; omega)
      obtain ⟨ao', cap', hsl, hai⟩ := HAV.out
      injection hsl with e1 e2 e3
      subst e1
      obtain ⟨ab, aoff, rfl, habl, haat⟩ := hai (by intro h; have := HAN.out; rw [h] at this; simp at this; omega)
      have hca := (hst.below.cell (p := ⟨ab, aoff + k, none⟩) habl).trans (haat k (by rw [← HAN.out]; exact hlt))
      have hca' : wr.cell? ⟨ab, aoff + k, none⟩ = some (.int .i64 (p : Int)) := by rw [hca]; exact congrArg (fun z => some (Value.int .i64 z)) hp
      have hch := hst.holds
      have hf := hst.row.frozen p
      have hpn' : p < n := by rw [HN.out]; exact hpn
      have hcp := hst.row.cell hpn'
      obtain ⟨t0, t1, t2, _⟩ := hst.three
      have HP : Hid (lookB (l.getD p (0, 0)).1 = true ∧ (aheadTo l p).length = k) := ⟨hlk, hpi⟩
      clear hp hpn hlk hpi hai haat hca e2 e3
      have hmx : Tryd.prog.follows .mixedOrders = true := by kernel_rfl
      gi_wp2
      gi_region_o
      all_goals gi_wp2
      refine ⟨⟨k + 1, hlt, by first | rfl | simp, ?_⟩, by simp [intOf]; omega⟩
      rw [bits_bitB h0 (by omega)]
      exact ((hst.put p (bitB claim k)).congr (fun j _ => iniB_step HP.out.1 HP.out.2 j)).drew
    · obtain rfl : k = an := by omega
      have HAL : Hid (k = (aheadL l).length) := HAN.out
      obtain ⟨t0, t1, t2, _⟩ := hst.three
      generalize wr = W1 at *
      clear hmk HS0 hlt hk HAV
      gi_wp2_with (refine ⟨trivial, ?_⟩; gi_at_call 59; refine (back_in Fence.wide _ trivial rfl _ _ _ _).mono ?_; rintro e w' ⟨rfl, rfl⟩)
      have hs3 : w.heap.size + 4 ≤ W1.heap.size := by have := World.block_lt_of_cell? W1 ⟨w.heap.size + 1 + 1 + 1, 0, none⟩ hst.holds; simp at this; omega
      refine wpIn_rangeFunc_ownH rfl (by decide) (gf := 78) (lb := #[.pointer (some ⟨W1.heap.size, 0, none⟩)]) rfl trivial (enters_of Tryd.func78 (by kernel_rfl) rfl)
        (back_stops Fence.wide 7 trivial rfl (by decide) W1.heap.size w.heap.size b off n cap l h0n h60 HN.out hbl _ (by simp) (by simp; omega) (by simp [go_sem]) (HO.out.below (hst.below.alloc hst.below.size _) hbl)) backK_t (backK_b (by simp; omega) (by simp)) (Below.refl _ _) (fun _ => rfl)
        (fun pre W => TrSt w (.slice (some ⟨b, off, none⟩) n cap) (.slice (some ⟨B, 0, none⟩) n n) (.slice aao k ac) (.slice lo ln lc) n (foldB l letter (iniB l claim k) pre) (W1.heap.size + 1) W)
        (fun _ _ _ => False)
        (fun s A Bw row hs hg hr => hs.later (B := W1.heap.size + 1) ((Below.refl _ _).grown hg hs.size (fun z e => by have := (hr z e).1; simp at this; omega)) (by omega))
        (fun _ _ _ _ _ hs _ _ => hs)
        ?h0 (fun x => TrAx w (W1.heap.size + 1) (l.getD x.1 (0, 0)) x.1) (fun x a' _ X Y row hs hg hr => by obtain ⟨Bx, h1, h2, h3, h4⟩ := hs; exact ⟨Bx, h1, cell_kept h2 hg (fun r e => (hr r e).2), cell_kept h3 hg (fun r e => (hr r e).2), h4⟩)
        ?assign ?body ?done ?stop
      case h0 =>
        have t := hst.later ((Below.refl W1.heap.size W1).alloc (Nat.le_refl _) (.cells #[.slice (some ⟨b, off, none⟩) n cap] 27)) (by omega)
        exact ⟨t.three, t.letter, t.holds, t.row, t.below, by simp⟩
      case assign =>
        rintro L pre x W K hi hK
        have hsz := hi.size
        unfold backEnc
        gi_wp2
        refine hK _ _ ?ka ?kb ?kc ?kd
        case ka => exact (KeepsOthers.alloc _ _).from _
        case kb => exact ⟨(Below.refl _ W).alloc hi.below.size _, Below.heap_alloc _ _ _ (by omega)⟩
        case kc => exact hi.later ((Below.refl W.heap.size W).alloc (Nat.le_refl _) _) (by omega)
        case kd => exact ⟨W.heap.size, by omega, by simp [go_sem], by simp [go_sem], _, _, _, _, _, _, _, _, _, _, _, _, _, _, _, _, _, _, _, _, _, _, _, _, _, _, _, _, _, _, _, _, _, _, _, _, _, _, _, _, _, _, _, _, _, _, _, _, _, _, _, _, _, _, _, _, _, _, _, _, _, _, _, _, _, _, rfl⟩
      case body =>
        rintro L pre x a' W hl ⟨r, hr⟩ hi ⟨Bx, hBx, cx0, cx1, r0, r1, r2, r5, r6, r7, r9, r10, r13, r14, r15, r16, r17, r18, r19, r20, r21, r22, r23, r24, r25, r26, r27, r28, r29, r30, r31, r32, r33, r34, r35, r36, r37, r38, r39, r40, r41, r42, r43, r44, r45, r46, r47, r48, r49, r50, r51, r52, r53, r54, r55, r56, r57, r58, r59, r60, r61, r62, r63, r64, r65, r66, r67, r68, r69, r70, rfl⟩ hlen
        have hsz := hi.size
        have hfa := lfirst_all HLF.out x.1 (by rw [← HN.out]; exact x.2)
        obtain ⟨hp1, hp2⟩ := part_in HZ.out (p := x.1) (by rw [← HN.out]; exact x.2)
        have HSt : Hid (TrSt w (.slice (some ⟨b, off, none⟩) n cap) (.slice (some ⟨B, 0, none⟩) n n) (.slice aao k ac) (.slice lo ln lc) n (foldB l letter (iniB l claim k) pre) (W1.heap.size + 1) W) := hi
        have HNx := foldB_snoc l letter (iniB l claim k) pre x
        unfold stepB at HNx
        have HNx' : Hid (foldB l letter (iniB l claim k) (pre ++ [x]) = if lookB (l.getD x.1 (0, 0)).1 = true then foldB l letter (iniB l claim k) pre else fun j => if j = x.1 then mkB (l.getD x.1 (0, 0)) letter (foldB l letter (iniB l claim k) pre (x.1 + 1)) (foldB l letter (iniB l claim k) pre (sec l x.1)) else foldB l letter (iniB l claim k) pre j) := HNx
        clear HNx
        obtain ⟨nx, hnx⟩ : ∃ nx, foldB l letter (iniB l claim k) (pre ++ [x]) = nx := ⟨_, rfl⟩
        have HNX : Hid (foldB l letter (iniB l claim k) (pre ++ [x]) = nx) := hnx
        rw [hnx] at HNx'
        clear hnx
        generalize foldB l letter (iniB l claim k) pre = h at *
        obtain ⟨p, hpn⟩ := x
        simp only at cx0 cx1 hfa hp1 hp2 HNx'
        generalize l.getD p (0, 0) = xy at *
        obtain ⟨kx, vx⟩ := xy
        simp only at cx0 cx1 hfa hp1 hp2 HNx'
        have hlk := fun w => look_any kx w
        have hBxl : Bx < W.heap.size := World.block_lt_of_cell? W ⟨Bx, 0, none⟩ cx0
        have hmx : Tryd.prog.follows .mixedOrders = true := by kernel_rfl
        unfold trAct
        cases hb : lookB kx with
        | true =>
          have HE : Hid (nx = h) := by show _ = _; rw [HNx'.out, if_pos hb]
          rw [hb] at hlk
          clear hb HNx' hp1 hp2 hfa
          gi_wp2_with (refine ⟨trivial, ?_⟩; gi_at_call 53; refine (CallsIn.inRound L (callsIn_wide.2 (hlk _))).mono ?_; rintro e w2 ⟨rfl, rfl⟩)
          refine ⟨KeepsFrom.refl _ _, ⟨Below.refl _ _, rfl⟩, ?_⟩
          show TrSt w _ _ _ _ n (foldB l letter (iniB l claim k) (pre ++ [⟨p, hpn⟩])) _ _
          rw [HNX.out, HE.out]
          exact HSt.out
        | false =>
          have HE : Hid (nx = fun j => if j = p then mkB (kx, vx) letter (h (p + 1)) (h (sec l p)) else h j) := by show _ = _; rw [HNx'.out, if_neg (by rw [hb]; decide)]
          rw [hb] at hlk
          have hop : lopErr (ln : Int) (kx, vx) = 0 := hfa
          have hk8 : 8 ≤ kx := by
            simp only [lopErr] at hop
            split at hop
            · omega
            · omega
          have h13 : kx = 13 → 0 ≤ vx ∧ vx < letter.length := fun e => by
            simp only [lopErr] at hop
            rw [if_neg (by omega), if_pos e] at hop
            split at hop
            · omega
            · have := HLN.out; omega
          have hpr : kx = 10 ∨ kx = 8 ∨ kx = 9 → p + 1 < n := fun e => by rw [HN.out]; exact hp1 (by rcases e with rfl | rfl | rfl <;> decide)
          have hps : kx = 8 ∨ kx = 9 → sec l p < n := fun e => by rw [HN.out]; exact (hp2 (by rcases e with rfl | rfl <;> decide)).2
          have hBl : B < w.heap.size := HR.out.lt
          have hpa := parts_any b off cap n B (w.heap.size + 1 + 1) p _ h l aao k ac rfl W (fun j hj => hi.row.cell hj) hi.row.lt (fun j hj => (hi.below.cell (p := ⟨B, j, none⟩) hBl).trans (HR.out.cell hj)) (Nat.lt_of_lt_of_le hBl hi.below.size)
          obtain ⟨t0, t1, t2, _⟩ := hi.three
          have hch := hi.holds
          have hcl := hi.letter
          have HMk : Hid (∀ w2, Below W.heap.size W w2 → PartsAt w2 (W.heap.size + 1 + 1) W.heap.size (W.heap.size + 1) (w.heap.size + 1 + 1) n B p h l → Calls Tryd.prog 61 #[.agg #[.int .i64 kx, .int .i64 vx], .slice lo ln lc, .func (.func 79) #[] #[.pointer (some ⟨W.heap.size + 1 + 1, 0, none⟩), .pointer (some ⟨W.heap.size + 1, 0, none⟩)], .func (.func 80) #[] #[.pointer (some ⟨W.heap.size + 1 + 1, 0, none⟩), .pointer (some ⟨W.heap.size, 0, none⟩), .pointer (some ⟨W.heap.size + 1, 0, none⟩)]] w2.drew fun e w' =>
              e = .returned (.bool (mkB (kx, vx) letter (h (p + 1)) (h (sec l p)))) ∧ Below W.heap.size W w' ∧ w'.cell? ⟨w.heap.size + 1 + 1 + 1, 0, none⟩ = some (.slice (some ⟨w.heap.size + 1 + 1, 0, none⟩) n n) ∧ w'.cell? ⟨w.heap.size + 1 + 1, p, none⟩ = some (.bool (h p)) ∧ w'.frozen? ⟨w.heap.size + 1 + 1, p, none⟩ = false) := fun w2 hb2 hP => by
            have hlt : W.heap.size + 1 + 1 < w2.heap.size := World.block_lt_of_cell? w2 ⟨W.heap.size + 1 + 1, 0, none⟩ hP.holds
            have hbd : Below W.heap.size W w2.drew := hb2.drew
            have hPd : PartsAt w2.drew (W.heap.size + 1 + 1) W.heap.size (W.heap.size + 1) (w.heap.size + 1 + 1) n B p h l := ⟨hP.holds, hP.row, hP.ends, hP.erow, hP.place⟩
            have hLd : BoolsV w2.drew (.slice lo letter.length lc) letter := by rw [← HLN.out]; exact (HL.out.below hi.below).below hbd
            have hsw : w2.drew.heap.size = w2.heap.size := rfl
            have hrl := hi.row.lt
            rw [HLN.out]
            refine (makes_any kx vx lo lc _ _ _ _ n B p letter h l w2.drew h60 hLd hPd (by omega) (by omega) (by omega) (by omega) (by omega) h13 hpr hps).mono fun e w' ⟨he, hb⟩ => ?_
            have hbf : Below W.heap.size W w' := hbd.trans (hb.mono (by omega))
            exact ⟨he, hbf, (hbf.cell (p := ⟨w.heap.size + 1 + 1 + 1, 0, none⟩) (World.block_lt_of_cell? W _ hch)).trans hch, (hbf.cell (p := ⟨w.heap.size + 1 + 1, p, none⟩) hrl).trans (hi.row.cell hpn), (hbf.frozen (p := ⟨w.heap.size + 1 + 1, p, none⟩) hrl).trans (hi.row.frozen p)⟩
          generalize mkB (kx, vx) letter (h (p + 1)) (h (sec l p)) = tv at HMk HE
          have HC2 : Hid (∀ w2, Below W.heap.size W w2 → w2.cell? ⟨w.heap.size + 1 + 1 + 1, 0, none⟩ = some (.slice (some ⟨w.heap.size + 1 + 1, 0, none⟩) n n) ∧ w2.cell? ⟨w.heap.size + 1, 0, none⟩ = some (.slice lo ln lc) ∧ w2.cell? ⟨Bx, 0, none⟩ = some (.int .i64 kx) ∧ w2.cell? ⟨Bx, 1, none⟩ = some (.int .i64 vx)) := fun w2 hb => ⟨(hb.cell (p := ⟨w.heap.size + 1 + 1 + 1, 0, none⟩) (World.block_lt_of_cell? W _ hch)).trans hch, (hb.cell (p := ⟨w.heap.size + 1, 0, none⟩) (World.block_lt_of_cell? W _ hcl)).trans hcl, (hb.cell (p := ⟨Bx, 0, none⟩) hBxl).trans cx0, (hb.cell (p := ⟨Bx, 1, none⟩) hBxl).trans cx1⟩
          clear hb HNx' hp1 hp2 hfa hop h13 hpr hps hi
          gi_wp2_with (first | (refine ⟨trivial, ?_⟩; gi_at_call 53; refine (CallsIn.inRound L (callsIn_wide.2 (hlk _))).mono ?_; rintro e wz ⟨rfl, hwz⟩; obtain rfl := hwz.symm) | (refine ⟨trivial, ?_⟩; gi_at_call 60; refine (CallsIn.inRound L (callsIn_wide.2 hpa)).mono ?_; rintro e w2 ⟨rfl, hb2, HP2⟩; obtain ⟨d0, d1, d2, d3⟩ := HC2.out w2 hb2; have hma := HMk.out w2 hb2 HP2.out))
          refine region_round (fun w' => w'.cell? ⟨w.heap.size + 1 + 1 + 1, 0, none⟩ = some (.slice (some ⟨w.heap.size + 1 + 1, 0, none⟩) n n) ∧ w'.cell? ⟨w.heap.size + 1, 0, none⟩ = some (.slice lo ln lc) ∧ w'.cell? ⟨Bx, 0, none⟩ = some (.int .i64 kx) ∧ w'.cell? ⟨Bx, 1, none⟩ = some (.int .i64 vx)) hmx ?nd ?nl ?_
          case nd =>
            intro i o ho c
            have hi : i < 9 := (Array.getElem?_eq_some_iff.1 ho).1
            have hc : i = 0 ∨ i = 1 ∨ i = 2 ∨ i = 3 ∨ i = 4 ∨ i = 5 ∨ i = 6 ∨ i = 7 ∨ i = 8 := by omega
            rcases hc with rfl | rfl | rfl | rfl | rfl | rfl | rfl | rfl | rfl <;> (obtain rfl := Option.some.inj ho; exact fun h => by cases h)
          case nl => exact fun ⟨_, _, h⟩ => h
          have hS2 : w2.drew.cell? ⟨w.heap.size + 1 + 1 + 1, 0, none⟩ = some (.slice (some ⟨w.heap.size + 1 + 1, 0, none⟩) n n) ∧ w2.drew.cell? ⟨w.heap.size + 1, 0, none⟩ = some (.slice lo ln lc) ∧ w2.drew.cell? ⟨Bx, 0, none⟩ = some (.int .i64 kx) ∧ w2.drew.cell? ⟨Bx, 1, none⟩ = some (.int .i64 vx) := ⟨d0, d1, d2, d3⟩
          refine wpAnyH_take (i := 0) (v := .slice (some ⟨w.heap.size + 1 + 1, 0, none⟩) n n) rfl (by kernel_rfl) (by kernel_rfl) (by kernel_rfl) (fun _ _ _ h => h) (Or.inl ⟨by rfl, fun wq hSw => by obtain ⟨q0, q1, q2, q3⟩ := hSw; go_simp⟩) hS2 ?_
          simp only [Act.put, List.setIfInBounds_toArray]
          refine wpAnyH_take (i := 1) (v := .int .i64 (p : Int)) rfl (by kernel_rfl) (by kernel_rfl) (by kernel_rfl) (fun _ _ _ h => h) (Or.inl ⟨by rfl, fun wq hSw => by obtain ⟨q0, q1, q2, q3⟩ := hSw; go_simp⟩) hS2 ?_
          simp only [Act.put]
          refine wpAnyH_take (i := 2) (v := .agg #[.int .i64 kx, .int .i64 vx]) rfl (by kernel_rfl) (by kernel_rfl) (by kernel_rfl) (fun _ _ _ h => h) (Or.inl ⟨by rfl, fun wq hSw => by obtain ⟨q0, q1, q2, q3⟩ := hSw; go_simp⟩) hS2 ?_
          simp only [Act.put]
          refine wpAnyH_take (i := 3) (v := .slice lo ln lc) rfl (by kernel_rfl) (by kernel_rfl) (by kernel_rfl) (fun _ _ _ h => h) (Or.inl ⟨by rfl, fun wq hSw => by obtain ⟨q0, q1, q2, q3⟩ := hSw; go_simp⟩) hS2 ?_
          simp only [Act.put]
          refine wpAnyH_take (i := 4) (v := .func (.func 79) #[] #[.pointer (some ⟨W.heap.size + 1 + 1, 0, none⟩), .pointer (some ⟨W.heap.size + 1, 0, none⟩)]) rfl (by kernel_rfl) (by kernel_rfl) (by kernel_rfl) (fun _ _ _ h => h) (Or.inl ⟨by rfl, fun wq hSw => by obtain ⟨q0, q1, q2, q3⟩ := hSw; go_simp⟩) hS2 ?_
          simp only [Act.put]
          refine wpAnyH_take (i := 5) (v := .func (.func 80) #[] #[.pointer (some ⟨W.heap.size + 1 + 1, 0, none⟩), .pointer (some ⟨W.heap.size, 0, none⟩), .pointer (some ⟨W.heap.size + 1, 0, none⟩)]) rfl (by kernel_rfl) (by kernel_rfl) (by kernel_rfl) (fun _ _ _ h => h) (Or.inl ⟨by rfl, fun wq hSw => by obtain ⟨q0, q1, q2, q3⟩ := hSw; go_simp⟩) hS2 ?_
          simp only [Act.put]
          refine wpAnyH_all (rs := [6]) (by kernel_rfl) (by decide) ?_
          intro i hi
          obtain rfl : i = 6 := by simpa using hi
          refine wpOp_call rfl (by rfl) (by go_simp) hma ?_
          rintro e w3 ⟨rfl, hb3, g0, g1, g2⟩
          obtain ⟨e0, e1, e2, e3⟩ := HC2.out w3 hb3
          refine ⟨_, rfl, ⟨e0, e1, e2, e3⟩, ?_⟩
          simp only [Act.put]
          refine wpAnyH_take (i := 7) (v := .pointer (some ⟨w.heap.size + 1 + 1, p, none⟩)) rfl (by kernel_rfl) (by kernel_rfl) (by kernel_rfl) (fun _ _ _ h => h) (Or.inl ⟨by rfl, fun wq _ => by go_simp⟩) ⟨e0, e1, e2, e3⟩ ?_
          simp only [Act.put]
          refine wpAnyH_all (rs := [8]) (by kernel_rfl) (by decide) ?_
          intro i hi
          obtain rfl : i = 8 := by simpa using hi
          have hco : ∀ z q, z ≠ w.heap.size + 1 + 1 → (w3.setCell ⟨w.heap.size + 1 + 1, p, none⟩ (.bool tv)).cell? ⟨z, q, none⟩ = w3.cell? ⟨z, q, none⟩ := fun z q hz => World.cell?_of_block (w := w3) (Below.heap_setCell w3 _ _ z hz)
          refine wpOp_skip (w' := w3.setCell ⟨w.heap.size + 1 + 1, p, none⟩ (.bool tv)) rfl (by rfl) (by go_simp) ⟨⟨(hco _ _ (by omega)).trans e0, (hco _ _ (by omega)).trans e1, (hco _ _ (by omega)).trans e2, (hco _ _ (by omega)).trans e3⟩, ?_⟩
          refine wpAnyH_done (by kernel_rfl) ?_ _
          have hW4 : w.heap.size + 4 ≤ W.heap.size := by omega
          refine ⟨(keeps_of_below hb3).trans ((KeepsOthers.setCell _ _ _).from _), ⟨(hb3.mono HSt.out.below.size).setCell (by simp; omega) _, (Below.heap_setCell w3 _ _ W1.heap.size (by simp; omega)).trans (hb3.block _ (by omega))⟩, ?_⟩
          show TrSt w _ _ _ _ n (foldB l letter (iniB l claim k) (pre ++ [⟨p, hpn⟩])) _ _
          rw [HNX.out, HE.out]
          exact (HSt.out.later hb3 hW4).put p tv
      case done =>
        rintro D xs W hD rfl hi hK
        have hch := hi.holds
        have HT : Hid (TrSt w (.slice (some ⟨b, off, none⟩) n cap) (.slice (some ⟨B, 0, none⟩) n n) (.slice aao k ac) (.slice lo ln lc) n (tru l letter claim) (W1.heap.size + 1) W) := hi.congr (fun j hj => by rw [HAL.out, foldB_done HZ.out h0n HN.out n (Nat.le_refl _) j hj, if_pos (by omega)])
        clear hi
        gi_wp2
        refine ⟨by simp, .inl ⟨_, _, rfl, run_takeDeferred hK, ?_⟩⟩
        have hb' : Below (W1.heap.size + 1) W (W.putObj D (.deferred none)) := belowK_b (w := W1.alloc (.cells #[.slice (some ⟨b, off, none⟩) n cap] 27)) (by simp) W D _ _ hD hK rfl rfl
        have t' := HT.out.later hb' (by omega)
        exact ⟨_, results_tmp2 rfl _ _ _, _, rfl, t'.below, t'.row, by omega⟩
      case stop =>
        rintro D c pre W _ _ h _
        exact h.elim
end Go.Proofs.YtdlpmomohbdpgaaDoor

/-
  The contract of logic.Truths.
-/
namespace Go.Proofs.YtdlpmomohbdpgaaDoor
open Go.ChangeShapes Go.WideShapes Go.ChangeAt Go.RowKit Go.Deep
open Terms

/-- a formula that was read. -/
def WholeAt (w : World) (v : Value) (B : Nat) (av : Value) (l : List (Int × Int)) : Prop :=
  ∃ b off cap, v = .slice (some ⟨b, off, none⟩) l.length cap ∧ b < w.heap.size ∧ OpsAt w b off l ∧ w.rowIs B 3 l.length (fun q => .int .i64 (endAt (l.map Prod.fst) q)) ∧ IntsV w av (aheadL l)
theorem WholeAt.below {w w' : World} {v : Value} {B : Nat} {av : Value} {l : List (Int × Int)} (h : WholeAt w v B av l) (hb : Below w.heap.size w w') : WholeAt w' v B av l := by
  obtain ⟨b, off, cap, h1, h2, h3, h4, h5⟩ := h
  exact ⟨b, off, cap, h1, Nat.lt_of_lt_of_le h2 hb.size, h3.below hb h2, row_later h4 hb, h5.below hb⟩
/-- a claim that is none. -/
def ClaimNo (l : List (Int × Int)) (claim : Int) : Prop := claim < 0 ∨ 2 ^ (aheadL l).length ≤ claim
/-- What the method leaves. -/
def MethPost (l : List (Int × Int)) (letter : List Bool) (claim : Int) (w : World) (e : Ending) (w' : World) : Prop :=
  Below w.heap.size w w' ∧ (ClaimNo l claim → e = .returned (.tuple #[.slice none 0 0, .int .i64 2])) ∧ (¬ ClaimNo l claim → ∃ bH, e = .returned (.tuple #[.slice (some ⟨bH, 0, none⟩) l.length l.length, .int .i64 0]) ∧ w'.rowIs bH 4 l.length (fun j => .bool (tru l letter claim j)))
theorem meth_any (v : Value) (B : Nat) (av lv : Value) (l : List (Int × Int)) (letter : List Bool) (claim : Int) (w : World) (hc : lcode letter.length l = 0) (hV : WholeAt w v B av l) (hL : BoolsV w lv letter) :
    Calls Tryd.prog 40 #[.agg #[v, .slice (some ⟨B, 0, none⟩) l.length l.length, av], lv, .int .i64 claim] w (MethPost l letter claim w) := by
  obtain ⟨hp0, hp6, hz, hlf, h6⟩ := lcode_zero hc
  obtain ⟨hne, h60⟩ := ends_ne hz
  rw [List.length_map] at h60
  obtain ⟨b, off, cap, rfl, hbl, hat, hrow, hav⟩ := hV
  obtain ⟨aao, ac, rfl, ha⟩ := id hav
  obtain ⟨lo, lc, rfl, hl⟩ := id hL
  by_cases hcl : ClaimNo l claim
  · exact (truths_out _ _ _ _ aao _ ac claim lo _ lc (some ⟨b, off, none⟩) (some ⟨B, 0, none⟩) l.length cap l.length l.length rfl rfl rfl rfl h6 w hcl).mono fun e w' ⟨h1, h2⟩ => ⟨h2, fun _ => h1, fun h => absurd hcl h⟩
  · have h0n : 0 < l.length := by
      cases l with
      | nil => exact absurd rfl hne
      | cons _ _ => simp
    refine (truths_in b off cap l.length B aao _ ac lo _ lc l letter claim w h0n h60 rfl hz hat hbl hrow rfl hav h6 rfl hL hlf (by unfold ClaimNo at hcl; omega) (by unfold ClaimNo at hcl; omega)).mono fun e w' ⟨bH, h1, h2, h3, _⟩ => ⟨h2, fun h => absurd h hcl, fun _ => ⟨bH, h1, h3.out⟩⟩

/-- what Truths answers. -/
noncomputable def tcode (l : List (Int × Int)) (letter : List Bool) (claim : Int) : Int := by classical exact if lcode letter.length l = 0 then (if ClaimNo l claim then 2 else 0) else lcode letter.length l
noncomputable def truL (l : List (Int × Int)) (letter : List Bool) (claim : Int) : List Bool := if tcode l letter claim = 0 then (List.range l.length).map (tru l letter claim) else []
theorem tcode_bad {l : List (Int × Int)} {letter : List Bool} {claim : Int} (h : lcode letter.length l ≠ 0) : tcode l letter claim = lcode letter.length l := by unfold tcode; rw [if_neg h]
theorem tcode_no {l : List (Int × Int)} {letter : List Bool} {claim : Int} (h : lcode letter.length l = 0) (h2 : ClaimNo l claim) : tcode l letter claim = 2 := by unfold tcode; rw [if_pos h, if_pos h2]
theorem tcode_ok {l : List (Int × Int)} {letter : List Bool} {claim : Int} (h : lcode letter.length l = 0) (h2 : ¬ ClaimNo l claim) : tcode l letter claim = 0 := by unfold tcode; rw [if_pos h, if_neg h2]
theorem boolsV_tru {w : World} {bH : Nat} {l : List (Int × Int)} {letter : List Bool} {claim : Int} (h : w.rowIs bH 4 l.length (fun j => .bool (tru l letter claim j))) : BoolsV w (.slice (some ⟨bH, 0, none⟩) l.length l.length) ((List.range l.length).map (tru l letter claim)) := by
  have h2 := boolsV_of_row (w := w) (B := bH) (l := (List.range l.length).map (tru l letter claim)) (by
    rw [List.length_map, List.length_range]
    exact h.congr fun j hj => by simp [List.getD_eq_getElem?_getD, hj])
  rwa [List.length_map, List.length_range] at h2

/-- What read leaves, in one form. -/
theorem lread2 (v : Value) (l : List (Int × Int)) (props : Int) (w : World) (hB : 0 < w.heap.size) (hT : TabAt w) (hV : OpsV w v l) :
    Calls Tryd.prog 34 #[v, .int .i64 props] w fun e w' => Below w.heap.size w w' ∧ (lcode props l ≠ 0 → e = .returned (.tuple #[.agg #[.slice none 0 0, .slice none 0 0, .slice none 0 0], .int .i64 (lcode props l)])) ∧ (lcode props l = 0 → ∃ B aao ac, e = .returned (.tuple #[.agg #[v, .slice (some ⟨B, 0, none⟩) l.length l.length, .slice aao (aheadL l).length ac], .int .i64 0]) ∧ Hid (WholeAt w' v B (.slice aao (aheadL l).length ac) l)) := by
  refine (lread_any v l props w hB hT hV).mono fun e w' ⟨h1, h2, h3⟩ => ⟨h1, h2, fun hz => ?_⟩
  obtain ⟨B, av, _, he, hrow, ho⟩ := h3 hz
  obtain ⟨aao, ac, rfl⟩ := owns_slice ho
  obtain ⟨_, _, hze, _, _⟩ := lcode_zero hz
  obtain ⟨hne, _⟩ := ends_ne hze
  obtain ⟨b, off, hat⟩ : ∃ b off, (∃ cap, v = .slice (some ⟨b, off, none⟩) l.length cap) ∧ b < w'.heap.size ∧ OpsAt w' b off l := by
    obtain ⟨ao, cap, rfl, _, h⟩ := hV.below h1
    obtain ⟨b, off, rfl, hlt, hat⟩ := h (by rintro rfl; exact hne rfl)
    exact ⟨b, off, ⟨cap, rfl⟩, hlt, hat⟩
  obtain ⟨⟨cap, hv⟩, hlt, hat⟩ := hat
  exact ⟨B, aao, ac, he, b, off, cap, hv, hlt, hat, hrow, intsV_of_owns ho⟩

set_option maxHeartbeats 800000 in
set_option maxRecDepth 20000 in
/-- THE CONTRACT OF logic.Truths. -/
theorem ltruths_any (v lv : Value) (l : List (Int × Int)) (letter : List Bool) (claim : Int) (w : World) (hB : 0 < w.heap.size) (hT : TabAt w) (hV : OpsV w v l) (hL : BoolsV w lv letter) :
    Calls Tryd.prog 23 #[v, lv, .int .i64 claim] w fun e w' => ∃ v', e = .returned (.tuple #[v', .int .i64 (tcode l letter claim)]) ∧ Below w.heap.size w w' ∧ BoolsV w' v' (truL l letter claim) := by
  have hrd := lread2 v l letter.length w hB hT hV
  obtain ⟨lo, lc, rfl, hl⟩ := id hL
  obtain ⟨oo, oc, rfl, _⟩ := id hV
  by_cases hc : lcode letter.length l = 0
  · have HM : Hid (∀ w1 B aao ac, Below w.heap.size w w1 → WholeAt w1 (.slice oo l.length oc) B (.slice aao (aheadL l).length ac) l → ∀ o, Calls Tryd.prog 40 #[.agg #[.slice oo l.length oc, .slice (some ⟨B, 0, none⟩) l.length l.length, .slice aao (aheadL l).length ac], .slice lo letter.length lc, .int .i64 claim] (w1.alloc o) fun e w' => ∃ ro rn rc, e = .returned (.tuple #[.slice ro rn rc, .int .i64 (tcode l letter claim)]) ∧ Below w1.heap.size w1 w' ∧ Hid (BoolsV w' (.slice ro rn rc) (truL l letter claim))) := fun w1 B aao ac hb hW o => by
      have hA : Below w1.heap.size w1 (w1.alloc o) := (Below.refl _ _).alloc (Nat.le_refl _) o
      refine (meth_any _ B _ _ l letter claim (w1.alloc o) hc (hW.below hA) ((hL.below hb).below hA)).mono fun e w' ⟨h1, h2, h3⟩ => ?_
      have h1' := hA.trans (h1.mono hA.size)
      by_cases hn : ClaimNo l claim
      · exact ⟨none, 0, 0, by rw [tcode_no hc hn]; exact h2 hn, h1', by show BoolsV _ _ _; unfold truL; rw [tcode_no hc hn]; exact ⟨none, 0, rfl, fun h => absurd rfl h⟩⟩
      · obtain ⟨bH, he, hr⟩ := h3 hn
        exact ⟨_, _, _, by rw [tcode_ok hc hn]; exact he, h1', by show BoolsV _ _ _; unfold truL; rw [tcode_ok hc hn]; exact boolsV_tru hr⟩
    have hrd2 : Calls Tryd.prog 34 #[.slice oo l.length oc, .int .i64 (letter.length : Int)] w fun e w' => Below w.heap.size w w' ∧ ∃ B aao ac, e = .returned (.tuple #[.agg #[.slice oo l.length oc, .slice (some ⟨B, 0, none⟩) l.length l.length, .slice aao (aheadL l).length ac], .int .i64 0]) ∧ Hid (WholeAt w' (.slice oo l.length oc) B (.slice aao (aheadL l).length ac) l) := hrd.mono fun e w' ⟨h1, _, h3⟩ => ⟨h1, h3 hc⟩
    generalize tcode l letter claim = x at *
    generalize truL l letter claim = res at *
    generalize (aheadL l).length = an at *
    generalize letter.length = ln at *
    generalize l.length = n at *
    clear hrd hT hV hL hl hc
    go_enter Tryd.func23, Tryd.ntmps23
    go_wp2_with (first | (go_at_call 34; refine hrd2.mono ?_; rintro e w1 ⟨hb1, B, aao, ac, rfl, HW⟩; have hme := HM.out w1 B aao ac hb1 HW.out) | (go_at_call 40; refine (hme _).mono ?_; rintro e w2 ⟨ro, rn, rc, rfl, hb2, HR⟩))
    go_ret2
    exact ⟨_, rfl, hb1.trans (hb2.mono hb1.size), HR.out⟩
  · have hrd2 : Calls Tryd.prog 34 #[.slice oo l.length oc, .int .i64 (letter.length : Int)] w fun e w' => Below w.heap.size w w' ∧ e = .returned (.tuple #[.agg #[.slice none 0 0, .slice none 0 0, .slice none 0 0], .int .i64 (lcode letter.length l)]) := hrd.mono fun e w' ⟨h1, h2, _⟩ => ⟨h1, h2 hc⟩
    have HX : Hid (tcode l letter claim = lcode letter.length l ∧ truL l letter claim = []) := ⟨tcode_bad hc, by unfold truL; rw [if_neg (by rw [tcode_bad hc]; exact hc)]⟩
    rw [HX.out.1, HX.out.2]
    generalize lcode letter.length l = x at *
    generalize letter.length = ln at *
    generalize l.length = n at *
    clear hrd hT hV hL hl HX
    go_enter Tryd.func23, Tryd.ntmps23
    go_wp2_with (go_at_call 34; refine hrd2.mono ?_; rintro e w1 ⟨hb1, rfl⟩)
    go_ret2
    exact ⟨_, rfl, by first | exact hb1 | exact hb1.alloc hb1.size _, none, 0, rfl, fun h => absurd rfl h⟩
end Go.Proofs.YtdlpmomohbdpgaaDoor

/-
  Plain mathematics of states and their codes. Nothing of the program is named here.
-/
namespace Go.Proofs.YtdlpmomohbdpgaaDoor
open Terms Tm

theorem wr64 {x : Int} (h1 : -9223372036854775808 ≤ x) (h2 : x ≤ 9223372036854775807) : IntKind.i64.wrap x = x := by
  rw [IntWalk.i64_left]
  exact IntWalk.wrap64_in x ⟨h1, h2⟩
/-- the product of so many spans from a place on. -/
def prodSeg (l : List Vr) (a : Nat) : Nat → Int
  | 0 => 1
  | c + 1 => prodSeg l a c * vspan (l.getD (a + c) vr0)
theorem prodSeg_zero (l : List Vr) (i : Nat) : prodSeg l 0 i = prodTo l i := by
  induction i with
  | zero => rfl
  | succ i ih => simp only [prodSeg, prodTo, ih, Nat.zero_add]
theorem prodSeg_first (l : List Vr) (a c : Nat) : prodSeg l a (c + 1) = vspan (l.getD a vr0) * prodSeg l (a + 1) c := by
  induction c with
  | zero => simp [prodSeg]
  | succ c ih =>
    rw [prodSeg, ih, prodSeg, Int.mul_assoc, show a + (c + 1) = a + 1 + c by omega]
theorem prodTo_seg (l : List Vr) (a c : Nat) : prodTo l a * prodSeg l a c = prodTo l (a + c) := by
  induction c with
  | zero => simp [prodSeg]
  | succ c ih =>
    rw [prodSeg, ← Int.mul_assoc, ih]
    rfl
/-- what the variables from a place on make. -/
def segP (l : List Vr) (i : Nat) : Int := prodSeg l i (l.length - i)
theorem segP_step {l : List Vr} {i : Nat} (h : i < l.length) : segP l i = vspan (l.getD i vr0) * segP l (i + 1) := by
  unfold segP
  rw [show l.length - i = (l.length - (i + 1)) + 1 by omega, prodSeg_first]
theorem segP_end (l : List Vr) : segP l l.length = 1 := by simp [segP, prodSeg]
theorem segP_zero (l : List Vr) : segP l 0 = prodTo l l.length := by simp [segP, prodSeg_zero]
theorem prodSeg_pos {l : List Vr} (h : VarsOk l) {a c : Nat} (hc : a + c ≤ l.length) : 1 ≤ prodSeg l a c := by
  induction c with
  | zero => simp [prodSeg]
  | succ c ih =>
    have h1 := ih (by omega)
    have h2 := (h.at (j := a + c) (by omega)).1
    have := Int.mul_le_mul h1 h2 (by omega) (by omega)
    simpa [prodSeg] using this
theorem prodSeg_le {l : List Vr} (h : VarsOk l) {a c : Nat} (hc : a + c ≤ l.length) : prodSeg l a c ≤ 4096 := by
  have h1 := h.prod (j := a + c) hc
  have h2 := h.prod (j := a) (by omega)
  have h3 := prodSeg_pos h hc
  rw [← prodTo_seg] at h1
  have := Int.mul_le_mul h2.1 (Int.le_refl (prodSeg l a c)) (by omega) (by omega)
  omega
theorem segP_bounds {l : List Vr} (h : VarsOk l) {i : Nat} (hi : i ≤ l.length) : 1 ≤ segP l i ∧ segP l i ≤ 4096 := ⟨prodSeg_pos h (by omega), prodSeg_le h (by omega)⟩

/-! ### codes of values -/

def dig (l : List Vr) (vals : List Int) (i : Nat) : Int := vals.getD i 0 - (l.getD i vr0).lo
def inB (l : List Vr) (vals : List Int) (i : Nat) : Prop := (l.getD i vr0).lo ≤ vals.getD i 0 ∧ vals.getD i 0 ≤ (l.getD i vr0).hi
def codeTo (l : List Vr) (vals : List Int) : Nat → Int
  | 0 => 0
  | k + 1 => codeTo l vals k * vspan (l.getD k vr0) + dig l vals k
def sumTo (l : List Vr) (vals : List Int) : Nat → Int
  | 0 => 0
  | k + 1 => sumTo l vals k + dig l vals k * segP l (k + 1)
theorem dig_bounds {l : List Vr} {vals : List Int} (h : VarsOk l) {i : Nat} (hi : i < l.length) (hb : inB l vals i) : 0 ≤ dig l vals i ∧ dig l vals i < vspan (l.getD i vr0) ∧ dig l vals i ≤ 63 := by
  have := h.at hi
  unfold inB at hb
  unfold dig
  unfold vspan at *
  omega
theorem code_bounds {l : List Vr} {vals : List Int} (h : VarsOk l) {k : Nat} (hk : k ≤ l.length) (hb : ∀ i, i < k → inB l vals i) : 0 ≤ codeTo l vals k ∧ codeTo l vals k < prodTo l k := by
  induction k with
  | zero => simp [codeTo, prodTo]
  | succ k ih =>
    obtain ⟨h1, h2⟩ := ih (by omega) (fun i hi => hb i (by omega))
    obtain ⟨h3, h4, _⟩ := dig_bounds h (by omega) (hb k (by omega))
    have h5 := (h.at (j := k) (by omega)).1
    simp only [codeTo, prodTo]
    have h6 : 0 ≤ codeTo l vals k * vspan (l.getD k vr0) := Int.mul_nonneg h1 (by omega)
    have h7 : (codeTo l vals k + 1) * vspan (l.getD k vr0) ≤ prodTo l k * vspan (l.getD k vr0) := Int.mul_le_mul_of_nonneg_right (by omega) (by omega)
    rw [Int.add_mul, Int.one_mul] at h7
    omega
theorem sum_code {l : List Vr} {vals : List Int} {k : Nat} (hk : k ≤ l.length) : sumTo l vals k = codeTo l vals k * segP l k := by
  induction k with
  | zero => simp [sumTo, codeTo]
  | succ k ih =>
    simp only [sumTo, codeTo]
    rw [ih (by omega), segP_step (by omega), Int.add_mul, Int.mul_assoc]
theorem sum_all (l : List Vr) (vals : List Int) : sumTo l vals l.length = codeTo l vals l.length := by
  rw [sum_code (Nat.le_refl _), segP_end, Int.mul_one]
theorem sum_bounds {l : List Vr} {vals : List Int} (h : VarsOk l) {k : Nat} (hk : k ≤ l.length) (hb : ∀ i, i < k → inB l vals i) : 0 ≤ sumTo l vals k ∧ sumTo l vals k ≤ 4096 := by
  obtain ⟨h1, h2⟩ := code_bounds h hk hb
  obtain ⟨h3, h4⟩ := segP_bounds h hk
  have h5 := h.prod (j := l.length) (Nat.le_refl _)
  have h6 : prodTo l k * segP l k = prodTo l l.length := by unfold segP; rw [prodTo_seg, show k + (l.length - k) = l.length by omega]
  rw [sum_code hk]
  refine ⟨Int.mul_nonneg h1 (by omega), ?_⟩
  have h7 : codeTo l vals k * segP l k ≤ prodTo l k * segP l k := Int.mul_le_mul_of_nonneg_right (by omega) (by omega)
  omega

/-! ### values of codes -/

def valAt (l : List Vr) (code : Int) (i : Nat) : Int := (l.getD i vr0).lo + (code / segP l (i + 1)) % vspan (l.getD i vr0)
theorem quo_step {l : List Vr} (h : VarsOk l) (code : Int) {i : Nat} (hi : i < l.length) : code / segP l (i + 1) / vspan (l.getD i vr0) = code / segP l i := by
  have h1 := (segP_bounds h (i := i + 1) (by omega)).1
  rw [segP_step hi, Int.ediv_ediv_of_nonneg (by omega), Int.mul_comm]
theorem mod_div (x s p : Int) (hp : 0 < p) : (x % (s * p)) / p = (x / p) % s := by
  rw [Int.emod_def x (s * p), Int.emod_def (x / p) s, Int.ediv_ediv_of_nonneg (by omega), Int.mul_comm s p, Int.mul_assoc]
  rw [Int.sub_mul_ediv_left _ _ (by omega)]
theorem valAt_ref {l : List Vr} (h : VarsOk l) (code : Int) {i : Nat} (hi : i < l.length) : (l.getD i vr0).lo + (code % segP l i) / segP l (i + 1) = valAt l code i := by
  have h1 := (segP_bounds h (i := i + 1) (by omega)).1
  rw [segP_step hi, mod_div _ _ _ (by omega)]
  rfl
theorem mod_step {l : List Vr} (code : Int) {i : Nat} (hi : i < l.length) : (code % segP l i) % segP l (i + 1) = code % segP l (i + 1) := by
  rw [segP_step hi, Int.mul_comm, Int.emod_emod_of_dvd]
  exact ⟨_, rfl⟩
theorem valAt_in {l : List Vr} (h : VarsOk l) (code : Int) {i : Nat} (hi : i < l.length) : (l.getD i vr0).lo ≤ valAt l code i ∧ valAt l code i ≤ (l.getD i vr0).hi := by
  have h1 := (h.at hi).1
  have h2 := Int.emod_nonneg (code / segP l (i + 1)) (show vspan (l.getD i vr0) ≠ 0 by omega)
  have h3 := Int.emod_lt_of_pos (code / segP l (i + 1)) (show 0 < vspan (l.getD i vr0) by omega)
  unfold valAt
  unfold vspan at *
  omega
def valsL (l : List Vr) (code : Int) : List Int := (List.range l.length).map (valAt l code)
def initsL (l : List Vr) : List Int := l.map Vr.ini
theorem inits_in {l : List Vr} (h : VarsOk l) : ∀ i, i < l.length → inB l (initsL l) i := by
  intro i hi
  have := h.at hi
  unfold inB initsL
  rw [show (l.map Vr.ini).getD i 0 = (l.getD i vr0).ini by simp [List.getD_eq_getElem?_getD, hi]]
  omega
end Go.Proofs.YtdlpmomohbdpgaaDoor

/-
  What Code answers; slices of numbers at a place.
-/
namespace Go.Proofs.YtdlpmomohbdpgaaDoor
open Go.ChangeShapes Go.WideShapes Go.ChangeAt Go.RowKit Go.Deep
open Terms Tm

theorem IntsV.shape {w : World} {v : Value} {l : List Int} (h : IntsV w v l) : ∃ ao cap, v = .slice ao l.length cap := by
  obtain ⟨ao, cap, h1, _⟩ := h
  exact ⟨ao, cap, h1⟩
theorem IntsV.at {w : World} {ao : Option Addr} {cap n : Nat} {l : List Int} (h : IntsV w (.slice ao n cap) l) {i : Nat} (hi : i < l.length) : ∃ b off, ao = some ⟨b, off, none⟩ ∧ b < w.heap.size ∧ w.cell? ⟨b, off + i, none⟩ = some (.int .i64 (l.getD i 0)) := by
  obtain ⟨ao', cap', h1, h3⟩ := h
  injection h1 with e1 e2 e3
  subst e1
  obtain ⟨b, off, e, hb, hh⟩ := h3 (by intro h; subst h; simp at hi)
  exact ⟨b, off, e, hb, hh i hi⟩

open Classical in
/-- with what Code refuses. -/
noncomputable def ccode (m : Mo) (vals : List Int) : Int := if mcode m = 0 then (if vals.length = m.vars.length ∧ ∀ i, i < m.vars.length → inB m.vars vals i then 0 else 9) else mcode m
noncomputable def cval (m : Mo) (vals : List Int) : Int := if ccode m vals = 0 then codeTo m.vars vals m.vars.length else 0
theorem ccode_bad {m : Mo} {vals : List Int} (h : mcode m ≠ 0) : ccode m vals = mcode m := by unfold ccode; rw [if_neg h]
theorem ccode_no {m : Mo} {vals : List Int} (h : mcode m = 0) (h2 : ¬ (vals.length = m.vars.length ∧ ∀ i, i < m.vars.length → inB m.vars vals i)) : ccode m vals = 9 := by unfold ccode; rw [if_pos h, if_neg h2]
theorem ccode_yes {m : Mo} {vals : List Int} (h : mcode m = 0) (h2 : vals.length = m.vars.length ∧ ∀ i, i < m.vars.length → inB m.vars vals i) : ccode m vals = 0 := by unfold ccode; rw [if_pos h, if_pos h2]

end Go.Proofs.YtdlpmomohbdpgaaDoor

/-
  What Values answers.
-/
namespace Go.Proofs.YtdlpmomohbdpgaaDoor
open Go.ChangeShapes Go.WideShapes Go.ChangeAt Go.RowKit Go.Deep
open Terms Tm

/-- with what Values refuses. -/
noncomputable def wcode (m : Mo) (code : Int) : Int := if mcode m = 0 then (if 0 ≤ code ∧ code < prodTo m.vars m.vars.length then 0 else 9) else mcode m
theorem wcode_bad {m : Mo} {code : Int} (h : mcode m ≠ 0) : wcode m code = mcode m := by unfold wcode; rw [if_neg h]
theorem wcode_no {m : Mo} {code : Int} (h : mcode m = 0) (h2 : ¬ (0 ≤ code ∧ code < prodTo m.vars m.vars.length)) : wcode m code = 9 := by unfold wcode; rw [if_pos h, if_neg h2]
theorem wcode_yes {m : Mo} {code : Int} (h : mcode m = 0) (h2 : 0 ≤ code ∧ code < prodTo m.vars m.vars.length) : wcode m code = 0 := by unfold wcode; rw [if_pos h, if_pos h2]


theorem intsV_of_row {w : World} {B n : Nat} {f : Nat → Int} (h : w.rowIs B 3 n (fun j => .int .i64 (f j))) : IntsV w (.slice (some ⟨B, 0, none⟩) n n) ((List.range n).map f) := by
  refine ⟨some ⟨B, 0, none⟩, n, by simp, fun _ => ⟨B, 0, rfl, h.lt, fun i hi => ?_⟩⟩
  simp only [List.length_map, List.length_range] at hi
  rw [Nat.zero_add, h.cell hi]
  simp [List.getD_eq_getElem?_getD, hi]
/-- what Values answers. -/
noncomputable def wvals (m : Mo) (code : Int) : List Int := if wcode m code = 0 then valsL m.vars code else []
end Go.Proofs.YtdlpmomohbdpgaaDoor

/-
  The contracts of package expr's pairMakers, of the functions that it hands out, and of tooGreat and truth.
-/
namespace Go.Proofs.YtdlpmomohbdpgaaDoor
open Go.ChangeShapes Go.WideShapes Go.ChangeAt Go.RowKit Go.Deep Go.Maps
open Terms Tm

theorem tooGreat_any (x : Int) (w : World) :
    Calls Tryd.prog 75 #[.int .i64 x] w fun e w' => e = .returned (.bool (decide (¬ (-1000000 ≤ x ∧ x ≤ 1000000)))) ∧ w' = w := by
  by_cases h1 : x < -1000000
  · rw [show decide (¬ (-1000000 ≤ x ∧ x ≤ 1000000)) = true by simp; omega]
    go_enter Tryd.func75, Tryd.ntmps75
    go_wp2
    all_goals go_ret
    all_goals exact ⟨rfl, rfl⟩
  · by_cases h2 : 1000000 < x
    · rw [show decide (¬ (-1000000 ≤ x ∧ x ≤ 1000000)) = true by simp; omega]
      go_enter Tryd.func75, Tryd.ntmps75
      go_wp2
      all_goals go_ret
      all_goals exact ⟨rfl, rfl⟩
    · rw [show decide (¬ (-1000000 ≤ x ∧ x ≤ 1000000)) = false by simp; omega]
      go_enter Tryd.func75, Tryd.ntmps75
      go_wp2
      all_goals go_ret
      all_goals exact ⟨rfl, rfl⟩

theorem truth_fn (c : Bool) (w : World) :
    Calls Tryd.prog 94 #[.bool c] w fun e w' => e = .returned (.int .i64 (if c = true then 1 else 0)) ∧ w' = w := by
  cases c
  all_goals
    go_enter Tryd.func94, Tryd.ntmps94
    go_wp2
    all_goals go_ret
    all_goals exact ⟨rfl, rfl⟩

/-- which function stands at a kind. -/
def pairFn (k : Int) : Nat := if k = 3 then 90 else if k = 4 then 91 else if k = 5 then 92 else if k = 6 then 93 else if k = 7 then 95 else if k = 8 then 96 else 97

theorem abs_le {x : Int} (h : -1000000 ≤ x ∧ x ≤ 1000000) : x.natAbs ≤ 1000000 := by omega
theorem mul_le {x y : Int} (hx : -1000000 ≤ x ∧ x ≤ 1000000) (hy : -1000000 ≤ y ∧ y ≤ 1000000) : -1000000000000 ≤ x * y ∧ x * y ≤ 1000000000000 := by
  have h := Nat.mul_le_mul (abs_le hx) (abs_le hy)
  rw [← Int.natAbs_mul] at h
  omega
set_option maxHeartbeats 800000 in
set_option maxRecDepth 20000 in
theorem pair_any (k x y : Int) (w : World) (h3 : 3 ≤ k) (h9 : k ≤ 9) (hx : -1000000 ≤ x ∧ x ≤ 1000000) (hy : -1000000 ≤ y ∧ y ≤ 1000000) (ht : 8 ≤ k → (x = 0 ∨ x = 1) ∧ (y = 0 ∨ y = 1)) :
    Calls Tryd.prog (pairFn k) #[.int .i64 x, .int .i64 y] w fun e w' => e = .returned (.int .i64 (bin k x y)) ∧ w' = w := by
  have hk : k = 3 ∨ k = 4 ∨ k = 5 ∨ k = 6 ∨ k = 7 ∨ k = 8 ∨ k = 9 := by omega
  have hm := mul_le hx hy
  obtain ⟨hm1, hm2⟩ := hm
  obtain ⟨hx1, hx2⟩ := hx
  obtain ⟨hy1, hy2⟩ := hy
  clear h3 h9
  rcases hk with rfl | rfl | rfl | rfl | rfl | rfl | rfl
  · show Calls Tryd.prog 90 _ _ _
    clear ht
    go_enter Tryd.func90, Tryd.ntmps90
    go_wp2
    go_ret
    exact ⟨rfl, rfl⟩
  · show Calls Tryd.prog 91 _ _ _
    clear ht
    go_enter Tryd.func91, Tryd.ntmps91
    go_wp2
    go_ret
    exact ⟨rfl, rfl⟩
  · show Calls Tryd.prog 92 _ _ _
    clear ht
    go_enter Tryd.func92, Tryd.ntmps92
    go_wp2
    go_ret
    exact ⟨rfl, rfl⟩
  · show Calls Tryd.prog 93 _ _ _
    clear ht
    have htr := fun w => truth_fn (x == y) w
    have hb : bin 6 x y = if (x == y) = true then 1 else 0 := by simp [bin]
    rw [← hb] at htr
    generalize bin 6 x y = z at htr ⊢
    clear hb
    go_enter Tryd.func93, Tryd.ntmps93
    go_wp2_with (go_at_call 94; refine (htr _).mono ?_; rintro e w1 ⟨rfl, rfl⟩)
    go_ret
    exact ⟨rfl, rfl⟩
  · show Calls Tryd.prog 95 _ _ _
    clear ht
    by_cases hc : x < y
    · have htr := fun w => truth_fn true w
      have hb : bin 7 x y = 1 := by simp [bin, hc]
      rw [hb]
      clear hb
      go_enter Tryd.func95, Tryd.ntmps95
      go_wp2_with (go_at_call 94; refine (htr _).mono ?_; rintro e w1 ⟨rfl, rfl⟩)
      go_ret
      exact ⟨rfl, rfl⟩
    · have htr := fun w => truth_fn false w
      have hb : bin 7 x y = 0 := by simp [bin, hc]
      rw [hb]
      clear hb
      go_enter Tryd.func95, Tryd.ntmps95
      go_wp2_with (go_at_call 94; refine (htr _).mono ?_; rintro e w1 ⟨rfl, rfl⟩)
      go_ret
      exact ⟨rfl, rfl⟩
  · show Calls Tryd.prog 96 _ _ _
    obtain ⟨ha, hb⟩ := ht (by decide)
    clear ht hm1 hm2 hx1 hx2 hy1 hy2
    rcases ha with rfl | rfl <;> rcases hb with rfl | rfl
    all_goals
      go_enter Tryd.func96, Tryd.ntmps96
      go_wp2
      go_ret
      exact ⟨rfl, rfl⟩
  · show Calls Tryd.prog 97 _ _ _
    obtain ⟨ha, hb⟩ := ht (by decide)
    clear ht hm1 hm2 hx1 hx2 hy1 hy2
    rcases ha with rfl | rfl <;> rcases hb with rfl | rfl
    all_goals
      go_enter Tryd.func97, Tryd.ntmps97
      go_wp2
      go_ret
      exact ⟨rfl, rfl⟩

/-! ### the map of functions -/

/-- how a function without what it captured reads: by its number. -/
def fnElem : Value → Option (DataW Unit × List MemPlace)
  | .func (.func f) first cap => if first = #[] ∧ cap = #[] then some (.lit (.int .i64 f), []) else none
  | .nilFunc => some (.nil, [])
  | _ => none
theorem fnElem_inv {v : Value} {f : Nat} {ps : List MemPlace} (h : fnElem v = some (.lit (.int .i64 f), ps)) : v = .func (.func f) #[] #[] := by
  unfold fnElem at h
  split at h
  · split at h
    · rename_i hc
      obtain ⟨rfl, rfl⟩ := hc
      simp at h
      rw [Int.ofNat.inj h.1]
    · simp at h
  · simp at h
  · simp at h
/-- a function of the program is put into a map of the call's own. -/
theorem wpList_insert_own {H : Type} {P : Program} (w : World) {ops : Array Oper} {rest : List Oper} {o : Oper} {a : Act} {Q : Exit → Act → World → Prop}
    (hg : o.guard = none) (m x v : Operand) (t : TypeId) (hop : o.op = Op.insert t m x v)
    (k e : TypeId) (K : Keyed P k) (ht : P.underlying t = some (.map k e)) (R : Value → Option (DataW H × List MemPlace)) (b n : Nat) (D : DataW H)
    (hm : a.eval m = .map (some b)) (hown : w.ownsMap P k R b n D) (hn : n < maxLen) (key val : Value) (kl : Lit) (hx : a.eval x = key) (hv : a.eval v = val) (hkey : keyOf P k key = some kl)
    (d : DataW H) (ps : List MemPlace) (hval : R val = some (d, ps))
    (hK : ∀ w', w'.ownsMap P k R b (n + 1) (D.put kl d) → w.grownBy w' (some b) → wpList P ops Q rest (a.put o.dst undef) w') :
    wpList P ops Q (o :: rest) a w := by
  refine wpList_plain hg fun K' hK' => ?_
  obtain ⟨w', hrun, r1, r2⟩ := hown.update K ht hn hkey hval
  unfold Oper.wp
  simp [execOp, hop, hm, hx, hv, hrun, Result.andThen]
  exact hK' _ _ (hK w' r1 r2)

def pairD : Nat → DataW Unit
  | 0 => .map []
  | n + 1 => (pairD n).put (.int .i64 ((n : Int) + 3)) (.lit (.int .i64 (pairFn ((n : Int) + 3))))
def PairsAt (w : World) (M : Nat) : Prop := w.ownsMap Tryd.prog 3 fnElem M 7 (pairD 7)
theorem PairsAt.later {w w' : World} {M : Nat} (h : PairsAt w M) (hb : Below w.heap.size w w') : PairsAt w' M := by
  have hlt := World.ownsMap.lt h
  obtain ⟨es, clock, h1, h2⟩ := h
  exact ⟨es, clock, (hb.block M hlt).trans h1, h2⟩
theorem keyInt : Keyed Tryd.prog 3 := int_keyed Tryd.underlying3
theorem key3 (k : Int) (h : 3 ≤ k ∧ k ≤ 9) : keyOf Tryd.prog 3 (.int .i64 k) = some (.int .i64 k) := keyOf_int_mk Tryd.underlying3 (WalkArith.wf_i64 (by omega))
theorem PairsAt.look {w : World} {M : Nat} (h : PairsAt w M) {k : Int} (h3 : 3 ≤ k) (h9 : k ≤ 9) :
    (Instr.lookup 115 (.map (some M)) (.int .i64 k) false).run Tryd.prog w = .ok (.func (.func (pairFn k)) #[] #[]) w := by
  obtain ⟨v, ps, hrun, hv⟩ := World.ownsMap.lookup h keyInt Tryd.underlying115 (z := .nilFunc) (by kernel_rfl) (zd := .nil) (zp := []) rfl (key3 k ⟨h3, h9⟩)
  have hat : (pairD 7).atKey (.int .i64 k) .nil = .lit (.int .i64 (pairFn k)) := by
    have hk : k = 3 ∨ k = 4 ∨ k = 5 ∨ k = 6 ∨ k = 7 ∨ k = 8 ∨ k = 9 := by omega
    rcases hk with rfl | rfl | rfl | rfl | rfl | rfl | rfl <;> rfl
  rw [hat] at hv
  rw [hrun, fnElem_inv hv]

set_option maxHeartbeats 1600000 in
set_option maxRecDepth 20000 in
/-- THE CONTRACT OF pairMakers. -/
theorem pairMakers_any (w : World) :
    Calls Tryd.prog 76 #[] w fun e w' => ∃ M, w.heap.size ≤ M ∧ e = .returned (.map (some M)) ∧ PairsAt w' M ∧ Below w.heap.size w w' := by
  have hmm := @run_makeMap Tryd.prog
  have h0 := World.ownsMap_made w Tryd.prog 3 fnElem
  go_enter Tryd.func76, Tryd.ntmps76
  go_wp2_with (first
    | (refine wpList_insert_own _ rfl _ _ _ 115 rfl 3 125 keyInt Tryd.underlying115 fnElem w.heap.size 6 _ rfl h6 (by unfold maxLen; omega) _ _ _ rfl rfl (key3 9 (by omega)) _ [] rfl ?_; intro w7 h7 g7)
    | (refine wpList_insert_own _ rfl _ _ _ 115 rfl 3 125 keyInt Tryd.underlying115 fnElem w.heap.size 5 _ rfl h5 (by unfold maxLen; omega) _ _ _ rfl rfl (key3 8 (by omega)) _ [] rfl ?_; intro w6 h6 g6)
    | (refine wpList_insert_own _ rfl _ _ _ 115 rfl 3 125 keyInt Tryd.underlying115 fnElem w.heap.size 4 _ rfl h4 (by unfold maxLen; omega) _ _ _ rfl rfl (key3 7 (by omega)) _ [] rfl ?_; intro w5 h5 g5)
    | (refine wpList_insert_own _ rfl _ _ _ 115 rfl 3 125 keyInt Tryd.underlying115 fnElem w.heap.size 3 _ rfl h3 (by unfold maxLen; omega) _ _ _ rfl rfl (key3 6 (by omega)) _ [] rfl ?_; intro w4 h4 g4)
    | (refine wpList_insert_own _ rfl _ _ _ 115 rfl 3 125 keyInt Tryd.underlying115 fnElem w.heap.size 2 _ rfl h2 (by unfold maxLen; omega) _ _ _ rfl rfl (key3 5 (by omega)) _ [] rfl ?_; intro w3 h3 g3)
    | (refine wpList_insert_own _ rfl _ _ _ 115 rfl 3 125 keyInt Tryd.underlying115 fnElem w.heap.size 1 _ rfl h1 (by unfold maxLen; omega) _ _ _ rfl rfl (key3 4 (by omega)) _ [] rfl ?_; intro w2 h2 g2)
    | (refine wpList_insert_own _ rfl _ _ _ 115 rfl 3 125 keyInt Tryd.underlying115 fnElem w.heap.size 0 _ rfl h0 (by unfold maxLen; omega) _ _ _ rfl rfl (key3 3 (by omega)) _ [] rfl ?_; intro w1 h1 g1))
  go_ret
  have hb0 : Below w.heap.size w (w.alloc (.map #[] 0)) := (Below.refl _ _).alloc (Nat.le_refl _) _
  have hb : ∀ {x y : World}, Below w.heap.size w x → x.grownBy y (some w.heap.size) → Below w.heap.size w y := fun h g => h.grown g h.size (fun j hj => by cases hj; exact Nat.le_refl _)
  exact ⟨w.heap.size, Nat.le_refl _, rfl, h7, hb (hb (hb (hb (hb (hb (hb hb0 g1) g2) g3) g4) g5) g6) g7⟩
end Go.Proofs.YtdlpmomohbdpgaaDoor

/-
  The contract of package expr's (work).at.
-/
namespace Go.Proofs.YtdlpmomohbdpgaaDoor
open Go.ChangeShapes Go.WideShapes Go.ChangeAt Go.RowKit Go.Deep
open Terms Tm

/-- what the work leans on: ops, their ends, the values, the functions. -/
structure WorkAt (w : World) (b off B : Nat) (eao : Option Addr) (M : Nat) (t : Tm) (env : List Int) : Prop where
  ob : b < w.heap.size
  ops : OpsAt w b off t.ops
  ends : w.rowIs B 3 t.size (fun q => .int .i64 (endAt (t.ops.map Prod.fst) q))
  env : ∀ i, i < env.length → ∃ eb eoff, eao = some ⟨eb, eoff, none⟩ ∧ eb < w.heap.size ∧ w.cell? ⟨eb, eoff + i, none⟩ = some (.int .i64 (env.getD i 0))
  pairs : PairsAt w M
theorem WorkAt.later {w w' : World} {b off B : Nat} {eao : Option Addr} {M : Nat} {t : Tm} {env : List Int} (h : WorkAt w b off B eao M t env) (hb : Below w.heap.size w w') : WorkAt w' b off B eao M t env := by
  obtain ⟨h1, h2, h3, h4, h5⟩ := h
  refine ⟨Nat.lt_of_lt_of_le h1 hb.size, h2.below hb h1, h3.of_block (hb.block B h3.lt), fun i hi => ?_, h5.later hb⟩
  obtain ⟨eb, eoff, e1, e2, e3⟩ := h4 i hi
  exact ⟨eb, eoff, e1, Nat.lt_of_lt_of_le e2 hb.size, (hb.cell (p := ⟨eb, eoff + i, none⟩) e2).trans e3⟩

/-- what the work on a tree leaves: a number, or it has given up. -/
def AtPost (r : Option Int) (w : World) (e : Ending) (w' : World) : Prop :=
  Below w.heap.size w w' ∧ match r with
    | some x => e = .returned (.int .i64 x)
    | none => e = .panicked [{ v := .iface 31 (.int .i64 8), recovered := false }]


abbrev workV (b off n cap B : Nat) (eao : Option Addr) (en ecap M : Nat) : Value := .agg #[.slice (some ⟨b, off, none⟩) n cap, .slice (some ⟨B, 0, none⟩) n n, .slice eao en ecap, .map (some M)]

set_option maxHeartbeats 400000 in
theorem at_num (b off n cap B : Nat) (eao : Option Addr) (en ecap M place : Nat) (x : Int) (w : World) (hob : b < w.heap.size) (hp : place < n) (c0 : w.cell? ⟨b, off + place * 2, none⟩ = some (.int .i64 1)) (c1 : w.cell? ⟨b, off + place * 2 + 1, none⟩ = some (.int .i64 x)) :
    Calls Tryd.prog 77 #[workV b off n cap B eao en ecap M, .int .i64 place] w (AtPost (some x) w) := by
  have hne : ¬ b = w.heap.size := by omega
  go_enter Tryd.func77, Tryd.ntmps77
  go_wp2_with fail
  go_ret
  exact ⟨((Below.refl _ _).alloc (Nat.le_refl _) _).alloc (by simp) _, rfl⟩
set_option maxHeartbeats 400000 in
theorem at_var (b off n cap B eb eoff en ecap M place j : Nat) (x : Int) (w : World) (hob : b < w.heap.size) (hp : place < n) (hj : j < en) (c0 : w.cell? ⟨b, off + place * 2, none⟩ = some (.int .i64 2)) (c1 : w.cell? ⟨b, off + place * 2 + 1, none⟩ = some (.int .i64 j)) (hbl : eb < w.heap.size) (c2 : w.cell? ⟨eb, eoff + j, none⟩ = some (.int .i64 x)) :
    Calls Tryd.prog 77 #[workV b off n cap B (some ⟨eb, eoff, none⟩) en ecap M, .int .i64 place] w (AtPost (some x) w) := by
  have hne : ¬ b = w.heap.size := by omega
  go_enter Tryd.func77, Tryd.ntmps77
  go_wp2_with fail
  go_ret
  exact ⟨((Below.refl _ _).alloc (Nat.le_refl _) _).alloc (by simp) _, rfl⟩
set_option maxHeartbeats 400000 in
theorem at_lit (b off n cap B : Nat) (eao : Option Addr) (en ecap M place : Nat) (k : Int) (hk : k = 11 ∨ k = 12) (w : World) (hob : b < w.heap.size) (hp : place < n) (c0 : w.cell? ⟨b, off + place * 2, none⟩ = some (.int .i64 k)) (c1 : w.cell? ⟨b, off + place * 2 + 1, none⟩ = some (.int .i64 0)) :
    Calls Tryd.prog 77 #[workV b off n cap B eao en ecap M, .int .i64 place] w (AtPost (some (if k = 11 then 1 else 0)) w) := by
  rcases hk with rfl | rfl
  · rw [if_pos rfl]
    have hne : ¬ b = w.heap.size := by omega
    go_enter Tryd.func77, Tryd.ntmps77
    go_wp2_with fail
    go_ret
    exact ⟨((Below.refl _ _).alloc (Nat.le_refl _) _).alloc (by simp) _, rfl⟩
  · rw [if_neg (by decide)]
    have hne : ¬ b = w.heap.size := by omega
    go_enter Tryd.func77, Tryd.ntmps77
    go_wp2_with fail
    go_ret
    exact ⟨((Below.refl _ _).alloc (Nat.le_refl _) _).alloc (by simp) _, rfl⟩
set_option maxHeartbeats 400000 in
theorem at_not (b off n cap B : Nat) (eao : Option Addr) (en ecap M place : Nat) (r : Option Int) (w : World) (hob : b < w.heap.size) (hp : place < n) (h60 : n ≤ 60) (c0 : w.cell? ⟨b, off + place * 2, none⟩ = some (.int .i64 10)) (c1 : w.cell? ⟨b, off + place * 2 + 1, none⟩ = some (.int .i64 0))
    (hr : ∀ x, r = some x → -1000000 ≤ x ∧ x ≤ 1000000)
    (hrec : ∀ w', Below w.heap.size w w' → Calls Tryd.prog 77 #[workV b off n cap B eao en ecap M, .int .i64 ((place : Int) + 1)] w' (AtPost r w')) :
    Calls Tryd.prog 77 #[workV b off n cap B eao en ecap M, .int .i64 place] w (AtPost (r.map (1 - ·)) w) := by
  have hne : ¬ b = w.heap.size := by omega
  have hb2 : Below w.heap.size w ((w.alloc (.cells #[.slice (some ⟨b, off, none⟩) n cap, .slice (some ⟨B, 0, none⟩) n n, .slice eao en ecap, .map (some M)] 118)).alloc (.cells #[.int .i64 10, .int .i64 0] 87)) := ((Below.refl _ _).alloc (Nat.le_refl _) _).alloc (by simp) _
  have hrec' := hrec _ hb2
  have HB2 := (show Hid _ from hb2)
  clear hrec hb2
  cases r with
  | none =>
    go_enter Tryd.func77, Tryd.ntmps77
    go_wp2_with (go_at_call 77; refine hrec'.mono ?_; rintro e w1 ⟨hb1, rfl⟩)
    exact ⟨rfl, HB2.out.trans (hb1.mono HB2.out.size), rfl⟩
  | some x =>
    obtain ⟨hx1, hx2⟩ := hr x rfl
    clear hr
    go_enter Tryd.func77, Tryd.ntmps77
    go_wp2_with (go_at_call 77; refine hrec'.mono ?_; rintro e w1 ⟨hb1, rfl⟩)
    go_ret
    exact ⟨HB2.out.trans (hb1.mono HB2.out.size), rfl⟩

end Go.Proofs.YtdlpmomohbdpgaaDoor

/-
  The contract of package expr's (work).at: an op of two parts.
-/
namespace Go.Proofs.YtdlpmomohbdpgaaDoor
open Go.ChangeShapes Go.WideShapes Go.ChangeAt Go.RowKit Go.Deep
open Terms Tm
attribute [local go_sem ↓] Go.wp_at_zero Go.wp_at_succ

theorem pair_enters (k : Int) (h3 : 3 ≤ k) (h9 : k ≤ 9) (args : Array Value) (w : World) : (callFunc (pairFn k) args).run Tryd.prog w = .ok (.enter (pairFn k) args) w := by
  have hk : k = 3 ∨ k = 4 ∨ k = 5 ∨ k = 6 ∨ k = 7 ∨ k = 8 ∨ k = 9 := by omega
  rcases hk with rfl | rfl | rfl | rfl | rfl | rfl | rfl
  · show (callFunc 90 args).run Tryd.prog w = .ok (.enter 90 args) w; simp [go_sem]
  · show (callFunc 91 args).run Tryd.prog w = .ok (.enter 91 args) w; simp [go_sem]
  · show (callFunc 92 args).run Tryd.prog w = .ok (.enter 92 args) w; simp [go_sem]
  · show (callFunc 93 args).run Tryd.prog w = .ok (.enter 93 args) w; simp [go_sem]
  · show (callFunc 95 args).run Tryd.prog w = .ok (.enter 95 args) w; simp [go_sem]
  · show (callFunc 96 args).run Tryd.prog w = .ok (.enter 96 args) w; simp [go_sem]
  · show (callFunc 97 args).run Tryd.prog w = .ok (.enter 97 args) w; simp [go_sem]
theorem wrap_small {x : Int} (h1 : 0 ≤ x) (h2 : x ≤ 1000) : IntKind.i64.wrap x = x := by
  simp [IntKind.wrap, IntKind.bits, IntKind.signed]; omega

set_option maxHeartbeats 800000 in
set_option maxRecDepth 20000 in
theorem at_bi (b off n cap B : Nat) (eao : Option Addr) (en ecap M place E1 F : Nat) (k x y z : Int) (w : World) (hob : b < w.heap.size) (hBB : B < w.heap.size) (hp : place + 1 < n) (P1 : Nat) (hP1 : P1 = place + 1) (h60 : n ≤ 60) (hk3 : 3 ≤ k) (hk9 : k ≤ 9) (c0 : w.cell? ⟨b, off + place * 2, none⟩ = some (.int .i64 k)) (c1 : w.cell? ⟨b, off + place * 2 + 1, none⟩ = some (.int .i64 0)) (cE : w.cell? ⟨B, P1, none⟩ = some (.int .i64 E1))
    (hlook : ∀ w', Below w.heap.size w w' → (Instr.lookup 115 (.map (some M)) (.int .i64 k) false).run Tryd.prog w' = .ok (.func (.func F) #[] #[]) w')
    (hent : ∀ args w, (callFunc F args).run Tryd.prog w = .ok (.enter F args) w)
    (hpair : ∀ w', Calls Tryd.prog F #[.int .i64 x, .int .i64 y] w' fun e w'' => e = .returned (.int .i64 z) ∧ w'' = w')
    (hra : ∀ w', Below w.heap.size w w' → Calls Tryd.prog 77 #[workV b off n cap B eao en ecap M, .int .i64 P1] w' (AtPost (some x) w'))
    (hrb : ∀ w', Below w.heap.size w w' → Calls Tryd.prog 77 #[workV b off n cap B eao en ecap M, .int .i64 E1] w' (AtPost (some y) w')) :
    Calls Tryd.prog 77 #[workV b off n cap B eao en ecap M, .int .i64 place] w (AtPost (lid z) w) := by
  have hne : ¬ b = w.heap.size := by omega
  have hneB : ¬ B = w.heap.size := by omega
  have e1 : ¬ k = 1 := by omega
  have e2 : ¬ k = 2 := by omega
  have e3 : ¬ k = 10 := by omega
  have e4 : ¬ k = 11 := by omega
  have e5 : ¬ k = 12 := by omega
  obtain ⟨W2, hW2⟩ : ∃ W2, W2 = ((w.alloc (.cells #[.slice (some ⟨b, off, none⟩) n cap, .slice (some ⟨B, 0, none⟩) n n, .slice eao en ecap, .map (some M)] 118)).alloc (.cells #[.int .i64 k, .int .i64 0] 87)) := ⟨_, rfl⟩
  have hb2 : Below w.heap.size w W2 := by rw [hW2]; exact ((Below.refl _ _).alloc (Nat.le_refl _) _).alloc (by simp) _
  have hsz : W2.heap.size = w.heap.size + 1 + 1 := by rw [hW2]; simp
  have d0 : W2.cell? ⟨w.heap.size, 0, none⟩ = some (.slice (some ⟨b, off, none⟩) n cap) := by rw [hW2]; simp [go_sem]
  have d1 : W2.cell? ⟨w.heap.size, 1, none⟩ = some (.slice (some ⟨B, 0, none⟩) n n) := by rw [hW2]; simp [go_sem]
  have d2 : W2.cell? ⟨w.heap.size, 2, none⟩ = some (.slice eao en ecap) := by rw [hW2]; simp [go_sem]
  have d3 : W2.cell? ⟨w.heap.size, 3, none⟩ = some (.map (some M)) := by rw [hW2]; simp [go_sem]
  have d4 : W2.cell? ⟨w.heap.size + 1, 0, none⟩ = some (.int .i64 k) := by rw [hW2]; simp [go_sem]
  have d5 : W2.cell? ⟨B, P1, none⟩ = some (.int .i64 E1) := (hb2.cell (p := ⟨B, P1, none⟩) hBB).trans cE
  have HW2 := (show Hid _ from hW2)
  have hS : ∀ w', Below W2.heap.size W2 w' → w'.cell? ⟨w.heap.size, 0, none⟩ = some (.slice (some ⟨b, off, none⟩) n cap) ∧ w'.cell? ⟨w.heap.size, 1, none⟩ = some (.slice (some ⟨B, 0, none⟩) n n) ∧ w'.cell? ⟨w.heap.size, 2, none⟩ = some (.slice eao en ecap) ∧ w'.cell? ⟨w.heap.size, 3, none⟩ = some (.map (some M)) ∧ w'.cell? ⟨w.heap.size + 1, 0, none⟩ = some (.int .i64 k) ∧ w'.cell? ⟨B, P1, none⟩ = some (.int .i64 E1) ∧ (Instr.lookup 115 (.map (some M)) (.int .i64 k) false).run Tryd.prog w' = .ok (.func (.func F) #[] #[]) w' := fun w' hw' =>
    ⟨(hw'.cell (p := ⟨w.heap.size, 0, none⟩) (by simp only; omega)).trans d0, (hw'.cell (p := ⟨w.heap.size, 1, none⟩) (by simp only; omega)).trans d1, (hw'.cell (p := ⟨w.heap.size, 2, none⟩) (by simp only; omega)).trans d2, (hw'.cell (p := ⟨w.heap.size, 3, none⟩) (by simp only; omega)).trans d3, (hw'.cell (p := ⟨w.heap.size + 1, 0, none⟩) (by simp only; omega)).trans d4, (hw'.cell (p := ⟨B, P1, none⟩) (by simp only; omega)).trans d5, hlook w' (hb2.trans (hw'.mono hb2.size))⟩
  have hra' : ∀ w', Below W2.heap.size W2 w' → Calls Tryd.prog 77 #[workV b off n cap B eao en ecap M, .int .i64 P1] w' (AtPost (some x) w') := fun w' hw' => hra w' (hb2.trans (hw'.mono hb2.size))
  have hrb' : ∀ w', Below W2.heap.size W2 w' → Calls Tryd.prog 77 #[workV b off n cap B eao en ecap M, .int .i64 E1] w' (AtPost (some y) w') := fun w' hw' => hrb w' (hb2.trans (hw'.mono hb2.size))
  have hB0 : Below W2.heap.size W2 W2 := Below.refl _ _
  have HB2 : Hid (Below w.heap.size w W2) := hb2
  have hp0 : place < n := by omega
  have hi0 : (0 : Int) ≤ (P1 : Int) := by omega
  have hi1 : (P1 : Int) < (n : Int) := by omega
  have hpp : (place : Int) + 1 = (P1 : Int) := by omega
  have hwr : IntKind.i64.wrap (P1 : Int) = (P1 : Int) := wrap_small (by omega) (by omega)
  have hwr2 : IntKind.i64.wrap ((place : Int) + 1) = (P1 : Int) := by rw [hpp]; exact hwr
  have htg := fun w => tooGreat_any z w
  clear hW2 hb2 hra hrb hlook hP1 hp hsz d0 d1 d2 d3 d4 d5
  by_cases hz : -1000000 ≤ z ∧ z ≤ 1000000
  · rw [show decide (¬ (-1000000 ≤ z ∧ z ≤ 1000000)) = false by simpa using hz] at htg
    rw [show lid z = some z by unfold lid; rw [if_pos hz]]
    clear hz
    go_enter Tryd.func77, Tryd.ntmps77
    go_wp2_with fail
    rw [← HW2.out]
    clear c0 c1 cE
    go_region_held3 (fun w' => w'.cell? ⟨w.heap.size, 0, none⟩ = some (.slice (some ⟨b, off, none⟩) n cap) ∧ w'.cell? ⟨w.heap.size, 1, none⟩ = some (.slice (some ⟨B, 0, none⟩) n n) ∧ w'.cell? ⟨w.heap.size, 2, none⟩ = some (.slice eao en ecap) ∧ w'.cell? ⟨w.heap.size, 3, none⟩ = some (.map (some M)) ∧ w'.cell? ⟨w.heap.size + 1, 0, none⟩ = some (.int .i64 k) ∧ w'.cell? ⟨B, P1, none⟩ = some (.int .i64 E1) ∧ (Instr.lookup 115 (.map (some M)) (.int .i64 k) false).run Tryd.prog w' = .ok (.func (.func F) #[] #[]) w')
      (exact hS _ (by first | exact hB0 | exact hB0.drew | exact hB0.drew.trans hb1 | exact (hB0.drew.trans hb1).trans (hb3.mono (hB0.drew.trans hb1).size)))
      (first | (go_at_call_of 77 E1; refine (hrb' _ (hB0.drew.trans hb1)).mono ?_; rintro e w3 ⟨hb3, rfl⟩) | (go_at_call 77; refine (hra' _ hB0.drew).mono ?_; rintro e w1 ⟨hb1, rfl⟩) | (refine (hpair _).mono ?_; rintro e w4 ⟨rfl, rfl⟩))
    all_goals
      go_wp2_with (go_at_call 75; refine (htg _).mono ?_; rintro e w5 ⟨rfl, rfl⟩)
      go_ret
      exact ⟨HB2.out.trans (((hB0.drew.trans hb1).trans (hb3.mono (hB0.drew.trans hb1).size)).mono HB2.out.size), rfl⟩
  · rw [show decide (¬ (-1000000 ≤ z ∧ z ≤ 1000000)) = true by simp; omega] at htg
    rw [show lid z = none by unfold lid; rw [if_neg hz]]
    clear hz
    go_enter Tryd.func77, Tryd.ntmps77
    go_wp2_with fail
    rw [← HW2.out]
    clear c0 c1 cE
    go_region_held3 (fun w' => w'.cell? ⟨w.heap.size, 0, none⟩ = some (.slice (some ⟨b, off, none⟩) n cap) ∧ w'.cell? ⟨w.heap.size, 1, none⟩ = some (.slice (some ⟨B, 0, none⟩) n n) ∧ w'.cell? ⟨w.heap.size, 2, none⟩ = some (.slice eao en ecap) ∧ w'.cell? ⟨w.heap.size, 3, none⟩ = some (.map (some M)) ∧ w'.cell? ⟨w.heap.size + 1, 0, none⟩ = some (.int .i64 k) ∧ w'.cell? ⟨B, P1, none⟩ = some (.int .i64 E1) ∧ (Instr.lookup 115 (.map (some M)) (.int .i64 k) false).run Tryd.prog w' = .ok (.func (.func F) #[] #[]) w')
      (exact hS _ (by first | exact hB0 | exact hB0.drew | exact hB0.drew.trans hb1 | exact (hB0.drew.trans hb1).trans (hb3.mono (hB0.drew.trans hb1).size)))
      (first | (go_at_call_of 77 E1; refine (hrb' _ (hB0.drew.trans hb1)).mono ?_; rintro e w3 ⟨hb3, rfl⟩) | (go_at_call 77; refine (hra' _ hB0.drew).mono ?_; rintro e w1 ⟨hb1, rfl⟩) | (refine (hpair _).mono ?_; rintro e w4 ⟨rfl, rfl⟩))
    all_goals
      go_wp2_with (go_at_call 75; refine (htg _).mono ?_; rintro e w5 ⟨rfl, rfl⟩)
      exact ⟨rfl, HB2.out.trans (((hB0.drew.trans hb1).trans (hb3.mono (hB0.drew.trans hb1).size)).mono HB2.out.size), rfl⟩
end Go.Proofs.YtdlpmomohbdpgaaDoor

/-
  The contract of package expr's (work).at: an op of two parts, where a part gives up.
-/
namespace Go.Proofs.YtdlpmomohbdpgaaDoor
open Go.ChangeShapes Go.WideShapes Go.ChangeAt Go.RowKit Go.Deep
open Terms Tm
attribute [local go_sem ↓] Go.wp_at_zero Go.wp_at_succ

/-- a callee that gives up: what would follow if it came back is shown from nothing. -/
theorem Calls.pan {f : FuncId} {args : Array Value} {w : World} {X : Ending → World → Prop} (x : Int) (h : Calls Tryd.prog f args w (AtPost none w))
    (hX : ∀ w', Below w.heap.size w w' → X (.panicked [{ v := .iface 31 (.int .i64 8), recovered := false }]) w') (_ : ∀ w', Below w.heap.size w w' → Hid False → X (.returned (.int .i64 x)) w') : Calls Tryd.prog f args w X :=
  h.mono fun e w' ⟨hb, he⟩ => by subst he; exact hX w' hb

set_option maxHeartbeats 800000 in
set_option maxRecDepth 20000 in
theorem at_bi_a (b off n cap B : Nat) (eao : Option Addr) (en ecap M place E1 F : Nat) (k x y z : Int) (w : World) (hob : b < w.heap.size) (hBB : B < w.heap.size) (hp : place + 1 < n) (P1 : Nat) (hP1 : P1 = place + 1) (h60 : n ≤ 60) (hk3 : 3 ≤ k) (hk9 : k ≤ 9) (c0 : w.cell? ⟨b, off + place * 2, none⟩ = some (.int .i64 k)) (c1 : w.cell? ⟨b, off + place * 2 + 1, none⟩ = some (.int .i64 0)) (cE : w.cell? ⟨B, P1, none⟩ = some (.int .i64 E1))
    (hlook : ∀ w', Below w.heap.size w w' → (Instr.lookup 115 (.map (some M)) (.int .i64 k) false).run Tryd.prog w' = .ok (.func (.func F) #[] #[]) w')
    (hent : ∀ args w, (callFunc F args).run Tryd.prog w = .ok (.enter F args) w)
    (hpair : ∀ w', Calls Tryd.prog F #[.int .i64 x, .int .i64 y] w' fun e w'' => e = .returned (.int .i64 z) ∧ w'' = w')
    (hra : ∀ w', Below w.heap.size w w' → Calls Tryd.prog 77 #[workV b off n cap B eao en ecap M, .int .i64 P1] w' (AtPost none w'))
    (hrb : Hid False → ∀ w', Below w.heap.size w w' → Calls Tryd.prog 77 #[workV b off n cap B eao en ecap M, .int .i64 E1] w' (AtPost (some y) w')) :
    Calls Tryd.prog 77 #[workV b off n cap B eao en ecap M, .int .i64 place] w (AtPost none w) := by
  have hne : ¬ b = w.heap.size := by omega
  have hneB : ¬ B = w.heap.size := by omega
  have e1 : ¬ k = 1 := by omega
  have e2 : ¬ k = 2 := by omega
  have e3 : ¬ k = 10 := by omega
  have e4 : ¬ k = 11 := by omega
  have e5 : ¬ k = 12 := by omega
  obtain ⟨W2, hW2⟩ : ∃ W2, W2 = ((w.alloc (.cells #[.slice (some ⟨b, off, none⟩) n cap, .slice (some ⟨B, 0, none⟩) n n, .slice eao en ecap, .map (some M)] 118)).alloc (.cells #[.int .i64 k, .int .i64 0] 87)) := ⟨_, rfl⟩
  have hb2 : Below w.heap.size w W2 := by rw [hW2]; exact ((Below.refl _ _).alloc (Nat.le_refl _) _).alloc (by simp) _
  have hsz : W2.heap.size = w.heap.size + 1 + 1 := by rw [hW2]; simp
  have d0 : W2.cell? ⟨w.heap.size, 0, none⟩ = some (.slice (some ⟨b, off, none⟩) n cap) := by rw [hW2]; simp [go_sem]
  have d1 : W2.cell? ⟨w.heap.size, 1, none⟩ = some (.slice (some ⟨B, 0, none⟩) n n) := by rw [hW2]; simp [go_sem]
  have d2 : W2.cell? ⟨w.heap.size, 2, none⟩ = some (.slice eao en ecap) := by rw [hW2]; simp [go_sem]
  have d3 : W2.cell? ⟨w.heap.size, 3, none⟩ = some (.map (some M)) := by rw [hW2]; simp [go_sem]
  have d4 : W2.cell? ⟨w.heap.size + 1, 0, none⟩ = some (.int .i64 k) := by rw [hW2]; simp [go_sem]
  have d5 : W2.cell? ⟨B, P1, none⟩ = some (.int .i64 E1) := (hb2.cell (p := ⟨B, P1, none⟩) hBB).trans cE
  have HW2 := (show Hid _ from hW2)
  have hS : ∀ w', Below W2.heap.size W2 w' → w'.cell? ⟨w.heap.size, 0, none⟩ = some (.slice (some ⟨b, off, none⟩) n cap) ∧ w'.cell? ⟨w.heap.size, 1, none⟩ = some (.slice (some ⟨B, 0, none⟩) n n) ∧ w'.cell? ⟨w.heap.size, 2, none⟩ = some (.slice eao en ecap) ∧ w'.cell? ⟨w.heap.size, 3, none⟩ = some (.map (some M)) ∧ w'.cell? ⟨w.heap.size + 1, 0, none⟩ = some (.int .i64 k) ∧ w'.cell? ⟨B, P1, none⟩ = some (.int .i64 E1) ∧ (Instr.lookup 115 (.map (some M)) (.int .i64 k) false).run Tryd.prog w' = .ok (.func (.func F) #[] #[]) w' := fun w' hw' =>
    ⟨(hw'.cell (p := ⟨w.heap.size, 0, none⟩) (by simp only; omega)).trans d0, (hw'.cell (p := ⟨w.heap.size, 1, none⟩) (by simp only; omega)).trans d1, (hw'.cell (p := ⟨w.heap.size, 2, none⟩) (by simp only; omega)).trans d2, (hw'.cell (p := ⟨w.heap.size, 3, none⟩) (by simp only; omega)).trans d3, (hw'.cell (p := ⟨w.heap.size + 1, 0, none⟩) (by simp only; omega)).trans d4, (hw'.cell (p := ⟨B, P1, none⟩) (by simp only; omega)).trans d5, hlook w' (hb2.trans (hw'.mono hb2.size))⟩
  have hra' : ∀ w', Below W2.heap.size W2 w' → Calls Tryd.prog 77 #[workV b off n cap B eao en ecap M, .int .i64 P1] w' (AtPost none w') := fun w' hw' => hra w' (hb2.trans (hw'.mono hb2.size))
  have hrb' : Hid False → ∀ w', Below W2.heap.size W2 w' → Calls Tryd.prog 77 #[workV b off n cap B eao en ecap M, .int .i64 E1] w' (AtPost (some y) w') := fun hF w' hw' => hrb hF w' (hb2.trans (hw'.mono hb2.size))
  have hB0 : Below W2.heap.size W2 W2 := Below.refl _ _
  have HB2 : Hid (Below w.heap.size w W2) := hb2
  have hp0 : place < n := by omega
  have hi0 : (0 : Int) ≤ (P1 : Int) := by omega
  have hi1 : (P1 : Int) < (n : Int) := by omega
  have hpp : (place : Int) + 1 = (P1 : Int) := by omega
  have hwr : IntKind.i64.wrap (P1 : Int) = (P1 : Int) := wrap_small (by omega) (by omega)
  have hwr2 : IntKind.i64.wrap ((place : Int) + 1) = (P1 : Int) := by rw [hpp]; exact hwr
  clear hW2 hb2 hra hrb hlook hP1 hp hsz d0 d1 d2 d3 d4 d5
  go_enter Tryd.func77, Tryd.ntmps77
  go_wp2_with fail
  rw [← HW2.out]
  clear c0 c1 cE
  go_region_held2 (fun w' => w'.cell? ⟨w.heap.size, 0, none⟩ = some (.slice (some ⟨b, off, none⟩) n cap) ∧ w'.cell? ⟨w.heap.size, 1, none⟩ = some (.slice (some ⟨B, 0, none⟩) n n) ∧ w'.cell? ⟨w.heap.size, 2, none⟩ = some (.slice eao en ecap) ∧ w'.cell? ⟨w.heap.size, 3, none⟩ = some (.map (some M)) ∧ w'.cell? ⟨w.heap.size + 1, 0, none⟩ = some (.int .i64 k) ∧ w'.cell? ⟨B, P1, none⟩ = some (.int .i64 E1) ∧ (Instr.lookup 115 (.map (some M)) (.int .i64 k) false).run Tryd.prog w' = .ok (.func (.func F) #[] #[]) w')
    (exact hS _ (by first | exact hB0 | exact hB0.drew | exact hB0.drew.trans hb1 | exact (hB0.drew.trans hb1).trans (hb3.mono (hB0.drew.trans hb1).size)))
    (first | (go_at_call_of 77 E1; refine (hrb' hF _ (hB0.drew.trans hb1)).mono ?_; rintro e w3 ⟨hb3, rfl⟩) | (go_at_call 77; refine Calls.pan x (hra' _ hB0.drew) (fun w1 hb1 => ⟨rfl, HB2.out.trans ((hB0.drew.trans hb1).mono HB2.out.size), rfl⟩) (fun w1 hb1 hF => ?_)) | (refine (hpair _).mono ?_; rintro e w4 ⟨rfl, rfl⟩))
  all_goals exact hF.out.elim
set_option maxHeartbeats 800000 in
set_option maxRecDepth 20000 in
theorem at_bi_b (b off n cap B : Nat) (eao : Option Addr) (en ecap M place E1 F : Nat) (k x y z : Int) (w : World) (hob : b < w.heap.size) (hBB : B < w.heap.size) (hp : place + 1 < n) (P1 : Nat) (hP1 : P1 = place + 1) (h60 : n ≤ 60) (hk3 : 3 ≤ k) (hk9 : k ≤ 9) (c0 : w.cell? ⟨b, off + place * 2, none⟩ = some (.int .i64 k)) (c1 : w.cell? ⟨b, off + place * 2 + 1, none⟩ = some (.int .i64 0)) (cE : w.cell? ⟨B, P1, none⟩ = some (.int .i64 E1))
    (hlook : ∀ w', Below w.heap.size w w' → (Instr.lookup 115 (.map (some M)) (.int .i64 k) false).run Tryd.prog w' = .ok (.func (.func F) #[] #[]) w')
    (hent : ∀ args w, (callFunc F args).run Tryd.prog w = .ok (.enter F args) w)
    (hpair : ∀ w', Calls Tryd.prog F #[.int .i64 x, .int .i64 y] w' fun e w'' => e = .returned (.int .i64 z) ∧ w'' = w')
    (hra : ∀ w', Below w.heap.size w w' → Calls Tryd.prog 77 #[workV b off n cap B eao en ecap M, .int .i64 P1] w' (AtPost (some x) w'))
    (hrb : ∀ w', Below w.heap.size w w' → Calls Tryd.prog 77 #[workV b off n cap B eao en ecap M, .int .i64 E1] w' (AtPost none w')) :
    Calls Tryd.prog 77 #[workV b off n cap B eao en ecap M, .int .i64 place] w (AtPost none w) := by
  have hne : ¬ b = w.heap.size := by omega
  have hneB : ¬ B = w.heap.size := by omega
  have e1 : ¬ k = 1 := by omega
  have e2 : ¬ k = 2 := by omega
  have e3 : ¬ k = 10 := by omega
  have e4 : ¬ k = 11 := by omega
  have e5 : ¬ k = 12 := by omega
  obtain ⟨W2, hW2⟩ : ∃ W2, W2 = ((w.alloc (.cells #[.slice (some ⟨b, off, none⟩) n cap, .slice (some ⟨B, 0, none⟩) n n, .slice eao en ecap, .map (some M)] 118)).alloc (.cells #[.int .i64 k, .int .i64 0] 87)) := ⟨_, rfl⟩
  have hb2 : Below w.heap.size w W2 := by rw [hW2]; exact ((Below.refl _ _).alloc (Nat.le_refl _) _).alloc (by simp) _
  have hsz : W2.heap.size = w.heap.size + 1 + 1 := by rw [hW2]; simp
  have d0 : W2.cell? ⟨w.heap.size, 0, none⟩ = some (.slice (some ⟨b, off, none⟩) n cap) := by rw [hW2]; simp [go_sem]
  have d1 : W2.cell? ⟨w.heap.size, 1, none⟩ = some (.slice (some ⟨B, 0, none⟩) n n) := by rw [hW2]; simp [go_sem]
  have d2 : W2.cell? ⟨w.heap.size, 2, none⟩ = some (.slice eao en ecap) := by rw [hW2]; simp [go_sem]
  have d3 : W2.cell? ⟨w.heap.size, 3, none⟩ = some (.map (some M)) := by rw [hW2]; simp [go_sem]
  have d4 : W2.cell? ⟨w.heap.size + 1, 0, none⟩ = some (.int .i64 k) := by rw [hW2]; simp [go_sem]
  have d5 : W2.cell? ⟨B, P1, none⟩ = some (.int .i64 E1) := (hb2.cell (p := ⟨B, P1, none⟩) hBB).trans cE
  have HW2 := (show Hid _ from hW2)
  have hS : ∀ w', Below W2.heap.size W2 w' → w'.cell? ⟨w.heap.size, 0, none⟩ = some (.slice (some ⟨b, off, none⟩) n cap) ∧ w'.cell? ⟨w.heap.size, 1, none⟩ = some (.slice (some ⟨B, 0, none⟩) n n) ∧ w'.cell? ⟨w.heap.size, 2, none⟩ = some (.slice eao en ecap) ∧ w'.cell? ⟨w.heap.size, 3, none⟩ = some (.map (some M)) ∧ w'.cell? ⟨w.heap.size + 1, 0, none⟩ = some (.int .i64 k) ∧ w'.cell? ⟨B, P1, none⟩ = some (.int .i64 E1) ∧ (Instr.lookup 115 (.map (some M)) (.int .i64 k) false).run Tryd.prog w' = .ok (.func (.func F) #[] #[]) w' := fun w' hw' =>
    ⟨(hw'.cell (p := ⟨w.heap.size, 0, none⟩) (by simp only; omega)).trans d0, (hw'.cell (p := ⟨w.heap.size, 1, none⟩) (by simp only; omega)).trans d1, (hw'.cell (p := ⟨w.heap.size, 2, none⟩) (by simp only; omega)).trans d2, (hw'.cell (p := ⟨w.heap.size, 3, none⟩) (by simp only; omega)).trans d3, (hw'.cell (p := ⟨w.heap.size + 1, 0, none⟩) (by simp only; omega)).trans d4, (hw'.cell (p := ⟨B, P1, none⟩) (by simp only; omega)).trans d5, hlook w' (hb2.trans (hw'.mono hb2.size))⟩
  have hra' : ∀ w', Below W2.heap.size W2 w' → Calls Tryd.prog 77 #[workV b off n cap B eao en ecap M, .int .i64 P1] w' (AtPost (some x) w') := fun w' hw' => hra w' (hb2.trans (hw'.mono hb2.size))
  have hrb' : ∀ w', Below W2.heap.size W2 w' → Calls Tryd.prog 77 #[workV b off n cap B eao en ecap M, .int .i64 E1] w' (AtPost none w') := fun w' hw' => hrb w' (hb2.trans (hw'.mono hb2.size))
  have hB0 : Below W2.heap.size W2 W2 := Below.refl _ _
  have HB2 : Hid (Below w.heap.size w W2) := hb2
  have hp0 : place < n := by omega
  have hi0 : (0 : Int) ≤ (P1 : Int) := by omega
  have hi1 : (P1 : Int) < (n : Int) := by omega
  have hpp : (place : Int) + 1 = (P1 : Int) := by omega
  have hwr : IntKind.i64.wrap (P1 : Int) = (P1 : Int) := wrap_small (by omega) (by omega)
  have hwr2 : IntKind.i64.wrap ((place : Int) + 1) = (P1 : Int) := by rw [hpp]; exact hwr
  clear hW2 hb2 hra hrb hlook hP1 hp hsz d0 d1 d2 d3 d4 d5
  go_enter Tryd.func77, Tryd.ntmps77
  go_wp2_with fail
  rw [← HW2.out]
  clear c0 c1 cE
  go_region_held2 (fun w' => w'.cell? ⟨w.heap.size, 0, none⟩ = some (.slice (some ⟨b, off, none⟩) n cap) ∧ w'.cell? ⟨w.heap.size, 1, none⟩ = some (.slice (some ⟨B, 0, none⟩) n n) ∧ w'.cell? ⟨w.heap.size, 2, none⟩ = some (.slice eao en ecap) ∧ w'.cell? ⟨w.heap.size, 3, none⟩ = some (.map (some M)) ∧ w'.cell? ⟨w.heap.size + 1, 0, none⟩ = some (.int .i64 k) ∧ w'.cell? ⟨B, P1, none⟩ = some (.int .i64 E1) ∧ (Instr.lookup 115 (.map (some M)) (.int .i64 k) false).run Tryd.prog w' = .ok (.func (.func F) #[] #[]) w')
    (exact hS _ (by first | exact hB0 | exact hB0.drew | exact hB0.drew.trans hb1 | exact (hB0.drew.trans hb1).trans (hb3.mono (hB0.drew.trans hb1).size)))
    (first | (go_at_call_of 77 E1; refine Calls.pan y (hrb' _ (hB0.drew.trans hb1)) (fun w3 hb3 => ⟨rfl, HB2.out.trans (((hB0.drew.trans hb1).trans (hb3.mono (hB0.drew.trans hb1).size)).mono HB2.out.size), rfl⟩) (fun w3 hb3 hF => ?_)) | (go_at_call 77; refine (hra' _ hB0.drew).mono ?_; rintro e w1 ⟨hb1, rfl⟩) | (refine (hpair _).mono ?_; rintro e w4 ⟨rfl, rfl⟩))
  all_goals exact hF.out.elim
end Go.Proofs.YtdlpmomohbdpgaaDoor

/-
  The contract of package expr's (work).at, whole.
-/
namespace Go.Proofs.YtdlpmomohbdpgaaDoor
open Go.ChangeShapes Go.WideShapes Go.ChangeAt Go.RowKit Go.Deep
open Terms Tm

/-- THE CONTRACT OF (work).at. -/
theorem at_any (b off n cap B : Nat) (eao : Option Addr) (en ecap M vars : Nat) (t : Tm) (env : List Int) (hn : n = t.size) (h60 : n ≤ 60) (hg : t.Good vars) (hty : t.typed = true) (hev : EnvOk env) (hen : env.length = vars) (hen2 : en = vars) (d : Nat) :
    ∀ (place : Nat) (w : World), place < n → (t.sub place).size ≤ d → WorkAt w b off B eao M t env →
    Calls Tryd.prog 77 #[workV b off n cap B eao en ecap M, .int .i64 place] w (AtPost ((t.sub place).eval env) w) := by
  induction d with
  | zero => intro place w _ hd; have := (t.sub place).size_pos; omega
  | succ d ih =>
    intro place w hp hd hW
    have hpt : place < t.size := by omega
    obtain ⟨s, hs⟩ : ∃ s, s = t.sub place := ⟨_, rfl⟩
    have hsg : s.Good vars := by rw [hs]; exact hg.sub _
    have hst : s.typed = true := by
      rw [hs]
      refine (typed_iff _).2 fun q hq => ?_
      rw [← t.sub_sub place q hpt hq]
      exact (typed_iff _).1 hty _ (by have := t.sub_fits hpt; omega)
    obtain ⟨c0, c1⟩ := hW.ops place (by rw [ops_length]; exact hpt)
    rw [op_at t hpt, ← hs] at c0 c1
    simp only at c0 c1
    have HKI : ∀ i, i < s.kids.length → place + s.koff i < n ∧ t.sub (place + s.koff i) = s.kids.getD i s ∧ endAt (t.ops.map Prod.fst) (place + s.koff i) = place + s.koff (i + 1) := fun i hi => by
      subst hs
      obtain ⟨h1, h2, h3, _⟩ := kid_in hg.wf hpt hi
      exact ⟨by omega, h2, h3⟩
    rw [← hs] at hd ⊢
    cases s with
    | leaf k v =>
      rcases hsg with ⟨rfl, h1, h2⟩ | ⟨rfl, h1, h2⟩ | ⟨hk, rfl⟩
      · exact at_num b off n cap B eao en ecap M place v w hW.ob hp c0 c1
      · obtain ⟨j, rfl⟩ := Int.eq_ofNat_of_zero_le h1
        obtain ⟨eb, eoff, rfl, e2, e3⟩ := hW.env j (by omega)
        exact at_var b off n cap B eb eoff en ecap M place j _ w hW.ob hp (by omega) c0 c1 e2 e3
      · have he : (Tm.leaf k 0).eval env = some (if k = 11 then 1 else 0) := by
          simp only [Tm.eval]
          rw [if_neg (by omega), if_neg (by omega)]
        rw [he]
        exact at_lit b off n cap B eao en ecap M place k hk w hW.ob hp c0 c1
    | un k v a =>
      obtain ⟨rfl, rfl, ha⟩ := hsg
      obtain ⟨p1, p2, _⟩ := HKI 0 (by simp [kids])
      rw [koff_zero] at p1 p2
      have hsz : a.size ≤ d := by simp only [Tm.size] at hd; omega
      have hta : a.typed = true := by simp only [Tm.typed, Bool.and_eq_true] at hst; exact hst.2
      have hrec : ∀ w', Below w.heap.size w w' → Calls Tryd.prog 77 #[workV b off n cap B eao en ecap M, .int .i64 ((place : Int) + 1)] w' (AtPost (a.eval env) w') := fun w' hw' => by
        have h := ih (place + 1) w' p1 (by rw [p2]; exact hsz) (hW.later hw')
        rw [p2] at h
        exact h
      have h := at_not b off n cap B eao en ecap M place (a.eval env) w hW.ob hp h60 c0 c1 (fun x hx => (eval_le hev hen ha hta x hx).1) hrec
      have he : (Tm.un 10 0 a).eval env = (a.eval env).map (1 - ·) := by
        simp only [Tm.eval]
        cases a.eval env <;> rfl
      rw [he]
      exact h
    | bi k v a b' =>
      obtain ⟨h3, h9, rfl, ha, hb⟩ := hsg
      obtain ⟨p1, p2, p3⟩ := HKI 0 (by simp [kids])
      obtain ⟨q1, q2, _⟩ := HKI 1 (by simp [kids])
      rw [koff_zero] at p1 p2 p3
      rw [Nat.zero_add] at p3
      have hsa : a.size ≤ d := by simp only [Tm.size] at hd; omega
      have hsb : b'.size ≤ d := by simp only [Tm.size] at hd; omega
      simp only [Tm.typed, Bool.and_eq_true, beq_iff_eq] at hst
      obtain ⟨⟨ka, hta⟩, kb, htb⟩ := hst
      have hra : ∀ w', Below w.heap.size w w' → Calls Tryd.prog 77 #[workV b off n cap B eao en ecap M, .int .i64 (place + 1 : Nat)] w' (AtPost (a.eval env) w') := fun w' hw' => by
        have h := ih (place + 1) w' p1 (by rw [p2]; exact hsa) (hW.later hw')
        rw [p2] at h
        exact h
      have hrb : ∀ w', Below w.heap.size w w' → Calls Tryd.prog 77 #[workV b off n cap B eao en ecap M, .int .i64 (place + (Tm.bi k 0 a b').koff 1 : Nat)] w' (AtPost (b'.eval env) w') := fun w' hw' => by
        have h := ih (place + (Tm.bi k 0 a b').koff 1) w' q1 (by rw [q2]; exact hsb) (hW.later hw')
        rw [q2] at h
        exact h
      have cE := hW.ends.cell (i := place + 1) (by omega)
      rw [p3] at cE
      have hlook := fun w' (hw' : Below w.heap.size w w') => (hW.pairs.later hw').look h3 h9
      have hent := pair_enters k h3 h9
      have hae := eval_le hev hen ha hta
      have hbe := eval_le hev hen hb htb
      simp only [Tm.eval]
      cases hx : a.eval env with
      | none =>
        rw [hx] at hra
        exact at_bi_a b off n cap B eao en ecap M place _ (pairFn k) k 0 0 (bin k 0 0) w hW.ob hW.ends.lt (by omega) (place + 1) rfl h60 h3 h9 c0 c1 cE hlook hent (fun w' => pair_any k 0 0 w' h3 h9 (by omega) (by omega) (fun _ => ⟨.inl rfl, .inl rfl⟩)) hra
          (fun h => h.out.elim)
      | some x =>
        rw [hx] at hra
        have hxl := hae x hx
        cases hy : b'.eval env with
        | none =>
          rw [hy] at hrb
          exact at_bi_b b off n cap B eao en ecap M place _ (pairFn k) k x 0 (bin k x 0) w hW.ob hW.ends.lt (by omega) (place + 1) rfl h60 h3 h9 c0 c1 cE hlook hent (fun w' => pair_any k x 0 w' h3 h9 hxl.1 (by omega) (fun h8 => ⟨hxl.2 (by rw [ka]; simp [tkT]; omega), .inl rfl⟩)) hra hrb
        | some y =>
          rw [hy] at hrb
          have hyl := hbe y hy
          exact at_bi b off n cap B eao en ecap M place _ (pairFn k) k x y (bin k x y) w hW.ob hW.ends.lt (by omega) (place + 1) rfl h60 h3 h9 c0 c1 cE hlook hent (fun w' => pair_any k x y w' h3 h9 hxl.1 hyl.1 (fun h8 => ⟨hxl.2 (by rw [ka]; simp [tkT]; omega), hyl.2 (by rw [kb]; simp [tkT]; omega)⟩)) hra hrb
end Go.Proofs.YtdlpmomohbdpgaaDoor

/-
  The contract of expr.Eval.
-/
namespace Go.Proofs.YtdlpmomohbdpgaaDoor
open Go.ChangeShapes Go.WideShapes Go.ChangeAt Go.RowKit Go.Deep
open Terms Tm

set_option maxHeartbeats 400000 in
theorem ecatch_panicking (s : Nat) (x : Int) (v0 v1 : Value) (w : World) (hc0 : w.cell? ⟨s, 0, none⟩ = some v0) (hc1 : w.cell? ⟨s + 1, 0, none⟩ = some v1) (hz0 : w.frozen? ⟨s, 0, none⟩ = false) (hz1 : w.frozen? ⟨s + 1, 0, none⟩ = false) :
    CallsD Tryd.prog 73 #[.pointer (some ⟨s, 0, none⟩), .pointer (some ⟨s + 1, 0, none⟩)] (.panicking [{ v := .iface 31 (.int .i64 x), recovered := false }]) w fun e u' w' =>
      e = .returned (.tuple #[]) ∧ u' = .panicking [{ v := .iface 31 (.int .i64 x), recovered := true }] ∧ w' = ((w.setCell ⟨s, 0, none⟩ (.int .i64 0)).setCell ⟨s + 1, 0, none⟩ (.int .i64 x)).drew := by
  have hta : ∀ w : World, (Instr.typeAssert (.iface 31 (.int .i64 x)) 20 31 false).run Tryd.prog w = .ok (.int .i64 x) w := fun _ => by kernel_rfl
  refine callsD_of_wpS Tryd.func73 rfl fun c₀ cs hu => ?_
  rw [Tryd.ntmps73]
  show Code.wpS _ _ _ { tmps := #[.pointer (some ⟨s, 0, none⟩), .pointer (some ⟨s + 1, 0, none⟩), undef, undef, undef, undef, undef, undef], defers := [] } _ _
  apply wpS_seq
  apply wpS_region
  simp [wpOpsS, go_sem, recoverD, hu, Exit.thenS]
  refine wpS_of_wp ?_
  go_wp2
  go_region
  go_wp2
  simp [bodyPostS, results, Tryd.results73]

theorem ecatch_idle (s : Nat) (w : World) :
    CallsD Tryd.prog 73 #[.pointer (some ⟨s, 0, none⟩), .pointer (some ⟨s + 1, 0, none⟩)] .returning w fun e u' w' =>
      e = .returned (.tuple #[]) ∧ u' = .returning ∧ w' = w := by
  refine callsD_of_wpS Tryd.func73 rfl fun c₀ cs hu => ?_
  rw [Tryd.ntmps73]
  show Code.wpS _ _ _ { tmps := #[.pointer (some ⟨s, 0, none⟩), .pointer (some ⟨s + 1, 0, none⟩), undef, undef, undef, undef, undef, undef], defers := [] } _ _
  apply wpS_seq
  apply wpS_region
  simp [wpOpsS, go_sem, recoverD, hu, Exit.thenS]
  refine wpS_of_wp ?_
  go_wp2
  cases c₀
  simp_all [bodyPostS, results, Tryd.results73]

/-- what Eval answers: a number, and an error's. -/
def envBad (env : List Int) : Bool := env.any fun x => decide (¬ (-1000000 ≤ x ∧ x ≤ 1000000))
def evalN (l : List (Int × Int)) (t : Tm) (env : List Int) : Int :=
  if xcode env.length l t ≠ 0 then 0 else if envBad env = true then 0 else match t.eval env with
    | some x => x
    | none => 0
def evalC (l : List (Int × Int)) (t : Tm) (env : List Int) : Int :=
  if xcode env.length l t ≠ 0 then xcode env.length l t else if envBad env = true then 2 else match t.eval env with
    | some _ => 0
    | none => 8
theorem envBad_false {env : List Int} (h : envBad env = false) : EnvOk env := fun i hi => by
  unfold envBad at h
  rw [List.any_eq_false] at h
  have := h (env.getD i 0) (by simp [List.getD_eq_getElem?_getD, hi])
  generalize env.getD i 0 = x at *
  simp at this
  omega
theorem envBad_ok {env : List Int} (h : ∀ j, j < env.length → -1000000 ≤ env.getD j 0 ∧ env.getD j 0 ≤ 1000000) : envBad env = false := by
  unfold envBad
  rw [List.any_eq_false]
  intro x hx
  obtain ⟨i, hi, rfl⟩ := List.getElem_of_mem hx
  have := h i hi
  simp [List.getD_eq_getElem?_getD, hi] at this
  simp
  omega
theorem envBad_at {env : List Int} {i : Nat} (hi : i < env.length) (h : ¬ (-1000000 ≤ env.getD i 0 ∧ env.getD i 0 ≤ 1000000)) : envBad env = true := by
  unfold envBad
  rw [List.any_eq_true]
  refine ⟨env[i], List.getElem_mem hi, ?_⟩
  simp [List.getD_eq_getElem?_getD, hi] at h
  simp
  omega

/-- the two results' cells, as Eval has laid them. -/
def e0 (w : World) : World := (w.alloc (.cells #[.int .i64 0] 3)).alloc (.cells #[.int .i64 0] 31)
theorem e0_below (w : World) : Below w.heap.size w (e0 w) := ((Below.refl _ _).alloc (Nat.le_refl _) _).alloc (by simp) _
theorem e0_cells (w : World) {w' : World} (h : Below (e0 w).heap.size (e0 w) w') :
    w'.cell? ⟨w.heap.size, 0, none⟩ = some (.int .i64 0) ∧ w'.cell? ⟨w.heap.size + 1, 0, none⟩ = some (.int .i64 0) ∧ w'.frozen? ⟨w.heap.size, 0, none⟩ = false ∧ w'.frozen? ⟨w.heap.size + 1, 0, none⟩ = false ∧ w.heap.size + 1 < w'.heap.size ∧ Below w.heap.size w w' := by
  have hs := h.size
  have hz : (e0 w).heap.size = w.heap.size + 1 + 1 := by simp [e0]
  refine ⟨?_, ?_, ?_, ?_, by omega, (e0_below w).trans (h.mono (e0_below w).size)⟩
  · rw [h.cell (p := ⟨w.heap.size, 0, none⟩) (by simp only; omega)]; simp [e0, go_sem]
  · rw [h.cell (p := ⟨w.heap.size + 1, 0, none⟩) (by simp only; omega)]; simp [e0, go_sem]
  · rw [h.frozen (p := ⟨w.heap.size, 0, none⟩) (by simp only; omega)]; simp [e0, go_sem]
  · rw [h.frozen (p := ⟨w.heap.size + 1, 0, none⟩) (by simp only; omega)]; simp [e0, go_sem]

set_option maxHeartbeats 1600000 in
/-- what Check refuses is refused. -/
theorem eval_no (ao : Option Addr) (n cap : Nat) (eao : Option Addr) (en ecap : Nat) (x : Int) (w : World) (hx : x ≠ 0)
    (heo : Calls Tryd.prog 74 #[.slice ao n cap, .int .i64 en] (e0 w) fun e w'' => e = .returned (.tuple #[.slice none 0 0, .int .i64 x]) ∧ Below (e0 w).heap.size (e0 w) w'') :
    Calls Tryd.prog 58 #[.slice ao n cap, .slice eao en ecap] w fun e w' => e = .returned (.tuple #[.int .i64 0, .int .i64 x]) ∧ Below w.heap.size w w' := by
  have hmf := hmakeFunc
  go_enter_defers Tryd.func58, Tryd.ntmps58
  go_wp2_with (go_at_call 74; refine heo.mono ?_; rintro e w2 ⟨rfl, hb2⟩; obtain ⟨c0, c1, f0, f1, hsz, hbw⟩ := e0_cells w hb2)
  go_region
  all_goals go_wp2_with fail
  all_goals
    refine leaves_cons (f := 73) (args := #[.pointer (some ⟨w.heap.size, 0, none⟩), .pointer (some ⟨w.heap.size + 1, 0, none⟩)]) (by simp) (by simp [go_sem]) ?_
    refine (ecatch_idle w.heap.size _).mono ?_
    rintro e u' w'' ⟨rfl, rfl, rfl⟩
    simp [Leaves, settle, results, Tryd.results58, go_sem, c0, c1]
    first
      | exact (((hbw.setCell (p := ⟨w.heap.size + 1, 0, none⟩) (by simp) _).drew).setCell (p := ⟨w.heap.size, 0, none⟩) (Nat.le_refl _) _).setCell (p := ⟨w.heap.size + 1, 0, none⟩) (by simp) _
      | exact (((hbw.setCell (p := ⟨w.heap.size + 1, 0, none⟩) (by simp) _).drew).setCell (p := ⟨w.heap.size + 1, 0, none⟩) (by simp) _).setCell (p := ⟨w.heap.size, 0, none⟩) (Nat.le_refl _) _
end Go.Proofs.YtdlpmomohbdpgaaDoor

/-
  Plain mathematics of what comes behind a state. Nothing of the program is named here.
-/
namespace Go.Proofs.YtdlpmomohbdpgaaDoor
open Terms Tm

/-- what an expression makes, and with what it is refused. -/
noncomputable def exN (l : List (Int × Int)) (env : List Int) : Int := evalN l (treeOf l) env
noncomputable def exC (l : List (Int × Int)) (env : List Int) : Int := evalC l (treeOf l) env
/-- does a truth hold? -/
noncomputable def holdsB (l : List (Int × Int)) (env : List Int) : Bool := decide (exC l env = 0) && decide (exN l env = 1)
/-- the values, so many sets done. -/
noncomputable def setTo (env : List Int) (sets : List St) : Nat → List Int
  | 0 => env
  | k + 1 => (setTo env sets k).set (sets.getD k st0).var.toNat (exN (sets.getD k st0).val env)
/-- one value, so many sets done. -/
noncomputable def setAt (env : List Int) (sets : List St) (i : Nat) : Nat → Int
  | 0 => env.getD i 0
  | k + 1 => if (sets.getD k st0).var = i then exN (sets.getD k st0).val env else setAt env sets i k
theorem setTo_length (env : List Int) (sets : List St) (k : Nat) : (setTo env sets k).length = env.length := by
  induction k with
  | zero => rfl
  | succ k ih => simp [setTo, ih]
theorem getD_set (l : List Int) (i j : Nat) (x : Int) (hi : i < l.length) : (l.set i x).getD j 0 = if i = j then x else l.getD j 0 := by
  simp only [List.getD_eq_getElem?_getD, List.getElem?_set]
  by_cases h : i = j
  · subst h; simp [hi]
  · simp [h]
theorem setTo_at {env : List Int} {sets : List St} {k : Nat} (h : ∀ j, j < k → 0 ≤ (sets.getD j st0).var ∧ (sets.getD j st0).var < env.length) (i : Nat) : (setTo env sets k).getD i 0 = setAt env sets i k := by
  induction k with
  | zero => rfl
  | succ k ih =>
    obtain ⟨h0, h1⟩ := h k (by omega)
    simp only [setTo, setAt]
    rw [getD_set _ _ _ _ (by rw [setTo_length]; omega), ih fun j hj => h j (by omega)]
    by_cases hk : (sets.getD k st0).var = i
    · rw [if_pos hk, if_pos (by omega)]
    · rw [if_neg hk, if_neg (by omega)]
/-- the values behind a rule. -/
noncomputable def behindL (env : List Int) (r : Ru) : List Int := setTo env r.sets r.sets.length
def setsOk (env : List Int) (r : Ru) : Prop := ∀ j, j < r.sets.length → exC (r.sets.getD j st0).val env = 0
open Classical in
/-- the state behind a rule, if it can be done. -/
noncomputable def ruleDo (vars : List Vr) (env : List Int) (r : Ru) : Option Int :=
  if holdsB r.guard env = true ∧ setsOk env r ∧ ∀ i, i < vars.length → inB vars (behindL env r) i then some (codeTo vars (behindL env r) vars.length) else none
def optN : Option Int → Int
  | some x => x
  | none => 0
def optC : Option Int → Int
  | some _ => 0
  | none => 11
theorem ruleDo_guard {vars : List Vr} {env : List Int} {r : Ru} (h : holdsB r.guard env = false) : ruleDo vars env r = none := by
  unfold ruleDo
  rw [if_neg (fun h2 => by rw [h] at h2; cases h2.1)]
theorem ruleDo_set {vars : List Vr} {env : List Int} {r : Ru} {j : Nat} (hj : j < r.sets.length) (h : exC (r.sets.getD j st0).val env ≠ 0) : ruleDo vars env r = none := by
  unfold ruleDo
  rw [if_neg (fun h2 => h (h2.2.1 j hj))]
theorem ruleDo_code {vars : List Vr} {env : List Int} {r : Ru} (h1 : holdsB r.guard env = true) (h2 : setsOk env r) (hl : env.length = vars.length) {m : Mo} (hm : mcode m = 0) (hv : m.vars = vars) :
    (ccode m (behindL env r) = 0 → ruleDo vars env r = some (cval m (behindL env r))) ∧ (ccode m (behindL env r) ≠ 0 → ruleDo vars env r = none) := by
  have hb : (behindL env r).length = m.vars.length := by unfold behindL; rw [setTo_length, hl, hv]
  subst hv
  by_cases hin : ∀ i, i < m.vars.length → inB m.vars (behindL env r) i
  · have hc := ccode_yes hm ⟨hb, hin⟩
    refine ⟨fun _ => ?_, fun h => absurd hc h⟩
    unfold ruleDo
    rw [if_pos ⟨h1, h2, hin⟩]
    unfold cval
    rw [if_pos hc]
  · have hc := ccode_no hm (vals := behindL env r) (fun h => hin h.2)
    refine ⟨fun h => (by rw [hc] at h; cases h), fun _ => ?_⟩
    unfold ruleDo
    rw [if_neg (fun h => hin h.2.2)]
/-- what is known of a rule that passes. -/
theorem rule_sets {vars : Int} {r : Ru} (h : rcode vars r = 0) : r.sets.length ≤ 6 ∧ ∀ j, j < r.sets.length → 0 ≤ (r.sets.getD j st0).var ∧ (r.sets.getD j st0).var < vars := by
  unfold rcode at h
  split at h
  · simp at h
  · rename_i h6
    refine ⟨by omega, fun j hj => ?_⟩
    split at h
    · have h1 := firstOf_zero h j hj
      unfold sAt at h1
      split at h1
      · simp at h1
      · rename_i h2; omega
    · rename_i h2; exact absurd h h2
theorem mcode_rules {m : Mo} (h : mcode m = 0) : m.rules.length ≤ 12 ∧ ∀ j, j < m.rules.length → rcode m.vars.length (m.rules.getD j ru0) = 0 := by
  unfold mcode at h
  split at h
  · split at h
    · simp at h
    · rename_i h1; exact ⟨by omega, firstOf_zero h⟩
  · rename_i h0; exact absurd h h0
theorem mcode_bare {m : Mo} (h : mcode m = 0) : mcode ⟨m.vars, []⟩ = 0 := by
  have hv : vcode m.vars = 0 := by
    unfold mcode at h
    split at h
    · assumption
    · rename_i h0; exact absurd h h0
  unfold mcode
  rw [if_pos hv]
  rfl
theorem valsL_length (l : List Vr) (c : Int) : (valsL l c).length = l.length := by simp [valsL]
end Go.Proofs.YtdlpmomohbdpgaaDoor

/-
  The library's slices.Clone at lists of numbers: its contract at this program.
-/
namespace Go.Proofs.YtdlpmomohbdpgaaDoor
open Go.Shelf Go.RowKit Go.Lib
end Go.Proofs.YtdlpmomohbdpgaaDoor

/-
  The contract of expr.Eval, where Check says yes.
-/
namespace Go.Proofs.YtdlpmomohbdpgaaDoor
open Go.ChangeShapes Go.WideShapes Go.ChangeAt Go.RowKit Go.Deep
open Terms Tm

/-- the values, as they lie. -/
def EnvAt (w : World) (eao : Option Addr) (env : List Int) : Prop := ∀ i, i < env.length → ∃ eb eoff, eao = some ⟨eb, eoff, none⟩ ∧ eb < w.heap.size ∧ w.cell? ⟨eb, eoff + i, none⟩ = some (.int .i64 (env.getD i 0))
theorem EnvAt.later {w w' : World} {eao : Option Addr} {env : List Int} (h : EnvAt w eao env) (hb : Below w.heap.size w w') : EnvAt w' eao env := fun i hi => by
  obtain ⟨eb, eoff, e1, e2, e3⟩ := h i hi
  exact ⟨eb, eoff, e1, Nat.lt_of_lt_of_le e2 hb.size, (hb.cell (p := ⟨eb, eoff + i, none⟩) e2).trans e3⟩

def evalPost (env : List Int) (t : Tm) (w : World) (e : Ending) (w' : World) : Prop :=
  e = .returned (.tuple #[.int .i64 (if envBad env = true then 0 else match t.eval env with | some x => x | none => 0), .int .i64 (if envBad env = true then 2 else match t.eval env with | some _ => 0 | none => 8)]) ∧ Below w.heap.size w w'

set_option maxHeartbeats 3200000 in
theorem eval_yes (b off n cap : Nat) (eao : Option Addr) (en ecap : Nat) (t : Tm) (env : List Int) (w : World) (hn : n = t.size) (h60 : n ≤ 60) (hen : en = env.length) (hen6 : en ≤ 6) (hg : t.Good env.length) (hty : t.typed = true) (hbB : b < w.heap.size) (hA : OpsAt w b off t.ops) (hE : EnvAt w eao env)
    (heo : Calls Tryd.prog 74 #[.slice (some ⟨b, off, none⟩) n cap, .int .i64 en] (e0 w) fun e w' => Below (e0 w).heap.size (e0 w) w' ∧ ∃ B, (e0 w).heap.size ≤ B ∧ e = .returned (.tuple #[.slice (some ⟨B, 0, none⟩) n n, .int .i64 0]) ∧ w'.rowIs B 3 n (fun q => .int .i64 (endAt (t.ops.map Prod.fst) q))) :
    Calls Tryd.prog 58 #[.slice (some ⟨b, off, none⟩) n cap, .slice eao en ecap] w (evalPost env t w) := by
  have hmf := hmakeFunc
  have HE : Hid (EnvAt w eao env) := hE
  have HA : Hid (OpsAt w b off t.ops) := hA
  have HN : Hid (n = t.size ∧ t.Good env.length ∧ t.typed = true ∧ en = env.length) := ⟨hn, hg, hty, hen⟩
  have hn1 : 0 < n := by rw [hn]; exact t.size_pos
  have hzs : (e0 w).heap.size = w.heap.size + 1 + 1 := by simp [e0]
  clear hE hA hn hg hty hen
  go_enter_defers Tryd.func58, Tryd.ntmps58
  go_wp2_with (go_at_call 74; refine heo.mono ?_; rintro e w2 ⟨hb2, B, hBw, rfl, hrow⟩; obtain ⟨c0, c1, f0, f1, hsz, hbw⟩ := e0_cells w hb2)
  obtain ⟨W3, hW3⟩ : ∃ W3, W3 = w2.setCell ⟨w.heap.size + 1, 0, none⟩ (.int .i64 0) := ⟨_, rfl⟩
  have hb3 : Below w.heap.size w W3 := by rw [hW3]; exact hbw.setCell (p := ⟨w.heap.size + 1, 0, none⟩) (by simp) _
  have d0 : W3.cell? ⟨w.heap.size, 0, none⟩ = some (.int .i64 0) := by rw [hW3]; simp [go_sem, c0]
  have d1 : W3.cell? ⟨w.heap.size + 1, 0, none⟩ = some (.int .i64 0) := by rw [hW3]; simp [go_sem, c1]
  have g0 : W3.frozen? ⟨w.heap.size, 0, none⟩ = false := by rw [hW3]; simp [go_sem, f0]
  have g1 : W3.frozen? ⟨w.heap.size + 1, 0, none⟩ = false := by rw [hW3]; simp [go_sem, f1]
  have hrow3 : W3.rowIs B 3 n (fun q => .int .i64 (endAt (t.ops.map Prod.fst) q)) := by rw [hW3]; exact hrow.setOther (by simp; omega) _
  have hsz3 : w.heap.size + 1 < W3.heap.size := by rw [hW3]; simpa using hsz
  have HW3 := (show Hid _ from hW3)
  have HR : Hid (W3.rowIs B 3 n (fun q => .int .i64 (endAt (t.ops.map Prod.fst) q))) := hrow3
  rw [← hW3]
  clear hW3 hrow3 hrow heo hb2 c0 c1 f0 f1 hsz hbw HW3
  go_loop [23] (fun c => ∃ i : Nat, i ≤ en ∧ c = .int .i64 i ∧ Hid (∀ j, j < i → -1000000 ≤ env.getD j 0 ∧ env.getD j 0 ≤ 1000000)) (fun c => en - (intOf c).toNat)
  case atStart => exact ⟨0, Nat.zero_le _, rfl, fun j hj => by omega⟩
  case round =>
    obtain ⟨i, hi, rfl, HJ⟩ := hrel
    by_cases hlt : i < en
    · obtain ⟨eb, eoff, rfl, e2, e3⟩ := (HE.out.later hb3) i (by rw [← HN.out.2.2.2]; exact hlt)
      have htg := fun w => tooGreat_any (env.getD i 0) w
      by_cases hz : -1000000 ≤ env.getD i 0 ∧ env.getD i 0 ≤ 1000000
      · rw [show decide (¬ (-1000000 ≤ env.getD i 0 ∧ env.getD i 0 ≤ 1000000)) = false by simpa using hz] at htg
        have HJ2 : Hid (∀ j, j < i + 1 → -1000000 ≤ env.getD j 0 ∧ env.getD j 0 ≤ 1000000) := fun j hj => by
          by_cases hji : j < i
          · exact HJ.out j hji
          · obtain rfl : j = i := by omega
            exact hz
        clear hz
        generalize env.getD i 0 = x at e3 htg
        go_wp2_with (go_at_call 75; refine (htg _).mono ?_; rintro e w5 ⟨rfl, rfl⟩)
        go_round
        case rel => exact ⟨i + 1, by omega, by go_num, HJ2⟩
        case measure => simp [intOf]; omega
      · have HX : Hid (envBad env = true) := envBad_at (by rw [← HN.out.2.2.2]; exact hlt) hz
        generalize env.getD i 0 = x at e3 htg hz
        rw [show decide (¬ (-1000000 ≤ x ∧ x ≤ 1000000)) = true by simp; omega] at htg
        clear hz
        go_wp2_with (go_at_call 75; refine (htg _).mono ?_; rintro e w5 ⟨rfl, rfl⟩)
        refine leaves_cons (f := 73) (args := #[.pointer (some ⟨w.heap.size, 0, none⟩), .pointer (some ⟨w.heap.size + 1, 0, none⟩)]) (by simp) (by simp [go_sem]) ?_
        refine (ecatch_idle w.heap.size _).mono ?_
        rintro e u' w'' ⟨rfl, rfl, rfl⟩
        simp [Leaves, settle, results, Tryd.results58, go_sem, d0, d1]
        unfold evalPost
        rw [if_pos HX.out, if_pos HX.out]
        exact ⟨rfl, (hb3.setCell (p := ⟨w.heap.size, 0, none⟩) (Nat.le_refl _) _).setCell (p := ⟨w.heap.size + 1, 0, none⟩) (by simp) _⟩
    · have hin : i = en := by omega
      subst hin
      have hok : envBad env = false := envBad_ok (fun j hj => HJ.out j (by rw [HN.out.2.2.2]; exact hj))
      have HX : Hid (envBad env = false) := hok
      have hpm := pairMakers_any W3
      clear hlt hi
      go_wp2_with (go_at_call 76; refine hpm.mono ?_; rintro e W4 ⟨M, hM, rfl, hpa, hb4⟩)
      have hb5 : Below W3.heap.size W3 (W4.alloc (.cells #[.slice (some ⟨b, off, none⟩) n cap, .slice (some ⟨B, 0, none⟩) n n, .slice eao i ecap, .map (some M)] 118)) := hb4.alloc hb4.size _
      have hpa5 : PairsAt (W4.alloc (.cells #[.slice (some ⟨b, off, none⟩) n cap, .slice (some ⟨B, 0, none⟩) n n, .slice eao i ecap, .map (some M)] 118)) M := World.ownsMap.alloc hpa _
      have hwk : WorkAt (W4.alloc (.cells #[.slice (some ⟨b, off, none⟩) n cap, .slice (some ⟨B, 0, none⟩) n n, .slice eao i ecap, .map (some M)] 118)) b off B eao M t env := by
        have hbb := hb3.trans (hb5.mono hb3.size)
        refine ⟨Nat.lt_of_lt_of_le hbB hbb.size, HA.out.below hbb hbB, ?_, HE.out.later hbb, hpa5⟩
        have hr := HR.out
        rw [HN.out.1] at hr
        exact hr.of_block (hb5.block B hr.lt)
      generalize W4.alloc (.cells #[.slice (some ⟨b, off, none⟩) n cap, .slice (some ⟨B, 0, none⟩) n n, .slice eao i ecap, .map (some M)] 118) = W5 at *
      have hat := at_any b off n cap B eao i ecap M env.length t env HN.out.1 h60 HN.out.2.1 HN.out.2.2.1 (envBad_false hok) rfl HN.out.2.2.2 t.size 0 W5 hn1 (by rw [sub_zero]; omega) hwk
      rw [sub_zero] at hat
      have hs3 := hb3.size
      have hs5 := hb5.size
      clear hwk hpa hpa5 hok hpm hb4 HR
      cases hx : t.eval env with
      | none =>
        rw [hx] at hat
        have HXN : Hid (t.eval env = none) := hx
        clear hx
        refine hat.mono ?_
        rintro e w6 ⟨hb6, rfl⟩
        have hb36 := hb5.trans (hb6.mono hb5.size)
        have k0 := (hb36.cell (p := ⟨w.heap.size, 0, none⟩) (by simp only; omega)).trans d0
        have k1 := (hb36.cell (p := ⟨w.heap.size + 1, 0, none⟩) (by simp only; omega)).trans d1
        have z0 := (hb36.frozen (p := ⟨w.heap.size, 0, none⟩) (by simp only; omega)).trans g0
        have z1 := (hb36.frozen (p := ⟨w.heap.size + 1, 0, none⟩) (by simp only; omega)).trans g1
        have hbf := hb3.trans (hb36.mono hb3.size)
        refine leaves_cons (f := 73) (args := #[.pointer (some ⟨w.heap.size, 0, none⟩), .pointer (some ⟨w.heap.size + 1, 0, none⟩)]) (by simp) (by simp [go_sem]) ?_
        refine (ecatch_panicking w.heap.size 8 _ _ w6 k0 k1 z0 z1).mono ?_
        rintro e u' w'' ⟨rfl, rfl, rfl⟩
        simp [Leaves, settle, results, Tryd.results58, go_sem, k0, k1]
        unfold evalPost
        rw [if_neg (by rw [HX.out]; simp), if_neg (by rw [HX.out]; simp), HXN.out]
        exact ⟨rfl, (((hbf.setCell (p := ⟨w.heap.size, 0, none⟩) (Nat.le_refl _) _).setCell (p := ⟨w.heap.size + 1, 0, none⟩) (by simp) _)).drew⟩
      | some x =>
        rw [hx] at hat
        have HXN : Hid (t.eval env = some x) := hx
        clear hx
        refine hat.mono ?_
        rintro e w6 ⟨hb6, rfl⟩
        have hb36 := hb5.trans (hb6.mono hb5.size)
        have k0 := (hb36.cell (p := ⟨w.heap.size, 0, none⟩) (by simp only; omega)).trans d0
        have k1 := (hb36.cell (p := ⟨w.heap.size + 1, 0, none⟩) (by simp only; omega)).trans d1
        have z0 := (hb36.frozen (p := ⟨w.heap.size, 0, none⟩) (by simp only; omega)).trans g0
        have z1 := (hb36.frozen (p := ⟨w.heap.size + 1, 0, none⟩) (by simp only; omega)).trans g1
        have hbf := hb3.trans (hb36.mono hb3.size)
        clear d0 d1 g0 g1 hat
        go_wp2_with fail
        refine leaves_cons (f := 73) (args := #[.pointer (some ⟨w.heap.size, 0, none⟩), .pointer (some ⟨w.heap.size + 1, 0, none⟩)]) (by simp) (by simp [go_sem]) ?_
        refine (ecatch_idle w.heap.size _).mono ?_
        rintro e u' w'' ⟨rfl, rfl, rfl⟩
        simp [Leaves, settle, results, Tryd.results58, go_sem, k0, k1]
        unfold evalPost
        rw [if_neg (by rw [HX.out]; simp), if_neg (by rw [HX.out]; simp), HXN.out]
        exact ⟨rfl, (hbf.setCell (p := ⟨w.heap.size, 0, none⟩) (Nat.le_refl _) _).setCell (p := ⟨w.heap.size + 1, 0, none⟩) (by simp) _⟩

theorem IntsV.env {w : World} {v : Value} {env : List Int} (h : IntsV w v env) : ∃ eao ecap, v = .slice eao env.length ecap ∧ EnvAt w eao env := by
  obtain ⟨ao, cap, rfl, h⟩ := h
  refine ⟨ao, cap, rfl, fun i hi => ?_⟩
  obtain ⟨b, off, rfl, hlt, hat⟩ := h (by intro h; subst h; simp at hi)
  exact ⟨b, off, rfl, hlt, hat i hi⟩

/-- THE CONTRACT OF expr.Eval. -/
theorem eval_any (v ev : Value) (l : List (Int × Int)) (env : List Int) (t : Tm) (w : World) (hB : 0 < w.heap.size) (hT : TabAt w) (hV : OpsV w v l) (hE : IntsV w ev env) (ht : endsCode (l.map Prod.fst) = 0 → t.Wf ∧ t.ops = l) :
    Calls Tryd.prog 58 #[v, ev] w fun e w' => e = .returned (.tuple #[.int .i64 (evalN l t env), .int .i64 (evalC l t env)]) ∧ Below w.heap.size w w' := by
  have hb0 := e0_below w
  have heo := eo_any v l env.length t (e0 w) (Nat.lt_of_lt_of_le hB hb0.size) (hT.below hb0 hB) (hV.below hb0) ht
  obtain ⟨eao, ecap, rfl, hEA⟩ := hE.env
  by_cases hx : xcode env.length l t = 0
  · obtain ⟨h0, h6, hops, hg, htt, h60⟩ := xcode_zero hx ht
    subst hops
    obtain ⟨ao, cap, rfl, _, h⟩ := hV
    obtain ⟨b, off, rfl, hlt, hat⟩ := h t.ops_ne
    refine (eval_yes b off _ cap eao _ ecap t env w t.ops_length (by rw [ops_length]; exact h60) rfl (by omega) hg htt hlt hat hEA (heo.mono fun e w' ⟨h1, _, h3⟩ => ⟨h1, ?_⟩)).mono fun e w' ⟨h1, h2⟩ => ⟨?_, h2⟩
    · obtain ⟨B, p1, p2, p3⟩ := h3 hx
      exact ⟨B, p1, p2, p3⟩
    · rw [h1]
      simp only [evalN, evalC, hx, ne_eq, not_true_eq_false, if_false]
      all_goals (cases t.eval env <;> rfl)
  · obtain ⟨ao, cap, rfl, _, h⟩ := hV
    refine (eval_no ao _ cap eao _ ecap _ w hx (heo.mono fun e w' ⟨h1, h2, _⟩ => ⟨h2 hx, h1⟩)).mono fun e w' ⟨h1, h2⟩ => ⟨?_, h2⟩
    rw [h1]
    unfold evalN evalC
    rw [if_pos hx, if_pos hx]
end Go.Proofs.YtdlpmomohbdpgaaDoor

/-
  The contracts of the program's countOf, Count.
-/
namespace Go.Proofs.YtdlpmomohbdpgaaDoor
open Go.ChangeShapes Go.WideShapes Go.ChangeAt Go.RowKit Go.Deep
open Terms Tm

set_option maxRecDepth 20000 in
set_option maxHeartbeats 1600000 in
theorem countOf_any (va : Value) (l : List Vr) (w : World) (hok : VarsOk l) (hV : VarsV w va l) :
    Calls Tryd.prog 57 #[va] w fun e w' => e = .returned (.int .i64 (prodTo l l.length)) ∧ Below w.heap.size w w' := by
  obtain ⟨ao, cap, rfl⟩ := hV.shape
  have HV : Hid (VarsV w (.slice ao l.length cap) l) := hV
  have HOK : Hid (VarsOk l) := hok
  have h6 := hok.1
  obtain ⟨n, hn⟩ : ∃ n, n = l.length := ⟨_, rfl⟩
  have HN : Hid (n = l.length) := hn
  rw [← hn] at h6 HV ⊢
  clear hV hn hok
  go_enter Tryd.func57, Tryd.ntmps57
  go_wp2
  go_loopw [3, 8] (fun st i wr => ∃ k : Nat, k ≤ n ∧ i = .int .i64 k ∧ st = .int .i64 (prodTo l k) ∧ Below w.heap.size w wr) (fun _ i _ => n - (intOf i).toNat)
  case atStart => exact ⟨0, Nat.zero_le _, rfl, rfl, Below.refl _ _⟩
  case round =>
    obtain ⟨k, hk, rfl, rfl, hbel⟩ := hrel
    by_cases hlt : k < n
    · obtain ⟨b, off, rfl, hblt, hat⟩ := HV.out.at (i := k) (by rw [← HN.out]; exact hlt)
      obtain ⟨c0, c1, c2, c3⟩ := hat.below hbel hblt
      have hpb := HOK.out.prod (j := k) (by rw [← HN.out]; exact hk)
      have hvb := HOK.out.at (j := k) (by rw [← HN.out]; exact hlt)
      have HPr : Hid (prodTo l (k + 1) = prodTo l k * vspan (l.getD k vr0)) := rfl
      generalize prodTo l k = st at *
      generalize l.getD k vr0 = x at *
      obtain ⟨s, lo, hi, ini⟩ := x
      simp only [vspan] at c0 c1 c2 c3 HPr hvb
      obtain ⟨hv1, hv2, hv3, hv4, hv5, hv6, hv7⟩ := hvb
      have hsp := fun w => span_any s lo hi ini w hv3 hv4 hv5
      obtain ⟨sp, hspe⟩ : ∃ sp, hi - lo + 1 = sp := ⟨_, rfl⟩
      rw [hspe] at hv1 hv2 hsp HPr
      clear hspe hat
      have hm1 : 1 ≤ st * sp := by have := Int.mul_le_mul hpb.1 hv1 (by omega) (by omega); simpa using this
      have hm2 : st * sp ≤ 262144 := by have := Int.mul_le_mul hpb.2 hv2 (by omega) (by omega); simpa using this
      have hbA := hbel.alloc hbel.size (.cells #[.string s, .int .i64 lo, .int .i64 hi, .int .i64 ini] 70)
      go_wp2_with (go_at_call 56; refine (hsp _).mono ?_; rintro e w3 ⟨rfl, hb3⟩)
      go_roundw
      case rel => exact ⟨k + 1, hlt, by go_num, by rw [HPr.out], hbA.trans (hb3.mono hbA.size)⟩
      case measure => simp [intOf]; omega
    · have hkn : k = n := by omega
      subst hkn
      go_wp2
      go_ret
      exact ⟨rfl, hbel⟩

end Go.Proofs.YtdlpmomohbdpgaaDoor

/-
  The contracts of the program's codeOf, Code.
-/
namespace Go.Proofs.YtdlpmomohbdpgaaDoor
open Go.ChangeShapes Go.WideShapes Go.ChangeAt Go.RowKit Go.Deep
open Terms Tm

set_option maxRecDepth 20000 in
set_option maxHeartbeats 1600000 in
theorem codeOf_any (va vv : Value) (l : List Vr) (vals : List Int) (w : World) (hok : VarsOk l) (hlen : vals.length = l.length) (hin : ∀ i, i < l.length → inB l vals i) (hV : VarsV w va l) (hI : IntsV w vv vals) :
    Calls Tryd.prog 36 #[va, vv] w fun e w' => e = .returned (.int .i64 (codeTo l vals l.length)) ∧ Below w.heap.size w w' := by
  obtain ⟨ao, cap, rfl⟩ := hV.shape
  obtain ⟨io, icap, rfl⟩ := hI.shape
  have HV : Hid (VarsV w (.slice ao l.length cap) l) := hV
  have HI : Hid (IntsV w (.slice io vals.length icap) vals) := hI
  have HOK : Hid (VarsOk l) := hok
  have HIN : Hid (∀ i, i < l.length → inB l vals i) := hin
  have HLen : Hid (vals.length = l.length) := hlen
  have h6 := hok.1
  obtain ⟨n, hn⟩ : ∃ n, n = l.length := ⟨_, rfl⟩
  have HN : Hid (n = l.length) := hn
  rw [hlen, ← hn] at HI
  rw [hlen, ← hn]
  rw [← hn] at h6 HV
  clear hV hI hn hok hin hlen
  go_enter Tryd.func36, Tryd.ntmps36
  go_wp2
  go_loopw [5, 10] (fun st i wr => ∃ k : Nat, k ≤ n ∧ i = .int .i64 k ∧ st = .int .i64 (codeTo l vals k) ∧ Below w.heap.size w wr) (fun _ i _ => n - (intOf i).toNat)
  case atStart => exact ⟨0, Nat.zero_le _, rfl, rfl, Below.refl _ _⟩
  case round =>
    obtain ⟨k, hk, rfl, rfl, hbel⟩ := hrel
    by_cases hlt : k < n
    · obtain ⟨b, off, rfl, hblt, hat⟩ := HV.out.at (i := k) (by rw [← HN.out]; exact hlt)
      obtain ⟨ib, ioff, rfl, hilt, hic⟩ := HI.out.at (i := k) (by rw [HLen.out, ← HN.out]; exact hlt)
      obtain ⟨c0, c1, c2, c3⟩ := hat.below hbel hblt
      have hic2 := (hbel.cell (p := ⟨ib, ioff + k, none⟩) hilt).trans hic
      have hcb := code_bounds HOK.out (k := k) (by rw [← HN.out]; exact hk) (fun i hi => HIN.out i (by rw [← HN.out]; omega))
      have hpb := HOK.out.prod (j := k) (by rw [← HN.out]; exact hk)
      have hvb := HOK.out.at (j := k) (by rw [← HN.out]; exact hlt)
      have hxb := HIN.out k (by rw [← HN.out]; exact hlt)
      have HPr : Hid (codeTo l vals (k + 1) = codeTo l vals k * vspan (l.getD k vr0) + (vals.getD k 0 - (l.getD k vr0).lo)) := rfl
      unfold inB at hxb
      generalize codeTo l vals k = st at *
      generalize prodTo l k = pr at *
      generalize l.getD k vr0 = x at *
      generalize vals.getD k 0 = y at *
      obtain ⟨s, lo, hi, ini⟩ := x
      simp only [vspan] at c0 c1 c2 c3 HPr hvb hxb
      obtain ⟨hv1, hv2, hv3, hv4, hv5, hv6, hv7⟩ := hvb
      have hsp := fun w => span_any s lo hi ini w hv3 hv4 hv5
      obtain ⟨sp, hspe⟩ : ∃ sp, hi - lo + 1 = sp := ⟨_, rfl⟩
      rw [hspe] at hv1 hv2 hsp HPr
      clear hspe hat hic
      have hm1 : 0 ≤ st * sp := Int.mul_nonneg hcb.1 (by omega)
      have hm2 : st * sp ≤ 262144 := by
        have h1 : st ≤ 4096 := by omega
        have := Int.mul_le_mul h1 hv2 (by omega) (by omega); simpa using this
      have hw1 : IntKind.i64.wrap (st * sp) = st * sp := wr64 (by omega) (by omega)
      have hw2 : IntKind.i64.wrap (st * sp + y) = st * sp + y := wr64 (by omega) (by omega)
      have hw3 : IntKind.i64.wrap (st * sp + y - lo) = st * sp + y - lo := wr64 (by omega) (by omega)
      have hszw := hbel.size
      have hbA := hbel.alloc hszw (.cells #[.string s, .int .i64 lo, .int .i64 hi, .int .i64 ini] 70)
      have hic3 := (((Below.refl wr.heap.size wr).alloc (Nat.le_refl _) (.cells #[.string s, .int .i64 lo, .int .i64 hi, .int .i64 ini] 70)).cell (p := ⟨ib, ioff + k, none⟩) (by simp only; omega)).trans hic2
      have hi0 : (0 : Int) ≤ (k : Int) := Int.natCast_nonneg _
      have hi1 : (k : Int) < (n : Int) := by omega
      have hS0 : ∀ w', Below (wr.heap.size + 1) (wr.alloc (.cells #[.string s, .int .i64 lo, .int .i64 hi, .int .i64 ini] 70)) w' → w'.cell? ⟨wr.heap.size, 0, none⟩ = some (.string s) ∧ w'.cell? ⟨wr.heap.size, 1, none⟩ = some (.int .i64 lo) ∧ w'.cell? ⟨wr.heap.size, 2, none⟩ = some (.int .i64 hi) ∧ w'.cell? ⟨wr.heap.size, 3, none⟩ = some (.int .i64 ini) ∧ w'.cell? ⟨ib, ioff + k, none⟩ = some (.int .i64 y) := fun w' hw' =>
        ⟨(hw'.cell (p := ⟨wr.heap.size, 0, none⟩) (by simp)).trans (by simp [go_sem]), (hw'.cell (p := ⟨wr.heap.size, 1, none⟩) (by simp)).trans (by simp [go_sem]), (hw'.cell (p := ⟨wr.heap.size, 2, none⟩) (by simp)).trans (by simp [go_sem]), (hw'.cell (p := ⟨wr.heap.size, 3, none⟩) (by simp)).trans (by simp [go_sem]), (hw'.cell (p := ⟨ib, ioff + k, none⟩) (by simp only; omega)).trans hic3⟩
      have hB0 : Below (wr.heap.size + 1) (wr.alloc (.cells #[.string s, .int .i64 lo, .int .i64 hi, .int .i64 ini] 70)) (wr.alloc (.cells #[.string s, .int .i64 lo, .int .i64 hi, .int .i64 ini] 70)) := Below.refl _ _
      clear hic3 hic2
      go_wp2_with fail
      go_region_held3 (fun w' => w'.cell? ⟨wr.heap.size, 0, none⟩ = some (.string s) ∧ w'.cell? ⟨wr.heap.size, 1, none⟩ = some (.int .i64 lo) ∧ w'.cell? ⟨wr.heap.size, 2, none⟩ = some (.int .i64 hi) ∧ w'.cell? ⟨wr.heap.size, 3, none⟩ = some (.int .i64 ini) ∧ w'.cell? ⟨ib, ioff + k, none⟩ = some (.int .i64 y))
        (exact hS0 _ (by first | exact hB0 | exact hB0.drew | exact hB0.drew.trans (hb2.mono (by simp))))
        (first | (go_at_call 56; refine (hsp _).mono ?_; rintro e w2 ⟨rfl, hb2⟩))
      go_wp2_with fail
      go_roundw
      case rel => exact ⟨k + 1, hlt, by go_num, by rw [HPr.out]; first | (congr 1; omega) | (simp [hw1, hw2, hw3]; omega), hbA.drew.trans (hb2.mono (by simp; omega))⟩
      case measure => simp [intOf]; omega
    · have hkn : k = n := by omega
      subst hkn
      go_wp2
      go_ret
      exact ⟨rfl, hbel⟩
end Go.Proofs.YtdlpmomohbdpgaaDoor

/-
  The contracts of package step's inner functions: holds, withoutRules, doRule.
-/
namespace Go.Proofs.YtdlpmomohbdpgaaDoor
open Go.ChangeShapes Go.WideShapes Go.ChangeAt Go.RowKit Go.Deep
open Terms Tm

/-- THE CONTRACT OF expr.Eval, in the step's words. -/
theorem ex_any (v ev : Value) (l : List (Int × Int)) (env : List Int) (w : World) (hB : 0 < w.heap.size) (hT : TabAt w) (hV : OpsV w v l) (hE : IntsV w ev env) :
    Calls Tryd.prog 58 #[v, ev] w fun e w' => e = .returned (.tuple #[.int .i64 (exN l env), .int .i64 (exC l env)]) ∧ Below w.heap.size w w' :=
  eval_any v ev l env (treeOf l) w hB hT hV hE (treeOf_spec l)

set_option maxHeartbeats 800000 in
/-- THE CONTRACT OF holds. -/
theorem sholds_any (v ev : Value) (l : List (Int × Int)) (env : List Int) (w : World) (hB : 0 < w.heap.size) (hT : TabAt w) (hV : OpsV w v l) (hE : IntsV w ev env) :
    Calls Tryd.prog 39 #[v, ev] w fun e w' => e = .returned (.bool (holdsB l env)) ∧ Below w.heap.size w w' := by
  have hx := ex_any v ev l env w hB hT hV hE
  unfold holdsB
  generalize exN l env = n at hx ⊢
  generalize exC l env = c at hx ⊢
  clear hV hE hT
  go_enter Tryd.func39, Tryd.ntmps39
  go_wp2_with (go_at_call 58; refine hx.mono ?_; rintro e w1 ⟨rfl, hb1⟩)
  all_goals go_ret
  all_goals exact ⟨by first | (simp [*]; done) | (simp [*]; by_cases h1 : n = 1 <;> simp [h1]), hb1⟩

/-- THE CONTRACT OF withoutRules. -/
theorem bare_any (ao ro : Option Addr) (n cap rn rc : Nat) (w : World) :
    Calls Tryd.prog 38 #[.agg #[.slice ao n cap, .slice ro rn rc]] w fun e w' => e = .returned (.agg #[.slice ao n cap, .slice none 0 0]) ∧ Below w.heap.size w w' := by
  go_enter Tryd.func38, Tryd.ntmps38
  go_wp2_with fail
  exact bodyPost_ret (v := .agg #[.slice ao n cap, .slice none 0 0]) (by simp [results, Tryd.results38, go_sem]) rfl ⟨rfl, ((Below.refl _ _).alloc (Nat.le_refl _) _).alloc (by simp) _⟩

end Go.Proofs.YtdlpmomohbdpgaaDoor

/-
  The contract of the program's Values.
-/
namespace Go.Proofs.YtdlpmomohbdpgaaDoor
open Go.ChangeShapes Go.WideShapes Go.ChangeAt Go.RowKit Go.Deep
open Terms Tm

set_option maxRecDepth 20000 in
set_option maxHeartbeats 1600000 in
theorem mvalues_loop (va vr : Value) (m : Mo) (code : Int) (w : World) (hB : 0 < w.heap.size) (hT : TabAt w) (hV : ModelV w va vr m) (h : mcode m = 0) (hc : 0 ≤ code ∧ code < prodTo m.vars m.vars.length) :
    Calls Tryd.prog 37 #[.agg #[va, vr], .int .i64 code] w fun e w' => ∃ B, e = .returned (.tuple #[.slice (some ⟨B, 0, none⟩) m.vars.length m.vars.length, .int .i64 0]) ∧ w.heap.size ≤ B ∧ Below w.heap.size w w' ∧ w'.rowIs B 3 m.vars.length (fun j => .int .i64 (valAt m.vars code j)) := by
  have hA : ∀ o, Below w.heap.size w (w.alloc o) := fun o => (Below.refl _ _).alloc (Nat.le_refl _) o
  have hch := fun o => mcheck_any va vr m (w.alloc o) (Nat.lt_of_lt_of_le hB (hA o).size) (hT.below (hA o) hB) (hV.below (hA o))
  rw [h] at hch
  have hok := mcode_vars h
  have HOK : Hid (VarsOk m.vars) := hok
  have h6 := hok.1
  have hcf := (fun w1 (hb : Below w.heap.size w w1) => countOf_any va m.vars w1 hok (hV.1.below hb))
  obtain ⟨ao, cap, rfl⟩ := hV.1.shape
  obtain ⟨ro, rc, rfl⟩ := hV.2.shape
  have HV : Hid (VarsV w (.slice ao m.vars.length cap) m.vars) := hV.1
  have hN := hok.prod (j := m.vars.length) (Nat.le_refl _)
  have HS0 : Hid (segP m.vars m.vars.length = 1) := segP_end _
  obtain ⟨hc1, hc2⟩ := hc
  generalize prodTo m.vars m.vars.length = N at *
  obtain ⟨n, hn⟩ : ∃ n, n = m.vars.length := ⟨_, rfl⟩
  have HN : Hid (n = m.vars.length) := hn
  rw [← hn] at h6 hch hcf HV HS0 ⊢
  generalize m.rules.length = rn at *
  have hmk := run_make_row' (P := Tryd.prog) 54 3 (.int .i64 0) 8 Tryd.underlying54 infoInt rfl .i64 .i64 n (by omega) (by omega)
  clear hV hT hn hok h
  go_enter Tryd.func37, Tryd.ntmps37
  go_wp2_with (first | (go_at_call 35; refine (hch _).mono ?_; rintro e w1 ⟨rfl, hb1⟩; have hcb : w1.cell? ⟨w.heap.size, 0, none⟩ = some (.slice ao n cap) := (hb1.cell (p := ⟨w.heap.size, 0, none⟩) (by simp)).trans (by simp [go_sem]); have hbw := (hA _).trans (hb1.mono (hA _).size); have hs1 : w.heap.size < w1.heap.size := (by have := hb1.size; simp at this; omega)) | (go_at_call 57; refine (hcf _ hbw).mono ?_; rintro e w2 ⟨rfl, hb2⟩; have hcb2 := (hb2.cell (p := ⟨w.heap.size, 0, none⟩) hs1).trans hcb))
  have hbw2 := hbw.trans (hb2.mono hbw.size)
  have hrow0 := World.rowIs_made w2 (.int .i64 0) n 3
  have hs2 := Nat.lt_of_lt_of_le hs1 hb2.size
  have HB2 : Hid (Below w.heap.size w w2) := hbw2
  have hcb3 := hcb2
  clear hch hcf hmk hb1 hb2 hcb hbw hs1 hbw2 hcb2
  go_loopw [1, 8] (fun cd i wr => ∃ k : Nat, k ≤ n ∧ i = .int .i64 ((k : Int) - 1) ∧ cd = .int .i64 (code / segP m.vars k) ∧ Hid (wr.rowIs w2.heap.size 3 n (fun j => if k ≤ j then .int .i64 (valAt m.vars code j) else .int .i64 0)) ∧ Hid (Below w2.heap.size w2 wr)) (fun _ i _ => (intOf i + 1).toNat)
  case atStart => exact ⟨n, Nat.le_refl _, by first | rfl | go_num, by rw [HS0.out]; simp, hrow0.congr (fun i hi => by rw [if_neg (by omega)]), (Below.refl _ _).alloc (Nat.le_refl _) _⟩
  case round =>
    obtain ⟨k, hk, rfl, rfl, HRow, HBel⟩ := hrel
    have hbel := HBel.out
    have hrow := HRow.out
    have hbw := HB2.out.trans (hbel.mono HB2.out.size)
    have hszr := hrow.lt
    have cb := (hbel.cell (p := ⟨w.heap.size, 0, none⟩) hs2).trans hcb3
    by_cases hk0 : 0 < k
    · obtain ⟨k, rfl⟩ : ∃ k', k = k' + 1 := ⟨k - 1, by omega⟩
      rw [show (((k + 1 : Nat) : Int) - 1) = (k : Int) by omega]
      have hlt : k < n := by omega
      obtain ⟨b, off, rfl, hblt, hat⟩ := HV.out.at (i := k) (by rw [← HN.out]; exact hlt)
      obtain ⟨c0, c1, c2, c3⟩ := hat.below hbw hblt
      have hvb := HOK.out.at (j := k) (by rw [← HN.out]; exact hlt)
      have hsg := segP_bounds HOK.out (i := k + 1) (by rw [← HN.out]; exact hlt)
      have HQ : Hid (code / segP m.vars (k + 1) / vspan (m.vars.getD k vr0) = code / segP m.vars k) := quo_step HOK.out code (by rw [← HN.out]; exact hlt)
      have HVa : Hid (valAt m.vars code k = (m.vars.getD k vr0).lo + (code / segP m.vars (k + 1)) % vspan (m.vars.getD k vr0)) := rfl
      have hq0 : 0 ≤ code / segP m.vars (k + 1) := Int.ediv_nonneg hc1 (by omega)
      have hq1 : code / segP m.vars (k + 1) ≤ 4096 := by
        have := Int.ediv_le_self (segP m.vars (k + 1)) hc1; omega
      have hf : wr.frozen? ⟨w2.heap.size, k, none⟩ = false := hrow.frozen k
      have hcl : wr.cell? ⟨w2.heap.size, k, none⟩ = some (.int .i64 0) := by rw [hrow.cell hlt, if_neg (by omega)]
      generalize code / segP m.vars (k + 1) = cd at *
      generalize m.vars.getD k vr0 = x at *
      obtain ⟨s, lo, hi, ini⟩ := x
      simp only [vspan] at c0 c1 c2 c3 HQ HVa hvb
      obtain ⟨hv1, hv2, hv3, hv4, hv5, hv6, hv7⟩ := hvb
      have hsp := fun w => span_any s lo hi ini w hv3 hv4 hv5
      obtain ⟨sp, hspe⟩ : ∃ sp, hi - lo + 1 = sp := ⟨_, rfl⟩
      rw [hspe] at hv1 hv2 hsp HQ HVa
      clear hspe hat
      have hr0 := Int.emod_nonneg cd (show sp ≠ 0 by omega)
      have hr1 := Int.emod_lt_of_pos cd (show 0 < sp by omega)
      have hi0 : (0 : Int) ≤ (k : Int) := Int.natCast_nonneg _
      have hi1 : (k : Int) < (n : Int) := by omega
      have hsz0 : ¬ sp = 0 := by omega
      have hsz1 : (sp == 0) = false := by rw [beq_eq_false_iff_ne]; omega
      have ht : cd.tmod sp = cd % sp := Int.tmod_eq_emod_of_nonneg hq0
      have htd : cd.tdiv sp = cd / sp := Int.tdiv_eq_ediv_of_nonneg hq0
      have hd0 := Int.ediv_nonneg hq0 (show 0 ≤ sp by omega)
      have hd1 := Int.ediv_le_self sp hq0
      have hw0 : IntKind.i64.wrap (cd % sp) = cd % sp := wr64 (by omega) (by omega)
      have hw1 : IntKind.i64.wrap (lo + cd % sp) = lo + cd % sp := wr64 (by omega) (by omega)
      have hbA := hbel.alloc (Nat.le_of_lt hszr) (.cells #[.string s, .int .i64 lo, .int .i64 hi, .int .i64 ini] 70)
      have HBA := (show Hid _ from hbA)
      have hfA := hrow.alloc (.cells #[.string s, .int .i64 lo, .int .i64 hi, .int .i64 ini] 70)
      have HRA := (show Hid _ from hfA)
      have hS0 : ∀ w', Below (wr.heap.size + 1) (wr.alloc (.cells #[.string s, .int .i64 lo, .int .i64 hi, .int .i64 ini] 70)) w' → w'.cell? ⟨wr.heap.size, 0, none⟩ = some (.string s) ∧ w'.cell? ⟨wr.heap.size, 1, none⟩ = some (.int .i64 lo) ∧ w'.cell? ⟨wr.heap.size, 2, none⟩ = some (.int .i64 hi) ∧ w'.cell? ⟨wr.heap.size, 3, none⟩ = some (.int .i64 ini) := fun w' hw' =>
        ⟨(hw'.cell (p := ⟨wr.heap.size, 0, none⟩) (by simp)).trans (by simp [go_sem]), (hw'.cell (p := ⟨wr.heap.size, 1, none⟩) (by simp)).trans (by simp [go_sem]), (hw'.cell (p := ⟨wr.heap.size, 2, none⟩) (by simp)).trans (by simp [go_sem]), (hw'.cell (p := ⟨wr.heap.size, 3, none⟩) (by simp)).trans (by simp [go_sem])⟩
      have hne : ∀ j : Nat, (⟨wr.heap.size, j, none⟩ : Addr) ≠ ⟨w2.heap.size, k, none⟩ := fun j h => by injection h with h1; omega
      have hS1 : ∀ w' v, Below (wr.heap.size + 1) (wr.alloc (.cells #[.string s, .int .i64 lo, .int .i64 hi, .int .i64 ini] 70)) w' → (w'.setCell ⟨w2.heap.size, k, none⟩ v).cell? ⟨wr.heap.size, 0, none⟩ = some (.string s) ∧ (w'.setCell ⟨w2.heap.size, k, none⟩ v).cell? ⟨wr.heap.size, 1, none⟩ = some (.int .i64 lo) ∧ (w'.setCell ⟨w2.heap.size, k, none⟩ v).cell? ⟨wr.heap.size, 2, none⟩ = some (.int .i64 hi) ∧ (w'.setCell ⟨w2.heap.size, k, none⟩ v).cell? ⟨wr.heap.size, 3, none⟩ = some (.int .i64 ini) := fun w' v hw' => by
        obtain ⟨a0, a1, a2, a3⟩ := hS0 w' hw'
        exact ⟨(World.cell?_setCell_other _ _ _ _ (hne 0).symm).trans a0, (World.cell?_setCell_other _ _ _ _ (hne 1).symm).trans a1, (World.cell?_setCell_other _ _ _ _ (hne 2).symm).trans a2, (World.cell?_setCell_other _ _ _ _ (hne 3).symm).trans a3⟩
      have hB0 : Below (wr.heap.size + 1) (wr.alloc (.cells #[.string s, .int .i64 lo, .int .i64 hi, .int .i64 ini] 70)) (wr.alloc (.cells #[.string s, .int .i64 lo, .int .i64 hi, .int .i64 ini] 70)).drew := (Below.refl _ _).drew
      have hrw := fun w' (hw' : Below (wr.heap.size + 1) (wr.alloc (.cells #[.string s, .int .i64 lo, .int .i64 hi, .int .i64 ini] 70)) w') => hfA.of_block (hw'.block w2.heap.size (by omega))
      have hcf3 : ∀ w', Below (wr.heap.size + 1) (wr.alloc (.cells #[.string s, .int .i64 lo, .int .i64 hi, .int .i64 ini] 70)) w' → w'.frozen? ⟨w2.heap.size, k, none⟩ = false ∧ w'.cell? ⟨w2.heap.size, k, none⟩ = some (.int .i64 0) := fun w' hw' => ⟨(hrw w' hw').frozen k, by rw [(hrw w' hw').cell hlt, if_neg (by omega)]⟩
      have HRw := (show Hid _ from hrw)
      clear hfA hbA hrw hbel hrow hbw
      go_wp2_with fail
      go_region_held3 (fun w' => w'.cell? ⟨wr.heap.size, 0, none⟩ = some (.string s) ∧ w'.cell? ⟨wr.heap.size, 1, none⟩ = some (.int .i64 lo) ∧ w'.cell? ⟨wr.heap.size, 2, none⟩ = some (.int .i64 hi) ∧ w'.cell? ⟨wr.heap.size, 3, none⟩ = some (.int .i64 ini))
        (first | exact hS0 _ hB0 | exact hS0 _ (hB0.trans (hb3.mono (by simp))) | exact hS1 _ _ (hB0.trans (hb3.mono (by simp))))
        (first | (go_at_call 56; refine (hsp _).mono ?_; rintro e w3 ⟨rfl, hb3⟩; obtain ⟨hf3, hc3⟩ := hcf3 _ (hB0.trans (hb3.mono (by simp)))))
      have hB3 := hB0.trans (hb3.mono (by simp))
      obtain ⟨e0, e1, e2, e3⟩ := hS1 w3 (.int .i64 (lo + cd % sp)) hB3
      have hs3 : wr.heap.size < w3.heap.size := by have := hb3.size; simp at this; omega
      have hrow4 : ∀ w4, Below w3.heap.size (w3.setCell ⟨w2.heap.size, k, none⟩ (.int .i64 (lo + cd % sp))) w4 → w4.rowIs w2.heap.size 3 n (fun j => if k ≤ j then .int .i64 (valAt m.vars code j) else .int .i64 0) ∧ Below w2.heap.size w2 w4 := fun w4 h4 => by
        refine ⟨(((HRw.out w3 hB3).set k (.int .i64 (lo + cd % sp))).of_block (h4.block w2.heap.size (by omega))).congr fun j hj => ?_, ?_⟩
        · by_cases hjk : j = k
          · subst hjk; rw [if_pos rfl, if_pos (Nat.le_refl _), HVa.out]
          · rw [if_neg hjk]
            by_cases hkj : k + 1 ≤ j
            · rw [if_pos hkj, if_pos (by omega)]
            · rw [if_neg hkj, if_neg (by omega)]
        · exact ((HBA.out.trans (hB3.mono (by omega))).setCell (by simp) _).trans (h4.mono (by omega))
      have HR4 := (show Hid _ from hrow4)
      clear hrow4 hf hcl hf3 hc3 hcf3 hS0 hS1
      go_wp2_with (go_at_call 56; refine (hsp _).mono ?_; rintro e w4 ⟨rfl, hb4⟩)
      have hb4' : Below w3.heap.size (w3.setCell ⟨w2.heap.size, k, none⟩ (.int .i64 (lo + cd % sp))) w4 := hb4.mono (by simp)
      go_roundw
      case rel => exact ⟨k, by omega, by first | rfl | go_num, by rw [← HQ.out], (HR4.out _ hb4').1, (HR4.out _ hb4').2⟩
      case measure => simp [intOf]
    · have hk0 : k = 0 := by omega
      subst hk0
      go_wp2
      go_ret2
      exact ⟨w2.heap.size, rfl, HB2.out.size, hbw, hrow.congr (fun i hi => by rw [if_pos (by omega)])⟩
set_option maxRecDepth 20000 in
theorem mvalues_bad (va vr : Value) (m : Mo) (code : Int) (w : World) (hB : 0 < w.heap.size) (hT : TabAt w) (hV : ModelV w va vr m) (h : mcode m ≠ 0) :
    Calls Tryd.prog 37 #[.agg #[va, vr], .int .i64 code] w fun e w' => e = .returned (.tuple #[.slice none 0 0, .int .i64 (mcode m)]) ∧ Below w.heap.size w w' := by
  have hA : ∀ o, Below w.heap.size w (w.alloc o) := fun o => (Below.refl _ _).alloc (Nat.le_refl _) o
  have hch := fun o => mcheck_any va vr m (w.alloc o) (Nat.lt_of_lt_of_le hB (hA o).size) (hT.below (hA o) hB) (hV.below (hA o))
  obtain ⟨ao, cap, rfl⟩ := hV.1.shape
  obtain ⟨ro, rc, rfl⟩ := hV.2.shape
  generalize mcode m = x at *
  generalize m.vars.length = n at *
  generalize m.rules.length = rn at *
  clear hV hT
  go_enter Tryd.func37, Tryd.ntmps37
  go_wp2_with (go_at_call 35; refine (hch _).mono ?_; rintro e w1 ⟨rfl, hb1⟩)
  go_ret2
  exact ⟨rfl, (hA _).trans (hb1.mono (hA _).size)⟩
set_option maxRecDepth 20000 in
theorem mvalues_no (va vr : Value) (m : Mo) (code : Int) (w : World) (hB : 0 < w.heap.size) (hT : TabAt w) (hV : ModelV w va vr m) (h : mcode m = 0) (hc : ¬ (0 ≤ code ∧ code < prodTo m.vars m.vars.length)) :
    Calls Tryd.prog 37 #[.agg #[va, vr], .int .i64 code] w fun e w' => e = .returned (.tuple #[.slice none 0 0, .int .i64 9]) ∧ Below w.heap.size w w' := by
  have hA : ∀ o, Below w.heap.size w (w.alloc o) := fun o => (Below.refl _ _).alloc (Nat.le_refl _) o
  have hch := fun o => mcheck_any va vr m (w.alloc o) (Nat.lt_of_lt_of_le hB (hA o).size) (hT.below (hA o) hB) (hV.below (hA o))
  rw [h] at hch
  have hok := mcode_vars h
  have hcf := (fun w1 (hb : Below w.heap.size w w1) => countOf_any va m.vars w1 hok (hV.1.below hb))
  obtain ⟨ao, cap, rfl⟩ := hV.1.shape
  obtain ⟨ro, rc, rfl⟩ := hV.2.shape
  have hN := hok.prod (j := m.vars.length) (Nat.le_refl _)
  generalize prodTo m.vars m.vars.length = N at *
  generalize m.vars.length = n at *
  generalize m.rules.length = rn at *
  clear hV hT hok h
  by_cases h0 : code < 0
  · clear hc
    go_enter Tryd.func37, Tryd.ntmps37
    go_wp2_with (go_at_call 35; refine (hch _).mono ?_; rintro e w1 ⟨rfl, hb1⟩)
    go_ret2
    exact ⟨rfl, (hA _).trans (hb1.mono (hA _).size)⟩
  · have h1 : N ≤ code := by omega
    clear hc
    go_enter Tryd.func37, Tryd.ntmps37
    go_wp2_with (first | (go_at_call 35; refine (hch _).mono ?_; rintro e w1 ⟨rfl, hb1⟩; have hcb : w1.cell? ⟨w.heap.size, 0, none⟩ = some (.slice ao n cap) := (hb1.cell (p := ⟨w.heap.size, 0, none⟩) (by simp)).trans (by simp [go_sem]); have hbw := (hA _).trans (hb1.mono (hA _).size)) | (go_at_call 57; refine (hcf _ hbw).mono ?_; rintro e w2 ⟨rfl, hb2⟩))
    go_ret2
    exact ⟨rfl, hbw.trans (hb2.mono hbw.size)⟩

set_option maxRecDepth 20000 in
/-- THE CONTRACT OF Values. -/
theorem mvalues_any (va vr : Value) (m : Mo) (code : Int) (w : World) (hB : 0 < w.heap.size) (hT : TabAt w) (hV : ModelV w va vr m) :
    Calls Tryd.prog 37 #[.agg #[va, vr], .int .i64 code] w fun e w' => ∃ v, e = .returned (.tuple #[v, .int .i64 (wcode m code)]) ∧ Below w.heap.size w w' ∧ IntsV w' v (wvals m code) := by
  by_cases h : mcode m = 0
  · by_cases hc : 0 ≤ code ∧ code < prodTo m.vars m.vars.length
    · have h0 := wcode_yes h hc
      unfold wvals
      rw [h0, if_pos rfl]
      exact (mvalues_loop va vr m code w hB hT hV h hc).mono fun e w' ⟨B, he, _, hb, hr⟩ => ⟨_, he, hb, intsV_of_row hr⟩
    · have h0 := wcode_no h hc
      unfold wvals
      rw [h0, if_neg (by decide)]
      exact (mvalues_no va vr m code w hB hT hV h hc).mono fun e w' ⟨he, hb⟩ => ⟨_, he, hb, none, 0, rfl, fun h => absurd rfl h⟩
  · have h0 := wcode_bad (code := code) h
    unfold wvals
    rw [h0, if_neg h]
    exact (mvalues_bad va vr m code w hB hT hV h).mono fun e w' ⟨he, hb⟩ => ⟨_, he, hb, none, 0, rfl, fun h => absurd rfl h⟩
end Go.Proofs.YtdlpmomohbdpgaaDoor

/-
  The contract of step.After.
-/
namespace Go.Proofs.YtdlpmomohbdpgaaDoor
open Go.ChangeShapes Go.WideShapes Go.ChangeAt Go.RowKit Go.Deep
open Terms Tm

/-- what After answers. -/
noncomputable def aftN (m : Mo) (code rule : Int) : Int := if wcode m code = 0 then (if 0 ≤ rule ∧ rule < m.rules.length then optN (ruleDo m.vars (valsL m.vars code) (m.rules.getD rule.toNat ru0)) else 0) else 0
noncomputable def aftC (m : Mo) (code rule : Int) : Int := if wcode m code = 0 then (if 0 ≤ rule ∧ rule < m.rules.length then optC (ruleDo m.vars (valsL m.vars code) (m.rules.getD rule.toNat ru0)) else 2) else wcode m code
theorem wcode_zero {m : Mo} {code : Int} (h : wcode m code = 0) : mcode m = 0 ∧ 0 ≤ code ∧ code < prodTo m.vars m.vars.length := by
  unfold wcode at h
  split at h
  · rename_i h1
    split at h
    · rename_i h2; exact ⟨h1, h2⟩
    · cases h
  · rename_i h1; exact absurd h h1
/-- THE CONTRACT OF Values, where there are some: a block of their own. -/
theorem svalues_any (va vr : Value) (m : Mo) (code : Int) (w : World) (hB : 0 < w.heap.size) (hT : TabAt w) (hV : ModelV w va vr m) (h : wcode m code = 0) :
    Calls Tryd.prog 37 #[.agg #[va, vr], .int .i64 code] w fun e w' => ∃ B, e = .returned (.tuple #[.slice (some ⟨B, 0, none⟩) (valsL m.vars code).length (valsL m.vars code).length, .int .i64 0]) ∧ w.heap.size ≤ B ∧ Below w.heap.size w w' ∧ w'.rowIs B 3 (valsL m.vars code).length (fun j => .int .i64 ((valsL m.vars code).getD j 0)) := by
  obtain ⟨h1, h2⟩ := wcode_zero h
  refine (mvalues_loop va vr m code w hB hT hV h1 h2).mono fun e w' ⟨B, he, hl, hb, hr⟩ => ?_
  rw [← valsL_length m.vars code] at he hr
  refine ⟨B, he, hl, hb, hr.congr fun j hj => ?_⟩
  rw [valsL_length] at hj
  simp [valsL, List.getD_eq_getElem?_getD, hj]

end Go.Proofs.YtdlpmomohbdpgaaDoor

/-
  The contract of step.Letter.
-/
namespace Go.Proofs.YtdlpmomohbdpgaaDoor
open Go.ChangeShapes Go.WideShapes Go.ChangeAt Go.RowKit Go.Deep
open Terms Tm

/-- what Letter answers. -/
noncomputable def letC (m : Mo) (ps : List (List (Int × Int))) (code : Int) : Int := if pcode m ps = 0 then wcode m code else pcode m ps
noncomputable def letL (m : Mo) (ps : List (List (Int × Int))) (code : Int) : List Bool := if letC m ps code = 0 then ps.map (fun p => holdsB p (valsL m.vars code)) else []
theorem pcode_m {m : Mo} {ps : List (List (Int × Int))} (h : pcode m ps = 0) : mcode m = 0 ∧ ps.length ≤ 6 := by
  unfold pcode at h
  split at h
  · rename_i h1
    split at h
    · simp at h
    · exact ⟨h1, by omega⟩
  · rename_i h1; exact absurd h h1
theorem wcode_bare {m : Mo} (code : Int) (h : mcode m = 0) : wcode ⟨m.vars, []⟩ code = wcode m code := by
  unfold wcode
  rw [if_pos h, if_pos (mcode_bare h)]

set_option maxHeartbeats 3200000 in
set_option maxRecDepth 20000 in
/-- THE CONTRACT OF Letter. -/
theorem letter_any (va vr pv : Value) (m : Mo) (ps : List (List (Int × Int))) (code : Int) (w : World) (hB : 0 < w.heap.size) (hT : TabAt w) (hV : ModelV w va vr m) (hP : TermsV w pv ps) :
    Calls Tryd.prog 21 #[.agg #[va, vr], pv, .int .i64 code] w fun e w' => ∃ v, e = .returned (.tuple #[v, .int .i64 (letC m ps code)]) ∧ Below w.heap.size w w' ∧ BoolsV w' v (letL m ps code) := by
  have hA : ∀ o, Below w.heap.size w (w.alloc o) := fun o => (Below.refl _ _).alloc (Nat.le_refl _) o
  have hpr := fun o => mprops_any va vr pv m ps (w.alloc o) (Nat.lt_of_lt_of_le hB (hA o).size) (hT.below (hA o) hB) (hV.below (hA o)) (hP.below (hA o))
  obtain ⟨ao, cap, rfl⟩ := hV.1.shape
  obtain ⟨ro, rc, rfl⟩ := hV.2.shape
  obtain ⟨po, pc, rfl, hPa⟩ := hP
  have hba := fun w => bare_any ao ro m.vars.length cap m.rules.length rc w
  by_cases hp : pcode m ps = 0
  · obtain ⟨hm, hp6⟩ := pcode_m hp
    rw [hp] at hpr
    have hVb : ∀ w', Below w.heap.size w w' → ModelV w' (.slice ao m.vars.length cap) (.slice none 0 0) ⟨m.vars, []⟩ := fun w' hb => ⟨hV.1.below hb, ⟨none, 0, rfl, ⟨by simp, fun _ => ⟨rfl, rfl⟩⟩, fun h => by simp at h⟩⟩
    by_cases hw : wcode m code = 0
    · have hlc : letC m ps code = 0 := by unfold letC; rw [if_pos hp, hw]
      have hll : letL m ps code = ps.map (fun p => holdsB p (valsL m.vars code)) := by unfold letL; rw [if_pos hlc]
      rw [hlc, hll]
      have hvl := fun w' (hb : Below w.heap.size w w') => svalues_any _ _ ⟨m.vars, []⟩ code w' (Nat.lt_of_lt_of_le hB hb.size) (hT.below hb hB) (hVb w' hb) (by rw [wcode_bare _ hm]; exact hw)
      have hvl2 : ∀ w', Below w.heap.size w w' → Calls Tryd.prog 37 #[.agg #[.slice ao m.vars.length cap, .slice none 0 0], .int .i64 code] w' fun e w2 => ∃ B, e = .returned (.tuple #[.slice (some ⟨B, 0, none⟩) (valsL m.vars code).length (valsL m.vars code).length, .int .i64 0]) ∧ w'.heap.size ≤ B ∧ Below w'.heap.size w' w2 ∧ w2.rowIs B 3 (valsL m.vars code).length (fun j => .int .i64 ((valsL m.vars code).getD j 0)) := hvl
      generalize valsL m.vars code = env at hvl2 ⊢
      have HHo : Hid (∀ w' (_ : Below w.heap.size w w') v ev l, OpsV w' v l → IntsV w' ev env → Calls Tryd.prog 39 #[v, ev] w' fun e w2 => e = .returned (.bool (holdsB l env)) ∧ Below w'.heap.size w' w2) := fun w' hb v ev l h1 h2 => sholds_any v ev l env w' (Nat.lt_of_lt_of_le hB hb.size) (hT.below hb hB) h1 h2
      have HP : Hid (ps ≠ [] → ∃ b off, po = some ⟨b, off, none⟩ ∧ b < w.heap.size ∧ ∀ i, i < ps.length → ∃ u, w.cell? ⟨b, off + i, none⟩ = some u ∧ OpsV w u (ps.getD i [])) := hPa
      have HML : Hid ((ps.map (fun p => holdsB p env)).length = ps.length ∧ ∀ i, i < ps.length → (ps.map (fun p => holdsB p env)).getD i false = holdsB (ps.getD i []) env) := ⟨by simp, fun i hi => by simp [List.getD_eq_getElem?_getD, hi]⟩
      generalize ps.map (fun p => holdsB p env) = lt at HML ⊢
      obtain ⟨pn, hpn⟩ : ∃ pn, pn = ps.length := ⟨_, rfl⟩
      have HPN : Hid (pn = ps.length) := hpn
      rw [← hpn] at hpr hp6 HP HML ⊢
      generalize m.vars.length = n at *
      generalize m.rules.length = rn at *
      have hmk := run_make_row' (P := Tryd.prog) 47 4 (.bool false) 1 Tryd.underlying47 infoBool rfl .i64 .i64 pn (by omega) (by omega)
      clear hV hT hVb hlc hll hPa hvl hpn hw hm hp
      go_enter Tryd.func21, Tryd.ntmps21
      go_wp2_with (first | (go_at_call 32; refine (hpr _).mono ?_; rintro e w1 ⟨rfl, hb1⟩; have hbw1 := (hA _).trans (hb1.mono (hA _).size); have k10 : w1.cell? ⟨w.heap.size, 0, none⟩ = some (.slice ao n cap) := (hb1.cell (p := ⟨w.heap.size, 0, none⟩) (by simp)).trans (by simp [go_sem]); have k11 : w1.cell? ⟨w.heap.size, 1, none⟩ = some (.slice ro rn rc) := (hb1.cell (p := ⟨w.heap.size, 1, none⟩) (by simp)).trans (by simp [go_sem])) | (go_at_call 38; refine (hba _).mono ?_; rintro e w2 ⟨rfl, hb2⟩; have hbw2 := hbw1.trans (hb2.mono hbw1.size)) | (go_at_call 37; refine (hvl2 _ hbw2).mono ?_; rintro e w3 ⟨B, rfl, hBl, hb3, hr3⟩))
      have hbw3 := hbw2.trans (hb3.mono hbw2.size)
      have hrow0 := World.rowIs_made w3 (.bool false) pn 4
      have HI3 : Hid (∀ w', Below w3.heap.size w3 w' → IntsV w' (.slice (some ⟨B, 0, none⟩) env.length env.length) env) := fun w' hb => by
        have h1 := intsV_of_row hr3
        have e1 : (List.range env.length).map (fun j => env.getD j 0) = env := by
          apply List.ext_getElem?
          intro i
          by_cases hi : i < env.length
          · simp [hi, List.getD_eq_getElem?_getD]
          · simp [hi]
        rw [e1] at h1
        exact h1.below hb
      have HB3 : Hid (Below w.heap.size w w3) := hbw3
      clear hpr hvl2 hba hmk hb1 hbw1 k10 k11 hb2 hbw2 hb3 hr3 hbw3 hBl
      go_loopw [35] (fun i wr => ∃ k : Nat, k ≤ pn ∧ i = .int .i64 k ∧ Hid (wr.rowIs w3.heap.size 4 pn (fun j => if j < k then .bool (lt.getD j false) else .bool false)) ∧ Hid (Below w3.heap.size w3 wr)) (fun i _ => pn - (intOf i).toNat)
      case atStart => exact ⟨0, Nat.zero_le _, rfl, hrow0.congr (fun i hi => by rw [if_neg (by omega)]), (Below.refl _ _).alloc (Nat.le_refl _) _⟩
      case round =>
        obtain ⟨k, hk, rfl, HRow, HBel⟩ := hrel
        have hbel := HBel.out
        have hbw := HB3.out.trans (hbel.mono HB3.out.size)
        by_cases hlt : k < pn
        · obtain ⟨b, off, rfl, hblt, hat⟩ := HP.out (by intro h; have := HPN.out; subst h; simp at this; omega)
          obtain ⟨u, hu, hou⟩ := hat k hlt
          have c0 := (hbel.cell (p := ⟨b, off + k, none⟩) (Nat.lt_of_lt_of_le hblt HB3.out.size)).trans ((HB3.out.cell (p := ⟨b, off + k, none⟩) hblt).trans hu)
          obtain ⟨uo, uc, rfl⟩ := hou.shape
          have hho := HHo.out wr hbw _ _ _ (hou.below hbw) (HI3.out wr hbel)
          have HLk := (show Hid _ from HML.out.2 k hlt)
          generalize holdsB (ps.getD k []) env = tv at hho HLk
          generalize (ps.getD k []).length = ul at *
          have HWr : Hid (∀ w4, Below wr.heap.size wr w4 → w4.rowIs w3.heap.size 4 pn (fun j => if j < k then .bool (lt.getD j false) else .bool false) ∧ Below w3.heap.size w3 w4) := fun w4 hb => ⟨row_later HRow.out hb, hbel.trans (hb.mono hbel.size)⟩
          clear hat hu hou hbel hbw HHo HI3 HP HML
          go_wp2_with (go_at_call 39; refine hho.mono ?_; rintro e w4 ⟨rfl, hb4⟩; obtain ⟨hr4, hb34⟩ := HWr.out w4 hb4; have hf := hr4.frozen k; have hc : w4.cell? ⟨w3.heap.size, k, none⟩ = some (.bool false) := (by rw [hr4.cell hlt, if_neg (by omega)]); have HR4 : Hid (w4.rowIs w3.heap.size 4 pn (fun j => if j < k then .bool (lt.getD j false) else .bool false)) := hr4; clear hr4)
          refine ⟨⟨k + 1, hlt, by first | rfl | simp, (HR4.out.set k (.bool tv)).congr fun i hi => ?_, hb34.setCell (Nat.le_refl _) _⟩, by simp [intOf]; omega⟩
          by_cases hik : i = k
          · subst hik; rw [if_pos rfl, if_pos (by omega), HLk.out]
          · rw [if_neg hik]
            by_cases hlk : i < k
            · rw [if_pos hlk, if_pos (by omega)]
            · rw [if_neg hlk, if_neg (by omega)]
        · have hkn : k = pn := by omega
          subst hkn
          have hrow := HRow.out.congr (g := fun j => .bool (lt.getD j false)) (fun i hi => by rw [if_pos hi])
          rw [← HML.out.1] at hrow
          have hbo := boolsV_of_row hrow
          rw [HML.out.1] at hbo
          have HBO := (show Hid _ from hbo)
          clear hrow hbo
          go_wp2_with fail
          go_ret2
          exact ⟨_, rfl, hbw, HBO.out⟩
    · have hlc : letC m ps code = wcode m code := by unfold letC; rw [if_pos hp]
      have hll : letL m ps code = [] := by unfold letL; rw [if_neg (by rw [hlc]; exact hw)]
      rw [hlc, hll]
      have hvl := fun w' (hb : Below w.heap.size w w') => mvalues_any _ _ ⟨m.vars, []⟩ code w' (Nat.lt_of_lt_of_le hB hb.size) (hT.below hb hB) (hVb w' hb)
      rw [wcode_bare _ hm] at hvl
      generalize wcode m code = c at *
      generalize wvals ⟨m.vars, []⟩ code = vs at *
      generalize m.vars.length = n at *
      generalize m.rules.length = rn at *
      generalize ps.length = pn at *
      clear hV hT hVb hlc hll hPa
      go_enter Tryd.func21, Tryd.ntmps21
      go_wp2_with (first | (go_at_call 32; refine (hpr _).mono ?_; rintro e w1 ⟨rfl, hb1⟩; have hbw1 := (hA _).trans (hb1.mono (hA _).size); have k10 : w1.cell? ⟨w.heap.size, 0, none⟩ = some (.slice ao n cap) := (hb1.cell (p := ⟨w.heap.size, 0, none⟩) (by simp)).trans (by simp [go_sem]); have k11 : w1.cell? ⟨w.heap.size, 1, none⟩ = some (.slice ro rn rc) := (hb1.cell (p := ⟨w.heap.size, 1, none⟩) (by simp)).trans (by simp [go_sem])) | (go_at_call 38; refine (hba _).mono ?_; rintro e w2 ⟨rfl, hb2⟩; have hbw2 := hbw1.trans (hb2.mono hbw1.size)) | (go_at_call 37; refine (hvl _ hbw2).mono ?_; rintro e w3 ⟨v, rfl, hb3, _⟩))
      go_ret2
      exact ⟨_, rfl, hbw2.trans (hb3.mono hbw2.size), none, 0, rfl, fun h => absurd rfl h⟩
  · have hlc : letC m ps code = pcode m ps := by unfold letC; rw [if_neg hp]
    have hll : letL m ps code = [] := by unfold letL; rw [if_neg (by rw [hlc]; exact hp)]
    rw [hlc, hll]
    generalize pcode m ps = c at *
    generalize m.vars.length = n at *
    generalize m.rules.length = rn at *
    generalize ps.length = pn at *
    clear hV hT hlc hll hPa
    go_enter Tryd.func21, Tryd.ntmps21
    go_wp2_with (go_at_call 32; refine (hpr _).mono ?_; rintro e w1 ⟨rfl, hb1⟩)
    go_ret2
    exact ⟨_, rfl, (hA _).trans (hb1.mono (hA _).size), none, 0, rfl, fun h => absurd rfl h⟩
end Go.Proofs.YtdlpmomohbdpgaaDoor

/-
  The contract of the program's First.
-/
namespace Go.Proofs.YtdlpmomohbdpgaaDoor
open Go.ChangeShapes Go.WideShapes Go.ChangeAt Go.RowKit Go.Deep
open Terms Tm

set_option maxRecDepth 20000 in
theorem initsL_length (l : List Vr) : (initsL l).length = l.length := by simp [initsL]
set_option maxRecDepth 20000 in
theorem initsL_get {l : List Vr} {i : Nat} (h : i < l.length) : (initsL l).getD i 0 = (l.getD i vr0).ini := by
  simp [initsL, List.getD_eq_getElem?_getD, h]

set_option maxRecDepth 20000 in
set_option maxHeartbeats 1600000 in
theorem mfirst_loop (va vr : Value) (m : Mo) (w : World) (hB : 0 < w.heap.size) (hT : TabAt w) (hV : ModelV w va vr m) (h : mcode m = 0) :
    Calls Tryd.prog 20 #[.agg #[va, vr]] w fun e w' => e = .returned (.tuple #[.int .i64 (codeTo m.vars (initsL m.vars) m.vars.length), .int .i64 0]) ∧ Below w.heap.size w w' := by
  have hA : ∀ o, Below w.heap.size w (w.alloc o) := fun o => (Below.refl _ _).alloc (Nat.le_refl _) o
  have hch := fun o => mcheck_any va vr m (w.alloc o) (Nat.lt_of_lt_of_le hB (hA o).size) (hT.below (hA o) hB) (hV.below (hA o))
  rw [h] at hch
  have hok := mcode_vars h
  have h6 := hok.1
  have hcf := (fun vv w1 (hb : Below w.heap.size w w1) (hI : IntsV w1 vv (initsL m.vars)) => codeOf_any va vv m.vars (initsL m.vars) w1 hok (initsL_length _) (inits_in hok) (hV.1.below hb) hI)
  obtain ⟨ao, cap, rfl⟩ := hV.1.shape
  obtain ⟨ro, rc, rfl⟩ := hV.2.shape
  have HCF := (show Hid _ from hcf)
  have HV : Hid (VarsV w (.slice ao m.vars.length cap) m.vars) := hV.1
  have HIn : Hid (∀ i, i < m.vars.length → (initsL m.vars).getD i 0 = (m.vars.getD i vr0).ini) := fun i hi => initsL_get hi
  have HLn : Hid ((initsL m.vars).length = m.vars.length) := initsL_length _
  generalize codeTo m.vars (initsL m.vars) m.vars.length = res at *
  obtain ⟨n, hn⟩ : ∃ n, n = m.vars.length := ⟨_, rfl⟩
  have HN : Hid (n = m.vars.length) := hn
  rw [← hn] at h6 hch HCF HV HIn HLn ⊢
  generalize m.rules.length = rn at *
  have hmk := run_make_row' (P := Tryd.prog) 54 3 (.int .i64 0) 8 Tryd.underlying54 infoInt rfl .i64 .i64 n (by omega) (by omega)
  clear hV hT hn hok h hcf
  go_enter Tryd.func20, Tryd.ntmps20
  go_wp2_with (go_at_call 35; refine (hch _).mono ?_; rintro e w1 ⟨rfl, hb1⟩; have hcb : w1.cell? ⟨w.heap.size, 0, none⟩ = some (.slice ao n cap) := (hb1.cell (p := ⟨w.heap.size, 0, none⟩) (by simp)).trans (by simp [go_sem]); have hs1 : w.heap.size < w1.heap.size := (by have := hb1.size; simp at this; omega); have hcbA : ∀ o, (w1.alloc o).cell? ⟨w.heap.size, 0, none⟩ = some (.slice ao n cap) := (fun o => (((Below.refl w1.heap.size w1).alloc (Nat.le_refl _) o).cell (p := ⟨w.heap.size, 0, none⟩) hs1).trans hcb))
  have hbw := (hA _).trans (hb1.mono (hA _).size)
  have hrow0 := World.rowIs_made w1 (.int .i64 0) n 3
  have HB1 : Hid (Below w.heap.size w w1) := hbw
  clear hch hmk hb1 hbw hcbA
  go_loopw [20] (fun i wr => ∃ k : Nat, k ≤ n ∧ i = .int .i64 k ∧ Hid (wr.rowIs w1.heap.size 3 n (fun j => if j < k then .int .i64 ((initsL m.vars).getD j 0) else .int .i64 0)) ∧ Hid (Below w1.heap.size w1 wr)) (fun i _ => n - (intOf i).toNat)
  case atStart => exact ⟨0, Nat.zero_le _, rfl, hrow0.congr (fun i hi => by rw [if_neg (by omega)]), (Below.refl _ _).alloc (Nat.le_refl _) _⟩
  case round =>
    obtain ⟨k, hk, rfl, HRow, HBel⟩ := hrel
    have hbel := HBel.out
    have hrow := HRow.out
    have hbw := HB1.out.trans (hbel.mono HB1.out.size)
    have hszr := hrow.lt
    have cb := (hbel.cell (p := ⟨w.heap.size, 0, none⟩) hs1).trans hcb
    by_cases hlt : k < n
    · obtain ⟨b, off, rfl, hblt, hat⟩ := HV.out.at (i := k) (by rw [← HN.out]; exact hlt)
      obtain ⟨c0, c1, c2, c3⟩ := hat.below hbw hblt
      have HIk := (show Hid _ from HIn.out k hlt)
      have hA2 := fun o => hrow.alloc o
      have hf : ∀ o, (wr.alloc o).frozen? ⟨w1.heap.size, k, none⟩ = false := fun o => (hA2 o).frozen k
      have hcl : ∀ o, (wr.alloc o).cell? ⟨w1.heap.size, k, none⟩ = some (.int .i64 0) := fun o => by rw [(hA2 o).cell hlt, if_neg (by omega)]
      generalize m.vars.getD k vr0 = x at *
      obtain ⟨s, lo, hi, ini⟩ := x
      simp only at c0 c1 c2 c3 HIk
      have hfin : (((wr.setCell ⟨w1.heap.size, k, none⟩ (.int .i64 ini)).alloc (.cells #[.string s, .int .i64 lo, .int .i64 hi, .int .i64 ini] 70)).rowIs w1.heap.size 3 n (fun j => if j < k + 1 then .int .i64 ((initsL m.vars).getD j 0) else .int .i64 0)) := ((hrow.set k (.int .i64 ini)).alloc _).congr fun j hj => by
        by_cases hjk : j = k
        · subst hjk; rw [if_pos rfl, if_pos (by omega), HIk.out]
        · rw [if_neg hjk]
          by_cases hlk : j < k
          · rw [if_pos hlk, if_pos (by omega)]
          · rw [if_neg hlk, if_neg (by omega)]
      have hbA := (hbel.setCell (p := ⟨w1.heap.size, k, none⟩) (Nat.le_refl _) (.int .i64 ini)).alloc (by simp; omega) (.cells #[.string s, .int .i64 lo, .int .i64 hi, .int .i64 ini] 70)
      have HF := (show Hid _ from hfin)
      have HBA := (show Hid _ from hbA)
      have hfs := hf (.cells #[.string s, .int .i64 lo, .int .i64 hi, .int .i64 ini] 70)
      have hcs := hcl (.cells #[.string s, .int .i64 lo, .int .i64 hi, .int .i64 ini] 70)
      clear hat hA2 hf hcl hfin hbA hrow hbel hrow0
      go_wp2_with fail
      go_roundw
      case rel => exact ⟨k + 1, hlt, by go_num, HF.out, HBA.out⟩
      case measure => simp [intOf]; omega
    · have hkn : k = n := by omega
      subst hkn
      have hI : IntsV wr (.slice (some ⟨w1.heap.size, 0, none⟩) k k) (initsL m.vars) := by
        have := intsV_of_row (hrow.congr (g := fun j => .int .i64 ((initsL m.vars).getD j 0)) (fun i hi => by rw [if_pos hi]))
        have e : (List.range k).map (fun j => (initsL m.vars).getD j 0) = initsL m.vars := by
          apply List.ext_getElem?
          intro i
          by_cases hi : i < k
          · simp [hi, List.getD_eq_getElem?_getD, show i < (initsL m.vars).length by rw [HLn.out]; exact hi]
          · simp [hi, show ¬ i < (initsL m.vars).length by rw [HLn.out]; exact hi]
        rwa [e] at this
      have hcf := HCF.out _ wr hbw hI
      clear hI hrow HCF HRow hrow0
      go_wp2_with (go_at_call 36; refine hcf.mono ?_; rintro e w2 ⟨rfl, hb2⟩)
      go_ret2
      exact ⟨rfl, hbw.trans (hb2.mono hbw.size)⟩

set_option maxRecDepth 20000 in
theorem mfirst_bad (va vr : Value) (m : Mo) (w : World) (hB : 0 < w.heap.size) (hT : TabAt w) (hV : ModelV w va vr m) (h : mcode m ≠ 0) :
    Calls Tryd.prog 20 #[.agg #[va, vr]] w fun e w' => e = .returned (.tuple #[.int .i64 0, .int .i64 (mcode m)]) ∧ Below w.heap.size w w' := by
  have hA : ∀ o, Below w.heap.size w (w.alloc o) := fun o => (Below.refl _ _).alloc (Nat.le_refl _) o
  have hch := fun o => mcheck_any va vr m (w.alloc o) (Nat.lt_of_lt_of_le hB (hA o).size) (hT.below (hA o) hB) (hV.below (hA o))
  obtain ⟨ao, cap, rfl⟩ := hV.1.shape
  obtain ⟨ro, rc, rfl⟩ := hV.2.shape
  generalize mcode m = x at *
  generalize m.vars.length = n at *
  generalize m.rules.length = rn at *
  clear hV hT
  go_enter Tryd.func20, Tryd.ntmps20
  go_wp2_with (go_at_call 35; refine (hch _).mono ?_; rintro e w1 ⟨rfl, hb1⟩)
  go_ret2
  exact ⟨rfl, (hA _).trans (hb1.mono (hA _).size)⟩
set_option maxRecDepth 20000 in
/-- THE CONTRACT OF First. -/
theorem mfirst_any (va vr : Value) (m : Mo) (w : World) (hB : 0 < w.heap.size) (hT : TabAt w) (hV : ModelV w va vr m) :
    Calls Tryd.prog 20 #[.agg #[va, vr]] w fun e w' => e = .returned (.tuple #[.int .i64 (if mcode m = 0 then codeTo m.vars (initsL m.vars) m.vars.length else 0), .int .i64 (mcode m)]) ∧ Below w.heap.size w w' := by
  by_cases h : mcode m = 0
  · rw [if_pos h, h]
    exact mfirst_loop va vr m w hB hT hV h
  · rw [if_neg h]
    exact mfirst_bad va vr m w hB hT hV h
end Go.Proofs.YtdlpmomohbdpgaaDoor

/-
  Where runs begin that do not keep the formula: the contracts of the survey's begin and of product.Begin.
-/
namespace Go.Proofs.YtdlpmomohbdpgaaDoor
open Go.ChangeShapes Go.WideShapes Go.ChangeAt Go.RowKit Go.Deep
open Terms Tm

/-- the first state. -/
def begC (m : Mo) : Int := codeTo m.vars (initsL m.vars) m.vars.length
/-- the spots of the first claims. -/
noncomputable def begTo (m : Mo) (ps : List (List (Int × Int))) (l : List (Int × Int)) : Nat → List (Int × Int)
  | 0 => []
  | k + 1 => if tru l (letL m ps (begC m)) (k : Int) 0 = true then begTo m ps l k else begTo m ps l k ++ [(begC m, (k : Int))]
noncomputable def begL (m : Mo) (ps : List (List (Int × Int))) (l : List (Int × Int)) : List (Int × Int) := begTo m ps l (2 ^ (aheadL l).length)
theorem begTo_len (m : Mo) (ps : List (List (Int × Int))) (l : List (Int × Int)) : ∀ k, (begTo m ps l k).length ≤ k
  | 0 => Nat.le_refl _
  | k + 1 => by
    rw [begTo]
    have := begTo_len m ps l k
    split
    · omega
    · rw [List.length_append, List.length_singleton]; omega
theorem begL_len {m : Mo} {ps : List (List (Int × Int))} {l : List (Int × Int)} (h : tkcode m ps l = 0) : (begL m ps l).length ≤ 64 := by
  have h6 := (lcode_zero (tk_zero h).2).2.2.2.2
  have := begTo_len m ps l (2 ^ (aheadL l).length)
  have h2 : 2 ^ (aheadL l).length ≤ 2 ^ 6 := Nat.pow_le_pow_right (by decide) h6
  unfold begL
  omega
/-- the letter of a state of a right task. -/
theorem tk_let {m : Mo} {ps : List (List (Int × Int))} {l : List (Int × Int)} (h : tkcode m ps l = 0) {c : Int} (hc : 0 ≤ c ∧ c < prodTo m.vars m.vars.length) : letC m ps c = 0 ∧ (letL m ps c).length = ps.length := by
  obtain ⟨hp, _⟩ := tk_zero h
  obtain ⟨hm, _⟩ := pcode_m hp
  have h1 : letC m ps c = 0 := by unfold letC; rw [if_pos hp, wcode_yes hm hc]
  refine ⟨h1, ?_⟩
  unfold letL
  rw [if_pos h1, List.length_map]
theorem tk_beg {m : Mo} {ps : List (List (Int × Int))} {l : List (Int × Int)} (h : tkcode m ps l = 0) : 0 ≤ begC m ∧ begC m < prodTo m.vars m.vars.length := by
  obtain ⟨hp, _⟩ := tk_zero h
  obtain ⟨hm, _⟩ := pcode_m hp
  exact code_bounds (mcode_vars hm) (Nat.le_refl _) (fun i hi => inits_in (mcode_vars hm) i hi)
/-- the truths of a state and a claim. -/
theorem tk_tru {m : Mo} {ps : List (List (Int × Int))} {l : List (Int × Int)} (h : tkcode m ps l = 0) {c : Int} (hc : 0 ≤ c ∧ c < prodTo m.vars m.vars.length) {k : Nat} (hk : k < 2 ^ (aheadL l).length) :
    tcode l (letL m ps c) (k : Int) = 0 ∧ truL l (letL m ps c) (k : Int) = (List.range l.length).map (tru l (letL m ps c) (k : Int)) := by
  have h1 := (tk_let h hc).2
  have h2 : tcode l (letL m ps c) (k : Int) = 0 := by
    refine tcode_ok (by rw [h1]; exact (tk_zero h).2) fun hn => ?_
    unfold ClaimNo at hn
    have : ((2 ^ (aheadL l).length : Nat) : Int) = (2 : Int) ^ (aheadL l).length := by push_cast; rfl
    rcases hn with hn | hn
    · omega
    · rw [← this] at hn; omega
  exact ⟨h2, by unfold truL; rw [if_pos h2]⟩
theorem tk_ne {m : Mo} {ps : List (List (Int × Int))} {l : List (Int × Int)} (h : tkcode m ps l = 0) : 0 < l.length := by
  obtain ⟨_, _, hz, _, _⟩ := lcode_zero (tk_zero h).2
  have := (ends_ne hz).1
  rcases Nat.eq_zero_or_pos l.length with h0 | h0
  · rw [List.length_eq_zero_iff.1 h0] at this
    simp at this
  · exact h0

set_option maxHeartbeats 3200000 in
set_option maxRecDepth 20000 in
/-- THE CONTRACT OF the survey's begin. -/
theorem begin_any (B : Nat) (va vr pv fv : Value) (m : Mo) (ps : List (List (Int × Int))) (l : List (Int × Int)) (ho : Option Addr) (hcp bs bl : Nat) (w : World) (hB : 0 < w.heap.size) (hT : TabAt w) (hV : TaskV w va vr pv fv m ps l) (hc : tkcode m ps l = 0)
    (hS : SurvAt w B va vr pv fv (.slice ho (aheadL l).length hcp) bs bl) :
    Calls Tryd.prog 9 #[.pointer (some ⟨B, 0, none⟩)] w fun e w' => ∃ so sc, e = .returned (.tuple #[.slice so (begL m ps l).length sc, .int .i64 0]) ∧ Below w.heap.size w w' ∧ Hid (SpO w' w.heap.size (.slice so (begL m ps l).length sc) (begL m ps l)) := by
  obtain ⟨hp0, hl0⟩ := tk_zero hc
  obtain ⟨hm0, _⟩ := pcode_m hp0
  have h6 := (lcode_zero hl0).2.2.2.2
  have hne := tk_ne hc
  have hnei : (0 : Int) < (l.length : Int) := by omega
  obtain ⟨ao, ac, rfl⟩ := hV.mo.1.shape
  obtain ⟨ro, rc, rfl⟩ := hV.mo.2.shape
  obtain ⟨po, pc, rfl⟩ := hV.ps.shape
  obtain ⟨fo, fc, rfl, _⟩ := id hV.fo
  have hfi : Calls Tryd.prog 20 #[.agg #[.slice ao m.vars.length ac, .slice ro m.rules.length rc]] w fun e w' => e = .returned (.tuple #[.int .i64 (begC m), .int .i64 0]) ∧ Below w.heap.size w w' := by
    have := mfirst_any _ _ m w hB hT hV.mo
    rw [if_pos hm0, hm0] at this
    exact this
  have HLe : Hid (∀ w1, Below w.heap.size w w1 → Calls Tryd.prog 21 #[.agg #[.slice ao m.vars.length ac, .slice ro m.rules.length rc], .slice po ps.length pc, .int .i64 (begC m)] w1 fun e w' => ∃ lo lc, e = .returned (.tuple #[.slice lo ps.length lc, .int .i64 0]) ∧ Below w1.heap.size w1 w' ∧ Hid (BoolsV w' (.slice lo ps.length lc) (letL m ps (begC m)))) := fun w1 h => by
    refine (letter_any _ _ _ m ps (begC m) w1 (Nat.lt_of_lt_of_le hB h.size) (hT.below h hB) (hV.mo.below h) (hV.ps.below h)).mono fun e w' ⟨v, h1, h2, h3⟩ => ?_
    obtain ⟨t1, t2⟩ := tk_let hc (tk_beg hc)
    obtain ⟨lo, lc, rfl, hx⟩ := h3
    rw [t2] at h1
    exact ⟨lo, lc, by rw [h1, t1], h2, ⟨lo, lc, by rw [t2], hx⟩⟩
  have HTr : Hid (∀ (k : Nat) (lv : Value) (w1 : World), k < 2 ^ (aheadL l).length → Below w.heap.size w w1 → BoolsV w1 lv (letL m ps (begC m)) → Calls Tryd.prog 23 #[.slice fo l.length fc, lv, .int .i64 (k : Int)] w1 fun e w' => ∃ b off c, e = .returned (.tuple #[.slice (some ⟨b, off, none⟩) l.length c, .int .i64 0]) ∧ Below w1.heap.size w1 w' ∧ w'.cell? ⟨b, off, none⟩ = some (.bool (tru l (letL m ps (begC m)) (k : Int) 0))) := fun k lv w1 hk h hl => by
    refine (ltruths_any _ lv l (letL m ps (begC m)) (k : Int) w1 (Nat.lt_of_lt_of_le hB h.size) (hT.below h hB) (hV.fo.below h) hl).mono fun e w' ⟨v, h1, h2, h3⟩ => ?_
    obtain ⟨t1, t2⟩ := tk_tru hc (tk_beg hc) hk
    rw [t2] at h3
    have hn := tk_ne hc
    obtain ⟨lo, lc, rfl, hx⟩ := h3
    obtain ⟨b, off, rfl, _, hat⟩ := hx (by intro h0; have := congrArg List.length h0; rw [List.length_map, List.length_range, List.length_nil] at this; omega)
    have c0 := hat 0 (by simpa using hn)
    refine ⟨b, off, lc, by rw [h1, t1]; simp, h2, ?_⟩
    rw [Nat.add_zero] at c0
    rw [c0]
    simp [List.getD_eq_getElem?_getD, hn]
  have HS : Hid (∀ w1, Below w.heap.size w w1 → SurvAt w1 B (.slice ao m.vars.length ac) (.slice ro m.rules.length rc) (.slice po ps.length pc) (.slice fo l.length fc) (.slice ho (aheadL l).length hcp) bs bl) := fun w1 h => hS.later h
  have hcl := fun w1 (h : Below w.heap.size w w1) => claims_any B _ _ _ _ ho _ hcp bs bl w1 h6 (hS.later h)
  have HCl : Hid (∀ w1, Below w.heap.size w w1 → Calls Tryd.prog 22 #[.pointer (some ⟨B, 0, none⟩)] w1 fun e w' => e = .returned (.int .i64 ((2 ^ (aheadL l).length : Nat) : Int)) ∧ w' = w1) := hcl
  obtain ⟨_, s0, s1, s2, s3, s4, s5, s6⟩ := id hS
  have hq64 : 2 ^ (aheadL l).length ≤ 64 := Nat.pow_le_pow_right (show 0 < 2 by decide) h6
  have HNil : Hid (begTo m ps l 0 = []) := rfl
  have HSt : Hid (∀ k, begTo m ps l (k + 1) = if tru l (letL m ps (begC m)) (k : Int) 0 = true then begTo m ps l k else begTo m ps l k ++ [(begC m, (k : Int))]) := fun k => rfl
  have HLen : Hid (∀ k, (begTo m ps l k).length ≤ k) := begTo_len m ps l
  unfold begL
  generalize begTo m ps l = bg at *
  generalize letL m ps (begC m) = lt at *
  generalize begC m = first at *
  generalize m.vars.length = vn at *
  generalize m.rules.length = rn at *
  generalize ps.length = pn at *
  generalize (aheadL l).length = an at *
  generalize 2 ^ an = N at *
  have HTru : Hid (∀ k : Nat, tru l lt (k : Int) 0 = true ∨ tru l lt (k : Int) 0 = false) := fun k => by cases tru l lt (k : Int) 0 <;> simp
  generalize hfn : l.length = fn at *
  clear hV hT hc hl0 hp0 hm0 hS hcl h6 hfn
  go_enter Tryd.func9, Tryd.ntmps9
  go_wp2_with (first | (go_at_call 20; refine hfi.mono ?_; rintro e w1 ⟨rfl, hb1⟩; obtain ⟨_, p0, p1, p2, p3, p4, p5, p6⟩ := HS.out w1 hb1; have hle := HLe.out _ hb1.drew))
  have HSB : Hid (∀ w2, Below w1.heap.size w1 w2 → w2.cell? ⟨B, 0, none⟩ = some (.slice ao vn ac) ∧ w2.cell? ⟨B, 1, none⟩ = some (.slice ro rn rc) ∧ w2.cell? ⟨B, 2, none⟩ = some (.slice po pn pc)) := fun w2 h => by
    obtain ⟨_, q0, q1, q2, _, _, _, _⟩ := HS.out w2 (hb1.trans (h.mono hb1.size))
    exact ⟨q0, q1, q2⟩
  have hB0 : Below w1.heap.size w1 w1 := Below.refl _ _
  have hBw := hB0.drew
  go_region_held3 (fun w' => w'.cell? ⟨B, 0, none⟩ = some (.slice ao vn ac) ∧ w'.cell? ⟨B, 1, none⟩ = some (.slice ro rn rc) ∧ w'.cell? ⟨B, 2, none⟩ = some (.slice po pn pc))
    (first | exact HSB.out _ hb12 | exact HSB.out _ hBw | exact HSB.out _ hB0)
    (first
      | (go_at_call 21; refine hle.mono ?_; rintro e w2 ⟨lo, lc, rfl, hb2, HLv⟩; have hb12 := hBw.trans (hb2.mono hBw.size)))
  have hw2 := hb1.trans (hb12.mono hb1.size)
  have hcl := HCl.out w2 hw2
  clear hle hfi HLe HSB p0 p1 p2 p3 p4 p5 p6 s0 s1 s2 s3 s4 s5 s6
  have HLet : Hid (∀ w3, Below w2.heap.size w2 w3 → BoolsV w3 (.slice lo pn lc) lt) := fun w3 h => HLv.out.below h
  go_wp2_with (first | (go_at_call 22; refine hcl.mono ?_; rintro e w3 ⟨rfl, rfl⟩))
  go_loopw [7, 43] (fun u i wr => ∃ k : Nat, k ≤ N ∧ i = .int .i64 k ∧ (∃ so sn sc, u = .slice so sn sc ∧ sn ≤ k ∧ Hid ((bg k).length = sn ∧ SpO wr w3.heap.size (.slice so sn sc) (bg k))) ∧ Below w3.heap.size w3 wr) (fun _ i _ => N - (intOf i).toNat)
  case atStart => exact ⟨0, Nat.zero_le _, rfl, ⟨none, 0, 0, rfl, Nat.le_refl _, by rw [HNil.out]; rfl, by rw [HNil.out]; exact SpO.nil _ _⟩, Below.refl _ _⟩
  case round =>
    obtain ⟨k, hk, rfl, ⟨so, sn, sc, rfl, hsn, HSp⟩, hbr3⟩ := hrel
    have hbr := hw2.trans (hbr3.mono hw2.size)
    have HBo := (show Hid _ from HLet.out wr hbr3)
    obtain ⟨_, p0, p1, p2, p3, p4, p5, p6⟩ := HS.out wr hbr
    by_cases hkN : k < N
    · have htr := HTr.out k _ wr hkN hbr HBo.out
      have hst := HSt.out k
      have HSk : Hid (∀ w4, Below wr.heap.size wr w4 → SpO w4 w3.heap.size (.slice so sn sc) (bg k)) := fun w4 h => HSp.out.2.later h (Nat.le_refl _)
      have HSl : Hid ((bg k).length = sn) := HSp.out.1
      rcases HTru.out k with ht | ht
      · rw [ht] at htr hst
        rw [if_pos rfl] at hst
        have HE : Hid (bg (k + 1) = bg k) := hst
        clear hst ht HBo HSp
        go_wp2_with (first | (go_at_call 23; refine htr.mono ?_; rintro e w4 ⟨b, off, c, rfl, hb4, d0⟩; have hbw4 := hbr3.trans (hb4.mono hbr3.size)))
        go_roundw
        case rel => exact ⟨k + 1, by omega, by go_num, ⟨so, sn, sc, rfl, by omega, by rw [HE.out]; exact HSl.out, by rw [HE.out]; exact HSk.out _ hb4⟩, hbw4⟩
        case measure => simp [intOf]; omega
      · rw [ht] at htr hst
        rw [if_neg (by simp)] at hst
        have HE : Hid (bg (k + 1) = bg k ++ [(first, (k : Int))]) := hst
        have hsz : w.heap.size ≤ wr.heap.size := hbr.size
        clear hst ht HBo HSp
        go_wp2_with (first | (go_at_call 23; refine htr.mono ?_; rintro e w4 ⟨b, off, c, rfl, hb4, d0⟩; have hbw4 := hbr3.trans (hb4.mono hbr3.size); have hsp := HSk.out _ hb4; have hs4 := hbw4.size) | (at_builtin; refine push_sp first (k : Int) rfl _ _ rfl w3.heap.size sn sc so (bg k) HSl.out rfl hsp rfl (by omega) hs4 ?_; intro vo5 cap5 w5 ho5 hb5 hg5; have HO5 : Hid (SpO w5 w3.heap.size (.slice vo5 (sn + 1) cap5) (bg k ++ [(first, (k : Int))])) := ho5; have hbw5 := hbw4.trans hb5; clear ho5 hg5 hsp))
        go_roundw
        case rel => exact ⟨k + 1, by omega, by go_num, ⟨vo5, sn + 1, cap5, rfl, by omega, by rw [HE.out, List.length_append, HSl.out]; rfl, by rw [HE.out]; exact HO5.out⟩, hbw5⟩
        case measure => simp [intOf]; omega
    · obtain rfl : k = N := by omega
      have HSl : Hid ((bg k).length = sn) := HSp.out.1
      have HSk : Hid (SpO wr w.heap.size (.slice so sn sc) (bg k)) := owns_mono HSp.out.2 hw2.size
      clear HSp HBo
      go_wp2_with fail
      go_ret2
      refine ⟨so, sc, by rw [HSl.out]; rfl, hbr, by rw [HSl.out]; exact HSk.out⟩

/-- what Begin answers. -/
noncomputable def begR (m : Mo) (ps : List (List (Int × Int))) (l : List (Int × Int)) : List (Int × Int) := by classical exact if tkcode m ps l = 0 then begL m ps l else []
theorem begR_ok {m : Mo} {ps : List (List (Int × Int))} {l : List (Int × Int)} (h : tkcode m ps l = 0) : begR m ps l = begL m ps l := by unfold begR; rw [if_pos h]
theorem begR_bad {m : Mo} {ps : List (List (Int × Int))} {l : List (Int × Int)} (h : tkcode m ps l ≠ 0) : begR m ps l = [] := by unfold begR; rw [if_neg h]
theorem begR_len (m : Mo) (ps : List (List (Int × Int))) (l : List (Int × Int)) : (begR m ps l).length ≤ 64 := by
  by_cases h : tkcode m ps l = 0
  · rw [begR_ok h]; exact begL_len h
  · rw [begR_bad h]; simp
def BegPost (w : World) (m : Mo) (ps : List (List (Int × Int))) (l : List (Int × Int)) (e : Ending) (w' : World) : Prop := ∃ so sc, e = .returned (.tuple #[.slice so (begR m ps l).length sc, .int .i64 (tkcode m ps l)]) ∧ Below w.heap.size w w' ∧ Hid (SpO w' w.heap.size (.slice so (begR m ps l).length sc) (begR m ps l))

set_option maxHeartbeats 800000 in
set_option maxRecDepth 20000 in
/-- THE CONTRACT OF product.Begin. -/
theorem pbegin_any (va vr pv fv : Value) (m : Mo) (ps : List (List (Int × Int))) (l : List (Int × Int)) (w : World) (hB : 0 < w.heap.size) (hT : TabAt w) (hV : TaskV w va vr pv fv m ps l) :
    Calls Tryd.prog 4 #[.agg #[va, vr, pv, fv]] w (BegPost w m ps l) := by
  have hA : ∀ o, Below w.heap.size w (w.alloc o) := fun o => (Below.refl _ _).alloc (Nat.le_refl _) o
  obtain ⟨ao, ac, rfl⟩ := hV.mo.1.shape
  obtain ⟨ro, rc, rfl⟩ := hV.mo.2.shape
  obtain ⟨po, pc, rfl⟩ := hV.ps.shape
  obtain ⟨fo, fc, rfl, _⟩ := id hV.fo
  unfold BegPost
  by_cases hc : tkcode m ps l = 0
  · have hsv := surveyOf_ok _ _ _ _ m ps l _ (Nat.lt_of_lt_of_le hB (hA (.cells #[.slice ao m.vars.length ac, .slice ro m.rules.length rc, .slice po ps.length pc, .slice fo l.length fc] 29)).size) (hT.below (hA _) hB) (hV.below (hA _)) hc
    have HBe : Hid (∀ (w1 : World) (B bs bl : Nat) (ho : Option Addr) (hcp : Nat), Below w.heap.size w w1 → SurvAt w1 B (.slice ao m.vars.length ac) (.slice ro m.rules.length rc) (.slice po ps.length pc) (.slice fo l.length fc) (.slice ho (aheadL l).length hcp) bs bl → Calls Tryd.prog 9 #[.pointer (some ⟨B, 0, none⟩)] w1 fun e w' => ∃ so sc, e = .returned (.tuple #[.slice so (begL m ps l).length sc, .int .i64 0]) ∧ Below w1.heap.size w1 w' ∧ Hid (SpO w' w1.heap.size (.slice so (begL m ps l).length sc) (begL m ps l))) := fun w1 B bs bl ho hcp h hs => begin_any B _ _ _ _ m ps l ho hcp bs bl w1 (Nat.lt_of_lt_of_le hB h.size) (hT.below h hB) (hV.below h) hc hs
    rw [begR_ok hc, hc]
    unfold SurvPost at hsv
    generalize begL m ps l = bg at *
    generalize (aheadL l).length = an at *
    generalize m.vars.length = vn at *
    generalize m.rules.length = rn at *
    generalize ps.length = pn at *
    generalize l.length = fn at *
    generalize bg.length = bn at *
    clear hV hT hc
    go_enter Tryd.func4, Tryd.ntmps4
    go_wp2_with (first | (go_at_call 8; refine hsv.mono ?_; rintro e w1 ⟨n, ho, hcp, rfl, hb1, _, _, HS, _, _⟩; have hbw := (hA _).trans (hb1.mono (hA _).size); have hbe := HBe.out w1 _ _ _ _ _ hbw HS.out) | (go_at_call 9; refine hbe.mono ?_; rintro e w2 ⟨so, sc, rfl, hb2, HO⟩))
    go_ret2
    exact ⟨so, sc, rfl, hbw.trans (hb2.mono hbw.size), owns_mono HO.out hbw.size⟩
  · have hsv := surveyOf_bad _ _ _ _ m ps l _ (Nat.lt_of_lt_of_le hB (hA (.cells #[.slice ao m.vars.length ac, .slice ro m.rules.length rc, .slice po ps.length pc, .slice fo l.length fc] 29)).size) (hT.below (hA _) hB) (hV.below (hA _)) hc
    rw [begR_bad hc]
    generalize tkcode m ps l = c at *
    generalize m.vars.length = vn at *
    generalize m.rules.length = rn at *
    generalize ps.length = pn at *
    generalize l.length = fn at *
    clear hV hT
    go_enter Tryd.func4, Tryd.ntmps4
    go_wp2_with (first | (go_at_call 8; refine hsv.mono ?_; rintro e w1 ⟨rfl, hb1⟩; have hbw := (hA _).trans (hb1.mono (hA _).size)))
    go_ret2
    exact ⟨none, 0, rfl, hbw, SpO.nil _ _⟩
end Go.Proofs.YtdlpmomohbdpgaaDoor

/-
  The contract of the document's own AheadOf.
-/
namespace Go.Proofs.YtdlpmomohbdpgaaDoor
open Go.ChangeShapes Go.WideShapes Go.ChangeAt Go.RowKit Go.Deep
open Terms

theorem refl_post {α : Prop} (h : α) : α := h

set_option maxHeartbeats 800000 in
set_option maxRecDepth 20000 in
/-- THE CONTRACT OF the document's AheadOf. -/
theorem aheadOf_any (v : Value) (l : List (Int × Int)) (props : Int) (w : World) (hV : OpsV w v l) :
    Calls Tryd.prog 29 #[v, .int .i64 props] w fun e w' => ∃ av, e = .returned (.tuple #[av, .int .i64 (lcode props l)]) ∧ Below w.heap.size w w' ∧ w'.ownsRow w.heap.size 3 1 av (ahL props l).length (ivals (ahL props l)) := by
  have hff := fault_any v l props w hV
  by_cases hz : lcode props l = 0
  · obtain ⟨_, _, hz0', _, _⟩ := lcode_zero hz
    obtain ⟨hne, h60⟩ := ends_ne hz0'
    rw [List.length_map] at h60
    obtain ⟨ao, cap, rfl, h0, h⟩ := hV
    obtain ⟨b, off, rfl, hblt, hat⟩ := h (by rintro rfl; exact hne rfl)
    rw [hz] at hff
    have HLd : Hid (ahL props l = aheadTo l l.length) := by show _ = _; unfold ahL aheadL; rw [if_pos hz]
    have HA : Hid (OpsAt w b off l) := hat
    rw [hz]
    obtain ⟨n, hn⟩ : ∃ n, n = l.length := ⟨_, rfl⟩
    have HN : Hid (n = l.length) := hn
    rw [← hn] at h60 HLd hff ⊢
    obtain ⟨i0, hi, hz0, hz1, hz2⟩ := info_parts infoInt
    clear h0 h hat hne hz hn hz0'
    go_enter Tryd.func29, Tryd.ntmps29
    go_wp2_with (go_at_call 25; refine hff.mono ?_; rintro e w1 ⟨rfl, hb1⟩)
    have hs1 := hb1.size
    clear hff
    go_loopw [7, 8] (fun out i wr => ∃ k : Nat, k ≤ n ∧ i = .int .i64 k ∧ Hid (wr.ownsRow w1.heap.size 3 1 out (aheadTo l k).length (ivals (aheadTo l k))) ∧ Below w1.heap.size w1 wr) (fun _ i _ => n - (intOf i).toNat)
    case atStart => exact ⟨0, Nat.zero_le _, rfl, World.ownsRow_nil _ _ _ _, Below.refl _ _⟩
    case round =>
      obtain ⟨k, hk, rfl, HOw, hbel⟩ := hrel
      have hbw := hb1.trans (hbel.mono hb1.size)
      have hlen := aheadTo_length l k
      have hown := HOw.out
      obtain ⟨aao, aac, rfl⟩ := owns_slice hown
      by_cases hlt : k < n
      · obtain ⟨c0, c1⟩ := (HA.out.below hbw hblt) k (by rw [← HN.out]; exact hlt)
        have HY : Hid (lookB (l.getD k (0, 0)).1 = true → aheadTo l (k + 1) = aheadTo l k ++ [(k : Int)]) := aheadTo_yes
        have HNo : Hid (lookB (l.getD k (0, 0)).1 = false → aheadTo l (k + 1) = aheadTo l k) := aheadTo_no
        generalize l.getD k (0, 0) = xy at c0 c1 HY HNo
        obtain ⟨x, y⟩ := xy
        simp only at c0 c1 HY HNo
        have hlk := fun w => rlook_any x w
        obtain ⟨L, hL⟩ : ∃ L, L = (aheadTo l k).length := ⟨_, rfl⟩
        have HL : Hid (L = (aheadTo l k).length) := hL
        rw [← hL] at hlen hown ⊢
        clear hL HA HOw
        cases hb : lookB x with
        | true =>
          have HAh := (show Hid _ from HY.out hb)
          rw [hb] at hlk
          have h63 : L + 1 ≤ maxLen := by unfold maxLen; omega
          have hkb : (L + 1) * 8 ≤ 140737488355328 := by omega
          have hbase : ∀ o, w1.heap.size ≤ (wr.alloc o).heap.size := fun o => by have := hbel.size; simp; omega
          clear HY HNo hb
          go_wp2_with (first | (go_at_call 44; refine (hlk _).mono ?_; rintro e w3 ⟨rfl, rfl⟩) | (at_builtin; refine wpList_append_own _ rfl _ _ 54 rfl w1.heap.size 3 i0 (.int .i64 0) 1 8 Tryd.underlying54 hi hz0 hz1 hz2 rfl (by decide) _ _ _ rfl (hown.alloc _) ⟨_, 0, none⟩ 1 1 _ rfl rfl (cell_one_new _ _ _) (by intro u hu; simp at hu; subst hu; rfl) h63 hkb (hbase _) ?_; intro v5 w5 hown5 hgrow5 _; obtain ⟨g5, cp5, rfl⟩ := owns_more hown5))
          have hb5 : Below w1.heap.size w1 w5 := (hbel.alloc hbel.size _).grown hgrow5 (hbase _) (owns_block hown)
          refine ⟨⟨k + 1, hlt, by first | rfl | simp, ?_, hb5⟩, by simp [intOf]; omega⟩
          show World.ownsRow _ _ _ _ _ _ _
          rw [HAh.out, List.length_append, ← HL.out]
          rw [show ivals (aheadTo l k ++ [(k : Int)]) = ivals (aheadTo l k) ++ [.int .i64 (k : Int)] by simp [ivals]]
          exact hown5
        | false =>
          have HAh := (show Hid _ from HNo.out hb)
          rw [hb] at hlk
          clear HY HNo hb
          have HO2 : Hid (wr.ownsRow w1.heap.size 3 1 (.slice aao L aac) L (ivals (aheadTo l k))) := hown
          go_wp2_with (go_at_call 44; refine (hlk _).mono ?_; rintro e w3 ⟨rfl, rfl⟩)
          refine ⟨⟨k + 1, hlt, by first | rfl | simp, ?_, hbel⟩, by simp [intOf]; omega⟩
          show World.ownsRow _ _ _ _ _ _ _
          rw [HAh.out, ← HL.out]
          exact HO2.out
      · have hkn : k = n := by omega
        subst hkn
        obtain ⟨L, hL⟩ : ∃ L, L = (aheadTo l k).length := ⟨_, rfl⟩
        have HL : Hid (L = (aheadTo l k).length) := hL
        rw [← hL] at hlen hown ⊢
        clear hL HA HOw
        have HO2 : Hid (wr.ownsRow w1.heap.size 3 1 (.slice aao L aac) L (ivals (aheadTo l k))) := hown
        clear hown
        go_wp2_with fail
        go_ret2
        refine ⟨_, rfl, hbw, ?_⟩
        rw [HLd.out, ← HL.out]
        exact owns_mono HO2.out hs1
  · obtain ⟨ao, cap, rfl, _⟩ := hV
    have HLd : Hid (ahL props l = []) := by show _ = _; unfold ahL; rw [if_neg hz]
    generalize lcode props l = x at *
    go_enter Tryd.func29, Tryd.ntmps29
    go_wp2_with (go_at_call 25; refine hff.mono ?_; rintro e w1 ⟨rfl, hb1⟩)
    go_ret2
    exact ⟨_, rfl, hb1, by rw [HLd.out]; exact World.ownsRow_nil _ _ _ _⟩
end Go.Proofs.YtdlpmomohbdpgaaDoor

/-
  The contracts of the document's own behindVar, StateCount.
-/
namespace Go.Proofs.YtdlpmomohbdpgaaDoor
open Go.ChangeShapes Go.WideShapes Go.ChangeAt Go.RowKit Go.Deep
open Terms Tm

set_option maxHeartbeats 1600000 in
theorem behindVar_any (va : Value) (ro : Option Addr) (rn rc : Nat) (l : List Vr) (a : Nat) (w : World) (hok : VarsOk l) (ha : a ≤ l.length) (hV : VarsV w va l) :
    Calls Tryd.prog 45 #[.agg #[va, .slice ro rn rc], .int .i64 ((a : Int) - 1)] w fun e w' => e = .returned (.int .i64 (segP l a)) ∧ Below w.heap.size w w' := by
  obtain ⟨ao, cap, rfl⟩ := hV.shape
  have HV : Hid (VarsV w (.slice ao l.length cap) l) := hV
  have HOK : Hid (VarsOk l) := hok
  have h6 := hok.1
  unfold segP
  obtain ⟨n, hn⟩ : ∃ n, n = l.length := ⟨_, rfl⟩
  have HN : Hid (n = l.length) := hn
  rw [← hn] at h6 ha HV ⊢
  clear hV hn hok
  have hA : Below w.heap.size w (w.alloc (.cells #[.slice ao n cap, .slice ro rn rc] 25)) := (Below.refl _ _).alloc (Nat.le_refl _) _
  go_enter Tryd.func45, Tryd.ntmps45
  go_wp2
  go_loopw [5, 6] (fun st i wr => ∃ c : Nat, a + c ≤ n ∧ i = .int .i64 ((a + c : Nat) : Int) ∧ st = .int .i64 (prodSeg l a c) ∧ ∃ d, wr = (w.alloc (.cells #[.slice ao n cap, .slice ro rn rc] 25)).drewN d) (fun _ i _ => n - (intOf i).toNat)
  case atStart => exact ⟨0, by omega, by first | rfl | (congr 1; omega) | go_num, rfl, 0, rfl⟩
  case round =>
    obtain ⟨c, hc, rfl, rfl, d, rfl⟩ := hrel
    by_cases hlt : a + c < n
    · obtain ⟨b, off, rfl, hblt, hat⟩ := HV.out.at (i := a + c) (by rw [← HN.out]; exact hlt)
      obtain ⟨c0, c1, c2, c3⟩ := hat.below hA hblt
      have hpb1 := prodSeg_pos HOK.out (a := a) (c := c) (by rw [← HN.out]; exact hc)
      have hpb2 := prodSeg_le HOK.out (a := a) (c := c) (by rw [← HN.out]; exact hc)
      have hvb := HOK.out.at (j := a + c) (by rw [← HN.out]; exact hlt)
      have HPr : Hid (prodSeg l a (c + 1) = prodSeg l a c * vspan (l.getD (a + c) vr0)) := rfl
      generalize prodSeg l a c = st at *
      generalize l.getD (a + c) vr0 = x at *
      obtain ⟨s, lo, hi, ini⟩ := x
      simp only [vspan] at c0 c1 c2 c3 HPr hvb
      obtain ⟨hv1, hv2, hv3, hv4, hv5, hv6, hv7⟩ := hvb
      have hm1 : 1 ≤ st * (hi - lo + 1) := by have := Int.mul_le_mul hpb1 hv1 (by omega) (by omega); simpa using this
      have hm2 : st * (hi - lo + 1) ≤ 262144 := by have := Int.mul_le_mul hpb2 hv2 (by omega) (by omega); simpa using this
      obtain ⟨k, hk⟩ : ∃ k, k = a + c := ⟨_, rfl⟩
      have HK : Hid (k = a + c) := hk
      rw [← hk] at hlt c0 c1 c2 c3 ⊢
      clear hat hk
      have hi0 : (0 : Int) ≤ (k : Int) := Int.natCast_nonneg _
      have hi1 : (k : Int) < (n : Int) := by omega
      have hw1 : IntKind.i64.wrap (hi - lo) = hi - lo := wr64 (by omega) (by omega)
      have hw2 : IntKind.i64.wrap (hi - lo + 1) = hi - lo + 1 := wr64 (by omega) (by omega)
      have hw3 : IntKind.i64.wrap (st * (hi - lo + 1)) = st * (hi - lo + 1) := wr64 (by omega) (by omega)
      go_wp2_with fail
      go_quiet (fail)
      go_wp2_with fail
      go_roundw
      case rel => exact ⟨c + 1, by have := HK.out; omega, by have := HK.out; congr 1; omega, by rw [HPr.out], _, rfl⟩
      case measure => simp [intOf]; omega
    · have hce : c = n - a := by omega
      subst hce
      go_wp2_with fail
      go_ret
      exact ⟨rfl, below_drewN hA _⟩
/-- THE CONTRACT OF StateCount. -/
theorem rcount_any (va vr : Value) (m : Mo) (w : World) (hV : ModelV w va vr m) :
    Calls Tryd.prog 46 #[.agg #[va, vr]] w fun e w' => e = .returned (.tuple #[.int .i64 (if mcode m = 0 then prodTo m.vars m.vars.length else 0), .int .i64 (mcode m)]) ∧ Below w.heap.size w w' := by
  have hA : ∀ o, Below w.heap.size w (w.alloc o) := fun o => (Below.refl _ _).alloc (Nat.le_refl _) o
  have hch := fun o => rmodel_any va vr m (w.alloc o) (hV.below (hA o))
  have HV : Hid (ModelV w va vr m) := hV
  obtain ⟨ao, cap, rfl⟩ := hV.1.shape
  obtain ⟨ro, rc, rfl⟩ := hV.2.shape
  clear hV
  by_cases hz : mcode m = 0
  · have hok := mcode_vars hz
    have hcn := (fun w1 (hb : Below w.heap.size w w1) => behindVar_any _ ro m.rules.length rc m.vars 0 w1 hok (Nat.zero_le _) (HV.out.1.below hb))
    rw [segP_zero, show ((0 : Nat) : Int) - 1 = -1 by decide] at hcn
    rw [hz] at hch ⊢
    rw [if_pos rfl]
    generalize prodTo m.vars m.vars.length = N at *
    generalize m.vars.length = n at *
    generalize m.rules.length = rn at *
    clear hz hok HV
    go_enter Tryd.func46, Tryd.ntmps46
    go_wp2_with (first | (go_at_call 41; refine (hch _).mono ?_; rintro e w1 ⟨rfl, hb1⟩; have hcb0 : w1.cell? ⟨w.heap.size, 0, none⟩ = some (.slice ao n cap) := (hb1.cell (p := ⟨w.heap.size, 0, none⟩) (by simp)).trans (by simp [go_sem]); have hcb1 : w1.cell? ⟨w.heap.size, 1, none⟩ = some (.slice ro rn rc) := (hb1.cell (p := ⟨w.heap.size, 1, none⟩) (by simp)).trans (by simp [go_sem]); have hbw := (hA _).trans (hb1.mono (hA _).size)) | (go_at_call 45; refine (hcn _ hbw).mono ?_; rintro e w2 ⟨rfl, hb2⟩))
    go_ret2
    exact ⟨rfl, hbw.trans (hb2.mono hbw.size)⟩
  · rw [if_neg hz]
    generalize mcode m = x at *
    generalize m.vars.length = n at *
    generalize m.rules.length = rn at *
    clear HV
    go_enter Tryd.func46, Tryd.ntmps46
    go_wp2_with (go_at_call 41; refine (hch _).mono ?_; rintro e w1 ⟨rfl, hb1⟩)
    go_ret2
    exact ⟨rfl, (hA _).trans (hb1.mono (hA _).size)⟩
end Go.Proofs.YtdlpmomohbdpgaaDoor

/-
  The contract of the document's own CodeOf.
-/
namespace Go.Proofs.YtdlpmomohbdpgaaDoor
open Go.ChangeShapes Go.WideShapes Go.ChangeAt Go.RowKit Go.Deep
open Terms Tm

theorem rcode_bad (va vr vv : Value) (m : Mo) (w : World) (hV : ModelV w va vr m) (io : Option Addr) (il ic : Nat) (hv : vv = .slice io il ic) (h : mcode m ≠ 0) :
    Calls Tryd.prog 26 #[.agg #[va, vr], vv] w fun e w' => e = .returned (.tuple #[.int .i64 0, .int .i64 (mcode m)]) ∧ Below w.heap.size w w' := by
  subst hv
  have hA : ∀ o, Below w.heap.size w (w.alloc o) := fun o => (Below.refl _ _).alloc (Nat.le_refl _) o
  have hch := fun o => rmodel_any va vr m (w.alloc o) (hV.below (hA o))
  obtain ⟨ao, cap, rfl⟩ := hV.1.shape
  obtain ⟨ro, rc, rfl⟩ := hV.2.shape
  generalize mcode m = x at *
  generalize m.vars.length = n at *
  generalize m.rules.length = rn at *
  clear hV
  go_enter Tryd.func26, Tryd.ntmps26
  go_wp2_with (go_at_call 41; refine (hch _).mono ?_; rintro e w1 ⟨rfl, hb1⟩)
  go_ret2
  exact ⟨rfl, (hA _).trans (hb1.mono (hA _).size)⟩
theorem rcode_len (va vr vv : Value) (m : Mo) (w : World) (hV : ModelV w va vr m) (io : Option Addr) (il ic : Nat) (hv : vv = .slice io il ic) (h : mcode m = 0) (hl : il ≠ m.vars.length) :
    Calls Tryd.prog 26 #[.agg #[va, vr], vv] w fun e w' => e = .returned (.tuple #[.int .i64 0, .int .i64 9]) ∧ Below w.heap.size w w' := by
  subst hv
  have hA : ∀ o, Below w.heap.size w (w.alloc o) := fun o => (Below.refl _ _).alloc (Nat.le_refl _) o
  have hch := fun o => rmodel_any va vr m (w.alloc o) (hV.below (hA o))
  rw [h] at hch
  obtain ⟨ao, cap, rfl⟩ := hV.1.shape
  obtain ⟨ro, rc, rfl⟩ := hV.2.shape
  generalize m.vars.length = n at *
  generalize m.rules.length = rn at *
  have hne : ((il : Int) == (n : Int)) = false := by rw [beq_eq_false_iff_ne]; omega
  clear hV h
  go_enter Tryd.func26, Tryd.ntmps26
  go_wp2_with (go_at_call 41; refine (hch _).mono ?_; rintro e w1 ⟨rfl, hb1⟩; have hcb : w1.cell? ⟨w.heap.size, 0, none⟩ = some (.slice ao n cap) := (hb1.cell (p := ⟨w.heap.size, 0, none⟩) (by simp)).trans (by simp [go_sem]))
  all_goals first | (exfalso; omega) | go_ret2
  all_goals exact ⟨rfl, (hA _).trans (hb1.mono (hA _).size)⟩

set_option maxHeartbeats 3200000 in
theorem rcode_loop (va vr vv : Value) (m : Mo) (vals : List Int) (w : World) (hV : ModelV w va vr m) (hI : IntsV w vv vals) (h : mcode m = 0) (hlen : vals.length = m.vars.length) :
    Calls Tryd.prog 26 #[.agg #[va, vr], vv] w fun e w' => e = .returned (.tuple #[.int .i64 (cval m vals), .int .i64 (ccode m vals)]) ∧ Below w.heap.size w w' := by
  have hA : ∀ o, Below w.heap.size w (w.alloc o) := fun o => (Below.refl _ _).alloc (Nat.le_refl _) o
  have hch := fun o => rmodel_any va vr m (w.alloc o) (hV.below (hA o))
  rw [h] at hch
  have hok := mcode_vars h
  have HOK : Hid (VarsOk m.vars) := hok
  have h6 := hok.1
  obtain ⟨ao, cap, rfl⟩ := hV.1.shape
  obtain ⟨ro, rc, rfl⟩ := hV.2.shape
  obtain ⟨io, icap, rfl⟩ := hI.shape
  have hbv := (fun w1 (hb : Below w.heap.size w w1) a (ha : a ≤ m.vars.length) => behindVar_any (.slice ao m.vars.length cap) ro m.rules.length rc m.vars a w1 hok ha (hV.1.below hb))
  have HBV := (show Hid _ from hbv)
  have HV : Hid (VarsV w (.slice ao m.vars.length cap) m.vars) := hV.1
  have HI : Hid (IntsV w (.slice io vals.length icap) vals) := hI
  have HYes : Hid ((∀ i, i < m.vars.length → inB m.vars vals i) → ccode m vals = 0 ∧ cval m vals = sumTo m.vars vals m.vars.length) := fun hin => by
    have h1 := ccode_yes h ⟨hlen, hin⟩
    exact ⟨h1, by unfold cval; rw [if_pos h1, sum_all]⟩
  have HNo : Hid (∀ k, k < m.vars.length → ¬ inB m.vars vals k → ccode m vals = 9 ∧ cval m vals = 0) := fun k hk hin => by
    have h1 := ccode_no h (vals := vals) (fun h => hin (h.2 k hk))
    exact ⟨h1, by unfold cval; rw [h1, if_neg (by decide)]⟩
  have HLen : Hid (vals.length = m.vars.length) := hlen
  obtain ⟨n, hn⟩ : ∃ n, n = m.vars.length := ⟨_, rfl⟩
  have HN : Hid (n = m.vars.length) := hn
  rw [hlen] at HI ⊢
  rw [← hn] at h6 hch HBV HV HI HYes HNo ⊢
  generalize m.rules.length = rn at *
  generalize ccode m vals = cc at *
  generalize cval m vals = cv at *
  clear hV hI hbv hlen hn hok h
  go_enter Tryd.func26, Tryd.ntmps26
  go_wp2_with (go_at_call 41; refine (hch _).mono ?_; rintro e w1 ⟨rfl, hb1⟩; have hcb : w1.cell? ⟨w.heap.size, 0, none⟩ = some (.slice ao n cap) := (hb1.cell (p := ⟨w.heap.size, 0, none⟩) (by simp)).trans (by simp [go_sem]))
  have hb1' : Below (w.heap.size + 1) (w.alloc (.cells #[.slice ao n cap, .slice ro rn rc] 25)) w1 := hb1.mono (by simp)
  clear hch hcb hb1
  go_loopw [7, 8] (fun st i wr => ∃ k : Nat, k ≤ n ∧ i = .int .i64 k ∧ st = .int .i64 (sumTo m.vars vals k) ∧ Hid (∀ i, i < k → inB m.vars vals i) ∧ Below (w.heap.size + 1) (w.alloc (.cells #[.slice ao n cap, .slice ro rn rc] 25)) wr) (fun _ i _ => n - (intOf i).toNat)
  case atStart => exact ⟨0, Nat.zero_le _, rfl, rfl, fun j hj => by omega, hb1'⟩
  case round =>
    obtain ⟨k, hk, rfl, rfl, HJ, hbelB⟩ := hrel
    clear hb1'
    have hbel := (hA _).trans (hbelB.mono (Nat.le_succ _))
    have hszb : w.heap.size + 1 ≤ wr.heap.size := by have := hbelB.size; simp at this; omega
    have hlb : w.heap.size < wr.heap.size := by omega
    have cb := (hbelB.cell (p := ⟨w.heap.size, 0, none⟩) (by simp)).trans (show _ = some (.slice ao n cap) by simp [go_sem])
    have cb1 := (hbelB.cell (p := ⟨w.heap.size, 1, none⟩) (by simp)).trans (show _ = some (.slice ro rn rc) by simp [go_sem])
    by_cases hlt : k < n
    · obtain ⟨b, off, rfl, hblt, hat⟩ := HV.out.at (i := k) (by rw [← HN.out]; exact hlt)
      obtain ⟨ib, ioff, rfl, hilt, hic⟩ := HI.out.at (i := k) (by rw [HLen.out, ← HN.out]; exact hlt)
      obtain ⟨c0, c1, c2, c3⟩ := hat.below hbel hblt
      have hic2 := (hbel.cell (p := ⟨ib, ioff + k, none⟩) hilt).trans hic
      have HNk := (show Hid _ from HNo.out k hlt)
      unfold inB at HNk
      have hsb := sum_bounds HOK.out (k := k) (by rw [← HN.out]; exact hk) HJ.out
      have hgb := segP_bounds HOK.out (i := k + 1) (by rw [← HN.out]; exact hlt)
      have hvb := HOK.out.at (j := k) (by rw [← HN.out]; exact hlt)
      have HPr : Hid (sumTo m.vars vals (k + 1) = sumTo m.vars vals k + (vals.getD k 0 - (m.vars.getD k vr0).lo) * segP m.vars (k + 1)) := rfl
      have HJ3 : Hid ((m.vars.getD k vr0).lo ≤ vals.getD k 0 ∧ vals.getD k 0 ≤ (m.vars.getD k vr0).hi → ∀ i, i < k + 1 → inB m.vars vals i) := fun h i hi => by
        by_cases hik : i = k
        · subst hik; exact h
        · exact HJ.out i (by omega)
      have hbvk := (fun w1 hb => HBV.out w1 hb (k + 1) (by omega))
      rw [show ((k + 1 : Nat) : Int) - 1 = (k : Int) by omega] at hbvk
      generalize sumTo m.vars vals k = st at *
      generalize segP m.vars (k + 1) = sg at *
      generalize m.vars.getD k vr0 = x at *
      generalize vals.getD k 0 = y at *
      obtain ⟨s, lo, hi, ini⟩ := x
      simp only [vspan] at c0 c1 c2 c3 HNk HJ3 HPr hvb
      obtain ⟨hv1, hv2, hv3, hv4, hv5, hv6, hv7⟩ := hvb
      clear hat hic HJ
      have hi0 : (0 : Int) ≤ (k : Int) := Int.natCast_nonneg _
      have hi1 : (k : Int) < (n : Int) := by omega
      have hin0 := fun w => in_any y lo hi w
      have hbo : b < wr.heap.size := by omega
      have hio : ib < wr.heap.size := by omega
      by_cases hin : lo ≤ y ∧ y ≤ hi
      · rw [decide_eq_true hin] at hin0
        have HJ4 := (show Hid _ from HJ3.out hin)
        obtain ⟨hy1, hy2⟩ := hin
        have hm1 : 0 ≤ (y - lo) * sg := Int.mul_nonneg (by omega) (by omega)
        have hm2 : (y - lo) * sg ≤ 262144 := by
          have := Int.mul_le_mul (show y - lo ≤ 64 by omega) hgb.2 (by omega) (by omega); simpa using this
        have hw1 : IntKind.i64.wrap (y - lo) = y - lo := wr64 (by omega) (by omega)
        have hw2 : IntKind.i64.wrap ((y - lo) * sg) = (y - lo) * sg := wr64 (by omega) (by omega)
        have hw3 : IntKind.i64.wrap (st + (y - lo) * sg) = st + (y - lo) * sg := wr64 (by omega) (by omega)
        clear HJ3 HNk HNo HYes HBV
        go_wp2_with fail
        go_quiet ((go_at_call 30; exact Calls.quiet_of_same (hin0 _)))
        go_wp2_with fail
        have hB0 : Below wr.heap.size wr (wr.drewN nq) := below_drewN (Below.refl _ _) _
        have hbvk2 := fun w2 (hb2 : Below wr.heap.size wr w2) => hbvk w2 (hbel.trans (hb2.mono hbel.size))
        have hS0 : ∀ w', Below wr.heap.size wr w' → w'.cell? ⟨w.heap.size, 0, none⟩ = some (.slice (some ⟨b, off, none⟩) n cap) ∧ w'.cell? ⟨w.heap.size, 1, none⟩ = some (.slice ro rn rc) ∧ w'.cell? ⟨b, off + k * 4 + 1, none⟩ = some (.int .i64 lo) ∧ w'.cell? ⟨ib, ioff + k, none⟩ = some (.int .i64 y) := fun w' hw' =>
          ⟨(hw'.cell (p := ⟨w.heap.size, 0, none⟩) hlb).trans cb, (hw'.cell (p := ⟨w.heap.size, 1, none⟩) hlb).trans cb1, (hw'.cell (p := ⟨b, off + k * 4 + 1, none⟩) hbo).trans c1, (hw'.cell (p := ⟨ib, ioff + k, none⟩) hio).trans hic2⟩
        clear hbvk cb cb1 c0 c1 c2 c3 hic2
        go_region_held3 (fun w' => w'.cell? ⟨w.heap.size, 0, none⟩ = some (.slice (some ⟨b, off, none⟩) n cap) ∧ w'.cell? ⟨w.heap.size, 1, none⟩ = some (.slice ro rn rc) ∧ w'.cell? ⟨b, off + k * 4 + 1, none⟩ = some (.int .i64 lo) ∧ w'.cell? ⟨ib, ioff + k, none⟩ = some (.int .i64 y))
          (exact hS0 _ (by first | exact hB0 | exact hB0.drew | exact hB0.drew.trans (hb2.mono (by simp))))
          (first | (go_at_call 45; refine (hbvk2 _ hB0.drew).mono ?_; rintro e w2 ⟨rfl, hb2⟩))
        go_wp2_with fail
        go_roundw
        case rel => exact ⟨k + 1, hlt, by go_num, by rw [HPr.out], HJ4, hbelB.trans ((hB0.drew.trans (hb2.mono (by simp))).mono hszb)⟩
        case measure => simp [intOf]; omega
      · rw [decide_eq_false hin] at hin0
        have HR := (show Hid _ from HNk.out hin)
        clear hin HJ3 HNk HNo HYes HBV hbvk
        go_wp2_with fail
        go_quiet ((go_at_call 30; exact Calls.quiet_of_same (hin0 _)))
        go_wp2_with fail
        go_ret2
        rw [HR.out.1, HR.out.2]
        exact ⟨rfl, below_drewN hbel _⟩
    · have hkn : k = n := by omega
      subst hkn
      have HR := (show Hid _ from HYes.out HJ.out)
      generalize sumTo m.vars vals k = cd at *
      clear HJ HYes HNo HBV
      go_wp2
      go_ret2
      rw [HR.out.1, HR.out.2]
      exact ⟨rfl, hbel⟩

/-- THE CONTRACT OF CodeOf. -/
theorem rcodes_any (va vr vv : Value) (m : Mo) (vals : List Int) (w : World) (hV : ModelV w va vr m) (hI : IntsV w vv vals) :
    Calls Tryd.prog 26 #[.agg #[va, vr], vv] w fun e w' => e = .returned (.tuple #[.int .i64 (cval m vals), .int .i64 (ccode m vals)]) ∧ Below w.heap.size w w' := by
  obtain ⟨io, ic, hv⟩ := hI.shape
  by_cases h : mcode m = 0
  · by_cases hl : vals.length = m.vars.length
    · exact rcode_loop va vr vv m vals w hV hI h hl
    · have h9 := ccode_no h (vals := vals) (fun h => hl h.1)
      unfold cval
      rw [h9, if_neg (by decide)]
      exact rcode_len va vr vv m w hV io _ ic hv h hl
  · have h9 := ccode_bad (vals := vals) h
    unfold cval
    rw [h9, if_neg h]
    exact rcode_bad va vr vv m w hV io _ ic hv h
end Go.Proofs.YtdlpmomohbdpgaaDoor

/-
  The contract of the document's own FirstCode.
-/
namespace Go.Proofs.YtdlpmomohbdpgaaDoor
open Go.ChangeShapes Go.WideShapes Go.ChangeAt Go.RowKit Go.Deep
open Terms Tm

theorem ivals_inits {l : List Vr} {k : Nat} (h : k < l.length) : ivals (initsL (l.take (k + 1))) = ivals (initsL (l.take k)) ++ [.int .i64 (l.getD k vr0).ini] := by
  rw [List.take_succ_eq_append_getElem h, List.getD_eq_getElem?_getD, List.getElem?_eq_getElem h]
  simp only [ivals, initsL, List.map_append, List.map_cons, List.map_nil, Option.getD_some]

set_option maxHeartbeats 1600000 in
/-- THE CONTRACT OF FirstCode. -/
theorem rfirst_any (va vr : Value) (m : Mo) (w : World) (hz : m.vars.length * 40 ≤ 140737488355328) (hV : ModelV w va vr m) :
    Calls Tryd.prog 14 #[.agg #[va, vr]] w fun e w' => e = .returned (.tuple #[.int .i64 (if mcode m = 0 then codeTo m.vars (initsL m.vars) m.vars.length else 0), .int .i64 (mcode m)]) ∧ Below w.heap.size w w' := by
  have hres : ccode m (initsL m.vars) = mcode m ∧ cval m (initsL m.vars) = if mcode m = 0 then codeTo m.vars (initsL m.vars) m.vars.length else 0 := by
    by_cases h : mcode m = 0
    · have h1 := ccode_yes h (vals := initsL m.vars) ⟨by simp [initsL], inits_in (mcode_vars h)⟩
      refine ⟨by rw [h1, h], ?_⟩
      unfold cval
      rw [h1, if_pos rfl, if_pos h]
    · have h1 := ccode_bad (vals := initsL m.vars) h
      refine ⟨h1, ?_⟩
      unfold cval
      rw [h1, if_neg h]
  have hcf := (fun vv w1 (hb : Below w.heap.size w w1) (hI : IntsV w1 vv (initsL m.vars)) => rcodes_any va vr vv m (initsL m.vars) w1 (hV.below hb) hI)
  rw [hres.1, hres.2] at hcf
  have HCF := (show Hid _ from hcf)
  have HV : Hid (VarsV w va m.vars) := hV.1
  obtain ⟨ao, cap, rfl⟩ := hV.1.shape
  obtain ⟨ro, rc, rfl⟩ := hV.2.shape
  generalize (if mcode m = 0 then codeTo m.vars (initsL m.vars) m.vars.length else 0) = res at *
  generalize mcode m = x at *
  obtain ⟨n, hn⟩ : ∃ n, n = m.vars.length := ⟨_, rfl⟩
  have HN : Hid (n = m.vars.length) := hn
  rw [← hn] at hz HCF HV ⊢
  generalize m.rules.length = rn at *
  obtain ⟨i0, hi, hz0, hz1, hz2⟩ := info_parts infoInt
  clear hV hn hcf hres
  have hA : Below w.heap.size w (w.alloc (.cells #[.slice ao n cap, .slice ro rn rc] 25)) := (Below.refl _ _).alloc (Nat.le_refl _) _
  go_enter Tryd.func14, Tryd.ntmps14
  go_wp2
  go_loopw [4, 5] (fun vv i wr => ∃ k : Nat, k ≤ n ∧ i = .int .i64 k ∧ Hid (wr.ownsRow (w.heap.size + 1) 3 1 vv k (ivals (initsL (m.vars.take k)))) ∧ Below (w.heap.size + 1) (w.alloc (.cells #[.slice ao n cap, .slice ro rn rc] 25)) wr) (fun _ i _ => n - (intOf i).toNat)
  case atStart => exact ⟨0, Nat.zero_le _, rfl, World.ownsRow_nil _ _ _ _, Below.refl _ _⟩
  case round =>
    obtain ⟨k, hk, rfl, HOwn, hbelB⟩ := hrel
    have hbel := hA.trans (hbelB.mono (Nat.le_succ _))
    have hszb : w.heap.size + 1 ≤ wr.heap.size := by have := hbelB.size; simp at this; omega
    have hlb : w.heap.size < wr.heap.size := by omega
    have cb := (hbelB.cell (p := ⟨w.heap.size, 0, none⟩) (by simp)).trans (show _ = some (.slice ao n cap) by simp [go_sem])
    have cb1 := (hbelB.cell (p := ⟨w.heap.size, 1, none⟩) (by simp)).trans (show _ = some (.slice ro rn rc) by simp [go_sem])
    by_cases hlt : k < n
    · obtain ⟨b, off, rfl, hblt, hat⟩ := HV.out.at (i := k) (by rw [← HN.out]; exact hlt)
      obtain ⟨c0, c1, c2, c3⟩ := hat.below hbel hblt
      have HSn := (show Hid _ from ivals_inits (l := m.vars) (k := k) (by rw [← HN.out]; exact hlt))
      generalize m.vars.getD k vr0 = x at *
      obtain ⟨s, lo, hi', ini⟩ := x
      simp only at c0 c1 c2 c3 HSn
      have hown := HOwn.out
      have hnb := hown.lt
      have hown2 := fun o => hown.alloc o
      have h63 : k + 1 ≤ maxLen := by unfold maxLen; omega
      have hkb : (k + 1) * 8 ≤ 140737488355328 := by omega
      have hbase : ∀ o, w.heap.size + 1 ≤ (wr.alloc o).heap.size := fun o => by simp; omega
      clear hat hown
      go_wp2_with (at_builtin; refine wpList_append_own _ rfl (.tmp 15) (.tmp 22) 54 rfl (w.heap.size + 1) 3 i0 (.int .i64 0) 1 8 Tryd.underlying54 hi hz0 hz1 hz2 rfl (by decide) _ k _ rfl (hown2 _) ⟨wr.heap.size, 0, none⟩ 1 1 [.int .i64 ini] rfl rfl (cell_one_new _ _ _) (by intro u hu; simp at hu; subst hu; rfl) h63 hkb (hbase _) ?_)
      intro v' w4 hown' hgrow _
      have hb4 : Below (w.heap.size + 1) (w.alloc (.cells #[.slice (some ⟨b, off, none⟩) n cap, .slice ro rn rc] 25)) w4 := (hbelB.alloc hszb _).grown hgrow (by simp; omega) (fun q hq => (hnb q hq).1)
      have HO4 : Hid (w4.ownsRow (w.heap.size + 1) 3 1 v' (k + 1) (ivals (initsL (m.vars.take (k + 1))))) := by
        show World.ownsRow _ _ _ _ _ _ _
        rw [HSn.out]
        exact hown'
      clear hown' hgrow hown2
      go_wp2
      go_roundw
      case rel => exact ⟨k + 1, hlt, by go_num, HO4, hb4⟩
      case measure => simp [intOf]; omega
    · have hkn : k = n := by omega
      subst hkn
      have hown := HOwn.out
      obtain ⟨vo, vc, rfl⟩ := owns_slice hown
      have hI : IntsV wr (.slice vo k vc) (initsL m.vars) := by
        rw [List.take_of_length_le (by rw [← HN.out]; omega)] at hown
        exact intsV_of_owns (by rw [show (initsL m.vars).length = k by simp [initsL, HN.out]]; exact hown)
      have hcf := HCF.out _ wr hbel hI
      clear hI hown HOwn HCF
      go_wp2_with (go_at_call 26; refine hcf.mono ?_; rintro e w2 ⟨rfl, hb2⟩)
      go_ret2
      exact ⟨rfl, hbel.trans (hb2.mono hbel.size)⟩
end Go.Proofs.YtdlpmomohbdpgaaDoor

/-
  The contract of the document's own worked.
-/
namespace Go.Proofs.YtdlpmomohbdpgaaDoor
open Go.ChangeShapes Go.WideShapes Go.ChangeAt Go.RowKit Go.Deep
open Terms Tm

def wkN (r : Option Int) : Int := match r with
  | some x => x
  | none => 0
def wkC (r : Option Int) : Int := match r with
  | some _ => 0
  | none => 8

/-- what the row of the parts' values is, when those from k on are in it. -/
def RowF (t : Tm) (env : List Int) (base np : Nat) (vao : Option Addr) (wr : World) (k : Nat) : Prop :=
  np = 0 ∨ ∃ g, vao = some ⟨g, 0, none⟩ ∧ base ≤ g ∧ g < wr.heap.size ∧ (∀ j, j < np → wr.frozen? ⟨g, j, none⟩ = false ∧ ∃ u, wr.cell? ⟨g, j, none⟩ = some u) ∧ (∀ j, k ≤ j → j < np → ∃ x, (t.kids.getD j t).eval env = some x ∧ wr.cell? ⟨g, j, none⟩ = some (.int .i64 x))
theorem RowF.later {t : Tm} {env : List Int} {base np k : Nat} {vao : Option Addr} {w w' : World} (h : RowF t env base np vao w k) (hb : Below w.heap.size w w') : RowF t env base np vao w' k := by
  rcases h with h | ⟨g, h1, h2, h3, h4, h5⟩
  · exact .inl h
  · refine .inr ⟨g, h1, h2, Nat.lt_of_lt_of_le h3 hb.size, fun j hj => ?_, fun j hk hj => ?_⟩
    · obtain ⟨f, u, c⟩ := h4 j hj
      exact ⟨(hb.frozen (p := ⟨g, j, none⟩) h3).trans f, u, (hb.cell (p := ⟨g, j, none⟩) h3).trans c⟩
    · obtain ⟨x, e, c⟩ := h5 j hk hj
      exact ⟨x, e, (hb.cell (p := ⟨g, j, none⟩) h3).trans c⟩
theorem RowF.store {t : Tm} {env : List Int} {base np k g : Nat} {x : Int} {w : World} (h : RowF t env base np (some ⟨g, 0, none⟩) w (k + 1)) (hk : k < np) (hx : (t.kids.getD k t).eval env = some x) : RowF t env base np (some ⟨g, 0, none⟩) (w.setCell ⟨g, k, none⟩ (.int .i64 x)) k := by
  rcases h with h | ⟨g', h1, h2, h3, h4, h5⟩
  · omega
  · obtain rfl : g = g' := by simpa using h1
    refine .inr ⟨g, rfl, h2, by simpa using h3, fun j hj => ?_, fun j hkj hj => ?_⟩
    · obtain ⟨f, u, c⟩ := h4 j hj
      refine ⟨by simpa [go_sem] using f, ?_⟩
      by_cases hjk : j = k
      · subst hjk; exact ⟨.int .i64 x, by simp [go_sem, c]⟩
      · exact ⟨u, by rw [← c]; exact World.cell?_setCell_other _ _ _ _ (by intro h; injection h with _ h2; omega)⟩
    · by_cases hjk : j = k
      · subst hjk
        obtain ⟨f, u, c⟩ := h4 j hj
        exact ⟨x, hx, by simp [go_sem, c]⟩
      · obtain ⟨y, e, c⟩ := h5 j (by omega) hj
        exact ⟨y, e, by rw [← c]; exact World.cell?_setCell_other _ _ _ _ (by intro h; injection h with _ h2; omega)⟩

theorem wrE {x : Int} (h1 : -9223372036854775808 ≤ x) (h2 : x ≤ 9223372036854775807) : IntKind.i64.wrap x = x := by
  rw [IntWalk.i64_left]
  exact IntWalk.wrap64_in x ⟨h1, h2⟩
theorem mul_big {x y : Int} (hx : -1000000 ≤ x ∧ x ≤ 1000000) (hy : -1000000 ≤ y ∧ y ≤ 1000000) : -1000000000000 ≤ x * y ∧ x * y ≤ 1000000000000 := by
  have h : (x * y).natAbs ≤ 1000000000000 := by
    rw [Int.natAbs_mul]
    exact Nat.mul_le_mul (show x.natAbs ≤ 1000000 by omega) (show y.natAbs ≤ 1000000 by omega)
  omega
theorem IntsV.atE {w : World} {ao : Option Addr} {cap n : Nat} {l : List Int} (h : IntsV w (.slice ao n cap) l) {i : Nat} (hi : i < l.length) : ∃ b off, ao = some ⟨b, off, none⟩ ∧ b < w.heap.size ∧ w.cell? ⟨b, off + i, none⟩ = some (.int .i64 (l.getD i 0)) := by
  obtain ⟨ao', cap', h1, h3⟩ := h
  injection h1 with e1 e2 e3
  subst e1
  obtain ⟨b, off, e, hb, hh⟩ := h3 (by intro h; subst h; simp at hi)
  exact ⟨b, off, e, hb, hh i hi⟩
theorem eval_kid_none {t : Tm} {env : List Int} {k : Nat} (hk : k < t.kids.length) (h : (t.kids.getD k t).eval env = none) : t.eval env = none := by
  cases t with
  | leaf a b => simp [kids] at hk
  | un a b s =>
    have : k = 0 := by simp [kids] at hk; exact hk
    subst this
    simp only [kids, List.getD_cons_zero] at h
    simp [eval, h]
  | bi a b s u =>
    have hk2 : k = 0 ∨ k = 1 := by simp [kids] at hk; omega
    rcases hk2 with rfl | rfl
    · simp only [kids, List.getD_cons_zero] at h
      simp [eval, h]
    · simp only [kids, List.getD_cons_succ, List.getD_cons_zero] at h
      cases hs : s.eval env <;> simp [eval, h, hs]

set_option maxHeartbeats 1600000 in
set_option maxRecDepth 20000 in
theorem worked_any (eao : Option Addr) (ecap en : Nat) (env : List Int) (hev : Hid (EnvOk env)) (hen : Hid (env.length = en)) (d : Nat) : ∀ (t : Tm) (v : Value) (w : World), t.size ≤ d → t.size ≤ 60 → t.Good en → t.typed = true → OpsV w v t.ops → IntsV w (.slice eao en ecap) env →
    Calls Tryd.prog 48 #[v, .slice eao en ecap] w fun e w' => e = .returned (.tuple #[.int .i64 (wkN (t.eval env)), .int .i64 (wkC (t.eval env))]) ∧ Below w.heap.size w w' := by
  induction d with
  | zero => intro t v w hd; have := t.size_pos; omega
  | succ d ih =>
    intro t v w hd h60 hg hty hV hE
    have hsp := splitOf_any v t.ops w hV
    rw [splitL_tree hg.wf h60, tree_code hg.wf h60] at hsp
    obtain ⟨i0, hi, hz0, hz1, hz2⟩ := info_parts infoInt
    have HV : Hid (OpsV w v t.ops) := hV
    have HE : Hid (IntsV w (.slice eao en ecap) env) := hE
    have HGT : Hid (t.Good en ∧ t.typed = true) := ⟨hg, hty⟩
    obtain ⟨va, vn, vc, hvs⟩ : ∃ a n c, v = .slice a n c := by obtain ⟨a, c, rfl, _⟩ := hV; exact ⟨_, _, _, rfl⟩
    subst hvs
    have hk2 := t.kids_le
    have HS : Hid (∀ i, i < t.kids.length → (t.kids.getD i t).size ≤ d ∧ (t.kids.getD i t).size ≤ 60 ∧ (t.kids.getD i t).Good en ∧ (t.kids.getD i t).typed = true) := fun i hi => by
      have := t.kid_at hi
      exact ⟨by omega, by omega, hg.kid hi, ((typed_kids t).1 hty i hi).2⟩
    obtain ⟨np, hnp⟩ : ∃ np, np = t.kids.length := ⟨_, rfl⟩
    have HNP : Hid (np = t.kids.length) := hnp
    rw [← hnp] at hk2
    obtain ⟨res, hres⟩ : ∃ res, t.eval env = res := ⟨_, rfl⟩
    rw [hres]
    have HRS : Hid (t.eval env = res) := hres
    clear hV hE hnp hres hg hty
    go_enter Tryd.func48, Tryd.ntmps48
    go_wp2_with (go_at_call 67; refine hsp.mono ?_; rintro e w1 ⟨tv, rfl, hb1, ht⟩; obtain ⟨tao, tcap, htv, htat⟩ := ht; rw [List.length_map, ← HNP.out] at htv; subst htv)
    have HT := (show Hid _ from htat)
    clear htat hsp
    go_loopw [8, 9] (fun vv c wr => ∃ i : Nat, i ≤ np ∧ c = .int .i64 i ∧ wr.ownsRow w1.heap.size 3 1 vv i (List.replicate i (.int .i64 0)) ∧ Below w1.heap.size w1 wr) (fun _ c _ => np - (intOf c).toNat)
    case atStart => exact ⟨0, Nat.zero_le _, rfl, World.ownsRow_nil _ _ _ _, Below.refl _ _⟩
    case round =>
      obtain ⟨i, hile, rfl, hown, hbel⟩ := hrel
      by_cases hlt : i < np
      · have hsz := hbel.size
        go_wp2_with (at_builtin; refine wpList_append_own _ rfl (.tmp 26) (.tmp 27) 54 rfl w1.heap.size 3 i0 (.int .i64 0) 1 8 Tryd.underlying54 hi hz0 hz1 hz2 rfl (by decide) _ _ _ rfl (hown.alloc _) ⟨_, 0, none⟩ 1 1 [.int .i64 0] rfl rfl (cell_one_new _ _ _) ?c2 ?c3 ?c4 ?c5 ?_)
        case c2 => intro u hu; simp at hu; subst hu; rfl
        case c3 => unfold maxLen; omega
        case c4 => omega
        case c5 => simp; omega
        intro v' w4 hown' hgrow _
        have hb4 : Below w1.heap.size w1 w4 := (hbel.alloc (by omega) _).grown hgrow (by simp; omega) (fun q hq => (hown.lt q hq).1)
        have ho4 : w4.ownsRow w1.heap.size 3 1 v' (i + 1) (List.replicate (i + 1) (.int .i64 0)) := by
          rw [List.replicate_succ']; exact hown'
        clear hown' hgrow hown
        go_wp2
        go_roundw
        case rel => exact ⟨i + 1, by omega, by go_num, ho4, hb4⟩
        case measure => simp [intOf]; omega
      · have hin : i = np := by omega
        subst hin
        clear hlt hile
        generalize wr = wo at *
        go_wp2_with fail
        obtain ⟨vao, vcap, rfl⟩ := owns_slice hown
        have HR0 : Hid (RowF t env w1.heap.size i vao wo i) := by
          show RowF _ _ _ _ _ _ _
          rcases hown.2 with ⟨h1, h2⟩ | ⟨g, cap, cur, h1, h2, h3, h4⟩
          · exact .inl h2
          · injection h1 with e1 e2 e3
            refine .inr ⟨g, e1, h2, (Array.getElem?_eq_some_iff.1 h3).1, fun j hj => ⟨by simp [World.frozen?, h3], ?_⟩, fun j hkj hj => by omega⟩
            exact ⟨.int .i64 0, by rw [e1, e3] at hown; rw [hown.cellAt j (by omega)]; simp [hj]⟩
        have HBo : Hid (Below w1.heap.size w1 wo) := hbel
        clear hown hbel
        go_loopw [10] (fun c wr => ∃ k : Nat, k ≤ i ∧ c = .int .i64 ((k : Int) - 1) ∧ Below w1.heap.size w1 wr ∧ Hid (RowF t env w1.heap.size i vao wr k)) (fun c _ => ((intOf c) + 1).toNat)
        case atStart => exact ⟨i, Nat.le_refl _, by go_num, HBo.out, HR0.out⟩
        case round =>
          obtain ⟨k, hki, rfl, hbel, HR⟩ := hrel
          by_cases hk : 0 < k
          · obtain ⟨k, rfl⟩ : ∃ k', k = k' + 1 := ⟨k - 1, by omega⟩
            rw [show (((k + 1 : Nat) : Int) - 1) = (k : Int) by omega]
            have hltk : k < t.kids.length := by rw [← HNP.out]; omega
            obtain ⟨tb, toff, rfl, hbl, hcs⟩ := HT.out (by intro h; have := congrArg List.length h; rw [List.length_map] at this; simp at this; rw [this] at hltk; simp at hltk)
            obtain ⟨u, hu, hou⟩ := hcs k (by rw [List.length_map]; exact hltk)
            have hgd : (t.kids.map ops).getD k [] = (t.kids.getD k t).ops := by
              rw [List.getD_eq_getElem?_getD, List.getElem?_map, List.getD_eq_getElem?_getD, List.getElem?_eq_getElem hltk]
              rfl
            rw [hgd] at hou
            obtain ⟨hs1, hs2, hs3, hs4⟩ := HS.out k hltk
            have hbw := hb1.trans (hbel.mono hb1.size)
            have hrec := ih (t.kids.getD k t) u wr hs1 hs2 hs3 hs4 (hou.below hbel) (HE.out.below hbw)
            clear ih
            have hcu := (hbel.cell (p := ⟨tb, toff + k, none⟩) hbl).trans hu
            obtain ⟨ua, un, uc, hus⟩ : ∃ a n c, u = .slice a n c := by obtain ⟨a, c, rfl, _⟩ := hou; exact ⟨_, _, _, rfl⟩
            subst hus
            have HBw : Hid (Below w.heap.size w wr) := hbw
            have HBe : Hid (Below w1.heap.size w1 wr) := hbel
            cases hx : (t.kids.getD k t).eval env with
            | none =>
              rw [hx] at hrec
              have HX : Hid (res = none) := by
                show _ = _
                rw [← HRS.out]
                exact eval_kid_none hltk hx
              simp only [wkN, wkC] at hrec
              clear hgd hou hu hcs hs1 hs2 hs3 hs4 hx hbel hbw
              go_wp2_with (go_at_call 48; refine hrec.mono ?_; rintro e w2 ⟨rfl, hb2⟩)
              go_ret2
              rw [HX.out]
              exact ⟨rfl, HBw.out.trans (hb2.mono HBw.out.size)⟩
            | some x =>
              rw [hx] at hrec
              simp only [wkN, wkC] at hrec
              obtain ⟨g, rfl, hg1, hg2, hg3, _⟩ := HR.out.resolve_left (by omega)
              have HX : Hid ((t.kids.getD k t).eval env = some x) := hx
              have HFZ := (show Hid _ from hg3 k (by omega))
              clear hgd hou hu hcs hs1 hs2 hs3 hs4 hx hbel hbw hg3
              go_wp2_with (go_at_call 48; refine hrec.mono ?_; rintro e w2 ⟨rfl, hb2⟩; obtain ⟨hf0, u0, hc0⟩ := HFZ.out; have hf2 := (hb2.frozen (p := ⟨g, k, none⟩) hg2).trans hf0; have hc2 := (hb2.cell (p := ⟨g, k, none⟩) hg2).trans hc0)
              go_roundw
              case rel => exact ⟨k, by omega, by go_num, (HBe.out.trans (hb2.mono HBe.out.size)).setCell (p := ⟨g, k, none⟩) hg1 _, RowF.store (HR.out.later hb2) (by omega) HX.out⟩
              case measure => simp [intOf]
          · have hk0 : k = 0 := by omega
            subst hk0
            have hbw := hb1.trans (hbel.mono hb1.size)
            obtain ⟨bo, bcap, hbe, _, hbh⟩ := HV.out
            obtain ⟨b, off, rfl, hblt, hbat⟩ := hbh t.ops_ne
            injection hbe with e1 e2 e3
            subst e1 e2 e3
            have hhd := hbat 0 (by rw [ops_length]; exact t.size_pos)
            rw [t.ops_head] at hhd
            simp only [Nat.zero_mul, Nat.add_zero] at hhd
            have c0 := (hbw.cell (p := ⟨b, off, none⟩) hblt).trans hhd.1
            have c1 := (hbw.cell (p := ⟨b, off + 1, none⟩) hblt).trans hhd.2
            have hln : 0 < t.ops.length := by rw [ops_length]; exact t.size_pos
            generalize hol : t.ops.length = ol at *
            have HHE : Hid (IntsV wr (.slice eao en ecap) env) := HE.out.below hbw
            have hrow := HR.out
            clear hbat hbh hol hhd HV HT HS HR HR0 HBo ih hk hki
            cases t with
            | leaf k v =>
              have hi0 : i = 0 := HNP.out
              subst hi0
              simp only [kind, val] at c0 c1
              have HRv : Hid (res = some (if k = 1 then v else if k = 2 then env.getD v.toNat 0 else if k = 11 then 1 else 0)) := HRS.out.symm
              have hgd : (k = 1 ∧ -1000 ≤ v ∧ v ≤ 1000) ∨ (k = 2 ∧ 0 ≤ v ∧ v ≤ (en : Int) - 1) ∨ ((k = 11 ∨ k = 12) ∧ v = 0) := HGT.out.1
              clear HRS HGT HNP hrow
              rcases hgd with ⟨rfl, hv1, hv2⟩ | ⟨rfl, hv1, hv2⟩ | ⟨rfl | rfl, rfl⟩
              · have hin := fun w => in_any v (-1000000) 1000000 w
                rw [decide_eq_true (show -1000000 ≤ v ∧ v ≤ 1000000 by omega)] at hin
                go_wp2_with (go_at_call 30; refine (hin _).mono ?_; rintro e w2 ⟨rfl, rfl⟩)
                go_ret2
                rw [HRv.out]
                exact ⟨rfl, hbw⟩
              · obtain ⟨j, rfl⟩ : ∃ j : Nat, v = (j : Int) := ⟨v.toNat, by omega⟩
                have hj : j < env.length := by rw [hen.out]; omega
                obtain ⟨eb, eoff, hea, _, hec⟩ := (show IntsV wr (.slice eao en ecap) env from HHE.out) |> fun h => IntsV.atE h hj
                subst hea
                have hb := hev.out j hj
                have HEV : Hid (res = some (env.getD j 0)) := by show _ = _; rw [HRv.out]; simp
                generalize env.getD j 0 = y at *
                have hin := fun w => in_any y (-1000000) 1000000 w
                rw [decide_eq_true hb] at hin
                have hj0 : (0 : Int) ≤ (j : Int) := Int.natCast_nonneg _
                have hj1 : (j : Int) < (en : Int) := by omega
                clear HRv HHE
                go_wp2_with (go_at_call 30; refine (hin _).mono ?_; rintro e w2 ⟨rfl, rfl⟩)
                go_ret2
                rw [HEV.out]
                exact ⟨rfl, hbw⟩
              · have hin := fun w => in_any 1 (-1000000) 1000000 w
                rw [decide_eq_true (by omega)] at hin
                go_wp2_with (go_at_call 30; refine (hin _).mono ?_; rintro e w2 ⟨rfl, rfl⟩)
                go_ret2
                rw [HRv.out]
                exact ⟨rfl, hbw⟩
              · have hin := fun w => in_any 0 (-1000000) 1000000 w
                rw [decide_eq_true (by omega)] at hin
                go_wp2_with (go_at_call 30; refine (hin _).mono ?_; rintro e w2 ⟨rfl, rfl⟩)
                go_ret2
                rw [HRv.out]
                exact ⟨rfl, hbw⟩
            | un k v a =>
              have hi0 : i = 1 := HNP.out
              subst hi0
              obtain ⟨g, rfl, hg1, hg2, _, hg4⟩ := hrow.resolve_left (by omega)
              obtain ⟨x, hx, cx⟩ := hg4 0 (Nat.le_refl _) (by omega)
              simp only [kids, List.getD_cons_zero] at hx
              obtain ⟨hgk, hgv, hga⟩ := HGT.out.1
              have hty := HGT.out.2
              simp only [typed, Bool.and_eq_true, beq_iff_eq] at hty
              subst hgk hgv
              have hxx := (eval_le hev.out hen.out hga hty.2 x hx).2 (by rw [hty.1]; rfl)
              have HRv : Hid (res = some (1 - x)) := by show _ = _; rw [← HRS.out]; simp [eval, hx]
              simp only [kind, val] at c0 c1
              clear HRS HGT HNP hrow hg4 hx hga hty HHE
              rcases hxx with rfl | rfl
              · have hin := fun w => in_any 1 (-1000000) 1000000 w
                rw [decide_eq_true (by omega)] at hin
                go_wp2_with (go_at_call 30; refine (hin _).mono ?_; rintro e w2 ⟨rfl, rfl⟩)
                go_ret2
                rw [HRv.out]
                exact ⟨rfl, hbw⟩
              · have hin := fun w => in_any 0 (-1000000) 1000000 w
                rw [decide_eq_true (by omega)] at hin
                go_wp2_with (go_at_call 30; refine (hin _).mono ?_; rintro e w2 ⟨rfl, rfl⟩)
                go_ret2
                rw [HRv.out]
                exact ⟨rfl, hbw⟩
            | bi k v a a' =>
              have hi0 : i = 2 := HNP.out
              subst hi0
              obtain ⟨g, rfl, hg1, hg2, _, hg4⟩ := hrow.resolve_left (by omega)
              obtain ⟨x, hx, cx⟩ := hg4 0 (Nat.zero_le _) (by omega)
              obtain ⟨y, hy, cy⟩ := hg4 1 (Nat.zero_le _) (by omega)
              simp only [kids, List.getD_cons_zero, List.getD_cons_succ] at hx hy
              obtain ⟨hk3, hk9, hgv, hga, hga'⟩ := HGT.out.1
              have hty := HGT.out.2
              simp only [typed, Bool.and_eq_true, beq_iff_eq] at hty
              subst hgv
              have hxb := eval_le hev.out hen.out hga hty.1.2 x hx
              have hyb := eval_le hev.out hen.out hga' hty.2.2 y hy
              rw [hty.1.1] at hxb
              rw [hty.2.1] at hyb
              have HRv : Hid (res = lid (bin k x y)) := by show _ = _; rw [← HRS.out]; simp [eval, hx, hy]
              simp only [kind, val] at c0 c1
              obtain ⟨⟨hx1, hx2⟩, hxt⟩ := hxb
              obtain ⟨⟨hy1, hy2⟩, hyt⟩ := hyb
              clear HRS HGT HNP hrow hg4 hx hy hga hga' hty HHE
              have hm1 : -1000000000000 ≤ x * y ∧ x * y ≤ 1000000000000 := mul_big ⟨hx1, hx2⟩ ⟨hy1, hy2⟩
              have hkk : k = 3 ∨ k = 4 ∨ k = 5 ∨ k = 6 ∨ k = 7 ∨ k = 8 ∨ k = 9 := by omega
              rcases hkk with rfl | rfl | rfl | rfl | rfl | rfl | rfl
              · have hw : IntKind.i64.wrap (x + y) = x + y := wrE (by omega) (by omega)
                have hbn : bin 3 x y = x + y := rfl
                rw [hbn] at HRv
                have hin := fun w => in_any (x + y) (-1000000) 1000000 w
                by_cases hr : -1000000 ≤ x + y ∧ x + y ≤ 1000000
                · rw [decide_eq_true hr] at hin
                  have HR2 : Hid (res = some (x + y)) := by show _ = _; rw [HRv.out]; unfold lid; rw [if_pos hr]
                  clear HRv hbn
                  go_wp2_with fail
                  go_quiet (fail)
                  go_wp2_with (go_at_call 30; refine (hin _).mono ?_; rintro e w2 ⟨rfl, rfl⟩)
                  go_ret2
                  rw [HR2.out]
                  exact ⟨rfl, below_drewN hbw _⟩
                · rw [decide_eq_false hr] at hin
                  have HR2 : Hid (res = none) := by show _ = _; rw [HRv.out]; unfold lid; rw [if_neg hr]
                  clear HRv hbn hr
                  go_wp2_with fail
                  go_quiet (fail)
                  go_wp2_with (go_at_call 30; refine (hin _).mono ?_; rintro e w2 ⟨rfl, rfl⟩)
                  go_ret2
                  rw [HR2.out]
                  exact ⟨rfl, below_drewN hbw _⟩
              · have hw : IntKind.i64.wrap (x - y) = x - y := wrE (by omega) (by omega)
                have hbn : bin 4 x y = x - y := rfl
                rw [hbn] at HRv
                have hin := fun w => in_any (x - y) (-1000000) 1000000 w
                by_cases hr : -1000000 ≤ x - y ∧ x - y ≤ 1000000
                · rw [decide_eq_true hr] at hin
                  have HR2 : Hid (res = some (x - y)) := by show _ = _; rw [HRv.out]; unfold lid; rw [if_pos hr]
                  clear HRv hbn
                  go_wp2_with fail
                  go_quiet (fail)
                  go_wp2_with (go_at_call 30; refine (hin _).mono ?_; rintro e w2 ⟨rfl, rfl⟩)
                  go_ret2
                  rw [HR2.out]
                  exact ⟨rfl, below_drewN hbw _⟩
                · rw [decide_eq_false hr] at hin
                  have HR2 : Hid (res = none) := by show _ = _; rw [HRv.out]; unfold lid; rw [if_neg hr]
                  clear HRv hbn hr
                  go_wp2_with fail
                  go_quiet (fail)
                  go_wp2_with (go_at_call 30; refine (hin _).mono ?_; rintro e w2 ⟨rfl, rfl⟩)
                  go_ret2
                  rw [HR2.out]
                  exact ⟨rfl, below_drewN hbw _⟩
              · have hw : IntKind.i64.wrap (x * y) = x * y := wrE (by omega) (by omega)
                have hbn : bin 5 x y = x * y := rfl
                rw [hbn] at HRv
                have hin := fun w => in_any (x * y) (-1000000) 1000000 w
                by_cases hr : -1000000 ≤ x * y ∧ x * y ≤ 1000000
                · rw [decide_eq_true hr] at hin
                  have HR2 : Hid (res = some (x * y)) := by show _ = _; rw [HRv.out]; unfold lid; rw [if_pos hr]
                  clear HRv hbn
                  go_wp2_with fail
                  go_quiet (fail)
                  go_wp2_with (go_at_call 30; refine (hin _).mono ?_; rintro e w2 ⟨rfl, rfl⟩)
                  go_ret2
                  rw [HR2.out]
                  exact ⟨rfl, below_drewN hbw _⟩
                · rw [decide_eq_false hr] at hin
                  have HR2 : Hid (res = none) := by show _ = _; rw [HRv.out]; unfold lid; rw [if_neg hr]
                  clear HRv hbn hr
                  go_wp2_with fail
                  go_quiet (fail)
                  go_wp2_with (go_at_call 30; refine (hin _).mono ?_; rintro e w2 ⟨rfl, rfl⟩)
                  go_ret2
                  rw [HR2.out]
                  exact ⟨rfl, below_drewN hbw _⟩
              · have hbn : bin 6 x y = if x = y then 1 else 0 := rfl
                rw [hbn] at HRv
                by_cases hc : x = y
                · have hin := fun w => in_any 1 (-1000000) 1000000 w
                  rw [decide_eq_true (by omega)] at hin
                  have HR2 : Hid (res = some 1) := by show _ = _; rw [HRv.out, if_pos hc]; rfl
                  clear HRv hbn
                  subst hc
                  go_wp2_with fail
                  go_quiet (fail)
                  go_wp2_with (go_at_call 30; refine (hin _).mono ?_; rintro e w2 ⟨rfl, rfl⟩)
                  go_ret2
                  rw [HR2.out]
                  exact ⟨rfl, below_drewN hbw _⟩
                · have hin := fun w => in_any 0 (-1000000) 1000000 w
                  rw [decide_eq_true (by omega)] at hin
                  have HR2 : Hid (res = some 0) := by show _ = _; rw [HRv.out, if_neg hc]; rfl
                  have hne : (x == y) = false := by simpa using hc
                  clear HRv hbn
                  go_wp2_with fail
                  go_quiet (fail)
                  go_wp2_with (go_at_call 30; refine (hin _).mono ?_; rintro e w2 ⟨rfl, rfl⟩)
                  go_ret2
                  rw [HR2.out]
                  exact ⟨rfl, below_drewN hbw _⟩
              · have hbn : bin 7 x y = if x < y then 1 else 0 := rfl
                rw [hbn] at HRv
                by_cases hc : x < y
                · have hin := fun w => in_any 1 (-1000000) 1000000 w
                  rw [decide_eq_true (by omega)] at hin
                  have HR2 : Hid (res = some 1) := by show _ = _; rw [HRv.out, if_pos hc]; rfl
                  clear HRv hbn
                  skip
                  go_wp2_with fail
                  go_quiet (fail)
                  go_wp2_with (go_at_call 30; refine (hin _).mono ?_; rintro e w2 ⟨rfl, rfl⟩)
                  go_ret2
                  rw [HR2.out]
                  exact ⟨rfl, below_drewN hbw _⟩
                · have hin := fun w => in_any 0 (-1000000) 1000000 w
                  rw [decide_eq_true (by omega)] at hin
                  have HR2 : Hid (res = some 0) := by show _ = _; rw [HRv.out, if_neg hc]; rfl
                  skip
                  clear HRv hbn
                  go_wp2_with fail
                  go_quiet (fail)
                  go_wp2_with (go_at_call 30; refine (hin _).mono ?_; rintro e w2 ⟨rfl, rfl⟩)
                  go_ret2
                  rw [HR2.out]
                  exact ⟨rfl, below_drewN hbw _⟩
              · have hxx := hxt rfl
                have hyy := hyt rfl
                rcases hxx with rfl | rfl <;> rcases hyy with rfl | rfl
                · have hin := fun w => in_any 0 (-1000000) 1000000 w
                  rw [decide_eq_true (by omega)] at hin
                  have HR2 : Hid (res = some 0) := by show _ = _; rw [HRv.out]; rfl
                  clear HRv
                  go_wp2_with (go_at_call 30; refine (hin _).mono ?_; rintro e w2 ⟨rfl, rfl⟩)
                  go_ret2
                  rw [HR2.out]
                  exact ⟨rfl, hbw⟩
                · have hin := fun w => in_any 0 (-1000000) 1000000 w
                  rw [decide_eq_true (by omega)] at hin
                  have HR2 : Hid (res = some 0) := by show _ = _; rw [HRv.out]; rfl
                  clear HRv
                  go_wp2_with (go_at_call 30; refine (hin _).mono ?_; rintro e w2 ⟨rfl, rfl⟩)
                  go_ret2
                  rw [HR2.out]
                  exact ⟨rfl, hbw⟩
                · have hin := fun w => in_any 0 (-1000000) 1000000 w
                  rw [decide_eq_true (by omega)] at hin
                  have HR2 : Hid (res = some 0) := by show _ = _; rw [HRv.out]; rfl
                  clear HRv
                  go_wp2_with (go_at_call 30; refine (hin _).mono ?_; rintro e w2 ⟨rfl, rfl⟩)
                  go_ret2
                  rw [HR2.out]
                  exact ⟨rfl, hbw⟩
                · have hin := fun w => in_any 1 (-1000000) 1000000 w
                  rw [decide_eq_true (by omega)] at hin
                  have HR2 : Hid (res = some 1) := by show _ = _; rw [HRv.out]; rfl
                  clear HRv
                  go_wp2_with (go_at_call 30; refine (hin _).mono ?_; rintro e w2 ⟨rfl, rfl⟩)
                  go_ret2
                  rw [HR2.out]
                  exact ⟨rfl, hbw⟩
              · have hxx := hxt rfl
                have hyy := hyt rfl
                rcases hxx with rfl | rfl <;> rcases hyy with rfl | rfl
                · have hin := fun w => in_any 0 (-1000000) 1000000 w
                  rw [decide_eq_true (by omega)] at hin
                  have HR2 : Hid (res = some 0) := by show _ = _; rw [HRv.out]; rfl
                  clear HRv
                  go_wp2_with (go_at_call 30; refine (hin _).mono ?_; rintro e w2 ⟨rfl, rfl⟩)
                  go_ret2
                  rw [HR2.out]
                  exact ⟨rfl, hbw⟩
                · have hin := fun w => in_any 1 (-1000000) 1000000 w
                  rw [decide_eq_true (by omega)] at hin
                  have HR2 : Hid (res = some 1) := by show _ = _; rw [HRv.out]; rfl
                  clear HRv
                  go_wp2_with (go_at_call 30; refine (hin _).mono ?_; rintro e w2 ⟨rfl, rfl⟩)
                  go_ret2
                  rw [HR2.out]
                  exact ⟨rfl, hbw⟩
                · have hin := fun w => in_any 1 (-1000000) 1000000 w
                  rw [decide_eq_true (by omega)] at hin
                  have HR2 : Hid (res = some 1) := by show _ = _; rw [HRv.out]; rfl
                  clear HRv
                  go_wp2_with (go_at_call 30; refine (hin _).mono ?_; rintro e w2 ⟨rfl, rfl⟩)
                  go_ret2
                  rw [HR2.out]
                  exact ⟨rfl, hbw⟩
                · have hin := fun w => in_any 1 (-1000000) 1000000 w
                  rw [decide_eq_true (by omega)] at hin
                  have HR2 : Hid (res = some 1) := by show _ = _; rw [HRv.out]; rfl
                  clear HRv
                  go_wp2_with (go_at_call 30; refine (hin _).mono ?_; rintro e w2 ⟨rfl, rfl⟩)
                  go_ret2
                  rw [HR2.out]
                  exact ⟨rfl, hbw⟩
end Go.Proofs.YtdlpmomohbdpgaaDoor

/-
  The contract of the document's own Evaluated.
-/
namespace Go.Proofs.YtdlpmomohbdpgaaDoor
open Go.ChangeShapes Go.WideShapes Go.ChangeAt Go.RowKit Go.Deep
open Terms Tm

set_option maxHeartbeats 1600000 in
/-- THE CONTRACT OF Evaluated. -/
theorem evaluated_any (v ev : Value) (l : List (Int × Int)) (env : List Int) (t : Tm) (w : World) (hV : OpsV w v l) (hE : IntsV w ev env) (ht : endsCode (l.map Prod.fst) = 0 → t.Wf ∧ t.ops = l) :
    Calls Tryd.prog 28 #[v, ev] w fun e w' => e = .returned (.tuple #[.int .i64 (evalN l t env), .int .i64 (evalC l t env)]) ∧ Below w.heap.size w w' := by
  have hch := exprChecked_any v l env.length t w hV ht
  obtain ⟨va, vc, rfl⟩ : ∃ ao cap, v = .slice ao l.length cap := by obtain ⟨ao, cap, h, _⟩ := hV; exact ⟨ao, cap, h⟩
  obtain ⟨eao, ecap, rfl⟩ : ∃ ao cap, ev = .slice ao env.length cap := by obtain ⟨ao, cap, h, _⟩ := hE; exact ⟨ao, cap, h⟩
  by_cases hx : xcode env.length l t = 0
  · obtain ⟨h0, h6, hops, hg, htt, h60⟩ := xcode_zero hx ht
    have HWK : Hid (EnvOk env → ∀ w1, Below w.heap.size w w1 → Calls Tryd.prog 48 #[.slice va l.length vc, .slice eao env.length ecap] w1 fun e w' => e = .returned (.tuple #[.int .i64 (wkN (t.eval env)), .int .i64 (wkC (t.eval env))]) ∧ Below w1.heap.size w1 w') :=
      fun hok w1 hb => worked_any eao ecap env.length env hok rfl _ t _ w1 (Nat.le_refl _) h60 hg htt (by rw [hops]; exact hV.below hb) (hE.below hb)
    have HE : Hid (IntsV w (.slice eao env.length ecap) env) := hE
    have HBad : Hid (envBad env = true → evalN l t env = 0 ∧ evalC l t env = 2) := fun h => by
      unfold evalN evalC
      simp [hx, h]
    have HOk : Hid (envBad env = false → evalN l t env = wkN (t.eval env) ∧ evalC l t env = wkC (t.eval env)) := fun h => by
      unfold evalN evalC wkN wkC
      simp only [hx, h]
      cases t.eval env <;> simp
    rw [hx] at hch
    generalize (decide ((0 : Int) = 0) && mkT t.kind) = bb at hch
    generalize evalN l t env = rn at *
    generalize evalC l t env = rc at *
    generalize wkN (t.eval env) = kn at *
    generalize wkC (t.eval env) = kc at *
    obtain ⟨n, hn⟩ : ∃ n, n = env.length := ⟨_, rfl⟩
    have HN : Hid (n = env.length) := hn
    rw [← hn] at h6 hch HWK HE ⊢
    generalize l.length = ln at *
    clear hV hE ht hx hops hg htt h60 h0 hn
    go_enter Tryd.func28, Tryd.ntmps28
    go_wp2_with (go_at_call 47; refine hch.mono ?_; rintro e w1 ⟨rfl, hb1⟩)
    go_loopw [8] (fun i wr => ∃ k : Nat, k ≤ n ∧ i = .int .i64 k ∧ Hid (∀ j, j < k → -1000000 ≤ env.getD j 0 ∧ env.getD j 0 ≤ 1000000) ∧ wr = w1) (fun i _ => n - (intOf i).toNat)
    case atStart => exact ⟨0, Nat.zero_le _, rfl, fun j hj => by omega, rfl⟩
    case round =>
      obtain ⟨k, hk, rfl, HJ, rfl⟩ := hrel
      by_cases hlt : k < n
      · obtain ⟨b, off, rfl, hblt, hc⟩ := IntsV.atE HE.out (i := k) (by rw [← HN.out]; exact hlt)
        have hc2 := (hb1.cell (p := ⟨b, off + k, none⟩) hblt).trans hc
        have HBk : Hid (¬ (-1000000 ≤ env.getD k 0 ∧ env.getD k 0 ≤ 1000000) → rn = 0 ∧ rc = 2) := fun h => HBad.out (envBad_at (by rw [← HN.out]; exact hlt) h)
        have HJ2 : Hid (-1000000 ≤ env.getD k 0 ∧ env.getD k 0 ≤ 1000000 → ∀ j, j < k + 1 → -1000000 ≤ env.getD j 0 ∧ env.getD j 0 ≤ 1000000) := fun h j hj => by
          by_cases hjk : j = k
          · subst hjk; exact h
          · exact HJ.out j (by omega)
        generalize env.getD k 0 = y at *
        have hin := fun w => in_any y (-1000000) 1000000 w
        clear hc HJ HWK hch
        by_cases hr : -1000000 ≤ y ∧ y ≤ 1000000
        · rw [decide_eq_true hr] at hin
          have HJ3 := (show Hid _ from HJ2.out hr)
          clear HJ2 HBk hr
          go_wp2_with (go_at_call 30; refine (hin _).mono ?_; rintro e w2 ⟨rfl, rfl⟩)
          go_roundw
          case rel => exact ⟨k + 1, hlt, by go_num, HJ3, by first | rfl | trivial⟩
          case measure => simp [intOf]; omega
        · rw [decide_eq_false hr] at hin
          have HR := (show Hid _ from HBk.out hr)
          clear HJ2 HBk hr
          go_wp2_with (go_at_call 30; refine (hin _).mono ?_; rintro e w2 ⟨rfl, rfl⟩)
          go_ret2
          rw [HR.out.1, HR.out.2]
          exact ⟨rfl, hb1⟩
      · have hok : ∀ i, i < env.length → -1000000 ≤ env.getD i 0 ∧ env.getD i 0 ≤ 1000000 := fun i hi => HJ.out i (by have := HN.out; omega)
        have HR := (show Hid _ from HOk.out (envBad_ok hok))
        have hwk := HWK.out hok _ hb1
        clear HJ HWK HOk HBad hok hch
        go_wp2_with (go_at_call 48; refine hwk.mono ?_; rintro e w2 ⟨rfl, hb2⟩)
        go_ret2
        rw [HR.out.1, HR.out.2]
        exact ⟨rfl, hb1.trans (hb2.mono hb1.size)⟩
  · have h1 : evalN l t env = 0 ∧ evalC l t env = xcode env.length l t := by
      unfold evalN evalC
      simp [hx]
    rw [h1.1, h1.2]
    generalize xcode env.length l t = x at *
    rw [show (decide (x = 0) && mkT t.kind) = false by simp [hx]] at hch
    generalize env.length = n at *
    generalize l.length = ln at *
    clear hV hE ht h1
    go_enter Tryd.func28, Tryd.ntmps28
    go_wp2_with (go_at_call 47; refine hch.mono ?_; rintro e w1 ⟨rfl, hb1⟩)
    go_ret2
    exact ⟨rfl, hb1⟩
end Go.Proofs.YtdlpmomohbdpgaaDoor

/-
  The contract of the document's own ValuesOf.
-/
namespace Go.Proofs.YtdlpmomohbdpgaaDoor
open Go.ChangeShapes Go.WideShapes Go.ChangeAt Go.RowKit Go.Deep
open Terms Tm

theorem ivals_snoc (f : Nat → Int) (k : Nat) : ivals ((List.range (k + 1)).map f) = ivals ((List.range k).map f) ++ [.int .i64 (f k)] := by
  simp [ivals, List.range_succ]

theorem rvalues_bad (va vr : Value) (m : Mo) (code : Int) (w : World) (hV : ModelV w va vr m) (h : mcode m ≠ 0) :
    Calls Tryd.prog 27 #[.agg #[va, vr], .int .i64 code] w fun e w' => e = .returned (.tuple #[.slice none 0 0, .int .i64 (mcode m)]) ∧ Below w.heap.size w w' := by
  have hA : ∀ o, Below w.heap.size w (w.alloc o) := fun o => (Below.refl _ _).alloc (Nat.le_refl _) o
  have hch := fun o => rcount_any va vr m (w.alloc o) (hV.below (hA o))
  rw [if_neg h] at hch
  obtain ⟨ao, cap, rfl⟩ := hV.1.shape
  obtain ⟨ro, rc, rfl⟩ := hV.2.shape
  generalize mcode m = x at *
  generalize m.vars.length = n at *
  generalize m.rules.length = rn at *
  clear hV
  go_enter Tryd.func27, Tryd.ntmps27
  go_wp2_with (go_at_call 46; refine (hch _).mono ?_; rintro e w1 ⟨rfl, hb1⟩)
  go_ret2
  exact ⟨rfl, (hA _).trans (hb1.mono (hA _).size)⟩
theorem rvalues_no (va vr : Value) (m : Mo) (code : Int) (w : World) (hV : ModelV w va vr m) (h : mcode m = 0) (hc : ¬ (0 ≤ code ∧ code < prodTo m.vars m.vars.length)) :
    Calls Tryd.prog 27 #[.agg #[va, vr], .int .i64 code] w fun e w' => e = .returned (.tuple #[.slice none 0 0, .int .i64 9]) ∧ Below w.heap.size w w' := by
  have hA : ∀ o, Below w.heap.size w (w.alloc o) := fun o => (Below.refl _ _).alloc (Nat.le_refl _) o
  have hch := fun o => rcount_any va vr m (w.alloc o) (hV.below (hA o))
  rw [if_pos h, h] at hch
  have hN := (mcode_vars h).prod (j := m.vars.length) (Nat.le_refl _)
  obtain ⟨ao, cap, rfl⟩ := hV.1.shape
  obtain ⟨ro, rc, rfl⟩ := hV.2.shape
  generalize prodTo m.vars m.vars.length = N at *
  generalize m.vars.length = n at *
  generalize m.rules.length = rn at *
  have hin := fun w => in_any code 0 (N - 1) w
  rw [decide_eq_false (show ¬ (0 ≤ code ∧ code ≤ N - 1) by omega)] at hin
  clear hV h hc
  go_enter Tryd.func27, Tryd.ntmps27
  go_wp2_with (first | (go_at_call 46; refine (hch _).mono ?_; rintro e w1 ⟨rfl, hb1⟩) | (go_at_call 30; refine (hin _).mono ?_; rintro e w2 ⟨rfl, rfl⟩))
  go_ret2
  exact ⟨rfl, (hA _).trans (hb1.mono (hA _).size)⟩

set_option maxHeartbeats 3200000 in
theorem rvalues_loop (va vr : Value) (m : Mo) (code : Int) (w : World) (hV : ModelV w va vr m) (h : mcode m = 0) (hc : 0 ≤ code ∧ code < prodTo m.vars m.vars.length) :
    Calls Tryd.prog 27 #[.agg #[va, vr], .int .i64 code] w fun e w' => ∃ v, e = .returned (.tuple #[v, .int .i64 0]) ∧ Below w.heap.size w w' ∧ IntsV w' v (valsL m.vars code) := by
  have hA : ∀ o, Below w.heap.size w (w.alloc o) := fun o => (Below.refl _ _).alloc (Nat.le_refl _) o
  have hch := fun o => rcount_any va vr m (w.alloc o) (hV.below (hA o))
  rw [if_pos h, h] at hch
  have hok := mcode_vars h
  have HOK : Hid (VarsOk m.vars) := hok
  have h6 := hok.1
  obtain ⟨ao, cap, rfl⟩ := hV.1.shape
  obtain ⟨ro, rc, rfl⟩ := hV.2.shape
  have hbv := (fun w1 (hb : Below w.heap.size w w1) a (ha : a ≤ m.vars.length) => behindVar_any (.slice ao m.vars.length cap) ro m.rules.length rc m.vars a w1 hok ha (hV.1.below hb))
  have HBV := (show Hid _ from hbv)
  have HV : Hid (VarsV w (.slice ao m.vars.length cap) m.vars) := hV.1
  have hN := hok.prod (j := m.vars.length) (Nat.le_refl _)
  have HS0 : Hid (segP m.vars 0 = prodTo m.vars m.vars.length) := segP_zero _
  obtain ⟨hc1, hc2⟩ := hc
  generalize prodTo m.vars m.vars.length = N at *
  obtain ⟨n, hn⟩ : ∃ n, n = m.vars.length := ⟨_, rfl⟩
  have HN : Hid (n = m.vars.length) := hn
  rw [← hn] at h6 hch HBV HV ⊢
  generalize m.rules.length = rn at *
  have hin := fun w => in_any code 0 (N - 1) w
  rw [decide_eq_true (show (0 ≤ code ∧ code ≤ N - 1) by omega)] at hin
  obtain ⟨i0, hi, hz0, hz1, hz2⟩ := info_parts infoInt
  have HL : Hid (valsL m.vars code = (List.range n).map (valAt m.vars code)) := by show _ = _; rw [HN.out]; rfl
  clear hV hn hok h hbv
  go_enter Tryd.func27, Tryd.ntmps27
  go_wp2_with (first | (go_at_call 46; refine (hch _).mono ?_; rintro e w1 ⟨rfl, hb1⟩) | (go_at_call 30; refine (hin _).mono ?_; rintro e w2 ⟨rfl, rfl⟩))
  have hb1' : Below (w.heap.size + 1) (w.alloc (.cells #[.slice ao n cap, .slice ro rn rc] 25)) w2 := hb1.mono (by simp)
  clear hch hin hb1
  go_loopw [1, 8, 9] (fun cd vv i wr => ∃ k : Nat, k ≤ n ∧ i = .int .i64 k ∧ cd = .int .i64 (code % segP m.vars k) ∧ Hid (wr.ownsRow (w.heap.size + 1) 3 1 vv k (ivals ((List.range k).map (valAt m.vars code)))) ∧ Below (w.heap.size + 1) (w.alloc (.cells #[.slice ao n cap, .slice ro rn rc] 25)) wr) (fun _ _ i _ => n - (intOf i).toNat)
  case atStart => exact ⟨0, Nat.zero_le _, rfl, by rw [HS0.out, Int.emod_eq_of_lt hc1 hc2], World.ownsRow_nil _ _ _ _, hb1'⟩
  case round =>
    obtain ⟨k, hk, rfl, rfl, HOwn, hbelB⟩ := hrel
    clear hb1'
    have hbel := (hA _).trans (hbelB.mono (Nat.le_succ _))
    have hszb : w.heap.size + 1 ≤ wr.heap.size := by have := hbelB.size; simp at this; omega
    have hlb : w.heap.size < wr.heap.size := by omega
    have cb := (hbelB.cell (p := ⟨w.heap.size, 0, none⟩) (by simp)).trans (show _ = some (.slice ao n cap) by simp [go_sem])
    have cb1 := (hbelB.cell (p := ⟨w.heap.size, 1, none⟩) (by simp)).trans (show _ = some (.slice ro rn rc) by simp [go_sem])
    by_cases hlt : k < n
    · obtain ⟨b, off, rfl, hblt, hat⟩ := HV.out.at (i := k) (by rw [← HN.out]; exact hlt)
      obtain ⟨c0, c1, c2, c3⟩ := hat.below hbel hblt
      have hvb := HOK.out.at (j := k) (by rw [← HN.out]; exact hlt)
      have hsg := segP_bounds HOK.out (i := k + 1) (by rw [← HN.out]; exact hlt)
      have hsg0 := segP_bounds HOK.out (i := k) (by rw [← HN.out]; exact hk)
      have HQ : Hid ((code % segP m.vars k) % segP m.vars (k + 1) = code % segP m.vars (k + 1)) := mod_step code (by rw [← HN.out]; exact hlt)
      have HVa : Hid ((m.vars.getD k vr0).lo + (code % segP m.vars k) / segP m.vars (k + 1) = valAt m.vars code k) := valAt_ref HOK.out code (by rw [← HN.out]; exact hlt)
      have HSn := (show Hid _ from ivals_snoc (valAt m.vars code) k)
      have hcd0 := Int.emod_nonneg code (show segP m.vars k ≠ 0 by omega)
      have hcd1 := Int.emod_lt_of_pos code (show 0 < segP m.vars k by omega)
      have hbvk := HBV.out wr hbel (k + 1) (by omega)
      rw [show ((k + 1 : Nat) : Int) - 1 = (k : Int) by omega] at hbvk
      generalize hcd : code % segP m.vars k = cd at *
      generalize segP m.vars k = sg0 at *
      obtain ⟨sg, hsge⟩ : ∃ sg, segP m.vars (k + 1) = sg := ⟨_, rfl⟩
      have HSG : Hid (segP m.vars (k + 1) = sg) := hsge
      rw [hsge] at hsg hbvk HQ HVa
      generalize m.vars.getD k vr0 = x at *
      obtain ⟨s, lo, hi', ini⟩ := x
      simp only [vspan] at c0 c1 c2 c3 HVa hvb
      obtain ⟨hv1, hv2, hv3, hv4, hv5, hv6, hv7⟩ := hvb
      clear hat hsge hcd
      have hi0 : (0 : Int) ≤ (k : Int) := Int.natCast_nonneg _
      have hi1 : (k : Int) < (n : Int) := by omega
      have hsz0 : ¬ sg = 0 := by omega
      have hsz1 : (sg == 0) = false := by rw [beq_eq_false_iff_ne]; omega
      have ht : cd.tmod sg = cd % sg := Int.tmod_eq_emod_of_nonneg hcd0
      have htd : cd.tdiv sg = cd / sg := Int.tdiv_eq_ediv_of_nonneg hcd0
      have hd0 := Int.ediv_nonneg hcd0 (show 0 ≤ sg by omega)
      have hd1 := Int.ediv_le_self sg hcd0
      have hw0 : IntKind.i64.wrap (cd / sg) = cd / sg := wr64 (by omega) (by omega)
      have hw1 : IntKind.i64.wrap (lo + cd / sg) = lo + cd / sg := wr64 (by omega) (by omega)
      have hbo : b < wr.heap.size := by omega
      have hown := HOwn.out
      go_wp2_with (go_at_call 45; refine hbvk.mono ?_; rintro e w3 ⟨rfl, hb3⟩)
      have hown3 : ∀ o, (w3.alloc o).ownsRow (w.heap.size + 1) 3 1 _ k _ := fun o => (owns_later hown hb3 (Nat.le_refl _)).alloc o
      have hnb := hown.lt
      generalize hxs : ivals ((List.range k).map (valAt m.vars code)) = xs at *
      have HXS : Hid (ivals ((List.range k).map (valAt m.vars code)) = xs) := hxs
      have hs3 : w.heap.size < w3.heap.size := Nat.lt_of_lt_of_le hlb hb3.size
      have hS0 : ∀ w', Below wr.heap.size wr w' → w'.cell? ⟨w.heap.size, 0, none⟩ = some (.slice (some ⟨b, off, none⟩) n cap) ∧ w'.cell? ⟨b, off + k * 4 + 1, none⟩ = some (.int .i64 lo) := fun w' hw' =>
        ⟨(hw'.cell (p := ⟨w.heap.size, 0, none⟩) hlb).trans cb, (hw'.cell (p := ⟨b, off + k * 4 + 1, none⟩) hbo).trans c1⟩
      have hSA : ∀ o, (w3.alloc o).cell? ⟨w.heap.size, 0, none⟩ = some (.slice (some ⟨b, off, none⟩) n cap) ∧ (w3.alloc o).cell? ⟨b, off + k * 4 + 1, none⟩ = some (.int .i64 lo) := fun o => hS0 _ (hb3.alloc hb3.size o)
      have hkb : (k + 1) * 8 ≤ 140737488355328 := by omega
      have h63 : k + 1 ≤ maxLen := by unfold maxLen; omega
      have hbase : ∀ o, w.heap.size + 1 ≤ (w3.alloc o).heap.size := fun o => by simp; omega
      clear hxs hown hbvk HOwn cb cb1 c0 c1 c2 c3
      go_region_held3 (fun w' => w'.cell? ⟨w.heap.size, 0, none⟩ = some (.slice (some ⟨b, off, none⟩) n cap) ∧ w'.cell? ⟨b, off + k * 4 + 1, none⟩ = some (.int .i64 lo))
        (first | exact hS0 _ hb3 | exact hS0 _ hb3.drew | exact hSA _ | exact hk4)
        (first
          | (refine step_append_lies _ (by rfl) (.tmp 34) (.tmp 45) 54 (by rfl) (w.heap.size + 1) 3 i0 _ 1 8 Tryd.underlying54 hi hz0 hz1 hz2 (by rfl) (by decide) _ k xs (by rfl) (hown3 _) ⟨w3.heap.size, 0, none⟩ 1 1 [.int .i64 (lo + cd / sg)] (by rfl) (by rfl) (cell_one_new _ _ _) (by intro u hu; simp at hu; subst hu; rfl) (by decide) h63 hkb (hbase _) (w3.heap.size + 1) (by simp) ?_; intro g cp w4 ho4 hg4 hat4 hl4; have hk4 : w4.cell? ⟨w.heap.size, 0, none⟩ = some (.slice (some ⟨b, off, none⟩) n cap) ∧ w4.cell? ⟨b, off + k * 4 + 1, none⟩ = some (.int .i64 lo) := ⟨(hg4.cell_far ⟨w.heap.size, 0, none⟩ (by simp; omega) (fun he => by have := (hnb _ he.symm).1; simp only at this; omega)).trans (hSA _).1, (hg4.cell_far ⟨b, off + k * 4 + 1, none⟩ (by simp; omega) (fun he => by have := (hnb _ he.symm).1; simp only at this; omega)).trans (hSA _).2⟩))
      have hbk : Below (w.heap.size + 1) (w.alloc (.cells #[.slice (some ⟨b, off, none⟩) n cap, .slice ro rn rc] 25)) w4 := by
        have h3 := hbelB.trans (hb3.mono hszb)
        first
          | exact Below.grown (Below.alloc h3.drew (by simp; omega) _) hg4 (by simp; omega) (fun q hq => (hnb q hq).1)
          | exact Below.grown (Below.alloc h3 (by omega) _) hg4 (by simp; omega) (fun q hq => (hnb q hq).1)
      have HO4 : Hid (w4.ownsRow (w.heap.size + 1) 3 1 (.slice (some ⟨g, 0, none⟩) (k + 1) cp) (k + 1) (ivals ((List.range (k + 1)).map (valAt m.vars code)))) := by
        show World.ownsRow _ _ _ _ _ _ _
        rw [HSn.out, ← HVa.out]
        exact ho4
      clear ho4 hg4 hown3 hk4
      go_wp2_with fail
      go_roundw
      case rel => exact ⟨k + 1, hlt, by go_num, by rw [HSG.out, ← HQ.out], HO4, hbk⟩
      case measure => simp [intOf]; omega
    · have hkn : k = n := by omega
      subst hkn
      have hown := HOwn.out
      obtain ⟨vo, vc, rfl⟩ := owns_slice hown
      have hI : IntsV wr (.slice vo k vc) (valsL m.vars code) := by
        rw [HL.out]
        exact intsV_of_owns (by simpa using hown)
      have HI := (show Hid _ from hI)
      clear hI hown
      go_wp2
      go_ret2
      exact ⟨_, rfl, hbel, HI.out⟩
/-- THE CONTRACT OF ValuesOf. -/
theorem rvalues_any (va vr : Value) (m : Mo) (code : Int) (w : World) (hV : ModelV w va vr m) :
    Calls Tryd.prog 27 #[.agg #[va, vr], .int .i64 code] w fun e w' => ∃ v, e = .returned (.tuple #[v, .int .i64 (wcode m code)]) ∧ Below w.heap.size w w' ∧ IntsV w' v (wvals m code) := by
  by_cases h : mcode m = 0
  · by_cases hc : 0 ≤ code ∧ code < prodTo m.vars m.vars.length
    · have h0 := wcode_yes h hc
      unfold wvals
      rw [h0, if_pos rfl]
      exact rvalues_loop va vr m code w hV h hc
    · have h0 := wcode_no h hc
      unfold wvals
      rw [h0, if_neg (by decide)]
      exact (rvalues_no va vr m code w hV h hc).mono fun e w' ⟨he, hb⟩ => ⟨_, he, hb, none, 0, rfl, fun h => absurd rfl h⟩
  · have h0 := wcode_bad (code := code) h
    unfold wvals
    rw [h0, if_neg h]
    exact (rvalues_bad va vr m code w hV h).mono fun e w' ⟨he, hb⟩ => ⟨_, he, hb, none, 0, rfl, fun h => absurd rfl h⟩
end Go.Proofs.YtdlpmomohbdpgaaDoor

/-
  The contract of the document's own AfterRule.
-/
namespace Go.Proofs.YtdlpmomohbdpgaaDoor
open Go.ChangeShapes Go.WideShapes Go.ChangeAt Go.RowKit Go.Deep
open Terms Tm

/-- THE CONTRACT OF Evaluated, in the step's words. -/
theorem rex_any (v ev : Value) (l : List (Int × Int)) (env : List Int) (w : World) (hV : OpsV w v l) (hE : IntsV w ev env) :
    Calls Tryd.prog 28 #[v, ev] w fun e w' => e = .returned (.tuple #[.int .i64 (exN l env), .int .i64 (exC l env)]) ∧ Below w.heap.size w w' :=
  evaluated_any v ev l env (treeOf l) w hV hE (treeOf_spec l)
theorem behindL_eq {env : List Int} {r : Ru} (h : ∀ j, j < r.sets.length → 0 ≤ (r.sets.getD j st0).var ∧ (r.sets.getD j st0).var < env.length) : (List.range env.length).map (fun i => setAt env r.sets i r.sets.length) = behindL env r := by
  apply List.ext_getElem?
  intro i
  by_cases hi : i < env.length
  · have h1 := setTo_at (k := r.sets.length) h i
    rw [List.getElem?_map, List.getElem?_range hi]
    have h2 : i < (behindL env r).length := by unfold behindL; rw [setTo_length]; exact hi
    rw [List.getElem?_eq_getElem h2]
    show some (setAt env r.sets i r.sets.length) = _
    rw [← h1]
    unfold behindL at h2 ⊢
    simp [List.getD_eq_getElem?_getD, h2]
  · simp [hi, behindL, setTo_length]

end Go.Proofs.YtdlpmomohbdpgaaDoor

/-
  The contract of the document's own LetterOf.
-/
namespace Go.Proofs.YtdlpmomohbdpgaaDoor
open Go.ChangeShapes Go.WideShapes Go.ChangeAt Go.RowKit Go.Deep
open Terms Tm

set_option maxHeartbeats 3200000 in
set_option maxRecDepth 20000 in
/-- THE CONTRACT OF LetterOf. -/
theorem rletter_any (va vr pv : Value) (m : Mo) (ps : List (List (Int × Int))) (code : Int) (w : World) (hlz : ps.length * 24 ≤ 140737488355328) (hV : ModelV w va vr m) (hP : TermsV w pv ps) :
    Calls Tryd.prog 15 #[.agg #[va, vr], pv, .int .i64 code] w fun e w' => ∃ v, e = .returned (.tuple #[v, .int .i64 (letC m ps code)]) ∧ Below w.heap.size w w' ∧ BoolsV w' v (letL m ps code) := by
  have hA : ∀ o, Below w.heap.size w (w.alloc o) := fun o => (Below.refl _ _).alloc (Nat.le_refl _) o
  have hpr := fun o => rprops_any va vr pv m ps (w.alloc o) hlz (hV.below (hA o)) (hP.below (hA o))
  have hvl := fun w' (hb : Below w.heap.size w w') => rvalues_any va vr m code w' (hV.below hb)
  obtain ⟨ao, cap, rfl⟩ := hV.1.shape
  obtain ⟨ro, rc, rfl⟩ := hV.2.shape
  obtain ⟨po, pc, rfl, hPa⟩ := hP
  by_cases hp : pcode m ps = 0
  · obtain ⟨hm, hp6⟩ := pcode_m hp
    rw [hp] at hpr
    by_cases hw : wcode m code = 0
    · have hlc : letC m ps code = 0 := by unfold letC; rw [if_pos hp, hw]
      have hll : letL m ps code = ps.map (fun p => holdsB p (valsL m.vars code)) := by unfold letL; rw [if_pos hlc]
      rw [hlc, hll]
      rw [hw, show wvals m code = valsL m.vars code by unfold wvals; rw [if_pos hw]] at hvl
      generalize valsL m.vars code = env at hvl ⊢
      have HEx : Hid (∀ w' v ev l, OpsV w' v l → IntsV w' ev env → Calls Tryd.prog 28 #[v, ev] w' fun e w2 => e = .returned (.tuple #[.int .i64 (exN l env), .int .i64 (exC l env)]) ∧ Below w'.heap.size w' w2) := fun w' v ev l h1 h2 => rex_any v ev l env w' h1 h2
      have HP : Hid (ps ≠ [] → ∃ b off, po = some ⟨b, off, none⟩ ∧ b < w.heap.size ∧ ∀ i, i < ps.length → ∃ u, w.cell? ⟨b, off + i, none⟩ = some u ∧ OpsV w u (ps.getD i [])) := hPa
      have HML : Hid (∀ k, k < ps.length → bvals ((ps.take (k + 1)).map (fun p => holdsB p env)) = bvals ((ps.take k).map (fun p => holdsB p env)) ++ [.bool (decide (exC (ps.getD k []) env = 0) && decide (exN (ps.getD k []) env = 1))]) := fun k hk => by
        rw [List.take_succ_eq_append_getElem hk, show ps[k] = ps.getD k [] by simp [List.getD_eq_getElem?_getD, hk]]
        unfold bvals
        rw [List.map_append, List.map_append]
        rfl
      obtain ⟨pn, hpn⟩ : ∃ pn, pn = ps.length := ⟨_, rfl⟩
      have HPN : Hid (pn = ps.length) := hpn
      rw [← hpn] at hpr hp6 HP HML ⊢
      generalize m.vars.length = n at *
      generalize m.rules.length = rn at *
      obtain ⟨i0, hi, hz0, hz1, hz2⟩ := info_parts infoBool
      clear hV hlc hll hPa hpn hw hm hp hlz
      go_enter Tryd.func15, Tryd.ntmps15
      go_wp2_with (first | (go_at_call 24; refine (hpr _).mono ?_; rintro e w1 ⟨rfl, hb1⟩; have hbw1 := (hA _).trans (hb1.mono (hA _).size); have k10 : w1.cell? ⟨w.heap.size, 0, none⟩ = some (.slice ao n cap) := (hb1.cell (p := ⟨w.heap.size, 0, none⟩) (by simp)).trans (by simp [go_sem]); have k11 : w1.cell? ⟨w.heap.size, 1, none⟩ = some (.slice ro rn rc) := (hb1.cell (p := ⟨w.heap.size, 1, none⟩) (by simp)).trans (by simp [go_sem])) | (go_at_call 27; refine (hvl _ hbw1).mono ?_; rintro e w3 ⟨v, rfl, hb3, hI3⟩; obtain ⟨vo, vc, rfl⟩ := hI3.shape))
      have hbw3 := hbw1.trans (hb3.mono hbw1.size)
      have HI3 : Hid (IntsV w3 (.slice vo env.length vc) env) := hI3
      have HB3 : Hid (Below w.heap.size w w3) := hbw3
      clear hpr hvl hb1 hbw1 k10 k11 hb3 hI3 hbw3
      go_loopw [10, 11] (fun out i wr => ∃ k : Nat, k ≤ pn ∧ i = .int .i64 k ∧ Hid (wr.ownsRow w3.heap.size 4 1 out k (bvals ((ps.take k).map (fun p => holdsB p env)))) ∧ Hid (Below w3.heap.size w3 wr)) (fun _ i _ => pn - (intOf i).toNat)
      case atStart => exact ⟨0, Nat.zero_le _, rfl, World.ownsRow_nil _ _ _ _, Below.refl _ _⟩
      case round =>
        obtain ⟨k, hk, rfl, HOwn, HBel⟩ := hrel
        have hbel := HBel.out
        have hbw := HB3.out.trans (hbel.mono HB3.out.size)
        by_cases hlt : k < pn
        · obtain ⟨b, off, rfl, hblt, hat⟩ := HP.out (by intro h; have := HPN.out; subst h; simp at this; omega)
          obtain ⟨u, hu, hou⟩ := hat k hlt
          have c0 := (hbel.cell (p := ⟨b, off + k, none⟩) (Nat.lt_of_lt_of_le hblt HB3.out.size)).trans ((HB3.out.cell (p := ⟨b, off + k, none⟩) hblt).trans hu)
          obtain ⟨uo, uc, rfl⟩ := hou.shape
          have hex := HEx.out wr _ _ _ (hou.below hbw) (HI3.out.below hbel)
          have HLk := (show Hid _ from HML.out k hlt)
          generalize exN (ps.getD k []) env = N at hex HLk
          generalize exC (ps.getD k []) env = C at hex HLk
          generalize (ps.getD k []).length = ul at *
          have hown := HOwn.out
          have hnb := hown.lt
          obtain ⟨oo, oc, rfl⟩ := owns_slice hown
          have h63 : k + 1 ≤ maxLen := by unfold maxLen; omega
          have hkb : (k + 1) * 1 ≤ 140737488355328 := by omega
          clear hat hu hou HEx HP HML
          by_cases hC : C = 0
          · have HEl : Hid (bvals ((ps.take (k + 1)).map (fun p => holdsB p env)) = bvals ((ps.take k).map (fun p => holdsB p env)) ++ [.bool (N == 1)]) := by
              show _ = _
              rw [HLk.out, hC]
              rfl
            subst hC
            clear HLk
            go_wp2_with (first | (go_at_call 28; refine hex.mono ?_; rintro e w4 ⟨rfl, hb4⟩; have hb34 := hbel.trans (hb4.mono hbel.size); have hown3 := fun o => (owns_later hown hb4 (Nat.le_refl _)).alloc o; have hbase : ∀ o, w3.heap.size ≤ (w4.alloc o).heap.size := (fun o => by have := hb34.size; simp; omega)) | (at_builtin; refine wpList_append_own _ rfl (.tmp 44) (.tmp 51) 47 rfl w3.heap.size 4 i0 (.bool false) 1 1 Tryd.underlying47 hi hz0 hz1 hz2 rfl (by decide) _ k _ rfl (hown3 _) ⟨w4.heap.size, 0, none⟩ 1 1 [.bool (N == 1)] rfl rfl (cell_one_new _ _ _) (by intro u hu; simp at hu; subst hu; rfl) h63 hkb (hbase _) ?_; intro v' w5 hown' hgrow _))
            have hb5 : Below w3.heap.size w3 w5 := (hb34.alloc hb34.size _).grown hgrow (hbase _) (fun z hz => (hnb z hz).1)
            have HO5 : Hid (w5.ownsRow w3.heap.size 4 1 v' (k + 1) (bvals ((ps.take (k + 1)).map (fun p => holdsB p env)))) := by
              show World.ownsRow _ _ _ _ _ _ _
              rw [HEl.out]
              exact hown'
            clear hown' hgrow hown3
            exact ⟨⟨k + 1, hlt, by first | rfl | simp, HO5.out, hb5⟩, by simp [intOf]; omega⟩
          · have HEl : Hid (bvals ((ps.take (k + 1)).map (fun p => holdsB p env)) = bvals ((ps.take k).map (fun p => holdsB p env)) ++ [.bool false]) := by
              show _ = _
              rw [HLk.out, decide_eq_false hC]
              rfl
            clear HLk
            go_wp2_with (first | (go_at_call 28; refine hex.mono ?_; rintro e w4 ⟨rfl, hb4⟩; have hb34 := hbel.trans (hb4.mono hbel.size); have hown3 := fun o => (owns_later hown hb4 (Nat.le_refl _)).alloc o; have hbase : ∀ o, w3.heap.size ≤ (w4.alloc o).heap.size := (fun o => by have := hb34.size; simp; omega)) | (at_builtin; refine wpList_append_own _ rfl (.tmp 44) (.tmp 51) 47 rfl w3.heap.size 4 i0 (.bool false) 1 1 Tryd.underlying47 hi hz0 hz1 hz2 rfl (by decide) _ k _ rfl (hown3 _) ⟨w4.heap.size, 0, none⟩ 1 1 [.bool false] rfl rfl (cell_one_new _ _ _) (by intro u hu; simp at hu; subst hu; rfl) h63 hkb (hbase _) ?_; intro v' w5 hown' hgrow _))
            have hb5 : Below w3.heap.size w3 w5 := (hb34.alloc hb34.size _).grown hgrow (hbase _) (fun z hz => (hnb z hz).1)
            have HO5 : Hid (w5.ownsRow w3.heap.size 4 1 v' (k + 1) (bvals ((ps.take (k + 1)).map (fun p => holdsB p env)))) := by
              show World.ownsRow _ _ _ _ _ _ _
              rw [HEl.out]
              exact hown'
            clear hown' hgrow hown3
            exact ⟨⟨k + 1, hlt, by first | rfl | simp, HO5.out, hb5⟩, by simp [intOf]; omega⟩
        · have hkn : k = pn := by omega
          subst hkn
          have hown := HOwn.out
          rw [List.take_of_length_le (by rw [← HPN.out]; omega)] at hown
          obtain ⟨oo, oc, rfl⟩ := owns_slice hown
          have hbo : BoolsV wr (.slice oo k oc) (ps.map (fun p => holdsB p env)) := boolsV_of_owns (by rw [show (ps.map (fun p => holdsB p env)).length = k by simp [HPN.out]]; exact hown)
          have HBO := (show Hid _ from hbo)
          clear hown hbo
          go_wp2_with fail
          go_ret2
          exact ⟨_, rfl, hbw, HBO.out⟩
    · have hlc : letC m ps code = wcode m code := by unfold letC; rw [if_pos hp]
      have hll : letL m ps code = [] := by unfold letL; rw [if_neg (by rw [hlc]; exact hw)]
      rw [hlc, hll]
      generalize wcode m code = c at *
      generalize wvals m code = vs at *
      generalize m.vars.length = n at *
      generalize m.rules.length = rn at *
      generalize ps.length = pn at *
      clear hV hlc hll hPa
      go_enter Tryd.func15, Tryd.ntmps15
      go_wp2_with (first | (go_at_call 24; refine (hpr _).mono ?_; rintro e w1 ⟨rfl, hb1⟩; have hbw1 := (hA _).trans (hb1.mono (hA _).size); have k10 : w1.cell? ⟨w.heap.size, 0, none⟩ = some (.slice ao n cap) := (hb1.cell (p := ⟨w.heap.size, 0, none⟩) (by simp)).trans (by simp [go_sem]); have k11 : w1.cell? ⟨w.heap.size, 1, none⟩ = some (.slice ro rn rc) := (hb1.cell (p := ⟨w.heap.size, 1, none⟩) (by simp)).trans (by simp [go_sem])) | (go_at_call 27; refine (hvl _ hbw1).mono ?_; rintro e w3 ⟨v, rfl, hb3, _⟩))
      go_ret2
      exact ⟨_, rfl, hbw1.trans (hb3.mono hbw1.size), none, 0, rfl, fun h => absurd rfl h⟩
  · have hlc : letC m ps code = pcode m ps := by unfold letC; rw [if_neg hp]
    have hll : letL m ps code = [] := by unfold letL; rw [if_neg (by rw [hlc]; exact hp)]
    rw [hlc, hll]
    generalize pcode m ps = c at *
    generalize m.vars.length = n at *
    generalize m.rules.length = rn at *
    generalize ps.length = pn at *
    clear hV hlc hll hPa
    go_enter Tryd.func15, Tryd.ntmps15
    go_wp2_with (go_at_call 24; refine (hpr _).mono ?_; rintro e w1 ⟨rfl, hb1⟩)
    go_ret2
    exact ⟨_, rfl, (hA _).trans (hb1.mono (hA _).size), none, 0, rfl, fun h => absurd rfl h⟩
end Go.Proofs.YtdlpmomohbdpgaaDoor

/-
  The contracts of the document's own secondAt, truthAt and TruthsOf.
-/
namespace Go.Proofs.YtdlpmomohbdpgaaDoor
open Go.ChangeShapes Go.WideShapes Go.ChangeAt Go.RowKit Go.Deep
open Terms

theorem rsec_any (b off cap p : Nat) (l : List (Int × Int)) (w : World) (h60 : l.length ≤ 60) (hz : endsCode (l.map Prod.fst) = 0) (hp : p < l.length) (h2 : pn (l.getD p (0, 0)).1 = 2) (hat : OpsAt w b off l) :
    Calls Tryd.prog 49 #[.slice (some ⟨b, off, none⟩) l.length cap, .int .i64 (p : Int)] w fun e w' => e = .returned (.int .i64 (sec l p : Int)) ∧ w' = w := by
  obtain ⟨h1, hs⟩ := part_in hz hp
  have hp1 := h1 (by omega)
  obtain ⟨_, hc⟩ := code_zero hz
  rw [List.length_map] at hc
  obtain ⟨m, hm, hm1, hml⟩ := cnt_in (l.map Prod.fst) 1 l.length (p + 1) hc hp1
  have hks : KindsAt w b off (l.map Prod.fst) := fun i hi => by
    rw [List.length_map] at hi
    rw [(hat i hi).1]
    simp [List.getD_eq_getElem?_getD, hi]
  have hen := endOf_any b off l.length cap (p + 1) (l.map Prod.fst) w h60 (by rw [List.length_map]) (by omega) hks
  have hsec : sec l p = p + 1 + m := by unfold sec; exact endAt_ok hm
  rw [hm] at hen
  rw [hsec]
  have hpc : ((p + 1 : Nat) : Int) = (p : Int) + 1 := by omega
  simp only [endOfVal] at hen
  rw [hpc] at hen
  generalize ((p + 1 + m : Nat) : Int) = z at *
  generalize l.length = n at *
  clear hat hks hc hm hs h1 h2 hsec hpc
  go_enter Tryd.func49, Tryd.ntmps49
  go_wp2_with (go_at_call 64; refine hen.mono ?_; rintro e w1 ⟨rfl, rfl⟩)
  go_ret
  exact ⟨rfl, rfl⟩

theorem kind_ok {l : List (Int × Int)} (hz : endsCode (l.map Prod.fst) = 0) {p : Nat} (hp : p < l.length) : 1 ≤ (l.getD p (0, 0)).1 ∧ (l.getD p (0, 0)).1 ≤ 18 := by
  obtain ⟨_, hc⟩ := code_zero hz
  rw [List.length_map] at hc
  obtain ⟨m, hm, _, _⟩ := cnt_in (l.map Prod.fst) 1 l.length p hc hp
  have ha := cnt_at (ks := l.map Prod.fst) (q := p) (by rw [List.length_map]; exact hp)
  rw [hm] at ha
  have hget : (l.map Prod.fst).getD p 0 = (l.getD p (0, 0)).1 := by simp [List.getD_eq_getElem?_getD, hp]
  rw [hget] at ha
  split at ha
  · rename_i hk; simpa [okK] using hk
  · simp at ha

/-- what truthAt stands on. -/
structure TruIn (w : World) (v lv av : Value) (l : List (Int × Int)) (letter : List Bool) : Prop where
  ops : OpsV w v l
  letter : BoolsV w lv letter
  ahead : IntsV w av (aheadL l)
theorem TruIn.below {w w' : World} {v lv av : Value} {l : List (Int × Int)} {letter : List Bool} (h : TruIn w v lv av l letter) (hb : Below w.heap.size w w') : TruIn w' v lv av l letter := ⟨h.ops.below hb, h.letter.below hb, h.ahead.below hb⟩

set_option maxHeartbeats 1600000 in
set_option maxRecDepth 20000 in
theorem truthAt_look (b off n cap : Nat) (lo : Option Addr) (ln lc : Nat) (aao : Option Addr) (an ac : Nat) (kx : Int) (hk : 14 ≤ kx ∧ kx ≤ 18) (p : Nat) (hpn : p < n) (l : List (Int × Int)) (claim : Int) (w : World) (h0 : 0 ≤ claim) (h64 : claim < 64) (han : an ≤ 6)
    (c0 : w.cell? ⟨b, off + p * 2, none⟩ = some (.int .i64 kx)) (hA : an = (aheadL l).length) (hav : IntsV w (.slice aao an ac) (aheadL l)) (hpl : p < l.length) (hlk : lookB (l.getD p (0, 0)).1 = true) :
    Calls Tryd.prog 31 #[.slice (some ⟨b, off, none⟩) n cap, .int .i64 (p : Int), .slice lo ln lc, .slice aao an ac, .int .i64 claim] w fun e w' => e = .returned (.bool (bitB claim (aheadTo l p).length)) ∧ Below w.heap.size w w' := by
  have hlt := aheadTo_lt l hpl hlk
  obtain ⟨ao', ac', hsl, hai⟩ := hav
  injection hsl with e1 e2 e3
  subst e1
  obtain ⟨ab, aoff, rfl, habl, haat⟩ := hai (by intro h; rw [show aheadTo l l.length = aheadL l from rfl, h] at hlt; simp at hlt)
  have HG : Hid (∀ k, k < an → ∃ q : Nat, w.cell? ⟨ab, aoff + k, none⟩ = some (.int .i64 (q : Int)) ∧ (q = p ↔ k = (aheadTo l p).length)) := fun k hk => by
    obtain ⟨q, h1, h2, h3, h4⟩ := aheadTo_get l l.length k (by unfold aheadL at hA; omega)
    refine ⟨q, by rw [haat k (by omega)]; exact congrArg (fun z => some (Value.int .i64 z)) h1, fun e => by rw [← e]; exact h4.symm, fun e => ?_⟩
    rcases Nat.lt_trichotomy q p with h | h | h
    · have := aheadTo_lt l h h3; omega
    · exact h
    · have := aheadTo_lt l h hlk; omega
  have hia : (aheadTo l p).length < an := by unfold aheadL at hA; omega
  generalize (aheadTo l p).length = ix at *
  have e13 : ¬ kx = 13 := by omega
  have e11 : ¬ kx = 11 := by omega
  have e12 : ¬ kx = 12 := by omega
  have e10 : ¬ kx = 10 := by omega
  have e8 : ¬ kx = 8 := by omega
  have e9 : ¬ kx = 9 := by omega
  clear hk hai haat hlk hpl hlt hA e2 e3
  go_enter Tryd.func31, Tryd.ntmps31
  go_wp2_with fail
  go_loop [4, 13] (fun c i => ∃ k : Nat, k ≤ ix ∧ i = .int .i64 (k : Int) ∧ c = .int .i64 (claim / 2 ^ k)) (fun _ i => an - (intOf i).toNat)
  case atStart => exact ⟨0, Nat.zero_le _, rfl, by simp⟩
  case round =>
    obtain ⟨k, hk, rfl, rfl⟩ := hrel
    obtain ⟨q, hq, hqi⟩ := HG.out k (by omega)
    have h2 : (0 : Int) < 2 ^ k := Int.pow_pos (by decide)
    have h3 : 0 ≤ claim / 2 ^ k := Int.ediv_nonneg h0 (Int.le_of_lt h2)
    have h4 : claim / 2 ^ k < 64 := Int.lt_of_le_of_lt (Int.ediv_le_self _ h0) h64
    have HD : Hid (claim / 2 ^ (k + 1) = claim / 2 ^ k / 2) := by show _ = _; rw [Int.pow_succ]; first | exact (Int.ediv_ediv (Int.le_of_lt h2)).symm | exact (Int.ediv_ediv_of_nonneg (Int.le_of_lt h2)).symm | exact (Int.ediv_ediv_eq (Int.le_of_lt h2)).symm
    have HB : Hid (bitB claim k = decide (claim / 2 ^ k % 2 = 1)) := rfl
    generalize claim / 2 ^ k = cl at *
    have hka : k < an := by omega
    clear h2
    by_cases hqp : q = p
    · have hki := hqi.1 hqp
      have HKI : Hid (k = ix) := hki
      subst hqp
      clear hki hqi HG
      go_wp2_with fail
      go_ret
      rw [← HKI.out, HB.out]
      exact ⟨rfl, Below.refl _ _⟩
    · have hki : k ≠ ix := fun e => hqp (hqi.2 e)
      have hne : ¬ (q : Int) = p := by omega
      have hlt' : k < ix := by omega
      clear hki hqi HG hqp
      go_wp2_with fail
      exact ⟨⟨k + 1, hlt', by first | rfl | simp, by rw [HD.out]⟩, by simp [intOf]; omega⟩

set_option maxHeartbeats 1600000 in
set_option maxRecDepth 20000 in
/-- THE CONTRACT OF the document's truthAt. -/
theorem truthAt_any (l : List (Int × Int)) (letter : List Bool) (claim : Int) (hc : lcode letter.length l = 0) (h0 : 0 ≤ claim) (h64 : claim < 64) : ∀ (m p : Nat) (w : World) (v lv av : Value), l.length ≤ m + p → p < l.length → TruIn w v lv av l letter →
    Calls Tryd.prog 31 #[v, .int .i64 (p : Int), lv, av, .int .i64 claim] w fun e w' => e = .returned (.bool (tru l letter claim p)) ∧ Below w.heap.size w w' := by
  obtain ⟨hp0, hp6, hz, hlf, h6⟩ := lcode_zero hc
  obtain ⟨hne, h60⟩ := ends_ne hz
  rw [List.length_map] at h60
  intro m
  induction m with
  | zero => intro p w v lv av hm hp; omega
  | succ m ih =>
    intro p w v lv av hm hp hI
    obtain ⟨ao, cap, rfl, _, hv⟩ := id hI.ops
    obtain ⟨b, off, rfl, hbl, hat⟩ := hv (by rintro rfl; exact hne rfl)
    obtain ⟨lo, lc, rfl, hl⟩ := id hI.letter
    obtain ⟨aao, ac, rfl, ha⟩ := id hI.ahead
    obtain ⟨c0, c1⟩ := hat p hp
    have hop := lfirst_all hlf p hp
    have hko := kind_ok hz hp
    obtain ⟨hq1, hq2⟩ := part_in hz hp
    cases hb : lookB (l.getD p (0, 0)).1 with
    | true =>
      rw [tru_look hp hb]
      have hk : 14 ≤ (l.getD p (0, 0)).1 ∧ (l.getD p (0, 0)).1 ≤ 18 := by simpa [lookB] using hb
      exact truthAt_look b off l.length cap lo _ lc aao _ ac _ hk p hp l claim w h0 h64 h6 c0 rfl hI.ahead hp hb
    | false =>
      have HE : Hid (tru l letter claim p = mkB (l.getD p (0, 0)) letter (tru l letter claim (p + 1)) (tru l letter claim (sec l p))) := tru_mk hp hb (fun h => (hq2 h).1)
      have hsc := rsec_any b off cap p l
      have ihp : p + 1 < l.length → ∀ w', Below w.heap.size w w' → Calls Tryd.prog 31 #[.slice (some ⟨b, off, none⟩) l.length cap, .int .i64 ((p : Int) + 1), .slice lo letter.length lc, .slice aao (aheadL l).length ac, .int .i64 claim] w' fun e w2 => e = .returned (.bool (tru l letter claim (p + 1))) ∧ Below w'.heap.size w' w2 := fun h w' hb' => by
        have := ih (p + 1) w' _ _ _ (by omega) h (hI.below hb')
        rw [show ((p + 1 : Nat) : Int) = (p : Int) + 1 by omega] at this
        exact this
      have ihs : pn (l.getD p (0, 0)).1 = 2 → ∀ w', Below w.heap.size w w' → Calls Tryd.prog 31 #[.slice (some ⟨b, off, none⟩) l.length cap, .int .i64 (sec l p : Int), .slice lo letter.length lc, .slice aao (aheadL l).length ac, .int .i64 claim] w' fun e w2 => e = .returned (.bool (tru l letter claim (sec l p))) ∧ Below w'.heap.size w' w2 := fun h w' hb' => ih (sec l p) w' _ _ _ (by have := (hq2 h).1; omega) (hq2 h).2 (hI.below hb')
      have hss : pn (l.getD p (0, 0)).1 = 2 → ∀ w', Below w.heap.size w w' → Calls Tryd.prog 49 #[.slice (some ⟨b, off, none⟩) l.length cap, .int .i64 (p : Int)] w' fun e w2 => e = .returned (.int .i64 (sec l p : Int)) ∧ w2 = w' := fun h w' hb' => rsec_any b off cap p l w' h60 hz hp h (hat.below hb' hbl)
      generalize tru l letter claim (p + 1) = ta at *
      generalize tru l letter claim (sec l p) = tb at *
      generalize tru l letter claim p = tp at *
      generalize l.getD p (0, 0) = xy at *
      obtain ⟨kx, vx⟩ := xy
      simp only at c0 c1 hb hop hq1 hq2 ihs hss hko
      have hk8 : 8 ≤ kx := by
        simp only [lopErr] at hop
        split at hop
        · omega
        · omega
      generalize (sec l p : Int) = sp at *
      rw [HE.out]
      have hlf13 : kx = 13 → 0 ≤ vx ∧ vx < letter.length := fun e => by
        simp only [lopErr] at hop
        rw [if_neg (by omega), if_pos e] at hop
        split at hop
        · omega
        · omega
      generalize (aheadL l).length = an at *
      clear hv ha hop hI hsc ih HE
      by_cases e13 : kx = 13
      · subst e13
        obtain ⟨hv0, hv1⟩ := hlf13 rfl
        obtain ⟨vn, rfl⟩ : ∃ vn : Nat, vx = vn := ⟨vx.toNat, by omega⟩
        obtain ⟨lb, loff, rfl, hlbl, hlat⟩ := hl (by intro h; rw [h] at hv1; simp at hv1; omega)
        have hcl := hlat vn (by omega)
        rw [show mkB (13, (vn : Int)) letter ta tb = letter.getD vn false by simp [mkB]]
        generalize letter.getD vn false = x at *
        generalize letter.length = ln at *
        generalize l.length = n at *
        have hvl : vn < ln := by omega
        clear hlat hl hlf13 hv0 hv1 ihp ihs hss hq1 hq2
        go_enter Tryd.func31, Tryd.ntmps31
        go_wp2_with fail
        go_ret
        exact ⟨rfl, Below.refl _ _⟩
      · generalize hln : letter.length = ln at *
        generalize hnn : l.length = n at *
        clear hl hlf13 hat
        by_cases e11 : kx = 11
        · subst e11
          rw [show mkB (11, vx) letter ta tb = true by simp [mkB]]
          clear ihp ihs hss hq1 hq2
          go_enter Tryd.func31, Tryd.ntmps31
          go_wp2_with fail
          go_ret
          exact ⟨rfl, Below.refl _ _⟩
        · by_cases e12 : kx = 12
          · subst e12
            rw [show mkB (12, vx) letter ta tb = false by simp [mkB]]
            clear ihp ihs hss hq1 hq2
            go_enter Tryd.func31, Tryd.ntmps31
            go_wp2_with fail
            go_ret
            exact ⟨rfl, Below.refl _ _⟩
          · by_cases e10 : kx = 10
            · subst e10
              rw [show mkB (10, vx) letter ta tb = !ta by simp [mkB]]
              have hc1 := ihp (hq1 (by decide)) w (Below.refl _ _)
              clear ihp ihs hss hq1 hq2
              go_enter Tryd.func31, Tryd.ntmps31
              go_wp2_with (go_at_call 31; refine hc1.mono ?_; rintro e w1 ⟨rfl, hb1⟩)
              go_ret
              exact ⟨rfl, hb1⟩
            · by_cases e89 : kx = 8 ∨ kx = 9
              · have hpn2 : pn kx = 2 := by rcases e89 with rfl | rfl <;> rfl
                have hc1 := ihp (hq1 (by omega)) w (Below.refl _ _)
                have hc2 := ihs hpn2
                have hc3 := hss hpn2
                have HM : Hid (mkB (kx, vx) letter ta tb = if kx = 8 then (ta && tb) else (ta || tb)) := by show _ = _; rcases e89 with rfl | rfl <;> simp [mkB]
                rw [HM.out]
                clear ihp ihs hss hq1 hq2 hpn2 HM
                rcases e89 with rfl | rfl
                · cases ta <;> cases tb
                  all_goals
                    go_enter Tryd.func31, Tryd.ntmps31
                    go_wp2_with (first | (go_at_call 49; refine (hc3 _ hb1).mono ?_; rintro e w2 ⟨rfl, hw2⟩; obtain rfl := hw2.symm) | (go_at_call 31; refine hc1.mono ?_; clear hc1; rintro e w1 ⟨rfl, hb1⟩; have hk1 := (hb1.cell (p := ⟨b, off + p * 2, none⟩) hbl).trans c0; have hc4 := hc2 _ hb1) | (go_at_call 31; refine hc4.mono ?_; clear hc4; rintro e w3 ⟨rfl, hb3⟩; have hb13 := hb1.trans (hb3.mono hb1.size); have hk3 := (hb13.cell (p := ⟨b, off + p * 2, none⟩) hbl).trans c0))
                    all_goals go_ret
                    all_goals exact ⟨by first | rfl | simp, hb13⟩
                · cases ta <;> cases tb
                  all_goals
                    go_enter Tryd.func31, Tryd.ntmps31
                    go_wp2_with (first | (go_at_call 49; refine (hc3 _ hb1).mono ?_; rintro e w2 ⟨rfl, hw2⟩; obtain rfl := hw2.symm) | (go_at_call 31; refine hc1.mono ?_; clear hc1; rintro e w1 ⟨rfl, hb1⟩; have hk1 := (hb1.cell (p := ⟨b, off + p * 2, none⟩) hbl).trans c0; have hc4 := hc2 _ hb1) | (go_at_call 31; refine hc4.mono ?_; clear hc4; rintro e w3 ⟨rfl, hb3⟩; have hb13 := hb1.trans (hb3.mono hb1.size); have hk3 := (hb13.cell (p := ⟨b, off + p * 2, none⟩) hbl).trans c0))
                    all_goals go_ret
                    all_goals exact ⟨by first | rfl | simp, hb13⟩
              · exfalso
                simp [lookB] at hb
                omega
end Go.Proofs.YtdlpmomohbdpgaaDoor

/-
  The contract of the document's own TruthsOf.
-/
namespace Go.Proofs.YtdlpmomohbdpgaaDoor
open Go.ChangeShapes Go.WideShapes Go.ChangeAt Go.RowKit Go.Deep
open Terms

def truTo (l : List (Int × Int)) (letter : List Bool) (claim : Int) (k : Nat) : List Bool := (List.range k).map (tru l letter claim)
theorem truTo_succ (l : List (Int × Int)) (letter : List Bool) (claim : Int) (k : Nat) : truTo l letter claim (k + 1) = truTo l letter claim k ++ [tru l letter claim k] := by simp [truTo, List.range_succ]
theorem truTo_length (l : List (Int × Int)) (letter : List Bool) (claim : Int) (k : Nat) : (truTo l letter claim k).length = k := by simp [truTo]

set_option maxHeartbeats 1600000 in
set_option maxRecDepth 20000 in
/-- THE CONTRACT OF the document's TruthsOf. -/
theorem rtruths_any (v lv : Value) (l : List (Int × Int)) (letter : List Bool) (claim : Int) (w : World) (hV : OpsV w v l) (hL : BoolsV w lv letter) :
    Calls Tryd.prog 17 #[v, lv, .int .i64 claim] w fun e w' => ∃ v', e = .returned (.tuple #[v', .int .i64 (tcode l letter claim)]) ∧ Below w.heap.size w w' ∧ BoolsV w' v' (truL l letter claim) := by
  have hah := aheadOf_any v l letter.length w hV
  obtain ⟨oo, oc, rfl, _⟩ := id hV
  obtain ⟨lo, lc, rfl, hl⟩ := id hL
  by_cases hc : lcode letter.length l = 0
  · obtain ⟨hp0, hp6, hz, hlf, h6⟩ := lcode_zero hc
    obtain ⟨hne, h60⟩ := ends_ne hz
    rw [List.length_map] at h60
    rw [hc] at hah
    have hal : ahL letter.length l = aheadL l := by unfold ahL; rw [if_pos hc]
    rw [hal] at hah
    have hsh : (2 : Int) ^ (aheadL l).length ≤ 64 := by
      have hcase : (aheadL l).length = 0 ∨ (aheadL l).length = 1 ∨ (aheadL l).length = 2 ∨ (aheadL l).length = 3 ∨ (aheadL l).length = 4 ∨ (aheadL l).length = 5 ∨ (aheadL l).length = 6 := by omega
      rcases hcase with h | h | h | h | h | h | h <;> rw [h] <;> decide
    have HTr : Hid (ClaimNo l claim → False) ∨ Hid (ClaimNo l claim) := by
      by_cases h : ClaimNo l claim
      · exact .inr h
      · exact .inl h
    have HTa : Hid (¬ ClaimNo l claim → ∀ p w' av, p < l.length → TruIn w' (.slice oo l.length oc) (.slice lo letter.length lc) av l letter → Calls Tryd.prog 31 #[.slice oo l.length oc, .int .i64 (p : Int), .slice lo letter.length lc, av, .int .i64 claim] w' fun e w2 => e = .returned (.bool (tru l letter claim p)) ∧ Below w'.heap.size w' w2) := fun hn p w' av hp hI => by
      unfold ClaimNo at hn
      exact truthAt_any l letter claim hc (by omega) (by omega) l.length p w' _ _ _ (by omega) hp hI
    have HCl : Hid (ClaimNo l claim ↔ (claim < 0 ∨ 2 ^ (aheadL l).length ≤ claim)) := Iff.rfl
    have HV : Hid (OpsV w (.slice oo l.length oc) l) := hV
    have HL : Hid (BoolsV w (.slice lo letter.length lc) letter) := hL
    have HTC : Hid (ClaimNo l claim → tcode l letter claim = 2 ∧ truL l letter claim = []) := fun h => ⟨tcode_no hc h, by unfold truL; rw [tcode_no hc h]; rfl⟩
    have HTO : Hid (¬ ClaimNo l claim → tcode l letter claim = 0 ∧ truL l letter claim = truTo l letter claim l.length) := fun h => ⟨tcode_ok hc h, by unfold truL truTo; rw [tcode_ok hc h]; rfl⟩
    generalize tcode l letter claim = x at *
    generalize truL l letter claim = res at *
    have hin := fun w => in_any claim 0 ((2 : Int) ^ (aheadL l).length - 1) w
    obtain ⟨an, han⟩ : ∃ an, an = (aheadL l).length := ⟨_, rfl⟩
    have HAN : Hid (an = (aheadL l).length) := han
    rw [← han] at hah h6 hsh HCl hin
    obtain ⟨n, hn⟩ : ∃ n, n = l.length := ⟨_, rfl⟩
    have HN : Hid (n = l.length) := hn
    rw [← hn] at hah h60 HTa HTO HV ⊢
    generalize letter.length = ln at *
    obtain ⟨i0, hi, hz0, hz1, hz2⟩ := info_parts infoBool
    clear hV hL hl hal hc hz hne hlf han hn hp0 hp6
    go_enter Tryd.func17, Tryd.ntmps17
    go_wp2_with (go_at_call 29; refine hah.mono ?_; rintro e w1 ⟨av, rfl, hb1, ho1⟩; obtain ⟨aao, ac, rfl⟩ := owns_slice ho1)
    have HI1 : Hid (TruIn w1 (.slice oo n oc) (.slice lo ln lc) (.slice aao an ac) l letter) := ⟨HV.out.below hb1, HL.out.below hb1, by have := ho1; rw [HAN.out] at this ⊢; exact intsV_of_owns this⟩
    clear hah ho1
    go_loop [10, 11] (fun ms i => ∃ k : Nat, k ≤ an ∧ i = .int .i64 (k : Int) ∧ ms = .int .i64 (2 ^ k)) (fun _ i => an - (intOf i).toNat)
    case atStart => exact ⟨0, Nat.zero_le _, rfl, rfl⟩
    case round =>
      obtain ⟨k, hk, rfl, rfl⟩ := hrel
      by_cases hlt : k < an
      · have h2 : (2 : Int) ^ k * 2 = 2 ^ (k + 1) := (Int.pow_succ 2 k).symm
        have h3 : (2 : Int) ^ (k + 1) ≤ 64 := by
          have hcase : k = 0 ∨ k = 1 ∨ k = 2 ∨ k = 3 ∨ k = 4 ∨ k = 5 := by omega
          rcases hcase with rfl | rfl | rfl | rfl | rfl | rfl <;> decide
        have h4 : (0 : Int) < 2 ^ k := Int.pow_pos (by decide)
        have HP : Hid ((2 : Int) ^ k * 2 = 2 ^ (k + 1)) := h2
        rw [← h2] at h3
        generalize (2 : Int) ^ k = pw at *
        clear h2
        go_wp2_with fail
        exact ⟨⟨k + 1, hlt, by first | rfl | simp, by rw [HP.out]⟩, by simp [intOf]; omega⟩
      · obtain rfl : k = an := by omega
        have h4 : (0 : Int) < 2 ^ k := Int.pow_pos (by decide)
        rcases HTr with HNo | HYes
        · have hnc : ¬ (claim < 0 ∨ 2 ^ k ≤ claim) := fun h => HNo.out (HCl.out.2 h)
          obtain ⟨hx0, hrl⟩ := HTO.out (fun h => HNo.out h)
          have HRL : Hid (res = truTo l letter claim n) := hrl
          have HX0 : Hid (x = 0) := hx0
          rw [show decide (0 ≤ claim ∧ claim ≤ 2 ^ k - 1) = true by simp; omega] at hin
          have HTa2 := (show Hid _ from HTa.out (fun h => HNo.out h))
          generalize (2 : Int) ^ k = pw at *
          clear hnc hx0 hrl hlt hk HTO HTC HTa HCl HNo
          go_wp2_with (go_at_call 30; refine (hin _).mono ?_; rintro e wz ⟨rfl, hwz⟩; obtain rfl := hwz.symm)
          go_loopw [12, 13] (fun out i wr => ∃ q : Nat, q ≤ n ∧ i = .int .i64 (q : Int) ∧ Hid (wr.ownsRow w1.heap.size 4 1 out (truTo l letter claim q).length (bvals (truTo l letter claim q))) ∧ Below w1.heap.size w1 wr) (fun _ i _ => n - (intOf i).toNat)
          case atStart => exact ⟨0, Nat.zero_le _, rfl, World.ownsRow_nil _ _ _ _, Below.refl _ _⟩
          case round =>
            obtain ⟨q, hq, rfl, HOw, hbel⟩ := hrel
            have hown := HOw.out
            rw [truTo_length] at hown
            obtain ⟨ro, rc, rfl⟩ := owns_slice hown
            by_cases hlt : q < n
            · have hta := HTa2.out q wr _ hlt (HI1.out.below hbel)
              have HS : Hid (truTo l letter claim (q + 1) = truTo l letter claim q ++ [tru l letter claim q]) := truTo_succ _ _ _ _
              generalize tru l letter claim q = tv at *
              have h63 : q + 1 ≤ maxLen := by unfold maxLen; omega
              have hkb : (q + 1) * 1 ≤ 140737488355328 := by omega
              clear HOw HTa2
              go_wp2_with (first | (go_at_call 31; refine hta.mono ?_; rintro e w3 ⟨rfl, hb3⟩; have ho3 := fun o => (owns_later hown hb3 (Nat.le_refl _)).alloc o; have hb13 := hbel.trans (hb3.mono hbel.size); have hbase : ∀ o, w1.heap.size ≤ (w3.alloc o).heap.size := (fun o => by have := hb13.size; simp; omega)) | (at_builtin; refine wpList_append_own _ rfl _ _ 47 rfl w1.heap.size 4 i0 (.bool false) 1 1 Tryd.underlying47 hi hz0 hz1 hz2 rfl (by decide) _ _ _ rfl (ho3 _) ⟨_, 0, none⟩ 1 1 _ rfl rfl (cell_one_new _ _ _) (by intro u hu; simp at hu; subst hu; rfl) h63 hkb (hbase _) ?_; intro v5 w5 hown5 hgrow5 _; obtain ⟨g5, cp5, rfl⟩ := owns_more hown5))
              have hb5 : Below w1.heap.size w1 w5 := (hb13.alloc hb13.size _).grown hgrow5 (hbase _) (owns_block hown)
              refine ⟨⟨q + 1, hlt, by first | rfl | simp, ?_, hb5⟩, by simp [intOf]; omega⟩
              show World.ownsRow _ _ _ _ _ _ _
              rw [truTo_length, HS.out]
              rw [show bvals (truTo l letter claim q ++ [tv]) = bvals (truTo l letter claim q) ++ [.bool tv] by simp [bvals]]
              exact hown5
            · obtain rfl : q = n := by omega
              have HO2 : Hid (BoolsV wr (.slice ro q rc) (truTo l letter claim q)) := by
                have := HOw.out
                show BoolsV _ _ _
                exact boolsV_of_owns this
              clear HOw hown HTa2
              go_wp2_with fail
              go_ret2
              rw [HX0.out, HRL.out]
              exact ⟨_, rfl, hb1.trans (hbel.mono hb1.size), HO2.out⟩
        · have hnc : claim < 0 ∨ 2 ^ k ≤ claim := HCl.out.1 HYes.out
          obtain ⟨hx0, hrl⟩ := HTC.out HYes.out
          rw [show decide (0 ≤ claim ∧ claim ≤ 2 ^ k - 1) = false by simp; omega] at hin
          generalize (2 : Int) ^ k = pw at *
          subst hx0 hrl
          clear hnc hlt hk HTO HTC HTa HCl HYes
          go_wp2_with (go_at_call 30; refine (hin _).mono ?_; rintro e wz ⟨rfl, hwz⟩; obtain rfl := hwz.symm)
          go_ret2
          exact ⟨_, rfl, hb1, none, 0, rfl, fun h => absurd rfl h⟩
  · have HX : Hid (tcode l letter claim = lcode letter.length l ∧ truL l letter claim = []) := ⟨tcode_bad hc, by unfold truL; rw [if_neg (by rw [tcode_bad hc]; exact hc)]⟩
    rw [HX.out.1, HX.out.2]
    generalize lcode letter.length l = x at *
    generalize letter.length = ln at *
    generalize l.length = n at *
    clear hV hL hl HX
    go_enter Tryd.func17, Tryd.ntmps17
    go_wp2_with (go_at_call 29; refine hah.mono ?_; rintro e w1 ⟨av, rfl, hb1, ho1⟩; obtain ⟨aao, ac, rfl⟩ := owns_slice ho1)
    go_ret2
    exact ⟨_, rfl, hb1, none, 0, rfl, fun h => absurd rfl h⟩
end Go.Proofs.YtdlpmomohbdpgaaDoor

/-
  The document's own: how many claims there are, where runs begin; two lists of spots compared.
-/
namespace Go.Proofs.YtdlpmomohbdpgaaDoor
open Go.ChangeShapes Go.WideShapes Go.ChangeAt Go.RowKit Go.Deep
open Terms Tm

set_option maxHeartbeats 1600000 in
set_option maxRecDepth 20000 in
theorem many_any (va vr pv fv : Value) (m : Mo) (ps : List (List (Int × Int))) (l : List (Int × Int)) (w : World) (hV : TaskV w va vr pv fv m ps l) (hc : tkcode m ps l = 0) :
    Calls Tryd.prog 16 #[.agg #[va, vr, pv, fv]] w fun e w' => e = .returned (.int .i64 ((2 ^ (aheadL l).length : Nat) : Int)) ∧ Below w.heap.size w w' := by
  have hA : ∀ o, Below w.heap.size w (w.alloc o) := fun o => (Below.refl _ _).alloc (Nat.le_refl _) o
  obtain ⟨_, hl0⟩ := tk_zero hc
  have h6 := (lcode_zero hl0).2.2.2.2
  obtain ⟨ao, ac, rfl⟩ := hV.mo.1.shape
  obtain ⟨ro, rc, rfl⟩ := hV.mo.2.shape
  obtain ⟨po, pc, rfl⟩ := hV.ps.shape
  obtain ⟨fo, fc, rfl, _⟩ := id hV.fo
  have hah : Calls Tryd.prog 29 #[.slice fo l.length fc, .int .i64 (ps.length : Int)] (w.alloc (.cells #[.slice ao m.vars.length ac, .slice ro m.rules.length rc, .slice po ps.length pc, .slice fo l.length fc] 29)) fun e w' => ∃ ho hcp, e = .returned (.tuple #[.slice ho (aheadL l).length hcp, .int .i64 0]) ∧ Below (w.alloc (.cells #[.slice ao m.vars.length ac, .slice ro m.rules.length rc, .slice po ps.length pc, .slice fo l.length fc] 29)).heap.size (w.alloc (.cells #[.slice ao m.vars.length ac, .slice ro m.rules.length rc, .slice po ps.length pc, .slice fo l.length fc] 29)) w' := by
    refine (aheadOf_any _ l ps.length _ (hV.fo.below (hA _))).mono fun e w' ⟨av, h1, h2, h3⟩ => ?_
    have e1 : ahL ps.length l = aheadL l := by unfold ahL; rw [if_pos hl0]
    rw [e1] at h3
    obtain ⟨a, c, rfl⟩ := owns_slice h3
    exact ⟨a, c, by rw [h1, hl0], h2⟩
  have hpow : ∀ k : Nat, k ≤ 6 → 2 ^ k ≤ 64 := fun k hk => Nat.pow_le_pow_right (show 0 < 2 by decide) hk
  generalize (aheadL l).length = an at *
  generalize m.vars.length = vn at *
  generalize m.rules.length = rn at *
  generalize ps.length = pn at *
  generalize l.length = fn at *
  clear hV hc hl0
  go_enter Tryd.func16, Tryd.ntmps16
  go_wp2_with (first | (go_at_call 29; refine hah.mono ?_; rintro e w1 ⟨ho, hcp, rfl, hb1⟩; have hbw := (hA _).trans (hb1.mono (hA _).size)))
  go_loopw [5, 6] (fun x i wr => ∃ k n : Nat, k ≤ an ∧ i = .int .i64 k ∧ x = .int .i64 n ∧ Hid (n = 2 ^ k) ∧ wr = w1) (fun _ i _ => an - (intOf i).toNat)
  case atStart => exact ⟨0, 1, Nat.zero_le _, rfl, rfl, rfl, rfl⟩
  case round =>
    obtain ⟨k, n, hk, rfl, rfl, HN, rfl⟩ := hrel
    have hn64 : n ≤ 64 := by rw [HN.out]; exact hpow k (by omega)
    by_cases hlt : k < an
    · have HN2 : Hid (n * 2 = 2 ^ (k + 1)) := by show _ = _; rw [Nat.pow_succ, HN.out]
      clear HN
      go_wp2_with fail
      go_roundw
      case rel => exact ⟨k + 1, n * 2, by omega, by go_num, by go_num, HN2, by trivial⟩
      case measure => simp [intOf]; omega
    · obtain rfl : k = an := by omega
      go_wp2_with fail
      go_ret
      exact ⟨by rw [← HN.out]; rfl, hbw⟩

set_option maxHeartbeats 1600000 in
set_option maxRecDepth 20000 in
theorem sameSpots_true (va vb : Value) (l : List (Int × Int)) (w : World) (hl : l.length ≤ 1048576) (hA : SpV w va l) (hB : SpV w vb l) :
    Calls Tryd.prog 7 #[va, vb] w fun e w' => e = .returned (.bool true) ∧ ∃ n, w' = w.drewN n := by
  obtain ⟨ao, ca, rfl, ha⟩ := hA
  obtain ⟨bo, cb, rfl, hb⟩ := hB
  obtain ⟨n, hn⟩ : ∃ n, l.length = n := ⟨_, rfl⟩
  rw [hn] at hl ⊢
  have HA : Hid (l ≠ [] → ∃ b off, ao = some ⟨b, off, none⟩ ∧ b < w.heap.size ∧ OpsAt w b off l) := ha
  have HB : Hid (l ≠ [] → ∃ b off, bo = some ⟨b, off, none⟩ ∧ b < w.heap.size ∧ OpsAt w b off l) := hb
  have HN : Hid (l.length = n) := hn
  clear ha hb hn
  go_enter Tryd.func7, Tryd.ntmps7
  go_wp2
  go_loopw [5] (fun i wr => ∃ k : Nat, k ≤ n ∧ i = .int .i64 k ∧ ∃ q, wr = w.drewN q) (fun i _ => n - (intOf i).toNat)
  case atStart => exact ⟨0, Nat.zero_le _, rfl, 0, rfl⟩
  case round =>
    obtain ⟨k, hk, rfl, q, rfl⟩ := hrel
    by_cases hlt : k < n
    · have hne : l ≠ [] := by intro h; subst h; have := HN.out; simp at this; omega
      obtain ⟨b, off, rfl, _, hca⟩ := HA.out hne
      obtain ⟨b', off', rfl, _, hcb⟩ := HB.out hne
      obtain ⟨c1, c2⟩ := hca k (by rw [HN.out]; exact hlt)
      obtain ⟨c3, c4⟩ := hcb k (by rw [HN.out]; exact hlt)
      generalize (l.getD k (0, 0)).1 = x at c1 c3
      generalize (l.getD k (0, 0)).2 = y at c2 c4
      clear hca hcb hne
      go_wp2_with fail
      go_quiet (fail)
      go_wp2_with fail
      go_roundw
      case rel => exact ⟨k + 1, by omega, by go_num, _, rfl⟩
      case measure => simp [intOf]; omega
    · go_wp2_with fail
      go_ret
      exact ⟨rfl, q, rfl⟩

set_option maxHeartbeats 3200000 in
set_option maxRecDepth 20000 in
/-- THE CONTRACT OF BeginOf. -/
theorem beginOf_any (va vr pv fv : Value) (m : Mo) (ps : List (List (Int × Int))) (l : List (Int × Int)) (w : World) (hZ : m.vars.length * 40 ≤ 140737488355328) (hp1 : ps.length * 24 ≤ 140737488355328) (hV : TaskV w va vr pv fv m ps l) :
    Calls Tryd.prog 6 #[.agg #[va, vr, pv, fv]] w (BegPost w m ps l) := by
  have hA : ∀ o, Below w.heap.size w (w.alloc o) := fun o => (Below.refl _ _).alloc (Nat.le_refl _) o
  obtain ⟨ao, ac, rfl⟩ := hV.mo.1.shape
  obtain ⟨ro, rc, rfl⟩ := hV.mo.2.shape
  obtain ⟨po, pc, rfl⟩ := hV.ps.shape
  obtain ⟨fo, fc, rfl, _⟩ := id hV.fo
  have hp := taskFault_any _ _ _ _ m ps l _ hp1 (hV.below (hA (.cells #[.slice ao m.vars.length ac, .slice ro m.rules.length rc, .slice po ps.length pc, .slice fo l.length fc] 29)))
  unfold BegPost
  by_cases hc : tkcode m ps l = 0
  · obtain ⟨hp0, hl0⟩ := tk_zero hc
    obtain ⟨hm0, _⟩ := pcode_m hp0
    have h6 := (lcode_zero hl0).2.2.2.2
    have hne := tk_ne hc
    have hnei : (0 : Int) < (l.length : Int) := by omega
    have HFi : Hid (∀ w1, Below w.heap.size w w1 → Calls Tryd.prog 14 #[.agg #[.slice ao m.vars.length ac, .slice ro m.rules.length rc]] w1 fun e w' => e = .returned (.tuple #[.int .i64 (begC m), .int .i64 0]) ∧ Below w1.heap.size w1 w') := fun w1 h => by
      have := rfirst_any _ _ m w1 hZ (hV.mo.below h)
      rw [if_pos hm0, hm0] at this
      exact this
    have HLe : Hid (∀ w1, Below w.heap.size w w1 → Calls Tryd.prog 15 #[.agg #[.slice ao m.vars.length ac, .slice ro m.rules.length rc], .slice po ps.length pc, .int .i64 (begC m)] w1 fun e w' => ∃ lo lc, e = .returned (.tuple #[.slice lo ps.length lc, .int .i64 0]) ∧ Below w1.heap.size w1 w' ∧ Hid (BoolsV w' (.slice lo ps.length lc) (letL m ps (begC m)))) := fun w1 h => by
      refine (rletter_any _ _ _ m ps (begC m) w1 hp1 (hV.mo.below h) (hV.ps.below h)).mono fun e w' ⟨v, h1, h2, h3⟩ => ?_
      obtain ⟨t1, t2⟩ := tk_let hc (tk_beg hc)
      obtain ⟨lo, lc, rfl, hx⟩ := h3
      rw [t2] at h1
      exact ⟨lo, lc, by rw [h1, t1], h2, ⟨lo, lc, by rw [t2], hx⟩⟩
    have HTr : Hid (∀ (k : Nat) (lv : Value) (w1 : World), k < 2 ^ (aheadL l).length → Below w.heap.size w w1 → BoolsV w1 lv (letL m ps (begC m)) → Calls Tryd.prog 17 #[.slice fo l.length fc, lv, .int .i64 (k : Int)] w1 fun e w' => ∃ b off c, e = .returned (.tuple #[.slice (some ⟨b, off, none⟩) l.length c, .int .i64 0]) ∧ Below w1.heap.size w1 w' ∧ w'.cell? ⟨b, off, none⟩ = some (.bool (tru l (letL m ps (begC m)) (k : Int) 0))) := fun k lv w1 hk h hl => by
      refine (rtruths_any _ lv l (letL m ps (begC m)) (k : Int) w1 (hV.fo.below h) hl).mono fun e w' ⟨v, h1, h2, h3⟩ => ?_
      obtain ⟨t1, t2⟩ := tk_tru hc (tk_beg hc) hk
      rw [t2] at h3
      obtain ⟨lo, lc, rfl, hx⟩ := h3
      obtain ⟨b, off, rfl, _, hat⟩ := hx (by intro h0; have := congrArg List.length h0; rw [List.length_map, List.length_range, List.length_nil] at this; omega)
      have c0 := hat 0 (by simpa using hne)
      refine ⟨b, off, lc, by rw [h1, t1]; simp, h2, ?_⟩
      rw [Nat.add_zero] at c0
      rw [c0]
      simp [List.getD_eq_getElem?_getD, hne]
    have HMa : Hid (∀ w1, Below w.heap.size w w1 → Calls Tryd.prog 16 #[.agg #[.slice ao m.vars.length ac, .slice ro m.rules.length rc, .slice po ps.length pc, .slice fo l.length fc]] w1 fun e w' => e = .returned (.int .i64 ((2 ^ (aheadL l).length : Nat) : Int)) ∧ Below w1.heap.size w1 w') := fun w1 h => many_any _ _ _ _ m ps l w1 (hV.below h) hc
    have hq64 : 2 ^ (aheadL l).length ≤ 64 := Nat.pow_le_pow_right (show 0 < 2 by decide) h6
    have HNil : Hid (begTo m ps l 0 = []) := rfl
    have HSt : Hid (∀ k, begTo m ps l (k + 1) = if tru l (letL m ps (begC m)) (k : Int) 0 = true then begTo m ps l k else begTo m ps l k ++ [(begC m, (k : Int))]) := fun k => rfl
    rw [begR_ok hc]
    rw [hc] at hp ⊢
    unfold begL
    generalize begTo m ps l = bg at *
    generalize letL m ps (begC m) = lt at *
    generalize begC m = first at *
    generalize m.vars.length = vn at *
    generalize m.rules.length = rn at *
    generalize ps.length = pn at *
    generalize (aheadL l).length = an at *
    generalize 2 ^ an = N at *
    have HTru : Hid (∀ k : Nat, tru l lt (k : Int) 0 = true ∨ tru l lt (k : Int) 0 = false) := fun k => by cases tru l lt (k : Int) 0 <;> simp
    generalize hfn : l.length = fn at *
    clear hV hc hl0 hp0 hm0 h6 hfn
    have HB : Hid (∀ w1, Below (w.heap.size + 1) (w.alloc (.cells #[.slice ao vn ac, .slice ro rn rc, .slice po pn pc, .slice fo fn fc] 29)) w1 → w1.cell? ⟨w.heap.size, 0, none⟩ = some (.slice ao vn ac) ∧ w1.cell? ⟨w.heap.size, 1, none⟩ = some (.slice ro rn rc) ∧ w1.cell? ⟨w.heap.size, 2, none⟩ = some (.slice po pn pc) ∧ w1.cell? ⟨w.heap.size, 3, none⟩ = some (.slice fo fn fc)) := fun w1 h => ⟨(h.cell (p := ⟨w.heap.size, 0, none⟩) (Nat.lt_succ_self _)).trans (by simp [go_sem]), (h.cell (p := ⟨w.heap.size, 1, none⟩) (Nat.lt_succ_self _)).trans (by simp [go_sem]), (h.cell (p := ⟨w.heap.size, 2, none⟩) (Nat.lt_succ_self _)).trans (by simp [go_sem]), (h.cell (p := ⟨w.heap.size, 3, none⟩) (Nat.lt_succ_self _)).trans (by simp [go_sem])⟩
    go_enter Tryd.func6, Tryd.ntmps6
    go_wp2_with (first
      | (go_at_call 13; refine hp.mono ?_; rintro e w1 ⟨rfl, hb1⟩; have hbw1 := (hA _).trans (hb1.mono (hA _).size); have hk1 : Below (w.heap.size + 1) (w.alloc (.cells #[.slice ao vn ac, .slice ro rn rc, .slice po pn pc, .slice fo fn fc] 29)) w1 := (by simpa using hb1); have hz1 : w.heap.size + 1 ≤ w1.heap.size := (by have := hb1.size; simpa using this); obtain ⟨a0, a1, a2, a3⟩ := HB.out w1 hk1; have hfi := HFi.out w1 hbw1)
      | (go_at_call 14; refine hfi.mono ?_; rintro e w2 ⟨rfl, hb2⟩; have hbw2 := hbw1.trans (hb2.mono hbw1.size); obtain ⟨b0, b1, b2, b3⟩ := HB.out w2 (hk1.trans (hb2.mono hz1)); have hle := HLe.out w2 hbw2)
      | (go_at_call 15; refine hle.mono ?_; rintro e w3 ⟨lo, lc, rfl, hb3, HLv⟩; have hbw3 := hbw2.trans (hb3.mono hbw2.size); have hb23 := hb2.trans (hb3.mono hb2.size); obtain ⟨c0, c1, c2, c3⟩ := HB.out w3 (hk1.trans (hb23.mono hz1)); have hma := HMa.out w3 hbw3)
      | (go_at_call 16; refine hma.mono ?_; rintro e w4 ⟨rfl, hb4⟩; have hbw4 := hbw3.trans (hb4.mono hbw3.size); have hb24 := hb23.trans (hb4.mono hb23.size); have hk4 := hk1.trans (hb24.mono hz1)))
    have HLet : Hid (∀ w5, Below w4.heap.size w4 w5 → BoolsV w5 (.slice lo pn lc) lt) := fun w5 h => (HLv.out.below hb4).below h
    have HF : Hid (∀ w5, Below w4.heap.size w4 w5 → w5.cell? ⟨w.heap.size, 3, none⟩ = some (.slice fo fn fc)) := fun w5 h => (HB.out w5 (hk4.trans (h.mono (Nat.le_trans hz1 hb24.size)))).2.2.2
    clear hp hfi hle hma HFi HLe HMa HB a0 a1 a2 a3 b0 b1 b2 b3 c0 c1 c2 c3 HLv
    go_loopw [10, 11] (fun u i wr => ∃ k : Nat, k ≤ N ∧ i = .int .i64 k ∧ (∃ so sn sc, u = .slice so sn sc ∧ sn ≤ k ∧ Hid ((bg k).length = sn ∧ SpO wr w4.heap.size (.slice so sn sc) (bg k))) ∧ Below w4.heap.size w4 wr) (fun _ i _ => N - (intOf i).toNat)
    case atStart => exact ⟨0, Nat.zero_le _, rfl, ⟨none, 0, 0, rfl, Nat.le_refl _, by rw [HNil.out]; rfl, by rw [HNil.out]; exact SpO.nil _ _⟩, Below.refl _ _⟩
    case round =>
      obtain ⟨k, hk, rfl, ⟨so, sn, sc, rfl, hsn, HSp⟩, hbr3⟩ := hrel
      have hbr := hbw4.trans (hbr3.mono hbw4.size)
      have p3 := HF.out wr hbr3
      by_cases hkN : k < N
      · have htr := HTr.out k _ wr hkN hbr (HLet.out wr hbr3)
        have hst := HSt.out k
        have HSk : Hid (∀ w4', Below wr.heap.size wr w4' → SpO w4' w4.heap.size (.slice so sn sc) (bg k)) := fun w4' h => HSp.out.2.later h (Nat.le_refl _)
        have HSl : Hid ((bg k).length = sn) := HSp.out.1
        rcases HTru.out k with ht | ht
        · rw [ht] at htr hst
          rw [if_pos rfl] at hst
          have HE : Hid (bg (k + 1) = bg k) := hst
          clear hst ht HSp
          go_wp2_with (first | (go_at_call 17; refine htr.mono ?_; rintro e w5 ⟨b, off, c, rfl, hb5, d0⟩; have hbw5 := hbr3.trans (hb5.mono hbr3.size)))
          go_roundw
          case rel => exact ⟨k + 1, by omega, by go_num, ⟨so, sn, sc, rfl, by omega, by rw [HE.out]; exact HSl.out, by rw [HE.out]; exact HSk.out _ hb5⟩, hbw5⟩
          case measure => simp [intOf]; omega
        · rw [ht] at htr hst
          rw [if_neg (by simp)] at hst
          have HE : Hid (bg (k + 1) = bg k ++ [(first, (k : Int))]) := hst
          clear hst ht HSp
          go_wp2_with (first | (go_at_call 17; refine htr.mono ?_; rintro e w5 ⟨b, off, c, rfl, hb5, d0⟩; have hbw5 := hbr3.trans (hb5.mono hbr3.size); have hsp := HSk.out _ hb5; have hs5 := hbw5.size) | (at_builtin; refine push_sp first (k : Int) rfl _ _ rfl w4.heap.size sn sc so (bg k) HSl.out rfl hsp rfl (by omega) hs5 ?_; intro vo6 cap6 w6 ho6 hb6 hg6; have HO6 : Hid (SpO w6 w4.heap.size (.slice vo6 (sn + 1) cap6) (bg k ++ [(first, (k : Int))])) := ho6; have hbw6 := hbw5.trans hb6; clear ho6 hg6 hsp))
          go_roundw
          case rel => exact ⟨k + 1, by omega, by go_num, ⟨vo6, sn + 1, cap6, rfl, by omega, by rw [HE.out, List.length_append, HSl.out]; rfl, by rw [HE.out]; exact HO6.out⟩, hbw6⟩
          case measure => simp [intOf]; omega
      · obtain rfl : k = N := by omega
        have HSl : Hid ((bg k).length = sn) := HSp.out.1
        have HSk : Hid (SpO wr w.heap.size (.slice so sn sc) (bg k)) := owns_mono HSp.out.2 hbw4.size
        clear HSp
        go_wp2_with fail
        go_ret2
        refine ⟨so, sc, by rw [HSl.out]; rfl, hbr, by rw [HSl.out]; exact HSk.out⟩
  · rw [begR_bad hc]
    generalize tkcode m ps l = c at *
    generalize m.vars.length = vn at *
    generalize m.rules.length = rn at *
    generalize ps.length = pn at *
    generalize l.length = fn at *
    clear hV
    go_enter Tryd.func6, Tryd.ntmps6
    go_wp2_with (first | (go_at_call 13; refine hp.mono ?_; rintro e w1 ⟨rfl, hb1⟩; have hbw := (hA _).trans (hb1.mono (hA _).size)))
    go_ret2
    exact ⟨none, 0, rfl, hbw, SpO.nil _ _⟩
end Go.Proofs.YtdlpmomohbdpgaaDoor

/-
  The walk of the law ProductBegins.
-/
namespace Go.Proofs.YtdlpmomohbdpgaaDoor
open Go.ChangeShapes Go.WideShapes Go.ChangeAt Go.RowKit Go.Deep
open Terms Tm

theorem belowN {a : Nat} {w w' : World} (h : Below a w w') (n : Nat) : Below a w (w'.drewN n) := ⟨h.os, h.tape, h.output, h.size, h.block⟩
theorem four_kept {w w' : World} {x0 x1 x2 x3 : Value} {t : TypeId} (h : Below (w.alloc (.cells #[x0, x1, x2, x3] t)).heap.size (w.alloc (.cells #[x0, x1, x2, x3] t)) w') : w'.cell? ⟨w.heap.size, 0, none⟩ = some x0 ∧ w'.cell? ⟨w.heap.size, 1, none⟩ = some x1 ∧ w'.cell? ⟨w.heap.size, 2, none⟩ = some x2 ∧ w'.cell? ⟨w.heap.size, 3, none⟩ = some x3 := ⟨(h.cell (p := ⟨w.heap.size, 0, none⟩) (by simp)).trans (by simp [go_sem]), (h.cell (p := ⟨w.heap.size, 1, none⟩) (by simp)).trans (by simp [go_sem]), (h.cell (p := ⟨w.heap.size, 2, none⟩) (by simp)).trans (by simp [go_sem]), (h.cell (p := ⟨w.heap.size, 3, none⟩) (by simp)).trans (by simp [go_sem])⟩

set_option maxHeartbeats 1600000 in
set_option maxRecDepth 20000 in
theorem productBegins_walk (va vr pv fv : Value) (m : Mo) (ps : List (List (Int × Int))) (l : List (Int × Int)) (w : World) (hB : 0 < w.heap.size) (hT : TabAt w) (hZ : TkSz m ps l) (hV : TaskV w va vr pv fv m ps l) :
    Calls Tryd.prog 3 #[.agg #[va, vr, pv, fv]] w fun e w' => e = .returned (.bool true) ∧ Below w.heap.size w w' := by
  obtain ⟨ao, ac, rfl⟩ := hV.mo.1.shape
  obtain ⟨ro, rc, rfl⟩ := hV.mo.2.shape
  obtain ⟨po, pc, rfl⟩ := hV.ps.shape
  obtain ⟨fo, fc, rfl, _⟩ := id hV.fo
  have HTk : Hid (∀ w1, Below w.heap.size w w1 → Calls Tryd.prog 5 #[.agg #[.slice ao m.vars.length ac, .slice ro m.rules.length rc, .slice po ps.length pc, .slice fo l.length fc]] w1 fun e w' => ∃ ao vn ac ro rn rc po pn pc fo fn fc, e = .returned (.agg #[.slice ao vn ac, .slice ro rn rc, .slice po pn pc, .slice fo fn fc]) ∧ Below w1.heap.size w1 w' ∧ Hid (TaskV w' (.slice ao vn ac) (.slice ro rn rc) (.slice po pn pc) (.slice fo fn fc) m ps l)) := fun w1 h => tasks_any _ _ _ _ m ps l w1 hZ (hV.below h)
  have HCk : Hid (∀ w1 va vr pv fv, Below w.heap.size w w1 → TaskV w1 va vr pv fv m ps l → Calls Tryd.prog 4 #[.agg #[va, vr, pv, fv]] w1 (BegPost w1 m ps l)) := fun w1 va vr pv fv h hv => pbegin_any va vr pv fv m ps l w1 (Nat.lt_of_lt_of_le hB h.size) (hT.below h hB) hv
  have HRf : Hid (∀ w1, Below w.heap.size w w1 → Calls Tryd.prog 6 #[.agg #[.slice ao m.vars.length ac, .slice ro m.rules.length rc, .slice po ps.length pc, .slice fo l.length fc]] w1 (BegPost w1 m ps l)) := fun w1 h => beginOf_any _ _ _ _ m ps l w1 hZ.mo.1 hZ.p1 (hV.below h)
  have HSm : Hid (∀ (a b : Value) (w1 : World), SpV w1 a (begR m ps l) → SpV w1 b (begR m ps l) → Calls Tryd.prog 7 #[a, b] w1 fun e w' => e = .returned (.bool true) ∧ ∃ n, w' = w1.drewN n) := fun a b w1 h1 h2 => sameSpots_true a b _ w1 (by have := begR_len m ps l; omega) h1 h2
  have hA : ∀ o, Below w.heap.size w (w.alloc o) := fun o => (Below.refl _ _).alloc (Nat.le_refl _) o
  unfold BegPost at HCk HRf
  generalize begR m ps l = bg at *
  generalize tkcode m ps l = x at *
  generalize bg.length = bn at *
  generalize m.vars.length = vn at *
  generalize m.rules.length = rn at *
  generalize ps.length = pn at *
  generalize l.length = fn at *
  clear hV hZ hT
  have htk := HTk.out _ (hA (.cells #[.slice ao vn ac, .slice ro rn rc, .slice po pn pc, .slice fo fn fc] 29))
  go_enter Tryd.func3, Tryd.ntmps3
  go_wp2_with (first
    | (go_at_call 5; refine htk.mono ?_; rintro e w1 ⟨a1, n1, c1, a2, n2, c2, a3, n3, c3, a4, n4, c4, rfl, hb1, HV1⟩; have hbw1 := (hA _).trans (hb1.mono (hA _).size); have hck := HCk.out _ _ _ _ _ hbw1 HV1.out)
    | (go_at_call 4; refine hck.mono ?_; rintro e w2 ⟨so, sc, rfl, hb2, HO⟩; have hbw2 := hbw1.trans (hb2.mono hbw1.size); have q2 := four_kept (hb1.trans (hb2.mono hb1.size)); obtain ⟨k0, k1, k2, k3⟩ := q2; have hrf := HRf.out w2 hbw2)
    | (go_at_call 6; refine hrf.mono ?_; rintro e w3 ⟨so', sc', rfl, hb3, HO'⟩; have hbw3 := hbw2.trans (hb3.mono hbw2.size); have hsm := HSm.out _ _ w3 (HO.out.v.below hb3) HO'.out.v)
    | (go_at_call 7; refine hsm.mono ?_; rintro e w4 ⟨rfl, q, rfl⟩))
  go_ret
  exact ⟨by first | rfl | simp, belowN hbw3 q⟩
end Go.Proofs.YtdlpmomohbdpgaaDoor
