/-
  Joined out of WordM, KeepForm, Letters, Concat, WCheck, WLaw, WLaw2, Codes0, WSettle, LogicOp, LogicRead, WFill0, LogicParts, LogicBack, LogicRound, BackBy, WFill1, LogicAh, WFill, WMom, BoolsOf, LettersOf, KeepWord, KeepHolds, PCheck, in their order: a claim bears at most so many files.
-/
import Derived.Test.YtafbnmiipfkohaaGreatDoorLateA
import Derived.Lib.AppendZeros
import Derived.Deep.RegionHeld3
import Derived.Laws.EntriesVeiled
import Derived.Test.YtafbnmiipfkohaaGreatDoorMem
import Derived.Test.YtafbnmiipfkohaaGreatDoorCodes
import Derived.Test.YtafbnmiipfkohaaGreatDoorEndsV
import Derived.Deep.AppendLies
import Derived.RangeFuncNested
import Derived.RangeFuncBound
import Derived.RangeFuncCalls
import Derived.RangeFuncLeaves
import Derived.Shelf.Abstract
import Derived.Shelf.RegionOpen
import Derived.WalkKit
import Derived.OwnWalkIn
import Derived.TacticsInMore
import Derived.LoopNIn
import Derived.LoopIn
import Derived.Test.YtafbnmiipfkohaaGreatDoorRow
import Derived.Lib.SmallJoins
import Derived.Test.YtafbnmiipfkohaaGreatDoorGrown3
/-
  Words as a stem and a loop: plain mathematics.
-/
namespace Go.Proofs.YtafbnmiipfkohaaGreatDoor.Terms

/-- which moment of stem and loop one that is further is. -/
def moAt (s n i : Nat) : Nat := if i < n then i else s + (i - s) % (n - s)
set_option maxRecDepth 20000 in
theorem moAt_low {s n i : Nat} (h : i < n) : moAt s n i = i := by unfold moAt; rw [if_pos h]
set_option maxRecDepth 20000 in
theorem moAt_lt {s n i : Nat} (h : s < n) : moAt s n i < n := by
  unfold moAt
  split
  · assumption
  · have := Nat.mod_lt (i - s) (show 0 < n - s by omega)
    omega
set_option maxRecDepth 20000 in
theorem moAt_back {s n i : Nat} (hs : s < n) (h : n ≤ i) : moAt s n i = moAt s n (i - (n - s)) := by
  have hm : (i - s) % (n - s) = (i - (n - s) - s) % (n - s) := by
    rw [show i - s = (i - (n - s) - s) + (n - s) by omega, Nat.add_mod_right]
  unfold moAt
  rw [if_neg (by omega), hm]
  split
  · rw [Nat.mod_eq_of_lt (by omega)]; omega
  · rfl
set_option maxRecDepth 20000 in
theorem moAt_per {s n i : Nat} (hs : s < n) (h : s ≤ i) : moAt s n (i + (n - s)) = moAt s n i := by
  rw [moAt_back hs (by omega), show i + (n - s) - (n - s) = i by omega]
/-- the word without an end. -/
def sig (ls : List (List Bool)) (s : Nat) (i v : Nat) : Bool := (ls.getD (moAt s ls.length i) []).getD v false
set_option maxRecDepth 20000 in
theorem sig_per {ls : List (List Bool)} {s : Nat} (hs : s < ls.length) : Tm.Per (sig ls s) s (ls.length - s) := fun i hi => by funext v; unfold sig; rw [moAt_per hs hi]
set_option maxRecDepth 20000 in
theorem hb_mo {ls : List (List Bool)} {s : Nat} (hs : s < ls.length) (t : Tm) : ∀ i, t.hb (sig ls s) (moAt s ls.length i) = t.hb (sig ls s) i := by
  intro i
  induction i using Nat.strongRecOn with
  | ind i ih =>
    by_cases h : i < ls.length
    · rw [moAt_low h]
    · rw [moAt_back hs (by omega), ih _ (by omega)]
      have := Tm.hb_per (sig_per hs) t (i := i - (ls.length - s)) (by omega)
      rw [← this, show i - (ls.length - s) + (ls.length - s) = i by omega]

namespace Tm
/-- what makes a term hold at once. -/
noncomputable def uT (σ : Nat → Nat → Bool) : Tm → Nat → Bool
  | leaf k v => fun i => hb σ (leaf k v) i
  | un k v a => fun i => if k = 17 then hb σ a i else if k = 18 then false else hb σ (un k v a) i
  | bi k v a b => fun i => if k = 15 then hb σ b i else if k = 16 then hb σ a i && hb σ b i else hb σ (bi k v a b) i
/-- what lets it wait for the next moment. -/
noncomputable def vT (σ : Nat → Nat → Bool) : Tm → Nat → Bool
  | leaf _ _ => fun _ => false
  | un k _ a => fun i => if k = 17 then true else if k = 18 then hb σ a i else false
  | bi k _ a b => fun i => if k = 15 then hb σ a i else if k = 16 then hb σ b i else false
def dT (k : Int) : Bool := decide (k = 18 ∨ k = 16)
set_option maxRecDepth 20000 in
theorem untB_plain (u : Nat → Bool) (i : Nat) : untB u (fun _ => false) false i = u i := by rw [untB_step]; simp
set_option maxRecDepth 20000 in
theorem uT_per {σ : Nat → Nat → Bool} {s L : Nat} (h : Per σ s L) (t : Tm) {i : Nat} (hi : s ≤ i) : uT σ t (i + L) = uT σ t i := by
  cases t with
  | leaf k v => exact hb_per h _ hi
  | un k v a => simp only [uT]; rw [hb_per h _ hi, hb_per h _ hi]
  | bi k v a b => simp only [uT]; rw [hb_per h _ hi, hb_per h _ hi, hb_per h _ hi]
set_option maxRecDepth 20000 in
theorem vT_per {σ : Nat → Nat → Bool} {s L : Nat} (h : Per σ s L) (t : Tm) {i : Nat} (hi : s ≤ i) : vT σ t (i + L) = vT σ t i := by
  cases t with
  | leaf k v => rfl
  | un k v a => simp only [vT]; rw [hb_per h _ hi]
  | bi k v a b => simp only [vT]; rw [hb_per h _ hi, hb_per h _ hi]
set_option maxRecDepth 20000 in
/-- EACH TERM HOLDS BY ITS LAW. -/
theorem hb_unt (σ : Nat → Nat → Bool) {t : Tm} (hw : t.Wf) (i : Nat) : hb σ t i = untB (uT σ t) (vT σ t) (dT t.kind) i := by
  cases t with
  | leaf k v =>
    have hk : dT k = false := by
      obtain ⟨_, h2⟩ := hw
      simp only [dT, decide_eq_false_iff_not]
      rintro (rfl | rfl) <;> exact absurd h2 (by decide)
    show _ = untB _ (fun _ => false) (dT k) i
    rw [hk, untB_plain]
    rfl
  | un k v a =>
    by_cases h17 : k = 17
    · subst h17; rw [hb_fin]; rfl
    · by_cases h18 : k = 18
      · subst h18; rw [hb_glob]; rfl
      · have hk : dT k = false := by
          obtain ⟨_, h2, _⟩ := hw
          simp only [dT, decide_eq_false_iff_not]
          rintro (rfl | rfl)
          · exact h18 rfl
          · exact absurd h2 (by decide)
        have e1 : uT σ (un k v a) = hb σ (un k v a) := by funext j; simp only [uT]; rw [if_neg h17, if_neg h18]
        have e2 : vT σ (un k v a) = fun _ => false := by funext j; simp only [vT]; rw [if_neg h17, if_neg h18]
        rw [e1, e2]
        show _ = untB _ _ (dT k) i
        rw [hk, untB_plain]
  | bi k v a b =>
    by_cases h15 : k = 15
    · subst h15; rw [hb_until]; rfl
    · by_cases h16 : k = 16
      · subst h16; rw [hb_rel]; rfl
      · have hk : dT k = false := by
          obtain ⟨_, h2, _⟩ := hw
          simp only [dT, decide_eq_false_iff_not]
          rintro (rfl | rfl)
          · exact absurd h2 (by decide)
          · exact h16 rfl
        have e1 : uT σ (bi k v a b) = hb σ (bi k v a b) := by funext j; simp only [uT]; rw [if_neg h15, if_neg h16]
        have e2 : vT σ (bi k v a b) = fun _ => false := by funext j; simp only [vT]; rw [if_neg h15, if_neg h16]
        rw [e1, e2]
        show _ = untB _ _ (dT k) i
        rw [hk, untB_plain]
end Tm

/-! ### what Check answers -/
def letBad (props : Int) (ls : List (List Bool)) : Bool := ls.any fun l => decide ((l.length : Int) ≠ props)
def wdcode (props : Int) (ss ll : List (List Bool)) : Int :=
  if props < 0 ∨ 6 < props then 2 else if 12 < ss.length ∨ ll.length < 1 ∨ 12 < ll.length then 1 else if letBad props (ss ++ ll) = true then 3 else 0
set_option maxRecDepth 20000 in
theorem wcode_range {props : Int} {ss ll : List (List Bool)} (h : props < 0 ∨ 6 < props) : wdcode props ss ll = 2 := by unfold wdcode; rw [if_pos h]
set_option maxRecDepth 20000 in
theorem wcode_size {props : Int} {ss ll : List (List Bool)} (h : ¬ (props < 0 ∨ 6 < props)) (h2 : 12 < ss.length ∨ ll.length < 1 ∨ 12 < ll.length) : wdcode props ss ll = 1 := by unfold wdcode; rw [if_neg h, if_pos h2]
set_option maxRecDepth 20000 in
theorem wcode_form {props : Int} {ss ll : List (List Bool)} (h : ¬ (props < 0 ∨ 6 < props)) (h2 : ¬ (12 < ss.length ∨ ll.length < 1 ∨ 12 < ll.length)) (h3 : letBad props (ss ++ ll) = true) : wdcode props ss ll = 3 := by unfold wdcode; rw [if_neg h, if_neg h2, if_pos h3]
set_option maxRecDepth 20000 in
theorem wcode_ok {props : Int} {ss ll : List (List Bool)} (h : ¬ (props < 0 ∨ 6 < props)) (h2 : ¬ (12 < ss.length ∨ ll.length < 1 ∨ 12 < ll.length)) (h3 : letBad props (ss ++ ll) = false) : wdcode props ss ll = 0 := by unfold wdcode; rw [if_neg h, if_neg h2, if_neg (by rw [h3]; decide)]
set_option maxRecDepth 20000 in
theorem letBad_at {props : Int} {ls : List (List Bool)} {i : Nat} (hi : i < ls.length) (h : ((ls.getD i []).length : Int) ≠ props) : letBad props ls = true := by
  unfold letBad
  rw [List.any_eq_true]
  refine ⟨ls.getD i [], ?_, by simpa using h⟩
  rw [List.getD_eq_getElem?_getD, List.getElem?_eq_getElem hi]
  exact List.getElem_mem hi
set_option maxRecDepth 20000 in
theorem letBad_none {props : Int} {ls : List (List Bool)} (h : ∀ i, i < ls.length → ((ls.getD i []).length : Int) = props) : letBad props ls = false := by
  unfold letBad
  rw [List.any_eq_false]
  intro l hl
  obtain ⟨i, hi, rfl⟩ := List.getElem_of_mem hl
  have := h i hi
  rw [List.getD_eq_getElem?_getD, List.getElem?_eq_getElem hi] at this
  simpa using this
set_option maxRecDepth 20000 in
theorem wcode_zero {props : Int} {ss ll : List (List Bool)} (h : wdcode props ss ll = 0) : (0 ≤ props ∧ props ≤ 6) ∧ ss.length ≤ 12 ∧ 1 ≤ ll.length ∧ ll.length ≤ 12 ∧ ∀ i, i < (ss ++ ll).length → (((ss ++ ll).getD i []).length : Int) = props := by
  by_cases hr : props < 0 ∨ 6 < props
  · rw [wcode_range hr] at h; omega
  · by_cases hs : 12 < ss.length ∨ ll.length < 1 ∨ 12 < ll.length
    · rw [wcode_size hr hs] at h; omega
    · cases hb : letBad props (ss ++ ll) with
      | true => rw [wcode_form hr hs hb] at h; omega
      | false =>
        refine ⟨by omega, by omega, by omega, by omega, fun i hi => ?_⟩
        exact Classical.byContradiction fun hn => by rw [letBad_at hi hn] at hb; cases hb
end Go.Proofs.YtafbnmiipfkohaaGreatDoor.Terms

/-
  Formulas that are grown, and joined ones, pass; their trees.
-/
namespace Go.Proofs.YtafbnmiipfkohaaGreatDoor
open Terms

/-- a formula that passes, over three propositions: its tree, and how many of its ops look ahead. -/
structure FOk (m : Nat) (t : List (Int × Int)) (T : Tm) : Prop where
  ops : T.ops = t
  wf : T.Wf
  good : ∀ o, o ∈ t → lopErr 3 o = 0
  many : (t.filter fun o => lookB o.1).length = m
set_option maxRecDepth 20000 in
theorem FOk.not {m : Nat} {t : List (Int × Int)} {T : Tm} (h : FOk m t T) : FOk m ((10, 0) :: t) (.un 10 0 T) := by
  obtain ⟨h1, h2, h3, h4⟩ := h
  refine ⟨by simp [Tm.ops, h1], ⟨by decide, by decide, h2⟩, fun o ho => ?_, ?_⟩
  · rcases List.mem_cons.1 ho with rfl | ho
    · rfl
    · exact h3 o ho
  · rw [List.filter_cons, if_neg (by decide)]; exact h4
set_option maxRecDepth 20000 in
theorem FOk.tun {m : Nat} {k : Int} {t : List (Int × Int)} {T : Tm} (hk : k = 14 ∨ k = 17 ∨ k = 18) (h : FOk m t T) : FOk (m + 1) ((k, 0) :: t) (.un k 0 T) := by
  obtain ⟨h1, h2, h3, h4⟩ := h
  refine ⟨by simp [Tm.ops, h1], ?_, fun o ho => ?_, ?_⟩
  · rcases hk with rfl | rfl | rfl <;> exact ⟨by decide, by decide, h2⟩
  · rcases List.mem_cons.1 ho with rfl | ho
    · rcases hk with rfl | rfl | rfl <;> rfl
    · exact h3 o ho
  · rw [List.filter_cons, if_pos (by rcases hk with rfl | rfl | rfl <;> decide), List.length_cons, h4]
set_option maxRecDepth 20000 in
theorem FOk.bin {m n : Nat} {k : Int} {t s : List (Int × Int)} {T S : Tm} (h8 : 8 ≤ k) (h9 : k ≤ 9) (h : FOk m t T) (g : FOk n s S) : FOk (m + n) ((k, 0) :: (t ++ s)) (.bi k 0 T S) := by
  obtain ⟨h1, h2, h3, h4⟩ := h
  obtain ⟨g1, g2, g3, g4⟩ := g
  have hk : k = 8 ∨ k = 9 := by omega
  refine ⟨by simp [Tm.ops, h1, g1], ?_, fun o ho => ?_, ?_⟩
  · rcases hk with rfl | rfl <;> exact ⟨by decide, by decide, h2, g2⟩
  · rcases List.mem_cons.1 ho with rfl | ho
    · rcases hk with rfl | rfl <;> rfl
    · rcases List.mem_append.1 ho with ho | ho
      · exact h3 o ho
      · exact g3 o ho
  · rw [List.filter_cons, if_neg (by rcases hk with rfl | rfl <;> decide), List.filter_append, List.length_append, h4, g4]
set_option maxRecDepth 20000 in
theorem FOk.tbi {m n : Nat} {k : Int} {t s : List (Int × Int)} {T S : Tm} (h8 : 15 ≤ k) (h9 : k ≤ 16) (h : FOk m t T) (g : FOk n s S) : FOk (m + n + 1) ((k, 0) :: (t ++ s)) (.bi k 0 T S) := by
  obtain ⟨h1, h2, h3, h4⟩ := h
  obtain ⟨g1, g2, g3, g4⟩ := g
  have hk : k = 15 ∨ k = 16 := by omega
  refine ⟨by simp [Tm.ops, h1, g1], ?_, fun o ho => ?_, ?_⟩
  · rcases hk with rfl | rfl <;> exact ⟨by decide, by decide, h2, g2⟩
  · rcases List.mem_cons.1 ho with rfl | ho
    · rcases hk with rfl | rfl <;> rfl
    · rcases List.mem_append.1 ho with ho | ho
      · exact h3 o ho
      · exact g3 o ho
  · rw [List.filter_cons, if_pos (by rcases hk with rfl | rfl <;> decide), List.length_cons, List.filter_append, List.length_append, h4, g4]
set_option maxRecDepth 20000 in
theorem FOk.yes : FOk 0 [(11, 0)] (.leaf 11 0) := ⟨rfl, ⟨by decide, by decide⟩, fun o ho => by
  obtain rfl : o = (11, 0) := by simpa using ho
  rfl, by decide⟩
set_option maxRecDepth 20000 in
theorem ForT.ok {m : Nat} {t : List (Int × Int)} (h : ForT 3 m t) : ∃ T, FOk m t T := by
  induction h with
  | prop v h0 h1 =>
    refine ⟨.leaf 13 v, rfl, ⟨by decide, by decide⟩, fun o ho => ?_, by rw [List.filter_cons, if_neg (by show ¬ lookB 13 = true; decide)]; rfl⟩
    obtain rfl : o = (13, v) := by simpa using ho
    unfold lopErr
    rw [if_neg (by show ¬ (13 : Int) < 8; decide), if_neg (by simp; omega)]
  | not m a _ ih => obtain ⟨T, hT⟩ := ih; exact ⟨_, hT.not⟩
  | bin m n k a b h8 h9 _ _ iha ihb => obtain ⟨A, hA⟩ := iha; obtain ⟨B, hB⟩ := ihb; exact ⟨_, hA.bin h8 h9 hB⟩
  | tun m k a hk _ ih => obtain ⟨T, hT⟩ := ih; exact ⟨_, hT.tun hk⟩
  | tbi m n k a b h8 h9 _ _ iha ihb => obtain ⟨A, hA⟩ := iha; obtain ⟨B, hB⟩ := ihb; exact ⟨_, hA.tbi h8 h9 hB⟩
set_option maxRecDepth 20000 in
theorem ForT.ne {props : Int} {m : Nat} {t : List (Int × Int)} (h : ForT props m t) : t ≠ [] := by cases h <;> simp

set_option maxRecDepth 20000 in
theorem ahead_count (l : List (Int × Int)) : ∀ n, n ≤ l.length → (aheadTo l n).length = ((l.take n).filter fun o => lookB o.1).length := by
  intro n
  induction n with
  | zero => intro _; rfl
  | succ n ih =>
    intro hn
    rw [List.take_succ_eq_append_getElem (by omega), List.filter_append, List.length_append, ← ih (by omega)]
    simp only [aheadTo, List.length_append]
    congr 1
    rw [List.getD_eq_getElem?_getD, List.getElem?_eq_getElem (by omega), Option.getD_some, List.filter_cons]
    cases lookB (l[n]).1 <;> simp
set_option maxRecDepth 20000 in
theorem FOk.ahead {m : Nat} {t : List (Int × Int)} {T : Tm} (h : FOk m t T) : (aheadL t).length = m := by
  unfold aheadL
  rw [ahead_count t t.length (Nat.le_refl _), List.take_length, h.many]
set_option maxRecDepth 20000 in
theorem FOk.size {m : Nat} {t : List (Int × Int)} {T : Tm} (h : FOk m t T) : T.size = t.length := by rw [← Tm.ops_length, h.ops]
set_option maxRecDepth 20000 in
theorem FOk.ends {m : Nat} {t : List (Int × Int)} {T : Tm} (h : FOk m t T) (hl : t.length ≤ 60) : endsCode (t.map Prod.fst) = 0 := by
  have h1 := Tm.one h.wf
  rw [h.ops] at h1
  unfold endsCode
  rw [List.length_map, if_neg (by have := h.size; have := T.size_pos; omega), h1, h.size]
  simp
set_option maxRecDepth 20000 in
theorem FOk.code {m : Nat} {t : List (Int × Int)} {T : Tm} (h : FOk m t T) (hl : t.length ≤ 60) (hm : m ≤ 6) : lcode 3 t = 0 := by
  rw [lcode_many (by omega) (h.ends hl) (lfirst_none fun j hj => h.good _ (by rw [List.getD_eq_getElem?_getD, List.getElem?_eq_getElem hj, Option.getD_some]; exact List.getElem_mem hj)), h.ahead, if_neg (by omega)]

/-- a word that passes, over three propositions. -/
structure WOk (ss ll : List (List Bool)) : Prop where
  stem : ss.length ≤ 5
  one : 1 ≤ ll.length
  loop : ll.length ≤ 5
  s3 : ∀ x, x ∈ ss → x.length = 3
  l3 : ∀ x, x ∈ ll → x.length = 3
set_option maxRecDepth 20000 in
theorem wcode_three {ss ll : List (List Bool)} (h1 : ss.length ≤ 12) (h2 : 1 ≤ ll.length) (h3 : ll.length ≤ 12) (hs : ∀ x, x ∈ ss → x.length = 3) (hl : ∀ x, x ∈ ll → x.length = 3) : wdcode 3 ss ll = 0 := by
  refine wcode_ok (by omega) (by omega) (letBad_none fun i hi => ?_)
  have hm : (ss ++ ll).getD i [] ∈ ss ++ ll := by rw [List.getD_eq_getElem?_getD, List.getElem?_eq_getElem hi, Option.getD_some]; exact List.getElem_mem hi
  rcases List.mem_append.1 hm with h | h
  · rw [hs _ h]; rfl
  · rw [hl _ h]; rfl
set_option maxRecDepth 20000 in
theorem WOk.code {ss ll : List (List Bool)} (h : WOk ss ll) : wdcode 3 ss ll = 0 := wcode_three (by have := h.stem; omega) h.one (by have := h.loop; omega) h.s3 h.l3
end Go.Proofs.YtafbnmiipfkohaaGreatDoor

/-
  Lists of letters as they lie in memory.
-/
namespace Go.Proofs.YtafbnmiipfkohaaGreatDoor
open Go.ChangeShapes Go.WideShapes Go.ChangeAt Go.RowKit Go.Deep
open Terms

def nilV : Value := .slice none 0 0
/-- values that hold letters. -/
def LetsU (w : World) (us : List Value) (ls : List (List Bool)) : Prop := us.length = ls.length ∧ ∀ i, i < ls.length → BoolsV w (us.getD i nilV) (ls.getD i [])
set_option maxRecDepth 20000 in
theorem LetsU.below {w w' : World} {us : List Value} {ls : List (List Bool)} (h : LetsU w us ls) (hb : Below w.heap.size w w') : LetsU w' us ls := ⟨h.1, fun i hi => (h.2 i hi).below hb⟩
set_option maxRecDepth 20000 in
theorem LetsU.nil (w : World) : LetsU w [] [] := ⟨rfl, fun i hi => by simp at hi⟩
set_option maxRecDepth 20000 in
theorem getD_app {α : Type} (a b : List α) (d : α) (i : Nat) : (a ++ b).getD i d = if i < a.length then a.getD i d else b.getD (i - a.length) d := by
  by_cases h : i < a.length
  · rw [if_pos h]; simp [List.getD_eq_getElem?_getD, List.getElem?_append_left h]
  · rw [if_neg h]; simp [List.getD_eq_getElem?_getD, List.getElem?_append_right (Nat.le_of_not_lt h)]
set_option maxRecDepth 20000 in
theorem LetsU.append {w : World} {us us' : List Value} {ls ls' : List (List Bool)} (h : LetsU w us ls) (h' : LetsU w us' ls') : LetsU w (us ++ us') (ls ++ ls') := by
  refine ⟨by simp [h.1, h'.1], fun i hi => ?_⟩
  rw [getD_app, getD_app, h.1]
  split
  · rename_i hl; exact h.2 i hl
  · rename_i hl; exact h'.2 _ (by simp at hi; omega)
set_option maxRecDepth 20000 in
theorem LetsU.one {w : World} {us : List Value} {ls : List (List Bool)} (h : LetsU w us ls) : ∀ u ∈ us, u.oneCell' = true := by
  intro u hu
  obtain ⟨i, hi, rfl⟩ := List.getElem_of_mem hu
  have := h.2 i (by rw [← h.1]; exact hi)
  obtain ⟨ao, cap, hv, _⟩ := this
  rw [List.getD_eq_getElem?_getD, List.getElem?_eq_getElem hi] at hv
  simp only [Option.getD_some] at hv
  rw [hv]; rfl
/-- A VALUE THAT HOLDS LETTERS. -/
def LettersV (w : World) (v : Value) (ls : List (List Bool)) : Prop := ∃ us ao cap, v = .slice ao ls.length cap ∧ (ao = none → cap = 0 ∧ ls = []) ∧ LetsU w us ls ∧ (ls ≠ [] → ∃ b off, ao = some ⟨b, off, none⟩ ∧ b < w.heap.size ∧ ∀ i, i < ls.length → w.cell? ⟨b, off + i, none⟩ = some (us.getD i nilV))
set_option maxRecDepth 20000 in
theorem LettersV.below {w w' : World} {v : Value} {ls : List (List Bool)} (h : LettersV w v ls) (hb : Below w.heap.size w w') : LettersV w' v ls := by
  obtain ⟨us, ao, cap, rfl, h0, hu, h⟩ := h
  refine ⟨us, ao, cap, rfl, h0, hu.below hb, fun hne => ?_⟩
  obtain ⟨b, off, rfl, hlt, hat⟩ := h hne
  exact ⟨b, off, rfl, Nat.lt_of_lt_of_le hlt hb.size, fun i hi => (hb.cell (p := ⟨b, _, none⟩) hlt).trans (hat i hi)⟩
set_option maxRecDepth 20000 in
theorem LettersV.shape {w : World} {v : Value} {ls : List (List Bool)} (h : LettersV w v ls) : ∃ ao cap, v = .slice ao ls.length cap := by
  obtain ⟨_, ao, cap, rfl, _⟩ := h; exact ⟨_, _, rfl⟩
set_option maxRecDepth 20000 in
theorem LettersV.at {w : World} {ao : Option Addr} {cap n : Nat} {ls : List (List Bool)} (h : LettersV w (.slice ao n cap) ls) {i : Nat} (hi : i < ls.length) : ∃ b off, ao = some ⟨b, off, none⟩ ∧ b < w.heap.size ∧ ∃ u, w.cell? ⟨b, off + i, none⟩ = some u ∧ BoolsV w u (ls.getD i []) := by
  obtain ⟨us, ao', cap', hv, _, hu, h⟩ := h
  injection hv with e1 e2 e3
  subst e1
  obtain ⟨b, off, e, hlt, hat⟩ := h (by rintro rfl; simp at hi)
  exact ⟨b, off, e, hlt, _, hat i hi, hu.2 i hi⟩
set_option maxRecDepth 20000 in
/-- a row that the call owns holds letters. -/
theorem lettersV_of_owns {w : World} {base : Nat} {v : Value} {us : List Value} {ls : List (List Bool)} (h : w.ownsRow base 58 1 v us.length us) (hu : LetsU w us ls) : LettersV w v ls := by
  have hlen := hu.1
  rcases h.2 with ⟨rfl, h0⟩ | ⟨g, cap, cur, rfl, hb, hg, hnc, hcm, hcs, htake⟩
  · have : ls = [] := List.length_eq_zero_iff.1 (by omega)
    subst this
    exact ⟨us, none, 0, rfl, fun _ => ⟨rfl, rfl⟩, hu, fun h => absurd rfl h⟩
  · refine ⟨us, _, cap, by rw [hlen], fun h => by simp at h, hu, fun _ => ⟨g, 0, rfl, (Array.getElem?_eq_some_iff.1 hg).1, fun i hi => ?_⟩⟩
    rw [Nat.zero_add, h.cellAt i (by omega)]
    simp [List.getD_eq_getElem?_getD, show i < us.length by omega]
set_option maxRecDepth 20000 in
theorem infoBools : (Tryz.prog.info? 58).map (fun i => (i.zero, i.size, i.bytes)) = some (some (.slice none 0 0), 1, 24) := by kernel_rfl
end Go.Proofs.YtafbnmiipfkohaaGreatDoor

/-
  The library's slices.Grow and slices.Concat at lists of letters.
-/
namespace Go.Proofs.YtafbnmiipfkohaaGreatDoor
open Go.ChangeShapes Go.WideShapes Go.ChangeAt Go.RowKit Go.Deep
open Terms

/-- what stands in the row ahead of each list. -/
def accL (ss ll : List (List Bool)) (k : Nat) : List (List Bool) := if k = 0 then [] else if k = 1 then ss else ss ++ ll
def zL (a b : Nat) (k : Nat) : Int := if k = 0 then 0 else if k = 1 then (a : Int) else (a : Int) + (b : Int)
set_option maxRecDepth 20000 in
/-- the list of this number. -/
theorem concat_at {w0 w : World} {g : Nat} {so lo : Option Addr} {sn ln sc lc : Nat} {ss ll : List (List Bool)} (hsn : sn = ss.length) (hln : ln = ll.length) (h1 : sn ≤ 12) (h2 : ln ≤ 12) (hS : LettersV w0 (.slice so sn sc) ss) (hL : LettersV w0 (.slice lo ln lc) ll) (c0 : w.cell? ⟨g, 0, none⟩ = some (.slice so sn sc)) (c1 : w.cell? ⟨g, 1, none⟩ = some (.slice lo ln lc)) {k : Nat} (hk : k < 2) :
    ∃ xo xn xc xl, w.cell? ⟨g, k, none⟩ = some (.slice xo xn xc) ∧ zL sn ln (k + 1) = zL sn ln k + (xn : Int) ∧ 0 ≤ zL sn ln k ∧ zL sn ln k ≤ 12 ∧ xn ≤ 12 ∧ xn = xl.length ∧ accL ss ll (k + 1) = accL ss ll k ++ xl ∧ (accL ss ll k).length ≤ 12 ∧ LettersV w0 (.slice xo xn xc) xl := by
  have hk2 : k = 0 ∨ k = 1 := by omega
  rcases hk2 with rfl | rfl
  · exact ⟨so, sn, sc, ss, c0, by simp [zL], by simp [zL], by simp [zL], h1, hsn, by simp [accL], by simp [accL], hS⟩
  · exact ⟨lo, ln, lc, ll, c1, by simp [zL], by simp [zL], by simp [zL]; omega, h2, hln, by simp [accL], by simp [accL]; omega, hL⟩
set_option maxRecDepth 20000 in
theorem lets_cells {w : World} {b off : Nat} {us : List Value} {xl : List (List Bool)} (hu : LetsU w us xl) (h : ∀ i, i < xl.length → w.cell? ⟨b, off + i, none⟩ = some (us.getD i nilV)) : ∀ j u, us[j]? = some u → w.cell? ((⟨b, off, none⟩ : Addr).add j) = some u := by
  intro j u hj
  have hlt := (List.getElem?_eq_some_iff.1 hj).1
  rw [Go.WideShapes.add_plain, h j (by rw [← hu.1]; exact hlt), List.getD_eq_getElem?_getD, hj]
  rfl

end Go.Proofs.YtafbnmiipfkohaaGreatDoor

/-
  The contract of word.Check.
-/
namespace Go.Proofs.YtafbnmiipfkohaaGreatDoor
open Go.ChangeShapes Go.WideShapes Go.ChangeAt Go.RowKit Go.Deep
open Terms

end Go.Proofs.YtafbnmiipfkohaaGreatDoor

/-
  The laws that word's table hands out: the contracts of after, law and its functions.
-/
namespace Go.Proofs.YtafbnmiipfkohaaGreatDoor
open Go.ChangeShapes Go.WideShapes Go.ChangeAt Go.RowKit Go.Deep
open Terms

/-- what the laws stand on: the boxes of the table and of the place, and what lies behind them. -/
structure TabIn (w : World) (bt bp b off n cap B : Nat) (aao : Option Addr) (an ac lb m lcap s R p : Nat) (l : List (Int × Int)) (ls : List (List Bool)) (h : Nat → Nat → Bool) : Prop where
  c0 : w.cell? ⟨bt, 0, none⟩ = some (.slice (some ⟨b, off, none⟩) n cap)
  c1 : w.cell? ⟨bt, 1, none⟩ = some (.slice (some ⟨B, 0, none⟩) n n)
  c2 : w.cell? ⟨bt, 2, none⟩ = some (.slice aao an ac)
  c3 : w.cell? ⟨bt, 3, none⟩ = some (.slice (some ⟨lb, 0, none⟩) m lcap)
  c4 : w.cell? ⟨bt, 4, none⟩ = some (.int .i64 (s : Int))
  c5 : w.cell? ⟨bt, 5, none⟩ = some (.slice (some ⟨R, 0, none⟩) n n)
  cp : w.cell? ⟨bp, 0, none⟩ = some (.int .i64 (p : Int))
  ends : ∀ j, j < n → w.cell? ⟨B, j, none⟩ = some (.int .i64 (endAt (l.map Prod.fst) j : Int))
  lets : LettersV w (.slice (some ⟨lb, 0, none⟩) m lcap) ls
  rows : ∀ q, p < q → q < n → ∃ rb ro rc, w.cell? ⟨R, q, none⟩ = some (.slice (some ⟨rb, ro, none⟩) m rc) ∧ rb < w.heap.size ∧ ∀ j, j < m → w.cell? ⟨rb, ro + j, none⟩ = some (.bool (h q j))
  hbt : bt < w.heap.size
  hbp : bp < w.heap.size
  hB : B < w.heap.size
  hR : R < w.heap.size
  hm : ls.length = m
  hn : n ≤ 60
  hm24 : m ≤ 24
  hs : s < m
set_option maxRecDepth 20000 in
theorem TabIn.below {w w' : World} {bt bp b off n cap B : Nat} {aao : Option Addr} {an ac lb m lcap s R p : Nat} {l : List (Int × Int)} {ls : List (List Bool)} {h : Nat → Nat → Bool} (t : TabIn w bt bp b off n cap B aao an ac lb m lcap s R p l ls h) (hb : Below w.heap.size w w') : TabIn w' bt bp b off n cap B aao an ac lb m lcap s R p l ls h :=
  ⟨(hb.cell (p := ⟨bt, 0, none⟩) t.hbt).trans t.c0, (hb.cell (p := ⟨bt, 1, none⟩) t.hbt).trans t.c1, (hb.cell (p := ⟨bt, 2, none⟩) t.hbt).trans t.c2, (hb.cell (p := ⟨bt, 3, none⟩) t.hbt).trans t.c3, (hb.cell (p := ⟨bt, 4, none⟩) t.hbt).trans t.c4, (hb.cell (p := ⟨bt, 5, none⟩) t.hbt).trans t.c5, (hb.cell (p := ⟨bp, 0, none⟩) t.hbp).trans t.cp, fun j hj => (hb.cell (p := ⟨B, j, none⟩) t.hB).trans (t.ends j hj), t.lets.below hb, fun q h1 h2 => by
    obtain ⟨rb, ro, rc, e1, e2, e3⟩ := t.rows q h1 h2
    exact ⟨rb, ro, rc, (hb.cell (p := ⟨R, q, none⟩) t.hR).trans e1, Nat.lt_of_lt_of_le e2 hb.size, fun j hj => (hb.cell (p := ⟨rb, ro + j, none⟩) e2).trans (e3 j hj)⟩,
    Nat.lt_of_lt_of_le t.hbt hb.size, Nat.lt_of_lt_of_le t.hbp hb.size, Nat.lt_of_lt_of_le t.hB hb.size, Nat.lt_of_lt_of_le t.hR hb.size, t.hm, t.hn, t.hm24, t.hs⟩

/-- A LAW, HANDED OUT AS A FUNCTION: at each moment it says u, or v and what it is told of the next moment. -/
def LawAt (w : World) (F : Value) (m : Nat) (u v : Nat → Bool) : Prop := ∃ f caps, F = .func (.func f) #[] caps ∧ (∀ args w, (callFunc f args).run Tryz.prog w = .ok (.enter f args) w) ∧ ∀ w', Below w.heap.size w w' → ∀ (now : Nat) (x : Bool), now < m → Calls Tryz.prog f (#[.int .i64 (now : Int), .bool x] ++ caps) w' fun e w2 => e = .returned (.bool (u now || (v now && x))) ∧ Below w'.heap.size w' w2

end Go.Proofs.YtafbnmiipfkohaaGreatDoor

/-
  The contract of word's law.
-/
namespace Go.Proofs.YtafbnmiipfkohaaGreatDoor
open Go.ChangeShapes Go.WideShapes Go.ChangeAt Go.RowKit Go.Deep
open Terms

/-- what the table stands on, ahead of its boxes. -/
structure TabAll (w : World) (b off n cap B : Nat) (aao : Option Addr) (an ac lb m lcap s R p : Nat) (l : List (Int × Int)) (ls : List (List Bool)) (h : Nat → Nat → Bool) : Prop where
  ends : ∀ j, j < n → w.cell? ⟨B, j, none⟩ = some (.int .i64 (endAt (l.map Prod.fst) j : Int))
  lets : LettersV w (.slice (some ⟨lb, 0, none⟩) m lcap) ls
  rows : ∀ q, p < q → q < n → ∃ rb ro rc, w.cell? ⟨R, q, none⟩ = some (.slice (some ⟨rb, ro, none⟩) m rc) ∧ rb < w.heap.size ∧ ∀ j, j < m → w.cell? ⟨rb, ro + j, none⟩ = some (.bool (h q j))
  hB : B < w.heap.size
  hR : R < w.heap.size
  hm : ls.length = m
  hn : n ≤ 60
  hm24 : m ≤ 24
  hs : s < m
/-- what law leaves. -/
def LawPost (w : World) (m : Nat) (u v : Nat → Bool) (e : Ending) (w' : World) : Prop := ∃ f caps, e = .returned (.func (.func f) #[] caps) ∧ Below w.heap.size w w' ∧ LawAt w' (.func (.func f) #[] caps) m u v

end Go.Proofs.YtafbnmiipfkohaaGreatDoor

/-
  A row that stays: it lies in Codes here.
-/

/-
  The contract of word's settle.
-/
namespace Go.Proofs.YtafbnmiipfkohaaGreatDoor
open Go.ChangeShapes Go.WideShapes Go.ChangeAt Go.RowKit Go.Deep
open Terms

/-- the row when k moments of a round back are settled. -/
def rnd (u v : Nat → Bool) (m s : Nat) (r : Nat → Bool) (k : Nat) : Nat → Bool := fun j => if m - k ≤ j then stp u v (r s) (m - j) j else r j
set_option maxRecDepth 20000 in
theorem rnd_zero {u v : Nat → Bool} {m s : Nat} {r : Nat → Bool} {j : Nat} (hj : j < m) : rnd u v m s r 0 j = r j := by unfold rnd; rw [if_neg (by omega)]
set_option maxRecDepth 20000 in
theorem rnd_all {u v : Nat → Bool} {m s : Nat} {r : Nat → Bool} {j : Nat} : rnd u v m s r m j = stp u v (r s) (m - j) j := by unfold rnd; rw [if_pos (by omega)]
set_option maxRecDepth 20000 in
theorem rnd_step {u v : Nat → Bool} {m s : Nat} {r : Nat → Bool} {k : Nat} (hs : s < m) (hk : k < m) (j : Nat) (hj : j < m) :
    (if j = m - 1 - k then (u (m - 1 - k) || (v (m - 1 - k) && rnd u v m s r k (if m - 1 - k = m - 1 then s else m - 1 - k + 1))) else rnd u v m s r k j) = rnd u v m s r (k + 1) j := by
  by_cases hjk : j = m - 1 - k
  · rw [if_pos hjk]
    have e : rnd u v m s r (k + 1) j = stp u v (r s) (m - j) j := by unfold rnd; rw [if_pos (by omega)]
    rw [e, show m - j = k + 1 by omega, ← hjk]
    simp only [stp]
    congr 2
    by_cases hk0 : k = 0
    · subst hk0
      rw [if_pos (by omega), rnd_zero hs]
      rfl
    · rw [if_neg (by omega)]
      unfold rnd
      rw [if_pos (by omega), show m - (j + 1) = k by omega]
  · rw [if_neg hjk]
    unfold rnd
    by_cases h1 : m - k ≤ j
    · rw [if_pos h1, if_pos (by omega)]
    · rw [if_neg h1, if_neg (by omega)]
/-- the row ahead of each round. -/
def rows2 (u v : Nat → Bool) (m s : Nat) (d : Bool) : Nat → Nat → Bool
  | 0 => fun j => if j = s then d else false
  | c + 1 => rnd u v m s (rows2 u v m s d c) m
set_option maxRecDepth 20000 in
theorem rows2_done (u v : Nat → Bool) {m s : Nat} (d : Bool) (j : Nat) : rows2 u v m s d 2 j = stp u v (stp u v d (m - s) s) (m - j) j := by
  simp only [rows2]
  rw [rnd_all, rnd_all, if_pos rfl]

/-- what settle keeps. -/
structure SeSt (w : World) (x0 x1 x2 x3 x4 x5 : Value) (m : Nat) (r : Nat → Bool) (W : World) : Prop where
  c0 : W.cell? ⟨w.heap.size, 0, none⟩ = some x0
  c1 : W.cell? ⟨w.heap.size, 1, none⟩ = some x1
  c2 : W.cell? ⟨w.heap.size, 2, none⟩ = some x2
  c3 : W.cell? ⟨w.heap.size, 3, none⟩ = some x3
  c4 : W.cell? ⟨w.heap.size, 4, none⟩ = some x4
  c5 : W.cell? ⟨w.heap.size, 5, none⟩ = some x5
  row : W.rowIs (w.heap.size + 1) 4 m (fun j => .bool (r j))
  below : Below w.heap.size w W
set_option maxRecDepth 20000 in
theorem SeSt.later {w : World} {x0 x1 x2 x3 x4 x5 : Value} {m : Nat} {r : Nat → Bool} {W W' : World} (t : SeSt w x0 x1 x2 x3 x4 x5 m r W) (hb : Below W.heap.size W W') : SeSt w x0 x1 x2 x3 x4 x5 m r W' := by
  have hl : w.heap.size < W.heap.size := World.block_lt_of_cell? W ⟨w.heap.size, 0, none⟩ t.c0
  exact ⟨(hb.cell (p := ⟨w.heap.size, 0, none⟩) hl).trans t.c0, (hb.cell (p := ⟨w.heap.size, 1, none⟩) hl).trans t.c1, (hb.cell (p := ⟨w.heap.size, 2, none⟩) hl).trans t.c2, (hb.cell (p := ⟨w.heap.size, 3, none⟩) hl).trans t.c3, (hb.cell (p := ⟨w.heap.size, 4, none⟩) hl).trans t.c4, (hb.cell (p := ⟨w.heap.size, 5, none⟩) hl).trans t.c5, row_later t.row hb, t.below.trans (hb.mono t.below.size)⟩
set_option maxRecDepth 20000 in
theorem SeSt.congr {w : World} {x0 x1 x2 x3 x4 x5 : Value} {m : Nat} {r r' : Nat → Bool} {W : World} (t : SeSt w x0 x1 x2 x3 x4 x5 m r W) (e : ∀ j, j < m → r j = r' j) : SeSt w x0 x1 x2 x3 x4 x5 m r' W :=
  ⟨t.c0, t.c1, t.c2, t.c3, t.c4, t.c5, t.row.congr fun j hj => by rw [e j hj], t.below⟩
set_option maxRecDepth 20000 in
theorem SeSt.put {w : World} {x0 x1 x2 x3 x4 x5 : Value} {m : Nat} {r : Nat → Bool} {W : World} (t : SeSt w x0 x1 x2 x3 x4 x5 m r W) (p : Nat) (x : Bool) : SeSt w x0 x1 x2 x3 x4 x5 m (fun j => if j = p then x else r j) (W.setCell ⟨w.heap.size + 1, p, none⟩ (.bool x)) := by
  have hc : ∀ q, (W.setCell ⟨w.heap.size + 1, p, none⟩ (.bool x)).cell? ⟨w.heap.size, q, none⟩ = W.cell? ⟨w.heap.size, q, none⟩ := fun q => World.cell?_of_block (w := W) (Below.heap_setCell W _ _ _ (by simp))
  refine ⟨(hc 0).trans t.c0, (hc 1).trans t.c1, (hc 2).trans t.c2, (hc 3).trans t.c3, (hc 4).trans t.c4, (hc 5).trans t.c5, ?_, t.below.setCell (by simp) _⟩
  refine (t.row.set p (.bool x)).congr fun i _ => ?_
  by_cases hip : i = p
  · rw [if_pos hip, if_pos hip]
  · rw [if_neg hip, if_neg hip]

end Go.Proofs.YtafbnmiipfkohaaGreatDoor

/-
  The contracts of logic's checkOp and looksAhead.
-/
namespace Go.Proofs.YtafbnmiipfkohaaGreatDoor
open Go.ChangeShapes Go.WideShapes Go.ChangeAt Go.RowKit Go.Deep
open Terms

set_option maxRecDepth 20000 in
theorem look_any (k : Int) (w : World) :
    Calls Tryz.prog 78 #[.int .i64 k] w fun e w' => e = .returned (.bool (lookB k)) ∧ w' = w := by
  by_cases h : 14 ≤ k ∧ k ≤ 18
  · have hk : k = 14 ∨ k = 15 ∨ k = 16 ∨ k = 17 ∨ k = 18 := by omega
    clear h
    rcases hk with rfl | rfl | rfl | rfl | rfl
    all_goals
      go_enter Tryz.func78, Tryz.ntmps78
      go_wp2
      all_goals go_ret
      all_goals exact ⟨rfl, rfl⟩
  · have hm : lookB k = false := by simp [lookB]; omega
    rw [hm]
    have e1 : ¬ k = 14 := by omega
    have e2 : ¬ k = 15 := by omega
    have e3 : ¬ k = 16 := by omega
    have e4 : ¬ k = 17 := by omega
    have e5 : ¬ k = 18 := by omega
    clear hm h
    go_enter Tryz.func78, Tryz.ntmps78
    go_wp2
    all_goals go_ret
    all_goals exact ⟨rfl, rfl⟩

set_option maxRecDepth 20000 in
theorem lcheckOp_any (k v props : Int) (w : World) (h0 : 0 ≤ props) (h6 : props ≤ 6) :
    Calls Tryz.prog 77 #[.agg #[.int .i64 k, .int .i64 v], .int .i64 props] w fun e w' => e = .returned (.int .i64 (lopErr props (k, v))) ∧ Below w.heap.size w w' := by
  by_cases hk : k < 8
  · have hx : lopErr props (k, v) = 13 := by simp [lopErr, hk]
    rw [hx]
    clear hx
    go_enter Tryz.func77, Tryz.ntmps77
    go_wp2
    all_goals go_ret
    all_goals exact ⟨rfl, (Below.refl _ _).alloc (Nat.le_refl _) _⟩
  · by_cases h2 : k = 13
    · subst h2
      by_cases hv : 0 ≤ v ∧ v ≤ props - 1
      · have hx : lopErr props (13, v) = 0 := by simp [lopErr]; omega
        rw [hx]
        obtain ⟨ha, hb⟩ := hv
        clear hx
        go_enter Tryz.func77, Tryz.ntmps77
        go_wp2
        all_goals go_ret
        all_goals exact ⟨rfl, (Below.refl _ _).alloc (Nat.le_refl _) _⟩
      · have hx : lopErr props (13, v) = 2 := by simp [lopErr]; omega
        rw [hx]
        have hv' : v < 0 ∨ props - 1 < v := by omega
        clear hx hv
        rcases hv' with hv | hv
        all_goals
          go_enter Tryz.func77, Tryz.ntmps77
          go_wp2
          all_goals go_ret
          all_goals exact ⟨rfl, (Below.refl _ _).alloc (Nat.le_refl _) _⟩
    · by_cases hv : v = 0
      · subst hv
        have hx : lopErr props (k, 0) = 0 := by simp [lopErr, h2]; omega
        rw [hx]
        clear hx
        go_enter Tryz.func77, Tryz.ntmps77
        go_wp2
        all_goals go_ret
        all_goals exact ⟨rfl, (Below.refl _ _).alloc (Nat.le_refl _) _⟩
      · have hx : lopErr props (k, v) = 2 := by simp [lopErr, h2]; omega
        rw [hx]
        have hv' : v < 0 ∨ 0 < v := by omega
        clear hx hv
        rcases hv' with hv | hv
        all_goals
          go_enter Tryz.func77, Tryz.ntmps77
          go_wp2
          all_goals go_ret
          all_goals exact ⟨rfl, (Below.refl _ _).alloc (Nat.le_refl _) _⟩
end Go.Proofs.YtafbnmiipfkohaaGreatDoor

/-
  The contracts of logic.read, Check and Ahead.
-/
namespace Go.Proofs.YtafbnmiipfkohaaGreatDoor
open Go.ChangeShapes Go.WideShapes Go.ChangeAt Go.RowKit Go.Deep
open Terms

/-- What read leaves. -/
def LReadPost (props : Int) (v : Value) (l : List (Int × Int)) (w : World) (e : Ending) (w' : World) : Prop :=
  Below w.heap.size w w' ∧ (lcode props l ≠ 0 → e = .returned (.tuple #[.agg #[.slice none 0 0, .slice none 0 0, .slice none 0 0], .int .i64 (lcode props l)])) ∧
  (lcode props l = 0 → ∃ B av, w.heap.size ≤ B ∧ e = .returned (.tuple #[.agg #[v, .slice (some ⟨B, 0, none⟩) l.length l.length, av], .int .i64 0]) ∧ w'.rowIs B 3 l.length (fun q => .int .i64 (endAt (l.map Prod.fst) q)) ∧ w'.ownsRow w.heap.size 3 1 av (aheadL l).length (ivals (aheadL l)))

/-- a block of three slices. -/
def Three (w : World) (b : Nat) (x y z : Value) : Prop := w.cell? ⟨b, 0, none⟩ = some x ∧ w.cell? ⟨b, 1, none⟩ = some y ∧ w.cell? ⟨b, 2, none⟩ = some z ∧ w.frozen? ⟨b, 0, none⟩ = false ∧ w.frozen? ⟨b, 1, none⟩ = false ∧ w.frozen? ⟨b, 2, none⟩ = false ∧ b < w.heap.size
set_option maxRecDepth 20000 in
theorem Three.below {w w' : World} {B b : Nat} {x y z : Value} (h : Three w b x y z) (hb : Below B w w') (hB : b < B) : Three w' b x y z :=
  ⟨(hb.cell (p := ⟨b, 0, none⟩) hB).trans h.1, (hb.cell (p := ⟨b, 1, none⟩) hB).trans h.2.1, (hb.cell (p := ⟨b, 2, none⟩) hB).trans h.2.2.1, (hb.frozen (p := ⟨b, 0, none⟩) hB).trans h.2.2.2.1, (hb.frozen (p := ⟨b, 1, none⟩) hB).trans h.2.2.2.2.1, (hb.frozen (p := ⟨b, 2, none⟩) hB).trans h.2.2.2.2.2.1, Nat.lt_of_lt_of_le h.2.2.2.2.2.2 hb.size⟩
set_option maxRecDepth 20000 in
theorem Three.new (w : World) (x y z : Value) (t : TypeId) : Three (w.alloc (.cells #[x, y, z] t)) w.heap.size x y z := by
  refine ⟨?_, ?_, ?_, ?_, ?_, ?_, ?_⟩ <;> simp [go_sem]

set_option maxRecDepth 20000 in
theorem Three.read {w : World} {b : Nat} {x y z : Value} (h : Three w b x y z) (u0 u1 u2 : Value) : (w.setCell ⟨b, 0, none⟩ u0).cell? ⟨b, 0, none⟩ = some u0 ∧ ((w.setCell ⟨b, 0, none⟩ u0).setCell ⟨b, 1, none⟩ u1).cell? ⟨b, 1, none⟩ = some u1 ∧ (((w.setCell ⟨b, 0, none⟩ u0).setCell ⟨b, 1, none⟩ u1).setCell ⟨b, 2, none⟩ u2).cell? ⟨b, 2, none⟩ = some u2 := by
  obtain ⟨k0, k1, k2, _⟩ := h
  refine ⟨World.cell?_setCell_same' _ _ _ (by rw [k0]; rfl), World.cell?_setCell_same' _ _ _ ?_, World.cell?_setCell_same' _ _ _ ?_⟩
  · simp [go_sem, k1]
  · simp [go_sem, k2]

set_option maxRecDepth 20000 in
theorem read_range (ao : Option Addr) (n cap : Nat) (props : Int) (w : World) (h : props < 0 ∨ 6 < props) :
    Calls Tryz.prog 57 #[.slice ao n cap, .int .i64 props] w fun e w' => e = .returned (.tuple #[.agg #[.slice none 0 0, .slice none 0 0, .slice none 0 0], .int .i64 2]) ∧ Below w.heap.size w w' := by
  rcases h with h | h
  all_goals
    go_enter Tryz.func57, Tryz.ntmps57
    go_wp2_with fail
    exact bodyPost_ret (v := .tuple #[.agg #[.slice none 0 0, .slice none 0 0, .slice none 0 0], .int .i64 2]) (by simp [results, Tryz.results57, go_sem]) rfl ⟨rfl, by exact (Below.refl _ _).alloc (Nat.le_refl _) _⟩

set_option maxRecDepth 20000 in
theorem read_ends (v : Value) (ks : List Int) (props : Int) (w : World) (h0 : 0 ≤ props) (h6 : props ≤ 6) (hB : 0 < w.heap.size) (hT : TabAt w) (hK : Kinds w v ks) (hz : endsCode ks ≠ 0) :
    Calls Tryz.prog 57 #[v, .int .i64 props] w fun e w' => e = .returned (.tuple #[.agg #[.slice none 0 0, .slice none 0 0, .slice none 0 0], .int .i64 (endsCode ks)]) ∧ Below w.heap.size w w' := by
  have hA : ∀ o, Below w.heap.size w (w.alloc o) := fun o => (Below.refl _ _).alloc (Nat.le_refl _) o
  have hKA : ∀ o, Kinds (w.alloc o) v ks := fun o => hK.below (hA o)
  have hends : ∀ o, Calls Tryz.prog 76 #[v] (w.alloc o) fun e w' => e = .returned (.tuple #[.slice none 0 0, .int .i64 (endsCode ks)]) ∧ Below (w.alloc o).heap.size (w.alloc o) w' := fun o => (ends_any v ks (w.alloc o) (by simp) (hT.below (hA o) hB) (hKA o)).mono fun e w' ⟨h1, h2, _⟩ => ⟨h2 hz, h1⟩
  generalize endsCode ks = x at *
  obtain ⟨ao, cap, rfl, _⟩ := hK
  clear hT hKA
  go_enter Tryz.func57, Tryz.ntmps57
  go_wp2_with (go_at_call 76; refine (hends _).mono ?_; rintro e w1 ⟨rfl, hb1⟩; have h3 := (Three.new w (.slice none 0 0) (.slice none 0 0) (.slice none 0 0) 130).below hb1 (by simp); obtain ⟨k0, k1, k2, f0, f1, f2, _⟩ := id h3)
  refine bodyPost_ret (v := .tuple #[.agg #[.slice none 0 0, .slice none 0 0, .slice none 0 0], .int .i64 x]) ?_ rfl ⟨rfl, ?_⟩
  · obtain ⟨q0, q1, q2⟩ := h3.read (.slice none 0 0) (.slice none 0 0) (.slice none 0 0)
    simp [results, Tryz.results57, go_sem, q0, q1, q2]
  · have hbw := (hA _).trans (hb1.mono (hA _).size)
    exact ((hbw.setCell (Nat.le_refl _) _).setCell (Nat.le_refl _) _).setCell (Nat.le_refl _) _

set_option maxRecDepth 20000 in
theorem Three.set2 {w : World} {b : Nat} {x y z : Value} (h : Three w b x y z) (u : Value) : Three (w.setCell ⟨b, 2, none⟩ u) b x y u := by
  obtain ⟨k0, k1, k2, f0, f1, f2, hl⟩ := h
  refine ⟨?_, ?_, World.cell?_setCell_same' _ _ _ (by rw [k2]; rfl), ?_, ?_, ?_, by simpa using hl⟩
  · simp [go_sem, k0]
  · simp [go_sem, k1]
  · rw [World.frozen?_setCell]; exact f0
  · rw [World.frozen?_setCell]; exact f1
  · rw [World.frozen?_setCell]; exact f2
set_option maxRecDepth 20000 in
theorem owns_set {w : World} {base : Nat} {e : TypeId} {s n : Nat} {v : Value} {xs : List Value} (h : w.ownsRow base e s v n xs) {p : Addr} (hp : p.block < base) (u : Value) : (w.setCell p u).ownsRow base e s v n xs := by
  obtain ⟨h1, h2⟩ := h
  refine ⟨h1, ?_⟩
  rcases h2 with h2 | ⟨g, cap, cur, hv, hg, hh, r⟩
  · exact .inl h2
  · exact .inr ⟨g, cap, cur, hv, hg, (Below.heap_setCell w p u g (by omega)).trans hh, r⟩
set_option maxRecDepth 20000 in
theorem owns_block {w : World} {base : Nat} {e : TypeId} {s n : Nat} {v : Value} {xs : List Value} (h : w.ownsRow base e s v n xs) : ∀ z, v.ownBlock = some z → base ≤ z := by
  intro z hz
  rcases h.2 with ⟨rfl, _⟩ | ⟨g, cap, cur, rfl, hb, _⟩
  · simp [Value.ownBlock] at hz
  · simp [Value.ownBlock] at hz; omega
set_option maxRecDepth 20000 in
theorem owns_more {w : World} {base : Nat} {e : TypeId} {s k : Nat} {v : Value} {xs : List Value} (h : w.ownsRow base e s v (k + 1) xs) : ∃ g cap, v = .slice (some ⟨g, 0, none⟩) (k + 1) cap := by
  rcases h.2 with ⟨_, h0⟩ | ⟨g, cap, _, rfl, _⟩
  · omega
  · exact ⟨g, cap, rfl⟩

/-- what f holds while the ops are gone through. -/
def AhSt (l : List (Int × Int)) (w1 : World) (v ev : Value) (k : Nat) (wr : World) : Prop := Below w1.heap.size w1 wr ∧ ∃ av, Three wr w1.heap.size v ev av ∧ wr.ownsRow (w1.heap.size + 1) 3 1 av (aheadTo l k).length (ivals (aheadTo l k))
set_option maxRecDepth 20000 in
theorem AhSt.later {l : List (Int × Int)} {w1 : World} {v ev : Value} {k : Nat} {wr w' : World} (h : AhSt l w1 v ev k wr) (hb : Below wr.heap.size wr w') : AhSt l w1 v ev k w' := by
  obtain ⟨h1, av, h3, ho⟩ := h
  exact ⟨h1.trans (hb.mono h1.size), av, h3.below hb h3.2.2.2.2.2.2, owns_later ho hb (Nat.le_refl _)⟩

set_option maxHeartbeats 1600000 in
set_option maxRecDepth 20000 in
theorem read_main (b off cap : Nat) (l : List (Int × Int)) (props : Int) (w : World) (h0 : 0 ≤ props) (h6 : props ≤ 6) (hB : 0 < w.heap.size) (hT : TabAt w) (hbl : b < w.heap.size) (hat : OpsAt w b off l) (hcap : l.length ≤ cap) (hz : endsCode (l.map Prod.fst) = 0) :
    Calls Tryz.prog 57 #[.slice (some ⟨b, off, none⟩) l.length cap, .int .i64 props] w (LReadPost props (.slice (some ⟨b, off, none⟩) l.length cap) l w) := by
  obtain ⟨hne, h60⟩ := ends_ne hz
  rw [List.length_map] at h60
  have hr : ¬ (props < 0 ∨ 6 < props) := by omega
  have hA : ∀ o, Below w.heap.size w (w.alloc o) := fun o => (Below.refl _ _).alloc (Nat.le_refl _) o
  have hK : Kinds w (.slice (some ⟨b, off, none⟩) l.length cap) (l.map Prod.fst) := (show OpsV w _ l from ⟨_, cap, rfl, ⟨hcap, fun h => by simp at h⟩, fun _ => ⟨b, off, rfl, hbl, hat⟩⟩).kinds
  have hends : ∀ o, Calls Tryz.prog 76 #[.slice (some ⟨b, off, none⟩) l.length cap] (w.alloc o) fun e w' => Below (w.alloc o).heap.size (w.alloc o) w' ∧ ∃ B, (w.alloc o).heap.size ≤ B ∧ e = .returned (.tuple #[.slice (some ⟨B, 0, none⟩) l.length l.length, .int .i64 0]) ∧ w'.rowIs B 3 l.length (fun q => .int .i64 (endAt (l.map Prod.fst) q)) := fun o =>
    (ends_any _ _ (w.alloc o) (by simp) (hT.below (hA o) hB) (hK.below (hA o))).mono fun e w' ⟨h1, _, h3⟩ => ⟨h1, by have := h3 hz; rwa [List.length_map] at this⟩
  have HO : Hid (∀ i, i < l.length → (∀ j, j < i → lopErr props (l.getD j (0, 0)) = 0) → lopErr props (l.getD i (0, 0)) ≠ 0 → lcode props l = lopErr props (l.getD i (0, 0))) := fun i hi hj hne => by
    have hx := lfirst_at hi hj hne
    rw [lcode_op hr hz (by rw [hx]; exact hne), hx]
  have HE : Hid ((∀ j, j < l.length → lopErr props (l.getD j (0, 0)) = 0) → lcode props l = if 6 < (aheadTo l l.length).length then 1 else 0) := fun hj => lcode_many hr hz (lfirst_none hj)
  have HA : Hid (OpsAt w b off l) := hat
  have HLd : Hid (aheadL l = aheadTo l l.length) := rfl
  unfold LReadPost
  obtain ⟨n, hn⟩ : ∃ n, n = l.length := ⟨_, rfl⟩
  have HN : Hid (n = l.length) := hn
  rw [← hn] at h60 HO HE hends HLd hcap ⊢
  obtain ⟨i0, hi, hz0, hz1, hz2⟩ := info_parts infoInt
  clear hat hne hz hr hn hK hT
  go_enter Tryz.func57, Tryz.ntmps57
  go_wp2_with (go_at_call 76; refine (hends _).mono ?_; rintro e w1 ⟨hb1, B, hBl, rfl, hrow⟩; have h3 := (Three.new w (.slice none 0 0) (.slice none 0 0) (.slice none 0 0) 130).below hb1 (by simp))
  have hbw1 := (hA _).trans (hb1.mono (hA _).size)
  have hs1 : w.heap.size < w1.heap.size := h3.2.2.2.2.2.2
  have HS0 : Hid (AhSt l w1 (.slice (some ⟨b, off, none⟩) n cap) (.slice (some ⟨B, 0, none⟩) n n) 0 (w1.alloc (.cells #[.slice (some ⟨b, off, none⟩) n cap, .slice (some ⟨B, 0, none⟩) n n, .slice none 0 0] 130))) := ⟨(Below.refl _ _).alloc (Nat.le_refl _) _, _, Three.new _ _ _ _ _, World.ownsRow_nil _ _ _ _⟩
  have HRow : Hid (w1.rowIs B 3 n (fun q => .int .i64 (endAt (l.map Prod.fst) q))) := hrow
  have HT3 : Hid (Three w1 w.heap.size (.slice none 0 0) (.slice none 0 0) (.slice none 0 0)) := h3
  have hBw : w.heap.size < B := by have := hBl; simp at this; omega
  clear hends hb1 hrow h3 hBl
  go_loopw [33] (fun i wr => ∃ k : Nat, k ≤ n ∧ i = .int .i64 k ∧ Hid (AhSt l w1 (.slice (some ⟨b, off, none⟩) n cap) (.slice (some ⟨B, 0, none⟩) n n) k wr) ∧ Hid (∀ j, j < k → lopErr props (l.getD j (0, 0)) = 0)) (fun i _ => n - (intOf i).toNat)
  case atStart => exact ⟨0, Nat.zero_le _, rfl, HS0.out, fun j hj => by omega⟩
  case round =>
    obtain ⟨k, hk, rfl, HSt, HJ⟩ := hrel
    obtain ⟨hbel, av, h3r, hown⟩ := HSt.out
    have hbw := hbw1.trans (hbel.mono hbw1.size)
    have hlen := aheadTo_length l k
    have hsr := hbel.size
    obtain ⟨aao, aac, rfl⟩ := owns_slice hown
    by_cases hlt : k < n
    · obtain ⟨c0, c1⟩ := (HA.out.below hbw hbl) k (by rw [← HN.out]; exact hlt)
      have HOi := (show Hid _ from HO.out k hlt HJ.out)
      have HJ2 : Hid (lopErr props (l.getD k (0, 0)) = 0 → ∀ j, j < k + 1 → lopErr props (l.getD j (0, 0)) = 0) := fun h j hj => by
        by_cases hji : j < k
        · exact HJ.out j hji
        · obtain rfl : j = k := by omega
          exact h
      have HY : Hid (lookB (l.getD k (0, 0)).1 = true → aheadTo l (k + 1) = aheadTo l k ++ [(k : Int)]) := aheadTo_yes
      have HNo : Hid (lookB (l.getD k (0, 0)).1 = false → aheadTo l (k + 1) = aheadTo l k) := aheadTo_no
      generalize l.getD k (0, 0) = xy at c0 c1 HOi HJ2 HY HNo
      obtain ⟨x, y⟩ := xy
      simp only at c0 c1 HY HNo
      have hco := fun w => lcheckOp_any x y props w h0 h6
      have hlk := fun w => look_any x w
      have hAr : ∀ o, Below wr.heap.size wr (wr.alloc o) := fun o => (Below.refl _ _).alloc (Nat.le_refl _) o
      have HW2 : Hid (∀ w2, Below (wr.alloc (.cells #[.int .i64 x, .int .i64 y] 74)).heap.size (wr.alloc (.cells #[.int .i64 x, .int .i64 y] 74)) w2 → w2.cell? ⟨wr.heap.size, 0, none⟩ = some (.int .i64 x) ∧ AhSt l w1 (.slice (some ⟨b, off, none⟩) n cap) (.slice (some ⟨B, 0, none⟩) n n) k w2 ∧ Three w2 w.heap.size (.slice none 0 0) (.slice none 0 0) (.slice none 0 0) ∧ Three w2 w1.heap.size (.slice (some ⟨b, off, none⟩) n cap) (.slice (some ⟨B, 0, none⟩) n n) (.slice aao (aheadTo l k).length aac) ∧ w2.ownsRow (w1.heap.size + 1) 3 1 (.slice aao (aheadTo l k).length aac) (aheadTo l k).length (ivals (aheadTo l k))) := fun w2 hb2 => by
        have hb12 : Below wr.heap.size wr w2 := (hAr _).trans (hb2.mono (hAr _).size)
        refine ⟨(hb2.cell (p := ⟨wr.heap.size, 0, none⟩) (by simp)).trans (by simp [go_sem]), HSt.out.later hb12, (HT3.out.below hbel hs1).below hb12 (by omega), h3r.below hb12 h3r.2.2.2.2.2.2, owns_later hown hb12 (Nat.le_refl _)⟩
      obtain ⟨L, hL⟩ : ∃ L, L = (aheadTo l k).length := ⟨_, rfl⟩
      have HL : Hid (L = (aheadTo l k).length) := hL
      rw [← hL] at hlen HW2
      clear hL HO HE HA hown h3r HSt HS0 HRow
      by_cases hze : lopErr props (x, y) = 0
      · have HJ3 := (show Hid _ from HJ2.out hze)
        rw [hze] at hco
        clear hze HOi HJ2 HJ
        cases hb : lookB x with
        | true =>
          have HAh := (show Hid _ from HY.out hb)
          rw [hb] at hlk
          have h63 : L + 1 ≤ maxLen := by unfold maxLen; omega
          have hkb : (L + 1) * 8 ≤ 140737488355328 := by omega
          clear HY HNo hb
          go_wp2_with (first | (go_at_call 77; refine (hco _).mono ?_; rintro e w2 ⟨rfl, hb2⟩; obtain ⟨c2, hst2, h3z, h3w, ho2⟩ := HW2.out w2 hb2; obtain ⟨k0, k1, k2, f0, f1, f2, hl2⟩ := id h3w; have hown2 := fun o => ho2.alloc o; have hbase : ∀ o, w1.heap.size + 1 ≤ (w2.alloc o).heap.size := (fun o => by simp; omega); have kA2 : ∀ o, (w2.alloc o).cell? ⟨w1.heap.size, 2, none⟩ = some (.slice aao L aac) := (fun o => (((Below.refl _ _).alloc (Nat.le_refl _) o).cell (p := ⟨w1.heap.size, 2, none⟩) hl2).trans k2)) | (go_at_call 78; refine (hlk _).mono ?_; rintro e w3 ⟨rfl, rfl⟩) | (at_builtin; refine wpList_append_own _ rfl (.tmp 49) (.tmp 51) 40 rfl (w1.heap.size + 1) 3 i0 (.int .i64 0) 1 8 Tryz.underlying40 hi hz0 hz1 hz2 rfl (by decide) _ _ _ rfl (hown2 _) ⟨_, 0, none⟩ 1 1 _ rfl rfl (cell_one_new _ _ _) (by intro u hu; simp at hu; subst hu; rfl) h63 hkb (hbase _) ?_; intro v5 w5 hown5 hgrow5 _; obtain ⟨g5, cp5, rfl⟩ := owns_more hown5; have hb25 : Below (w1.heap.size + 1) _ w5 := ((Below.refl _ _).alloc (by omega) _).grown hgrow5 (hbase _) (owns_block ho2); have h35 := h3w.below hb25 (Nat.lt_succ_self _); obtain ⟨k50, k51, k52, f50, f51, f52, hl5⟩ := id h35))
          have hb15 : Below w1.heap.size w1 w5 := hst2.1.trans (hb25.mono (Nat.le_succ _))
          refine ⟨⟨k + 1, hlt, by first | rfl | simp, ⟨hb15.setCell (Nat.le_refl _) _, _, h35.set2 _, ?_⟩, HJ3.out⟩, by simp [intOf]; omega⟩
          rw [HAh.out, List.length_append, ← HL.out]
          rw [show ivals (aheadTo l k ++ [(k : Int)]) = ivals (aheadTo l k) ++ [.int .i64 (k : Int)] by simp [ivals]]
          exact owns_set hown5 (Nat.lt_succ_self _) _
        | false =>
          have HAh := (show Hid _ from HNo.out hb)
          rw [hb] at hlk
          clear HY HNo hb
          go_wp2_with (first | (go_at_call 77; refine (hco _).mono ?_; rintro e w2 ⟨rfl, hb2⟩; obtain ⟨c2, hst2, h3z, h3w, ho2⟩ := HW2.out w2 hb2) | (go_at_call 78; refine (hlk _).mono ?_; rintro e w3 ⟨rfl, rfl⟩))
          obtain ⟨q1, av', q2, q3⟩ := hst2
          exact ⟨⟨k + 1, hlt, by first | rfl | simp, ⟨q1, av', q2, by rw [HAh.out]; exact q3⟩, HJ3.out⟩, by simp [intOf]; omega⟩
      · have HX : Hid (lcode props l = lopErr props (x, y)) := HOi.out hze
        generalize lopErr props (x, y) = err at hco hze HX
        clear HOi HJ2 HY HNo hlk
        go_wp2_with (go_at_call 77; refine (hco _).mono ?_; rintro e w2 ⟨rfl, hb2⟩; obtain ⟨c2, hst2, h3z, h3w, ho2⟩ := HW2.out w2 hb2; obtain ⟨k0, k1, k2, f0, f1, f2, hl2⟩ := id h3z)
        refine bodyPost_ret (v := .tuple #[.agg #[.slice none 0 0, .slice none 0 0, .slice none 0 0], .int .i64 err]) ?_ rfl ⟨?_, fun _ => by rw [HX.out], fun h => absurd h (by rw [HX.out]; exact hze)⟩
        · obtain ⟨q0, q1, q2⟩ := h3z.read (.slice none 0 0) (.slice none 0 0) (.slice none 0 0)
          simp [results, Tryz.results57, go_sem, q0, q1, q2]
        · have hbw2 := hbw1.trans (hst2.1.mono hbw1.size)
          exact ((hbw2.setCell (Nat.le_refl _) _).setCell (Nat.le_refl _) _).setCell (Nat.le_refl _) _
    · have hkn : k = n := by omega
      subst hkn
      have HX := (show Hid _ from HE.out HJ.out)
      have h3z := HT3.out.below hbel hs1
      have HRo : Hid (wr.rowIs B 3 k (fun q => .int .i64 (endAt (l.map Prod.fst) q))) := row_later HRow.out hbel
      have HOw : Hid (wr.ownsRow (w1.heap.size + 1) 3 1 (.slice aao (aheadTo l k).length aac) (aheadTo l k).length (ivals (aheadTo l k))) := hown
      obtain ⟨L, hL⟩ : ∃ L, L = (aheadTo l k).length := ⟨_, rfl⟩
      have HL : Hid (L = (aheadTo l k).length) := hL
      rw [← hL] at hlen HX HOw h3r
      obtain ⟨k0, k1, k2, f0, f1, f2, hl2⟩ := id h3r
      obtain ⟨z0, z1, z2, y0, y1, y2, zl2⟩ := id h3z
      clear hL HO HE HA hown HSt HS0 HRow HJ
      by_cases h6L : 6 < L
      · have HX2 : Hid (lcode props l = 1) := by show _ = _; rw [HX.out, if_pos h6L]
        go_wp2_with fail
        refine bodyPost_ret (v := .tuple #[.agg #[.slice none 0 0, .slice none 0 0, .slice none 0 0], .int .i64 1]) ?_ rfl ⟨?_, fun _ => by rw [HX2.out], fun h => absurd h (by rw [HX2.out]; decide)⟩
        · obtain ⟨q0, q1, q2⟩ := h3z.read (.slice none 0 0) (.slice none 0 0) (.slice none 0 0)
          simp [results, Tryz.results57, go_sem, q0, q1, q2]
        · exact ((hbw.setCell (Nat.le_refl _) _).setCell (Nat.le_refl _) _).setCell (Nat.le_refl _) _
      · have HX2 : Hid (lcode props l = 0) := by show _ = _; rw [HX.out, if_neg h6L]
        go_wp2_with fail
        refine bodyPost_ret (v := .tuple #[.agg #[.slice (some ⟨b, off, none⟩) k cap, .slice (some ⟨B, 0, none⟩) k k, .slice aao L aac], .int .i64 0]) ?_ rfl ⟨?_, fun h => absurd HX2.out h, fun _ => ⟨B, .slice aao L aac, Nat.le_of_lt hBw, rfl, ?_, ?_⟩⟩
        · obtain ⟨q0, q1, q2⟩ := h3z.read (.slice (some ⟨b, off, none⟩) k cap) (.slice (some ⟨B, 0, none⟩) k k) (.slice aao L aac)
          simp [results, Tryz.results57, go_sem, q0, q1, q2]
        · exact ((hbw.setCell (Nat.le_refl _) _).setCell (Nat.le_refl _) _).setCell (Nat.le_refl _) _
        · have hne : ∀ q, B ≠ (⟨w.heap.size, q, none⟩ : Addr).block := fun q => by simp; omega
          exact HRo.out.of_block ((Below.heap_setCell _ _ _ B (hne 2)).trans ((Below.heap_setCell _ _ _ B (hne 1)).trans (Below.heap_setCell _ _ _ B (hne 0))))
        · rw [HLd.out, ← HL.out]
          exact owns_mono (owns_set (owns_set (owns_set HOw.out (by simp; omega) _) (by simp; omega) _) (by simp; omega) _) (by omega)

set_option maxRecDepth 20000 in
/-- THE CONTRACT OF logic.read. -/
theorem lread_any (v : Value) (l : List (Int × Int)) (props : Int) (w : World) (hB : 0 < w.heap.size) (hT : TabAt w) (hV : OpsV w v l) :
    Calls Tryz.prog 57 #[v, .int .i64 props] w (LReadPost props v l w) := by
  by_cases hr : props < 0 ∨ 6 < props
  · obtain ⟨ao, cap, rfl, _⟩ := hV
    exact (read_range ao _ cap props w hr).mono fun e w' ⟨h1, h2⟩ => ⟨h2, fun _ => by rw [lcode_range hr]; exact h1, fun h => absurd h (by rw [lcode_range hr]; decide)⟩
  · by_cases hz : endsCode (l.map Prod.fst) = 0
    · obtain ⟨hne, _⟩ := ends_ne hz
      obtain ⟨ao, cap, rfl, h0, h⟩ := hV
      obtain ⟨b, off, rfl, hbl, hat⟩ := h (by rintro rfl; exact hne rfl)
      exact read_main b off cap l props w (by omega) (by omega) hB hT hbl hat h0.1 hz
    · exact (read_ends v _ props w (by omega) (by omega) hB hT hV.kinds hz).mono fun e w' ⟨h1, h2⟩ => ⟨h2, fun _ => by rw [lcode_ends hr hz]; exact h1, fun h => absurd h (by rw [lcode_ends hr hz]; exact hz)⟩

set_option maxRecDepth 20000 in
set_option maxHeartbeats 800000 in
/-- THE CONTRACT OF logic.Check. -/
theorem lcheck_any (v : Value) (l : List (Int × Int)) (props : Int) (w : World) (hB : 0 < w.heap.size) (hT : TabAt w) (hV : OpsV w v l) :
    Calls Tryz.prog 36 #[v, .int .i64 props] w fun e w' => e = .returned (.int .i64 (lcode props l)) ∧ Below w.heap.size w w' := by
  have hrd : Calls Tryz.prog 57 #[v, .int .i64 props] w fun e w' => Below w.heap.size w w' ∧ ∃ ao an ac bo bn bc co cn cc, e = .returned (.tuple #[.agg #[.slice ao an ac, .slice bo bn bc, .slice co cn cc], .int .i64 (lcode props l)]) := by
    refine (lread_any v l props w hB hT hV).mono fun e w' ⟨h1, h2, h3⟩ => ⟨h1, ?_⟩
    by_cases hz : lcode props l = 0
    · obtain ⟨B, av, _, he, _, ho⟩ := h3 hz
      obtain ⟨aa, ac, rfl⟩ := owns_slice ho
      obtain ⟨ao, cap, rfl, _⟩ := hV
      exact ⟨_, _, _, _, _, _, _, _, _, by rw [hz]; exact he⟩
    · exact ⟨_, _, _, _, _, _, _, _, _, h2 hz⟩
  obtain ⟨ao, cap, rfl, _⟩ := hV
  generalize lcode props l = x at *
  clear hT
  go_enter Tryz.func36, Tryz.ntmps36
  go_wp2_with (go_at_call 57; refine hrd.mono ?_; rintro e w1 ⟨hb1, ao, an, ac, bo, bn, bc, co, cn, cc, rfl⟩)
  go_ret
  exact ⟨rfl, by first | exact hb1 | exact hb1.alloc hb1.size _⟩

/-- the places, or none. -/
def ahL (props : Int) (l : List (Int × Int)) : List Int := if lcode props l = 0 then aheadL l else []

set_option maxRecDepth 20000 in
set_option maxHeartbeats 800000 in
/-- THE CONTRACT OF logic.Ahead. -/
theorem lahead_any (v : Value) (l : List (Int × Int)) (props : Int) (w : World) (hB : 0 < w.heap.size) (hT : TabAt w) (hV : OpsV w v l) :
    Calls Tryz.prog 48 #[v, .int .i64 props] w fun e w' => ∃ av, e = .returned (.tuple #[av, .int .i64 (lcode props l)]) ∧ Below w.heap.size w w' ∧ IntsV w' av (ahL props l) := by
  have hrd : Calls Tryz.prog 57 #[v, .int .i64 props] w fun e w' => Below w.heap.size w w' ∧ ∃ ao an ac bo bn bc co cn cc, e = .returned (.tuple #[.agg #[.slice ao an ac, .slice bo bn bc, .slice co cn cc], .int .i64 (lcode props l)]) ∧ Hid (IntsV w' (.slice co cn cc) (ahL props l)) := by
    refine (lread_any v l props w hB hT hV).mono fun e w' ⟨h1, h2, h3⟩ => ⟨h1, ?_⟩
    by_cases hz : lcode props l = 0
    · obtain ⟨B, av, _, he, _, ho⟩ := h3 hz
      obtain ⟨aa, ac, rfl⟩ := owns_slice ho
      obtain ⟨ao, cap, rfl, _⟩ := hV
      exact ⟨_, _, _, _, _, _, _, _, _, by rw [hz]; exact he, by show IntsV _ _ _; unfold ahL; rw [if_pos hz]; exact intsV_of_owns ho⟩
    · exact ⟨_, _, _, _, _, _, _, _, _, h2 hz, by show IntsV _ _ _; unfold ahL; rw [if_neg hz]; exact ⟨none, 0, rfl, fun h => absurd rfl h⟩⟩
  obtain ⟨ao, cap, rfl, _⟩ := hV
  generalize lcode props l = x at *
  clear hT
  go_enter Tryz.func48, Tryz.ntmps48
  go_wp2_with (go_at_call 57; refine hrd.mono ?_; rintro e w1 ⟨hb1, ao, an, ac, bo, bn, bc, co, cn, cc, rfl, HI⟩)
  go_ret2
  exact ⟨_, rfl, by first | exact hb1 | exact hb1.alloc hb1.size _, by first | exact HI.out | exact HI.out.below ((Below.refl _ _).alloc (Nat.le_refl _) _)⟩
end Go.Proofs.YtafbnmiipfkohaaGreatDoor

/-
  The contract of word's fill: what it refuses.
-/
namespace Go.Proofs.YtafbnmiipfkohaaGreatDoor
open Go.ChangeShapes Go.WideShapes Go.ChangeAt Go.RowKit Go.Deep
open Terms

/-- six cells of a block that may be written. -/
structure Six (w : World) (b : Nat) (x0 x1 x2 x3 x4 x5 : Value) : Prop where
  k0 : w.cell? ⟨b, 0, none⟩ = some x0
  f0 : w.frozen? ⟨b, 0, none⟩ = false
  k1 : w.cell? ⟨b, 1, none⟩ = some x1
  f1 : w.frozen? ⟨b, 1, none⟩ = false
  k2 : w.cell? ⟨b, 2, none⟩ = some x2
  f2 : w.frozen? ⟨b, 2, none⟩ = false
  k3 : w.cell? ⟨b, 3, none⟩ = some x3
  f3 : w.frozen? ⟨b, 3, none⟩ = false
  k4 : w.cell? ⟨b, 4, none⟩ = some x4
  f4 : w.frozen? ⟨b, 4, none⟩ = false
  k5 : w.cell? ⟨b, 5, none⟩ = some x5
  f5 : w.frozen? ⟨b, 5, none⟩ = false
  hl : b < w.heap.size
set_option maxRecDepth 20000 in
theorem Six.below {w w' : World} {B b : Nat} {x0 x1 x2 x3 x4 x5 : Value} (h : Six w b x0 x1 x2 x3 x4 x5) (hb : Below B w w') (hB : b < B) : Six w' b x0 x1 x2 x3 x4 x5 :=
  ⟨(hb.cell (p := ⟨b, 0, none⟩) hB).trans h.k0, (hb.frozen (p := ⟨b, 0, none⟩) hB).trans h.f0, (hb.cell (p := ⟨b, 1, none⟩) hB).trans h.k1, (hb.frozen (p := ⟨b, 1, none⟩) hB).trans h.f1, (hb.cell (p := ⟨b, 2, none⟩) hB).trans h.k2, (hb.frozen (p := ⟨b, 2, none⟩) hB).trans h.f2, (hb.cell (p := ⟨b, 3, none⟩) hB).trans h.k3, (hb.frozen (p := ⟨b, 3, none⟩) hB).trans h.f3, (hb.cell (p := ⟨b, 4, none⟩) hB).trans h.k4, (hb.frozen (p := ⟨b, 4, none⟩) hB).trans h.f4, (hb.cell (p := ⟨b, 5, none⟩) hB).trans h.k5, (hb.frozen (p := ⟨b, 5, none⟩) hB).trans h.f5, Nat.lt_of_lt_of_le h.hl hb.size⟩
set_option maxRecDepth 20000 in
theorem Six.new (w : World) (x0 x1 x2 x3 x4 x5 : Value) (t : TypeId) : Six (w.alloc (.cells #[x0, x1, x2, x3, x4, x5] t)) w.heap.size x0 x1 x2 x3 x4 x5 :=
  ⟨by simp [go_sem], by simp [go_sem], by simp [go_sem], by simp [go_sem], by simp [go_sem], by simp [go_sem], by simp [go_sem], by simp [go_sem], by simp [go_sem], by simp [go_sem], by simp [go_sem], by simp [go_sem], by simp⟩
set_option maxRecDepth 20000 in
theorem Six.read {w : World} {b : Nat} {x0 x1 x2 x3 x4 x5 : Value} (h : Six w b x0 x1 x2 x3 x4 x5) (u0 u1 u2 u3 u4 u5 : Value) : ((w.setCell ⟨b, 0, none⟩ u0)).cell? ⟨b, 0, none⟩ = some u0 ∧ (((w.setCell ⟨b, 0, none⟩ u0).setCell ⟨b, 1, none⟩ u1)).cell? ⟨b, 1, none⟩ = some u1 ∧ ((((w.setCell ⟨b, 0, none⟩ u0).setCell ⟨b, 1, none⟩ u1).setCell ⟨b, 2, none⟩ u2)).cell? ⟨b, 2, none⟩ = some u2 ∧ (((((w.setCell ⟨b, 0, none⟩ u0).setCell ⟨b, 1, none⟩ u1).setCell ⟨b, 2, none⟩ u2).setCell ⟨b, 3, none⟩ u3)).cell? ⟨b, 3, none⟩ = some u3 ∧ ((((((w.setCell ⟨b, 0, none⟩ u0).setCell ⟨b, 1, none⟩ u1).setCell ⟨b, 2, none⟩ u2).setCell ⟨b, 3, none⟩ u3).setCell ⟨b, 4, none⟩ u4)).cell? ⟨b, 4, none⟩ = some u4 ∧ (((((((w.setCell ⟨b, 0, none⟩ u0).setCell ⟨b, 1, none⟩ u1).setCell ⟨b, 2, none⟩ u2).setCell ⟨b, 3, none⟩ u3).setCell ⟨b, 4, none⟩ u4).setCell ⟨b, 5, none⟩ u5)).cell? ⟨b, 5, none⟩ = some u5 := by
  obtain ⟨k0, _, k1, _, k2, _, k3, _, k4, _, k5, _, _⟩ := h
  refine ⟨World.cell?_setCell_same' _ _ _ ?_, World.cell?_setCell_same' _ _ _ ?_, World.cell?_setCell_same' _ _ _ ?_, World.cell?_setCell_same' _ _ _ ?_, World.cell?_setCell_same' _ _ _ ?_, World.cell?_setCell_same' _ _ _ ?_⟩
  · simp [go_sem, k0]
  · simp [go_sem, k1]
  · simp [go_sem, k2]
  · simp [go_sem, k3]
  · simp [go_sem, k4]
  · simp [go_sem, k5]

end Go.Proofs.YtafbnmiipfkohaaGreatDoor

/-
  The contracts of logic's parts (and its two functions) and makes.
-/
namespace Go.Proofs.YtafbnmiipfkohaaGreatDoor
open Go.ChangeShapes Go.WideShapes Go.ChangeAt Go.RowKit Go.Deep
open Terms

/-- what the functions that tell of the parts stand on: the box of holds, the row behind it, the boxes of the formula and of the place. -/
structure PartsAt (w : World) (bh bf bp bH n B pl : Nat) (h : Nat → Bool) (l : List (Int × Int)) : Prop where
  holds : w.cell? ⟨bh, 0, none⟩ = some (.slice (some ⟨bH, 0, none⟩) n n)
  row : ∀ j, j < n → w.cell? ⟨bH, j, none⟩ = some (.bool (h j))
  ends : w.cell? ⟨bf, 1, none⟩ = some (.slice (some ⟨B, 0, none⟩) n n)
  erow : ∀ j, j < n → w.cell? ⟨B, j, none⟩ = some (.int .i64 (endAt (l.map Prod.fst) j))
  place : w.cell? ⟨bp, 0, none⟩ = some (.int .i64 pl)

set_option maxRecDepth 20000 in
theorem first_any (bh bp bH n pl : Nat) (x : Bool) (w : World) (hn : n ≤ 60) (hp : pl + 1 < n) (c0 : w.cell? ⟨bh, 0, none⟩ = some (.slice (some ⟨bH, 0, none⟩) n n)) (c1 : w.cell? ⟨bp, 0, none⟩ = some (.int .i64 pl)) (c2 : w.cell? ⟨bH, pl + 1, none⟩ = some (.bool x)) :
    Calls Tryz.prog 122 #[.pointer (some ⟨bh, 0, none⟩), .pointer (some ⟨bp, 0, none⟩)] w fun e w' => e = .returned (.bool x) ∧ w' = w := by
  go_enter Tryz.func122, Tryz.ntmps122
  go_wp2_with fail
  go_ret
  exact ⟨rfl, rfl⟩

set_option maxRecDepth 20000 in
theorem second_any (bh bf bp bH n B pl s : Nat) (x : Bool) (w : World) (hn : n ≤ 60) (hp : pl + 1 < n) (hs : s < n) (c0 : w.cell? ⟨bh, 0, none⟩ = some (.slice (some ⟨bH, 0, none⟩) n n)) (c1 : w.cell? ⟨bp, 0, none⟩ = some (.int .i64 pl)) (c2 : w.cell? ⟨bf, 1, none⟩ = some (.slice (some ⟨B, 0, none⟩) n n)) (c3 : w.cell? ⟨B, pl + 1, none⟩ = some (.int .i64 s)) (c4 : w.cell? ⟨bH, s, none⟩ = some (.bool x)) :
    Calls Tryz.prog 123 #[.pointer (some ⟨bh, 0, none⟩), .pointer (some ⟨bf, 0, none⟩), .pointer (some ⟨bp, 0, none⟩)] w fun e w' => e = .returned (.bool x) ∧ ∃ q, w' = w.drewN q := by
  go_enter Tryz.func123, Tryz.ntmps123
  go_wp2_with fail
  go_quiet (fail)
  go_wp2_with fail
  go_ret
  exact ⟨rfl, _, rfl⟩

/-- the two functions that parts hands back. -/
def fst2 (bh bp : Nat) : Value := .func (.func 122) #[] #[.pointer (some ⟨bh, 0, none⟩), .pointer (some ⟨bp, 0, none⟩)]
def snd2 (bh bf bp : Nat) : Value := .func (.func 123) #[] #[.pointer (some ⟨bh, 0, none⟩), .pointer (some ⟨bf, 0, none⟩), .pointer (some ⟨bp, 0, none⟩)]

set_option maxRecDepth 20000 in
theorem parts_any (b off cap n B bH pl : Nat) (av : Value) (h : Nat → Bool) (l : List (Int × Int)) (aao : Option Addr) (an ac : Nat) (hav : av = .slice aao an ac) (w : World) (hr : ∀ j, j < n → w.cell? ⟨bH, j, none⟩ = some (.bool (h j))) (hbH : bH < w.heap.size) (he : ∀ j, j < n → w.cell? ⟨B, j, none⟩ = some (.int .i64 (endAt (l.map Prod.fst) j))) (hbB : B < w.heap.size) :
    Calls Tryz.prog 98 #[.agg #[.slice (some ⟨b, off, none⟩) n cap, .slice (some ⟨B, 0, none⟩) n n, av], .int .i64 pl, .slice (some ⟨bH, 0, none⟩) n n] w fun e w' =>
      e = .returned (.tuple #[.func (.func 122) #[] #[.pointer (some ⟨w.heap.size + 1 + 1, 0, none⟩), .pointer (some ⟨w.heap.size + 1, 0, none⟩)], .func (.func 123) #[] #[.pointer (some ⟨w.heap.size + 1 + 1, 0, none⟩), .pointer (some ⟨w.heap.size, 0, none⟩), .pointer (some ⟨w.heap.size + 1, 0, none⟩)]]) ∧ Below w.heap.size w w' ∧ Hid (PartsAt w' (w.heap.size + 1 + 1) w.heap.size (w.heap.size + 1) bH n B pl h l) := by
  subst hav
  have HR := (show Hid _ from hr)
  have HE := (show Hid _ from he)
  clear hr he
  go_enter Tryz.func98, Tryz.ntmps98
  go_wp2_with fail
  go_ret2
  have hb : Below w.heap.size w (((w.alloc (.cells #[.slice (some ⟨b, off, none⟩) n cap, .slice (some ⟨B, 0, none⟩) n n, .slice aao an ac] 130)).alloc (.cells #[.int .i64 pl] 3)).alloc (.cells #[.slice (some ⟨bH, 0, none⟩) n n] 58)) := (((Below.refl _ _).alloc (Nat.le_refl _) _).alloc (by simp) _).alloc (by simp; omega) _
  refine ⟨rfl, hb, ?_⟩
  show PartsAt _ _ _ _ _ _ _ _ _ _
  constructor
  · simp [go_sem]
  · exact fun j hj => (hb.cell (p := ⟨bH, j, none⟩) hbH).trans (HR.out j hj)
  · simp [go_sem]
  · exact fun j hj => (hb.cell (p := ⟨B, j, none⟩) hbB).trans (HE.out j hj)
  · simp [go_sem]
set_option maxRecDepth 20000 in
theorem PartsAt.below {w w' : World} {bh bf bp bH n B pl : Nat} {h : Nat → Bool} {l : List (Int × Int)} (p : PartsAt w bh bf bp bH n B pl h l) (hb : Below w.heap.size w w') (h1 : bh < w.heap.size) (h2 : bf < w.heap.size) (h3 : bp < w.heap.size) (h4 : bH < w.heap.size) (h5 : B < w.heap.size) : PartsAt w' bh bf bp bH n B pl h l :=
  ⟨(hb.cell (p := ⟨bh, 0, none⟩) h1).trans p.holds, fun j hj => (hb.cell (p := ⟨bH, j, none⟩) h4).trans (p.row j hj), (hb.cell (p := ⟨bf, 1, none⟩) h2).trans p.ends, fun j hj => (hb.cell (p := ⟨B, j, none⟩) h5).trans (p.erow j hj), (hb.cell (p := ⟨bp, 0, none⟩) h3).trans p.place⟩
set_option maxRecDepth 20000 in
theorem PartsAt.first {w : World} {bh bf bp bH n B pl : Nat} {h : Nat → Bool} {l : List (Int × Int)} (p : PartsAt w bh bf bp bH n B pl h l) (hn : n ≤ 60) (hp : pl + 1 < n) (q : Nat) :
    Calls Tryz.prog 122 #[.pointer (some ⟨bh, 0, none⟩), .pointer (some ⟨bp, 0, none⟩)] (w.drewN q) fun e w' => e = .returned (.bool (h (pl + 1))) ∧ w' = w.drewN q :=
  first_any bh bp bH n pl _ _ hn hp (by simpa using p.holds) (by simpa using p.place) (by simpa using p.row _ hp)
set_option maxRecDepth 20000 in
theorem PartsAt.second {w : World} {bh bf bp bH n B pl : Nat} {h : Nat → Bool} {l : List (Int × Int)} (p : PartsAt w bh bf bp bH n B pl h l) (hn : n ≤ 60) (hp : pl + 1 < n) (hs : sec l pl < n) (q : Nat) :
    Calls Tryz.prog 123 #[.pointer (some ⟨bh, 0, none⟩), .pointer (some ⟨bf, 0, none⟩), .pointer (some ⟨bp, 0, none⟩)] (w.drewN q) fun e w' => e = .returned (.bool (h (sec l pl))) ∧ ∃ r, w' = w.drewN r :=
  (second_any bh bf bp bH n B pl (sec l pl) _ _ hn hp hs (by simpa using p.holds) (by simpa using p.place) (by simpa using p.ends) (by have := p.erow _ hp; unfold sec; simpa using this) (by simpa using p.row _ hs)).mono fun e w' ⟨h1, r, h2⟩ => ⟨h1, q + r, by rw [h2, World.drewN_drewN]⟩

set_option maxHeartbeats 1600000 in
set_option maxRecDepth 20000 in
/-- THE CONTRACT OF makes. -/
theorem makes_any (k v : Int) (lo : Option Addr) (lc bh bf bp bH n B pl : Nat) (letter : List Bool) (h : Nat → Bool) (l : List (Int × Int)) (w : World) (hn : n ≤ 60)
    (hL : BoolsV w (.slice lo letter.length lc) letter) (hP : PartsAt w bh bf bp bH n B pl h l) (b1 : bh < w.heap.size) (b2 : bf < w.heap.size) (b3 : bp < w.heap.size) (b4 : bH < w.heap.size) (b5 : B < w.heap.size)
    (h13 : k = 13 → 0 ≤ v ∧ v < letter.length) (h1 : k = 10 ∨ k = 8 ∨ k = 9 → pl + 1 < n) (h2 : k = 8 ∨ k = 9 → sec l pl < n) :
    Calls Tryz.prog 99 #[.agg #[.int .i64 k, .int .i64 v], .slice lo letter.length lc, .func (.func 122) #[] #[.pointer (some ⟨bh, 0, none⟩), .pointer (some ⟨bp, 0, none⟩)], .func (.func 123) #[] #[.pointer (some ⟨bh, 0, none⟩), .pointer (some ⟨bf, 0, none⟩), .pointer (some ⟨bp, 0, none⟩)]] w fun e w' =>
      e = .returned (.bool (mkB (k, v) letter (h (pl + 1)) (h (sec l pl)))) ∧ Below w.heap.size w w' := by
  have hA : ∀ o, Below w.heap.size w (w.alloc o) := fun o => (Below.refl _ _).alloc (Nat.le_refl _) o
  have hP' := fun o => hP.below (hA o) b1 b2 b3 b4 b5
  by_cases e13 : k = 13
  · subst e13
    obtain ⟨hv0, hv1⟩ := h13 rfl
    obtain ⟨vn, rfl⟩ : ∃ vn : Nat, v = vn := ⟨v.toNat, by omega⟩
    obtain ⟨lo', lc', hls, hll⟩ := hL
    injection hls with e1 e2 e3
    subst e1
    obtain ⟨b, off, rfl, hbl, hat⟩ := hll (by intro h; rw [h] at hv1; simp at hv1; omega)
    have hc := fun o => ((hA o).cell (p := ⟨b, off + vn, none⟩) hbl).trans (hat vn (by omega))
    have hm : mkB (13, (vn : Int)) letter (h (pl + 1)) (h (sec l pl)) = letter.getD vn false := by simp [mkB]
    rw [hm]
    generalize letter.getD vn false = x at hc ⊢
    generalize letter.length = ln at *
    have hvl : vn < ln := by omega
    clear hm hll hat hv0 hv1 h1 h2 h13 hP hP'
    go_enter Tryz.func99, Tryz.ntmps99
    go_wp2_with fail
    go_ret
    exact ⟨rfl, hA _⟩
  · by_cases e11 : k = 11
    · subst e11
      have hm : mkB (11, v) letter (h (pl + 1)) (h (sec l pl)) = true := by simp [mkB]
      rw [hm]
      clear hm hL h1 h2 h13 hP hP' e13
      go_enter Tryz.func99, Tryz.ntmps99
      go_wp2_with fail
      go_ret
      exact ⟨rfl, hA _⟩
    · by_cases e10 : k = 10
      · subst e10
        have hp := h1 (.inl rfl)
        have hf := fun o => (hP' o).first hn hp 0
        have hm : mkB (10, v) letter (h (pl + 1)) (h (sec l pl)) = !h (pl + 1) := by simp [mkB]
        rw [hm]
        generalize h (pl + 1) = x at hf ⊢
        clear hm hL h1 h2 h13 hP hP' e13 e11
        go_enter Tryz.func99, Tryz.ntmps99
        go_wp2_with (go_at_call 122; refine (hf _).mono ?_; rintro e w1 ⟨rfl, rfl⟩)
        go_ret
        exact ⟨rfl, below_drewN (hA _) 0⟩
      · by_cases e8 : k = 8
        · subst e8
          have hp := h1 (.inr (.inl rfl))
          have hs := h2 (.inl rfl)
          have hf := fun o q => (hP' o).first hn hp q
          have hf2 := fun o q => (hP' o).second hn hp hs q
          have hm : mkB (8, v) letter (h (pl + 1)) (h (sec l pl)) = (h (pl + 1) && h (sec l pl)) := by simp [mkB]
          rw [hm]
          generalize h (pl + 1) = x at hf ⊢
          generalize h (sec l pl) = y at hf2 ⊢
          clear hm hL h1 h2 h13 hP hP' e13 e11 e10
          cases x
          · go_enter Tryz.func99, Tryz.ntmps99
            go_wp2_with (go_at_call 122; refine (hf _ 0).mono ?_; rintro e w1 ⟨rfl, rfl⟩)
            go_ret
            exact ⟨rfl, below_drewN (hA _) 0⟩
          · go_enter Tryz.func99, Tryz.ntmps99
            go_wp2_with (first | (go_at_call 122; refine (hf _ 0).mono ?_; rintro e w1 ⟨rfl, rfl⟩) | (go_at_call 123; refine (hf2 _ 0).mono ?_; rintro e w1 ⟨rfl, r, rfl⟩))
            go_ret
            exact ⟨by simp, below_drewN (hA _) _⟩
        · by_cases e9 : k = 9
          · subst e9
            have hp := h1 (.inr (.inr rfl))
            have hs := h2 (.inr rfl)
            have hf := fun o q => (hP' o).first hn hp q
            have hf2 := fun o q => (hP' o).second hn hp hs q
            have hm : mkB (9, v) letter (h (pl + 1)) (h (sec l pl)) = (h (pl + 1) || h (sec l pl)) := by simp [mkB]
            rw [hm]
            generalize h (pl + 1) = x at hf ⊢
            generalize h (sec l pl) = y at hf2 ⊢
            clear hm hL h1 h2 h13 hP hP' e13 e11 e10 e8
            cases x
            · go_enter Tryz.func99, Tryz.ntmps99
              go_wp2_with (first | (go_at_call 122; refine (hf _ 0).mono ?_; rintro e w1 ⟨rfl, rfl⟩) | (go_at_call 123; refine (hf2 _ 0).mono ?_; rintro e w1 ⟨rfl, r, rfl⟩))
              go_ret
              exact ⟨by simp, below_drewN (hA _) _⟩
            · go_enter Tryz.func99, Tryz.ntmps99
              go_wp2_with (go_at_call 122; refine (hf _ 0).mono ?_; rintro e w1 ⟨rfl, rfl⟩)
              go_ret
              exact ⟨rfl, below_drewN (hA _) 0⟩
          · have hm : mkB (k, v) letter (h (pl + 1)) (h (sec l pl)) = false := by simp [mkB, e13, e11, e10, e8, e9]
            rw [hm]
            clear hm hL h1 h2 h13 hP hP'
            go_enter Tryz.func99, Tryz.ntmps99
            go_wp2_with fail
            go_ret
            exact ⟨rfl, hA _⟩
end Go.Proofs.YtafbnmiipfkohaaGreatDoor

/-
  The contract of slices.Backward over a list of ops, for every body that keeps what it reads.
-/
namespace Go.Proofs.YtafbnmiipfkohaaGreatDoor
open Go.ChangeShapes Go.WideShapes Go.ChangeAt Go.RowKit Go.Deep Go.Shelf
open Terms

attribute [local go_sem] Oper.semAt_some

/-- the places from the last one on. -/
def backAt {n : Nat} (h : 0 < n) (j : Nat) : Fin n := ⟨n - 1 - j, by omega⟩
def backTo {n : Nat} (h : 0 < n) (k : Nat) : List (Fin n) := (List.range k).map (backAt h)
set_option maxRecDepth 20000 in
theorem backTo_succ {n : Nat} (h : 0 < n) (k : Nat) : backTo h (k + 1) = backTo h k ++ [backAt h k] := by simp [backTo, List.range_succ]
set_option maxRecDepth 20000 in
theorem backTo_length {n : Nat} (h : 0 < n) (k : Nat) : (backTo h k).length = k := by simp [backTo]
def opV (l : List (Int × Int)) (j : Nat) : Value := .agg #[.int .i64 (l.getD j (0, 0)).1, .int .i64 (l.getD j (0, 0)).2]
def backEnc (l : List (Int × Int)) (n : Nat) (x : Fin n) : Array Value := #[.int .i64 (x.1 : Int), .agg #[.int .i64 (l.getD x.1 (0, 0)).1, .int .i64 (l.getD x.1 (0, 0)).2]]
/-- what a round keeps: what lies below, and the iterator's own box. -/
def BackK (n₀ Bs : Nat) (A B : World) : Prop := Below n₀ A B ∧ B.heap[Bs]? = A.heap[Bs]?

set_option maxRecDepth 100000 in
set_option maxHeartbeats 2000000 in
theorem back1_in (F : Fence) (m : Nat) (h7 : F.fn 121) (hro : F.round = none) (hm : 1 ≤ m) (L Bs n₀ b off n cap : Nat) (l : List (Int × Int)) (h0n : 0 < n) (h60 : n ≤ 60) (hnl : n = l.length) (hb : b < n₀) (J Jx : List (Fin n) → World → Prop)
    (hY : ∀ pre x W, J pre W → pre.length < n → YieldAt F (m - 1) Tryz.prog L (backEnc l n x) W fun e W' =>
      (e = .returned (.bool true) ∧ J (pre ++ [x]) W' ∧ BackK n₀ Bs W W') ∨ (e = .returned (.bool false) ∧ Jx (pre ++ [x]) W'))
    (W : World) (hBs : W.cell? ⟨Bs, 0, none⟩ = some (.slice (some ⟨b, off, none⟩) n cap)) (hc : OpsAt W b off l) (h0 : J [] W) :
    CallsIn F m Tryz.prog 121 #[.func (.yield L) #[] #[], .pointer (some ⟨Bs, 0, none⟩)] W fun e W' => (∃ v, e = .returned v) ∧
      ((∃ ys, ys = backTo h0n n ∧ J ys W') ∨ (∃ pre, (∃ k, k ≤ n ∧ pre = backTo h0n k) ∧ Jx pre W')) := by
  refine callsIn_of_wp Tryz.func121 rfl h7 ?_ hro
  simp only [Tryz.ntmps121, List.size_toArray, List.length_cons, List.length_nil, Nat.reduceAdd, Nat.reduceSub, Array.replicate_succ, Array.replicate_zero, List.push_toArray, List.append_toArray, List.nil_append, List.cons_append]
  have HC : Hid (OpsAt W b off l) := hc
  have HN : Hid (n = l.length) := hnl
  clear hc hnl
  gi_wp2
  gi_loopw [3] (fun i wr => ∃ k : Nat, k ≤ n ∧ i = .int .i64 ((n : Int) - 1 - k) ∧ J (backTo h0n k) wr ∧ BackK n₀ Bs W wr)
    (fun i _ => (intOf i + 1).toNat)
  case atStart => exact ⟨0, Nat.zero_le _, by first | rfl | simp, h0, Below.refl _ _, rfl⟩
  case round =>
    obtain ⟨k, hk, rfl, hJs, hnx, hbx⟩ := hrel
    have hcb : wr.cell? ⟨Bs, 0, none⟩ = some (.slice (some ⟨b, off, none⟩) n cap) := (World.cell?_of_block (w := W) hbx).trans hBs
    by_cases hlt : k < n
    · obtain ⟨p, hp⟩ : ∃ p : Nat, p = n - 1 - k := ⟨_, rfl⟩
      have hpi : (n : Int) - 1 - k = (p : Int) := by omega
      have hpn : p < n := by omega
      obtain ⟨c0, c1⟩ := (HC.out.below hnx hb) p (by rw [← HN.out]; exact hpn)
      obtain ⟨fn, tmps, assign, body, hy, hR⟩ := hY _ (backAt h0n k) wr hJs (by rw [backTo_length]; exact hlt)
      have hba : (backAt h0n k).1 = p := hp.symm
      simp only [backEnc, hba] at hy
      rw [hpi]
      have HPI : Hid ((n : Int) - 1 - k = (p : Int)) := hpi
      clear hp hpi hba
      generalize l.getD p (0, 0) = xy at c0 c1 hy
      obtain ⟨x, y⟩ := xy
      simp only at c0 c1 hy
      gi_wp2
      refine hR.mono ?_
      rintro e W3 (⟨rfl, hJ3, hk3, hk4⟩ | ⟨rfl, hJx3⟩)
      · gi_wp2
        go_roundw
        case rel => exact ⟨k + 1, by omega, by have := HPI.out; first | (congr 1; omega) | (simp; omega), by rw [backTo_succ]; exact hJ3, hnx.trans hk3, hk4.trans hbx⟩
        case measure => have := HPI.out; first | (simp [intOf]; omega) | simp [intOf]
      · gi_wp2
        refine bodyPost_ret (results_none rfl _ _ _) rfl ?_
        exact ⟨⟨_, rfl⟩, .inr ⟨_, ⟨k + 1, by omega, (backTo_succ _ _).symm⟩, hJx3⟩⟩
    · obtain rfl : k = n := by omega
      have hpi : (k : Int) - 1 - k = -1 := by omega
      rw [hpi]
      gi_wp2
      go_end0
      exact ⟨⟨_, rfl⟩, .inl ⟨_, rfl, hJs⟩⟩

set_option maxRecDepth 20000 in
set_option maxHeartbeats 1000000 in
theorem back_in (F : Fence) (m : Nat) (h5 : F.fn 97) (hro : F.round = none) (a : Option Addr) (len cap : Nat) (w : World) :
    CallsIn F m Tryz.prog 97 #[.slice a len cap] w fun e w' => e = .returned (.func (.func 121) #[] #[.pointer (some ⟨w.heap.size, 0, none⟩)]) ∧ w' = w.alloc (.cells #[.slice a len cap] 32) := by
  refine callsIn_of_wp Tryz.func97 rfl h5 ?_ hro
  simp only [Tryz.ntmps97, List.size_toArray, List.length_cons, List.length_nil, Nat.reduceAdd, Nat.reduceSub, Array.replicate_succ, Array.replicate_zero, List.push_toArray, List.append_toArray, List.nil_append, List.cons_append]
  gi_wp2
  go_ret
  exact ⟨rfl, rfl⟩

set_option maxRecDepth 20000 in
theorem back_stops (F : Fence) (m : Nat) (h7 : F.fn 121) (hro : F.round = none) (hm : 1 ≤ m) (Bs n₀ b off n cap : Nat) (l : List (Int × Int)) (h0n : 0 < n) (h60 : n ≤ 60) (hnl : n = l.length) (hb : b < n₀) (w : World) (hBs : Bs < w.heap.size) (hn₀ : n₀ ≤ w.heap.size)
    (hc : w.cell? ⟨Bs, 0, none⟩ = some (.slice (some ⟨b, off, none⟩) n cap)) (hI : OpsAt w b off l) :
    SeqStopsK F m Tryz.prog 121 #[.pointer (some ⟨Bs, 0, none⟩)] (backEnc l n) (BackK n₀ Bs) (fun ys => ys = backTo h0n n)
      (fun pre => ∃ k, k ≤ n ∧ pre = backTo h0n k) n w := fun L J Jx W hW _ _ hY h0 =>
  back1_in F m h7 hro hm L Bs n₀ b off n cap l h0n h60 hnl hb J Jx hY W ((hW.cell (p := ⟨Bs, 0, none⟩) hBs).trans hc) (hI.below (hW.mono hn₀) hb) h0
set_option maxRecDepth 20000 in
theorem backK_t {n₀ Bs : Nat} {A B C : World} (h : BackK n₀ Bs A B) (k : BackK n₀ Bs B C) : BackK n₀ Bs A C := ⟨h.1.trans k.1, k.2.trans h.2⟩
set_option maxRecDepth 20000 in
theorem backK_b {n₀ Bs : Nat} {w : World} (hn : n₀ ≤ w.heap.size) (hB : Bs < w.heap.size) (W : World) (l : Nat) (o o' : Obj) (hl : w.heap.size ≤ l) (h : W.heap[l]? = some o) (h1 : o.isCells = false) (h2 : o.isWalk = false) : BackK n₀ Bs W (W.putObj l o') :=
  ⟨belowK_b hn W l o o' hl h h1 h2, (belowK_b (n₀ := Bs + 1) (w := w) hB W l o o' hl h h1 h2).block Bs (Nat.lt_succ_self _)⟩
end Go.Proofs.YtafbnmiipfkohaaGreatDoor

/-
  A region whose order is drawn, inside of a round: by the plain walk under a condition.
-/
namespace Go.Proofs.YtafbnmiipfkohaaGreatDoor
open Go.ChangeShapes Go.WideShapes Go.ChangeAt Go.RowKit Go.Deep Go.Shelf

set_option maxRecDepth 20000 in
theorem upon_in {P : Program} (L n : Nat) {o : Oper} {a : Act} {next : Act → World → Prop} {Q : Exit → Act → World → Prop} {r : Result Next} (h : o.upon P a next Q r) : o.uponIn (Fence.wide.inRound L) n P a next Q r := by
  have hd : ∀ m : Nat, (Fence.wide.inRound L).depth.isSome = true → 1 ≤ m := fun m h => by simp [Fence.wide, Fence.inRound] at h
  cases r with
  | halt x w' => cases x <;> first | exact h | exact h.elim
  | ok x w' =>
    cases x with
    | value v => exact h
    | skip => exact h
    | defer d => exact h
    | enter f args => exact ⟨hd _, CallsIn.inRound L ((callsIn_wide.2 h).mono fun e w'' he => by cases e <;> exact he)⟩
    | row row args => exact ⟨hd _, fun c cs _ => by obtain ⟨v, w'', h1, h2⟩ := h c cs; exact ⟨v, w'', h1, stepsIn_wide.2 h2⟩⟩
    | _ => exact (h : False).elim

set_option maxRecDepth 20000 in
theorem any_in {P : Program} (L n : Nat) {md : Region.Mode} {ops : Array Oper} {Q : Exit → Act → World → Prop} (hd : ∀ (i : Nat) (o : Oper), ops[i]? = some o → ∀ c, o.op ≠ Op.defer c) (hQ : LetsOut Q → False) :
    ∀ (fuel : Nat) (listed : Array Bool) (a : Act) (w : World), wpAny P md ops Q fuel listed a w → wpAnyIn (Fence.wide.inRound L) n P md ops Q fuel listed a w := by
  intro fuel
  induction fuel with
  | zero => intro listed a w h; exact h
  | succ fuel ih =>
    intro listed a w h
    refine ⟨h.1, fun i hi => ?_⟩
    have h1 := wpOp_mono (K' := wpAnyIn (Fence.wide.inRound L) n P md ops Q fuel (listed.setIfInBounds i true)) (fun a' w' h' => ih _ a' w' h') (h.2 i hi)
    unfold wpOp at h1
    unfold wpOpIn
    cases ho : ops[i]? with
    | none => simp only [ho] at h1 ⊢; exact h1
    | some o =>
      simp only [ho] at h1 ⊢
      split
      · rename_i hw
        rw [if_pos hw] at h1
        rcases h1 with h1 | ⟨_, h1⟩
        · refine ⟨fun f _ => trivial, ?_⟩
          rw [Oper.semAt_eq _ _ _ (hd i o ho)]
          exact upon_in L n h1
        · exact (hQ h1).elim
      · rename_i hw
        rw [if_neg hw] at h1
        exact ⟨fun f _ => trivial, h1⟩

set_option maxRecDepth 20000 in
theorem region_round {P : Program} {L n id : Nat} {ops : Array Oper} {Q : Exit → Act → World → Prop} {a : Act} {w : World} (S : World → Prop) (hm : P.follows .mixedOrders = true) (hd : ∀ (i : Nat) (o : Oper), ops[i]? = some o → ∀ c, o.op ≠ Op.defer c) (hQ : LetsOut Q → False)
    (h : wpAnyH P .any ops Q S ops.size (Array.replicate ops.size false) a w.drew) : (Code.region id ops true).wpIn (Fence.wide.inRound L) n P Q a w :=
  wpIn_region_any hm (any_in L n hd hQ _ _ _ _ (wpAny_of_held _ _ _ _ h))
set_option maxRecDepth 20000 in
theorem wpOp_call {P : Program} {ops : Array Oper} {Q : Exit → Act → World → Prop} {i : Nat} {K : Act → World → Prop} {a : Act} {w : World} {o : Oper} {f : FuncId} {args : Array Value} {R : Ending → World → Prop} (hi : ops[i]? = some o) (hw : Region.wanted o (yielded ops a.tmps) = true) (hr : (execOp a.eval o).run P w = .ok (.enter f args) w) (h : Calls P f args w R)
    (hR : ∀ e w', R e w' → ∃ v, e = .returned v ∧ K (a.put o.dst v) w') : wpOp P ops Q i K a w := by
  unfold wpOp
  simp only [hi]
  rw [if_pos hw]
  refine Or.inl ?_
  unfold Oper.wp
  rw [hr]
  refine h.mono fun e w' he => ?_
  obtain ⟨v, rfl, hk⟩ := hR e w' he
  exact hk
set_option maxRecDepth 20000 in
theorem wpOp_skip {P : Program} {ops : Array Oper} {Q : Exit → Act → World → Prop} {i : Nat} {K : Act → World → Prop} {a : Act} {w w' : World} {o : Oper} (hi : ops[i]? = some o) (hw : Region.wanted o (yielded ops a.tmps) = true) (hr : (execOp a.eval o).run P w = .ok .skip w') (h : K (a.put o.dst undef) w') : wpOp P ops Q i K a w := by
  unfold wpOp
  simp only [hi]
  rw [if_pos hw]
  refine Or.inl ?_
  unfold Oper.wp
  rw [hr]
  exact h
end Go.Proofs.YtafbnmiipfkohaaGreatDoor

/-
  A range over slices.Backward, round by round: the body knows which round it is. (The library's law of a range over a function lets a round have any element: here the place of each round is told.)
-/
namespace Go.Proofs.YtafbnmiipfkohaaGreatDoor
open Go.ChangeShapes Go.WideShapes Go.ChangeAt Go.RowKit Go.Deep Go.Shelf
open Terms

attribute [local go_sem] Oper.semAt_some

/-- what the round of this number is handed. -/
def backArg (l : List (Int × Int)) (n k : Nat) : Array Value := #[.int .i64 ((n - 1 - k : Nat) : Int), .agg #[.int .i64 (l.getD (n - 1 - k) (0, 0)).1, .int .i64 (l.getD (n - 1 - k) (0, 0)).2]]

set_option maxRecDepth 100000 in
set_option maxHeartbeats 2000000 in
/-- THE ITERATOR: n rounds, from the last place to the first. -/
theorem back_by (m : Nat) (L Bs n₀ b off n cap : Nat) (l : List (Int × Int)) (hnl : n = l.length) (h60 : n ≤ 60) (hb : b < n₀) (J : Nat → World → Prop)
    (hY : ∀ k W, k < n → J k W → YieldAt Fence.wide (m - 1) Tryz.prog L (backArg l n k) W fun e W' => e = .returned (.bool true) ∧ J (k + 1) W' ∧ BackK n₀ Bs W W')
    (W : World) (hBs : W.cell? ⟨Bs, 0, none⟩ = some (.slice (some ⟨b, off, none⟩) n cap)) (hc : OpsAt W b off l) (h0 : J 0 W) :
    CallsIn Fence.wide m Tryz.prog 121 #[.func (.yield L) #[] #[], .pointer (some ⟨Bs, 0, none⟩)] W fun e W' => (∃ v, e = .returned v) ∧ J n W' := by
  refine callsIn_of_wp Tryz.func121 rfl trivial ?_ rfl
  simp only [Tryz.ntmps121, List.size_toArray, List.length_cons, List.length_nil, Nat.reduceAdd, Nat.reduceSub, Array.replicate_succ, Array.replicate_zero, List.push_toArray, List.append_toArray, List.nil_append, List.cons_append]
  have HC : Hid (OpsAt W b off l) := hc
  have HN : Hid (n = l.length) := hnl
  clear hc hnl
  gi_wp2
  gi_loopw [3] (fun i wr => ∃ k : Nat, k ≤ n ∧ i = .int .i64 ((n : Int) - 1 - k) ∧ J k wr ∧ BackK n₀ Bs W wr) (fun i _ => (intOf i + 1).toNat)
  case atStart => exact ⟨0, Nat.zero_le _, by first | rfl | simp, h0, Below.refl _ _, rfl⟩
  case round =>
    obtain ⟨k, hk, rfl, hJs, hnx, hbx⟩ := hrel
    have hcb : wr.cell? ⟨Bs, 0, none⟩ = some (.slice (some ⟨b, off, none⟩) n cap) := (World.cell?_of_block (w := W) hbx).trans hBs
    by_cases hlt : k < n
    · obtain ⟨p, hp⟩ : ∃ p : Nat, p = n - 1 - k := ⟨_, rfl⟩
      have hpi : (n : Int) - 1 - k = (p : Int) := by omega
      have hpn : p < n := by omega
      obtain ⟨c0, c1⟩ := (HC.out.below hnx hb) p (by rw [← HN.out]; exact hpn)
      obtain ⟨fn, tmps, assign, body, hy, hR⟩ := hY k wr hlt hJs
      simp only [backArg, ← hp] at hy
      rw [hpi]
      have HPI : Hid ((n : Int) - 1 - k = (p : Int)) := hpi
      clear hp hpi
      generalize l.getD p (0, 0) = xy at c0 c1 hy
      obtain ⟨x, y⟩ := xy
      simp only at c0 c1 hy
      gi_wp2
      refine ⟨fun h => by simp [Fence.wide] at h, hR.mono ?_⟩
      rintro e W3 ⟨rfl, hJ3, hk3, hk4⟩
      gi_wp2
      go_roundw
      case rel => exact ⟨k + 1, by omega, by have := HPI.out; first | (congr 1; omega) | (simp; omega), hJ3, hnx.trans hk3, hk4.trans hbx⟩
      case measure => have := HPI.out; first | (simp [intOf]; omega) | simp [intOf]
    · obtain rfl : k = n := by omega
      have hpi : (k : Int) - 1 - k = -1 := by omega
      rw [hpi]
      gi_wp2
      go_end0
      exact ⟨⟨_, rfl⟩, hJs⟩

/-- how a round ends: it goes on. -/
def roundEnd (B : Nat) (Kp : World → World → Prop) (J : World → Prop) (W : World) : Exit → Act → World → Prop
  | .normal, _, W' => KeepsFrom B W W' ∧ Kp W W' ∧ J W'
  | _, _, _ => False

set_option maxRecDepth 20000 in
set_option maxHeartbeats 1000000 in
/-- THE RANGE: of rounds that all go on, each of which knows its number. -/
theorem range_by {P : Program} {g : Operand} {ps : Array Tmp} {assign body : Code} {Q : Exit → Act → World → Prop} {a : Act} {w : World} {m gf N : Nat} {lb : Array Value}
    (hm : 1 ≤ m) (hg : a.eval g = .func (.func gf) #[] lb) (eg : ∀ args w, (callFunc gf args).run P w = .ok (.enter gf args) w) (arg : Nat → Array Value) (hps : ∀ k, (arg k).size = ps.size) (Kp : World → World → Prop)
    (hseq : ∀ (l : Nat) (J : Nat → World → Prop) (W : World), Below w.heap.size w W → (∀ k W1, k < N → J k W1 → YieldAt Fence.wide (m - 1 - 1) P l (arg k) W1 fun e W' => e = .returned (.bool true) ∧ J (k + 1) W' ∧ Kp W1 W') → J 0 W → CallsIn Fence.wide (m - 1) P gf (#[.func (.yield l) #[] #[]] ++ lb) W fun e W' => (∃ v, e = .returned v) ∧ J N W')
    (hKt : ∀ {A B C : World}, Kp A B → Kp B C → Kp A C) (hKb : ∀ (W : World) (l : Nat) (o o' : Obj), w.heap.size ≤ l → W.heap[l]? = some o → o.isCells = false → o.isWalk = false → Kp W (W.putObj l o'))
    (I : Nat → World → Prop) (hI : OwnFrom w.heap.size I) (h0 : I 0 w) (Ax : Nat → Act → World → Prop) (hAx : ∀ k a', OwnFrom w.heap.size (fun (_ : Unit) W => Ax k a' W))
    (hassign : ∀ (l k : Nat) (W : World) (K : Act → World → Prop), k < N → I k W → (∀ a' W', KeepsFrom w.heap.size W W' → Kp W W' → I k W' → Ax k a' W' → K a' W') →
      assign.wpIn (Fence.wide.inRound l) (m - 1 - 1) P (Exit.then K (fun _ _ _ => False)) { tmps := (ps.zip (arg k)).foldl (fun t (p, v) => t.setIfInBounds p v) a.tmps, defers := [] } W)
    (hbody : ∀ (l k : Nat) (a' : Act) (W : World), k < N → I k W → Ax k a' W → body.wpIn (Fence.wide.inRound l) (m - 1 - 1) P (roundEnd w.heap.size Kp (I (k + 1)) W) a' W)
    (hdone : ∀ (D : Nat) (W : World), w.heap.size ≤ D → I N W → W.heap[D]? = some (.deferred (some [])) → Q .normal { a with defers := { target := .collected D, args := #[] } :: a.defers } W) :
    (Code.rangeFunc g ps assign body).wpIn Fence.wide m P Q a w := by
  refine wpIn_rangeFunc ?_
  intro fn hfn
  rw [show Fence.wide.round = none from rfl]
  -- the two blocks of the range itself: what was deferred (D), and its record (R)
  obtain ⟨mk, hmk⟩ : ∃ mk : LoopState → Loop, mk = fun st => { state := st, pending := none, fn, tmps := a.tmps, params := ps, assign, body, defers := w.heap.size } := ⟨_, rfl⟩
  obtain ⟨X, hX⟩ : ∃ X, X = (w.alloc (.deferred (some []))).alloc (.loop (mk .ready)) := ⟨_, rfl⟩
  obtain ⟨R, hR⟩ : ∃ R, R = w.heap.size + 1 := ⟨_, rfl⟩
  have hXR : X.heap[R]? = some (.loop (mk .ready)) := by
    have := World.alloc_heap_new (w.alloc (.deferred (some []))) (.loop (mk .ready))
    rw [World.size_alloc, ← hX, ← hR] at this
    exact this
  have hXD : X.heap[w.heap.size]? = some (.deferred (some [])) := by
    rw [hX]; exact (Below.heap_alloc _ _ _ (by simp)).trans (World.alloc_heap_new w _)
  have hXI : I 0 X := by rw [hX]; exact hI.alloc _ (hI.alloc _ h0)
  have hXB : Below w.heap.size w X := by rw [hX]; exact ((Below.refl _ w).alloc (Nat.le_refl _) _).alloc (by simp) _
  refine ⟨R, [{ target := .collected w.heap.size, args := #[] }], X, { target := .fn (.func gf) lb, args := #[.func (.yield R) #[] #[]] }, X, gf, #[.func (.yield R) #[] #[]] ++ lb, X, ?_, ?_, ?_, ?_, fun _ => hm, ?_⟩
  · rw [hX, hR, hmk]; exact run_enterLoop_outer _ _ _ _ _
  · simp only [resolve, hg]
    simp [go_sem]
  · intro f' _; trivial
  · simp [invoke, go_sem, eg]
  -- the iterator, with what the range keeps beside the caller's own
  refine (hseq R (fun k W => I k W ∧ W.heap[R]? = some (.loop (mk .ready)) ∧ W.heap[w.heap.size]? = some (.deferred (some []))) X hXB ?_ ⟨hXI, hXR, hXD⟩).mono ?_
  · rintro k W hkN ⟨hi, hl, hd⟩
    have hy := run_yield (P := P) (args := arg k) hl (by rw [hmk]; exact hps k)
    rw [hmk] at hy
    refine ⟨fn, _, assign, body, hy, roundIn_of_wpIn hfn (hassign _ k W _ hkN hi ?_)⟩
    intro a' V hf hp hiV hax
    have hlV := hf.same _ _ (by omega) hl rfl
    have hdV := hf.same _ _ (Nat.le_refl _) hd rfl
    have hRV : R < V.heap.size := (Array.getElem?_eq_some_iff.1 hlV).1
    refine ⟨_, run_beginRound hlV (by rw [hmk]), ?_⟩
    obtain ⟨U, hU⟩ : ∃ U, U = V.putObj R (.loop { mk .ready with state := .busy }) := ⟨_, rfl⟩
    have hUR : U.heap[R]? = some (.loop { mk .ready with state := .busy }) := by rw [hU]; exact World.putObj_heap_same hRV
    have hUD : U.heap[w.heap.size]? = some (.deferred (some [])) := by rw [hU]; exact (World.putObj_heap_other (by omega)).trans hdV
    have hUK : Kp V U := by rw [hU]; exact hKb _ _ _ _ (by omega) hlV rfl rfl
    have hUI : I k U := by rw [hU]; exact hI.putObj _ hiV (by omega) hlV rfl
    have hUA : Ax k a' U := by rw [hU]; exact (hAx k a').putObj (s := ()) _ hax (by omega) hlV rfl
    rw [← hU]
    refine wpIn_mono (hbody _ k a' U hkN hUI hUA) ?_
    rintro e a3 Z hz
    cases e with
    | normal =>
      obtain ⟨hfZ, hpZ, hiZ⟩ := hz
      have hlZ := hfZ.same _ _ (by omega) hUR rfl
      have hdZ := hfZ.same _ _ (Nat.le_refl _) hUD rfl
      have hr := run_endRound (P := P) none hlZ
      have hRZ : R < Z.heap.size := (Array.getElem?_eq_some_iff.1 hlZ).1
      refine ⟨_, _, hr, rfl, ⟨hI.putObj _ hiZ (by omega) hlZ rfl, ?_, (World.putObj_heap_other (by omega)).trans hdZ⟩, hKt hp (hKt (hKt hUK hpZ) (hKb _ _ _ _ (by omega) hlZ rfl rfl))⟩
      rw [World.putObj_heap_same hRZ, hmk]
      rfl
    | _ => exact hz.elim
  · rintro e W2 ⟨⟨v, rfl⟩, hi, hl, hd⟩
    exact ⟨none, _, by have := run_endLoop (P := P) hl (by rw [hmk]; simp); rw [hmk] at this; exact this, hdone _ _ (Nat.le_refl _) (hI.putObj _ hi (by omega) hl rfl) ((World.putObj_heap_other (by omega)).trans hd)⟩
end Go.Proofs.YtafbnmiipfkohaaGreatDoor

/-
  The table that word's fill makes, under way.
-/
namespace Go.Proofs.YtafbnmiipfkohaaGreatDoor
open Go.ChangeShapes Go.WideShapes Go.ChangeAt Go.RowKit Go.Deep Go.Shelf
open Terms

set_option maxRecDepth 20000 in
theorem owns_block_eq {w w' : World} {base g cap k : Nat} {e : TypeId} {s n : Nat} {xs : List Value} (h : w.ownsRow base e s (.slice (some ⟨g, 0, none⟩) n cap) k xs) (hh : w'.heap[g]? = w.heap[g]?) : w'.ownsRow base e s (.slice (some ⟨g, 0, none⟩) n cap) k xs := by
  obtain ⟨h1, h2⟩ := h
  refine ⟨h1, ?_⟩
  rcases h2 with ⟨h2, _⟩ | ⟨g', cap', cur, hv, hg, hc, r⟩
  · simp at h2
  · have hgg : g = g' := by simp at hv; exact hv.1
    subst hgg
    exact .inr ⟨g, cap', cur, hv, hg, hh.trans hc, r⟩
set_option maxRecDepth 20000 in
theorem Six.block {w w' : World} {b : Nat} {x0 x1 x2 x3 x4 x5 : Value} (h : Six w b x0 x1 x2 x3 x4 x5) (hh : w'.heap[b]? = w.heap[b]?) (hs : w.heap.size ≤ w'.heap.size) : Six w' b x0 x1 x2 x3 x4 x5 :=
  ⟨(World.cell?_of_block (w := w) hh).trans h.k0, (World.frozen?_of_block (w := w) hh).trans h.f0, (World.cell?_of_block (w := w) hh).trans h.k1, (World.frozen?_of_block (w := w) hh).trans h.f1, (World.cell?_of_block (w := w) hh).trans h.k2, (World.frozen?_of_block (w := w) hh).trans h.f2, (World.cell?_of_block (w := w) hh).trans h.k3, (World.frozen?_of_block (w := w) hh).trans h.f3, (World.cell?_of_block (w := w) hh).trans h.k4, (World.frozen?_of_block (w := w) hh).trans h.f4, (World.cell?_of_block (w := w) hh).trans h.k5, (World.frozen?_of_block (w := w) hh).trans h.f5, Nat.lt_of_lt_of_le h.hl hs⟩
set_option maxRecDepth 20000 in
theorem row_apart {w : World} {b b' t t' n n' : Nat} {f f' : Nat → Value} (h : w.rowIs b t n f) (h' : w.rowIs b' t' n' f') (ht : t ≠ t') : b ≠ b' := by
  rintro rfl
  obtain ⟨c, h1, _⟩ := h
  obtain ⟨c', h2, _⟩ := h'
  rw [h1] at h2
  simp at h2
  exact ht h2.2
set_option maxRecDepth 20000 in
theorem row_kept {w w' : World} {b t n : Nat} {f : Nat → Value} {row : Option Nat} (h : w.rowIs b t n f) (hg : w.grownBy w' row) (hrow : ∀ r, row = some r → ∃ o : Obj, w.heap[r]? = some o ∧ o.isCells = false) : w'.rowIs b t n f := by
  obtain ⟨c, h1, h2⟩ := id h
  exact h.of_block (grownBy_keeps_cells hg hrow h1 rfl)

set_option maxRecDepth 20000 in
/-- six stores: all six are there. -/
theorem Six.chain {w : World} {b : Nat} {x0 x1 x2 x3 x4 x5 : Value} (h : Six w b x0 x1 x2 x3 x4 x5) (u0 u1 u2 u3 u4 u5 : Value) : (((((((w.setCell ⟨b, 0, none⟩ u0).setCell ⟨b, 1, none⟩ u1).setCell ⟨b, 2, none⟩ u2).setCell ⟨b, 3, none⟩ u3).setCell ⟨b, 4, none⟩ u4).setCell ⟨b, 5, none⟩ u5)).cell? ⟨b, 0, none⟩ = some u0 ∧ (((((((w.setCell ⟨b, 0, none⟩ u0).setCell ⟨b, 1, none⟩ u1).setCell ⟨b, 2, none⟩ u2).setCell ⟨b, 3, none⟩ u3).setCell ⟨b, 4, none⟩ u4).setCell ⟨b, 5, none⟩ u5)).cell? ⟨b, 1, none⟩ = some u1 ∧ (((((((w.setCell ⟨b, 0, none⟩ u0).setCell ⟨b, 1, none⟩ u1).setCell ⟨b, 2, none⟩ u2).setCell ⟨b, 3, none⟩ u3).setCell ⟨b, 4, none⟩ u4).setCell ⟨b, 5, none⟩ u5)).cell? ⟨b, 2, none⟩ = some u2 ∧ (((((((w.setCell ⟨b, 0, none⟩ u0).setCell ⟨b, 1, none⟩ u1).setCell ⟨b, 2, none⟩ u2).setCell ⟨b, 3, none⟩ u3).setCell ⟨b, 4, none⟩ u4).setCell ⟨b, 5, none⟩ u5)).cell? ⟨b, 3, none⟩ = some u3 ∧ (((((((w.setCell ⟨b, 0, none⟩ u0).setCell ⟨b, 1, none⟩ u1).setCell ⟨b, 2, none⟩ u2).setCell ⟨b, 3, none⟩ u3).setCell ⟨b, 4, none⟩ u4).setCell ⟨b, 5, none⟩ u5)).cell? ⟨b, 4, none⟩ = some u4 ∧ (((((((w.setCell ⟨b, 0, none⟩ u0).setCell ⟨b, 1, none⟩ u1).setCell ⟨b, 2, none⟩ u2).setCell ⟨b, 3, none⟩ u3).setCell ⟨b, 4, none⟩ u4).setCell ⟨b, 5, none⟩ u5)).cell? ⟨b, 5, none⟩ = some u5 := by
  obtain ⟨q0, q1, q2, q3, q4, q5⟩ := h.read u0 u1 u2 u3 u4 u5
  have ho : ∀ (X : World) (i j : Nat) (u : Value), i ≠ j → (X.setCell ⟨b, i, none⟩ u).cell? ⟨b, j, none⟩ = X.cell? ⟨b, j, none⟩ := fun X i j u hij => World.cell?_setCell_other _ _ _ _ (by intro e; injection e with _ e2; exact hij e2)
  refine ⟨?_, ?_, ?_, ?_, ?_, q5⟩
  · rw [ho _ 5 0 _ (by decide), ho _ 4 0 _ (by decide), ho _ 3 0 _ (by decide), ho _ 2 0 _ (by decide), ho _ 1 0 _ (by decide)]; exact q0
  · rw [ho _ 5 1 _ (by decide), ho _ 4 1 _ (by decide), ho _ 3 1 _ (by decide), ho _ 2 1 _ (by decide)]; exact q1
  · rw [ho _ 5 2 _ (by decide), ho _ 4 2 _ (by decide), ho _ 3 2 _ (by decide)]; exact q2
  · rw [ho _ 5 3 _ (by decide), ho _ 4 3 _ (by decide)]; exact q3
  · rw [ho _ 5 4 _ (by decide)]; exact q4
set_option maxRecDepth 20000 in
theorem chain_block (w : World) (b z : Nat) (hz : z ≠ b) (u0 u1 u2 u3 u4 u5 : Value) : (((((((w.setCell ⟨b, 0, none⟩ u0).setCell ⟨b, 1, none⟩ u1).setCell ⟨b, 2, none⟩ u2).setCell ⟨b, 3, none⟩ u3).setCell ⟨b, 4, none⟩ u4).setCell ⟨b, 5, none⟩ u5)).heap[z]? = w.heap[z]? := by
  rw [Below.heap_setCell _ _ _ z hz, Below.heap_setCell _ _ _ z hz, Below.heap_setCell _ _ _ z hz, Below.heap_setCell _ _ _ z hz, Below.heap_setCell _ _ _ z hz, Below.heap_setCell _ _ _ z hz]
set_option maxRecDepth 20000 in
theorem chain_far (w : World) (b z q : Nat) (hz : z ≠ b) (u0 u1 u2 u3 u4 u5 : Value) : (((((((w.setCell ⟨b, 0, none⟩ u0).setCell ⟨b, 1, none⟩ u1).setCell ⟨b, 2, none⟩ u2).setCell ⟨b, 3, none⟩ u3).setCell ⟨b, 4, none⟩ u4).setCell ⟨b, 5, none⟩ u5)).cell? ⟨z, q, none⟩ = w.cell? ⟨z, q, none⟩ := by
  have h := chain_block w b z hz u0 u1 u2 u3 u4 u5
  simp only [World.cell?, h]
/-- the table when the last k places are filled. -/
structure FiJ (w w3 : World) (b off n cap B : Nat) (aao : Option Addr) (an ac m sn : Nat) (ls : List (List Bool)) (t : Tm) (TB CB ccap RB W0s : Nat) (k : Nat) (W : World) : Prop where
  below : Below w3.heap.size w3 W
  tab : Six W TB (.slice (some ⟨b, off, none⟩) n cap) (.slice (some ⟨B, 0, none⟩) n n) (.slice aao an ac) (.slice (some ⟨CB, 0, none⟩) m ccap) (.int .i64 (sn : Int)) (.slice (some ⟨RB, 0, none⟩) n n)
  lets : ∃ us, W.ownsRow w3.heap.size 58 1 (.slice (some ⟨CB, 0, none⟩) m ccap) us.length us ∧ LetsU w us ls
  rows : ∃ f, W.rowIs RB 58 n f ∧ ∀ q, n - k ≤ q → q < n → ∃ rb, f q = .slice (some ⟨rb, 0, none⟩) m m ∧ W.rowIs rb 4 m (fun j => .bool ((t.sub q).hb (sig ls sn) j))
  size : W0s ≤ W.heap.size
set_option maxRecDepth 20000 in
theorem FiJ.later {w w3 : World} {b off n cap B : Nat} {aao : Option Addr} {an ac m sn : Nat} {ls : List (List Bool)} {t : Tm} {TB CB ccap RB W0s : Nat} {k : Nat} {W W' : World} (h : FiJ w w3 b off n cap B aao an ac m sn ls t TB CB ccap RB W0s k W) (hb : Below W.heap.size W W') : FiJ w w3 b off n cap B aao an ac m sn ls t TB CB ccap RB W0s k W' := by
  obtain ⟨us, h1, h2⟩ := h.lets
  obtain ⟨f, h3, h4⟩ := h.rows
  refine ⟨h.below.trans (hb.mono h.below.size), h.tab.below hb h.tab.hl, ⟨us, owns_later h1 hb (Nat.le_refl _), h2⟩, ⟨f, row_later h3 hb, fun q a b => ?_⟩, Nat.le_trans h.size hb.size⟩
  obtain ⟨rb, e1, e2⟩ := h4 q a b
  exact ⟨rb, e1, row_later e2 hb⟩
set_option maxRecDepth 20000 in
theorem FiJ.kept {w w3 : World} {b off n cap B : Nat} {aao : Option Addr} {an ac m sn : Nat} {ls : List (List Bool)} {t : Tm} {TB CB ccap RB W0s : Nat} {k base : Nat} {W W' : World} {row : Option Nat} (h : FiJ w w3 b off n cap B aao an ac m sn ls t TB CB ccap RB W0s k W) (hg : W.grownBy W' row) (hr : ∀ r, row = some r → base ≤ r ∧ ∃ o : Obj, W.heap[r]? = some o ∧ o.isCells = false) (h3 : w3.heap.size ≤ base) (hT : TB < base) (hC : CB < base) (hbW : base ≤ W.heap.size) : FiJ w w3 b off n cap B aao an ac m sn ls t TB CB ccap RB W0s k W' := by
  have hb : Below base W W' := (Below.refl _ _).grown hg hbW (fun z e => (hr z e).1)
  obtain ⟨us, h1, h2⟩ := h.lets
  obtain ⟨f, h4, h5⟩ := h.rows
  refine ⟨h.below.trans (hb.mono h3), h.tab.below hb hT, ⟨us, owns_block_eq h1 (hb.block CB hC), h2⟩, ⟨f, row_kept h4 hg (fun r e => (hr r e).2), fun q a b => ?_⟩, Nat.le_trans h.size hb.size⟩
  obtain ⟨rb, e1, e2⟩ := h5 q a b
  exact ⟨rb, e1, row_kept e2 hg (fun r e => (hr r e).2)⟩
set_option maxRecDepth 20000 in
/-- one place more. -/
theorem FiJ.put {w w3 : World} {b off n cap B : Nat} {aao : Option Addr} {an ac m sn : Nat} {ls : List (List Bool)} {t : Tm} {TB CB ccap RB W0s : Nat} {k rb : Nat} {W : World} (h : FiJ w w3 b off n cap B aao an ac m sn ls t TB CB ccap RB W0s k W) (hk : k < n) (hTR : TB ≠ RB) (hCR : CB ≠ RB) (hR3 : w3.heap.size ≤ RB) (hrow : W.rowIs rb 4 m (fun j => .bool ((t.sub (n - 1 - k)).hb (sig ls sn) j))) : FiJ w w3 b off n cap B aao an ac m sn ls t TB CB ccap RB W0s (k + 1) (W.setCell ⟨RB, n - 1 - k, none⟩ (.slice (some ⟨rb, 0, none⟩) m m)) := by
  have hb : ∀ z, z ≠ RB → (W.setCell ⟨RB, n - 1 - k, none⟩ (.slice (some ⟨rb, 0, none⟩) m m)).heap[z]? = W.heap[z]? := fun z hz => Below.heap_setCell W _ _ z hz
  have hsz : (W.setCell ⟨RB, n - 1 - k, none⟩ (.slice (some ⟨rb, 0, none⟩) m m)).heap.size = W.heap.size := by simp
  obtain ⟨us, h1, h2⟩ := h.lets
  obtain ⟨f, h4, h5⟩ := h.rows
  refine ⟨h.below.setCell hR3 _, h.tab.block (hb TB hTR) (by omega), ⟨us, owns_block_eq h1 (hb CB hCR), h2⟩, ⟨_, h4.set (n - 1 - k) _, fun q a b => ?_⟩, by rw [hsz]; exact h.size⟩
  by_cases hq : q = n - 1 - k
  · subst hq
    exact ⟨rb, if_pos rfl, hrow.of_block (hb rb (row_apart hrow h4 (by decide)))⟩
  · obtain ⟨r, e1, e2⟩ := h5 q (by omega) b
    exact ⟨r, (if_neg hq).trans e1, e2.of_block (hb r (row_apart e2 h4 (by decide)))⟩
set_option maxRecDepth 20000 in
/-- the beginning: the table's box is written. -/
theorem FiJ.start {w w3 : World} {b off n cap B : Nat} {aao : Option Addr} {an ac m sn : Nat} {ls : List (List Bool)} {t : Tm} {TB CB ccap RB W0s : Nat} {Y : World} (hY : Below w3.heap.size w3 Y) (h6 : Six Y TB (.slice none 0 0) (.slice none 0 0) (.slice none 0 0) (.slice none 0 0) (.int .i64 0) (.slice none 0 0)) (hlets : ∃ us, Y.ownsRow w3.heap.size 58 1 (.slice (some ⟨CB, 0, none⟩) m ccap) us.length us ∧ LetsU w us ls) (hrow : Y.rowIs RB 58 n (fun _ => .slice none 0 0)) (h3 : w3.heap.size ≤ TB) (hTR : TB ≠ RB) (hTC : TB ≠ CB) (hz : W0s ≤ Y.heap.size) : FiJ w w3 b off n cap B aao an ac m sn ls t TB CB ccap RB W0s 0 (((((((Y.setCell ⟨TB, 0, none⟩ (.slice (some ⟨b, off, none⟩) n cap)).setCell ⟨TB, 1, none⟩ (.slice (some ⟨B, 0, none⟩) n n)).setCell ⟨TB, 2, none⟩ (.slice aao an ac)).setCell ⟨TB, 3, none⟩ (.slice (some ⟨CB, 0, none⟩) m ccap)).setCell ⟨TB, 4, none⟩ (.int .i64 (sn : Int))).setCell ⟨TB, 5, none⟩ (.slice (some ⟨RB, 0, none⟩) n n))) := by
  have hb : ∀ z, z ≠ TB → (((((((Y.setCell ⟨TB, 0, none⟩ (.slice (some ⟨b, off, none⟩) n cap)).setCell ⟨TB, 1, none⟩ (.slice (some ⟨B, 0, none⟩) n n)).setCell ⟨TB, 2, none⟩ (.slice aao an ac)).setCell ⟨TB, 3, none⟩ (.slice (some ⟨CB, 0, none⟩) m ccap)).setCell ⟨TB, 4, none⟩ (.int .i64 (sn : Int))).setCell ⟨TB, 5, none⟩ (.slice (some ⟨RB, 0, none⟩) n n))).heap[z]? = Y.heap[z]? := fun z hz => by
    rw [Below.heap_setCell _ _ _ z hz, Below.heap_setCell _ _ _ z hz, Below.heap_setCell _ _ _ z hz, Below.heap_setCell _ _ _ z hz, Below.heap_setCell _ _ _ z hz, Below.heap_setCell _ _ _ z hz]
  have hf : ∀ q, (((((((Y.setCell ⟨TB, 0, none⟩ (.slice (some ⟨b, off, none⟩) n cap)).setCell ⟨TB, 1, none⟩ (.slice (some ⟨B, 0, none⟩) n n)).setCell ⟨TB, 2, none⟩ (.slice aao an ac)).setCell ⟨TB, 3, none⟩ (.slice (some ⟨CB, 0, none⟩) m ccap)).setCell ⟨TB, 4, none⟩ (.int .i64 (sn : Int))).setCell ⟨TB, 5, none⟩ (.slice (some ⟨RB, 0, none⟩) n n))).frozen? ⟨TB, q, none⟩ = Y.frozen? ⟨TB, q, none⟩ := fun q => by simp only [World.frozen?_setCell]
  have hsz : (((((((Y.setCell ⟨TB, 0, none⟩ (.slice (some ⟨b, off, none⟩) n cap)).setCell ⟨TB, 1, none⟩ (.slice (some ⟨B, 0, none⟩) n n)).setCell ⟨TB, 2, none⟩ (.slice aao an ac)).setCell ⟨TB, 3, none⟩ (.slice (some ⟨CB, 0, none⟩) m ccap)).setCell ⟨TB, 4, none⟩ (.int .i64 (sn : Int))).setCell ⟨TB, 5, none⟩ (.slice (some ⟨RB, 0, none⟩) n n))).heap.size = Y.heap.size := by simp
  obtain ⟨us, h1, h2⟩ := hlets
  obtain ⟨q0, q1, q2, q3, q4, q5⟩ := h6.read (.slice (some ⟨b, off, none⟩) n cap) (.slice (some ⟨B, 0, none⟩) n n) (.slice aao an ac) (.slice (some ⟨CB, 0, none⟩) m ccap) (.int .i64 (sn : Int)) (.slice (some ⟨RB, 0, none⟩) n n)
  have ho : ∀ (X : World) (i j : Nat) (u : Value), i ≠ j → (X.setCell ⟨TB, i, none⟩ u).cell? ⟨TB, j, none⟩ = X.cell? ⟨TB, j, none⟩ := fun X i j u hij => World.cell?_setCell_other _ _ _ _ (by intro e; injection e with _ e2; exact hij e2)
  refine ⟨(((((hY.setCell h3 _).setCell h3 _).setCell h3 _).setCell h3 _).setCell h3 _).setCell h3 _, ⟨?_, (hf 0).trans h6.f0, ?_, (hf 1).trans h6.f1, ?_, (hf 2).trans h6.f2, ?_, (hf 3).trans h6.f3, ?_, (hf 4).trans h6.f4, q5, (hf 5).trans h6.f5, by rw [hsz]; exact h6.hl⟩, ⟨us, owns_block_eq h1 (hb CB (Ne.symm hTC)), h2⟩, ⟨_, hrow.of_block (hb RB (Ne.symm hTR)), fun q a b => by omega⟩, by rw [hsz]; exact hz⟩
  · rw [ho _ 5 0 _ (by decide), ho _ 4 0 _ (by decide), ho _ 3 0 _ (by decide), ho _ 2 0 _ (by decide), ho _ 1 0 _ (by decide)]; exact q0
  · rw [ho _ 5 1 _ (by decide), ho _ 4 1 _ (by decide), ho _ 3 1 _ (by decide), ho _ 2 1 _ (by decide)]; exact q1
  · rw [ho _ 5 2 _ (by decide), ho _ 4 2 _ (by decide), ho _ 3 2 _ (by decide)]; exact q2
  · rw [ho _ 5 3 _ (by decide), ho _ 4 3 _ (by decide)]; exact q3
  · rw [ho _ 5 4 _ (by decide)]; exact q4
end Go.Proofs.YtafbnmiipfkohaaGreatDoor

/-
  The contract of logic.Ahead where the formula is one: its list lies in new memory.
-/
namespace Go.Proofs.YtafbnmiipfkohaaGreatDoor
open Go.ChangeShapes Go.WideShapes Go.ChangeAt Go.RowKit Go.Deep
open Terms

set_option maxHeartbeats 800000 in
set_option maxRecDepth 20000 in
theorem lahead_own (v : Value) (l : List (Int × Int)) (props : Int) (w : World) (hB : 0 < w.heap.size) (hT : TabAt w) (hV : OpsV w v l) (hc : lcode props l = 0) :
    Calls Tryz.prog 48 #[v, .int .i64 props] w fun e w' => ∃ ao ac, e = .returned (.tuple #[.slice ao (aheadL l).length ac, .int .i64 0]) ∧ Below w.heap.size w w' ∧ Hid (w'.ownsRow w.heap.size 3 1 (.slice ao (aheadL l).length ac) (aheadL l).length (ivals (aheadL l))) := by
  have hrd : Calls Tryz.prog 57 #[v, .int .i64 props] w fun e w' => Below w.heap.size w w' ∧ ∃ ao an ac bo bn bc co cc, e = .returned (.tuple #[.agg #[.slice ao an ac, .slice bo bn bc, .slice co (aheadL l).length cc], .int .i64 0]) ∧ Hid (w'.ownsRow w.heap.size 3 1 (.slice co (aheadL l).length cc) (aheadL l).length (ivals (aheadL l))) := by
    refine (lread_any v l props w hB hT hV).mono fun e w' ⟨h1, h2, h3⟩ => ⟨h1, ?_⟩
    obtain ⟨B, av, _, he, _, ho⟩ := h3 hc
    obtain ⟨aa, ac, rfl⟩ := owns_slice ho
    obtain ⟨ao, cap, rfl, _⟩ := hV
    exact ⟨_, _, _, _, _, _, _, _, he, ho⟩
  obtain ⟨ao, cap, rfl, _⟩ := hV
  generalize (aheadL l).length = an at *
  clear hT hc
  go_enter Tryz.func48, Tryz.ntmps48
  go_wp2_with (go_at_call 57; refine hrd.mono ?_; rintro e w1 ⟨hb1, ao, bn, ac, bo, bm, bc, co, cc, rfl, HI⟩)
  go_ret2
  exact ⟨_, _, rfl, by first | exact hb1 | exact hb1.alloc hb1.size _, by first | exact HI.out | exact HI.out.alloc _⟩
end Go.Proofs.YtafbnmiipfkohaaGreatDoor

/-
  The contract of word's fill.
-/
namespace Go.Proofs.YtafbnmiipfkohaaGreatDoor
open Go.ChangeShapes Go.WideShapes Go.ChangeAt Go.RowKit Go.Deep Go.Shelf
open Terms

attribute [local go_sem] Oper.semAt_some
/-- the temporaries behind the table's making. -/
def fiAct (p0 p6 p12 : Value) (r : Nat → Value) : Act := { tmps := #[p0, r 1, r 2, r 3, r 4, r 5, p6, r 7, r 8, r 9, r 10, r 11, p12, r 13, r 14, r 15, r 16, r 17, r 18, r 19, r 20, r 21, r 22, r 23, r 24, r 25, r 26, r 27, r 28, r 29, r 30, r 31, r 32, r 33, r 34, r 35, r 36, r 37, r 38, r 39, r 40, r 41, r 42, r 43, r 44, r 45, r 46, r 47, r 48, r 49, r 50, r 51, r 52, r 53, r 54, r 55, r 56, r 57, r 58, r 59, r 60, r 61, r 62, r 63, r 64, r 65, r 66, r 67, r 68, r 69, r 70, r 71, r 72, r 73, r 74, r 75, r 76, r 77, r 78, r 79, r 80], defers := [] }
/-- what the table's making leaves. -/
def FiRel (w w3 : World) (b off n cap B : Nat) (aao : Option Addr) (an ac m sn : Nat) (ls : List (List Bool)) (t : Tm) (a' : Act) (Z : World) : Prop :=
  ∃ TB CB ccap RB, (TB ≠ RB ∧ CB ≠ RB ∧ w3.heap.size ≤ TB ∧ w3.heap.size ≤ RB ∧ TB < Z.heap.size ∧ CB < Z.heap.size ∧ RB < Z.heap.size) ∧ FiJ w w3 b off n cap B aao an ac m sn ls t TB CB ccap RB 0 0 Z ∧ ∃ r, a' = fiAct (.slice (some ⟨b, off, none⟩) n cap) (.pointer (some ⟨w.heap.size + 1, 0, none⟩)) (.pointer (some ⟨TB, 0, none⟩)) r
set_option maxRecDepth 20000 in
theorem firel_mk {w w3 : World} {b off n cap B : Nat} {aao : Option Addr} {an ac m sn : Nat} {ls : List (List Bool)} {t : Tm} (TB CB ccap RB : Nat) {Z : World} (h1 : TB ≠ RB) (h2 : CB ≠ RB) (h3 : w3.heap.size ≤ TB) (h4 : w3.heap.size ≤ RB) (h5 : TB < Z.heap.size) (h6 : CB < Z.heap.size) (h7 : RB < Z.heap.size) (hJ : FiJ w w3 b off n cap B aao an ac m sn ls t TB CB ccap RB 0 0 Z) {r1 r2 r3 r4 r5 r7 r8 r9 r10 r11 r13 r14 r15 r16 r17 r18 r19 r20 r21 r22 r23 r24 r25 r26 r27 r28 r29 r30 r31 r32 r33 r34 r35 r36 r37 r38 r39 r40 r41 r42 r43 r44 r45 r46 r47 r48 r49 r50 r51 r52 r53 r54 r55 r56 r57 r58 r59 r60 r61 r62 r63 r64 r65 r66 r67 r68 r69 r70 r71 r72 r73 r74 r75 r76 r77 r78 r79 r80 : Value} :
    FiRel w w3 b off n cap B aao an ac m sn ls t { tmps := #[(.slice (some ⟨b, off, none⟩) n cap), r1, r2, r3, r4, r5, (.pointer (some ⟨w.heap.size + 1, 0, none⟩)), r7, r8, r9, r10, r11, (.pointer (some ⟨TB, 0, none⟩)), r13, r14, r15, r16, r17, r18, r19, r20, r21, r22, r23, r24, r25, r26, r27, r28, r29, r30, r31, r32, r33, r34, r35, r36, r37, r38, r39, r40, r41, r42, r43, r44, r45, r46, r47, r48, r49, r50, r51, r52, r53, r54, r55, r56, r57, r58, r59, r60, r61, r62, r63, r64, r65, r66, r67, r68, r69, r70, r71, r72, r73, r74, r75, r76, r77, r78, r79, r80], defers := [] } Z :=
  ⟨TB, CB, ccap, RB, ⟨h1, h2, h3, h4, h5, h6, h7⟩, hJ, fun i => List.getD [undef, r1, r2, r3, r4, r5, undef, r7, r8, r9, r10, r11, undef, r13, r14, r15, r16, r17, r18, r19, r20, r21, r22, r23, r24, r25, r26, r27, r28, r29, r30, r31, r32, r33, r34, r35, r36, r37, r38, r39, r40, r41, r42, r43, r44, r45, r46, r47, r48, r49, r50, r51, r52, r53, r54, r55, r56, r57, r58, r59, r60, r61, r62, r63, r64, r65, r66, r67, r68, r69, r70, r71, r72, r73, r74, r75, r76, r77, r78, r79, r80] i undef, rfl⟩
/-- the temporaries of a round. -/
def rdAct (p12 p13 p14 : Value) (r : Nat → Value) : Act := { tmps := #[r 0, r 1, r 2, r 3, r 4, r 5, r 6, r 7, r 8, r 9, r 10, r 11, p12, p13, p14, r 15, r 16, r 17, r 18, r 19, r 20, r 21, r 22, r 23, r 24, r 25, r 26, r 27, r 28, r 29, r 30, r 31, r 32, r 33, r 34, r 35, r 36, r 37, r 38, r 39, r 40, r 41, r 42, r 43, r 44, r 45, r 46, r 47, r 48, r 49, r 50, r 51, r 52, r 53, r 54, r 55, r 56, r 57, r 58, r 59, r 60, r 61, r 62, r 63, r 64, r 65, r 66, r 67, r 68, r 69, r 70, r 71, r 72, r 73, r 74, r 75, r 76, r 77, r 78, r 79, r 80], defers := [] }
/-- what a round begins with. -/
def FiAx (l : List (Int × Int)) (n TB base : Nat) (k : Nat) (a' : Act) (W : World) : Prop := ∃ Bx, base ≤ Bx ∧ W.cell? ⟨Bx, 0, none⟩ = some (.int .i64 (l.getD (n - 1 - k) (0, 0)).1) ∧ W.cell? ⟨Bx, 1, none⟩ = some (.int .i64 (l.getD (n - 1 - k) (0, 0)).2) ∧ ∃ r, a' = rdAct (.pointer (some ⟨TB, 0, none⟩)) (.int .i64 ((n - 1 - k : Nat) : Int)) (.pointer (some ⟨Bx, 0, none⟩)) r
/-- what fill leaves: the places that look ahead, and a row of truths for each place. -/
def FillOut (W : World) (n m RB : Nat) (aao : Option Addr) (an ac : Nat) (l : List (Int × Int)) (t : Tm) (σ : Nat → Nat → Bool) : Prop := IntsV W (.slice aao an ac) (aheadL l) ∧ RB < W.heap.size ∧ ∀ q, q < n → ∃ rb, W.cell? ⟨RB, q, none⟩ = some (.slice (some ⟨rb, 0, none⟩) m m) ∧ rb < W.heap.size ∧ ∀ j, j < m → W.cell? ⟨rb, j, none⟩ = some (.bool ((t.sub q).hb σ j))
def FillPost (w : World) (b off n cap m sn : Nat) (l : List (Int × Int)) (t : Tm) (σ : Nat → Nat → Bool) (e : Ending) (w' : World) : Prop := ∃ B aao ac CB ccap RB, e = .returned (.tuple #[.agg #[.slice (some ⟨b, off, none⟩) n cap, .slice (some ⟨B, 0, none⟩) n n, .slice aao (aheadL l).length ac, .slice (some ⟨CB, 0, none⟩) m ccap, .int .i64 (sn : Int), .slice (some ⟨RB, 0, none⟩) n n], .int .i64 0]) ∧ Below w.heap.size w w' ∧ FillOut w' n m RB aao (aheadL l).length ac l t σ
def fiQ (J : Act → World → Prop) : Exit → Act → World → Prop
  | .normal, a, w => J a w
  | _, _, _ => False
set_option maxRecDepth 20000 in
theorem wpOp_value {P : Program} {ops : Array Oper} {Q : Exit → Act → World → Prop} {i : Nat} {K : Act → World → Prop} {a : Act} {w w' : World} {o : Oper} {v : Value} (hi : ops[i]? = some o) (hw : Region.wanted o (yielded ops a.tmps) = true) (hr : (execOp a.eval o).run P w = .ok (.value v) w') (h : K (a.put o.dst v) w') : wpOp P ops Q i K a w := by
  unfold wpOp
  simp only [hi]
  rw [if_pos hw]
  refine Or.inl ?_
  unfold Oper.wp
  rw [hr]
  exact h
set_option maxRecDepth 20000 in
theorem all_one {p : Nat → Prop} {a : Nat} (h : p a) : ∀ i ∈ [a], p i := fun i hi => by
  have : i = a := by simpa using hi
  rw [this]; exact h
set_option maxRecDepth 20000 in
theorem all_two {p : Nat → Prop} {a b : Nat} (h : p a) (h2 : p b) : ∀ i ∈ [a, b], p i := fun i hi => by
  have hx : i = a ∨ i = b := by simpa using hi
  rcases hx with hx | hx <;> (rw [hx]; assumption)
set_option maxRecDepth 20000 in
theorem all_three {p : Nat → Prop} {a b c : Nat} (h : p a) (h2 : p b) (h3 : p c) : ∀ i ∈ [a, b, c], p i := fun i hi => by
  have hx : i = a ∨ i = b ∨ i = c := by simpa using hi
  rcases hx with hx | hx | hx <;> (rw [hx]; assumption)
set_option maxRecDepth 20000 in
theorem take_at {P : Program} {md : Region.Mode} {ops : Array Oper} {Q : Exit → Act → World → Prop} {S : World → Prop} {i : Nat} {oi : Oper} {v : Value} {fuel : Nat} {listed : Array Bool} {a : Act} {w : World} (d : Option Tmp) (hi : ops[i]? = some oi) (hd : oi.dst = d)
    (hs : Region.noSelect ops = true) (hf : Region.free md ops listed i = true) (hr : (Region.ready md ops listed).contains i = true)
    (hQ : ∀ c a w, Q (.panic c) (a.put oi.dst v) w → Q (.panic c) a w) (hy : YieldsIf P ops S oi v a) (hS : S w)
    (h : wpAnyH P md ops Q S fuel (listed.setIfInBounds i true) (a.put d v) w) : wpAnyH P md ops Q S (fuel + 1) listed a w := wpAnyH_take hi hs hf hr hQ hy hS (hd ▸ h)
set_option maxRecDepth 20000 in
theorem wpOp_new {P : Program} {ops : Array Oper} {Q : Exit → Act → World → Prop} {i : Nat} {K : Act → World → Prop} {a : Act} {w : World} {o : Oper} (d : Option Tmp) (ob : Obj) (v : Value) (hi : ops[i]? = some o) (hd : o.dst = d) (hw : Region.wanted o (yielded ops a.tmps) = true) (hr : (execOp a.eval o).run P w = .ok (.value v) (w.alloc ob)) (h : ∀ Y, Y = w.alloc ob → K (a.put d v) Y) : wpOp P ops Q i K a w := wpOp_value hi hw hr (hd ▸ h _ rfl)
set_option maxRecDepth 20000 in
theorem wpOp_two {P : Program} {ops : Array Oper} {Q : Exit → Act → World → Prop} {i : Nat} {K : Act → World → Prop} {a : Act} {w : World} {o : Oper} {f : FuncId} {args : Array Value} (d : Option Tmp) (val : Nat → Nat → Value) (R : Nat → Nat → World → Prop) (hi : ops[i]? = some o) (hd : o.dst = d) (hw : Region.wanted o (yielded ops a.tmps) = true) (hr : (execOp a.eval o).run P w = .ok (.enter f args) w) (h : Calls P f args w fun e w' => ∃ x y, e = .returned (val x y) ∧ R x y w') (hR : ∀ x y w', R x y w' → K (a.put d (val x y)) w') : wpOp P ops Q i K a w :=
  wpOp_call hi hw hr h fun _ w' hx => Exists.elim hx fun x hx => Exists.elim hx fun y hx => ⟨val x y, hx.1, hd ▸ hR x y w' hx.2⟩
set_option maxRecDepth 20000 in
theorem wpOp_law {ops : Array Oper} {Q : Exit → Act → World → Prop} {i : Nat} {K : Act → World → Prop} {a : Act} {w : World} {o : Oper} {f : FuncId} {args : Array Value} {m : Nat} {u v : Nat → Bool} (d : Option Tmp) (hi : ops[i]? = some o) (hd : o.dst = d) (hw : Region.wanted o (yielded ops a.tmps) = true) (hr : (execOp a.eval o).run Tryz.prog w = .ok (.enter f args) w) (h : Calls Tryz.prog f args w (LawPost w m u v)) (hR : ∀ g caps w', Below w.heap.size w w' → LawAt w' (.func (.func g) #[] caps) m u v → K (a.put d (.func (.func g) #[] caps)) w') : wpOp Tryz.prog ops Q i K a w :=
  wpOp_call hi hw hr h fun _ w' hx => Exists.elim hx fun g hx => Exists.elim hx fun caps hx => ⟨_, hx.1, hd ▸ hR g caps w' hx.2.1 hx.2.2⟩
set_option maxRecDepth 20000 in
theorem wpOp_ret {P : Program} {ops : Array Oper} {Q : Exit → Act → World → Prop} {i : Nat} {K : Act → World → Prop} {a : Act} {w : World} {o : Oper} {f : FuncId} {args : Array Value} (d : Option Tmp) (v : Value) (R : World → Prop) (hi : ops[i]? = some o) (hd : o.dst = d) (hw : Region.wanted o (yielded ops a.tmps) = true) (hr : (execOp a.eval o).run P w = .ok (.enter f args) w) (h : Calls P f args w fun e w' => e = .returned v ∧ R w') (hR : ∀ w', R w' → K (a.put d v) w') : wpOp P ops Q i K a w :=
  wpOp_call hi hw hr h fun _ w' hx => ⟨v, hx.1, hd ▸ hR w' hx.2⟩
set_option maxRecDepth 20000 in
theorem wpOp_none {P : Program} {ops : Array Oper} {Q : Exit → Act → World → Prop} {i : Nat} {K : Act → World → Prop} {a : Act} {w : World} {o : Oper} (w' : World) (hi : ops[i]? = some o) (hd : o.dst = none) (hw : Region.wanted o (yielded ops a.tmps) = true) (hr : (execOp a.eval o).run P w = .ok .skip w') (h : K a w') : wpOp P ops Q i K a w :=
  wpOp_skip hi hw hr (by rw [hd]; exact h)

end Go.Proofs.YtafbnmiipfkohaaGreatDoor

/-
  The contracts of word.Moments and word.Holds.
-/
namespace Go.Proofs.YtafbnmiipfkohaaGreatDoor
open Go.ChangeShapes Go.WideShapes Go.ChangeAt Go.RowKit Go.Deep
open Terms

/-- what Moments refuses. -/
def mocode (props : Int) (l : List (Int × Int)) (ss ll : List (List Bool)) : Int := if lcode props l ≠ 0 then lcode props l else wdcode props ss ll
set_option maxRecDepth 20000 in
theorem mocode_zero {props : Int} {l : List (Int × Int)} {ss ll : List (List Bool)} (h : mocode props l ss ll = 0) : lcode props l = 0 ∧ wdcode props ss ll = 0 := by
  unfold mocode at h
  split at h
  · rename_i h1; exact absurd h h1
  · rename_i h1; exact ⟨by simpa using h1, h⟩

/-- a row of truths. -/
def RowT (W : World) (rb m : Nat) (h : Nat → Bool) : Prop := rb < W.heap.size ∧ ∀ j, j < m → W.cell? ⟨rb, j, none⟩ = some (.bool (h j))
set_option maxRecDepth 20000 in
theorem RowT.boolsV {W : World} {rb m : Nat} {h : Nat → Bool} (r : RowT W rb m h) : BoolsV W (.slice (some ⟨rb, 0, none⟩) m m) ((List.range m).map h) :=
  ⟨some ⟨rb, 0, none⟩, m, by simp, fun _ => ⟨rb, 0, rfl, r.1, fun i hi => by
    simp only [List.length_map, List.length_range] at hi
    rw [Nat.zero_add, r.2 i hi]
    simp [List.getD_eq_getElem?_getD, hi]⟩⟩

end Go.Proofs.YtafbnmiipfkohaaGreatDoor

/-
  A list of truths that came in, and the laws' own copy of one.
-/
namespace Go.Proofs.YtafbnmiipfkohaaGreatDoor
open Go.ChangeShapes Go.WideShapes Go.ChangeAt Go.RowKit Go.Deep
open Terms

/-- a slice of truths as it came in. -/
def BoolsW (w : World) (v : Value) (l : List Bool) : Prop := ∃ ao cap, v = .slice ao l.length cap ∧ (ao = none → cap = 0 ∧ l = []) ∧ (l ≠ [] → ∃ b off, ao = some ⟨b, off, none⟩ ∧ b < w.heap.size ∧ BoolsAt w b off l)
set_option maxRecDepth 20000 in
theorem BoolsW.v {w : World} {v : Value} {l : List Bool} (h : BoolsW w v l) : BoolsV w v l := by
  obtain ⟨ao, cap, h1, _, h2⟩ := h
  exact ⟨ao, cap, h1, h2⟩
set_option maxRecDepth 20000 in
theorem BoolsW.below {w w' : World} {v : Value} {l : List Bool} (h : BoolsW w v l) (hb : Below w.heap.size w w') : BoolsW w' v l := by
  obtain ⟨ao, cap, h1, h0, h⟩ := h
  refine ⟨ao, cap, h1, h0, fun hne => ?_⟩
  obtain ⟨b, off, e, hlt, hat⟩ := h hne
  exact ⟨b, off, e, Nat.lt_of_lt_of_le hlt hb.size, fun i hi => (hb.cell (p := ⟨b, _, none⟩) hlt).trans (hat i hi)⟩
set_option maxRecDepth 20000 in
theorem bvals_one (l : List Bool) : ∀ u ∈ bvals l, u.oneCell' = true := by
  intro u hu
  simp only [bvals, List.mem_map] at hu
  obtain ⟨p, _, rfl⟩ := hu
  rfl
set_option maxRecDepth 20000 in
theorem bytesBool : Tryz.prog.bytesOf 4 = 1 := by kernel_rfl
set_option maxRecDepth 20000 in
theorem cellsBool : Tryz.prog.cellsOf 4 = 1 := by kernel_rfl
def boolOf : Value → Bool
  | .bool b => b
  | _ => false
set_option maxRecDepth 20000 in
/-- A LIST OF TRUTHS THAT CAME IN. -/
theorem open_bools {H : Type} {enc : TypeId × Value → H} {W : World} {base : Nat} {v : Value} {d : DataW H} {p : List MemPlace} {ts : List TypeId} {ds : List (DataW H)} {j : Nat}
    (hv : Value.okWide Tryz.prog W .any base 58 v) (h : DataW.Trod enc Tryz.prog W 0 (fun _ => true) true 58 v d p)
    (hsz : (DataW.weightsEach Tryz.prog ts ds).all (· ≤ reachBytes) = true) (ht : ts[j]? = some 58) (hd : ds[j]? = some d) : ∃ l, BoolsW W v l ∧ l.length ≤ 140737488355328 := by
  obtain ⟨a0, len0, cap0, rfl⟩ := okWide_slice Tryz.underlying58 hv
  obtain ⟨fuel, hf⟩ := h
  rcases open_slice1 Tryz.underlying58 cellsBool hf with ⟨hcs, hx⟩ | ⟨a, len, cap, m, n, V, D, Pl, hcs, _, hl, hm, hmm, hx, hcell⟩
  · simp [Value.cells] at hcs
    obtain ⟨rfl, rfl, rfl⟩ := hcs
    exact ⟨[], ⟨none, 0, rfl, fun _ => ⟨rfl, rfl⟩, fun h => absurd rfl h⟩, by simp⟩
  · simp [Value.cells] at hcs
    obtain ⟨rfl, rfl, rfl⟩ := hcs
    simp at hmm
    subst hmm
    have hd2 := hd
    rw [(Prod.mk.inj hx).1] at hd2
    have hs := sized_slice hsz ht hd2 Tryz.underlying58
    rw [bytesBool] at hs
    simp only [List.length_map, List.length_range, reachBytes] at hs
    refine ⟨(List.range len0).map fun i => boolOf (V i), ⟨some a, m, by simp, fun h => by simp at h, fun hne => ?_⟩, by simp; omega⟩
    have hpos : 0 < len0 := by
      rcases Nat.eq_zero_or_pos len0 with h0 | h0
      · subst h0; simp at hne
      · exact h0
    obtain ⟨b, off, spot⟩ := a
    have hspot : spot = none := by simpa [Addr.add] using World.cell?_spot (hcell 0 (by omega)).1
    subst hspot
    refine ⟨b, off, rfl, ?_, fun i hi => ?_⟩
    · have := World.block_lt_of_cell? W _ (hcell 0 (by omega)).1
      simpa [Addr.add] using this
    · simp only [List.length_map, List.length_range] at hi
      obtain ⟨c0, t0⟩ := hcell i (by omega)
      rw [add_plain] at c0
      obtain ⟨x0, e0, _⟩ := DataW.trod_bool Tryz.underlying4 t0
      simp at e0
      rw [c0, show ((List.range len0).map fun i => boolOf (V i)).getD i false = boolOf (V i) by simp [List.getD_eq_getElem?_getD, hi], e0]
      rfl
end Go.Proofs.YtafbnmiipfkohaaGreatDoor

/-
  Words that came in, and the laws' own copy of one.
-/
namespace Go.Proofs.YtafbnmiipfkohaaGreatDoor
open Go.ChangeShapes Go.WideShapes Go.ChangeAt Go.RowKit Go.Deep Go.Joins
open Terms

/-- letters as they came in. -/
def LettersW (w : World) (v : Value) (ls : List (List Bool)) : Prop := ∃ (us : List Value) (ao : Option Addr) (cap : Nat), v = .slice ao ls.length cap ∧ (ao = none → cap = 0 ∧ ls = []) ∧ us.length = ls.length ∧ (∀ i, i < ls.length → BoolsW w (us.getD i nilV) (ls.getD i [])) ∧ (ls ≠ [] → ∃ b off, ao = some ⟨b, off, none⟩ ∧ b < w.heap.size ∧ ∀ i, i < ls.length → w.cell? ⟨b, off + i, none⟩ = some (us.getD i nilV))
set_option maxRecDepth 20000 in
theorem LettersW.v {w : World} {v : Value} {ls : List (List Bool)} (h : LettersW w v ls) : LettersV w v ls := by
  obtain ⟨us, ao, cap, h1, h2, h3, h4, h5⟩ := h
  exact ⟨us, ao, cap, h1, h2, ⟨h3, fun i hi => (h4 i hi).v⟩, h5⟩
set_option maxRecDepth 20000 in
theorem LettersW.below {w w' : World} {v : Value} {ls : List (List Bool)} (h : LettersW w v ls) (hb : Below w.heap.size w w') : LettersW w' v ls := by
  obtain ⟨us, ao, cap, h1, h2, h3, h4, h5⟩ := h
  refine ⟨us, ao, cap, h1, h2, h3, fun i hi => (h4 i hi).below hb, fun hne => ?_⟩
  obtain ⟨b, off, e, hlt, hat⟩ := h5 hne
  exact ⟨b, off, e, Nat.lt_of_lt_of_le hlt hb.size, fun i hi => (hb.cell (p := ⟨b, _, none⟩) hlt).trans (hat i hi)⟩
set_option maxRecDepth 20000 in
theorem LettersW.at {w : World} {ao : Option Addr} {cap n : Nat} {ls : List (List Bool)} (h : LettersW w (.slice ao n cap) ls) {i : Nat} (hi : i < ls.length) : ∃ b off, ao = some ⟨b, off, none⟩ ∧ b < w.heap.size ∧ ∃ u, w.cell? ⟨b, off + i, none⟩ = some u ∧ BoolsW w u (ls.getD i []) := by
  obtain ⟨us, ao', cap', hv, _, _, h4, h⟩ := h
  injection hv with e1 e2 e3
  subst e1
  obtain ⟨b, off, e, hlt, hat⟩ := h (by rintro rfl; simp at hi)
  exact ⟨b, off, e, hlt, _, hat i hi, h4 i hi⟩

/-- letters in memory of the call's own. -/
def LettersOwn (w : World) (base : Nat) (v : Value) (ls : List (List Bool)) : Prop :=
  ∃ us : List Value, w.ownsRow base 58 1 v ls.length us ∧ ∀ j, j < ls.length → w.ownsRow base 4 1 (us.getD j nilV) (ls.getD j []).length (bvals (ls.getD j []))
set_option maxRecDepth 20000 in
theorem LettersOwn.nil (w : World) (base : Nat) : LettersOwn w base (.slice none 0 0) [] := ⟨[], World.ownsRow_nil _ _ _ _, fun j hj => by simp at hj⟩
set_option maxRecDepth 20000 in
theorem LettersOwn.later {w w' : World} {base B : Nat} {v : Value} {ls : List (List Bool)} (h : LettersOwn w base v ls) (hb : Below B w w') (hB : w.heap.size ≤ B) : LettersOwn w' base v ls := by
  obtain ⟨us, h1, h2⟩ := h
  exact ⟨us, owns_later h1 hb hB, fun j hj => owns_later (h2 j hj) hb hB⟩
set_option maxRecDepth 20000 in
theorem LettersOwn.snoc {w wa w' : World} {base : Nat} {v v' u : Value} {ts : List (List Bool)} {t : List Bool} {us : List Value}
    (hus : w.ownsRow base 58 1 v ts.length us) (hts : ∀ j, j < ts.length → w.ownsRow base 4 1 (us.getD j nilV) (ts.getD j []).length (bvals (ts.getD j [])))
    (hu : w.ownsRow base 4 1 u t.length (bvals t)) (ha : ∃ o, wa = w.alloc o) (hg : wa.grownBy w' v.ownBlock) (ho : w'.ownsRow base 58 1 v' (ts.length + 1) (us ++ [u])) : LettersOwn w' base v' (ts ++ [t]) := by
  obtain ⟨o, rfl⟩ := ha
  have hl : us.length = ts.length := by simpa using hus.1
  refine ⟨us ++ [u], by simpa using ho, fun j hj => ?_⟩
  by_cases hlt : j < ts.length
  · have h1 := (hts j hlt).alloc o
    have := h1.kept hg (owns_apart (by decide) h1 (hus.alloc o))
    simpa [List.getD_eq_getElem?_getD, List.getElem?_append_left (show j < us.length by omega), List.getElem?_append_left hlt] using this
  · have hj' : j = ts.length := by simp at hj; omega
    subst hj'
    have h1 := hu.alloc o
    have := h1.kept hg (owns_apart (by decide) h1 (hus.alloc o))
    simpa [List.getD_eq_getElem?_getD, ← hl] using this
set_option maxRecDepth 20000 in
theorem LettersOwn.lettersV {w : World} {base : Nat} {v : Value} {ls : List (List Bool)} (h : LettersOwn w base v ls) : LettersV w v ls := by
  obtain ⟨us, h1, h2⟩ := h
  have hl : us.length = ls.length := by simpa using h1.1
  exact lettersV_of_owns (us := us) (by rw [hl]; exact h1) ⟨hl, fun i hi => boolsV_of_owns (h2 i hi)⟩

set_option maxRecDepth 20000 in
theorem owns_low {w : World} {base : Nat} {e : TypeId} {s n : Nat} {v : Value} {xs : List Value} (h : w.ownsRow base e s v n xs) {p : Addr} (hp : p.block < base) (u : Value) : (w.setCell p u).ownsRow base e s v n xs := by
  obtain ⟨h1, h2⟩ := h
  refine ⟨h1, ?_⟩
  rcases h2 with h2 | ⟨g, cap, cur, hv, hg, hh, r⟩
  · exact .inl h2
  · exact .inr ⟨g, cap, cur, hv, hg, (Below.heap_setCell w p u g (by omega)).trans hh, r⟩
set_option maxRecDepth 20000 in
theorem LettersOwn.low {w : World} {base : Nat} {v : Value} {ls : List (List Bool)} (h : LettersOwn w base v ls) {p : Addr} (hp : p.block < base) (u : Value) : LettersOwn (w.setCell p u) base v ls := by
  obtain ⟨us, h1, h2⟩ := h
  exact ⟨us, owns_low h1 hp u, fun j hj => owns_low (h2 j hj) hp u⟩
set_option maxRecDepth 20000 in
theorem LettersOwn.mono {w : World} {base base' : Nat} {v : Value} {ls : List (List Bool)} (h : LettersOwn w base v ls) (hb : base' ≤ base) : LettersOwn w base' v ls := by
  obtain ⟨us, h1, h2⟩ := h
  exact ⟨us, owns_mono h1 hb, fun j hj => owns_mono (h2 j hj) hb⟩

set_option maxRecDepth 20000 in
theorem cellsBools : Tryz.prog.cellsOf 58 = 1 := by kernel_rfl
set_option maxRecDepth 20000 in
theorem bytesBools : Tryz.prog.bytesOf 58 = 24 := by kernel_rfl

section
variable {H : Type} {enc : TypeId × Value → H} {W : World}
/-- nothing in it is too great. -/
def LightW (t : TypeId) (d : DataW H) : Prop := ∀ n ∈ d.weights Tryz.prog t, n ≤ reachBytes
set_option maxRecDepth 20000 in
theorem mem_weights {P : Program} {e : TypeId} {x : DataW H} {n : Nat} (hn : n ∈ x.weights P e) : ∀ {l : List (DataW H)}, x ∈ l → n ∈ DataW.weightsAll P e l
  | y :: l, hx => by
    simp only [DataW.weightsAll, List.mem_append]
    rcases List.mem_cons.1 hx with rfl | hx
    · exact .inl hn
    · exact .inr (mem_weights hn hx)
set_option maxRecDepth 20000 in
theorem LightW.slice {t e : TypeId} {elems spare : List (DataW H)} (hu : Tryz.prog.underlying t = some (.slice e)) (h : LightW t (.slice elems spare)) : (elems.length + spare.length) * Tryz.prog.bytesOf e ≤ reachBytes ∧ ∀ x ∈ elems, LightW e x := by
  refine ⟨h _ (by simp [DataW.weights, hu]), fun x hx n hn => h n ?_⟩
  simp only [DataW.weights, hu, List.mem_cons, List.mem_append]
  exact .inr (.inl (mem_weights hn hx))
set_option maxRecDepth 20000 in
theorem LightW.agg2 {t : TypeId} {f0 f1 : Field} {x0 x1 : DataW H} (hu : Tryz.prog.underlying t = some (.struct #[f0, f1])) (h : LightW t (.agg [x0, x1])) : LightW f0.type x0 ∧ LightW f1.type x1 := by
  refine ⟨fun n hn => h n ?_, fun n hn => h n ?_⟩
  · simp [DataW.weights, hu, DataW.weightsEach, hn]
  · simp [DataW.weights, hu, DataW.weightsEach, hn]
set_option maxRecDepth 20000 in
theorem range_getD {α : Type} (f : Nat → α) (d : α) {n i : Nat} (hi : i < n) : ((List.range n).map f).getD i d = f i := by simp [List.getD_eq_getElem?_getD, hi]

set_option maxRecDepth 20000 in
theorem open_bools_c {fuel : Nat} {v : Value} {d : DataW H} {p : List MemPlace} (hf : DataW.trod enc Tryz.prog W 0 (fun _ => true) true fuel 58 [v] = some (d, p)) (hw : LightW 58 d) : ∃ l, BoolsW W v l ∧ l.length ≤ 140737488355328 := by
  rcases open_slice1 Tryz.underlying58 cellsBool hf with ⟨hcs, hx⟩ | ⟨a, len, cap, m, n, V, D, Pl, hcs, _, hl, hm, hmm, hx, hcell⟩
  · simp at hcs
    subst hcs
    exact ⟨[], ⟨none, 0, rfl, fun _ => ⟨rfl, rfl⟩, fun h => absurd rfl h⟩, by simp⟩
  · simp at hcs
    subst hcs
    simp at hmm
    subst hmm
    rw [(Prod.mk.inj hx).1] at hw
    have hs := (hw.slice Tryz.underlying58).1
    rw [bytesBool] at hs
    simp only [List.length_map, List.length_range, reachBytes] at hs
    refine ⟨(List.range len).map fun i => boolOf (V i), ⟨some a, m, by simp, fun h => by simp at h, fun hne => ?_⟩, by simp; omega⟩
    have hpos : 0 < len := by
      rcases Nat.eq_zero_or_pos len with h0 | h0
      · subst h0; simp at hne
      · exact h0
    obtain ⟨b, off, spot⟩ := a
    have hspot : spot = none := by simpa [Addr.add] using World.cell?_spot (hcell 0 (by omega)).1
    subst hspot
    refine ⟨b, off, rfl, ?_, fun i hi => ?_⟩
    · have := World.block_lt_of_cell? W _ (hcell 0 (by omega)).1
      simpa [Addr.add] using this
    · simp only [List.length_map, List.length_range] at hi
      obtain ⟨c0, t0⟩ := hcell i (by omega)
      rw [add_plain] at c0
      obtain ⟨x0, e0, _⟩ := DataW.trod_bool Tryz.underlying4 t0
      simp at e0
      rw [c0, range_getD _ _ hi, e0]
      rfl

/-- no list in it is too long. -/
def LetSz (ls : List (List Bool)) : Prop := ls.length * 24 ≤ 140737488355328 ∧ ∀ i, i < ls.length → (ls.getD i []).length ≤ 140737488355328
end

set_option maxRecDepth 20000 in
theorem LetSz.le {ls : List (List Bool)} (h : LetSz ls) : ls.length ≤ 140737488355328 := by have := h.1; omega
end Go.Proofs.YtafbnmiipfkohaaGreatDoor

/-
  The contracts of the keeping laws' own letter and Word: a word that passes.
-/
namespace Go.Proofs.YtafbnmiipfkohaaGreatDoor
open Go.ChangeShapes Go.WideShapes Go.ChangeAt Go.RowKit Go.Deep
open Terms

/-- numbers that came in. -/
structure IntsR (w : World) (v : Value) (l : List Int) : Prop where
  v : IntsV w v l
  len : l.length ≤ 140737488355328
  range : ∀ i, i < l.length → I64 (l.getD i 0)
set_option maxRecDepth 20000 in
theorem IntsR.below {w w' : World} {v : Value} {l : List Int} (h : IntsR w v l) (hb : Below w.heap.size w w') : IntsR w' v l := ⟨h.v.below hb, h.len, h.range⟩

set_option maxRecDepth 20000 in
theorem owns_same {w w' : World} {base : Nat} {e : TypeId} {s n : Nat} {v : Value} {xs : List Value} (h : w.ownsRow base e s v n xs) (hs : ∀ g, base ≤ g → g < w.heap.size → w'.heap[g]? = w.heap[g]?) : w'.ownsRow base e s v n xs := by
  refine ⟨h.1, ?_⟩
  rcases h.2 with h2 | ⟨g, cap, cur, hv, hg, hh, r⟩
  · exact .inl h2
  · exact .inr ⟨g, cap, cur, hv, hg, (hs g hg (Array.getElem?_eq_some_iff.1 hh).1).trans hh, r⟩
set_option maxRecDepth 20000 in
theorem LettersOwn.same {w w' : World} {base : Nat} {v : Value} {ls : List (List Bool)} (h : LettersOwn w base v ls) (hs : ∀ g, base ≤ g → g < w.heap.size → w'.heap[g]? = w.heap[g]?) : LettersOwn w' base v ls := by
  obtain ⟨us, h1, h2⟩ := h
  exact ⟨us, owns_same h1 hs, fun j hj => owns_same (h2 j hj) hs⟩

/-- each letter has three truths. -/
def All3 (ls : List (List Bool)) : Prop := ∀ x, x ∈ ls → x.length = 3
set_option maxRecDepth 20000 in
theorem All3.snoc {ls : List (List Bool)} (h : All3 ls) (x0 x1 x2 : Bool) : All3 (ls ++ [[x0, x1, x2]]) := fun x hx => by
  rcases List.mem_append.1 hx with h1 | h1
  · exact h x h1
  · obtain rfl : x = [x0, x1, x2] := by simpa using h1
    rfl
set_option maxRecDepth 20000 in
theorem snoc_any {W W2 W' : World} {base : Nat} {v v' u : Value} {ls : List (List Bool)} {x0 x1 x2 : Bool} {us : List Value} {o : Obj}
    (hus : W.ownsRow base 58 1 v ls.length us) (hts : ∀ j, j < ls.length → W.ownsRow base 4 1 (us.getD j nilV) (ls.getD j []).length (bvals (ls.getD j []))) (hb2 : Below W.heap.size W W2) (hz : base ≤ W.heap.size) (ho2 : W2.ownsRow W.heap.size 4 1 u 3 (bvals [x0, x1, x2])) (hg : (W2.alloc o).grownBy W' v.ownBlock) (ho : W'.ownsRow base 58 1 v' (ls.length + 1) (us ++ [u])) : LettersOwn W' base v' (ls ++ [[x0, x1, x2]]) :=
  LettersOwn.snoc (owns_later hus hb2 (Nat.le_refl _)) (fun j hj => owns_later (hts j hj) hb2 (Nat.le_refl _)) (owns_mono ho2 hz) ⟨_, rfl⟩ hg ho

/-- what a round stands on, behind the call of letter. -/
structure WdG (w : World) (j base : Nat) (qi : Value) (xo : Option Addr) (k xc : Nat) (us : List Value) (w2 : World) : Prop where
  cx : w2.cell? ⟨w.heap.size + 2, j, none⟩ = some (.slice xo k xc)
  cq : w2.cell? ⟨w.heap.size, j, none⟩ = some qi
  size : ∀ o : Obj, base ≤ (w2.alloc o).heap.size
  own : ∀ o : Obj, (w2.alloc o).ownsRow base 58 1 (.slice xo k xc) k us
  grown : ∀ (o : Obj) (w4 : World), (w2.alloc o).grownBy w4 (Value.slice xo k xc).ownBlock → w4.cell? ⟨w.heap.size + 2, j, none⟩ = some (.slice xo k xc) ∧ w4.frozen? ⟨w.heap.size + 2, j, none⟩ = false

end Go.Proofs.YtafbnmiipfkohaaGreatDoor

/-
  What the keeping laws on words share: holds at a tree; raw words that came in.
-/
namespace Go.Proofs.YtafbnmiipfkohaaGreatDoor
open Go.ChangeShapes Go.WideShapes Go.ChangeAt Go.RowKit Go.Deep Go.Joins
open Terms

set_option maxRecDepth 20000 in
theorem mocode_ok {m : Nat} {t : List (Int × Int)} {T : Tm} {ss ll : List (List Bool)} (hF : FOk m t T) (hl : t.length ≤ 60) (hm : m ≤ 6) (hW : wdcode 3 ss ll = 0) : mocode 3 t ss ll = 0 := by
  unfold mocode
  rw [hF.code hl hm, hW]
  rfl

set_option maxRecDepth 20000 in
theorem Raws.up {w w' : World} {v : Value} {rs : List (Int × Int)} (h : Raws w w.heap.size v rs) (hb : Below w.heap.size w w') : Raws w' w'.heap.size v rs := by
  obtain ⟨⟨ao, cap, hv, h1⟩, h2, h3⟩ := h
  refine ⟨⟨ao, cap, hv, fun hne => ?_⟩, h2, h3⟩
  obtain ⟨b, off, ha, hlt, hat⟩ := h1 hne
  exact ⟨b, off, ha, Nat.lt_of_lt_of_le hlt hb.size, hat.below hb hlt⟩

/-- the word that a law has made, as it lies. -/
structure KCtx (w : World) (wb : Nat) (sv lv : Value) (ss ll : List (List Bool)) (W : World) : Prop where
  below : Below w.heap.size w W
  pos : 0 < W.heap.size
  tab : TabAt W
  lt : wb < W.heap.size
  c0 : W.cell? ⟨wb, 0, none⟩ = some sv
  c1 : W.cell? ⟨wb, 1, none⟩ = some lv
  s : LettersV W sv ss
  l : LettersV W lv ll
  ok : WOk ss ll
set_option maxRecDepth 20000 in
theorem KCtx.later {w : World} {wb : Nat} {sv lv : Value} {ss ll : List (List Bool)} {W W' : World} (k : KCtx w wb sv lv ss ll W) (hb : Below W.heap.size W W') : KCtx w wb sv lv ss ll W' :=
  ⟨k.below.trans (hb.mono k.below.size), Nat.lt_of_lt_of_le k.pos hb.size, k.tab.below hb k.pos, Nat.lt_of_lt_of_le k.lt hb.size, (hb.cell (p := ⟨wb, 0, none⟩) k.lt).trans k.c0, (hb.cell (p := ⟨wb, 1, none⟩) k.lt).trans k.c1, k.s.below hb, k.l.below hb, k.ok⟩
/-- a formula that a law has grown. -/
structure KFor (W : World) (v : Value) (q : Nat) (t : List (Int × Int)) (T : Tm) (m : Nat) : Prop where
  v : OpsV W v t
  ok : FOk m t T
  len : t.length ≤ 17
  ne : t ≠ []
  many : m ≤ q
set_option maxRecDepth 20000 in
theorem KFor.later {W W' : World} {v : Value} {q : Nat} {t : List (Int × Int)} {T : Tm} {m : Nat} (k : KFor W v q t T m) (hb : Below W.heap.size W W') : KFor W' v q t T m := ⟨k.v.below hb, k.ok, k.len, k.ne, k.many⟩

section
variable {H : Type} {enc : TypeId × Value → H} {W : World}
set_option maxRecDepth 20000 in
theorem bytesInt' : Tryz.prog.bytesOf 3 = 8 := by kernel_rfl
set_option maxRecDepth 20000 in
theorem open_ints_c {fuel : Nat} {v : Value} {d : DataW H} {p : List MemPlace} (hf : DataW.trod enc Tryz.prog W 0 (fun _ => true) true fuel 40 [v] = some (d, p)) (hw : LightW 40 d) : ∃ l, IntsR W v l := by
  rcases open_slice1 Tryz.underlying40 cellsInt hf with ⟨hcs, hx⟩ | ⟨a, len, cap, m, n, V, D, Pl, hcs, _, hl, hm, hmm, hx, hcell⟩
  · simp at hcs
    subst hcs
    exact ⟨[], ⟨none, 0, rfl, fun h => absurd rfl h⟩, by simp, fun i hi => by simp at hi⟩
  · simp at hcs
    subst hcs
    simp at hmm
    subst hmm
    rw [(Prod.mk.inj hx).1] at hw
    have hs := (hw.slice Tryz.underlying40).1
    rw [bytesInt'] at hs
    simp only [List.length_map, List.length_range, reachBytes] at hs
    have each : ∀ i, i < len → ∃ x0, W.cell? (a.add i) = some (.int .i64 x0) ∧ V i = .int .i64 x0 ∧ I64 x0 := by
      intro i hi
      obtain ⟨c0, t0⟩ := hcell i (by omega)
      obtain ⟨x0, e0, _, w0⟩ := DataW.trod_int Tryz.underlying3 t0
      simp at e0
      exact ⟨x0, by rw [c0, e0], e0, by simpa [I64, Lit.wf, IntKind.min, IntKind.max, IntKind.signed, IntKind.bits] using w0⟩
    refine ⟨(List.range len).map fun i => intOf (V i), ⟨some a, m, by simp, fun hne => ?_⟩, by simp; omega, fun i hi => ?_⟩
    · have hpos : 0 < len := by
        rcases Nat.eq_zero_or_pos len with h0 | h0
        · subst h0; simp at hne
        · exact h0
      obtain ⟨b, off, spot⟩ := a
      have hspot : spot = none := by simpa [Addr.add] using World.cell?_spot (hcell 0 (by omega)).1
      subst hspot
      refine ⟨b, off, rfl, ?_, fun i hi => ?_⟩
      · have := World.block_lt_of_cell? W _ (hcell 0 (by omega)).1
        simpa [Addr.add] using this
      · simp only [List.length_map, List.length_range] at hi
        obtain ⟨x0, c0, e0, _⟩ := each i hi
        rw [add_plain] at c0
        rw [c0, range_getD _ _ hi, e0]
        rfl
    · simp only [List.length_map, List.length_range] at hi
      obtain ⟨x0, _, e0, h0⟩ := each i hi
      rw [range_getD _ _ hi, e0]
      exact h0
end
end Go.Proofs.YtafbnmiipfkohaaGreatDoor

/-
  Tasks: the contracts of product.Check, the document's own TaskFault, and the laws' own copy of a task.
-/
namespace Go.Proofs.YtafbnmiipfkohaaGreatDoor
open Go.ChangeShapes Go.WideShapes Go.ChangeAt Go.RowKit Go.Deep
open Terms Tm

/-- what Check answers of a task. -/
noncomputable def tkcode (m : Mo) (ps : List (List (Int × Int))) (l : List (Int × Int)) : Int := if pcode m ps ≠ 0 then pcode m ps else lcode ps.length l
/-- a task's values. -/
structure TaskV (w : World) (va vr pv fv : Value) (m : Mo) (ps : List (List (Int × Int))) (l : List (Int × Int)) : Prop where
  mo : ModelV w va vr m
  ps : TermsV w pv ps
  fo : OpsV w fv l
set_option maxRecDepth 20000 in
theorem TaskV.below {w w' : World} {va vr pv fv : Value} {m : Mo} {ps : List (List (Int × Int))} {l : List (Int × Int)} (h : TaskV w va vr pv fv m ps l) (hb : Below w.heap.size w w') : TaskV w' va vr pv fv m ps l := ⟨h.mo.below hb, h.ps.below hb, h.fo.below hb⟩

set_option maxHeartbeats 800000 in
set_option maxRecDepth 20000 in
/-- THE CONTRACT OF product.Check. -/
theorem pcheck_any (va vr pv fv : Value) (m : Mo) (ps : List (List (Int × Int))) (l : List (Int × Int)) (w : World) (hB : 0 < w.heap.size) (hT : TabAt w) (hV : TaskV w va vr pv fv m ps l) :
    Calls Tryz.prog 17 #[.agg #[va, vr, pv, fv]] w fun e w' => e = .returned (.int .i64 (tkcode m ps l)) ∧ Below w.heap.size w w' := by
  have hA : ∀ o, Below w.heap.size w (w.alloc o) := fun o => (Below.refl _ _).alloc (Nat.le_refl _) o
  have HP : Hid (∀ w1, Below w.heap.size w w1 → Calls Tryz.prog 35 #[.agg #[va, vr], pv] w1 fun e w' => e = .returned (.int .i64 (pcode m ps)) ∧ Below w1.heap.size w1 w') := fun w1 h => mprops_any va vr pv m ps w1 (Nat.lt_of_lt_of_le hB h.size) (hT.below h hB) (hV.mo.below h) (hV.ps.below h)
  have HL : Hid (∀ w1, Below w.heap.size w w1 → Calls Tryz.prog 36 #[fv, .int .i64 (ps.length : Int)] w1 fun e w' => e = .returned (.int .i64 (lcode ps.length l)) ∧ Below w1.heap.size w1 w') := fun w1 h => lcheck_any fv l ps.length w1 (Nat.lt_of_lt_of_le hB h.size) (hT.below h hB) (hV.fo.below h)
  unfold tkcode
  obtain ⟨ao, ac, rfl⟩ := hV.mo.1.shape
  obtain ⟨ro, rc, rfl⟩ := hV.mo.2.shape
  obtain ⟨po, pc, rfl⟩ := hV.ps.shape
  obtain ⟨fo, fc, rfl, _⟩ := id hV.fo
  generalize pcode m ps = x at *
  generalize lcode ps.length l = y at *
  generalize m.vars.length = vn at *
  generalize m.rules.length = rn at *
  generalize ps.length = pn at *
  generalize l.length = fn at *
  clear hV hT
  have hp := HP.out _ (hA (.cells #[.slice ao vn ac, .slice ro rn rc, .slice po pn pc, .slice fo fn fc] 34))
  have HB : Hid (∀ w1, Below (w.heap.size + 1) (w.alloc (.cells #[.slice ao vn ac, .slice ro rn rc, .slice po pn pc, .slice fo fn fc] 34)) w1 → w1.cell? ⟨w.heap.size, 2, none⟩ = some (.slice po pn pc) ∧ w1.cell? ⟨w.heap.size, 3, none⟩ = some (.slice fo fn fc)) := fun w1 h => ⟨(h.cell (p := ⟨w.heap.size, 2, none⟩) (Nat.lt_succ_self _)).trans (by simp [go_sem]), (h.cell (p := ⟨w.heap.size, 3, none⟩) (Nat.lt_succ_self _)).trans (by simp [go_sem])⟩
  by_cases hx : x = 0
  · subst hx
    rw [if_neg (by simp)]
    go_enter Tryz.func17, Tryz.ntmps17
    go_wp2_with (first | (go_at_call 35; refine hp.mono ?_; rintro e w1 ⟨rfl, hb1⟩; have hbw := (hA _).trans (hb1.mono (hA _).size); have hq := HB.out w1 (by simpa using hb1); have k0 := hq.1; have k1 := hq.2; have hl := HL.out w1 hbw) | (go_at_call 36; refine hl.mono ?_; rintro e w2 ⟨rfl, hb2⟩))
    go_ret
    exact ⟨rfl, hbw.trans (hb2.mono hbw.size)⟩
  · rw [if_pos hx]
    go_enter Tryz.func17, Tryz.ntmps17
    go_wp2_with (go_at_call 35; refine hp.mono ?_; rintro e w1 ⟨rfl, hb1⟩; have hbw := (hA _).trans (hb1.mono (hA _).size))
    go_ret
    exact ⟨rfl, hbw⟩

end Go.Proofs.YtafbnmiipfkohaaGreatDoor
