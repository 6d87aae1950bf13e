/-
  Joined out of WMom, VkM, VkLetters, VrSeek, PMap, StepNext, PNext, VrLead, VrConcat, VrRuns, VkKeeps, RefWorked, RefEval, in their order: a claim bears at most so many files.
-/
import Derived.Test.YtnicbkkkecfdpaaGreatDoorLateD
import Derived.Test.YtnicbkkkecfdpaaGreatDoorLateA
import Derived.Test.YtnicbkkkecfdpaaGreatDoorPCheck
import Derived.Test.YtnicbkkkecfdpaaGreatDoorLateB
import Derived.Test.YtnicbkkkecfdpaaGreatDoorIntsOf
import Derived.Test.YtnicbkkkecfdpaaGreatDoorMem
import Derived.Maps.OwnSet
import Derived.Deep.AppendLies
import Derived.Lib.AppendZeros
import Derived.Test.YtnicbkkkecfdpaaGreatDoorRefExpr2
/-
  The contracts of word.Moments and word.Holds.
-/
namespace Go.Proofs.YtnicbkkkecfdpaaGreatDoor
open Go.ChangeShapes Go.WideShapes Go.ChangeAt Go.RowKit Go.Deep
open Terms

/-- what Moments refuses. -/
def mocode (props : Int) (l : List (Int × Int)) (ss ll : List (List Bool)) : Int := if lcode props l ≠ 0 then lcode props l else wdcode props ss ll
set_option maxRecDepth 20000 in
theorem mocode_zero {props : Int} {l : List (Int × Int)} {ss ll : List (List Bool)} (h : mocode props l ss ll = 0) : lcode props l = 0 ∧ wdcode props ss ll = 0 := by
  unfold mocode at h
  split at h
  · rename_i h1; exact absurd h h1
  · rename_i h1; exact ⟨by simpa using h1, h⟩

set_option maxRecDepth 20000 in
theorem fill_bad (v : Value) (so lo : Option Addr) (sn sc ln lc : Nat) (l : List (Int × Int)) (ss ll : List (List Bool)) (props : Int) (w : World) (hB : 0 < w.heap.size) (hT : TabAt w) (hV : OpsV w v l) (hzs : ss.length ≤ 140737488355328) (hzl : ll.length ≤ 140737488355328) (hS : LettersV w (.slice so sn sc) ss) (hL : LettersV w (.slice lo ln lc) ll) (hc : mocode props l ss ll ≠ 0) :
    Calls Tryz.prog 45 #[v, .agg #[.slice so sn sc, .slice lo ln lc], .int .i64 props] w fun e w' => e = .returned (.tuple #[.agg #[.slice none 0 0, .slice none 0 0, .slice none 0 0, .slice none 0 0, .int .i64 0, .slice none 0 0], .int .i64 (mocode props l ss ll)]) ∧ Below w.heap.size w w' := by
  unfold mocode at hc ⊢
  by_cases h : lcode props l ≠ 0
  · rw [if_pos h]; exact fill_bad1 v so lo sn sc ln lc l props w hB hT hV h
  · rw [if_neg h] at hc ⊢; exact fill_bad2 v so lo sn sc ln lc l ss ll props w hB hT hV hzs hzl hS hL (by simpa using h) hc

/-- a row of truths. -/
def RowT (W : World) (rb m : Nat) (h : Nat → Bool) : Prop := rb < W.heap.size ∧ ∀ j, j < m → W.cell? ⟨rb, j, none⟩ = some (.bool (h j))
set_option maxRecDepth 20000 in
theorem RowT.boolsV {W : World} {rb m : Nat} {h : Nat → Bool} (r : RowT W rb m h) : BoolsV W (.slice (some ⟨rb, 0, none⟩) m m) ((List.range m).map h) :=
  ⟨some ⟨rb, 0, none⟩, m, by simp, fun _ => ⟨rb, 0, rfl, r.1, fun i hi => by
    simp only [List.length_map, List.length_range] at hi
    rw [Nat.zero_add, r.2 i hi]
    simp [List.getD_eq_getElem?_getD, hi]⟩⟩

set_option maxHeartbeats 800000 in
set_option maxRecDepth 20000 in
theorem moments_bad (v sv lv : Value) (l : List (Int × Int)) (ss ll : List (List Bool)) (props : Int) (w : World) (hB : 0 < w.heap.size) (hT : TabAt w) (hV : OpsV w v l) (hzs : ss.length ≤ 140737488355328) (hzl : ll.length ≤ 140737488355328) (hS : LettersV w sv ss) (hL : LettersV w lv ll) (hc : mocode props l ss ll ≠ 0) :
    Calls Tryz.prog 25 #[v, .agg #[sv, lv], .int .i64 props] w fun e w' => e = .returned (.tuple #[.slice none 0 0, .int .i64 (mocode props l ss ll)]) ∧ Below w.heap.size w w' := by
  obtain ⟨so, sc, rfl⟩ := hS.shape
  obtain ⟨lo, lc, rfl⟩ := hL.shape
  obtain ⟨vo, vc, rfl, _⟩ := id hV
  have hA : ∀ o, Below w.heap.size w (w.alloc o) := fun o => (Below.refl _ _).alloc (Nat.le_refl _) o
  have hfa := fun o => (fill_bad _ so lo _ sc _ lc l ss ll props (w.alloc o) (by simp) (hT.below (hA o) hB) (hV.below (hA o)) hzs hzl (hS.below (hA o)) (hL.below (hA o)) hc).mono fun e w' (⟨h1, h2⟩ : _ ∧ _) => (show _ ∧ Below w.heap.size w w' from ⟨h1, (hA o).trans (h2.mono (hA o).size)⟩)
  generalize mocode props l ss ll = x at *
  generalize ss.length = sn at *
  generalize ll.length = ln at *
  generalize l.length = n at *
  clear hT hV hS hL hzs hzl
  go_enter Tryz.func25, Tryz.ntmps25
  go_wp2_with (go_at_call 45; refine (hfa _).mono ?_; rintro e w1 ⟨rfl, hb1⟩)
  go_ret2
  exact ⟨rfl, by first | exact hb1 | exact hb1.alloc hb1.size _⟩

set_option maxHeartbeats 800000 in
set_option maxRecDepth 20000 in
theorem moments_ok (v sv lv : Value) (l : List (Int × Int)) (ss ll : List (List Bool)) (props : Int) (t : Tm) (w : World) (hB : 0 < w.heap.size) (hT : TabAt w) (hV : OpsV w v l) (hS : LettersV w sv ss) (hL : LettersV w lv ll) (hc : mocode props l ss ll = 0) (hwf : t.Wf) (hto : t.ops = l) :
    Calls Tryz.prog 25 #[v, .agg #[sv, lv], .int .i64 props] w fun e w' => ∃ rb, e = .returned (.tuple #[.slice (some ⟨rb, 0, none⟩) (ss.length + ll.length) (ss.length + ll.length), .int .i64 0]) ∧ Below w.heap.size w w' ∧ Hid (RowT w' rb (ss.length + ll.length) (t.hb (sig (ss ++ ll) ss.length))) := by
  obtain ⟨hc1, hc2⟩ := mocode_zero hc
  obtain ⟨_, _, hz, _, _⟩ := lcode_zero hc1
  obtain ⟨hne, h60⟩ := ends_ne hz
  obtain ⟨_, h12, h1, hl12, _⟩ := wdcode_zero hc2
  rw [List.length_map] at h60
  obtain ⟨so, sc, rfl⟩ := hS.shape
  obtain ⟨lo, lc, rfl⟩ := hL.shape
  obtain ⟨vo, vc, rfl, ⟨hcap, _⟩, hvv⟩ := id hV
  obtain ⟨b, off, rfl, hbl, hat⟩ := hvv (by rintro rfl; exact hne rfl)
  have hl0 : 0 < l.length := by
    cases l with
    | nil => exact absurd rfl hne
    | cons _ _ => simp
  have hfi : ∀ w0, Below w.heap.size w w0 → Calls Tryz.prog 45 #[.slice (some ⟨b, off, none⟩) l.length vc, .agg #[.slice so ss.length sc, .slice lo ll.length lc], .int .i64 props] w0 fun e w' => ∃ B aao ac CB ccap RB rb, e = .returned (.tuple #[.agg #[.slice (some ⟨b, off, none⟩) l.length vc, .slice (some ⟨B, 0, none⟩) l.length l.length, .slice aao (aheadL l).length ac, .slice (some ⟨CB, 0, none⟩) (ss.length + ll.length) ccap, .int .i64 (ss.length : Int), .slice (some ⟨RB, 0, none⟩) l.length l.length], .int .i64 0]) ∧ Below w.heap.size w w' ∧ RB < w'.heap.size ∧ w'.cell? ⟨RB, 0, none⟩ = some (.slice (some ⟨rb, 0, none⟩) (ss.length + ll.length) (ss.length + ll.length)) ∧ Hid (RowT w' rb (ss.length + ll.length) (t.hb (sig (ss ++ ll) ss.length))) := fun w0 hb => (fill_ok b off vc l.length so lo ss.length sc ll.length lc l ss ll props t w0 (Nat.lt_of_lt_of_le hB hb.size) (hT.below hb hB) rfl (Nat.lt_of_lt_of_le hbl hb.size) (hat.below hb hbl) hcap rfl rfl (hS.below hb) (hL.below hb) hc1 hc2 hwf hto).mono fun e w' ⟨B, aao, ac, CB, ccap, RB, h1, h2, h3, h4, h5⟩ => by
    obtain ⟨rb, e1, e2, e3⟩ := h5 0 hl0
    rw [Tm.sub_zero] at e3
    exact ⟨B, aao, ac, CB, ccap, RB, rb, h1, hb.trans (h2.mono hb.size), h4, e1, e2, e3⟩
  have hf1 := fun o => hfi (w.alloc o) ((Below.refl _ _).alloc (Nat.le_refl _) o)
  have hln0 : (0 : Int) < (l.length : Int) := by omega
  generalize t.hb (sig (ss ++ ll) ss.length) = hh at *
  generalize (aheadL l).length = an at *
  generalize ss.length = sn at *
  generalize ll.length = ln at *
  generalize l.length = n at *
  clear hT hV hS hL hc hc1 hc2 hz hne hvv hat hto hfi
  go_enter Tryz.func25, Tryz.ntmps25
  go_wp2_with (go_at_call 45; refine (hf1 _).mono ?_; rintro e w1 ⟨B, aao, ac, CB, ccap, RB, rb, rfl, hb1, hRl, hcr, HR⟩; have hcr2 := (fun o => ((((Below.refl w1.heap.size w1).alloc (Nat.le_refl _) o).cell (p := ⟨RB, 0, none⟩) hRl).trans hcr)))
  go_ret2
  have hb2 := hb1.alloc hb1.size (.cells #[.slice (some ⟨b, off, none⟩) n vc, .slice (some ⟨B, 0, none⟩) n n, .slice aao an ac, .slice (some ⟨CB, 0, none⟩) (sn + ln) ccap, .int .i64 (sn : Int), .slice (some ⟨RB, 0, none⟩) n n] 87)
  refine ⟨rb, rfl, hb2, ?_, fun j hj => ?_⟩
  · simp; have := HR.out.1; omega
  · exact (((Below.refl w1.heap.size w1).alloc (Nat.le_refl _) _).cell (p := ⟨rb, j, none⟩) HR.out.1).trans (HR.out.2 j hj)

set_option maxHeartbeats 800000 in
set_option maxRecDepth 20000 in
/-- THE CONTRACT OF word.Holds, of what is none. -/
theorem holds_bad (v sv lv : Value) (l : List (Int × Int)) (ss ll : List (List Bool)) (props : Int) (w : World) (hB : 0 < w.heap.size) (hT : TabAt w) (hV : OpsV w v l) (hzs : ss.length ≤ 140737488355328) (hzl : ll.length ≤ 140737488355328) (hS : LettersV w sv ss) (hL : LettersV w lv ll) (hc : mocode props l ss ll ≠ 0) :
    Calls Tryz.prog 11 #[v, .agg #[sv, lv], .int .i64 props] w fun e w' => e = .returned (.tuple #[.bool false, .int .i64 (mocode props l ss ll)]) ∧ Below w.heap.size w w' := by
  have hA : ∀ o, Below w.heap.size w (w.alloc o) := fun o => (Below.refl _ _).alloc (Nat.le_refl _) o
  have hfa := fun o => (moments_bad v sv lv l ss ll props (w.alloc o) (by simp) (hT.below (hA o) hB) (hV.below (hA o)) hzs hzl (hS.below (hA o)) (hL.below (hA o)) hc).mono fun e w' (⟨h1, h2⟩ : _ ∧ _) => (show _ ∧ Below w.heap.size w w' from ⟨h1, (hA o).trans (h2.mono (hA o).size)⟩)
  obtain ⟨so, sc, rfl⟩ := hS.shape
  obtain ⟨lo, lc, rfl⟩ := hL.shape
  obtain ⟨vo, vc, rfl, _⟩ := id hV
  generalize mocode props l ss ll = x at *
  generalize ss.length = sn at *
  generalize ll.length = ln at *
  generalize l.length = n at *
  clear hT hV hS hL hzs hzl
  go_enter Tryz.func11, Tryz.ntmps11
  go_wp2_with (go_at_call 25; refine (hfa _).mono ?_; rintro e w1 ⟨rfl, hb1⟩)
  go_ret2
  exact ⟨rfl, hb1⟩

set_option maxHeartbeats 800000 in
set_option maxRecDepth 20000 in
/-- THE CONTRACT OF word.Holds. -/
theorem holds_ok (v sv lv : Value) (l : List (Int × Int)) (ss ll : List (List Bool)) (props : Int) (t : Tm) (w : World) (hB : 0 < w.heap.size) (hT : TabAt w) (hV : OpsV w v l) (hS : LettersV w sv ss) (hL : LettersV w lv ll) (hc : mocode props l ss ll = 0) (hwf : t.Wf) (hto : t.ops = l) :
    Calls Tryz.prog 11 #[v, .agg #[sv, lv], .int .i64 props] w fun e w' => e = .returned (.tuple #[.bool (t.hb (sig (ss ++ ll) ss.length) 0), .int .i64 0]) ∧ Below w.heap.size w w' := by
  have hA : ∀ o, Below w.heap.size w (w.alloc o) := fun o => (Below.refl _ _).alloc (Nat.le_refl _) o
  have hfa : ∀ o, Calls Tryz.prog 25 #[v, .agg #[sv, lv], .int .i64 props] (w.alloc o) fun e w' => ∃ rb, e = .returned (.tuple #[.slice (some ⟨rb, 0, none⟩) (ss.length + ll.length) (ss.length + ll.length), .int .i64 0]) ∧ Below w.heap.size w w' ∧ Hid (RowT w' rb (ss.length + ll.length) (t.hb (sig (ss ++ ll) ss.length))) := fun o => (moments_ok v sv lv l ss ll props t (w.alloc o) (by simp) (hT.below (hA o) hB) (hV.below (hA o)) (hS.below (hA o)) (hL.below (hA o)) hc hwf hto).mono fun e w' ⟨rb, h1, h2, h3⟩ => ⟨rb, h1, (hA o).trans (h2.mono (hA o).size), h3⟩
  obtain ⟨_, h12, h1, hl12, _⟩ := wdcode_zero (mocode_zero hc).2
  obtain ⟨so, sc, rfl⟩ := hS.shape
  obtain ⟨lo, lc, rfl⟩ := hL.shape
  obtain ⟨vo, vc, rfl, _⟩ := id hV
  generalize t.hb (sig (ss ++ ll) ss.length) = hh at *
  generalize ss.length = sn at *
  generalize ll.length = ln at *
  generalize l.length = n at *
  obtain ⟨m, hm⟩ : ∃ m, m = sn + ln := ⟨_, rfl⟩
  rw [← hm] at hfa
  have hm0 : 0 < m := by omega
  have hm1 : (0 : Int) < (m : Int) := by omega
  clear hT hV hS hL hc hto hm
  go_enter Tryz.func11, Tryz.ntmps11
  go_wp2_with (go_at_call 25; refine (hfa _).mono ?_; rintro e w1 ⟨rb, rfl, hb1, HR⟩; have hcr := HR.out.2 0 hm0)
  go_ret2
  exact ⟨rfl, hb1⟩
end Go.Proofs.YtnicbkkkecfdpaaGreatDoor

/-
  Plain mathematics, and letters in memory, of a run that is held against a formula.
-/
namespace Go.Proofs.YtnicbkkkecfdpaaGreatDoor
open Go.ChangeShapes Go.WideShapes Go.ChangeAt Go.RowKit Go.Deep
open Terms Tm

theorem tk_zeroV {m : Mo} {ps : List (List (Int × Int))} {l : List (Int × Int)} (h : tkcode m ps l = 0) : pcode m ps = 0 ∧ lcode ps.length l = 0 := by
  unfold tkcode at h
  split at h
  · rename_i h1
    exact absurd h h1
  · rename_i h1
    exact ⟨Classical.not_not.1 h1, h⟩
theorem tk_letV {m : Mo} {ps : List (List (Int × Int))} {l : List (Int × Int)} (h : tkcode m ps l = 0) {c : Int} (hc : 0 ≤ c ∧ c < prodTo m.vars m.vars.length) : letC m ps c = 0 ∧ (letL m ps c).length = ps.length := by
  obtain ⟨hp, _⟩ := tk_zeroV h
  obtain ⟨hm, _⟩ := pcode_m hp
  have h1 : letC m ps c = 0 := by unfold letC; rw [if_pos hp, wcode_yes hm hc]
  refine ⟨h1, ?_⟩
  unfold letL
  rw [if_pos h1, List.length_map]
open Classical in
/-- all states of a run are states. -/
theorem run_range {m : Mo} {ss ll : List Int} (h : runB m ss ll = true) : (∀ i, i < ss.length → 0 ≤ ss.getD i 0 ∧ ss.getD i 0 < prodTo m.vars m.vars.length) ∧ ∀ i, i < ll.length → 0 ≤ ll.getD i 0 ∧ ll.getD i 0 < prodTo m.vars m.vars.length := by
  obtain ⟨hm, hne, hf, hl⟩ := of_decide_eq_true h
  have h0 : 0 ≤ (rvd ss ll).getD 0 0 ∧ (rvd ss ll).getD 0 0 < prodTo m.vars m.vars.length := by rw [hf]; exact firstC_range hm
  have hk : ∀ k, k < (rvd ss ll).length → 0 ≤ (rvd ss ll).getD k 0 ∧ (rvd ss ll).getD k 0 < prodTo m.vars m.vars.length := fun k hk => LeadsTo.range hm h0 (fun i hi => hl i (by omega))
  rw [rvd_len] at hk
  refine ⟨fun i hi => ?_, fun i hi => ?_⟩
  · have h1 := hk i (by omega)
    rw [show (rvd ss ll).getD i 0 = ss.getD i 0 by unfold rvd; simp [List.getD_eq_getElem?_getD, List.getElem?_append_left, hi]] at h1
    exact h1
  · have h1 := hk (ss.length + i) (by omega)
    rw [show (rvd ss ll).getD (ss.length + i) 0 = ll.getD i 0 by unfold rvd; rw [List.append_assoc]; simp [List.getD_eq_getElem?_getD, List.getElem?_append_right, List.getElem?_append_left, hi]] at h1
    exact h1
theorem run_ne {m : Mo} {ss ll : List Int} (h : runB m ss ll = true) : 1 ≤ ll.length := by
  rcases Nat.eq_zero_or_pos ll.length with h0 | h0
  · rw [List.length_eq_zero_iff.1 h0, runB_none] at h; cases h
  · exact h0
/-- the letters of states. -/
noncomputable def lets (m : Mo) (ps : List (List (Int × Int))) (cs : List Int) : List (List Bool) := cs.map (letL m ps)
theorem lets_len (m : Mo) (ps : List (List (Int × Int))) (cs : List Int) : (lets m ps cs).length = cs.length := by simp [lets]
theorem lets_at {m : Mo} {ps : List (List (Int × Int))} {cs : List Int} {i : Nat} (hi : i < cs.length) : (lets m ps cs).getD i [] = letL m ps (cs.getD i 0) := by simp [lets, List.getD_eq_getElem?_getD, hi]
theorem lets_take {m : Mo} {ps : List (List (Int × Int))} {cs : List Int} {k : Nat} (hk : k < cs.length) : lets m ps (cs.take (k + 1)) = lets m ps (cs.take k) ++ [letL m ps (cs.getD k 0)] := by
  unfold lets
  rw [List.take_succ_eq_append_getElem hk, List.map_append]
  simp [List.getD_eq_getElem?_getD, hk]
/-- a run of a right task is a word that passes. -/
theorem run_word {m : Mo} {ps : List (List (Int × Int))} {l : List (Int × Int)} {ss ll : List Int} (hk : tkcode m ps l = 0) (hs : ss.length ≤ 12) (hl : ll.length ≤ 12) (h : runB m ss ll = true) : mocode ps.length l (lets m ps ss) (lets m ps ll) = 0 := by
  obtain ⟨hp, hl0⟩ := tk_zeroV hk
  have h6 := (pcode_m hp).2
  have hr := run_range h
  have h1 := run_ne h
  unfold mocode
  rw [hl0, if_neg (by simp)]
  refine wdcode_ok (by omega) (by rw [lets_len, lets_len]; omega) ?_
  unfold letBad
  rw [List.any_eq_false]
  intro x hx
  have hxl : x.length = ps.length := by
    rcases List.mem_append.1 hx with hx | hx
    all_goals
      obtain ⟨y, hy, rfl⟩ := List.mem_map.1 hx
      obtain ⟨i, hi, rfl⟩ := List.mem_iff_getElem.1 hy
    · have := hr.1 i hi
      rw [show ss.getD i 0 = ss[i] by simp [List.getD_eq_getElem?_getD, hi]] at this
      exact (tk_letV hk this).2
    · have := hr.2 i hi
      rw [show ll.getD i 0 = ll[i] by simp [List.getD_eq_getElem?_getD, hi]] at this
      exact (tk_letV hk this).2
  simp [hxl]
theorem tree_tk {m : Mo} {ps : List (List (Int × Int))} {l : List (Int × Int)} (h : tkcode m ps l = 0) : ∃ t : Tm, t.Wf ∧ t.ops = l := tree_of (code_zero (lcode_zero (tk_zeroV h).2).2.2.1).2

/-! ### letters in memory -/
theorem BoolsV.setS {w : World} {v : Value} {l : List Bool} {p : Addr} {a : Option Addr} {n c : Nat} (h : BoolsV w v l) (hc : w.cell? p = some (.slice a n c)) (u : Value) : BoolsV (w.setCell p u) v l := by
  obtain ⟨ao, cap, rfl, h⟩ := h
  refine ⟨ao, cap, rfl, fun hne => ?_⟩
  obtain ⟨b, off, rfl, hlt, hat⟩ := h hne
  refine ⟨b, off, rfl, by simpa using hlt, fun i hi => ?_⟩
  have h1 := hat i hi
  have hne2 : (⟨b, off + i, none⟩ : Addr) ≠ p := by
    intro e
    rw [e, hc] at h1
    simp at h1
  rw [World.cell?_setCell_other _ _ _ _ hne2.symm]
  exact h1
end Go.Proofs.YtnicbkkkecfdpaaGreatDoor

/-
  The contract of verdict.lettersOf.
-/
namespace Go.Proofs.YtnicbkkkecfdpaaGreatDoor
open Go.ChangeShapes Go.WideShapes Go.ChangeAt Go.RowKit Go.Deep
open Terms Tm

/-- letters on the way: the first k are there. -/
def LetJ (w : World) (g n k : Nat) (ls : List (List Bool)) : Prop := ∃ us : Nat → Value, w.rowIs g 50 n us ∧ (∀ j, j < k → BoolsV w (us j) (ls.getD j [])) ∧ ∀ j, k ≤ j → us j = .slice none 0 0
theorem LetJ.later {w w' : World} {g n k : Nat} {ls : List (List Bool)} (h : LetJ w g n k ls) (hb : Below w.heap.size w w') : LetJ w' g n k ls := by
  obtain ⟨us, h1, h2, h3⟩ := h
  exact ⟨us, row_later h1 hb, fun j hj => (h2 j hj).below hb, h3⟩
theorem LetJ.put {w : World} {g n k : Nat} {ls : List (List Bool)} {ao : Option Addr} {cn cap : Nat} (h : LetJ w g n k ls) (hk : k < n) (hv : BoolsV w (.slice ao cn cap) (ls.getD k [])) : LetJ (w.setCell ⟨g, k, none⟩ (.slice ao cn cap)) g n (k + 1) ls := by
  obtain ⟨us, h1, h2, h3⟩ := h
  have hc : w.cell? ⟨g, k, none⟩ = some (.slice none 0 0) := by rw [h1.cell hk, h3 k (Nat.le_refl _)]
  refine ⟨fun j => if j = k then .slice ao cn cap else us j, h1.set k _, fun j hj => ?_, fun j hj => ?_⟩
  · show BoolsV _ (if j = k then .slice ao cn cap else us j) _
    by_cases e : j = k
    · subst e
      rw [if_pos rfl]
      exact hv.setS hc _
    · rw [if_neg e]
      exact (h2 j (by omega)).setS hc _
  · show (if j = k then _ else us j) = _
    rw [if_neg (by omega)]
    exact h3 j (by omega)
theorem LetJ.done {w : World} {g n : Nat} {ls : List (List Bool)} (h : LetJ w g n n ls) (hn : n = ls.length) : LettersV w (.slice (some ⟨g, 0, none⟩) n n) ls := by
  obtain ⟨us, h1, h2, _⟩ := h
  subst hn
  refine ⟨(List.range ls.length).map us, _, _, rfl, fun h => by simp at h, ⟨by simp, fun i hi => ?_⟩, fun hne => ⟨g, 0, rfl, h1.lt, fun i hi => ?_⟩⟩
  · rw [show ((List.range ls.length).map us).getD i nilV = us i by simp [List.getD_eq_getElem?_getD, hi]]
    exact h2 i hi
  · rw [Nat.zero_add, h1.cell hi]
    simp [List.getD_eq_getElem?_getD, hi]

set_option maxHeartbeats 1600000 in
set_option maxRecDepth 20000 in
theorem lettersOf_any (va vr pv fv : Value) (co : Option Addr) (cc : Nat) (m : Mo) (ps : List (List (Int × Int))) (l : List (Int × Int)) (cs : List Int) (w : World) (hB : 0 < w.heap.size) (hT : TabAt w) (hV : TaskV w va vr pv fv m ps l) (hk : tkcode m ps l = 0) (h12 : cs.length ≤ 12) (hr : ∀ i, i < cs.length → 0 ≤ cs.getD i 0 ∧ cs.getD i 0 < prodTo m.vars m.vars.length) (hC : IntsV w (.slice co cs.length cc) cs) :
    Calls Tryz.prog 10 #[.agg #[va, vr, pv, fv], .slice co cs.length cc] w fun e w' => ∃ g, e = .returned (.tuple #[.slice (some ⟨g, 0, none⟩) cs.length cs.length, .int .i64 0]) ∧ Below w.heap.size w w' ∧ Hid (LettersV w' (.slice (some ⟨g, 0, none⟩) cs.length cs.length) (lets m ps cs)) := by
  obtain ⟨ao, ac, rfl⟩ := hV.mo.1.shape
  obtain ⟨ro, rc, rfl⟩ := hV.mo.2.shape
  obtain ⟨po, pc, rfl⟩ := hV.ps.shape
  obtain ⟨fo, fc, rfl, _⟩ := id hV.fo
  obtain ⟨W1, hW1⟩ : ∃ W1, W1 = w.alloc (.cells #[.slice ao m.vars.length ac, .slice ro m.rules.length rc, .slice po ps.length pc, .slice fo l.length fc] 29) := ⟨_, rfl⟩
  have hb1 : Below w.heap.size w W1 := by rw [hW1]; exact (Below.refl _ _).alloc (Nat.le_refl _) _
  have hz1 : W1.heap.size = w.heap.size + 1 := by rw [hW1]; simp
  have HBx : Hid (∀ w1, Below (w.heap.size + 1) W1 w1 → Below w.heap.size w w1 ∧ w1.cell? ⟨w.heap.size, 0, none⟩ = some (.slice ao m.vars.length ac) ∧ w1.cell? ⟨w.heap.size, 1, none⟩ = some (.slice ro m.rules.length rc) ∧ w1.cell? ⟨w.heap.size, 2, none⟩ = some (.slice po ps.length pc)) := fun w1 h => by
    have hl : w.heap.size < w.heap.size + 1 := Nat.lt_succ_self _
    refine ⟨hb1.trans (h.mono (Nat.le_succ _)), (h.cell (p := ⟨w.heap.size, 0, none⟩) hl).trans ?_, (h.cell (p := ⟨w.heap.size, 1, none⟩) hl).trans ?_, (h.cell (p := ⟨w.heap.size, 2, none⟩) hl).trans ?_⟩ <;> (rw [hW1]; simp [go_sem])
  have HLe : Hid (∀ (w1 : World) (k : Nat), Below (w.heap.size + 1) W1 w1 → k < cs.length → Calls Tryz.prog 24 #[.agg #[.slice ao m.vars.length ac, .slice ro m.rules.length rc], .slice po ps.length pc, .int .i64 (cs.getD k 0)] w1 fun e w' => ∃ lo ln lc, e = .returned (.tuple #[.slice lo ln lc, .int .i64 0]) ∧ Below w1.heap.size w1 w' ∧ Hid (BoolsV w' (.slice lo ln lc) ((lets m ps cs).getD k []))) := fun w1 k h hkl => by
    have h0 := hb1.trans (h.mono (Nat.le_succ _))
    refine (letter_any _ _ _ m ps (cs.getD k 0) w1 (Nat.lt_of_lt_of_le hB h0.size) (hT.below h0 hB) (hV.mo.below h0) (hV.ps.below h0)).mono fun e w' ⟨v, e1, e2, e3⟩ => ?_
    obtain ⟨lo, lc, rfl, hx⟩ := e3
    exact ⟨lo, _, lc, by rw [e1, (tk_letV hk (hr k hkl)).1], e2, by rw [lets_at hkl]; exact ⟨lo, lc, rfl, hx⟩⟩
  have HCs : Hid (∀ w1, Below (w.heap.size + 1) W1 w1 → ∀ k, k < cs.length → ∃ b off, co = some ⟨b, off, none⟩ ∧ w1.cell? ⟨b, off + k, none⟩ = some (.int .i64 (cs.getD k 0))) := fun w1 h k hkl => by
    obtain ⟨b, off, e, hlt, hc⟩ := hC.at hkl
    exact ⟨b, off, e, ((hb1.trans (h.mono (Nat.le_succ _))).cell (p := ⟨b, off + k, none⟩) hlt).trans hc⟩
  have HLl : Hid (cs.length = (lets m ps cs).length) := (lets_len _ _ _).symm
  generalize lets m ps cs = ls at *
  obtain ⟨n, hn⟩ : ∃ n, n = cs.length := ⟨_, rfl⟩
  rw [← hn] at h12 HLe HCs HLl ⊢
  have hmk := run_make_row' (P := Tryz.prog) 41 50 (.slice none 0 0) 24 Tryz.underlying41 infoBools rfl .i64 .i64 n (by omega) (by omega)
  have HJ0 : Hid (LetJ (W1.alloc (.cells (madeCells #[.slice none 0 0] n) 50)) (w.heap.size + 1) n 0 ls) := ⟨fun _ => .slice none 0 0, by have h := World.rowIs_made W1 (.slice none 0 0) n 50; rw [hz1] at h; exact h, fun j hj => by omega, fun j _ => rfl⟩
  have HB0 : Hid (Below (w.heap.size + 1) W1 (W1.alloc (.cells (madeCells #[.slice none 0 0] n) 50))) := (Below.refl _ _).alloc (by omega) _
  generalize m.vars.length = vn at *
  generalize m.rules.length = rn at *
  generalize ps.length = pn at *
  generalize l.length = fn at *
  clear hT hV hk hr hC hn
  go_enter Tryz.func10, Tryz.ntmps10
  go_wp2_with fail
  rw [← hW1]
  clear hW1 hz1 hb1 hmk
  go_loopw [16] (fun i wr => ∃ k : Nat, k ≤ n ∧ i = .int .i64 (k : Int) ∧ Hid (LetJ wr (w.heap.size + 1) n k ls) ∧ Hid (Below (w.heap.size + 1) W1 wr)) (fun i _ => n - (intOf i).toNat)
  case atStart => exact ⟨0, Nat.zero_le _, rfl, HJ0, HB0⟩
  case round =>
    obtain ⟨k, hkn, rfl, HJ, HBr⟩ := hrel
    obtain ⟨hbw, a0, a1, a2⟩ := HBx.out wr HBr.out
    have hs1 : w.heap.size + 1 < wr.heap.size := by obtain ⟨us, h1, _⟩ := HJ.out; exact h1.lt
    by_cases hlt : k < n
    · obtain ⟨b, off, rfl, c0⟩ := HCs.out wr HBr.out k hlt
      have hle := HLe.out wr k HBr.out hlt
      have hki : (k : Int) < (n : Int) := by omega
      have HN : Hid (∀ (w2 : World) (lo : Option Addr) (ln lc : Nat), Below wr.heap.size wr w2 → BoolsV w2 (.slice lo ln lc) (ls.getD k []) → w2.frozen? ⟨w.heap.size + 1, k, none⟩ = false ∧ w2.cell? ⟨w.heap.size + 1, k, none⟩ = some (.slice none 0 0) ∧ Hid (LetJ (w2.setCell ⟨w.heap.size + 1, k, none⟩ (.slice lo ln lc)) (w.heap.size + 1) n (k + 1) ls) ∧ Hid (Below (w.heap.size + 1) W1 (w2.setCell ⟨w.heap.size + 1, k, none⟩ (.slice lo ln lc)))) := fun w2 lo ln lc h hv => by
        have hj := HJ.out.later h
        refine ⟨?_, ?_, hj.put hlt hv, (HBr.out.trans (h.mono (by omega))).setCell (Nat.le_refl _) _⟩
        · obtain ⟨us, h1, _⟩ := hj
          exact h1.frozen k
        · obtain ⟨us, h1, _, h3⟩ := hj
          rw [h1.cell hlt, h3 k (Nat.le_refl _)]
      generalize cs.getD k 0 = x at *
      clear HJ
      go_wp2_with (go_at_call 24; refine hle.mono ?_; rintro e w2 ⟨lo, ln, lc, rfl, hb2, HV2⟩; obtain ⟨f0, f1, HJ2, HB2⟩ := HN.out w2 lo ln lc hb2 HV2.out)
      go_roundw
      case rel => exact ⟨k + 1, by omega, by go_num, HJ2, HB2⟩
      case measure => simp [intOf]; omega
    · obtain rfl : n = k := by omega
      have HF : Hid (LettersV wr (.slice (some ⟨w.heap.size + 1, 0, none⟩) n n) ls) := HJ.out.done HLl.out
      clear HJ
      go_wp2_with fail
      go_ret2
      exact ⟨_, rfl, hbw, HF⟩
end Go.Proofs.YtnicbkkkecfdpaaGreatDoor

/-
  The library's slices.Index and slices.Contains at lists of numbers.
-/
namespace Go.Proofs.YtnicbkkkecfdpaaGreatDoor
open Go.ChangeShapes Go.WideShapes Go.ChangeAt Go.RowKit Go.Deep
open Terms

set_option maxRecDepth 20000 in
theorem take_getV {l : List Int} {k : Nat} (h : k < l.length) : l.take (k + 1) = l.take k ++ [l.getD k 0] := by
  rw [List.take_succ_eq_append_getElem h]
  simp [List.getD_eq_getElem?_getD, h]
set_option maxRecDepth 20000 in
theorem getD_memV {l : List Int} {k : Nat} (h : k < l.length) : l.getD k 0 ∈ l := by
  rw [List.getD_eq_getElem?_getD, List.getElem?_eq_getElem h]
  exact List.getElem_mem h
set_option maxRecDepth 20000 in
theorem IntsV.atV {w : World} {ao : Option Addr} {n cap : Nat} {l : List Int} (h : IntsV w (.slice ao n cap) l) {k : Nat} (hk : k < l.length) : ∃ b off, ao = some ⟨b, off, none⟩ ∧ b < w.heap.size ∧ n = l.length ∧ IntsAt w b off l := by
  obtain ⟨ao', cap', e, h⟩ := h
  injection e with e1 e2 e3
  subst e1 e3
  obtain ⟨b, off, e, hb, hat⟩ := h (by intro h; subst h; simp at hk)
  exact ⟨b, off, e, hb, e2, hat⟩

set_option maxHeartbeats 800000 in
set_option maxRecDepth 20000 in
theorem indexV_any (ao : Option Addr) (cap : Nat) (l : List Int) (x : Int) (w : World) (hl : l.length ≤ 140737488355328) (hV : IntsV w (.slice ao l.length cap) l) :
    Calls Tryz.prog 65 #[.slice ao l.length cap, .int .i64 x] w fun e w' => ∃ q : Int, e = .returned (.int .i64 q) ∧ w' = w ∧ (x ∈ l → 0 ≤ q) ∧ (x ∉ l → q = -1) := by
  obtain ⟨n, hn⟩ : ∃ n, l.length = n := ⟨_, rfl⟩
  have H : Hid (IntsV w (.slice ao l.length cap) l) := hV
  rw [hn] at hl H ⊢
  have HN : Hid (l.length = n) := hn
  clear hV hn
  go_enter Tryz.func65, Tryz.ntmps65
  go_wp2
  go_loopw [8] (fun i wr => ∃ k : Nat, k ≤ n ∧ i = .int .i64 k ∧ Hid (x ∉ l.take k) ∧ wr = w) (fun i _ => n - (intOf i).toNat)
  case atStart => exact ⟨0, Nat.zero_le _, rfl, by show ¬ _; simp, rfl⟩
  case round =>
    obtain ⟨k, hk, rfl, HT, rfl⟩ := hrel
    by_cases hlt : k < n
    · have hlt2 : k < l.length := by rw [HN.out]; exact hlt
      obtain ⟨b, off, rfl, hb, _, hat⟩ := IntsV.atV H.out hlt2
      have c1 := hat k hlt2
      have HS : Hid (x ≠ l.getD k 0 → x ∉ l.take (k + 1)) := fun h hm => by
        rw [take_getV hlt2] at hm
        rcases List.mem_append.1 hm with h2 | h2
        · exact HT.out h2
        · simp at h2; exact h h2
      have HM : Hid (l.getD k 0 ∈ l) := getD_memV hlt2
      clear hat HT
      generalize l.getD k 0 = y at *
      by_cases hxy : x = y
      · subst hxy
        go_wp2
        go_ret
        exact ⟨_, rfl, rfl, fun _ => by omega, fun h => absurd HM.out h⟩
      · have hs := HS.out hxy
        have HS2 : Hid (x ∉ l.take (k + 1)) := hs
        clear hs HS HM
        go_wp2
        go_roundw
        case rel => exact ⟨k + 1, by omega, by go_num, HS2, by trivial⟩
        case measure => simp [intOf]; omega
    · obtain rfl : k = n := by omega
      have HT' : Hid (x ∉ l) := by have h := HT.out; rw [List.take_of_length_le (by rw [HN.out]; omega)] at h; exact h
      clear HT
      go_wp2
      go_ret
      exact ⟨-1, rfl, rfl, fun h => absurd h HT'.out, fun _ => rfl⟩
set_option maxRecDepth 20000 in
theorem containsV_any (ao : Option Addr) (cap : Nat) (l : List Int) (x : Int) (w : World) (hl : l.length ≤ 140737488355328) (hV : IntsV w (.slice ao l.length cap) l) :
    Calls Tryz.prog 41 #[.slice ao l.length cap, .int .i64 x] w fun e w' => e = .returned (.bool (decide (x ∈ l))) ∧ w' = w := by
  have hx := indexV_any ao cap l x w hl hV
  generalize l.length = n at *
  clear hV
  by_cases hm : x ∈ l
  · rw [show decide (x ∈ l) = true by simp [hm]]
    have hx2 : Calls Tryz.prog 65 #[.slice ao n cap, .int .i64 x] w fun e w' => ∃ q : Int, e = .returned (.int .i64 q) ∧ w' = w ∧ 0 ≤ q := hx.mono fun e w' ⟨q, h1, h2, h3, _⟩ => ⟨q, h1, h2, h3 hm⟩
    clear hx hm
    go_enter Tryz.func41, Tryz.ntmps41
    go_wp2_with (go_at_call 65; refine hx2.mono ?_; rintro e w1 ⟨q, rfl, rfl, h3⟩)
    go_ret
    exact ⟨by first | rfl | trivial, rfl⟩
  · rw [show decide (x ∈ l) = false by simp [hm]]
    have hx2 : Calls Tryz.prog 65 #[.slice ao n cap, .int .i64 x] w fun e w' => e = .returned (.int .i64 (-1)) ∧ w' = w := hx.mono fun e w' ⟨q, h1, h2, _, h3⟩ => ⟨by rw [h1, h3 hm], h2⟩
    clear hx hm
    go_enter Tryz.func41, Tryz.ntmps41
    go_wp2_with (go_at_call 65; refine hx2.mono ?_; rintro e w1 ⟨rfl, rfl⟩)
    go_ret
    exact ⟨by first | rfl | trivial, rfl⟩

end Go.Proofs.YtnicbkkkecfdpaaGreatDoor

/-
  A map of the call's own with elements of any kind: what is asked, and what is put.
-/
namespace Go.Proofs.YtnicbkkkecfdpaaGreatDoor
open Go.ChangeShapes Go.WideShapes Go.ChangeAt Go.RowKit Go.Deep Go.Maps

/-- an element reads as itself. -/
def heldR : Value → Option (DataW Value × List MemPlace) := fun v => some (.held v, [])
/-- block b is a map of at most n entries, by its keys f. -/
def MapIs (w : World) (kt : TypeId) (b n : Nat) (f : Lit → Option Value) : Prop :=
  ∃ D : DataW Value, w.ownsMap Tryz.prog kt heldR b n D ∧ ∀ x, Maps.has D x = (f x).isSome ∧ ∀ v, f x = some v → ∀ z, D.atKey x z = .held v
set_option maxRecDepth 20000 in
theorem MapIs.lt {w : World} {kt : TypeId} {b n : Nat} {f : Lit → Option Value} (h : MapIs w kt b n f) : b < w.heap.size := by
  obtain ⟨D, h1, _⟩ := h
  exact h1.lt
set_option maxRecDepth 20000 in
theorem MapIs.isMap {w : World} {kt : TypeId} {b n : Nat} {f : Lit → Option Value} (h : MapIs w kt b n f) : ∃ es c, w.heap[b]? = some (.map es c) := by
  obtain ⟨D, ⟨es, c, h1, _⟩, _⟩ := h
  exact ⟨es, c, h1⟩
set_option maxRecDepth 20000 in
theorem MapIs.new {w : World} (kt : TypeId) {b : Nat} (h : w.heap[b]? = some (.map #[] 0)) : MapIs w kt b 0 (fun _ => none) := by
  obtain ⟨es, c, h1, h2, h3, h4⟩ := World.ownsMap_made w Tryz.prog kt heldR
  rw [(MapKept.heap_alloc w _).1] at h1
  injection h1 with h1
  injection h1 with h5 h6
  subst h5 h6
  exact ⟨.map [], ⟨#[], 0, h, h2, Nat.le_refl _, rfl⟩, fun x => ⟨by simp [Maps.has], fun v hv => by simp at hv⟩⟩
set_option maxRecDepth 20000 in
theorem MapIs.kept {w w' : World} {kt : TypeId} {b n : Nat} {f : Lit → Option Value} (h : MapIs w kt b n f) (e : w'.heap[b]? = w.heap[b]?) : MapIs w' kt b n f := by
  obtain ⟨D, ⟨es, c, h1, h2⟩, h3⟩ := h
  exact ⟨D, ⟨es, c, e.trans h1, h2⟩, h3⟩
set_option maxRecDepth 20000 in
/-- what is asked. -/
theorem MapIs.look {w : World} {kt : TypeId} {b n : Nat} {f : Lit → Option Value} (h : MapIs w kt b n f) (K : Keyed Tryz.prog kt) {t e : TypeId} (ht : Tryz.prog.underlying t = some (.map kt e)) {z : Value} (hz : (zeroValue e).run Tryz.prog w = .ok z w)
    {key : Value} {kl : Lit} (hkey : keyOf Tryz.prog kt key = some kl) : (Instr.lookup t (.map (some b)) key true).run Tryz.prog w = .ok (.tuple #[(f kl).getD z, .bool (f kl).isSome]) w := by
  obtain ⟨D, h1, h2⟩ := h
  obtain ⟨v, ps, hrun, hR⟩ := h1.look_ok K ht hz (zd := .held z) (zp := []) rfl hkey
  obtain ⟨hs, hv⟩ := h2 kl
  simp only [heldR, Option.some.injEq, Prod.mk.injEq] at hR
  rw [hrun, hs]
  cases hf : f kl with
  | none =>
    rw [hf] at hs
    have := Maps.atKey_of_not_has (D := D) (k := kl) (by simpa using hs) (.held z)
    rw [this] at hR
    have e1 := hR.1
    injection e1 with e1
    rw [e1]
    rfl
  | some u =>
    rw [hv u hf] at hR
    have e1 := hR.1
    injection e1 with e1
    rw [e1]
    rfl
open Classical in
/-- one entry more, or another one. -/
noncomputable def fput (f : Lit → Option Value) (kl : Lit) (val : Value) : Lit → Option Value := fun x => if x = kl then some val else f x
set_option maxRecDepth 20000 in
theorem fput_same (f : Lit → Option Value) (kl : Lit) (val : Value) : fput f kl val kl = some val := by unfold fput; rw [if_pos rfl]
set_option maxRecDepth 20000 in
theorem fput_other {f : Lit → Option Value} {kl x : Lit} (h : x ≠ kl) (val : Value) : fput f kl val x = f x := by unfold fput; rw [if_neg h]
set_option maxRecDepth 20000 in
/-- what is put. -/
theorem MapIs.put {w : World} {kt : TypeId} {b n : Nat} {f : Lit → Option Value} (h : MapIs w kt b n f) (K : Keyed Tryz.prog kt) {t e : TypeId} (ht : Tryz.prog.underlying t = some (.map kt e)) (hn : n < maxLen)
    {key val : Value} {kl : Lit} (hkey : keyOf Tryz.prog kt key = some kl) (hlit : WideAt.IsKeyLit kl) : ∃ w', (Instr.mapUpdate t (.map (some b)) key val).run Tryz.prog w = .ok () w' ∧ MapIs w' kt b (n + 1) (fput f kl val) ∧ w.grownBy w' (some b) := by
  obtain ⟨D, h1, h2⟩ := h
  obtain ⟨w', hrun, h3, h4⟩ := h1.update K ht hn hkey (val := val) (d := .held val) (ps := []) rfl
  refine ⟨w', hrun, ⟨_, h3, fun x => ?_⟩, h4⟩
  by_cases hx : x = kl
  · subst hx
    rw [fput_same]
    refine ⟨by rw [Maps.has_put_same h1.isMap hlit]; rfl, fun v hv z => ?_⟩
    cases hv
    exact Maps.atKey_put_same h1.isMap hlit _ z
  · rw [fput_other hx]
    refine ⟨by rw [Maps.has_put_other hx]; exact (h2 x).1, fun v hv z => ?_⟩
    rw [Maps.atKey_put_other hx]
    exact (h2 x).2 v hv z

/-! ### worlds that are the same but for two maps -/
/-- w' is w but for the blocks bs and bl, and new ones. -/
structure Sk (bs bl : Nat) (w w' : World) : Prop where
  os : w'.os = w.os
  tape : w'.tape = w.tape
  output : w'.output = w.output
  size : w.heap.size ≤ w'.heap.size
  block : ∀ i, i < w.heap.size → i ≠ bs → i ≠ bl → w'.heap[i]? = w.heap[i]?
set_option maxRecDepth 20000 in
theorem Sk.refl (bs bl : Nat) (w : World) : Sk bs bl w w := ⟨rfl, rfl, rfl, Nat.le_refl _, fun _ _ _ _ => rfl⟩
set_option maxRecDepth 20000 in
theorem Sk.trans {bs bl : Nat} {a b c : World} (h : Sk bs bl a b) (k : Sk bs bl b c) : Sk bs bl a c :=
  ⟨k.os.trans h.os, k.tape.trans h.tape, k.output.trans h.output, Nat.le_trans h.size k.size, fun i hi h1 h2 => (k.block i (Nat.lt_of_lt_of_le hi h.size) h1 h2).trans (h.block i hi h1 h2)⟩
set_option maxRecDepth 20000 in
theorem Sk.of {bs bl : Nat} {w w' : World} (h : Below w.heap.size w w') : Sk bs bl w w' := ⟨h.os, h.tape, h.output, h.size, fun i hi _ _ => h.block i hi⟩
set_option maxRecDepth 20000 in
theorem Sk.grown {bs bl : Nat} {w w' : World} {r : Nat} (h : w.grownBy w' (some r)) (hr : r = bs ∨ r = bl) : Sk bs bl w w' :=
  ⟨h.os, h.tape, h.output, h.size, fun i hi h1 h2 => h.block i hi (by intro e; injection e with e; omega)⟩
set_option maxRecDepth 20000 in
theorem Sk.below {bs bl base : Nat} {w w' : World} (h : Sk bs bl w w') (h1 : base ≤ bs) (h2 : base ≤ bl) (h3 : base ≤ w.heap.size) : Below base w w' :=
  ⟨h.os, h.tape, h.output, h.size, fun i hi => h.block i (by omega) (by omega) (by omega)⟩
set_option maxRecDepth 20000 in
theorem Sk.drew {bs bl : Nat} {w w' : World} (h : Sk bs bl w w') : Sk bs bl w w'.drew := ⟨h.os, h.tape, h.output, h.size, h.block⟩
/-- both are maps. -/
def TwoMaps (w : World) (bs bl : Nat) : Prop := (∃ es c, w.heap[bs]? = some (.map es c)) ∧ ∃ es c, w.heap[bl]? = some (.map es c)
set_option maxRecDepth 20000 in
theorem not_map {w : World} {p : Addr} {v : Value} (h : w.cell? p = some v) {es : Array MapEntry} {c : Nat} : w.heap[p.block]? ≠ some (.map es c) := by
  intro e
  simp [World.cell?, e] at h
set_option maxRecDepth 20000 in
theorem Sk.cell {bs bl : Nat} {w w' : World} (h : Sk bs bl w w') (hm : TwoMaps w bs bl) {p : Addr} {v : Value} (hp : w.cell? p = some v) : w'.cell? p = some v := by
  obtain ⟨⟨es, c, e1⟩, ⟨es', c', e2⟩⟩ := hm
  have hlt := World.block_lt_of_cell? w p hp
  rw [World.cell?_of_block (h.block p.block hlt (fun e => not_map hp (by rw [e]; exact e1)) (fun e => not_map hp (by rw [e]; exact e2)))]
  exact hp
end Go.Proofs.YtnicbkkkecfdpaaGreatDoor

/-
  The contracts of step.nextOf and step.Next.
-/
namespace Go.Proofs.YtnicbkkkecfdpaaGreatDoor
open Go.ChangeShapes Go.WideShapes Go.ChangeAt Go.RowKit Go.Deep
open Terms Tm

/-- numbers in a row of one's own, in a slice that is not nil. -/
def OwnI (base : Nat) (w : World) (v : Value) (l : List Int) : Prop := w.ownsRow base 3 1 v l.length (ivals l) ∧ v ≠ .slice none 0 0
set_option maxRecDepth 20000 in
theorem OwnI.form {base : Nat} {w : World} {v : Value} {l : List Int} (h : OwnI base w v l) : ∃ g cap, v = .slice (some ⟨g, 0, none⟩) l.length cap ∧ base ≤ g ∧ g < w.heap.size := by
  rcases h.1.2 with ⟨e0, _⟩ | ⟨g, cap, cur, rfl, hb, hg, _⟩
  · exact absurd e0 h.2
  · exact ⟨g, cap, rfl, hb, (Array.getElem?_eq_some_iff.1 hg).1⟩

set_option maxHeartbeats 3200000 in
set_option maxRecDepth 20000 in
/-- THE CONTRACT OF nextOf. -/
theorem nextOf_own (va vr : Value) (m : Mo) (code : Int) (w : World) (hB : 0 < w.heap.size) (hT : TabAt w) (hV : ModelV w va vr m) (hm : mcode m = 0) :
    Calls Tryz.prog 64 #[.agg #[va, vr], .int .i64 code] w fun e w' => ∃ v, e = .returned (.tuple #[v, .int .i64 (wcode m code)]) ∧ Below w.heap.size w w' ∧ IntsV w' v (nxtL m code) ∧ w'.ownsRow w.heap.size 3 1 v (nxtL m code).length (ivals (nxtL m code)) := by
  have hA : ∀ o, Below w.heap.size w (w.alloc o) := fun o => (Below.refl _ _).alloc (Nat.le_refl _) o
  have hVb : ∀ w', Below w.heap.size w w' → ∀ ao cap, va = .slice ao m.vars.length cap → ModelV w' (.slice ao m.vars.length cap) (.slice none 0 0) ⟨m.vars, []⟩ := fun w' hb ao cap e => ⟨e ▸ hV.1.below hb, ⟨none, 0, rfl, ⟨by simp, fun _ => ⟨rfl, rfl⟩⟩, fun h => by simp at h⟩⟩
  obtain ⟨ao, cap, rfl⟩ := hV.1.shape
  obtain ⟨ro, rc, hro⟩ := hV.2.shape
  have hba := fun w => bare_any ao ro m.vars.length cap m.rules.length rc w
  by_cases hw : wcode m code = 0
  · have hvl : ∀ w', Below w.heap.size w w' → Calls Tryz.prog 42 #[.agg #[.slice ao m.vars.length cap, .slice none 0 0], .int .i64 code] w' fun e w2 => ∃ B, e = .returned (.tuple #[.slice (some ⟨B, 0, none⟩) (valsL m.vars code).length (valsL m.vars code).length, .int .i64 0]) ∧ w'.heap.size ≤ B ∧ Below w'.heap.size w' w2 ∧ w2.rowIs B 3 (valsL m.vars code).length (fun j => .int .i64 ((valsL m.vars code).getD j 0)) := fun w' hb =>
      svalues_any _ _ ⟨m.vars, []⟩ code w' (Nat.lt_of_lt_of_le hB hb.size) (hT.below hb hB) (hVb w' hb ao cap rfl) (by rw [wcode_bare _ hm]; exact hw)
    obtain ⟨hr12, hrs⟩ := mcode_rules hm
    have HDo : Hid (∀ w' (_ : Below w.heap.size w w') B k gv sv, k < m.rules.length → w'.rowIs B 3 (valsL m.vars code).length (fun j => .int .i64 ((valsL m.vars code).getD j 0)) → OpsV w' gv (m.rules.getD k ru0).guard → SetsV w' sv (m.rules.getD k ru0).sets → Calls Tryz.prog 88 #[.agg #[.slice ao m.vars.length cap, vr], .slice (some ⟨B, 0, none⟩) (valsL m.vars code).length (valsL m.vars code).length, .agg #[gv, sv]] w' fun e w2 => e = .returned (.tuple #[.int .i64 (optN (ruleDo m.vars (valsL m.vars code) (m.rules.getD k ru0))), .int .i64 (optC (ruleDo m.vars (valsL m.vars code) (m.rules.getD k ru0)))]) ∧ Below w'.heap.size w' w2) := fun w' hb B k gv sv hk hrow hg hs =>
      doRule_any _ vr gv sv B m (valsL m.vars code) (m.rules.getD k ru0) w' (Nat.lt_of_lt_of_le hB hb.size) (hT.below hb hB) (hV.below hb) hm (hrs k hk) (valsL_length _ _) hrow hg hs
    have HR : Hid (RulesV w vr m.rules) := hV.2
    have HNL : Hid (nxtL m code = upL (if rawTo m.vars (valsL m.vars code) m.rules m.rules.length = [] then [code] else rawTo m.vars (valsL m.vars code) m.rules m.rules.length)) := by show _ = _; unfold nxtL nextL rawL; rw [if_pos hw]
    rw [hw]
    generalize nxtL m code = res at *
    generalize valsL m.vars code = env at *
    subst hro
    obtain ⟨rn, hrn⟩ : ∃ rn, rn = m.rules.length := ⟨_, rfl⟩
    have HRN : Hid (rn = m.rules.length) := hrn
    rw [← hrn] at hba HDo HR HNL hr12 ⊢
    obtain ⟨i0, hi, hz0, hz1, hz2⟩ := info_parts infoInt
    clear hV hT hVb hw hm hrs hrn
    generalize m.vars.length = n at *
    go_enter Tryz.func64, Tryz.ntmps64
    go_wp2_with (first | (go_at_call 43; refine (hba _).mono ?_; rintro e w1 ⟨rfl, hb1⟩; have hbw1 := (hA _).trans (hb1.mono (hA _).size); have k10 : w1.cell? ⟨w.heap.size, 0, none⟩ = some (.slice ao n cap) := (hb1.cell (p := ⟨w.heap.size, 0, none⟩) (by simp)).trans (by simp [go_sem]); have k11 : w1.cell? ⟨w.heap.size, 1, none⟩ = some (.slice ro rn rc) := (hb1.cell (p := ⟨w.heap.size, 1, none⟩) (by simp)).trans (by simp [go_sem]); have hs1 : w.heap.size < w1.heap.size := (by have := hb1.size; simp at this; omega)) | (go_at_call 42; refine (hvl _ hbw1).mono ?_; rintro e w2 ⟨B, rfl, hBl, hb2, hr2⟩; have k20 := (hb2.cell (p := ⟨w.heap.size, 0, none⟩) hs1).trans k10; have k21 := (hb2.cell (p := ⟨w.heap.size, 1, none⟩) hs1).trans k11; have hs2 := Nat.lt_of_lt_of_le hs1 hb2.size; have kA1 : ∀ o, (w2.alloc o).cell? ⟨w.heap.size, 1, none⟩ = some (.slice ro rn rc) := fun o => (((Below.refl w2.heap.size w2).alloc (Nat.le_refl _) o).cell (p := ⟨w.heap.size, 1, none⟩) hs2).trans k21))
    have hbw2 := hbw1.trans (hb2.mono hbw1.size)
    have hA2 : ∀ o, Below w2.heap.size w2 (w2.alloc o) := fun o => (Below.refl _ _).alloc (Nat.le_refl _) o
    have HRow : Hid (w2.rowIs B 3 env.length (fun j => .int .i64 (env.getD j 0))) := hr2
    have HB2 : Hid (Below w.heap.size w w2) := hbw2
    have HK2 : Hid (∀ w', Below w2.heap.size w2 w' → w'.cell? ⟨w.heap.size, 0, none⟩ = some (.slice ao n cap) ∧ w'.cell? ⟨w.heap.size, 1, none⟩ = some (.slice ro rn rc)) := fun w' hb => ⟨(hb.cell (p := ⟨w.heap.size, 0, none⟩) hs2).trans k20, (hb.cell (p := ⟨w.heap.size, 1, none⟩) hs2).trans k21⟩
    have HO0 : Hid (OwnI w2.heap.size (w2.alloc (.cells #[] 3)) (.slice (some ⟨w2.heap.size, 0, none⟩) 0 0) (rawTo m.vars env m.rules 0)) := ⟨World.ownsRow_lit w2 #[] 0 (Nat.le_refl _) (by decide) rfl, by simp⟩
    clear hvl hba hb1 hbw1 k10 k11 hs1 hb2 hr2 k20 k21 kA1 hbw2
    go_loopw [8, 27] (fun nx i wr => ∃ k : Nat, k ≤ rn ∧ i = .int .i64 k ∧ Hid (OwnI w2.heap.size wr nx (rawTo m.vars env m.rules k)) ∧ Hid (Below w2.heap.size w2 wr)) (fun _ i _ => rn - (intOf i).toNat)
    case atStart => exact ⟨0, Nat.zero_le _, rfl, HO0.out, hA2 _⟩
    case round =>
      obtain ⟨k, hk, rfl, HOwn, HBel⟩ := hrel
      have hbel := HBel.out
      have hbw := HB2.out.trans (hbel.mono HB2.out.size)
      obtain ⟨kr0, kr1⟩ := HK2.out wr hbel
      obtain ⟨g, gc, rfl, hg, hgl⟩ := HOwn.out.form
      have hown := HOwn.out.1
      by_cases hlt : k < rn
      · obtain ⟨b, off, rfl, hblt, hat⟩ := HR.out.at (i := k) (by rw [← HRN.out]; exact hlt)
        obtain ⟨⟨u, c0, hou⟩, u', c1, hsu⟩ := hat.below hbw hblt
        obtain ⟨uo, uc, rfl⟩ := hou.shape
        obtain ⟨so, sc, rfl⟩ := hsu.shape
        have hAr : ∀ o, Below wr.heap.size wr (wr.alloc o) := fun o => (Below.refl _ _).alloc (Nat.le_refl _) o
        have hkA0 : ∀ o, (wr.alloc o).cell? ⟨w.heap.size, 0, none⟩ = some (.slice ao n cap) := fun o => (HK2.out _ (hbel.trans ((hAr o).mono hbel.size))).1
        have hkA1 : ∀ o, (wr.alloc o).cell? ⟨w.heap.size, 1, none⟩ = some (.slice (some ⟨b, off, none⟩) rn rc) := fun o => (HK2.out _ (hbel.trans ((hAr o).mono hbel.size))).2
        have hdo := fun o => HDo.out (wr.alloc o) (hbw.trans ((hAr o).mono hbw.size)) B k _ _ hlt (row_later (row_later HRow.out hbel) (hAr o)) (hou.below (hAr o)) (hsu.below (hAr o))
        have HRl : Hid ((rawTo m.vars env m.rules k).length ≤ k) := rawTo_length _ _ _ _
        have hk' : k < m.rules.length := by rw [← HRN.out]; exact hlt
        generalize (m.rules.getD k ru0).guard.length = gl at *
        generalize (m.rules.getD k ru0).sets.length = sl at *
        obtain ⟨L, hL⟩ : ∃ L, L = (rawTo m.vars env m.rules k).length := ⟨_, rfl⟩
        have HL : Hid (L = (rawTo m.vars env m.rules k).length) := hL
        rw [← hL] at hown HRl ⊢
        cases hres : ruleDo m.vars env (m.rules.getD k ru0) with
        | none =>
          rw [hres] at hdo
          simp only [optN, optC] at hdo
          have HN : Hid (rawTo m.vars env m.rules (k + 1) = rawTo m.vars env m.rules k) := rawTo_none hk' hres
          have HW4 : Hid (∀ o w4, Below (wr.alloc o).heap.size (wr.alloc o) w4 → Below w2.heap.size w2 w4 ∧ OwnI w2.heap.size w4 (.slice (some ⟨g, 0, none⟩) L gc) (rawTo m.vars env m.rules k)) := fun o w4 hb => ⟨(hbel.alloc hbel.size o).trans (hb.mono (hbel.alloc hbel.size o).size), by
            refine ⟨?_, by simp⟩
            rw [← HL.out]
            exact owns_later (owns_later hown (hAr o) (Nat.le_refl _)) hb (Nat.le_refl _)⟩
          clear hat hou hsu HDo HR hres hk' hown hL
          go_wp2_with (go_at_call 88; refine (hdo _).mono ?_; rintro e w4 ⟨rfl, hb4⟩; obtain ⟨hb24, ho4⟩ := HW4.out _ w4 hb4)
          exact ⟨⟨k + 1, hlt, by first | rfl | simp, by rw [HN.out]; exact ho4, hb24⟩, by simp [intOf]; omega⟩
        | some x =>
          rw [hres] at hdo
          simp only [optN, optC] at hdo
          have HN : Hid (rawTo m.vars env m.rules (k + 1) = rawTo m.vars env m.rules k ++ [x]) := rawTo_some hk' hres
          have h63 : L + 1 ≤ maxLen := by have := HRl.out; unfold maxLen; omega
          have hkb : (L + 1) * 8 ≤ 140737488355328 := by have := HRl.out; omega
          clear hat hou hsu HDo HR hres hk' hL
          go_wp2_with (first | (go_at_call 88; refine (hdo _).mono ?_; rintro e w4 ⟨rfl, hb4⟩; have hb24 := (hbel.alloc hbel.size _).trans (hb4.mono (hbel.alloc hbel.size _).size); have hown4 := fun o => (owns_later (owns_later hown (hAr _) (Nat.le_refl _)) hb4 (Nat.le_refl _)).alloc o; have hbase : ∀ o, w2.heap.size ≤ (w4.alloc o).heap.size := (fun o => by have := hb24.size; simp; omega)) | (at_builtin; refine wpList_append_lies _ rfl (.tmp 40) (.tmp 42) 30 rfl w2.heap.size 3 i0 (.int .i64 0) 1 8 Tryz.underlying30 hi hz0 hz1 hz2 rfl (by decide) (.slice (some ⟨g, 0, none⟩) L gc) L _ rfl (hown4 _) ⟨w4.heap.size, 0, none⟩ 1 1 [.int .i64 x] rfl rfl (cell_one_new _ _ _) (by intro u hu; simp at hu; subst hu; rfl) (by decide) h63 hkb (hbase _) _ rfl ?_; intro g5 cp5 w5 hown5 hgrow5 hat5 hgl5))
          have hb25 : Below w2.heap.size w2 w5 := (hb24.alloc hb24.size _).grown hgrow5 (hbase _) (fun z hz => by have hgz : g = z := (by simpa [Value.ownBlock] using hz); rw [← hgz]; exact hg)
          have ho5 : OwnI w2.heap.size w5 (.slice (some ⟨g5, 0, none⟩) (L + 1) cp5) (rawTo m.vars env m.rules (k + 1)) := by
            refine ⟨?_, by simp⟩
            rw [HN.out, List.length_append, ← HL.out]
            rw [show ivals (rawTo m.vars env m.rules k ++ [x]) = ivals (rawTo m.vars env m.rules k) ++ [.int .i64 x] by simp [ivals]]
            exact hown5
          exact ⟨⟨k + 1, hlt, by first | rfl | simp, ho5, hb25⟩, by simp [intOf]; omega⟩
      · have hkn : k = rn := by omega
        subst hkn
        have HRl : Hid ((rawTo m.vars env m.rules k).length ≤ k) := rawTo_length _ _ _ _
        generalize rawTo m.vars env m.rules k = raw at *
        clear HDo HR HOwn kr0 kr1 hlt hk
        by_cases hraw : raw = []
        · have HRes : Hid (res = upL [code]) := by show _ = _; rw [HNL.out, if_pos hraw]
          subst hraw
          have hown0 : wr.ownsRow w2.heap.size 3 1 (.slice (some ⟨g, 0, none⟩) 0 gc) 0 [] := hown
          have hown4 := fun o => hown0.alloc o
          have hbase : ∀ o, w2.heap.size ≤ (wr.alloc o).heap.size := fun o => by have := hbel.size; simp; omega
          have hAr : ∀ o, Below wr.heap.size wr (wr.alloc o) := fun o => (Below.refl _ _).alloc (Nat.le_refl _) o
          clear hown HNL HRl
          simp only [List.length_nil]
          have hso := fun (w5 : World) g5 cp5 (ho : w5.ownsRow w2.heap.size 3 1 (.slice (some ⟨g5, 0, none⟩) 1 cp5) 1 (ivals [code])) => sort_own g5 cp5 w2.heap.size [code] w5 (by simp) ho
          have hms : [code].mergeSort leB = [code] := List.mergeSort_singleton _
          have HUp : Hid (Lib.compact [code] = upL [code]) := by show _ = Lib.compact _; rw [hms]
          rw [hms] at hso
          simp only [List.length_cons, List.length_nil, Nat.zero_add] at hso
          have hco := fun (w5 : World) g5 cp5 (ho : w5.ownsRow w2.heap.size 3 1 (.slice (some ⟨g5, 0, none⟩) 1 cp5) 1 (ivals [code])) => compact_own g5 cp5 w2.heap.size [code] w5 (by simp) ho
          simp only [List.length_cons, List.length_nil, Nat.zero_add] at hco
          rw [HUp.out] at hco
          go_wp2_with (first | (at_builtin; refine wpList_append_lies _ rfl (.tmp 48) (.tmp 50) 30 rfl w2.heap.size 3 i0 (.int .i64 0) 1 8 Tryz.underlying30 hi hz0 hz1 hz2 rfl (by decide) (.slice (some ⟨g, 0, none⟩) 0 gc) 0 _ rfl (hown4 _) ⟨wr.heap.size, 0, none⟩ 1 1 [.int .i64 code] rfl rfl (cell_one_new _ _ _) (by intro u hu; simp at hu; subst hu; rfl) (by decide) (by decide) (by decide) (hbase _) _ rfl ?_; intro g5 cp5 w5 hown5 hgrow5 hat5 hgl5; have hg5 : w2.heap.size ≤ g5 := (by rcases hat5 with h5 | h5; (have hgz : g = g5 := (by simpa [Value.ownBlock] using h5)); (rw [← hgz]; exact hg); (rw [h5]; exact hbase _))) | (go_at_call 89; refine (hso _ _ _ hown5).mono ?_; rintro e w6 ⟨rfl, hgr6, ho6⟩) | (go_at_call 90; refine (hco _ _ _ ho6).mono ?_; rintro e w7 ⟨rfl, hgr7, ho7⟩))
          have hb5 : Below w2.heap.size w2 w5 := (hbel.alloc hbel.size _).grown hgrow5 (hbase _) (fun z hz => by have hgz : g = z := (by simpa [Value.ownBlock] using hz); rw [← hgz]; exact hg)
          have hb7 : Below w2.heap.size w2 w7 := (hb5.grown hgr6 hb5.size (fun z hz => by rw [← Option.some.inj hz]; exact hg5)).grown hgr7 (Nat.le_trans hb5.size hgr6.size) (fun z hz => by rw [← Option.some.inj hz]; exact hg5)
          have hI7 : IntsV w7 (.slice (some ⟨g5, 0, none⟩) (upL [code]).length cp5) (upL [code]) := intsV_of_owns ho7
          go_ret2
          exact ⟨_, rfl, HB2.out.trans (hb7.mono HB2.out.size), by rw [HRes.out]; exact ⟨hI7, owns_mono ho7 HB2.out.size⟩⟩
        · have HRes : Hid (res = upL raw) := by show _ = _; rw [HNL.out, if_neg hraw]
          have hpos : 0 < raw.length := List.length_pos_iff.2 hraw
          have hso := sort_own g gc w2.heap.size raw wr (by have := HRl.out; omega) hown
          obtain ⟨L, hL⟩ : ∃ L, L = raw.length := ⟨_, rfl⟩
          have HL : Hid (L = raw.length) := hL
          have HLs : Hid ((raw.mergeSort leB).length = L) := by show _ = _; rw [List.length_mergeSort, hL]
          have hL12 : L ≤ 12 := by have := HRl.out; omega
          rw [← hL] at hso hpos ⊢
          clear hown HNL HRl hraw hL
          have HCo : Hid (∀ w5 : World, w5.ownsRow w2.heap.size 3 1 (.slice (some ⟨g, 0, none⟩) L gc) L (ivals (raw.mergeSort leB)) → Calls Tryz.prog 90 #[.slice (some ⟨g, 0, none⟩) L gc] w5 fun e w' => e = .returned (.slice (some ⟨g, 0, none⟩) (upL raw).length gc) ∧ w5.grownBy w' (some g) ∧ w'.ownsRow w2.heap.size 3 1 (.slice (some ⟨g, 0, none⟩) (upL raw).length gc) (upL raw).length (ivals (upL raw))) := fun w5 ho => by
            rw [← HLs.out] at ho ⊢
            exact compact_own g gc w2.heap.size (raw.mergeSort leB) w5 (by rw [HLs.out]; omega) ho
          go_wp2_with (first | (go_at_call 89; refine hso.mono ?_; rintro e w6 ⟨rfl, hgr6, ho6⟩; have hco := HCo.out w6 ho6) | (go_at_call 90; refine hco.mono ?_; rintro e w7 ⟨rfl, hgr7, ho7⟩))
          have hb7 : Below w2.heap.size w2 w7 := (hbel.grown hgr6 hbel.size (fun z hz => by rw [← Option.some.inj hz]; exact hg)).grown hgr7 (Nat.le_trans hbel.size hgr6.size) (fun z hz => by rw [← Option.some.inj hz]; exact hg)
          have hI7 : IntsV w7 (.slice (some ⟨g, 0, none⟩) (upL raw).length gc) (upL raw) := intsV_of_owns ho7
          go_ret2
          exact ⟨_, rfl, HB2.out.trans (hb7.mono HB2.out.size), by rw [HRes.out]; exact ⟨hI7, owns_mono ho7 HB2.out.size⟩⟩
  · have hvl := fun w' (hb : Below w.heap.size w w') => mvalues_any _ _ ⟨m.vars, []⟩ code w' (Nat.lt_of_lt_of_le hB hb.size) (hT.below hb hB) (hVb w' hb ao cap rfl)
    rw [wcode_bare _ hm] at hvl
    have hnl : nxtL m code = [] := by unfold nxtL; rw [if_neg hw]
    rw [hnl]
    subst hro
    generalize wcode m code = c at *
    generalize wvals ⟨m.vars, []⟩ code = vs at *
    generalize m.vars.length = n at *
    generalize m.rules.length = rn at *
    clear hV hT hVb hnl hm
    go_enter Tryz.func64, Tryz.ntmps64
    go_wp2_with (first | (go_at_call 43; refine (hba _).mono ?_; rintro e w2 ⟨rfl, hb2⟩; have hbw2 := (hA _).trans (hb2.mono (hA _).size)) | (go_at_call 42; refine (hvl _ hbw2).mono ?_; rintro e w3 ⟨v, rfl, hb3, _⟩))
    go_ret2
    exact ⟨_, rfl, hbw2.trans (hb3.mono hbw2.size), ⟨none, 0, rfl, fun h => absurd rfl h⟩, World.ownsRow_nil _ _ _ _⟩

set_option maxRecDepth 20000 in
theorem nextOf_any (va vr : Value) (m : Mo) (code : Int) (w : World) (hB : 0 < w.heap.size) (hT : TabAt w) (hV : ModelV w va vr m) (hm : mcode m = 0) :
    Calls Tryz.prog 64 #[.agg #[va, vr], .int .i64 code] w fun e w' => ∃ v, e = .returned (.tuple #[v, .int .i64 (wcode m code)]) ∧ Below w.heap.size w w' ∧ IntsV w' v (nxtL m code) :=
  (nextOf_own va vr m code w hB hT hV hm).mono fun _ _ ⟨v, h1, h2, h3, _⟩ => ⟨v, h1, h2, h3⟩

set_option maxHeartbeats 1600000 in
set_option maxRecDepth 20000 in
/-- THE CONTRACT OF Next. -/
theorem next_any (va vr : Value) (m : Mo) (code : Int) (w : World) (hB : 0 < w.heap.size) (hT : TabAt w) (hV : ModelV w va vr m) :
    Calls Tryz.prog 40 #[.agg #[va, vr], .int .i64 code] w fun e w' => ∃ v, e = .returned (.tuple #[v, .int .i64 (wcode m code)]) ∧ Below w.heap.size w w' ∧ IntsV w' v (nxtL m code) := by
  have hA : ∀ o, Below w.heap.size w (w.alloc o) := fun o => (Below.refl _ _).alloc (Nat.le_refl _) o
  have hch := fun o => mcheck_any va vr m (w.alloc o) (Nat.lt_of_lt_of_le hB (hA o).size) (hT.below (hA o) hB) (hV.below (hA o))
  by_cases hm : mcode m = 0
  · have hne := fun w' (hb : Below w.heap.size w w') => nextOf_any va vr m code w' (Nat.lt_of_lt_of_le hB hb.size) (hT.below hb hB) (hV.below hb) hm
    rw [hm] at hch
    obtain ⟨ao, cap, rfl⟩ := hV.1.shape
    obtain ⟨ro, rc, rfl⟩ := hV.2.shape
    generalize wcode m code = c at *
    generalize nxtL m code = res at *
    generalize m.vars.length = n at *
    generalize m.rules.length = rn at *
    clear hV hT hm
    go_enter Tryz.func40, Tryz.ntmps40
    go_wp2_with (first | (go_at_call 35; refine (hch _).mono ?_; rintro e w1 ⟨rfl, hb1⟩; have hbw1 := (hA _).trans (hb1.mono (hA _).size); have k10 : w1.cell? ⟨w.heap.size, 0, none⟩ = some (.slice ao n cap) := (hb1.cell (p := ⟨w.heap.size, 0, none⟩) (by simp)).trans (by simp [go_sem]); have k11 : w1.cell? ⟨w.heap.size, 1, none⟩ = some (.slice ro rn rc) := (hb1.cell (p := ⟨w.heap.size, 1, none⟩) (by simp)).trans (by simp [go_sem])) | (go_at_call 64; refine (hne _ hbw1).mono ?_; rintro e w2 ⟨v, rfl, hb2, hI2⟩))
    go_ret2
    exact ⟨_, rfl, hbw1.trans (hb2.mono hbw1.size), hI2⟩
  · have hw : wcode m code = mcode m := wcode_bad hm
    have hnl : nxtL m code = [] := by unfold nxtL; rw [if_neg (by rw [hw]; exact hm)]
    rw [hw, hnl]
    obtain ⟨ao, cap, rfl⟩ := hV.1.shape
    obtain ⟨ro, rc, rfl⟩ := hV.2.shape
    generalize mcode m = c at *
    generalize m.vars.length = n at *
    generalize m.rules.length = rn at *
    clear hV hT hw hnl
    go_enter Tryz.func40, Tryz.ntmps40
    go_wp2_with (go_at_call 35; refine (hch _).mono ?_; rintro e w1 ⟨rfl, hb1⟩)
    go_ret2
    exact ⟨_, rfl, (hA _).trans (hb1.mono (hA _).size), none, 0, rfl, fun h => absurd rfl h⟩
end Go.Proofs.YtnicbkkkecfdpaaGreatDoor

/-
  step.Next hands its row as the caller's own.
-/
namespace Go.Proofs.YtnicbkkkecfdpaaGreatDoor
open Go.ChangeShapes Go.WideShapes Go.ChangeAt Go.RowKit Go.Deep
open Terms Tm

set_option maxHeartbeats 1600000 in
set_option maxRecDepth 20000 in
/-- Next's list lies in memory of its own. -/
theorem next_own (va vr : Value) (m : Mo) (code : Int) (w : World) (hB : 0 < w.heap.size) (hT : TabAt w) (hV : ModelV w va vr m) (hm : mcode m = 0) :
    Calls Tryz.prog 40 #[.agg #[va, vr], .int .i64 code] w fun e w' => ∃ v, e = .returned (.tuple #[v, .int .i64 (wcode m code)]) ∧ Below w.heap.size w w' ∧ w'.ownsRow w.heap.size 3 1 v (nxtL m code).length (ivals (nxtL m code)) := by
  have hA : ∀ o, Below w.heap.size w (w.alloc o) := fun o => (Below.refl _ _).alloc (Nat.le_refl _) o
  have hch := fun o => mcheck_any va vr m (w.alloc o) (Nat.lt_of_lt_of_le hB (hA o).size) (hT.below (hA o) hB) (hV.below (hA o))
  have hne := fun w' (hb : Below w.heap.size w w') => nextOf_own va vr m code w' (Nat.lt_of_lt_of_le hB hb.size) (hT.below hb hB) (hV.below hb) hm
  rw [hm] at hch
  obtain ⟨ao, cap, rfl⟩ := hV.1.shape
  obtain ⟨ro, rc, rfl⟩ := hV.2.shape
  generalize wcode m code = c at *
  generalize nxtL m code = res at *
  generalize m.vars.length = n at *
  generalize m.rules.length = rn at *
  clear hV hT hm
  go_enter Tryz.func40, Tryz.ntmps40
  go_wp2_with (first | (go_at_call 35; refine (hch _).mono ?_; rintro e w1 ⟨rfl, hb1⟩; have hbw1 := (hA _).trans (hb1.mono (hA _).size); have k10 : w1.cell? ⟨w.heap.size, 0, none⟩ = some (.slice ao n cap) := (hb1.cell (p := ⟨w.heap.size, 0, none⟩) (by simp)).trans (by simp [go_sem]); have k11 : w1.cell? ⟨w.heap.size, 1, none⟩ = some (.slice ro rn rc) := (hb1.cell (p := ⟨w.heap.size, 1, none⟩) (by simp)).trans (by simp [go_sem])) | (go_at_call 64; refine (hne _ hbw1).mono ?_; rintro e w2 ⟨v, rfl, hb2, hI2, ho2⟩))
  go_ret2
  exact ⟨_, rfl, hbw1.trans (hb2.mono hbw1.size), owns_mono ho2 hbw1.size⟩
end Go.Proofs.YtnicbkkkecfdpaaGreatDoor

/-
  The contract of verdict.allLead.
-/
namespace Go.Proofs.YtnicbkkkecfdpaaGreatDoor
open Go.ChangeShapes Go.WideShapes Go.ChangeAt Go.RowKit Go.Deep Go.Maps
open Terms Tm

set_option maxRecDepth 20000 in
theorem keyedIV : Keyed Tryz.prog 3 := int_keyed Tryz.underlying3
set_option maxRecDepth 20000 in
theorem zeroStV (w : World) : (zeroValue 82).run Tryz.prog w = .ok (.agg #[.slice none 0 0]) w := by kernel_rfl
set_option maxRecDepth 20000 in
theorem keyIV {x : Int} (h : -9223372036854775808 ≤ x ∧ x ≤ 9223372036854775807) : keyOf Tryz.prog 3 (.int .i64 x) = some (.int .i64 x) := keyOf_int_mk Tryz.underlying3 (WalkArith.wf_i64 (by omega))
set_option maxRecDepth 20000 in
theorem IntsV.overMap {wr w' : World} {g : Nat} {v : Value} {l : List Int} (h : IntsV wr v l) (hm : ∃ es c, wr.heap[g]? = some (.map es c)) (hs : Sk g g wr w') : IntsV w' v l := by
  obtain ⟨ao, cap, rfl, h⟩ := h
  refine ⟨ao, cap, rfl, fun hne => ?_⟩
  obtain ⟨b, off, rfl, hlt, hat⟩ := h hne
  exact ⟨b, off, rfl, Nat.lt_of_lt_of_le hlt hs.size, fun i hi => hs.cell ⟨hm, hm⟩ (hat i hi)⟩
/-- an entry tells the next states. -/
def KnAt (wr : World) (m : Mo) (f : Lit → Option Value) : Prop := ∀ kl v, f kl = some v → ∃ c ao cap, kl = .int .i64 c ∧ v = .agg #[.slice ao (nextL m c).length cap] ∧ IntsV wr (.slice ao (nextL m c).length cap) (nextL m c)
/-- what is known. -/
def KnOk (wr : World) (g n : Nat) (m : Mo) : Prop := ∃ f, MapIs wr 3 g n f ∧ KnAt wr m f
set_option maxRecDepth 20000 in
theorem KnOk.lt {wr : World} {g n : Nat} {m : Mo} (h : KnOk wr g n m) : g < wr.heap.size := by obtain ⟨f, h1, _⟩ := h; exact h1.lt
set_option maxRecDepth 20000 in
theorem MapIs.more {w : World} {kt : TypeId} {b n k : Nat} {f : Lit → Option Value} (h : MapIs w kt b n f) (hk : n ≤ k) : MapIs w kt b k f := by
  obtain ⟨D, ⟨es, c, h1, h2, h3, h4⟩, h5⟩ := h
  exact ⟨D, ⟨es, c, h1, h2, Nat.le_trans h3 hk, h4⟩, h5⟩
set_option maxRecDepth 20000 in
theorem KnOk.below {wr w' : World} {g n : Nat} {m : Mo} (h : KnOk wr g n m) (hb : Below wr.heap.size wr w') : KnOk w' g (n + 1) m := by
  obtain ⟨f, h1, h2⟩ := h
  refine ⟨f, (h1.kept (hb.block _ h1.lt)).more (Nat.le_succ _), fun kl v hv => ?_⟩
  obtain ⟨c, ao, cap, e1, e2, e3⟩ := h2 kl v hv
  exact ⟨c, ao, cap, e1, e2, e3.below hb⟩
set_option maxRecDepth 20000 in
theorem KnOk.put {wr w3 w' : World} {g n : Nat} {m : Mo} {f : Lit → Option Value} {code : Int} {ao : Option Addr} {cap : Nat} (h1 : MapIs wr 3 g n f) (h2 : KnAt wr m f) (hb : Below wr.heap.size wr w3) (hg : w3.grownBy w' (some g))
    (hm : MapIs w' 3 g (n + 1) (fput f (.int .i64 code) (.agg #[.slice ao (nextL m code).length cap]))) (hI : IntsV w3 (.slice ao (nextL m code).length cap) (nextL m code)) : KnOk w' g (n + 1) m ∧ IntsV w' (.slice ao (nextL m code).length cap) (nextL m code) := by
  have hmm : ∃ es c, w3.heap[g]? = some (.map es c) := (h1.kept (hb.block _ h1.lt)).isMap
  have hs : Sk g g w3 w' := Sk.grown hg (.inl rfl)
  refine ⟨⟨_, hm, fun kl v hv => ?_⟩, hI.overMap hmm hs⟩
  by_cases hk : kl = .int .i64 code
  · subst hk
    rw [fput_same] at hv
    cases hv
    exact ⟨code, ao, cap, rfl, rfl, hI.overMap hmm hs⟩
  · rw [fput_other hk] at hv
    obtain ⟨c, ao', cap', e1, e2, e3⟩ := h2 kl v hv
    exact ⟨c, ao', cap', e1, e2, (e3.below hb).overMap hmm hs⟩

open Classical in
set_option maxHeartbeats 3200000 in
set_option maxRecDepth 20000 in
/-- THE CONTRACT OF allLead. -/
theorem allLead_any (va vr : Value) (m : Mo) (b off cap : Nat) (cs : List Int) (w : World) (hB : 0 < w.heap.size) (hT : TabAt w) (hV : ModelV w va vr m) (hm : mcode m = 0) (h2 : 2 ≤ cs.length) (hM : cs.length ≤ 1099511627776) (hcap : cs.length ≤ cap) (hb : b < w.heap.size) (hC : IntsAt w b off cs)
    (h0 : 0 ≤ cs.getD 0 0 ∧ cs.getD 0 0 < prodTo m.vars m.vars.length) :
    Calls Tryz.prog 23 #[.agg #[va, vr], .slice (some ⟨b, off, none⟩) cs.length cap] w fun e w' => e = .returned (.bool (decide (LeadsTo m cs (cs.length - 1)))) ∧ Below w.heap.size w w' := by
  obtain ⟨ao, ac, rfl⟩ := hV.1.shape
  obtain ⟨ro, rc, rfl⟩ := hV.2.shape
  have hP := (mcode_vars hm).prod (Nat.le_refl m.vars.length)
  obtain ⟨W1, hW1⟩ : ∃ W1, W1 = w.alloc (.cells #[.slice ao m.vars.length ac, .slice ro m.rules.length rc] 25) := ⟨_, rfl⟩
  have hb1 : Below w.heap.size w W1 := by rw [hW1]; exact (Below.refl _ _).alloc (Nat.le_refl _) _
  have hz1 : W1.heap.size = w.heap.size + 1 := by rw [hW1]; simp
  have HNe : Hid (∀ (w1 : World) (code : Int), Below (w.heap.size + 1) W1 w1 → (0 ≤ code ∧ code < prodTo m.vars m.vars.length) → Calls Tryz.prog 40 #[.agg #[.slice ao m.vars.length ac, .slice ro m.rules.length rc], .int .i64 code] w1 fun e w' => ∃ no nc, e = .returned (.tuple #[.slice no (nextL m code).length nc, .int .i64 0]) ∧ Below w1.heap.size w1 w' ∧ Hid (IntsV w' (.slice no (nextL m code).length nc) (nextL m code) ∧ ∀ a, no = some a → w1.heap.size ≤ a.block)) := fun w1 code h hcr => by
    have h0 := hb1.trans (h.mono (Nat.le_succ _))
    refine (next_own _ _ m code w1 (Nat.lt_of_lt_of_le hB h0.size) (hT.below h0 hB) (hV.below h0) hm).mono fun e w' ⟨v, q1, q2, q3⟩ => ?_
    have q4 := intsV_of_owns q3
    rw [nxtL_yes hm hcr] at q4
    obtain ⟨no, nc, rfl, hx⟩ := q4
    refine ⟨no, nc, by rw [q1, wcode_yes hm hcr], q2, ⟨no, nc, rfl, hx⟩, fun a e => ?_⟩
    rcases q3.2 with ⟨e3, _⟩ | ⟨g', cap', cur', e3, e4, _⟩
    · rw [e] at e3; cases e3
    · rw [e] at e3
      injection e3 with e3 _ _
      injection e3 with e3
      rw [e3]
      exact e4
  have HCo : Hid (∀ (w1 : World) (no : Option Addr) (nc : Nat) (code x : Int), (0 ≤ code ∧ code < prodTo m.vars m.vars.length) → IntsV w1 (.slice no (nextL m code).length nc) (nextL m code) → Calls Tryz.prog 41 #[.slice no (nextL m code).length nc, .int .i64 x] w1 fun e w' => e = .returned (.bool (decide (x ∈ nextL m code))) ∧ w' = w1) := fun w1 no nc code x hcr hI => containsV_any no nc (nextL m code) x w1 (by have := nxtL_length m code; rw [nxtL_yes hm hcr] at this; have h9 := (mcode_rules hm); omega) hI
  have HBx : Hid (∀ w1, Below (w.heap.size + 1) W1 w1 → w1.cell? ⟨w.heap.size, 0, none⟩ = some (.slice ao m.vars.length ac) ∧ w1.cell? ⟨w.heap.size, 1, none⟩ = some (.slice ro m.rules.length rc)) := fun w1 h => by
    have hl : w.heap.size < w.heap.size + 1 := Nat.lt_succ_self _
    exact ⟨(h.cell (p := ⟨w.heap.size, 0, none⟩) hl).trans (by rw [hW1]; simp [go_sem]), (h.cell (p := ⟨w.heap.size, 1, none⟩) hl).trans (by rw [hW1]; simp [go_sem])⟩
  have HCs : Hid (∀ w1, Below (w.heap.size + 1) W1 w1 → ∀ i, i < cs.length → w1.cell? ⟨b, off + i, none⟩ = some (.int .i64 (cs.getD i 0))) := fun w1 h i hi => ((hb1.trans (h.mono (Nat.le_succ _))).cell (p := ⟨b, off + i, none⟩) hb).trans (hC i hi)
  have HRg : Hid (∀ k, LeadsTo m cs k → 0 ≤ cs.getD k 0 ∧ cs.getD k 0 < prodTo m.vars m.vars.length) := fun k h => h.range hm h0
  have HNo : Hid (∀ k, k + 1 < cs.length → (0 ≤ cs.getD k 0 ∧ cs.getD k 0 < prodTo m.vars m.vars.length) → cs.getD (k + 1) 0 ∉ nextL m (cs.getD k 0) → decide (LeadsTo m cs (cs.length - 1)) = false) := fun k hk hr hn => decide_eq_false fun h => hn (by have := h k (by omega); rw [nxtL_yes hm hr] at this; exact this)
  have HYs : Hid (∀ k, LeadsTo m cs k → cs.getD (k + 1) 0 ∈ nextL m (cs.getD k 0) → LeadsTo m cs (k + 1)) := fun k h h2 => h.succ (by rw [nxtL_yes hm (h.range hm h0)]; exact h2)
  have HRes : Hid (∀ k, LeadsTo m cs k → k = cs.length - 1 → decide (LeadsTo m cs (cs.length - 1)) = true) := fun k h e => by rw [← e]; exact decide_eq_true h
  have HK0 : Hid (∀ w1 : World, KnOk (w1.alloc (.map #[] 0)) w1.heap.size 0 m) := fun w1 => ⟨fun _ => none, MapIs.new _ (MapKept.heap_alloc w1 _).1, fun kl v h => by cases h⟩
  have HPut : Hid (∀ (w1 : World) (g n : Nat) (f : Lit → Option Value) (code : Int) (v : Value), MapIs w1 3 g n f → n ≤ 1099511627776 → (0 ≤ code ∧ code < prodTo m.vars m.vars.length) → ∃ w', (Instr.mapUpdate 80 (.map (some g)) (.int .i64 code) v).run Tryz.prog w1 = .ok () w' ∧ MapIs w' 3 g (n + 1) (fput f (.int .i64 code) v) ∧ w1.grownBy w' (some g)) := fun w1 g n f code v h hn hcr => h.put keyedIV Tryz.underlying80 (by unfold maxLen; omega) (val := v) (keyIV (by omega)) (by simp [WideAt.IsKeyLit])
  have HLk : Hid (∀ (w1 : World) (g n : Nat) (f : Lit → Option Value) (code : Int), MapIs w1 3 g n f → (0 ≤ code ∧ code < prodTo m.vars m.vars.length) → (Instr.lookup 80 (.map (some g)) (.int .i64 code) true).run Tryz.prog w1 = .ok (.tuple #[(f (.int .i64 code)).getD (.agg #[.slice none 0 0]), .bool (f (.int .i64 code)).isSome]) w1) := fun w1 g n f code h hcr => h.look keyedIV Tryz.underlying80 (zeroStV _) (keyIV (by omega))
  generalize decide (LeadsTo m cs (cs.length - 1)) = res at *
  obtain ⟨n, hn⟩ : ∃ n, n = cs.length := ⟨_, rfl⟩
  have HN : Hid (n = cs.length) := hn
  rw [← hn] at h2 hM hcap HCs HNo HRes ⊢
  generalize m.vars.length = vn at *
  generalize m.rules.length = rn at *
  have hc1 : ¬ cap = 1 := by omega
  have HKs : Hid (KnOk (W1.alloc (.map #[] 0)) (w.heap.size + 1) 0 m) := by have h := HK0.out W1; rw [hz1] at h; exact h
  have HBs : Hid (Below (w.heap.size + 1) W1 (W1.alloc (.map #[] 0))) := (Below.refl _ _).alloc (by omega) _
  have HBe : Hid (∀ w1, Below (w.heap.size + 1) W1 w1 → Below w.heap.size w w1) := fun w1 h => hb1.trans (h.mono (Nat.le_succ _))
  have HBn : Hid (∀ (wr : World) (v : Value) (w' : World), Below (wr.heap.size + 1) (wr.alloc (.cells #[v] 82)) w' → Below wr.heap.size wr w' ∧ w'.cell? ⟨wr.heap.size, 0, none⟩ = some v ∧ w'.frozen? ⟨wr.heap.size, 0, none⟩ = false) := fun wr v w' h => by
    have hl : wr.heap.size < wr.heap.size + 1 := Nat.lt_succ_self _
    exact ⟨((Below.refl _ _).alloc (Nat.le_refl _) _).trans (h.mono (Nat.le_succ _)), (h.cell (p := ⟨wr.heap.size, 0, none⟩) hl).trans (by simp [go_sem]), (h.frozen (p := ⟨wr.heap.size, 0, none⟩) hl).trans (by simp [go_sem])⟩
  clear hT hV hC h0 hn hm hP HK0
  have hmm := @run_makeMap Tryz.prog
  go_enter Tryz.func23, Tryz.ntmps23
  go_wp2_with fail
  rw [← hW1]
  clear hW1 hz1 hb1
  obtain ⟨p, hp⟩ : ∃ p, n - 1 = p := ⟨_, rfl⟩
  rw [hp]
  have HPn : Hid (n = p + 1) := by show _ = _; omega
  have hpM : p ≤ 1099511627776 := by omega
  rw [hp] at HRes
  clear hp
  go_loopw [17] (fun i wr => ∃ k : Nat, k ≤ p ∧ i = .int .i64 (k : Int) ∧ Hid (LeadsTo m cs k) ∧ Hid (KnOk wr (w.heap.size + 1) k m) ∧ Hid (Below (w.heap.size + 1) W1 wr)) (fun i _ => p - (intOf i).toNat)
  case atStart => exact ⟨0, Nat.zero_le _, rfl, LeadsTo.zero _ _, HKs, HBs⟩
  case round =>
    obtain ⟨k, hk, rfl, HL, HK, HBl⟩ := hrel
    by_cases hlt : k < p
    · obtain ⟨f, hf, hfa⟩ := HK.out
      have hbl := HBl.out
      have hws : w.heap.size + 1 ≤ wr.heap.size := Nat.le_of_lt HK.out.lt
      have hrg := HRg.out k HL.out
      have hpn := HPn.out
      have c0 := HCs.out wr hbl k (by omega)
      have c1 : wr.cell? ⟨b, off + 1 + k, none⟩ = _ := (congrArg (fun j => wr.cell? ⟨b, j, none⟩) (by omega : off + 1 + k = off + (k + 1))).trans (HCs.out wr hbl (k + 1) (by omega))
      have hlk := HLk.out wr _ _ f _ hf hrg
      have HNx : Hid _ := HNo.out k (by omega) hrg
      have HYx : Hid _ := HYs.out k HL.out
      have hki : (k : Int) < (p : Int) := by omega
      have hki2 : (k : Int) < (n : Int) := by omega
      clear hpn HL
      generalize cs.getD k 0 = x at *
      generalize cs.getD (k + 1) 0 = y at *
      have HF : Hid (MapIs wr 3 (w.heap.size + 1) k f ∧ KnAt wr m f) := ⟨hf, hfa⟩
      cases hfx : f (.int .i64 x) with
      | some v =>
        obtain ⟨c, no, nc, e1, e2, hI⟩ := hfa _ _ hfx
        injection e1 with _ e1
        subst e1 e2
        rw [hfx] at hlk
        simp only [Option.getD_some, Option.isSome_some] at hlk
        have hB3 : Below wr.heap.size wr (wr.alloc (.cells #[.slice no (nextL m x).length nc] 82)) := (Below.refl _ _).alloc (Nat.le_refl _) _
        have hco := HCo.out _ no nc x y hrg (hI.below hB3)
        have HKn : Hid (KnOk (wr.alloc (.cells #[.slice no (nextL m x).length nc] 82)) (w.heap.size + 1) (k + 1) m) := HK.out.below hB3
        have HB4 : Hid (Below (w.heap.size + 1) W1 (wr.alloc (.cells #[.slice no (nextL m x).length nc] 82))) := hbl.trans (hB3.mono hws)
        clear hf hfa hfx hI hB3 HK HF
        generalize (nextL m x).length = nn at *
        by_cases hy : y ∈ nextL m x
        · rw [decide_eq_true hy] at hco
          have HY : Hid (LeadsTo m cs (k + 1)) := HYx.out hy
          clear hy hrg HNx
          go_wp2_with (go_at_call 41; refine hco.mono ?_; rintro e w4 ⟨rfl, rfl⟩)
          go_roundw
          case rel => exact ⟨k + 1, by omega, by go_num, HY, HKn, HB4⟩
          case measure => simp [intOf]; omega
        · rw [decide_eq_false hy] at hco
          have HR : Hid (res = false) := HNx.out hy
          clear hy hrg HYx
          go_wp2_with (go_at_call 41; refine hco.mono ?_; rintro e w4 ⟨rfl, rfl⟩)
          go_ret
          exact ⟨by rw [HR.out]; rfl, HBe.out _ HB4.out⟩
      | none =>
        rw [hfx] at hlk
        simp only [Option.getD_none, Option.isSome_none] at hlk
        have hB2 : Below wr.heap.size wr (wr.alloc (.cells #[.slice none 0 0] 82)) := (Below.refl _ _).alloc (Nat.le_refl _) _
        have hbl2 := hbl.trans (hB2.mono hws)
        have hne := HNe.out _ x hbl2 hrg
        obtain ⟨m0, m1⟩ := HBx.out _ hbl2
        have HNw := HBn.out wr (.slice none 0 0)
        have hszA : (wr.alloc (.cells #[.slice none 0 0] 82)).heap.size = wr.heap.size + 1 := by simp
        have HNw : Hid (∀ w', Below (wr.alloc (.cells #[.slice none 0 0] 82)).heap.size (wr.alloc (.cells #[.slice none 0 0] 82)) w' → Below wr.heap.size wr w' ∧ w'.cell? ⟨wr.heap.size, 0, none⟩ = some (.slice none 0 0) ∧ w'.frozen? ⟨wr.heap.size, 0, none⟩ = false) := fun w' h => HBn.out wr _ w' (by rw [hszA] at h; exact h)
        have HSt : Hid (∀ (w2 : World) (no : Option Addr) (nc : Nat), Below (wr.alloc (.cells #[.slice none 0 0] 82)).heap.size (wr.alloc (.cells #[.slice none 0 0] 82)) w2 → (IntsV w2 (.slice no (nextL m x).length nc) (nextL m x) ∧ ∀ a, no = some a → (wr.alloc (.cells #[.slice none 0 0] 82)).heap.size ≤ a.block) → ∃ w4, (Instr.mapUpdate 80 (.map (some (w.heap.size + 1))) (.int .i64 x) (.agg #[.slice no (nextL m x).length nc])).run Tryz.prog (w2.setCell ⟨wr.heap.size, 0, none⟩ (.slice no (nextL m x).length nc)) = .ok () w4 ∧ w4.cell? ⟨wr.heap.size, 0, none⟩ = some (.slice no (nextL m x).length nc) ∧ Hid (KnOk w4 (w.heap.size + 1) (k + 1) m) ∧ Hid (Below (w.heap.size + 1) W1 w4) ∧ IntsV w4 (.slice no (nextL m x).length nc) (nextL m x)) := fun w2 no nc h hI => by
          obtain ⟨hI, hIa⟩ := hI
          obtain ⟨q1, q2, q3⟩ := HNw.out w2 h
          have hB3 : Below wr.heap.size wr (w2.setCell ⟨wr.heap.size, 0, none⟩ (.slice no (nextL m x).length nc)) := ⟨q1.os, q1.tape, q1.output, by simpa using q1.size, fun i hi => (RowKit.Below.heap_setCell _ _ _ _ (by show i ≠ wr.heap.size; omega)).trans (q1.block i hi)⟩
          obtain ⟨w4, r1, r2, r3⟩ := HPut.out _ _ k f x (.agg #[.slice no (nextL m x).length nc]) (HF.out.1.kept (hB3.block _ HF.out.1.lt)) (by omega) hrg
          have hI3 : IntsV (w2.setCell ⟨wr.heap.size, 0, none⟩ (.slice no (nextL m x).length nc)) (.slice no (nextL m x).length nc) (nextL m x) := by
            obtain ⟨ao, cap, e, hx⟩ := hI
            injection e with e1 _ e3
            subst e1 e3
            refine ⟨_, _, rfl, fun hne => ?_⟩
            obtain ⟨b, off, rfl, hlt, hat⟩ := hx hne
            have := hIa _ rfl
            rw [hszA] at this
            exact ⟨b, off, rfl, by simpa using hlt, fun i hi => by rw [World.cell?_setCell_other _ _ _ _ (by intro e; injection e with e _; simp at this; omega)]; exact hat i hi⟩
          obtain ⟨t1, t2⟩ := KnOk.put HF.out.1 HF.out.2 hB3 r3 r2 hI3
          have hb3w := hbl.trans (hB3.mono hws)
          have hmm : ∃ es c, (w2.setCell ⟨wr.heap.size, 0, none⟩ (.slice no (nextL m x).length nc)).heap[w.heap.size + 1]? = some (.map es c) := (HF.out.1.kept (hB3.block _ HF.out.1.lt)).isMap
          refine ⟨w4, r1, ?_, t1, hb3w.grown r3 (Nat.le_trans hws hB3.size) (fun q hq => by injection hq with hq; omega), t2⟩
          refine (Sk.grown r3 (.inl rfl) : Sk (w.heap.size + 1) (w.heap.size + 1) _ _).cell ⟨hmm, hmm⟩ ?_
          simp [go_sem, q2]
        have HCx : Hid (∀ (w1 : World) (no : Option Addr) (nc : Nat), IntsV w1 (.slice no (nextL m x).length nc) (nextL m x) → Calls Tryz.prog 41 #[.slice no (nextL m x).length nc, .int .i64 y] w1 fun e w' => e = .returned (.bool (decide (y ∈ nextL m x))) ∧ w' = w1) := fun w1 no nc h => HCo.out w1 no nc x y hrg h
        clear hf hfa hfx HK HF hB2 hbl2 HBx
        generalize (nextL m x).length = nn at *
        by_cases hy : y ∈ nextL m x
        · rw [decide_eq_true hy] at HCx
          have HY : Hid (LeadsTo m cs (k + 1)) := HYx.out hy
          clear hy hrg HNx
          go_wp2_with (first | (go_at_call 40; refine hne.mono ?_; rintro e w2 ⟨no, nc, rfl, hb2, HI⟩; obtain ⟨_, g1, g2⟩ := HNw.out w2 hb2; obtain ⟨w4, hrun, g3, HKn, HB4, hI4⟩ := HSt.out w2 no nc hb2 HI.out; have hco := HCx.out w4 no nc hI4) | (go_at_call 41; refine hco.mono ?_; rintro e w5 ⟨rfl, rfl⟩))
          go_roundw
          case rel => exact ⟨k + 1, by omega, by go_num, HY, HKn, HB4⟩
          case measure => simp [intOf]; omega
        · rw [decide_eq_false hy] at HCx
          have HR : Hid (res = false) := HNx.out hy
          clear hy hrg HYx
          go_wp2_with (first | (go_at_call 40; refine hne.mono ?_; rintro e w2 ⟨no, nc, rfl, hb2, HI⟩; obtain ⟨_, g1, g2⟩ := HNw.out w2 hb2; obtain ⟨w4, hrun, g3, HKn, HB4, hI4⟩ := HSt.out w2 no nc hb2 HI.out; have hco := HCx.out w4 no nc hI4) | (go_at_call 41; refine hco.mono ?_; rintro e w5 ⟨rfl, rfl⟩))
          go_ret
          exact ⟨by rw [HR.out]; rfl, HBe.out _ HB4.out⟩
    · obtain rfl : k = p := by omega
      have HR : Hid (res = true) := HRes.out k HL.out rfl
      have hbe := HBe.out _ HBl.out
      clear HK HL HRes
      go_wp2
      go_ret
      exact ⟨by rw [HR.out]; rfl, hbe⟩
end Go.Proofs.YtnicbkkkecfdpaaGreatDoor

/-
  The library's slices.Grow, slices.Concat and slices.Contains at lists of numbers.
-/
namespace Go.Proofs.YtnicbkkkecfdpaaGreatDoor
open Go.ChangeShapes Go.WideShapes Go.ChangeAt Go.RowKit Go.Deep
open Terms

set_option maxHeartbeats 800000 in
set_option maxRecDepth 20000 in
theorem growI_any (n : Nat) (w : World) (h0 : 0 < n) (h24 : n ≤ 1099511627776) :
    Calls Tryz.prog 39 #[.slice none 0 0, .int .i64 (n : Int)] w fun e w' => ∃ B cap, e = .returned (.slice (some ⟨B, 0, none⟩) 0 cap) ∧ Below w.heap.size w w' ∧ w'.ownsRow w.heap.size 3 1 (.slice (some ⟨B, 0, none⟩) 0 cap) 0 [] := by
  obtain ⟨i0, hi, hz0, hz1, hz2⟩ := info_parts infoInt
  have hrz : ∀ ty, (Builtin.append_ #[30, 3] ty #[.slice none 0 0, .int .i64 (n : Int)]).run Tryz.prog w = .ok (.slice (some ⟨w.heap.size, 0, none⟩) n (grownCap w n 0 3)) (w.drew.alloc (.cells (Builtin.zeroCells (Value.int .i64 0).cells n ++ Builtin.zeroCells (Value.int .i64 0).cells (grownCap w n 0 3 - n)) 3)) := fun ty =>
    Lib.run_append_nil_zeros w 30 3 ty 3 i0 (.int .i64 0) .i64 .i64 Tryz.underlying30 Tryz.underlying3 hi hz0 n h0 (by omega) (by omega) (by rw [hz2]; omega)
  have hge := grownCap_ge w n 0 3
  have hle := grownCap_le_maxLen w n 0 3 (by unfold maxLen; omega)
  generalize grownCap w n 0 3 = G at hrz hge hle
  have hG : G ≤ 9223372036854775807 := by unfold maxLen at hle; omega
  have hn : ¬ (n : Int) < 0 := by omega
  have hn2 : (n : Int) > 0 := by omega
  go_enter Tryz.func39, Tryz.ntmps39
  go_wp2_with (at_builtin; refine Lib.wpList_append_run _ rfl _ _ _ _ rfl _ _ rfl rfl _ _ (hrz _) ?_)
  go_ret
  refine ⟨_, _, rfl, (below_drewN (Below.refl _ _) 1).alloc (Nat.le_refl _) _, ?_⟩
  refine ⟨rfl, .inr ⟨w.heap.size, G, Builtin.zeroCells #[Value.int .i64 0] n ++ Builtin.zeroCells #[Value.int .i64 0] (G - n), rfl, Nat.le_refl _, ?_, Nat.zero_le _, hle, ?_, by simp⟩⟩
  · show (w.heap.push _)[w.heap.size]? = _
    simp
  · simp [size_zeroCells]
    omega

/-- what stands in the row ahead of each list. -/
def accI (xs : List (List Int)) (k : Nat) : List Int := (xs.take k).flatten
set_option maxRecDepth 20000 in
theorem accI_step {xs : List (List Int)} {k : Nat} (h : k < xs.length) : accI xs (k + 1) = accI xs k ++ xs.getD k [] := by
  unfold accI
  rw [List.take_succ_eq_append_getElem h, List.flatten_append]
  simp [List.getD_eq_getElem?_getD, h]
set_option maxRecDepth 20000 in
theorem accI_le (xs : List (List Int)) (k : Nat) : (accI xs k).length ≤ xs.flatten.length := by
  unfold accI
  have := congrArg List.length (congrArg List.flatten (List.take_append_drop k xs))
  rw [List.flatten_append, List.length_append] at this
  omega
set_option maxRecDepth 20000 in
theorem IntsW.below2 {w w' : World} {v : Value} {l : List Int} (h : IntsW w v l) (hb : Below w.heap.size w w') : IntsW w' v l := by
  obtain ⟨ao, cap, h1, h0, h⟩ := h
  refine ⟨ao, cap, h1, h0, fun hne => ?_⟩
  obtain ⟨b, off, e, hlt, hat⟩ := h hne
  exact ⟨b, off, e, Nat.lt_of_lt_of_le hlt hb.size, fun i hi => (hb.cell (p := ⟨b, _, none⟩) hlt).trans (hat i hi)⟩

set_option maxHeartbeats 1600000 in
set_option maxRecDepth 20000 in
/-- THE CONTRACT OF slices.Concat at three lists of numbers. -/
theorem concatI_own (g : Nat) (xs : List (List Int)) (w0 w : World) (hb0 : Below w0.heap.size w0 w) (h3 : xs.length = 3) (h0 : 1 ≤ xs.flatten.length) (hM : xs.flatten.length ≤ 1099511627776)
    (hX : ∀ k, k < 3 → ∃ v, w.cell? ⟨g, k, none⟩ = some v ∧ IntsW w0 v (xs.getD k [])) :
    Calls Tryz.prog 22 #[.slice (some ⟨g, 0, none⟩) 3 3] w fun e w' => ∃ B cap, e = .returned (.slice (some ⟨B, 0, none⟩) xs.flatten.length cap) ∧ Below w.heap.size w w' ∧ Hid (w'.ownsRow w.heap.size 3 1 (.slice (some ⟨B, 0, none⟩) xs.flatten.length cap) xs.flatten.length (ivals xs.flatten)) := by
  obtain ⟨v0, c0, _⟩ := hX 0 (by omega)
  have hg := World.block_lt_of_cell? w ⟨g, 0, none⟩ c0
  clear c0
  obtain ⟨i0, hi, hz0, hz1, hz2⟩ := info_parts infoInt
  obtain ⟨zz, hzz⟩ : ∃ zz : Nat → Int, zz = fun k => ((accI xs k).length : Int) := ⟨_, rfl⟩
  have HAt : Hid (∀ k, k < 3 → ∃ xo xn xc xl, w.cell? ⟨g, k, none⟩ = some (.slice xo xn xc) ∧ zz (k + 1) = zz k + (xn : Int) ∧ 0 ≤ zz k ∧ zz k ≤ 1099511627776 ∧ xn ≤ 1099511627776 ∧ xn = xl.length ∧ accI xs (k + 1) = accI xs k ++ xl ∧ (accI xs k).length + xn ≤ 1099511627776 ∧ IntsW w0 (.slice xo xn xc) xl) := fun k hk => by
    obtain ⟨v, hc, hI⟩ := hX k hk
    obtain ⟨ao, cap, rfl, h1, h2⟩ := id hI
    have e1 := accI_step (xs := xs) (k := k) (by omega)
    have e2 := accI_le xs k
    have e3 := accI_le xs (k + 1)
    have e4 := congrArg List.length e1
    rw [List.length_append] at e4
    exact ⟨ao, _, cap, xs.getD k [], hc, by rw [hzz]; show ((accI xs (k + 1)).length : Int) = ((accI xs k).length : Int) + _; omega, by rw [hzz]; show (0 : Int) ≤ ((accI xs k).length : Int); omega, by rw [hzz]; show ((accI xs k).length : Int) ≤ _; omega, by omega, rfl, e1, by omega, hI⟩
  have HZ0 : Hid (zz 0 = 0) := by show _ = _; rw [hzz]; rfl
  have HA0 : Hid (accI xs 0 = []) := rfl
  have HA3 : Hid (accI xs 3 = xs.flatten) := by show _ = _; unfold accI; rw [← h3, List.take_length]
  have HZ3 : Hid (zz 3 = ((xs.flatten.length : Nat) : Int)) := by show _ = _; rw [hzz, ← HA3.out]
  have hgr := fun w1 => growI_any xs.flatten.length w1 (by omega) hM
  have HLen : Hid (xs.flatten.length = xs.flatten.length) := rfl
  generalize xs.flatten = fl at *
  obtain ⟨tn, htn⟩ : ∃ tn, tn = fl.length := ⟨_, rfl⟩
  have HTn : Hid (tn = fl.length) := htn
  rw [← htn] at hgr HLen HZ3 hM h0 ⊢
  generalize accI xs = ac at *
  clear hX htn hzz h3 HLen
  go_enter Tryz.func22, Tryz.ntmps22
  go_wp2
  go_loop [3, 11] (fun z i => ∃ k : Nat, k ≤ 3 ∧ i = .int .i64 (k : Int) ∧ z = .int .i64 (zz k)) (fun _ i => 3 - (intOf i).toNat)
  case atStart => exact ⟨0, by omega, rfl, by rw [HZ0.out]⟩
  case round =>
    obtain ⟨k, hk, rfl, rfl⟩ := hrel
    by_cases hlt : k < 3
    · obtain ⟨xo, xn, xc, xl, hc, hz, hz00, hz12, hx12, hr⟩ := HAt.out k hlt
      clear hr
      have HZ : Hid (zz (k + 1) = zz k + (xn : Int)) := hz
      clear hz
      generalize zz k = z0 at *
      go_wp2
      go_round
      case rel => exact ⟨k + 1, hlt, by go_num, by rw [HZ.out]⟩
      case measure => simp [intOf]; omega
    · obtain rfl : k = 3 := by omega
      rw [HZ3.out]
      go_wp2_with (go_at_call 39; refine (hgr _).mono ?_; rintro e w1 ⟨B, cap, rfl, hb1, ho1⟩)
      clear hgr
      go_loopw [6, 27] (fun nv i wr => ∃ k : Nat, k ≤ 3 ∧ i = .int .i64 (k : Int) ∧ ∃ B cap, nv = .slice (some ⟨B, 0, none⟩) (ac k).length cap ∧ Hid (wr.ownsRow w.heap.size 3 1 nv (ac k).length (ivals (ac k))) ∧ Below w.heap.size w wr) (fun _ i _ => 3 - (intOf i).toNat)
      case atStart => exact ⟨0, by omega, rfl, B, cap, by rw [HA0.out]; rfl, by rw [HA0.out]; exact ho1, hb1⟩
      case round =>
        obtain ⟨k, hk, rfl, B, cap, rfl, HU, hbel⟩ := hrel
        by_cases hlt : k < 3
        · obtain ⟨xo, xn, xc, xl, hc, _, _, _, hx12, hxn, hac, hal, hX⟩ := HAt.out k hlt
          have hcr := (hbel.cell (p := ⟨g, k, none⟩) hg).trans hc
          have hown := HU.out
          have HXN : Hid (xn = xl.length) := hxn
          have HAC : Hid (ac (k + 1) = ac k ++ xl) := hac
          obtain ⟨xo', xc', hxv, hx0, hxat⟩ := hX
          injection hxv with e1 e2 e3
          subst e1 e3
          obtain ⟨us, hus⟩ : ∃ us, us = ivals (ac k) := ⟨_, rfl⟩
          have HUS : Hid (us = ivals (ac k)) := hus
          obtain ⟨un, hun⟩ : ∃ un, un = (ac k).length := ⟨_, rfl⟩
          have HUN : Hid (un = (ac k).length) := hun
          rw [← hus, ← hun] at hown
          rw [← hun] at hal ⊢
          clear hxn hac hus hun e2 HU
          cases xo with
          | none =>
            obtain ⟨hc0, hl0⟩ := hx0 rfl
            have HL0 : Hid (xl = []) := hl0
            have hxn0 : xn = 0 := by rw [HXN.out, HL0.out]; rfl
            subst hxn0 hc0
            clear hx0 hxat hl0
            go_wp2_with (at_builtin; refine wpList_append_own_none rfl (.tmp 31) (.tmp 32) 30 rfl w.heap.size 3 i0 1 Tryz.underlying30 hi _ _ _ rfl hown rfl ?_)
            go_roundw
            case rel => exact ⟨k + 1, hlt, by go_num, B, cap, by rw [HAC.out, HL0.out, List.append_nil, HUN.out], by show World.ownsRow _ _ _ _ _ _ _; rw [HAC.out, HL0.out, List.append_nil, ← HUN.out, ← HUS.out]; exact hown, hbel⟩
            case measure => simp [intOf]; omega
          | some a =>
            have hcells : ∀ j u, (ivals xl)[j]? = some u → wr.cell? (a.add j) = some u := by
              intro j u hj
              have hjl : j < xl.length := by have := (List.getElem?_eq_some_iff.1 hj).1; simpa [ivals] using this
              obtain ⟨b, off, e, hbl, hat⟩ := hxat (by rintro rfl; simp at hjl)
              obtain rfl := Option.some.inj e
              rw [Go.WideShapes.add_plain, (hb0.trans (hbel.mono hb0.size)).cell (p := ⟨b, off + j, none⟩) hbl, hat j hjl]
              simp [ivals, hjl] at hj
              simp [List.getD_eq_getElem?_getD, hjl, hj]
            have hvl : (ivals xl).length = xn * 1 := by rw [HXN.out]; simp [ivals]
            have hv1 := ivals_one xl
            have hbsz := hbel.size
            have hnb := hown.lt
            clear hx0 hxat
            go_wp2_with (at_builtin; refine wpList_append_own _ rfl (.tmp 31) (.tmp 32) 30 rfl w.heap.size 3 i0 (.int .i64 0) 1 8 Tryz.underlying30 hi hz0 hz1 hz2 rfl (by decide) (.slice (some ⟨B, 0, none⟩) un cap) un us rfl hown a xn xc (ivals xl) rfl hvl hcells hv1 (by unfold maxLen; omega) (by omega) hbsz ?_; intro v' w4 hown' hgrow hne)
            have hb4 : Below w.heap.size w w4 := hbel.grown hgrow hbsz (fun q hq => (hnb q hq).1)
            obtain ⟨B4, cap4, rfl⟩ : ∃ B4 cap4, v' = .slice (some ⟨B4, 0, none⟩) (un + xn) cap4 := by
              rcases hown'.2 with ⟨h, _⟩ | ⟨g', cap', cur', h, _⟩
              · exact absurd (hne.1 h).1 (by simp)
              · exact ⟨_, _, h⟩
            have HLn : Hid (un + xn = (ac (k + 1)).length) := by show _ = _; rw [HAC.out, List.length_append, ← HUN.out, HXN.out]
            have HU4 : Hid (w4.ownsRow w.heap.size 3 1 (.slice (some ⟨B4, 0, none⟩) (un + xn) cap4) (ac (k + 1)).length (ivals (ac (k + 1)))) := by
              show World.ownsRow _ _ _ _ _ _ _
              rw [← HLn.out, HAC.out, show ivals (ac k ++ xl) = us ++ ivals xl by rw [HUS.out]; simp [ivals]]
              exact hown'
            clear hown' hgrow hown hcells hne
            go_roundw
            case rel => exact ⟨k + 1, hlt, by go_num, B4, cap4, by rw [HLn.out], HU4, hb4⟩
            case measure => simp [intOf]; omega
        · obtain rfl : k = 3 := by omega
          have HF : Hid (wr.ownsRow w.heap.size 3 1 (.slice (some ⟨B, 0, none⟩) tn cap) tn (ivals fl)) := by
            have h1 := HU.out
            rw [HA3.out, ← HTn.out] at h1
            exact h1
          rw [HA3.out, ← HTn.out]
          clear HU
          go_wp2
          go_ret
          exact ⟨_, _, rfl, hbel, HF⟩
end Go.Proofs.YtnicbkkkecfdpaaGreatDoor

/-
  The contract of verdict.Runs.
-/
namespace Go.Proofs.YtnicbkkkecfdpaaGreatDoor
open Go.ChangeShapes Go.WideShapes Go.ChangeAt Go.RowKit Go.Deep Go.Maps
open Terms Tm

/-- a slice of numbers with its room. -/
def IntsX (w : World) (v : Value) (l : List Int) : Prop := ∃ ao cap, v = .slice ao l.length cap ∧ l.length ≤ cap ∧ (ao = none → cap = 0 ∧ l = []) ∧ (l ≠ [] → ∃ b off, ao = some ⟨b, off, none⟩ ∧ b < w.heap.size ∧ IntsAt w b off l)
set_option maxRecDepth 20000 in
theorem IntsX.w {w : World} {v : Value} {l : List Int} (h : IntsX w v l) : IntsW w v l := by
  obtain ⟨ao, cap, h1, _, h2, h3⟩ := h
  exact ⟨ao, cap, h1, h2, h3⟩
set_option maxRecDepth 20000 in
theorem IntsX.below {w w' : World} {v : Value} {l : List Int} (h : IntsX w v l) (hb : Below w.heap.size w w') : IntsX w' v l := by
  obtain ⟨ao, cap, h1, hc, h0, h⟩ := h
  refine ⟨ao, cap, h1, hc, h0, fun hne => ?_⟩
  obtain ⟨b, off, e, hlt, hat⟩ := h hne
  exact ⟨b, off, e, Nat.lt_of_lt_of_le hlt hb.size, fun i hi => (hb.cell (p := ⟨b, _, none⟩) hlt).trans (hat i hi)⟩
set_option maxRecDepth 20000 in
theorem intsX_of_owns {w : World} {base : Nat} {v : Value} {l : List Int} (h : w.ownsRow base 3 1 v l.length (ivals l)) : IntsX w v l := by
  rcases h.2 with ⟨rfl, h0⟩ | ⟨g, cap, cur, rfl, hb, hg, hnc, hcm, hcs, htake⟩
  · have : l = [] := by simpa using h0
    subst this
    exact ⟨none, 0, rfl, Nat.le_refl _, fun _ => ⟨rfl, rfl⟩, fun h => absurd rfl h⟩
  · refine ⟨_, cap, rfl, hnc, fun h => by simp at h, fun _ => ⟨g, 0, rfl, (Array.getElem?_eq_some_iff.1 hg).1, fun i hi => ?_⟩⟩
    rw [Nat.zero_add, h.cellAt i (by omega)]
    simp [ivals, List.getD_eq_getElem?_getD, hi]

set_option maxHeartbeats 1600000 in
set_option maxRecDepth 20000 in
theorem runs_bad (va vr sv lv : Value) (m : Mo) (w : World) (hB : 0 < w.heap.size) (hT : TabAt w) (hV : ModelV w va vr m) (hm : mcode m ≠ 0) :
    Calls Tryz.prog 9 #[.agg #[va, vr], .agg #[sv, lv]] w fun e w' => e = .returned (.tuple #[.bool false, .int .i64 (mcode m)]) ∧ Below w.heap.size w w' := by
  obtain ⟨W2, hW2⟩ : ∃ W2, W2 = (w.alloc (.cells #[va, vr] 25)).alloc (.cells #[sv, lv] 32) := ⟨_, rfl⟩
  have hb2 : Below w.heap.size w W2 := by rw [hW2]; exact ((Below.refl _ _).alloc (Nat.le_refl _) _).alloc (by simp) _
  have hfi := mfirst_any va vr m W2 (Nat.lt_of_lt_of_le hB hb2.size) (hT.below hb2 hB) (hV.below hb2)
  rw [if_neg hm] at hfi
  obtain ⟨ao, ac, rfl⟩ := hV.1.shape
  obtain ⟨ro, rc, rfl⟩ := hV.2.shape
  generalize mcode m = q at *
  generalize m.vars.length = vn at *
  generalize m.rules.length = rn at *
  clear hT hV
  rw [hW2] at hfi
  go_enter Tryz.func9, Tryz.ntmps9
  go_wp2_with (go_at_call 21; refine hfi.mono ?_; rintro e w1 ⟨rfl, hb1⟩)
  go_ret2
  rw [← hW2] at hb1
  exact ⟨rfl, hb2.trans (hb1.mono hb2.size)⟩

set_option maxHeartbeats 1600000 in
set_option maxRecDepth 20000 in
theorem runs_ok (va vr sv lv : Value) (m : Mo) (ss ll : List Int) (w : World) (hB : 0 < w.heap.size) (hT : TabAt w) (hV : ModelV w va vr m) (hm : mcode m = 0) (hS : IntsX w sv ss) (hL : IntsX w lv ll) (hz : ss.length + ll.length ≤ 1099511627775) :
    Calls Tryz.prog 9 #[.agg #[va, vr], .agg #[sv, lv]] w fun e w' => e = .returned (.tuple #[.bool (runB m ss ll), .int .i64 0]) ∧ Below w.heap.size w w' := by
  obtain ⟨W2, hW2⟩ : ∃ W2, W2 = (w.alloc (.cells #[va, vr] 25)).alloc (.cells #[sv, lv] 32) := ⟨_, rfl⟩
  have hb2 : Below w.heap.size w W2 := by rw [hW2]; exact ((Below.refl _ _).alloc (Nat.le_refl _) _).alloc (by simp) _
  have hz2 : W2.heap.size = w.heap.size + 2 := by rw [hW2]; simp
  have hfi := mfirst_any va vr m W2 (Nat.lt_of_lt_of_le hB hb2.size) (hT.below hb2 hB) (hV.below hb2)
  rw [if_pos hm, hm] at hfi
  have HBx : Hid (∀ w1, Below W2.heap.size W2 w1 → Below w.heap.size w w1 ∧ w.heap.size + 2 ≤ w1.heap.size ∧ w1.cell? ⟨w.heap.size, 0, none⟩ = some va ∧ w1.cell? ⟨w.heap.size, 1, none⟩ = some vr ∧ w1.cell? ⟨w.heap.size + 1, 0, none⟩ = some sv ∧ w1.cell? ⟨w.heap.size + 1, 1, none⟩ = some lv) := fun w1 h => by
    have hl : w.heap.size < W2.heap.size := by omega
    have hl1 : w.heap.size + 1 < W2.heap.size := by omega
    refine ⟨hb2.trans (h.mono hb2.size), by have := h.size; omega, (h.cell (p := ⟨w.heap.size, 0, none⟩) hl).trans ?_, (h.cell (p := ⟨w.heap.size, 1, none⟩) hl).trans ?_, (h.cell (p := ⟨w.heap.size + 1, 0, none⟩) hl1).trans ?_, (h.cell (p := ⟨w.heap.size + 1, 1, none⟩) hl1).trans ?_⟩ <;> (rw [hW2]; simp [go_sem])
  by_cases hl0 : ll = []
  · subst hl0
    rw [runB_none]
    obtain ⟨lo, lc, rfl, _⟩ := hL
    obtain ⟨ao, ac, rfl⟩ := hV.1.shape
    obtain ⟨ro, rc, rfl⟩ := hV.2.shape
    generalize codeTo m.vars (initsL m.vars) m.vars.length = fc at *
    generalize m.vars.length = vn at *
    generalize m.rules.length = rn at *
    clear hT hV hS hm
    rw [hW2] at hfi
    go_enter Tryz.func9, Tryz.ntmps9
    go_wp2_with (go_at_call 21; refine hfi.mono ?_; rintro e w1 ⟨rfl, hb1⟩; rw [← hW2] at hb1; obtain ⟨hbw, _, _, _, k2, k3⟩ := HBx.out w1 hb1)
    go_ret2
    exact ⟨rfl, hbw⟩
  · have hlp : 0 < ll.length := List.length_pos_iff.2 hl0
    have HCon : Hid (∀ (g : Nat) (w1 : World) (lo : Option Addr) (lc : Nat), lv = .slice lo ll.length lc → Below w.heap.size w w1 → w1.cell? ⟨g, 0, none⟩ = some sv → w1.cell? ⟨g, 1, none⟩ = some lv → w1.cell? ⟨g, 2, none⟩ = some (.slice lo 1 lc) → Calls Tryz.prog 22 #[.slice (some ⟨g, 0, none⟩) 3 3] w1 fun e w' => ∃ B cap, e = .returned (.slice (some ⟨B, 0, none⟩) (rvd ss ll).length cap) ∧ Below w1.heap.size w1 w' ∧ Hid (B < w'.heap.size ∧ (rvd ss ll).length ≤ cap ∧ IntsAt w' B 0 (rvd ss ll))) := fun g w1 lo lc hlv hb c0 c1 c2 => by
      have h := concatI_own g [ss, ll, [ll.getD 0 0]] w w1 hb rfl (by rw [rvd_flat, rvd_len]; omega) (by rw [rvd_flat, rvd_len]; omega) (fun k hk => by
        have hk3 : k = 0 ∨ k = 1 ∨ k = 2 := by omega
        rcases hk3 with rfl | rfl | rfl
        · exact ⟨sv, c0, hS.w⟩
        · exact ⟨lv, c1, hL.w⟩
        · refine ⟨_, c2, lo, lc, rfl, fun h => ?_, fun _ => ?_⟩
          · obtain ⟨_, _, e, _, hx, _⟩ := hL
            rw [hlv] at e
            injection e with e1 _ _
            subst e1
            exact absurd (hx h).2 hl0
          · obtain ⟨_, _, e, _, _, hx⟩ := hL
            rw [hlv] at e
            injection e with e1 _ _
            subst e1
            obtain ⟨b, off, e, hlt, hat⟩ := hx hl0
            refine ⟨b, off, e, hlt, fun i hi => ?_⟩
            have hi0 : i = 0 := by simp at hi; omega
            subst hi0
            exact hat 0 hlp)
      rw [rvd_flat] at h
      refine h.mono fun e w' ⟨B, cap, e1, e2, e3⟩ => ⟨B, cap, e1, e2, ?_⟩
      obtain ⟨ao, cap', e4, e5, _, e6⟩ := intsX_of_owns e3.out
      injection e4 with e7 _ e8
      subst e7 e8
      obtain ⟨b, off, e9, e10, e11⟩ := e6 (by simp [rvd])
      injection e9 with e9
      injection e9 with e12 e13
      subst e12 e13
      exact ⟨e10, e5, e11⟩
    have HLd : Hid (∀ (B cap : Nat) (w1 : World), Below w.heap.size w w1 → (B < w1.heap.size ∧ (rvd ss ll).length ≤ cap ∧ IntsAt w1 B 0 (rvd ss ll)) → (rvd ss ll).getD 0 0 = firstC m → Calls Tryz.prog 23 #[.agg #[va, vr], .slice (some ⟨B, 0, none⟩) (rvd ss ll).length cap] w1 fun e w' => e = .returned (.bool (runB m ss ll)) ∧ Below w1.heap.size w1 w') := fun B cap w1 hb h hf => by
      rw [runB_lead hm hl0 hf]
      exact allLead_any va vr m B 0 cap (rvd ss ll) w1 (Nat.lt_of_lt_of_le hB hb.size) (hT.below hb hB) (hV.below hb) hm (by rw [rvd_len]; omega) (by rw [rvd_len]; omega) h.2.1 h.1 h.2.2 (by rw [hf]; exact firstC_range hm)
    have HNo : Hid ((rvd ss ll).getD 0 0 ≠ firstC m → runB m ss ll = false) := fun h => runB_first h
    have hrp : 0 < (rvd ss ll).length := by rw [rvd_len]; omega
    have hfe : codeTo m.vars (initsL m.vars) m.vars.length = firstC m := rfl
    rw [hfe] at hfi
    generalize firstC m = fc at *
    generalize runB m ss ll = res at *
    generalize rvd ss ll = rd at *
    obtain ⟨lo, lc, rfl, hlc, _⟩ := id hL
    obtain ⟨so, sc, rfl, _⟩ := id hS
    obtain ⟨ao, ac, rfl⟩ := hV.1.shape
    obtain ⟨ro, rc, rfl⟩ := hV.2.shape
    have HC1 := fun g w1 => HCon.out g w1 lo lc rfl
    have HCon : Hid _ := HC1
    clear HC1
    obtain ⟨rn2, hrn2⟩ : ∃ x, x = rd.length := ⟨_, rfl⟩
    have HRn : Hid (rn2 = rd.length) := hrn2
    rw [← hrn2] at hrp HCon HLd
    generalize m.vars.length = vn at *
    generalize m.rules.length = rn at *
    generalize ll.length = ln at *
    generalize ss.length = sn at *
    have hlc1 : 1 ≤ lc := by omega
    clear hT hV hS hL hm hl0 hfe hrn2 hz
    rw [hW2] at hfi
    go_enter Tryz.func9, Tryz.ntmps9
    go_wp2_with (go_at_call 21; refine hfi.mono ?_; rintro e w1 ⟨rfl, hb1⟩; rw [← hW2] at hb1; obtain ⟨hbw, hsz, k0, k1, k2, k3⟩ := HBx.out w1 hb1)
    have hcx := HCon.out w1.heap.size (w1.drew.alloc (.cells #[.slice so sn sc, .slice lo ln lc, .slice lo 1 lc] 30)) (hbw.drew.alloc hbw.size _) (by simp [go_sem]) (by simp [go_sem]) (by simp [go_sem])
    have HSC : Hid (∀ w', Below w1.heap.size w1 w' → w'.cell? ⟨w.heap.size + 1, 0, none⟩ = some (.slice so sn sc) ∧ w'.cell? ⟨w.heap.size + 1, 1, none⟩ = some (.slice lo ln lc)) := fun w' h => by
      have hl : w.heap.size + 1 < w1.heap.size := by omega
      exact ⟨(h.cell (p := ⟨w.heap.size + 1, 0, none⟩) hl).trans k2, (h.cell (p := ⟨w.heap.size + 1, 1, none⟩) hl).trans k3⟩
    have hB0 : Below w1.heap.size w1 w1 := Below.refl _ _
    have HM : Hid (∀ w', Below w1.heap.size w1 w' → Below w.heap.size w w' ∧ w'.cell? ⟨w.heap.size, 0, none⟩ = some (.slice ao vn ac) ∧ w'.cell? ⟨w.heap.size, 1, none⟩ = some (.slice ro rn rc)) := fun w' h => by
      have hl : w.heap.size < w1.heap.size := by omega
      exact ⟨hbw.trans (h.mono hbw.size), (h.cell (p := ⟨w.heap.size, 0, none⟩) hl).trans k0, (h.cell (p := ⟨w.heap.size, 1, none⟩) hl).trans k1⟩
    have hlc2 : (1 : Int) ≤ (lc : Int) := by omega
    clear hfi hb1
    go_region_held3 (fun w' => w'.cell? ⟨w.heap.size + 1, 0, none⟩ = some (.slice so sn sc) ∧ w'.cell? ⟨w.heap.size + 1, 1, none⟩ = some (.slice lo ln lc))
      (first | exact HSC.out _ hb12 | exact HSC.out _ (hB0.drew.alloc hB0.drew.size _) | exact HSC.out _ hB0.drew | exact HSC.out _ hB0)
      (first
        | (go_at_call 22; refine hcx.mono ?_; rintro e w3 ⟨B, cap, rfl, hb3, HR⟩; have hb12 : Below w1.heap.size w1 w3 := (hB0.drew.alloc hB0.drew.size _).trans (hb3.mono (by simp))))
    obtain ⟨hbw3, m0, m1⟩ := HM.out w3 hb12
    have hR := HR.out
    have HLd3 := HLd.out B cap w3 hbw3 hR
    have cz := hR.2.2 0 (by rw [← HRn.out]; exact hrp)
    rw [Nat.zero_add] at cz
    clear hR HR
    by_cases hf : rd.getD 0 0 = fc
    · have hld := HLd3 hf
      rw [hf] at cz
      clear HLd3 hf HNo
      go_wp2_with (go_at_call 23; refine hld.mono ?_; rintro e w4 ⟨rfl, hb4⟩)
      go_ret2
      exact ⟨rfl, hbw3.trans (hb4.mono hbw3.size)⟩
    · have HNf : Hid (res = false) := HNo.out hf
      generalize rd.getD 0 0 = y at *
      clear HLd3
      go_wp2_with fail
      go_ret2
      exact ⟨by rw [HNf.out]; first | rfl | simp [hf], hbw3⟩
set_option maxRecDepth 20000 in
theorem runs_any (va vr sv lv : Value) (m : Mo) (ss ll : List Int) (w : World) (hB : 0 < w.heap.size) (hT : TabAt w) (hV : ModelV w va vr m) (hS : IntsX w sv ss) (hL : IntsX w lv ll) (hz : ss.length + ll.length ≤ 1099511627775) :
    Calls Tryz.prog 9 #[.agg #[va, vr], .agg #[sv, lv]] w fun e w' => e = .returned (.tuple #[.bool (runB m ss ll), .int .i64 (mcode m)]) ∧ Below w.heap.size w w' := by
  by_cases hm : mcode m = 0
  · have h := runs_ok va vr sv lv m ss ll w hB hT hV hm hS hL hz
    rw [hm]
    exact h
  · rw [runB_bad hm]
    exact runs_bad va vr sv lv m w hB hT hV hm
end Go.Proofs.YtnicbkkkecfdpaaGreatDoor

/-
  The contract of verdict.Keeps.
-/
namespace Go.Proofs.YtnicbkkkecfdpaaGreatDoor
open Go.ChangeShapes Go.WideShapes Go.ChangeAt Go.RowKit Go.Deep
open Terms Tm

/-- the two boxes with which a call begins. -/
def Bx2 (w W2 : World) (va vr pv fv sv lv : Value) : Prop := Below w.heap.size w W2 ∧ W2.heap.size = w.heap.size + 2 ∧ ∀ w1, Below W2.heap.size W2 w1 → Below w.heap.size w w1 ∧ (w1.cell? ⟨w.heap.size, 0, none⟩ = some va ∧ w1.cell? ⟨w.heap.size, 1, none⟩ = some vr ∧ w1.cell? ⟨w.heap.size, 2, none⟩ = some pv ∧ w1.cell? ⟨w.heap.size, 3, none⟩ = some fv) ∧ w1.cell? ⟨w.heap.size + 1, 0, none⟩ = some sv ∧ w1.cell? ⟨w.heap.size + 1, 1, none⟩ = some lv
theorem Bx2.new (w : World) (va vr pv fv sv lv : Value) : Bx2 w ((w.alloc (.cells #[va, vr, pv, fv] 29)).alloc (.cells #[sv, lv] 32)) va vr pv fv sv lv := by
  obtain ⟨W2, hW2⟩ : ∃ W2, W2 = (w.alloc (.cells #[va, vr, pv, fv] 29)).alloc (.cells #[sv, lv] 32) := ⟨_, rfl⟩
  rw [← hW2]
  have hb2 : Below w.heap.size w W2 := by rw [hW2]; exact ((Below.refl _ _).alloc (Nat.le_refl _) _).alloc (by simp) _
  have hz2 : W2.heap.size = w.heap.size + 2 := by rw [hW2]; simp
  refine ⟨hb2, hz2, fun w1 h => ?_⟩
  have hl : w.heap.size < W2.heap.size := by omega
  have hl1 : w.heap.size + 1 < W2.heap.size := by omega
  refine ⟨hb2.trans (h.mono hb2.size), ⟨(h.cell (p := ⟨w.heap.size, 0, none⟩) hl).trans ?_, (h.cell (p := ⟨w.heap.size, 1, none⟩) hl).trans ?_, (h.cell (p := ⟨w.heap.size, 2, none⟩) hl).trans ?_, (h.cell (p := ⟨w.heap.size, 3, none⟩) hl).trans ?_⟩, (h.cell (p := ⟨w.heap.size + 1, 0, none⟩) hl1).trans ?_, (h.cell (p := ⟨w.heap.size + 1, 1, none⟩) hl1).trans ?_⟩ <;> (rw [hW2]; simp [go_sem])

set_option maxHeartbeats 1600000 in
set_option maxRecDepth 20000 in
theorem keeps_task (va vr pv fv sv lv : Value) (m : Mo) (ps : List (List (Int × Int))) (l : List (Int × Int)) (w : World) (hB : 0 < w.heap.size) (hT : TabAt w) (hV : TaskV w va vr pv fv m ps l) (hk : tkcode m ps l ≠ 0) :
    Calls Tryz.prog 4 #[.agg #[va, vr, pv, fv], .agg #[sv, lv]] w fun e w' => e = .returned (.tuple #[.bool false, .int .i64 (tkcode m ps l)]) ∧ Below w.heap.size w w' := by
  obtain ⟨W2, hW2⟩ : ∃ W2, W2 = (w.alloc (.cells #[va, vr, pv, fv] 29)).alloc (.cells #[sv, lv] 32) := ⟨_, rfl⟩
  have hbx : Bx2 w W2 va vr pv fv sv lv := by rw [hW2]; exact Bx2.new _ _ _ _ _ _ _
  obtain ⟨hb2, hz2, HBx'⟩ := hbx
  have HBx : Hid _ := HBx'
  have hch := pcheck_any va vr pv fv m ps l W2 (Nat.lt_of_lt_of_le hB hb2.size) (hT.below hb2 hB) (hV.below hb2)
  generalize tkcode m ps l = q at *
  clear hT hV HBx'
  rw [hW2] at hch
  go_enter Tryz.func4, Tryz.ntmps4
  go_wp2_with (go_at_call 8; refine hch.mono ?_; rintro e w1 ⟨rfl, hb1⟩; rw [← hW2] at hb1)
  go_ret2
  exact ⟨rfl, (HBx.out w1 hb1).1⟩

set_option maxHeartbeats 1600000 in
set_option maxRecDepth 20000 in
theorem keeps_size (va vr pv fv sv lv : Value) (m : Mo) (ps : List (List (Int × Int))) (l : List (Int × Int)) (ss ll : List Int) (w : World) (hB : 0 < w.heap.size) (hT : TabAt w) (hV : TaskV w va vr pv fv m ps l) (hk : tkcode m ps l = 0) (hS : IntsX w sv ss) (hL : IntsX w lv ll) (h12 : 12 < ss.length ∨ 12 < ll.length) :
    Calls Tryz.prog 4 #[.agg #[va, vr, pv, fv], .agg #[sv, lv]] w fun e w' => e = .returned (.tuple #[.bool false, .int .i64 1]) ∧ Below w.heap.size w w' := by
  obtain ⟨W2, hW2⟩ : ∃ W2, W2 = (w.alloc (.cells #[va, vr, pv, fv] 29)).alloc (.cells #[sv, lv] 32) := ⟨_, rfl⟩
  have hbx : Bx2 w W2 va vr pv fv sv lv := by rw [hW2]; exact Bx2.new _ _ _ _ _ _ _
  obtain ⟨hb2, hz2, HBx'⟩ := hbx
  have HBx : Hid _ := HBx'
  have hch := pcheck_any va vr pv fv m ps l W2 (Nat.lt_of_lt_of_le hB hb2.size) (hT.below hb2 hB) (hV.below hb2)
  rw [hk] at hch
  obtain ⟨so, sc, rfl, _⟩ := hS
  obtain ⟨lo, lc, rfl, _⟩ := hL
  generalize ss.length = sn at *
  generalize ll.length = ln at *
  clear hT hV HBx' hk
  rw [hW2] at hch
  by_cases h1 : 12 < sn
  · have h1i : (12 : Int) < (sn : Int) := by omega
    clear h12
    go_enter Tryz.func4, Tryz.ntmps4
    go_wp2_with (go_at_call 8; refine hch.mono ?_; rintro e w1 ⟨rfl, hb1⟩; rw [← hW2] at hb1; obtain ⟨hbw, _, k0, k1⟩ := HBx.out w1 hb1)
    go_ret2
    exact ⟨rfl, hbw⟩
  · have h2 : 12 < ln := by omega
    have h2i : (12 : Int) < (ln : Int) := by omega
    have h1i : ¬ (12 : Int) < (sn : Int) := by omega
    clear h12
    go_enter Tryz.func4, Tryz.ntmps4
    go_wp2_with (go_at_call 8; refine hch.mono ?_; rintro e w1 ⟨rfl, hb1⟩; rw [← hW2] at hb1; obtain ⟨hbw, _, k0, k1⟩ := HBx.out w1 hb1)
    go_ret2
    exact ⟨rfl, hbw⟩

set_option maxHeartbeats 1600000 in
set_option maxRecDepth 20000 in
theorem keeps_norun (va vr pv fv sv lv : Value) (m : Mo) (ps : List (List (Int × Int))) (l : List (Int × Int)) (ss ll : List Int) (w : World) (hB : 0 < w.heap.size) (hT : TabAt w) (hV : TaskV w va vr pv fv m ps l) (hk : tkcode m ps l = 0) (hS : IntsX w sv ss) (hL : IntsX w lv ll) (h1 : ss.length ≤ 12) (h2 : ll.length ≤ 12) (hr : runB m ss ll = false) :
    Calls Tryz.prog 4 #[.agg #[va, vr, pv, fv], .agg #[sv, lv]] w fun e w' => e = .returned (.tuple #[.bool false, .int .i64 11]) ∧ Below w.heap.size w w' := by
  obtain ⟨W2, hW2⟩ : ∃ W2, W2 = (w.alloc (.cells #[va, vr, pv, fv] 29)).alloc (.cells #[sv, lv] 32) := ⟨_, rfl⟩
  have hbx : Bx2 w W2 va vr pv fv sv lv := by rw [hW2]; exact Bx2.new _ _ _ _ _ _ _
  obtain ⟨hb2, hz2, HBx'⟩ := hbx
  have HBx : Hid _ := HBx'
  have hch := pcheck_any va vr pv fv m ps l W2 (Nat.lt_of_lt_of_le hB hb2.size) (hT.below hb2 hB) (hV.below hb2)
  rw [hk] at hch
  have hm := (pcode_m (tk_zeroV hk).1).1
  have HRu : Hid (∀ w1, Below w.heap.size w w1 → Calls Tryz.prog 9 #[.agg #[va, vr], .agg #[sv, lv]] w1 fun e w' => e = .returned (.tuple #[.bool false, .int .i64 0]) ∧ Below w1.heap.size w1 w') := fun w1 h => by
    have h9 := runs_any va vr sv lv m ss ll w1 (Nat.lt_of_lt_of_le hB h.size) (hT.below h hB) (hV.mo.below h) (hS.below h) (hL.below h) (by omega)
    rw [hr, hm] at h9
    exact h9
  obtain ⟨so, sc, rfl, _⟩ := id hS
  obtain ⟨lo, lc, rfl, _⟩ := id hL
  obtain ⟨ao, ac, rfl⟩ := hV.mo.1.shape
  obtain ⟨ro, rc, rfl⟩ := hV.mo.2.shape
  generalize ss.length = sn at *
  generalize ll.length = ln at *
  generalize m.vars.length = vn at *
  generalize m.rules.length = rn at *
  clear hT hV HBx' hk hS hL hr hm
  rw [hW2] at hch
  have h2i : ¬ (12 : Int) < (ln : Int) := by omega
  have h1i : ¬ (12 : Int) < (sn : Int) := by omega
  go_enter Tryz.func4, Tryz.ntmps4
  go_wp2_with (first | (go_at_call 8; refine hch.mono ?_; rintro e w1 ⟨rfl, hb1⟩; rw [← hW2] at hb1; obtain ⟨hbw, ⟨k0, k1, k2, k3⟩, k4, k5⟩ := HBx.out w1 hb1; have hru := HRu.out w1 hbw) | (go_at_call 9; refine hru.mono ?_; rintro e w3 ⟨rfl, hb3⟩))
  go_ret2
  exact ⟨rfl, hbw.trans (hb3.mono hbw.size)⟩

set_option maxHeartbeats 3200000 in
set_option maxRecDepth 20000 in
/-- THE CONTRACT OF verdict.Keeps at a run of a right task. -/
theorem keeps_ok (va vr pv fv sv lv : Value) (m : Mo) (ps : List (List (Int × Int))) (l : List (Int × Int)) (ss ll : List Int) (t : Tm) (w : World) (hB : 0 < w.heap.size) (hT : TabAt w) (hV : TaskV w va vr pv fv m ps l) (hk : tkcode m ps l = 0) (hS : IntsX w sv ss) (hL : IntsX w lv ll) (h1 : ss.length ≤ 12) (h2 : ll.length ≤ 12) (hr : runB m ss ll = true) (hwf : t.Wf) (hto : t.ops = l) :
    Calls Tryz.prog 4 #[.agg #[va, vr, pv, fv], .agg #[sv, lv]] w fun e w' => e = .returned (.tuple #[.bool (t.hb (sig (lets m ps ss ++ lets m ps ll) ss.length) 0), .int .i64 0]) ∧ Below w.heap.size w w' := by
  obtain ⟨W2, hW2⟩ : ∃ W2, W2 = (w.alloc (.cells #[va, vr, pv, fv] 29)).alloc (.cells #[sv, lv] 32) := ⟨_, rfl⟩
  have hbx : Bx2 w W2 va vr pv fv sv lv := by rw [hW2]; exact Bx2.new _ _ _ _ _ _ _
  obtain ⟨hb2, hz2, HBx'⟩ := hbx
  have HBx : Hid _ := HBx'
  have hch := pcheck_any va vr pv fv m ps l W2 (Nat.lt_of_lt_of_le hB hb2.size) (hT.below hb2 hB) (hV.below hb2)
  rw [hk] at hch
  have hm := (pcode_m (tk_zeroV hk).1).1
  have HRu : Hid (∀ w1, Below w.heap.size w w1 → Calls Tryz.prog 9 #[.agg #[va, vr], .agg #[sv, lv]] w1 fun e w' => e = .returned (.tuple #[.bool true, .int .i64 0]) ∧ Below w1.heap.size w1 w') := fun w1 h => by
    have h9 := runs_any va vr sv lv m ss ll w1 (Nat.lt_of_lt_of_le hB h.size) (hT.below h hB) (hV.mo.below h) (hS.below h) (hL.below h) (by omega)
    rw [hr, hm] at h9
    exact h9
  obtain ⟨so, sc, rfl, _⟩ := id hS
  obtain ⟨lo, lc, rfl, _⟩ := id hL
  have HL1 : Hid (∀ w1, Below w.heap.size w w1 → Calls Tryz.prog 10 #[.agg #[va, vr, pv, fv], .slice so ss.length sc] w1 fun e w' => ∃ g, e = .returned (.tuple #[.slice (some ⟨g, 0, none⟩) ss.length ss.length, .int .i64 0]) ∧ Below w1.heap.size w1 w' ∧ Hid (LettersV w' (.slice (some ⟨g, 0, none⟩) ss.length ss.length) (lets m ps ss))) := fun w1 h => lettersOf_any va vr pv fv so sc m ps l ss w1 (Nat.lt_of_lt_of_le hB h.size) (hT.below h hB) (hV.below h) hk h1 (run_range hr).1 (hS.below h).w.v
  have HL2 : Hid (∀ w1, Below w.heap.size w w1 → Calls Tryz.prog 10 #[.agg #[va, vr, pv, fv], .slice lo ll.length lc] w1 fun e w' => ∃ g, e = .returned (.tuple #[.slice (some ⟨g, 0, none⟩) ll.length ll.length, .int .i64 0]) ∧ Below w1.heap.size w1 w' ∧ Hid (LettersV w' (.slice (some ⟨g, 0, none⟩) ll.length ll.length) (lets m ps ll))) := fun w1 h => lettersOf_any va vr pv fv lo lc m ps l ll w1 (Nat.lt_of_lt_of_le hB h.size) (hT.below h hB) (hV.below h) hk h2 (run_range hr).2 (hL.below h).w.v
  have HHo : Hid (∀ (w1 : World) (x y : Value), Below w.heap.size w w1 → LettersV w1 x (lets m ps ss) → LettersV w1 y (lets m ps ll) → Calls Tryz.prog 11 #[fv, .agg #[x, y], .int .i64 (ps.length : Int)] w1 fun e w' => e = .returned (.tuple #[.bool (t.hb (sig (lets m ps ss ++ lets m ps ll) ss.length) 0), .int .i64 0]) ∧ Below w1.heap.size w1 w') := fun w1 x y h hx hy => by
    have h9 := holds_ok fv x y l (lets m ps ss) (lets m ps ll) ps.length t w1 (Nat.lt_of_lt_of_le hB h.size) (hT.below h hB) (hV.fo.below h) hx hy (run_word hk h1 h2 hr) hwf hto
    rw [lets_len] at h9
    exact h9
  obtain ⟨ao, ac, rfl⟩ := hV.mo.1.shape
  obtain ⟨ro, rc, rfl⟩ := hV.mo.2.shape
  obtain ⟨po, pc, rfl⟩ := hV.ps.shape
  obtain ⟨fo, fc, rfl, _⟩ := id hV.fo
  generalize t.hb (sig (lets m ps ss ++ lets m ps ll) ss.length) 0 = res at *
  generalize lets m ps ss = Ls at *
  generalize lets m ps ll = Ll at *
  generalize ss.length = sn at *
  generalize ll.length = ln at *
  generalize m.vars.length = vn at *
  generalize m.rules.length = rn at *
  generalize ps.length = pn at *
  generalize l.length = fn at *
  clear hT hV HBx' hk hS hL hr hm hto
  rw [hW2] at hch
  have h2i : ¬ (12 : Int) < (ln : Int) := by omega
  have h1i : ¬ (12 : Int) < (sn : Int) := by omega
  have tk1 := True.intro
  go_enter Tryz.func4, Tryz.ntmps4
  go_wp2_with (first | (go_at_call 8; refine hch.mono ?_; rintro e w1 ⟨rfl, hb1⟩; rw [← hW2] at hb1; obtain ⟨hbw, ⟨k0, k1, k2, k3⟩, k4, k5⟩ := HBx.out w1 hb1; have hru := HRu.out w1 hbw) | (go_at_call 9; refine hru.mono ?_; rintro e w3 ⟨rfl, hb3⟩; have hb13 := hb1.trans (hb3.mono hb1.size); obtain ⟨hbw3, ⟨m0, m1, m2, m3⟩, m4, m5⟩ := HBx.out w3 hb13; have hl1 := HL1.out w3 hbw3) | (clear tk1; go_at_call 10; refine hl1.mono ?_; rintro e w4 ⟨g1, rfl, hb4, HW1⟩; have hb14 := hb13.trans (hb4.mono hb13.size); obtain ⟨hbw4, ⟨n0, n1, n2, n3⟩, n4, n5⟩ := HBx.out w4 hb14; have hl2 := HL2.out w4 hbw4) | (go_at_call 10; refine hl2.mono ?_; rintro e w5 ⟨g2, rfl, hb5, HW2⟩; have hb15 := hb14.trans (hb5.mono hb14.size); obtain ⟨hbw5, ⟨p0, p1, p2, p3⟩, p4, p5⟩ := HBx.out w5 hb15; have hho := HHo.out w5 _ _ hbw5 (HW1.out.below hb5) HW2.out) | (go_at_call 11; refine hho.mono ?_; rintro e w6 ⟨rfl, hb6⟩))
  go_ret2
  exact ⟨rfl, hbw5.trans (hb6.mono hbw5.size)⟩
end Go.Proofs.YtnicbkkkecfdpaaGreatDoor

/-
  The contract of the document's own worked.
-/
namespace Go.Proofs.YtnicbkkkecfdpaaGreatDoor
open Go.ChangeShapes Go.WideShapes Go.ChangeAt Go.RowKit Go.Deep
open Terms Tm

def wkN (r : Option Int) : Int := match r with
  | some x => x
  | none => 0
def wkC (r : Option Int) : Int := match r with
  | some _ => 0
  | none => 8

/-- what the row of the parts' values is, when those from k on are in it. -/
def RowF (t : Tm) (env : List Int) (base np : Nat) (vao : Option Addr) (wr : World) (k : Nat) : Prop :=
  np = 0 ∨ ∃ g, vao = some ⟨g, 0, none⟩ ∧ base ≤ g ∧ g < wr.heap.size ∧ (∀ j, j < np → wr.frozen? ⟨g, j, none⟩ = false ∧ ∃ u, wr.cell? ⟨g, j, none⟩ = some u) ∧ (∀ j, k ≤ j → j < np → ∃ x, (t.kids.getD j t).eval env = some x ∧ wr.cell? ⟨g, j, none⟩ = some (.int .i64 x))
set_option maxRecDepth 20000 in
theorem RowF.later {t : Tm} {env : List Int} {base np k : Nat} {vao : Option Addr} {w w' : World} (h : RowF t env base np vao w k) (hb : Below w.heap.size w w') : RowF t env base np vao w' k := by
  rcases h with h | ⟨g, h1, h2, h3, h4, h5⟩
  · exact .inl h
  · refine .inr ⟨g, h1, h2, Nat.lt_of_lt_of_le h3 hb.size, fun j hj => ?_, fun j hk hj => ?_⟩
    · obtain ⟨f, u, c⟩ := h4 j hj
      exact ⟨(hb.frozen (p := ⟨g, j, none⟩) h3).trans f, u, (hb.cell (p := ⟨g, j, none⟩) h3).trans c⟩
    · obtain ⟨x, e, c⟩ := h5 j hk hj
      exact ⟨x, e, (hb.cell (p := ⟨g, j, none⟩) h3).trans c⟩
set_option maxRecDepth 20000 in
theorem RowF.store {t : Tm} {env : List Int} {base np k g : Nat} {x : Int} {w : World} (h : RowF t env base np (some ⟨g, 0, none⟩) w (k + 1)) (hk : k < np) (hx : (t.kids.getD k t).eval env = some x) : RowF t env base np (some ⟨g, 0, none⟩) (w.setCell ⟨g, k, none⟩ (.int .i64 x)) k := by
  rcases h with h | ⟨g', h1, h2, h3, h4, h5⟩
  · omega
  · obtain rfl : g = g' := by simpa using h1
    refine .inr ⟨g, rfl, h2, by simpa using h3, fun j hj => ?_, fun j hkj hj => ?_⟩
    · obtain ⟨f, u, c⟩ := h4 j hj
      refine ⟨by simpa [go_sem] using f, ?_⟩
      by_cases hjk : j = k
      · subst hjk; exact ⟨.int .i64 x, by simp [go_sem, c]⟩
      · exact ⟨u, by rw [← c]; exact World.cell?_setCell_other _ _ _ _ (by intro h; injection h with _ h2; omega)⟩
    · by_cases hjk : j = k
      · subst hjk
        obtain ⟨f, u, c⟩ := h4 j hj
        exact ⟨x, hx, by simp [go_sem, c]⟩
      · obtain ⟨y, e, c⟩ := h5 j (by omega) hj
        exact ⟨y, e, by rw [← c]; exact World.cell?_setCell_other _ _ _ _ (by intro h; injection h with _ h2; omega)⟩

set_option maxRecDepth 20000 in
theorem wrE {x : Int} (h1 : -9223372036854775808 ≤ x) (h2 : x ≤ 9223372036854775807) : IntKind.i64.wrap x = x := by
  rw [IntWalk.i64_left]
  exact IntWalk.wrap64_in x ⟨h1, h2⟩
set_option maxRecDepth 20000 in
theorem mul_big {x y : Int} (hx : -1000000 ≤ x ∧ x ≤ 1000000) (hy : -1000000 ≤ y ∧ y ≤ 1000000) : -1000000000000 ≤ x * y ∧ x * y ≤ 1000000000000 := by
  have h : (x * y).natAbs ≤ 1000000000000 := by
    rw [Int.natAbs_mul]
    exact Nat.mul_le_mul (show x.natAbs ≤ 1000000 by omega) (show y.natAbs ≤ 1000000 by omega)
  omega
set_option maxRecDepth 20000 in
theorem IntsV.atE {w : World} {ao : Option Addr} {cap n : Nat} {l : List Int} (h : IntsV w (.slice ao n cap) l) {i : Nat} (hi : i < l.length) : ∃ b off, ao = some ⟨b, off, none⟩ ∧ b < w.heap.size ∧ w.cell? ⟨b, off + i, none⟩ = some (.int .i64 (l.getD i 0)) := by
  obtain ⟨ao', cap', h1, h3⟩ := h
  injection h1 with e1 e2 e3
  subst e1
  obtain ⟨b, off, e, hb, hh⟩ := h3 (by intro h; subst h; simp at hi)
  exact ⟨b, off, e, hb, hh i hi⟩
set_option maxRecDepth 20000 in
theorem eval_kid_none {t : Tm} {env : List Int} {k : Nat} (hk : k < t.kids.length) (h : (t.kids.getD k t).eval env = none) : t.eval env = none := by
  cases t with
  | leaf a b => simp [kids] at hk
  | un a b s =>
    have : k = 0 := by simp [kids] at hk; exact hk
    subst this
    simp only [kids, List.getD_cons_zero] at h
    simp [eval, h]
  | bi a b s u =>
    have hk2 : k = 0 ∨ k = 1 := by simp [kids] at hk; omega
    rcases hk2 with rfl | rfl
    · simp only [kids, List.getD_cons_zero] at h
      simp [eval, h]
    · simp only [kids, List.getD_cons_succ, List.getD_cons_zero] at h
      cases hs : s.eval env <;> simp [eval, h, hs]

set_option maxHeartbeats 1600000 in
set_option maxRecDepth 20000 in
theorem worked_any (eao : Option Addr) (ecap en : Nat) (env : List Int) (hev : Hid (EnvOk env)) (hen : Hid (env.length = en)) (d : Nat) : ∀ (t : Tm) (v : Value) (w : World), t.size ≤ d → t.size ≤ 60 → t.Good en → t.typed = true → OpsV w v t.ops → IntsV w (.slice eao en ecap) env →
    Calls Tryz.prog 54 #[v, .slice eao en ecap] w fun e w' => e = .returned (.tuple #[.int .i64 (wkN (t.eval env)), .int .i64 (wkC (t.eval env))]) ∧ Below w.heap.size w w' := by
  induction d with
  | zero => intro t v w hd; have := t.size_pos; omega
  | succ d ih =>
    intro t v w hd h60 hg hty hV hE
    have hsp := splitOf_any v t.ops w hV
    rw [splitL_tree hg.wf h60, tree_code hg.wf h60] at hsp
    obtain ⟨i0, hi, hz0, hz1, hz2⟩ := info_parts infoInt
    have HV : Hid (OpsV w v t.ops) := hV
    have HE : Hid (IntsV w (.slice eao en ecap) env) := hE
    have HGT : Hid (t.Good en ∧ t.typed = true) := ⟨hg, hty⟩
    obtain ⟨va, vn, vc, hvs⟩ : ∃ a n c, v = .slice a n c := by obtain ⟨a, c, rfl, _⟩ := hV; exact ⟨_, _, _, rfl⟩
    subst hvs
    have hk2 := t.kids_le
    have HS : Hid (∀ i, i < t.kids.length → (t.kids.getD i t).size ≤ d ∧ (t.kids.getD i t).size ≤ 60 ∧ (t.kids.getD i t).Good en ∧ (t.kids.getD i t).typed = true) := fun i hi => by
      have := t.kid_at hi
      exact ⟨by omega, by omega, hg.kid hi, ((typed_kids t).1 hty i hi).2⟩
    obtain ⟨np, hnp⟩ : ∃ np, np = t.kids.length := ⟨_, rfl⟩
    have HNP : Hid (np = t.kids.length) := hnp
    rw [← hnp] at hk2
    obtain ⟨res, hres⟩ : ∃ res, t.eval env = res := ⟨_, rfl⟩
    rw [hres]
    have HRS : Hid (t.eval env = res) := hres
    clear hV hE hnp hres hg hty
    go_enter Tryz.func54, Tryz.ntmps54
    go_wp2_with (go_at_call 79; refine hsp.mono ?_; rintro e w1 ⟨tv, rfl, hb1, ht⟩; obtain ⟨tao, tcap, htv, htat⟩ := ht; rw [List.length_map, ← HNP.out] at htv; subst htv)
    have HT := (show Hid _ from htat)
    clear htat hsp
    go_loopw [8, 9] (fun vv c wr => ∃ i : Nat, i ≤ np ∧ c = .int .i64 i ∧ wr.ownsRow w1.heap.size 3 1 vv i (List.replicate i (.int .i64 0)) ∧ Below w1.heap.size w1 wr) (fun _ c _ => np - (intOf c).toNat)
    case atStart => exact ⟨0, Nat.zero_le _, rfl, World.ownsRow_nil _ _ _ _, Below.refl _ _⟩
    case round =>
      obtain ⟨i, hile, rfl, hown, hbel⟩ := hrel
      by_cases hlt : i < np
      · have hsz := hbel.size
        go_wp2_with (at_builtin; refine wpList_append_own _ rfl (.tmp 26) (.tmp 27) 30 rfl w1.heap.size 3 i0 (.int .i64 0) 1 8 Tryz.underlying30 hi hz0 hz1 hz2 rfl (by decide) _ _ _ rfl (hown.alloc _) ⟨_, 0, none⟩ 1 1 [.int .i64 0] rfl rfl (cell_one_new _ _ _) ?c2 ?c3 ?c4 ?c5 ?_)
        case c2 => intro u hu; simp at hu; subst hu; rfl
        case c3 => unfold maxLen; omega
        case c4 => omega
        case c5 => simp; omega
        intro v' w4 hown' hgrow _
        have hb4 : Below w1.heap.size w1 w4 := (hbel.alloc (by omega) _).grown hgrow (by simp; omega) (fun q hq => (hown.lt q hq).1)
        have ho4 : w4.ownsRow w1.heap.size 3 1 v' (i + 1) (List.replicate (i + 1) (.int .i64 0)) := by
          rw [List.replicate_succ']; exact hown'
        clear hown' hgrow hown
        go_wp2
        go_roundw
        case rel => exact ⟨i + 1, by omega, by go_num, ho4, hb4⟩
        case measure => simp [intOf]; omega
      · have hin : i = np := by omega
        subst hin
        clear hlt hile
        generalize wr = wo at *
        go_wp2_with fail
        obtain ⟨vao, vcap, rfl⟩ := owns_slice hown
        have HR0 : Hid (RowF t env w1.heap.size i vao wo i) := by
          show RowF _ _ _ _ _ _ _
          rcases hown.2 with ⟨h1, h2⟩ | ⟨g, cap, cur, h1, h2, h3, h4⟩
          · exact .inl h2
          · injection h1 with e1 e2 e3
            refine .inr ⟨g, e1, h2, (Array.getElem?_eq_some_iff.1 h3).1, fun j hj => ⟨by simp [World.frozen?, h3], ?_⟩, fun j hkj hj => by omega⟩
            exact ⟨.int .i64 0, by rw [e1, e3] at hown; rw [hown.cellAt j (by omega)]; simp [hj]⟩
        have HBo : Hid (Below w1.heap.size w1 wo) := hbel
        clear hown hbel
        go_loopw [10] (fun c wr => ∃ k : Nat, k ≤ i ∧ c = .int .i64 ((k : Int) - 1) ∧ Below w1.heap.size w1 wr ∧ Hid (RowF t env w1.heap.size i vao wr k)) (fun c _ => ((intOf c) + 1).toNat)
        case atStart => exact ⟨i, Nat.le_refl _, by go_num, HBo.out, HR0.out⟩
        case round =>
          obtain ⟨k, hki, rfl, hbel, HR⟩ := hrel
          by_cases hk : 0 < k
          · obtain ⟨k, rfl⟩ : ∃ k', k = k' + 1 := ⟨k - 1, by omega⟩
            rw [show (((k + 1 : Nat) : Int) - 1) = (k : Int) by omega]
            have hltk : k < t.kids.length := by rw [← HNP.out]; omega
            obtain ⟨tb, toff, rfl, hbl, hcs⟩ := HT.out (by intro h; have := congrArg List.length h; rw [List.length_map] at this; simp at this; rw [this] at hltk; simp at hltk)
            obtain ⟨u, hu, hou⟩ := hcs k (by rw [List.length_map]; exact hltk)
            have hgd : (t.kids.map ops).getD k [] = (t.kids.getD k t).ops := by
              rw [List.getD_eq_getElem?_getD, List.getElem?_map, List.getD_eq_getElem?_getD, List.getElem?_eq_getElem hltk]
              rfl
            rw [hgd] at hou
            obtain ⟨hs1, hs2, hs3, hs4⟩ := HS.out k hltk
            have hbw := hb1.trans (hbel.mono hb1.size)
            have hrec := ih (t.kids.getD k t) u wr hs1 hs2 hs3 hs4 (hou.below hbel) (HE.out.below hbw)
            clear ih
            have hcu := (hbel.cell (p := ⟨tb, toff + k, none⟩) hbl).trans hu
            obtain ⟨ua, un, uc, hus⟩ : ∃ a n c, u = .slice a n c := by obtain ⟨a, c, rfl, _⟩ := hou; exact ⟨_, _, _, rfl⟩
            subst hus
            have HBw : Hid (Below w.heap.size w wr) := hbw
            have HBe : Hid (Below w1.heap.size w1 wr) := hbel
            cases hx : (t.kids.getD k t).eval env with
            | none =>
              rw [hx] at hrec
              have HX : Hid (res = none) := by
                show _ = _
                rw [← HRS.out]
                exact eval_kid_none hltk hx
              simp only [wkN, wkC] at hrec
              clear hgd hou hu hcs hs1 hs2 hs3 hs4 hx hbel hbw
              go_wp2_with (go_at_call 54; refine hrec.mono ?_; rintro e w2 ⟨rfl, hb2⟩)
              go_ret2
              rw [HX.out]
              exact ⟨rfl, HBw.out.trans (hb2.mono HBw.out.size)⟩
            | some x =>
              rw [hx] at hrec
              simp only [wkN, wkC] at hrec
              obtain ⟨g, rfl, hg1, hg2, hg3, _⟩ := HR.out.resolve_left (by omega)
              have HX : Hid ((t.kids.getD k t).eval env = some x) := hx
              have HFZ := (show Hid _ from hg3 k (by omega))
              clear hgd hou hu hcs hs1 hs2 hs3 hs4 hx hbel hbw hg3
              go_wp2_with (go_at_call 54; refine hrec.mono ?_; rintro e w2 ⟨rfl, hb2⟩; obtain ⟨hf0, u0, hc0⟩ := HFZ.out; have hf2 := (hb2.frozen (p := ⟨g, k, none⟩) hg2).trans hf0; have hc2 := (hb2.cell (p := ⟨g, k, none⟩) hg2).trans hc0)
              go_roundw
              case rel => exact ⟨k, by omega, by go_num, (HBe.out.trans (hb2.mono HBe.out.size)).setCell (p := ⟨g, k, none⟩) hg1 _, RowF.store (HR.out.later hb2) (by omega) HX.out⟩
              case measure => simp [intOf]
          · have hk0 : k = 0 := by omega
            subst hk0
            have hbw := hb1.trans (hbel.mono hb1.size)
            obtain ⟨bo, bcap, hbe, _, hbh⟩ := HV.out
            obtain ⟨b, off, rfl, hblt, hbat⟩ := hbh t.ops_ne
            injection hbe with e1 e2 e3
            subst e1 e2 e3
            have hhd := hbat 0 (by rw [ops_length]; exact t.size_pos)
            rw [t.ops_head] at hhd
            simp only [Nat.zero_mul, Nat.add_zero] at hhd
            have c0 := (hbw.cell (p := ⟨b, off, none⟩) hblt).trans hhd.1
            have c1 := (hbw.cell (p := ⟨b, off + 1, none⟩) hblt).trans hhd.2
            have hln : 0 < t.ops.length := by rw [ops_length]; exact t.size_pos
            generalize hol : t.ops.length = ol at *
            have HHE : Hid (IntsV wr (.slice eao en ecap) env) := HE.out.below hbw
            have hrow := HR.out
            clear hbat hbh hol hhd HV HT HS HR HR0 HBo ih hk hki
            cases t with
            | leaf k v =>
              have hi0 : i = 0 := HNP.out
              subst hi0
              simp only [kind, val] at c0 c1
              have HRv : Hid (res = some (if k = 1 then v else if k = 2 then env.getD v.toNat 0 else if k = 11 then 1 else 0)) := HRS.out.symm
              have hgd : (k = 1 ∧ -1000 ≤ v ∧ v ≤ 1000) ∨ (k = 2 ∧ 0 ≤ v ∧ v ≤ (en : Int) - 1) ∨ ((k = 11 ∨ k = 12) ∧ v = 0) := HGT.out.1
              clear HRS HGT HNP hrow
              rcases hgd with ⟨rfl, hv1, hv2⟩ | ⟨rfl, hv1, hv2⟩ | ⟨rfl | rfl, rfl⟩
              · have hin := fun w => in_any v (-1000000) 1000000 w
                rw [decide_eq_true (show -1000000 ≤ v ∧ v ≤ 1000000 by omega)] at hin
                go_wp2_with (go_at_call 30; refine (hin _).mono ?_; rintro e w2 ⟨rfl, rfl⟩)
                go_ret2
                rw [HRv.out]
                exact ⟨rfl, hbw⟩
              · obtain ⟨j, rfl⟩ : ∃ j : Nat, v = (j : Int) := ⟨v.toNat, by omega⟩
                have hj : j < env.length := by rw [hen.out]; omega
                obtain ⟨eb, eoff, hea, _, hec⟩ := (show IntsV wr (.slice eao en ecap) env from HHE.out) |> fun h => IntsV.atE h hj
                subst hea
                have hb := hev.out j hj
                have HEV : Hid (res = some (env.getD j 0)) := by show _ = _; rw [HRv.out]; simp
                generalize env.getD j 0 = y at *
                have hin := fun w => in_any y (-1000000) 1000000 w
                rw [decide_eq_true hb] at hin
                have hj0 : (0 : Int) ≤ (j : Int) := Int.natCast_nonneg _
                have hj1 : (j : Int) < (en : Int) := by omega
                clear HRv HHE
                go_wp2_with (go_at_call 30; refine (hin _).mono ?_; rintro e w2 ⟨rfl, rfl⟩)
                go_ret2
                rw [HEV.out]
                exact ⟨rfl, hbw⟩
              · have hin := fun w => in_any 1 (-1000000) 1000000 w
                rw [decide_eq_true (by omega)] at hin
                go_wp2_with (go_at_call 30; refine (hin _).mono ?_; rintro e w2 ⟨rfl, rfl⟩)
                go_ret2
                rw [HRv.out]
                exact ⟨rfl, hbw⟩
              · have hin := fun w => in_any 0 (-1000000) 1000000 w
                rw [decide_eq_true (by omega)] at hin
                go_wp2_with (go_at_call 30; refine (hin _).mono ?_; rintro e w2 ⟨rfl, rfl⟩)
                go_ret2
                rw [HRv.out]
                exact ⟨rfl, hbw⟩
            | un k v a =>
              have hi0 : i = 1 := HNP.out
              subst hi0
              obtain ⟨g, rfl, hg1, hg2, _, hg4⟩ := hrow.resolve_left (by omega)
              obtain ⟨x, hx, cx⟩ := hg4 0 (Nat.le_refl _) (by omega)
              simp only [kids, List.getD_cons_zero] at hx
              obtain ⟨hgk, hgv, hga⟩ := HGT.out.1
              have hty := HGT.out.2
              simp only [typed, Bool.and_eq_true, beq_iff_eq] at hty
              subst hgk hgv
              have hxx := (eval_le hev.out hen.out hga hty.2 x hx).2 (by rw [hty.1]; rfl)
              have HRv : Hid (res = some (1 - x)) := by show _ = _; rw [← HRS.out]; simp [eval, hx]
              simp only [kind, val] at c0 c1
              clear HRS HGT HNP hrow hg4 hx hga hty HHE
              rcases hxx with rfl | rfl
              · have hin := fun w => in_any 1 (-1000000) 1000000 w
                rw [decide_eq_true (by omega)] at hin
                go_wp2_with (go_at_call 30; refine (hin _).mono ?_; rintro e w2 ⟨rfl, rfl⟩)
                go_ret2
                rw [HRv.out]
                exact ⟨rfl, hbw⟩
              · have hin := fun w => in_any 0 (-1000000) 1000000 w
                rw [decide_eq_true (by omega)] at hin
                go_wp2_with (go_at_call 30; refine (hin _).mono ?_; rintro e w2 ⟨rfl, rfl⟩)
                go_ret2
                rw [HRv.out]
                exact ⟨rfl, hbw⟩
            | bi k v a a' =>
              have hi0 : i = 2 := HNP.out
              subst hi0
              obtain ⟨g, rfl, hg1, hg2, _, hg4⟩ := hrow.resolve_left (by omega)
              obtain ⟨x, hx, cx⟩ := hg4 0 (Nat.zero_le _) (by omega)
              obtain ⟨y, hy, cy⟩ := hg4 1 (Nat.zero_le _) (by omega)
              simp only [kids, List.getD_cons_zero, List.getD_cons_succ] at hx hy
              obtain ⟨hk3, hk9, hgv, hga, hga'⟩ := HGT.out.1
              have hty := HGT.out.2
              simp only [typed, Bool.and_eq_true, beq_iff_eq] at hty
              subst hgv
              have hxb := eval_le hev.out hen.out hga hty.1.2 x hx
              have hyb := eval_le hev.out hen.out hga' hty.2.2 y hy
              rw [hty.1.1] at hxb
              rw [hty.2.1] at hyb
              have HRv : Hid (res = lid (bin k x y)) := by show _ = _; rw [← HRS.out]; simp [eval, hx, hy]
              simp only [kind, val] at c0 c1
              obtain ⟨⟨hx1, hx2⟩, hxt⟩ := hxb
              obtain ⟨⟨hy1, hy2⟩, hyt⟩ := hyb
              clear HRS HGT HNP hrow hg4 hx hy hga hga' hty HHE
              have hm1 : -1000000000000 ≤ x * y ∧ x * y ≤ 1000000000000 := mul_big ⟨hx1, hx2⟩ ⟨hy1, hy2⟩
              have hkk : k = 3 ∨ k = 4 ∨ k = 5 ∨ k = 6 ∨ k = 7 ∨ k = 8 ∨ k = 9 := by omega
              rcases hkk with rfl | rfl | rfl | rfl | rfl | rfl | rfl
              · have hw : IntKind.i64.wrap (x + y) = x + y := wrE (by omega) (by omega)
                have hbn : bin 3 x y = x + y := rfl
                rw [hbn] at HRv
                have hin := fun w => in_any (x + y) (-1000000) 1000000 w
                by_cases hr : -1000000 ≤ x + y ∧ x + y ≤ 1000000
                · rw [decide_eq_true hr] at hin
                  have HR2 : Hid (res = some (x + y)) := by show _ = _; rw [HRv.out]; unfold lid; rw [if_pos hr]
                  clear HRv hbn
                  go_wp2_with fail
                  go_quiet (fail)
                  go_wp2_with (go_at_call 30; refine (hin _).mono ?_; rintro e w2 ⟨rfl, rfl⟩)
                  go_ret2
                  rw [HR2.out]
                  exact ⟨rfl, below_drewN hbw _⟩
                · rw [decide_eq_false hr] at hin
                  have HR2 : Hid (res = none) := by show _ = _; rw [HRv.out]; unfold lid; rw [if_neg hr]
                  clear HRv hbn hr
                  go_wp2_with fail
                  go_quiet (fail)
                  go_wp2_with (go_at_call 30; refine (hin _).mono ?_; rintro e w2 ⟨rfl, rfl⟩)
                  go_ret2
                  rw [HR2.out]
                  exact ⟨rfl, below_drewN hbw _⟩
              · have hw : IntKind.i64.wrap (x - y) = x - y := wrE (by omega) (by omega)
                have hbn : bin 4 x y = x - y := rfl
                rw [hbn] at HRv
                have hin := fun w => in_any (x - y) (-1000000) 1000000 w
                by_cases hr : -1000000 ≤ x - y ∧ x - y ≤ 1000000
                · rw [decide_eq_true hr] at hin
                  have HR2 : Hid (res = some (x - y)) := by show _ = _; rw [HRv.out]; unfold lid; rw [if_pos hr]
                  clear HRv hbn
                  go_wp2_with fail
                  go_quiet (fail)
                  go_wp2_with (go_at_call 30; refine (hin _).mono ?_; rintro e w2 ⟨rfl, rfl⟩)
                  go_ret2
                  rw [HR2.out]
                  exact ⟨rfl, below_drewN hbw _⟩
                · rw [decide_eq_false hr] at hin
                  have HR2 : Hid (res = none) := by show _ = _; rw [HRv.out]; unfold lid; rw [if_neg hr]
                  clear HRv hbn hr
                  go_wp2_with fail
                  go_quiet (fail)
                  go_wp2_with (go_at_call 30; refine (hin _).mono ?_; rintro e w2 ⟨rfl, rfl⟩)
                  go_ret2
                  rw [HR2.out]
                  exact ⟨rfl, below_drewN hbw _⟩
              · have hw : IntKind.i64.wrap (x * y) = x * y := wrE (by omega) (by omega)
                have hbn : bin 5 x y = x * y := rfl
                rw [hbn] at HRv
                have hin := fun w => in_any (x * y) (-1000000) 1000000 w
                by_cases hr : -1000000 ≤ x * y ∧ x * y ≤ 1000000
                · rw [decide_eq_true hr] at hin
                  have HR2 : Hid (res = some (x * y)) := by show _ = _; rw [HRv.out]; unfold lid; rw [if_pos hr]
                  clear HRv hbn
                  go_wp2_with fail
                  go_quiet (fail)
                  go_wp2_with (go_at_call 30; refine (hin _).mono ?_; rintro e w2 ⟨rfl, rfl⟩)
                  go_ret2
                  rw [HR2.out]
                  exact ⟨rfl, below_drewN hbw _⟩
                · rw [decide_eq_false hr] at hin
                  have HR2 : Hid (res = none) := by show _ = _; rw [HRv.out]; unfold lid; rw [if_neg hr]
                  clear HRv hbn hr
                  go_wp2_with fail
                  go_quiet (fail)
                  go_wp2_with (go_at_call 30; refine (hin _).mono ?_; rintro e w2 ⟨rfl, rfl⟩)
                  go_ret2
                  rw [HR2.out]
                  exact ⟨rfl, below_drewN hbw _⟩
              · have hbn : bin 6 x y = if x = y then 1 else 0 := rfl
                rw [hbn] at HRv
                by_cases hc : x = y
                · have hin := fun w => in_any 1 (-1000000) 1000000 w
                  rw [decide_eq_true (by omega)] at hin
                  have HR2 : Hid (res = some 1) := by show _ = _; rw [HRv.out, if_pos hc]; rfl
                  clear HRv hbn
                  subst hc
                  go_wp2_with fail
                  go_quiet (fail)
                  go_wp2_with (go_at_call 30; refine (hin _).mono ?_; rintro e w2 ⟨rfl, rfl⟩)
                  go_ret2
                  rw [HR2.out]
                  exact ⟨rfl, below_drewN hbw _⟩
                · have hin := fun w => in_any 0 (-1000000) 1000000 w
                  rw [decide_eq_true (by omega)] at hin
                  have HR2 : Hid (res = some 0) := by show _ = _; rw [HRv.out, if_neg hc]; rfl
                  have hne : (x == y) = false := by simpa using hc
                  clear HRv hbn
                  go_wp2_with fail
                  go_quiet (fail)
                  go_wp2_with (go_at_call 30; refine (hin _).mono ?_; rintro e w2 ⟨rfl, rfl⟩)
                  go_ret2
                  rw [HR2.out]
                  exact ⟨rfl, below_drewN hbw _⟩
              · have hbn : bin 7 x y = if x < y then 1 else 0 := rfl
                rw [hbn] at HRv
                by_cases hc : x < y
                · have hin := fun w => in_any 1 (-1000000) 1000000 w
                  rw [decide_eq_true (by omega)] at hin
                  have HR2 : Hid (res = some 1) := by show _ = _; rw [HRv.out, if_pos hc]; rfl
                  clear HRv hbn
                  skip
                  go_wp2_with fail
                  go_quiet (fail)
                  go_wp2_with (go_at_call 30; refine (hin _).mono ?_; rintro e w2 ⟨rfl, rfl⟩)
                  go_ret2
                  rw [HR2.out]
                  exact ⟨rfl, below_drewN hbw _⟩
                · have hin := fun w => in_any 0 (-1000000) 1000000 w
                  rw [decide_eq_true (by omega)] at hin
                  have HR2 : Hid (res = some 0) := by show _ = _; rw [HRv.out, if_neg hc]; rfl
                  skip
                  clear HRv hbn
                  go_wp2_with fail
                  go_quiet (fail)
                  go_wp2_with (go_at_call 30; refine (hin _).mono ?_; rintro e w2 ⟨rfl, rfl⟩)
                  go_ret2
                  rw [HR2.out]
                  exact ⟨rfl, below_drewN hbw _⟩
              · have hxx := hxt rfl
                have hyy := hyt rfl
                rcases hxx with rfl | rfl <;> rcases hyy with rfl | rfl
                · have hin := fun w => in_any 0 (-1000000) 1000000 w
                  rw [decide_eq_true (by omega)] at hin
                  have HR2 : Hid (res = some 0) := by show _ = _; rw [HRv.out]; rfl
                  clear HRv
                  go_wp2_with (go_at_call 30; refine (hin _).mono ?_; rintro e w2 ⟨rfl, rfl⟩)
                  go_ret2
                  rw [HR2.out]
                  exact ⟨rfl, hbw⟩
                · have hin := fun w => in_any 0 (-1000000) 1000000 w
                  rw [decide_eq_true (by omega)] at hin
                  have HR2 : Hid (res = some 0) := by show _ = _; rw [HRv.out]; rfl
                  clear HRv
                  go_wp2_with (go_at_call 30; refine (hin _).mono ?_; rintro e w2 ⟨rfl, rfl⟩)
                  go_ret2
                  rw [HR2.out]
                  exact ⟨rfl, hbw⟩
                · have hin := fun w => in_any 0 (-1000000) 1000000 w
                  rw [decide_eq_true (by omega)] at hin
                  have HR2 : Hid (res = some 0) := by show _ = _; rw [HRv.out]; rfl
                  clear HRv
                  go_wp2_with (go_at_call 30; refine (hin _).mono ?_; rintro e w2 ⟨rfl, rfl⟩)
                  go_ret2
                  rw [HR2.out]
                  exact ⟨rfl, hbw⟩
                · have hin := fun w => in_any 1 (-1000000) 1000000 w
                  rw [decide_eq_true (by omega)] at hin
                  have HR2 : Hid (res = some 1) := by show _ = _; rw [HRv.out]; rfl
                  clear HRv
                  go_wp2_with (go_at_call 30; refine (hin _).mono ?_; rintro e w2 ⟨rfl, rfl⟩)
                  go_ret2
                  rw [HR2.out]
                  exact ⟨rfl, hbw⟩
              · have hxx := hxt rfl
                have hyy := hyt rfl
                rcases hxx with rfl | rfl <;> rcases hyy with rfl | rfl
                · have hin := fun w => in_any 0 (-1000000) 1000000 w
                  rw [decide_eq_true (by omega)] at hin
                  have HR2 : Hid (res = some 0) := by show _ = _; rw [HRv.out]; rfl
                  clear HRv
                  go_wp2_with (go_at_call 30; refine (hin _).mono ?_; rintro e w2 ⟨rfl, rfl⟩)
                  go_ret2
                  rw [HR2.out]
                  exact ⟨rfl, hbw⟩
                · have hin := fun w => in_any 1 (-1000000) 1000000 w
                  rw [decide_eq_true (by omega)] at hin
                  have HR2 : Hid (res = some 1) := by show _ = _; rw [HRv.out]; rfl
                  clear HRv
                  go_wp2_with (go_at_call 30; refine (hin _).mono ?_; rintro e w2 ⟨rfl, rfl⟩)
                  go_ret2
                  rw [HR2.out]
                  exact ⟨rfl, hbw⟩
                · have hin := fun w => in_any 1 (-1000000) 1000000 w
                  rw [decide_eq_true (by omega)] at hin
                  have HR2 : Hid (res = some 1) := by show _ = _; rw [HRv.out]; rfl
                  clear HRv
                  go_wp2_with (go_at_call 30; refine (hin _).mono ?_; rintro e w2 ⟨rfl, rfl⟩)
                  go_ret2
                  rw [HR2.out]
                  exact ⟨rfl, hbw⟩
                · have hin := fun w => in_any 1 (-1000000) 1000000 w
                  rw [decide_eq_true (by omega)] at hin
                  have HR2 : Hid (res = some 1) := by show _ = _; rw [HRv.out]; rfl
                  clear HRv
                  go_wp2_with (go_at_call 30; refine (hin _).mono ?_; rintro e w2 ⟨rfl, rfl⟩)
                  go_ret2
                  rw [HR2.out]
                  exact ⟨rfl, hbw⟩
end Go.Proofs.YtnicbkkkecfdpaaGreatDoor

/-
  The contract of the document's own Evaluated.
-/
namespace Go.Proofs.YtnicbkkkecfdpaaGreatDoor
open Go.ChangeShapes Go.WideShapes Go.ChangeAt Go.RowKit Go.Deep
open Terms Tm

set_option maxRecDepth 20000 in
set_option maxHeartbeats 1600000 in
/-- THE CONTRACT OF Evaluated. -/
theorem evaluated_any (v ev : Value) (l : List (Int × Int)) (env : List Int) (t : Tm) (w : World) (hV : OpsV w v l) (hE : IntsV w ev env) (ht : endsCode (l.map Prod.fst) = 0 → t.Wf ∧ t.ops = l) :
    Calls Tryz.prog 33 #[v, ev] w fun e w' => e = .returned (.tuple #[.int .i64 (evalN l t env), .int .i64 (evalC l t env)]) ∧ Below w.heap.size w w' := by
  have hch := exprChecked_any v l env.length t w hV ht
  obtain ⟨va, vc, rfl⟩ : ∃ ao cap, v = .slice ao l.length cap := by obtain ⟨ao, cap, h, _⟩ := hV; exact ⟨ao, cap, h⟩
  obtain ⟨eao, ecap, rfl⟩ : ∃ ao cap, ev = .slice ao env.length cap := by obtain ⟨ao, cap, h, _⟩ := hE; exact ⟨ao, cap, h⟩
  by_cases hx : xcode env.length l t = 0
  · obtain ⟨h0, h6, hops, hg, htt, h60⟩ := xcode_zero hx ht
    have HWK : Hid (EnvOk env → ∀ w1, Below w.heap.size w w1 → Calls Tryz.prog 54 #[.slice va l.length vc, .slice eao env.length ecap] w1 fun e w' => e = .returned (.tuple #[.int .i64 (wkN (t.eval env)), .int .i64 (wkC (t.eval env))]) ∧ Below w1.heap.size w1 w') :=
      fun hok w1 hb => worked_any eao ecap env.length env hok rfl _ t _ w1 (Nat.le_refl _) h60 hg htt (by rw [hops]; exact hV.below hb) (hE.below hb)
    have HE : Hid (IntsV w (.slice eao env.length ecap) env) := hE
    have HBad : Hid (envBad env = true → evalN l t env = 0 ∧ evalC l t env = 2) := fun h => by
      unfold evalN evalC
      simp [hx, h]
    have HOk : Hid (envBad env = false → evalN l t env = wkN (t.eval env) ∧ evalC l t env = wkC (t.eval env)) := fun h => by
      unfold evalN evalC wkN wkC
      simp only [hx, h]
      cases t.eval env <;> simp
    rw [hx] at hch
    generalize (decide ((0 : Int) = 0) && mkT t.kind) = bb at hch
    generalize evalN l t env = rn at *
    generalize evalC l t env = rc at *
    generalize wkN (t.eval env) = kn at *
    generalize wkC (t.eval env) = kc at *
    obtain ⟨n, hn⟩ : ∃ n, n = env.length := ⟨_, rfl⟩
    have HN : Hid (n = env.length) := hn
    rw [← hn] at h6 hch HWK HE ⊢
    generalize l.length = ln at *
    clear hV hE ht hx hops hg htt h60 h0 hn
    go_enter Tryz.func33, Tryz.ntmps33
    go_wp2_with (go_at_call 53; refine hch.mono ?_; rintro e w1 ⟨rfl, hb1⟩)
    go_loopw [8] (fun i wr => ∃ k : Nat, k ≤ n ∧ i = .int .i64 k ∧ Hid (∀ j, j < k → -1000000 ≤ env.getD j 0 ∧ env.getD j 0 ≤ 1000000) ∧ wr = w1) (fun i _ => n - (intOf i).toNat)
    case atStart => exact ⟨0, Nat.zero_le _, rfl, fun j hj => by omega, rfl⟩
    case round =>
      obtain ⟨k, hk, rfl, HJ, rfl⟩ := hrel
      by_cases hlt : k < n
      · obtain ⟨b, off, rfl, hblt, hc⟩ := IntsV.atE HE.out (i := k) (by rw [← HN.out]; exact hlt)
        have hc2 := (hb1.cell (p := ⟨b, off + k, none⟩) hblt).trans hc
        have HBk : Hid (¬ (-1000000 ≤ env.getD k 0 ∧ env.getD k 0 ≤ 1000000) → rn = 0 ∧ rc = 2) := fun h => HBad.out (envBad_at (by rw [← HN.out]; exact hlt) h)
        have HJ2 : Hid (-1000000 ≤ env.getD k 0 ∧ env.getD k 0 ≤ 1000000 → ∀ j, j < k + 1 → -1000000 ≤ env.getD j 0 ∧ env.getD j 0 ≤ 1000000) := fun h j hj => by
          by_cases hjk : j = k
          · subst hjk; exact h
          · exact HJ.out j (by omega)
        generalize env.getD k 0 = y at *
        have hin := fun w => in_any y (-1000000) 1000000 w
        clear hc HJ HWK hch
        by_cases hr : -1000000 ≤ y ∧ y ≤ 1000000
        · rw [decide_eq_true hr] at hin
          have HJ3 := (show Hid _ from HJ2.out hr)
          clear HJ2 HBk hr
          go_wp2_with (go_at_call 30; refine (hin _).mono ?_; rintro e w2 ⟨rfl, rfl⟩)
          go_roundw
          case rel => exact ⟨k + 1, hlt, by go_num, HJ3, by first | rfl | trivial⟩
          case measure => simp [intOf]; omega
        · rw [decide_eq_false hr] at hin
          have HR := (show Hid _ from HBk.out hr)
          clear HJ2 HBk hr
          go_wp2_with (go_at_call 30; refine (hin _).mono ?_; rintro e w2 ⟨rfl, rfl⟩)
          go_ret2
          rw [HR.out.1, HR.out.2]
          exact ⟨rfl, hb1⟩
      · have hok : ∀ i, i < env.length → -1000000 ≤ env.getD i 0 ∧ env.getD i 0 ≤ 1000000 := fun i hi => HJ.out i (by have := HN.out; omega)
        have HR := (show Hid _ from HOk.out (envBad_ok hok))
        have hwk := HWK.out hok _ hb1
        clear HJ HWK HOk HBad hok hch
        go_wp2_with (go_at_call 54; refine hwk.mono ?_; rintro e w2 ⟨rfl, hb2⟩)
        go_ret2
        rw [HR.out.1, HR.out.2]
        exact ⟨rfl, hb1.trans (hb2.mono hb1.size)⟩
  · have h1 : evalN l t env = 0 ∧ evalC l t env = xcode env.length l t := by
      unfold evalN evalC
      simp [hx]
    rw [h1.1, h1.2]
    generalize xcode env.length l t = x at *
    rw [show (decide (x = 0) && mkT t.kind) = false by simp [hx]] at hch
    generalize env.length = n at *
    generalize l.length = ln at *
    clear hV hE ht h1
    go_enter Tryz.func33, Tryz.ntmps33
    go_wp2_with (go_at_call 53; refine hch.mono ?_; rintro e w1 ⟨rfl, hb1⟩)
    go_ret2
    exact ⟨rfl, hb1⟩
end Go.Proofs.YtnicbkkkecfdpaaGreatDoor
