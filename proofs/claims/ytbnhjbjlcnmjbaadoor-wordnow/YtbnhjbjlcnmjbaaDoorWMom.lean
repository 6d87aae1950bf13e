/-
  The contracts of word.Moments and word.Holds.
-/
import Derived.Test.YtbnhjbjlcnmjbaaDoorWFill
namespace Go.Proofs.YtbnhjbjlcnmjbaaDoor
open Go.ChangeShapes Go.WideShapes Go.ChangeAt Go.RowKit Go.Deep
open Terms

/-- what Moments refuses. -/
def mocode (props : Int) (l : List (Int × Int)) (ss ll : List (List Bool)) : Int := if lcode props l ≠ 0 then lcode props l else wcode props ss ll
theorem mocode_zero {props : Int} {l : List (Int × Int)} {ss ll : List (List Bool)} (h : mocode props l ss ll = 0) : lcode props l = 0 ∧ wcode props ss ll = 0 := by
  unfold mocode at h
  split at h
  · rename_i h1; exact absurd h h1
  · rename_i h1; exact ⟨by simpa using h1, h⟩

set_option maxRecDepth 20000 in
theorem fill_bad (v : Value) (so lo : Option Addr) (sn sc ln lc : Nat) (l : List (Int × Int)) (ss ll : List (List Bool)) (props : Int) (w : World) (hB : 0 < w.heap.size) (hT : TabAt w) (hV : OpsV w v l) (hzs : ss.length ≤ 140737488355328) (hzl : ll.length ≤ 140737488355328) (hS : LettersV w (.slice so sn sc) ss) (hL : LettersV w (.slice lo ln lc) ll) (hc : mocode props l ss ll ≠ 0) :
    Calls Tryd.prog 15 #[v, .agg #[.slice so sn sc, .slice lo ln lc], .int .i64 props] w fun e w' => e = .returned (.tuple #[.agg #[.slice none 0 0, .slice none 0 0, .slice none 0 0, .slice none 0 0, .int .i64 0, .slice none 0 0], .int .i64 (mocode props l ss ll)]) ∧ Below w.heap.size w w' := by
  unfold mocode at hc ⊢
  by_cases h : lcode props l ≠ 0
  · rw [if_pos h]; exact fill_bad1 v so lo sn sc ln lc l props w hB hT hV h
  · rw [if_neg h] at hc ⊢; exact fill_bad2 v so lo sn sc ln lc l ss ll props w hB hT hV hzs hzl hS hL (by simpa using h) hc

/-- a row of truths. -/
def RowT (W : World) (rb m : Nat) (h : Nat → Bool) : Prop := rb < W.heap.size ∧ ∀ j, j < m → W.cell? ⟨rb, j, none⟩ = some (.bool (h j))
theorem RowT.boolsV {W : World} {rb m : Nat} {h : Nat → Bool} (r : RowT W rb m h) : BoolsV W (.slice (some ⟨rb, 0, none⟩) m m) ((List.range m).map h) :=
  ⟨some ⟨rb, 0, none⟩, m, by simp, fun _ => ⟨rb, 0, rfl, r.1, fun i hi => by
    simp only [List.length_map, List.length_range] at hi
    rw [Nat.zero_add, r.2 i hi]
    simp [List.getD_eq_getElem?_getD, hi]⟩⟩

set_option maxHeartbeats 800000 in
set_option maxRecDepth 20000 in
theorem moments_bad (v sv lv : Value) (l : List (Int × Int)) (ss ll : List (List Bool)) (props : Int) (w : World) (hB : 0 < w.heap.size) (hT : TabAt w) (hV : OpsV w v l) (hzs : ss.length ≤ 140737488355328) (hzl : ll.length ≤ 140737488355328) (hS : LettersV w sv ss) (hL : LettersV w lv ll) (hc : mocode props l ss ll ≠ 0) :
    Calls Tryd.prog 9 #[v, .agg #[sv, lv], .int .i64 props] w fun e w' => e = .returned (.tuple #[.slice none 0 0, .int .i64 (mocode props l ss ll)]) ∧ Below w.heap.size w w' := by
  obtain ⟨so, sc, rfl⟩ := hS.shape
  obtain ⟨lo, lc, rfl⟩ := hL.shape
  obtain ⟨vo, vc, rfl, _⟩ := id hV
  have hA : ∀ o, Below w.heap.size w (w.alloc o) := fun o => (Below.refl _ _).alloc (Nat.le_refl _) o
  have hfa := fun o => (fill_bad _ so lo _ sc _ lc l ss ll props (w.alloc o) (by simp) (hT.below (hA o) hB) (hV.below (hA o)) hzs hzl (hS.below (hA o)) (hL.below (hA o)) hc).mono fun e w' (⟨h1, h2⟩ : _ ∧ _) => (show _ ∧ Below w.heap.size w w' from ⟨h1, (hA o).trans (h2.mono (hA o).size)⟩)
  generalize mocode props l ss ll = x at *
  generalize ss.length = sn at *
  generalize ll.length = ln at *
  generalize l.length = n at *
  clear hT hV hS hL hzs hzl
  go_enter Tryd.func9, Tryd.ntmps9
  go_wp2_with (go_at_call 15; refine (hfa _).mono ?_; rintro e w1 ⟨rfl, hb1⟩)
  go_ret2
  exact ⟨rfl, by first | exact hb1 | exact hb1.alloc hb1.size _⟩

set_option maxHeartbeats 800000 in
set_option maxRecDepth 20000 in
theorem moments_ok (v sv lv : Value) (l : List (Int × Int)) (ss ll : List (List Bool)) (props : Int) (t : Tm) (w : World) (hB : 0 < w.heap.size) (hT : TabAt w) (hV : OpsV w v l) (hS : LettersV w sv ss) (hL : LettersV w lv ll) (hc : mocode props l ss ll = 0) (hwf : t.Wf) (hto : t.ops = l) :
    Calls Tryd.prog 9 #[v, .agg #[sv, lv], .int .i64 props] w fun e w' => ∃ rb, e = .returned (.tuple #[.slice (some ⟨rb, 0, none⟩) (ss.length + ll.length) (ss.length + ll.length), .int .i64 0]) ∧ Below w.heap.size w w' ∧ Hid (RowT w' rb (ss.length + ll.length) (t.hb (sig (ss ++ ll) ss.length))) := by
  obtain ⟨hc1, hc2⟩ := mocode_zero hc
  obtain ⟨_, _, hz, _, _⟩ := lcode_zero hc1
  obtain ⟨hne, h60⟩ := ends_ne hz
  obtain ⟨_, h12, h1, hl12, _⟩ := wcode_zero hc2
  rw [List.length_map] at h60
  obtain ⟨so, sc, rfl⟩ := hS.shape
  obtain ⟨lo, lc, rfl⟩ := hL.shape
  obtain ⟨vo, vc, rfl, ⟨hcap, _⟩, hvv⟩ := id hV
  obtain ⟨b, off, rfl, hbl, hat⟩ := hvv (by rintro rfl; exact hne rfl)
  have hl0 : 0 < l.length := by
    cases l with
    | nil => exact absurd rfl hne
    | cons _ _ => simp
  have hfi : ∀ w0, Below w.heap.size w w0 → Calls Tryd.prog 15 #[.slice (some ⟨b, off, none⟩) l.length vc, .agg #[.slice so ss.length sc, .slice lo ll.length lc], .int .i64 props] w0 fun e w' => ∃ B aao ac CB ccap RB rb, e = .returned (.tuple #[.agg #[.slice (some ⟨b, off, none⟩) l.length vc, .slice (some ⟨B, 0, none⟩) l.length l.length, .slice aao (aheadL l).length ac, .slice (some ⟨CB, 0, none⟩) (ss.length + ll.length) ccap, .int .i64 (ss.length : Int), .slice (some ⟨RB, 0, none⟩) l.length l.length], .int .i64 0]) ∧ Below w.heap.size w w' ∧ RB < w'.heap.size ∧ w'.cell? ⟨RB, 0, none⟩ = some (.slice (some ⟨rb, 0, none⟩) (ss.length + ll.length) (ss.length + ll.length)) ∧ Hid (RowT w' rb (ss.length + ll.length) (t.hb (sig (ss ++ ll) ss.length))) := fun w0 hb => (fill_ok b off vc l.length so lo ss.length sc ll.length lc l ss ll props t w0 (Nat.lt_of_lt_of_le hB hb.size) (hT.below hb hB) rfl (Nat.lt_of_lt_of_le hbl hb.size) (hat.below hb hbl) hcap rfl rfl (hS.below hb) (hL.below hb) hc1 hc2 hwf hto).mono fun e w' ⟨B, aao, ac, CB, ccap, RB, h1, h2, h3, h4, h5⟩ => by
    obtain ⟨rb, e1, e2, e3⟩ := h5 0 hl0
    rw [Tm.sub_zero] at e3
    exact ⟨B, aao, ac, CB, ccap, RB, rb, h1, hb.trans (h2.mono hb.size), h4, e1, e2, e3⟩
  have hf1 := fun o => hfi (w.alloc o) ((Below.refl _ _).alloc (Nat.le_refl _) o)
  have hln0 : (0 : Int) < (l.length : Int) := by omega
  generalize t.hb (sig (ss ++ ll) ss.length) = hh at *
  generalize (aheadL l).length = an at *
  generalize ss.length = sn at *
  generalize ll.length = ln at *
  generalize l.length = n at *
  clear hT hV hS hL hc hc1 hc2 hz hne hvv hat hto hfi
  go_enter Tryd.func9, Tryd.ntmps9
  go_wp2_with (go_at_call 15; refine (hf1 _).mono ?_; rintro e w1 ⟨B, aao, ac, CB, ccap, RB, rb, rfl, hb1, hRl, hcr, HR⟩; have hcr2 := (fun o => ((((Below.refl w1.heap.size w1).alloc (Nat.le_refl _) o).cell (p := ⟨RB, 0, none⟩) hRl).trans hcr)))
  go_ret2
  have hb2 := hb1.alloc hb1.size (.cells #[.slice (some ⟨b, off, none⟩) n vc, .slice (some ⟨B, 0, none⟩) n n, .slice aao an ac, .slice (some ⟨CB, 0, none⟩) (sn + ln) ccap, .int .i64 (sn : Int), .slice (some ⟨RB, 0, none⟩) n n] 53)
  refine ⟨rb, rfl, hb2, ?_, fun j hj => ?_⟩
  · simp; have := HR.out.1; omega
  · exact (((Below.refl w1.heap.size w1).alloc (Nat.le_refl _) _).cell (p := ⟨rb, j, none⟩) HR.out.1).trans (HR.out.2 j hj)

set_option maxHeartbeats 800000 in
set_option maxRecDepth 20000 in
/-- THE CONTRACT OF word.Holds, of what is none. -/
theorem holds_bad (v sv lv : Value) (l : List (Int × Int)) (ss ll : List (List Bool)) (props : Int) (w : World) (hB : 0 < w.heap.size) (hT : TabAt w) (hV : OpsV w v l) (hzs : ss.length ≤ 140737488355328) (hzl : ll.length ≤ 140737488355328) (hS : LettersV w sv ss) (hL : LettersV w lv ll) (hc : mocode props l ss ll ≠ 0) :
    Calls Tryd.prog 16 #[v, .agg #[sv, lv], .int .i64 props] w fun e w' => e = .returned (.tuple #[.bool false, .int .i64 (mocode props l ss ll)]) ∧ Below w.heap.size w w' := by
  have hA : ∀ o, Below w.heap.size w (w.alloc o) := fun o => (Below.refl _ _).alloc (Nat.le_refl _) o
  have hfa := fun o => (moments_bad v sv lv l ss ll props (w.alloc o) (by simp) (hT.below (hA o) hB) (hV.below (hA o)) hzs hzl (hS.below (hA o)) (hL.below (hA o)) hc).mono fun e w' (⟨h1, h2⟩ : _ ∧ _) => (show _ ∧ Below w.heap.size w w' from ⟨h1, (hA o).trans (h2.mono (hA o).size)⟩)
  obtain ⟨so, sc, rfl⟩ := hS.shape
  obtain ⟨lo, lc, rfl⟩ := hL.shape
  obtain ⟨vo, vc, rfl, _⟩ := id hV
  generalize mocode props l ss ll = x at *
  generalize ss.length = sn at *
  generalize ll.length = ln at *
  generalize l.length = n at *
  clear hT hV hS hL hzs hzl
  go_enter Tryd.func16, Tryd.ntmps16
  go_wp2_with (go_at_call 9; refine (hfa _).mono ?_; rintro e w1 ⟨rfl, hb1⟩)
  go_ret2
  exact ⟨rfl, hb1⟩

set_option maxHeartbeats 800000 in
set_option maxRecDepth 20000 in
/-- THE CONTRACT OF word.Holds. -/
theorem holds_ok (v sv lv : Value) (l : List (Int × Int)) (ss ll : List (List Bool)) (props : Int) (t : Tm) (w : World) (hB : 0 < w.heap.size) (hT : TabAt w) (hV : OpsV w v l) (hS : LettersV w sv ss) (hL : LettersV w lv ll) (hc : mocode props l ss ll = 0) (hwf : t.Wf) (hto : t.ops = l) :
    Calls Tryd.prog 16 #[v, .agg #[sv, lv], .int .i64 props] w fun e w' => e = .returned (.tuple #[.bool (t.hb (sig (ss ++ ll) ss.length) 0), .int .i64 0]) ∧ Below w.heap.size w w' := by
  have hA : ∀ o, Below w.heap.size w (w.alloc o) := fun o => (Below.refl _ _).alloc (Nat.le_refl _) o
  have hfa : ∀ o, Calls Tryd.prog 9 #[v, .agg #[sv, lv], .int .i64 props] (w.alloc o) fun e w' => ∃ rb, e = .returned (.tuple #[.slice (some ⟨rb, 0, none⟩) (ss.length + ll.length) (ss.length + ll.length), .int .i64 0]) ∧ Below w.heap.size w w' ∧ Hid (RowT w' rb (ss.length + ll.length) (t.hb (sig (ss ++ ll) ss.length))) := fun o => (moments_ok v sv lv l ss ll props t (w.alloc o) (by simp) (hT.below (hA o) hB) (hV.below (hA o)) (hS.below (hA o)) (hL.below (hA o)) hc hwf hto).mono fun e w' ⟨rb, h1, h2, h3⟩ => ⟨rb, h1, (hA o).trans (h2.mono (hA o).size), h3⟩
  obtain ⟨_, h12, h1, hl12, _⟩ := wcode_zero (mocode_zero hc).2
  obtain ⟨so, sc, rfl⟩ := hS.shape
  obtain ⟨lo, lc, rfl⟩ := hL.shape
  obtain ⟨vo, vc, rfl, _⟩ := id hV
  generalize t.hb (sig (ss ++ ll) ss.length) = hh at *
  generalize ss.length = sn at *
  generalize ll.length = ln at *
  generalize l.length = n at *
  obtain ⟨m, hm⟩ : ∃ m, m = sn + ln := ⟨_, rfl⟩
  rw [← hm] at hfa
  have hm0 : 0 < m := by omega
  have hm1 : (0 : Int) < (m : Int) := by omega
  clear hT hV hS hL hc hto hm
  go_enter Tryd.func16, Tryd.ntmps16
  go_wp2_with (go_at_call 9; refine (hfa _).mono ?_; rintro e w1 ⟨rb, rfl, hb1, HR⟩; have hcr := HR.out.2 0 hm0)
  go_ret2
  exact ⟨rfl, hb1⟩
end Go.Proofs.YtbnhjbjlcnmjbaaDoor
