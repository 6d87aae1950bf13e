/-
  What the keeping laws on Eval share: joined over one and two terms, Eval and Check at a tree.
-/
import Derived.Test.YtlmghhfpoeocnaaDoorKeepEnv
import Derived.Test.YtlmghhfpoeocnaaDoorJoined
import Derived.Test.YtlmghhfpoeocnaaDoorEval2
namespace Go.Proofs.YtlmghhfpoeocnaaDoor
open Go.ChangeShapes Go.WideShapes Go.ChangeAt Go.RowKit Go.Deep
open Terms Tm

theorem OpsV.shape {w : World} {v : Value} {l : List (Int × Int)} (h : OpsV w v l) : ∃ a c, v = .slice a l.length c := by obtain ⟨a, c, rfl, _⟩ := h; exact ⟨_, _, rfl⟩
theorem joined1 (kind : Int) (g : Nat) (lv : Value) (l : List (Int × Int)) (w : World) (hc : w.cell? ⟨g, 0, none⟩ = some lv) (hl : l.length ≤ 60) (hne : l ≠ []) (hV : OpsV w lv l) :
    Calls Tryd.prog 18 #[.int .i64 kind, .slice (some ⟨g, 0, none⟩) 1 1] w fun e w' => ∃ a c, e = .returned (.slice a ((kind, 0) :: l).length c) ∧ Below w.heap.size w w' ∧ OpsV w' (.slice a ((kind, 0) :: l).length c) ((kind, 0) :: l) := by
  have hT : TermsV w (.slice (some ⟨g, 0, none⟩) 1 1) [l] := ⟨_, 1, rfl, fun _ => ⟨g, 0, rfl, World.block_lt_of_cell? w ⟨g, 0, none⟩ hc, fun i hi => by
    obtain rfl : i = 0 := by simp at hi; exact hi
    exact ⟨lv, hc, hV⟩⟩⟩
  refine (joined_any kind _ [l] w (by simp) (fun i hi => ?_) (fun i hi => ?_) hT).mono fun e w' ⟨v', he, hb, ho⟩ => ?_
  · have : i = 0 ∨ i = 1 := by simp at hi; omega
    rcases this with rfl | rfl <;> simp <;> omega
  · obtain rfl : i = 0 := by simp at hi; exact hi
    exact hne
  · have h2 : [l].flatten = l := by simp
    rw [h2] at ho
    obtain ⟨a, c, rfl⟩ := owns_slice ho
    exact ⟨a, c, he, hb, opsV_of_owns ho⟩
theorem joined2 (kind : Int) (g : Nat) (lv mv : Value) (l m : List (Int × Int)) (w : World) (hc : w.cell? ⟨g, 0, none⟩ = some lv) (hd : w.cell? ⟨g, 1, none⟩ = some mv) (hl : l.length ≤ 60) (hm : m.length ≤ 60) (hne : l ≠ []) (hne2 : m ≠ []) (hV : OpsV w lv l) (hM : OpsV w mv m) :
    Calls Tryd.prog 18 #[.int .i64 kind, .slice (some ⟨g, 0, none⟩) 2 2] w fun e w' => ∃ a c, e = .returned (.slice a ((kind, 0) :: (l ++ m)).length c) ∧ Below w.heap.size w w' ∧ OpsV w' (.slice a ((kind, 0) :: (l ++ m)).length c) ((kind, 0) :: (l ++ m)) := by
  have hT : TermsV w (.slice (some ⟨g, 0, none⟩) 2 2) [l, m] := ⟨_, 2, rfl, fun _ => ⟨g, 0, rfl, World.block_lt_of_cell? w ⟨g, 0, none⟩ hc, fun i hi => by
    have : i = 0 ∨ i = 1 := by simp at hi; omega
    rcases this with rfl | rfl
    · exact ⟨lv, hc, hV⟩
    · exact ⟨mv, hd, hM⟩⟩⟩
  refine (joined_any kind _ [l, m] w (by simp) (fun i hi => ?_) (fun i hi => ?_) hT).mono fun e w' ⟨v', he, hb, ho⟩ => ?_
  · have : i = 0 ∨ i = 1 ∨ i = 2 := by simp at hi; omega
    rcases this with rfl | rfl | rfl <;> simp <;> omega
  · have : i = 0 ∨ i = 1 := by simp at hi; omega
    rcases this with rfl | rfl
    · exact hne
    · exact hne2
  · have h2 : [l, m].flatten = l ++ m := by simp
    rw [h2] at ho
    obtain ⟨a, c, rfl⟩ := owns_slice ho
    exact ⟨a, c, he, hb, opsV_of_owns ho⟩

theorem EnvS.good {env : List Int} (h : EnvS env) : envBad env = false := envBad_ok (fun j hj => h.ok j hj)
/-- Eval at a tree over three values. -/
theorem eval_at (v ev : Value) (env : List Int) (T : Tm) (w : World) (hB : 0 < w.heap.size) (hT : TabAt w) (hs : EnvS env) (hg : T.Good 3) (hty : T.typed = true) (h60 : T.size ≤ 60) (hV : OpsV w v T.ops) (hE : IntsV w ev env) :
    Calls Tryd.prog 13 #[v, ev] w fun e w' => e = .returned (.tuple #[.int .i64 (match T.eval env with | some x => x | none => 0), .int .i64 (match T.eval env with | some _ => 0 | none => 8)]) ∧ Below w.heap.size w w' := by
  have hx : xcode env.length T.ops T = 0 := by
    rw [show (env.length : Int) = 3 by rw [hs.1]; rfl]
    rw [xcode_good (by omega) (by omega) hg h60, if_pos hty]
  refine (eval_any v ev T.ops env T w hB hT hV hE (fun _ => ⟨hg.wf, rfl⟩)).mono fun e w' ⟨he, hb⟩ => ⟨?_, hb⟩
  rw [he]
  simp only [evalN, evalC, hx, hs.good, ne_eq, not_true_eq_false, if_false, Bool.false_eq_true]
  cases T.eval env <;> rfl
theorem eval_some (v ev : Value) (env : List Int) (T : Tm) (x : Int) (w : World) (hx : T.eval env = some x) (hB : 0 < w.heap.size) (hT : TabAt w) (hs : EnvS env) (hg : T.Good 3) (hty : T.typed = true) (h60 : T.size ≤ 60) (hV : OpsV w v T.ops) (hE : IntsV w ev env) :
    Calls Tryd.prog 13 #[v, ev] w fun e w' => e = .returned (.tuple #[.int .i64 x, .int .i64 0]) ∧ Below w.heap.size w w' := by
  have h := eval_at v ev env T w hB hT hs hg hty h60 hV hE
  rw [hx] at h
  exact h
theorem eval_none (v ev : Value) (env : List Int) (T : Tm) (w : World) (hx : T.eval env = none) (hB : 0 < w.heap.size) (hT : TabAt w) (hs : EnvS env) (hg : T.Good 3) (hty : T.typed = true) (h60 : T.size ≤ 60) (hV : OpsV w v T.ops) (hE : IntsV w ev env) :
    Calls Tryd.prog 13 #[v, ev] w fun e w' => e = .returned (.tuple #[.int .i64 0, .int .i64 8]) ∧ Below w.heap.size w w' := by
  have h := eval_at v ev env T w hB hT hs hg hty h60 hV hE
  rw [hx] at h
  exact h
/-- Check at a tree over three variables. -/
theorem check_at (v : Value) (T : Tm) (w : World) (hB : 0 < w.heap.size) (hT : TabAt w) (hg : T.Good 3) (h60 : T.size ≤ 60) (hV : OpsV w v T.ops) :
    Calls Tryd.prog 9 #[v, .int .i64 3] w fun e w' => e = .returned (.tuple #[.bool (T.typed && mkT T.kind), .int .i64 (if T.typed = true then 0 else 5)]) ∧ Below w.heap.size w w' := by
  have hx : xcode 3 T.ops T = if T.typed = true then 0 else 5 := xcode_good (by omega) (by omega) hg h60
  refine (check_any v T.ops 3 T w hB hT hV (fun _ => ⟨hg.wf, rfl⟩)).mono fun e w' ⟨he, hb⟩ => ⟨?_, hb⟩
  rw [he, hx]
  cases T.typed <;> simp
end Go.Proofs.YtlmghhfpoeocnaaDoor
