/-
  Joined out of ShelfClone, Eval2, StepRule, MValues, StepAfter, Bools, StepLetter, Letters, Concat, Words, WordM, WCheck, LogicT, WLaw, in their order: a claim bears at most so many files.
-/
import Derived.Ground.Names2Prog
import Derived.Shelf.Slices.Clone
import Derived.Lib.OwnBridge
import Derived.Laws.OwnMore
import Derived.Test.YtnicbkkkecfdpaaGreatDoorLateA
import Derived.Deep.RegionHeld3
import Derived.Test.YtnicbkkkecfdpaaGreatDoorMem
import Derived.Deep.OwnRows
import Derived.Test.YtnicbkkkecfdpaaGreatDoorMProps
import Derived.Lib.AppendZeros
import Derived.Test.YtnicbkkkecfdpaaGreatDoorTrees
import Derived.Test.YtnicbkkkecfdpaaGreatDoorLogicM
/-
  The library's slices.Clone at lists of numbers: its contract at this program.
-/
namespace Go.Proofs.YtnicbkkkecfdpaaGreatDoor
open Go.Shelf Go.RowKit Go.Lib
def laysClone_ren : Go.Shelf.Ren := ⟨fun | 15 => 122 | n => n, fun | 22 => 30 | 3 => 3 | 4 => 4 | n => n, fun | n => n⟩
set_option maxRecDepth 20000 in
theorem laysClone : Go.Proofs.Lays2.n15 Tryz.prog laysClone_ren := {
  mixed := by kernel_rfl
  f15 := Tryz.func122.trans (congrArg some (by kernel_rfl))
  t3 := Tryz.underlying3
  a3 := Tryz.isAgg3
  z3 := Tryz.sizeOf3
  v3 := Tryz.zeroValue3
  t4 := Tryz.underlying4
  a4 := Tryz.isAgg4
  z4 := Tryz.sizeOf4
  v4 := Tryz.zeroValue4
  t22 := Tryz.underlying30
  a22 := Tryz.isAgg30
  z22 := Tryz.sizeOf30
  v22 := Tryz.zeroValue30
  i3 := by kernel_rfl }
set_option maxRecDepth 20000 in
/-- a copy of numbers that lie in a block of their own. -/
theorem clone_any (B : Nat) (l : List Int) (w : World) (hl : l.length ≤ 10000) (hr : w.rowIs B 3 l.length (fun j => .int .i64 (l.getD j 0))) :
    Calls Tryz.prog 122 #[.slice (some ⟨B, 0, none⟩) l.length l.length] w fun e w' => ∃ g cap, e = .returned (.slice (some ⟨g, 0, none⟩) l.length cap) ∧ w.heap.size ≤ g ∧ Below w.heap.size w w' ∧ w'.ownsRow w.heap.size 3 1 (.slice (some ⟨g, 0, none⟩) l.length cap) l.length (ivals l) := by
  have h : Calls Tryz.prog 122 #[.slice (some ⟨B, 0, none⟩) l.length l.length] w fun e w' => ∃ v', e = .returned v' ∧ w'.ownsRow w.heap.size 3 1 v' l.length ((l.take l.length).map (Value.int .i64)) ∧ v' ≠ .slice none 0 0 ∧ Below w.heap.size w w' :=
    Any.slices_Clone_int laysClone B 0 l.length l.length l w (Nat.le_refl _) (by omega) (fun j hj => by rw [Nat.zero_add]; exact hr.cell hj)
  refine h.mono fun e w' ⟨v', he, ho, hn, hb⟩ => ?_
  rw [List.take_length] at ho
  obtain ⟨g, cap, rfl, hg, _⟩ := Lib.holds_of_ownsRow ho hn
  exact ⟨g, cap, he, hg, hb, ho⟩
end Go.Proofs.YtnicbkkkecfdpaaGreatDoor

/-
  The contract of expr.Eval, where Check says yes.
-/
namespace Go.Proofs.YtnicbkkkecfdpaaGreatDoor
open Go.ChangeShapes Go.WideShapes Go.ChangeAt Go.RowKit Go.Deep
open Terms Tm

/-- the values, as they lie. -/
def EnvAt (w : World) (eao : Option Addr) (env : List Int) : Prop := ∀ i, i < env.length → ∃ eb eoff, eao = some ⟨eb, eoff, none⟩ ∧ eb < w.heap.size ∧ w.cell? ⟨eb, eoff + i, none⟩ = some (.int .i64 (env.getD i 0))
set_option maxRecDepth 20000 in
theorem EnvAt.later {w w' : World} {eao : Option Addr} {env : List Int} (h : EnvAt w eao env) (hb : Below w.heap.size w w') : EnvAt w' eao env := fun i hi => by
  obtain ⟨eb, eoff, e1, e2, e3⟩ := h i hi
  exact ⟨eb, eoff, e1, Nat.lt_of_lt_of_le e2 hb.size, (hb.cell (p := ⟨eb, eoff + i, none⟩) e2).trans e3⟩

def evalPost (env : List Int) (t : Tm) (w : World) (e : Ending) (w' : World) : Prop :=
  e = .returned (.tuple #[.int .i64 (if envBad env = true then 0 else match t.eval env with | some x => x | none => 0), .int .i64 (if envBad env = true then 2 else match t.eval env with | some _ => 0 | none => 8)]) ∧ Below w.heap.size w w'

set_option maxRecDepth 20000 in
set_option maxHeartbeats 3200000 in
theorem eval_yes (b off n cap : Nat) (eao : Option Addr) (en ecap : Nat) (t : Tm) (env : List Int) (w : World) (hn : n = t.size) (h60 : n ≤ 60) (hen : en = env.length) (hen6 : en ≤ 6) (hg : t.Good env.length) (hty : t.typed = true) (hbB : b < w.heap.size) (hA : OpsAt w b off t.ops) (hE : EnvAt w eao env)
    (heo : Calls Tryz.prog 84 #[.slice (some ⟨b, off, none⟩) n cap, .int .i64 en] (e0 w) fun e w' => Below (e0 w).heap.size (e0 w) w' ∧ ∃ B, (e0 w).heap.size ≤ B ∧ e = .returned (.tuple #[.slice (some ⟨B, 0, none⟩) n n, .int .i64 0]) ∧ w'.rowIs B 3 n (fun q => .int .i64 (endAt (t.ops.map Prod.fst) q))) :
    Calls Tryz.prog 67 #[.slice (some ⟨b, off, none⟩) n cap, .slice eao en ecap] w (evalPost env t w) := by
  have hmf := hmakeFunc
  have HE : Hid (EnvAt w eao env) := hE
  have HA : Hid (OpsAt w b off t.ops) := hA
  have HN : Hid (n = t.size ∧ t.Good env.length ∧ t.typed = true ∧ en = env.length) := ⟨hn, hg, hty, hen⟩
  have hn1 : 0 < n := by rw [hn]; exact t.size_pos
  have hzs : (e0 w).heap.size = w.heap.size + 1 + 1 := by simp [e0]
  clear hE hA hn hg hty hen
  go_enter_defers Tryz.func67, Tryz.ntmps67
  go_wp2_with (go_at_call 84; refine heo.mono ?_; rintro e w2 ⟨hb2, B, hBw, rfl, hrow⟩; obtain ⟨c0, c1, f0, f1, hsz, hbw⟩ := e0_cells w hb2)
  obtain ⟨W3, hW3⟩ : ∃ W3, W3 = w2.setCell ⟨w.heap.size + 1, 0, none⟩ (.int .i64 0) := ⟨_, rfl⟩
  have hb3 : Below w.heap.size w W3 := by rw [hW3]; exact hbw.setCell (p := ⟨w.heap.size + 1, 0, none⟩) (by simp) _
  have d0 : W3.cell? ⟨w.heap.size, 0, none⟩ = some (.int .i64 0) := by rw [hW3]; simp [go_sem, c0]
  have d1 : W3.cell? ⟨w.heap.size + 1, 0, none⟩ = some (.int .i64 0) := by rw [hW3]; simp [go_sem, c1]
  have g0 : W3.frozen? ⟨w.heap.size, 0, none⟩ = false := by rw [hW3]; simp [go_sem, f0]
  have g1 : W3.frozen? ⟨w.heap.size + 1, 0, none⟩ = false := by rw [hW3]; simp [go_sem, f1]
  have hrow3 : W3.rowIs B 3 n (fun q => .int .i64 (endAt (t.ops.map Prod.fst) q)) := by rw [hW3]; exact hrow.setOther (by simp; omega) _
  have hsz3 : w.heap.size + 1 < W3.heap.size := by rw [hW3]; simpa using hsz
  have HW3 := (show Hid _ from hW3)
  have HR : Hid (W3.rowIs B 3 n (fun q => .int .i64 (endAt (t.ops.map Prod.fst) q))) := hrow3
  rw [← hW3]
  clear hW3 hrow3 hrow heo hb2 c0 c1 f0 f1 hsz hbw HW3
  go_loop [23] (fun c => ∃ i : Nat, i ≤ en ∧ c = .int .i64 i ∧ Hid (∀ j, j < i → -1000000 ≤ env.getD j 0 ∧ env.getD j 0 ≤ 1000000)) (fun c => en - (intOf c).toNat)
  case atStart => exact ⟨0, Nat.zero_le _, rfl, fun j hj => by omega⟩
  case round =>
    obtain ⟨i, hi, rfl, HJ⟩ := hrel
    by_cases hlt : i < en
    · obtain ⟨eb, eoff, rfl, e2, e3⟩ := (HE.out.later hb3) i (by rw [← HN.out.2.2.2]; exact hlt)
      have htg := fun w => tooGreat_any (env.getD i 0) w
      by_cases hz : -1000000 ≤ env.getD i 0 ∧ env.getD i 0 ≤ 1000000
      · rw [show decide (¬ (-1000000 ≤ env.getD i 0 ∧ env.getD i 0 ≤ 1000000)) = false by simpa using hz] at htg
        have HJ2 : Hid (∀ j, j < i + 1 → -1000000 ≤ env.getD j 0 ∧ env.getD j 0 ≤ 1000000) := fun j hj => by
          by_cases hji : j < i
          · exact HJ.out j hji
          · obtain rfl : j = i := by omega
            exact hz
        clear hz
        generalize env.getD i 0 = x at e3 htg
        go_wp2_with (go_at_call 92; refine (htg _).mono ?_; rintro e w5 ⟨rfl, rfl⟩)
        go_round
        case rel => exact ⟨i + 1, by omega, by go_num, HJ2⟩
        case measure => simp [intOf]; omega
      · have HX : Hid (envBad env = true) := envBad_at (by rw [← HN.out.2.2.2]; exact hlt) hz
        generalize env.getD i 0 = x at e3 htg hz
        rw [show decide (¬ (-1000000 ≤ x ∧ x ≤ 1000000)) = true by simp; omega] at htg
        clear hz
        go_wp2_with (go_at_call 92; refine (htg _).mono ?_; rintro e w5 ⟨rfl, rfl⟩)
        refine leaves_cons (f := 91) (args := #[.pointer (some ⟨w.heap.size, 0, none⟩), .pointer (some ⟨w.heap.size + 1, 0, none⟩)]) (by simp) (by simp [go_sem]) ?_
        refine (ecatch_idle w.heap.size _).mono ?_
        rintro e u' w'' ⟨rfl, rfl, rfl⟩
        simp [Leaves, settle, results, Tryz.results67, go_sem, d0, d1]
        unfold evalPost
        rw [if_pos HX.out, if_pos HX.out]
        exact ⟨rfl, (hb3.setCell (p := ⟨w.heap.size, 0, none⟩) (Nat.le_refl _) _).setCell (p := ⟨w.heap.size + 1, 0, none⟩) (by simp) _⟩
    · have hin : i = en := by omega
      subst hin
      have hok : envBad env = false := envBad_ok (fun j hj => HJ.out j (by rw [HN.out.2.2.2]; exact hj))
      have HX : Hid (envBad env = false) := hok
      have hpm := pairMakers_any W3
      clear hlt hi
      go_wp2_with (go_at_call 93; refine hpm.mono ?_; rintro e W4 ⟨M, hM, rfl, hpa, hb4⟩)
      have hb5 : Below W3.heap.size W3 (W4.alloc (.cells #[.slice (some ⟨b, off, none⟩) n cap, .slice (some ⟨B, 0, none⟩) n n, .slice eao i ecap, .map (some M)] 131)) := hb4.alloc hb4.size _
      have hpa5 : PairsAt (W4.alloc (.cells #[.slice (some ⟨b, off, none⟩) n cap, .slice (some ⟨B, 0, none⟩) n n, .slice eao i ecap, .map (some M)] 131)) M := World.ownsMap.alloc hpa _
      have hwk : WorkAt (W4.alloc (.cells #[.slice (some ⟨b, off, none⟩) n cap, .slice (some ⟨B, 0, none⟩) n n, .slice eao i ecap, .map (some M)] 131)) b off B eao M t env := by
        have hbb := hb3.trans (hb5.mono hb3.size)
        refine ⟨Nat.lt_of_lt_of_le hbB hbb.size, HA.out.below hbb hbB, ?_, HE.out.later hbb, hpa5⟩
        have hr := HR.out
        rw [HN.out.1] at hr
        exact hr.of_block (hb5.block B hr.lt)
      generalize W4.alloc (.cells #[.slice (some ⟨b, off, none⟩) n cap, .slice (some ⟨B, 0, none⟩) n n, .slice eao i ecap, .map (some M)] 131) = W5 at *
      have hat := at_any b off n cap B eao i ecap M env.length t env HN.out.1 h60 HN.out.2.1 HN.out.2.2.1 (envBad_false hok) rfl HN.out.2.2.2 t.size 0 W5 hn1 (by rw [sub_zero]; omega) hwk
      rw [sub_zero] at hat
      have hs3 := hb3.size
      have hs5 := hb5.size
      clear hwk hpa hpa5 hok hpm hb4 HR
      cases hx : t.eval env with
      | none =>
        rw [hx] at hat
        have HXN : Hid (t.eval env = none) := hx
        clear hx
        refine hat.mono ?_
        rintro e w6 ⟨hb6, rfl⟩
        have hb36 := hb5.trans (hb6.mono hb5.size)
        have k0 := (hb36.cell (p := ⟨w.heap.size, 0, none⟩) (by simp only; omega)).trans d0
        have k1 := (hb36.cell (p := ⟨w.heap.size + 1, 0, none⟩) (by simp only; omega)).trans d1
        have z0 := (hb36.frozen (p := ⟨w.heap.size, 0, none⟩) (by simp only; omega)).trans g0
        have z1 := (hb36.frozen (p := ⟨w.heap.size + 1, 0, none⟩) (by simp only; omega)).trans g1
        have hbf := hb3.trans (hb36.mono hb3.size)
        refine leaves_cons (f := 91) (args := #[.pointer (some ⟨w.heap.size, 0, none⟩), .pointer (some ⟨w.heap.size + 1, 0, none⟩)]) (by simp) (by simp [go_sem]) ?_
        refine (ecatch_panicking w.heap.size 8 _ _ w6 k0 k1 z0 z1).mono ?_
        rintro e u' w'' ⟨rfl, rfl, rfl⟩
        simp [Leaves, settle, results, Tryz.results67, go_sem, k0, k1]
        unfold evalPost
        rw [if_neg (by rw [HX.out]; simp), if_neg (by rw [HX.out]; simp), HXN.out]
        exact ⟨rfl, (((hbf.setCell (p := ⟨w.heap.size, 0, none⟩) (Nat.le_refl _) _).setCell (p := ⟨w.heap.size + 1, 0, none⟩) (by simp) _)).drew⟩
      | some x =>
        rw [hx] at hat
        have HXN : Hid (t.eval env = some x) := hx
        clear hx
        refine hat.mono ?_
        rintro e w6 ⟨hb6, rfl⟩
        have hb36 := hb5.trans (hb6.mono hb5.size)
        have k0 := (hb36.cell (p := ⟨w.heap.size, 0, none⟩) (by simp only; omega)).trans d0
        have k1 := (hb36.cell (p := ⟨w.heap.size + 1, 0, none⟩) (by simp only; omega)).trans d1
        have z0 := (hb36.frozen (p := ⟨w.heap.size, 0, none⟩) (by simp only; omega)).trans g0
        have z1 := (hb36.frozen (p := ⟨w.heap.size + 1, 0, none⟩) (by simp only; omega)).trans g1
        have hbf := hb3.trans (hb36.mono hb3.size)
        clear d0 d1 g0 g1 hat
        go_wp2_with fail
        refine leaves_cons (f := 91) (args := #[.pointer (some ⟨w.heap.size, 0, none⟩), .pointer (some ⟨w.heap.size + 1, 0, none⟩)]) (by simp) (by simp [go_sem]) ?_
        refine (ecatch_idle w.heap.size _).mono ?_
        rintro e u' w'' ⟨rfl, rfl, rfl⟩
        simp [Leaves, settle, results, Tryz.results67, go_sem, k0, k1]
        unfold evalPost
        rw [if_neg (by rw [HX.out]; simp), if_neg (by rw [HX.out]; simp), HXN.out]
        exact ⟨rfl, (hbf.setCell (p := ⟨w.heap.size, 0, none⟩) (Nat.le_refl _) _).setCell (p := ⟨w.heap.size + 1, 0, none⟩) (by simp) _⟩

set_option maxRecDepth 20000 in
theorem IntsV.env {w : World} {v : Value} {env : List Int} (h : IntsV w v env) : ∃ eao ecap, v = .slice eao env.length ecap ∧ EnvAt w eao env := by
  obtain ⟨ao, cap, rfl, h⟩ := h
  refine ⟨ao, cap, rfl, fun i hi => ?_⟩
  obtain ⟨b, off, rfl, hlt, hat⟩ := h (by intro h; subst h; simp at hi)
  exact ⟨b, off, rfl, hlt, hat i hi⟩

set_option maxRecDepth 20000 in
/-- THE CONTRACT OF expr.Eval. -/
theorem eval_any (v ev : Value) (l : List (Int × Int)) (env : List Int) (t : Tm) (w : World) (hB : 0 < w.heap.size) (hT : TabAt w) (hV : OpsV w v l) (hE : IntsV w ev env) (ht : endsCode (l.map Prod.fst) = 0 → t.Wf ∧ t.ops = l) :
    Calls Tryz.prog 67 #[v, ev] w fun e w' => e = .returned (.tuple #[.int .i64 (evalN l t env), .int .i64 (evalC l t env)]) ∧ Below w.heap.size w w' := by
  have hb0 := e0_below w
  have heo := eo_any v l env.length t (e0 w) (Nat.lt_of_lt_of_le hB hb0.size) (hT.below hb0 hB) (hV.below hb0) ht
  obtain ⟨eao, ecap, rfl, hEA⟩ := hE.env
  by_cases hx : xcode env.length l t = 0
  · obtain ⟨h0, h6, hops, hg, htt, h60⟩ := xcode_zero hx ht
    subst hops
    obtain ⟨ao, cap, rfl, _, h⟩ := hV
    obtain ⟨b, off, rfl, hlt, hat⟩ := h t.ops_ne
    refine (eval_yes b off _ cap eao _ ecap t env w t.ops_length (by rw [ops_length]; exact h60) rfl (by omega) hg htt hlt hat hEA (heo.mono fun e w' ⟨h1, _, h3⟩ => ⟨h1, ?_⟩)).mono fun e w' ⟨h1, h2⟩ => ⟨?_, h2⟩
    · obtain ⟨B, p1, p2, p3⟩ := h3 hx
      exact ⟨B, p1, p2, p3⟩
    · rw [h1]
      simp only [evalN, evalC, hx, ne_eq, not_true_eq_false, if_false]
      all_goals (cases t.eval env <;> rfl)
  · obtain ⟨ao, cap, rfl, _, h⟩ := hV
    refine (eval_no ao _ cap eao _ ecap _ w hx (heo.mono fun e w' ⟨h1, h2, _⟩ => ⟨h2 hx, h1⟩)).mono fun e w' ⟨h1, h2⟩ => ⟨?_, h2⟩
    rw [h1]
    unfold evalN evalC
    rw [if_pos hx, if_pos hx]
end Go.Proofs.YtnicbkkkecfdpaaGreatDoor

/-
  The contracts of package step's inner functions: holds, withoutRules, doRule.
-/
namespace Go.Proofs.YtnicbkkkecfdpaaGreatDoor
open Go.ChangeShapes Go.WideShapes Go.ChangeAt Go.RowKit Go.Deep
open Terms Tm

set_option maxRecDepth 20000 in
/-- THE CONTRACT OF expr.Eval, in the step's words. -/
theorem ex_any (v ev : Value) (l : List (Int × Int)) (env : List Int) (w : World) (hB : 0 < w.heap.size) (hT : TabAt w) (hV : OpsV w v l) (hE : IntsV w ev env) :
    Calls Tryz.prog 67 #[v, ev] w fun e w' => e = .returned (.tuple #[.int .i64 (exN l env), .int .i64 (exC l env)]) ∧ Below w.heap.size w w' :=
  eval_any v ev l env (treeOf l) w hB hT hV hE (treeOf_spec l)

set_option maxRecDepth 20000 in
set_option maxHeartbeats 800000 in
/-- THE CONTRACT OF holds. -/
theorem sholds_any (v ev : Value) (l : List (Int × Int)) (env : List Int) (w : World) (hB : 0 < w.heap.size) (hT : TabAt w) (hV : OpsV w v l) (hE : IntsV w ev env) :
    Calls Tryz.prog 44 #[v, ev] w fun e w' => e = .returned (.bool (holdsB l env)) ∧ Below w.heap.size w w' := by
  have hx := ex_any v ev l env w hB hT hV hE
  unfold holdsB
  generalize exN l env = n at hx ⊢
  generalize exC l env = c at hx ⊢
  clear hV hE hT
  go_enter Tryz.func44, Tryz.ntmps44
  go_wp2_with (go_at_call 67; refine hx.mono ?_; rintro e w1 ⟨rfl, hb1⟩)
  all_goals go_ret
  all_goals exact ⟨by first | (simp [*]; done) | (simp [*]; by_cases h1 : n = 1 <;> simp [h1]), hb1⟩

set_option maxRecDepth 20000 in
/-- THE CONTRACT OF withoutRules. -/
theorem bare_any (ao ro : Option Addr) (n cap rn rc : Nat) (w : World) :
    Calls Tryz.prog 43 #[.agg #[.slice ao n cap, .slice ro rn rc]] w fun e w' => e = .returned (.agg #[.slice ao n cap, .slice none 0 0]) ∧ Below w.heap.size w w' := by
  go_enter Tryz.func43, Tryz.ntmps43
  go_wp2_with fail
  exact bodyPost_ret (v := .agg #[.slice ao n cap, .slice none 0 0]) (by simp [results, Tryz.results43, go_sem]) rfl ⟨rfl, ((Below.refl _ _).alloc (Nat.le_refl _) _).alloc (by simp) _⟩

set_option maxHeartbeats 3200000 in
set_option maxRecDepth 20000 in
/-- THE CONTRACT OF doRule. -/
theorem doRule_any (va vr gv sv : Value) (B : Nat) (m : Mo) (env : List Int) (r : Ru) (w : World) (hB : 0 < w.heap.size) (hT : TabAt w) (hV : ModelV w va vr m) (hm : mcode m = 0) (hr : rcode m.vars.length r = 0) (he : env.length = m.vars.length)
    (hrow : w.rowIs B 3 env.length (fun j => .int .i64 (env.getD j 0))) (hg : OpsV w gv r.guard) (hs : SetsV w sv r.sets) :
    Calls Tryz.prog 88 #[.agg #[va, vr], .slice (some ⟨B, 0, none⟩) env.length env.length, .agg #[gv, sv]] w fun e w' => e = .returned (.tuple #[.int .i64 (optN (ruleDo m.vars env r)), .int .i64 (optC (ruleDo m.vars env r))]) ∧ Below w.heap.size w w' := by
  obtain ⟨h6, hsv⟩ := rule_sets hr
  have hv6 := (mcode_vars hm).1
  obtain ⟨ao, cap, rfl⟩ := hV.1.shape
  obtain ⟨ro, rc, rfl⟩ := hV.2.shape
  obtain ⟨go, gc, rfl⟩ := hg.shape
  obtain ⟨so, sc, rfl⟩ := hs.shape
  have hA2 : ∀ o o', Below w.heap.size w ((w.alloc o).alloc o') := fun o o' => ((Below.refl _ _).alloc (Nat.le_refl _) o).alloc (by simp) o'
  have hI : IntsV w (.slice (some ⟨B, 0, none⟩) env.length env.length) env := by
    have h1 := intsV_of_row hrow
    have e1 : (List.range env.length).map (fun j => env.getD j 0) = env := by
      apply List.ext_getElem?
      intro i
      by_cases hi : i < env.length
      · simp [hi, List.getD_eq_getElem?_getD]
      · simp [hi]
    rwa [e1] at h1
  have hho := fun w' (hb : Below w.heap.size w w') => sholds_any (.slice go r.guard.length gc) (.slice (some ⟨B, 0, none⟩) env.length env.length) r.guard env w' (Nat.lt_of_lt_of_le hB hb.size) (hT.below hb hB) (hg.below hb) (hI.below hb)
  have hcl := fun w' (hb : Below w.heap.size w w') => clone_any B env w' (by omega) (row_later hrow hb)
  have HEx : Hid (∀ w' (_ : Below w.heap.size w w') v l, OpsV w' v l → Calls Tryz.prog 67 #[v, .slice (some ⟨B, 0, none⟩) env.length env.length] w' fun e w2 => e = .returned (.tuple #[.int .i64 (exN l env), .int .i64 (exC l env)]) ∧ Below w'.heap.size w' w2) := fun w' hb v l hv => ex_any v _ l env w' (Nat.lt_of_lt_of_le hB hb.size) (hT.below hb hB) hv (hI.below hb)
  have HCo : Hid (∀ w' (_ : Below w.heap.size w w') vv vals, IntsV w' vv vals → Calls Tryz.prog 123 #[.agg #[.slice ao m.vars.length cap, .slice none 0 0], vv] w' fun e w2 => e = .returned (.tuple #[.int .i64 (cval ⟨m.vars, []⟩ vals), .int .i64 (ccode ⟨m.vars, []⟩ vals)]) ∧ Below w'.heap.size w' w2) := fun w' hb vv vals hi =>
    mcodes_any _ _ vv ⟨m.vars, []⟩ vals w' (Nat.lt_of_lt_of_le hB hb.size) (hT.below hb hB) ⟨hV.1.below hb, ⟨none, 0, rfl, ⟨by simp, fun _ => ⟨rfl, rfl⟩⟩, fun h => by simp at h⟩⟩ hi
  have HS : Hid (SetsV w (.slice so r.sets.length sc) r.sets) := hs
  have HSV : Hid (∀ j, j < r.sets.length → 0 ≤ (r.sets.getD j st0).var ∧ (r.sets.getD j st0).var < m.vars.length) := hsv
  have HE : Hid (env.length = m.vars.length) := he
  have HM0 : Hid (mcode ⟨m.vars, []⟩ = 0) := mcode_bare hm
  clear hV hT hg hs hsv hm hr hI hrow he
  by_cases hgd : holdsB r.guard env = true
  · rw [hgd] at hho
    go_enter Tryz.func88, Tryz.ntmps88
    go_wp2_with (go_at_call 44; refine (hho _ (hA2 _ _)).mono ?_; rintro e w1 ⟨rfl, hb1⟩; have hbw1 := (hA2 _ _).trans (hb1.mono (hA2 _ _).size))
    have hs1 : w.heap.size + 1 < w1.heap.size := by have := hb1.size; simp at this; omega
    have k10 : w1.cell? ⟨w.heap.size, 0, none⟩ = some (.slice ao m.vars.length cap) := (hb1.cell (p := ⟨w.heap.size, 0, none⟩) (by simp; omega)).trans (by simp [go_sem])
    have k11 : w1.cell? ⟨w.heap.size, 1, none⟩ = some (.slice ro m.rules.length rc) := (hb1.cell (p := ⟨w.heap.size, 1, none⟩) (by simp; omega)).trans (by simp [go_sem])
    have k12 : w1.cell? ⟨w.heap.size + 1, 1, none⟩ = some (.slice so r.sets.length sc) := (hb1.cell (p := ⟨w.heap.size + 1, 1, none⟩) (by simp)).trans (by simp [go_sem])
    have HC1 : Hid (∀ w', Below w1.heap.size w1 w' → w'.cell? ⟨w.heap.size, 0, none⟩ = some (.slice ao m.vars.length cap) ∧ w'.cell? ⟨w.heap.size, 1, none⟩ = some (.slice ro m.rules.length rc) ∧ w'.cell? ⟨w.heap.size + 1, 1, none⟩ = some (.slice so r.sets.length sc)) := fun w' hb => ⟨(hb.cell (p := ⟨w.heap.size, 0, none⟩) (by simp only; omega)).trans k10, (hb.cell (p := ⟨w.heap.size, 1, none⟩) (by simp only; omega)).trans k11, (hb.cell (p := ⟨w.heap.size + 1, 1, none⟩) hs1).trans k12⟩
    have HBW1 : Hid (Below w.heap.size w w1) := hbw1
    have hcl1 := hcl w1 hbw1
    clear hho hcl hb1 hbw1
    go_wp2_with (go_at_call 122; refine hcl1.mono ?_; rintro e w2 ⟨g, gcap, rfl, hgl, hb2, ho2⟩; obtain ⟨k20, k21, k22⟩ := HC1.out w2 hb2)
    have HO2 : Hid (w2.ownsRow w1.heap.size 3 1 (.slice (some ⟨g, 0, none⟩) env.length gcap) env.length (ivals env)) := ho2
    have HB2 : Hid (Below w1.heap.size w1 w2) := hb2
    have HRS : Hid (∀ j, j < r.sets.length → exC (r.sets.getD j st0).val env ≠ 0 → ruleDo m.vars env r = none) := fun j hj h => ruleDo_set hj h
    have HRC : Hid (setsOk env r → (ccode ⟨m.vars, []⟩ (behindL env r) = 0 → ruleDo m.vars env r = some (cval ⟨m.vars, []⟩ (behindL env r))) ∧ (ccode ⟨m.vars, []⟩ (behindL env r) ≠ 0 → ruleDo m.vars env r = none)) := fun h => ruleDo_code hgd h HE.out HM0.out rfl
    have HBL : Hid (behindL env r = setTo env r.sets r.sets.length) := rfl
    obtain ⟨sn, hsn⟩ : ∃ sn, sn = r.sets.length := ⟨_, rfl⟩
    have HSN : Hid (sn = r.sets.length) := hsn
    rw [← hsn] at h6 HS HC1 k22 ⊢
    obtain ⟨res, hres⟩ : ∃ res, ruleDo m.vars env r = res := ⟨_, rfl⟩
    rw [hres] at HRS HRC
    have HRes : Hid (ruleDo m.vars env r = res) := hres
    clear hcl1 ho2 hb2 hsn hres hgd
    go_loopw [25] (fun i wr => ∃ k : Nat, k ≤ sn ∧ i = .int .i64 k ∧ Hid (∀ j, j < k → exC (r.sets.getD j st0).val env = 0) ∧ Hid (wr.ownsRow w1.heap.size 3 1 (.slice (some ⟨g, 0, none⟩) env.length gcap) env.length (ivals (setTo env r.sets k))) ∧ Hid (Below w1.heap.size w1 wr)) (fun i _ => sn - (intOf i).toNat)
    case atStart => exact ⟨0, Nat.zero_le _, rfl, fun j hj => by omega, HO2.out, HB2.out⟩
    case round =>
      obtain ⟨k, hk, rfl, HOK, HOwn, HBel⟩ := hrel
      have hbel := HBel.out
      have hbw := HBW1.out.trans (hbel.mono HBW1.out.size)
      obtain ⟨kr0, kr1, kr2⟩ := HC1.out wr hbel
      by_cases hlt : k < sn
      · obtain ⟨b, off, rfl, hblt, hat⟩ := HS.out.at (i := k) (by rw [← HSN.out]; exact hlt)
        obtain ⟨c0, u, c1, hou⟩ := hat.below hbw hblt
        obtain ⟨uo, uc, rfl⟩ := hou.shape
        have HSk := HSV.out k (by rw [← HSN.out]; exact hlt)
        have HRk : Hid (exC (r.sets.getD k st0).val env ≠ 0 → res = none) := HRS.out k (by rw [← HSN.out]; exact hlt)
        have HStep : Hid (setTo env r.sets (k + 1) = (setTo env r.sets k).set (r.sets.getD k st0).var.toNat (exN (r.sets.getD k st0).val env)) := rfl
        have HOK2 : Hid (exC (r.sets.getD k st0).val env = 0 → ∀ j, j < k + 1 → exC (r.sets.getD j st0).val env = 0) := fun h j hj => by
          by_cases hjk : j = k
          · subst hjk; exact h
          · exact HOK.out j (by omega)
        have hAr : ∀ o, Below w.heap.size w (wr.alloc o) := fun o => hbw.alloc hbw.size o
        have hex := fun o => HEx.out (wr.alloc o) (hAr o) _ _ (hou.below ((Below.refl _ _).alloc (Nat.le_refl _) o))
        obtain ⟨hv0, hv1⟩ := HSk
        obtain ⟨vn, hvn⟩ : ∃ vn : Nat, (r.sets.getD k st0).var = vn := ⟨(r.sets.getD k st0).var.toNat, by omega⟩
        rw [hvn] at hv0 hv1 c0 HStep
        rw [Int.toNat_natCast] at HStep
        have hvn2 : vn < env.length := by rw [HE.out]; omega
        generalize exN (r.sets.getD k st0).val env = N at hex HStep
        generalize exC (r.sets.getD k st0).val env = C at hex HRk HOK2
        generalize (r.sets.getD k st0).val.length = ul at hex c1 hou
        have HBr : Hid (∀ o w4, Below (wr.alloc o).heap.size (wr.alloc o) w4 → Below w1.heap.size w1 w4 ∧ w4.ownsRow w1.heap.size 3 1 (.slice (some ⟨g, 0, none⟩) env.length gcap) env.length (ivals (setTo env r.sets k)) ∧ w4.cell? ⟨wr.heap.size, 0, none⟩ = (wr.alloc o).cell? ⟨wr.heap.size, 0, none⟩) := fun o w4 hb =>
          ⟨(hbel.alloc hbel.size o).trans (hb.mono (hbel.alloc hbel.size o).size), owns_later (owns_later HOwn.out ((Below.refl _ _).alloc (Nat.le_refl _) o) (Nat.le_refl _)) hb (Nat.le_refl _), hb.cell (p := ⟨wr.heap.size, 0, none⟩) (by simp)⟩
        clear hat hou hvn hAr HRS HEx HCo HS HSV HRC kr0 kr1 kr2 k20 k21 k22 k10 k11 k12 hbel hbw
        by_cases hC : C = 0
        · subst hC
          go_wp2_with (go_at_call 67; refine (hex _).mono ?_; rintro e w4 ⟨rfl, hb4⟩; obtain ⟨hb14, ho4, hcv⟩ := HBr.out _ w4 hb4; have hcell := ho4.cellAt vn (by omega); rw [show (ivals (setTo env r.sets k))[vn]? = some (.int .i64 ((setTo env r.sets k).getD vn 0)) by simp [ivals, List.getD_eq_getElem?_getD, setTo_length, hvn2]] at hcell; have hfz := ho4.frozenAt vn; have hcv2 : w4.cell? ⟨wr.heap.size, 0, none⟩ = some (.int .i64 vn) := (by rw [hcv]; simp [go_sem]))
          refine ⟨⟨k + 1, hlt, by first | rfl | simp, HOK2.out trivial, ?_, hb14.setCell hgl _⟩, by simp [intOf]; omega⟩
          have hst := (ho4.stored vn (.int .i64 N)).1
          rw [show (ivals (setTo env r.sets k)).set vn (.int .i64 N) = ivals (setTo env r.sets (k + 1)) by rw [HStep.out]; simp [ivals, List.map_set]] at hst
          exact hst
        · have HRN : Hid (res = none) := HRk.out hC
          go_wp2_with (go_at_call 67; refine (hex _).mono ?_; rintro e w4 ⟨rfl, hb4⟩; obtain ⟨hb14, ho4, hcv⟩ := HBr.out _ w4 hb4)
          go_ret2
          exact ⟨by rw [HRes.out, HRN.out]; rfl, HBW1.out.trans (hb14.mono HBW1.out.size)⟩
      · have hkn : k = sn := by omega
        subst hkn
        have hbe : behindL env r = setTo env r.sets k := by rw [HBL.out, HSN.out]
        have hrc := HRC.out (fun j hj => HOK.out j (by rw [HSN.out]; exact hj))
        have ho := HOwn.out
        rw [← hbe] at ho
        have hlb : (behindL env r).length = env.length := by rw [hbe, setTo_length]
        rw [← hlb] at ho
        have hba := bare_any ao ro m.vars.length cap m.rules.length rc wr
        have HI : Hid (∀ w', Below wr.heap.size wr w' → IntsV w' (.slice (some ⟨g, 0, none⟩) (behindL env r).length gcap) (behindL env r)) := fun w' hb => (intsV_of_owns ho).below hb
        rw [hlb] at HI
        have hco := fun w' (hb : Below wr.heap.size wr w') => HCo.out w' (hbw.trans (hb.mono hbw.size)) _ _ (HI.out w' hb)
        have HBWr : Hid (Below w.heap.size w wr) := hbw
        generalize cval ⟨m.vars, []⟩ (behindL env r) = cv at hco hrc
        generalize ccode ⟨m.vars, []⟩ (behindL env r) = cc at hco hrc
        obtain ⟨hrc0, hrc1⟩ := hrc
        clear hbe ho hlb HI HRC HRS HEx HCo HS HSV k20 k21 k22 k10 k11 k12 hbel hbw hlt hk HOK HOwn
        by_cases hcc : cc = 0
        · have hrn := hrc0 hcc
          subst hcc
          have HRN : Hid (res = some cv) := hrn
          clear hrc0 hrc1 hrn
          go_wp2_with (first | (go_at_call 43; refine hba.mono ?_; rintro e w5 ⟨rfl, hb5⟩) | (go_at_call 123; refine (hco _ hb5).mono ?_; rintro e w6 ⟨rfl, hb6⟩))
          go_ret2
          exact ⟨by rw [HRes.out, HRN.out]; rfl, HBWr.out.trans ((hb5.trans (hb6.mono hb5.size)).mono HBWr.out.size)⟩
        · have HRN : Hid (res = none) := hrc1 hcc
          clear hrc0 hrc1
          go_wp2_with (first | (go_at_call 43; refine hba.mono ?_; rintro e w5 ⟨rfl, hb5⟩) | (go_at_call 123; refine (hco _ hb5).mono ?_; rintro e w6 ⟨rfl, hb6⟩))
          go_ret2
          exact ⟨by rw [HRes.out, HRN.out]; rfl, HBWr.out.trans ((hb5.trans (hb6.mono hb5.size)).mono HBWr.out.size)⟩
  · have hgd2 : holdsB r.guard env = false := by simpa using hgd
    rw [hgd2] at hho
    rw [ruleDo_guard hgd2]
    go_enter Tryz.func88, Tryz.ntmps88
    go_wp2_with (go_at_call 44; refine (hho _ (hA2 _ _)).mono ?_; rintro e w1 ⟨rfl, hb1⟩)
    go_ret2
    exact ⟨rfl, (hA2 _ _).trans (hb1.mono (hA2 _ _).size)⟩
end Go.Proofs.YtnicbkkkecfdpaaGreatDoor

/-
  The contract of the program's Values.
-/
namespace Go.Proofs.YtnicbkkkecfdpaaGreatDoor
open Go.ChangeShapes Go.WideShapes Go.ChangeAt Go.RowKit Go.Deep
open Terms Tm

set_option maxRecDepth 20000 in
set_option maxHeartbeats 1600000 in
theorem mvalues_loop (va vr : Value) (m : Mo) (code : Int) (w : World) (hB : 0 < w.heap.size) (hT : TabAt w) (hV : ModelV w va vr m) (h : mcode m = 0) (hc : 0 ≤ code ∧ code < prodTo m.vars m.vars.length) :
    Calls Tryz.prog 42 #[.agg #[va, vr], .int .i64 code] w fun e w' => ∃ B, e = .returned (.tuple #[.slice (some ⟨B, 0, none⟩) m.vars.length m.vars.length, .int .i64 0]) ∧ w.heap.size ≤ B ∧ Below w.heap.size w w' ∧ w'.rowIs B 3 m.vars.length (fun j => .int .i64 (valAt m.vars code j)) := by
  have hA : ∀ o, Below w.heap.size w (w.alloc o) := fun o => (Below.refl _ _).alloc (Nat.le_refl _) o
  have hch := fun o => mcheck_any va vr m (w.alloc o) (Nat.lt_of_lt_of_le hB (hA o).size) (hT.below (hA o) hB) (hV.below (hA o))
  rw [h] at hch
  have hok := mcode_vars h
  have HOK : Hid (VarsOk m.vars) := hok
  have h6 := hok.1
  have hcf := (fun w1 (hb : Below w.heap.size w w1) => countOf_any va m.vars w1 hok (hV.1.below hb))
  obtain ⟨ao, cap, rfl⟩ := hV.1.shape
  obtain ⟨ro, rc, rfl⟩ := hV.2.shape
  have HV : Hid (VarsV w (.slice ao m.vars.length cap) m.vars) := hV.1
  have hN := hok.prod (j := m.vars.length) (Nat.le_refl _)
  have HS0 : Hid (segP m.vars m.vars.length = 1) := segP_end _
  obtain ⟨hc1, hc2⟩ := hc
  generalize prodTo m.vars m.vars.length = N at *
  obtain ⟨n, hn⟩ : ∃ n, n = m.vars.length := ⟨_, rfl⟩
  have HN : Hid (n = m.vars.length) := hn
  rw [← hn] at h6 hch hcf HV HS0 ⊢
  generalize m.rules.length = rn at *
  have hmk := run_make_row' (P := Tryz.prog) 30 3 (.int .i64 0) 8 Tryz.underlying30 infoInt rfl .i64 .i64 n (by omega) (by omega)
  clear hV hT hn hok h
  go_enter Tryz.func42, Tryz.ntmps42
  go_wp2_with (first | (go_at_call 35; refine (hch _).mono ?_; rintro e w1 ⟨rfl, hb1⟩; have hcb : w1.cell? ⟨w.heap.size, 0, none⟩ = some (.slice ao n cap) := (hb1.cell (p := ⟨w.heap.size, 0, none⟩) (by simp)).trans (by simp [go_sem]); have hbw := (hA _).trans (hb1.mono (hA _).size); have hs1 : w.heap.size < w1.heap.size := (by have := hb1.size; simp at this; omega)) | (go_at_call 66; refine (hcf _ hbw).mono ?_; rintro e w2 ⟨rfl, hb2⟩; have hcb2 := (hb2.cell (p := ⟨w.heap.size, 0, none⟩) hs1).trans hcb))
  have hbw2 := hbw.trans (hb2.mono hbw.size)
  have hrow0 := World.rowIs_made w2 (.int .i64 0) n 3
  have hs2 := Nat.lt_of_lt_of_le hs1 hb2.size
  have HB2 : Hid (Below w.heap.size w w2) := hbw2
  have hcb3 := hcb2
  clear hch hcf hmk hb1 hb2 hcb hbw hs1 hbw2 hcb2
  go_loopw [1, 8] (fun cd i wr => ∃ k : Nat, k ≤ n ∧ i = .int .i64 ((k : Int) - 1) ∧ cd = .int .i64 (code / segP m.vars k) ∧ Hid (wr.rowIs w2.heap.size 3 n (fun j => if k ≤ j then .int .i64 (valAt m.vars code j) else .int .i64 0)) ∧ Hid (Below w2.heap.size w2 wr)) (fun _ i _ => (intOf i + 1).toNat)
  case atStart => exact ⟨n, Nat.le_refl _, by first | rfl | go_num, by rw [HS0.out]; simp, hrow0.congr (fun i hi => by rw [if_neg (by omega)]), (Below.refl _ _).alloc (Nat.le_refl _) _⟩
  case round =>
    obtain ⟨k, hk, rfl, rfl, HRow, HBel⟩ := hrel
    have hbel := HBel.out
    have hrow := HRow.out
    have hbw := HB2.out.trans (hbel.mono HB2.out.size)
    have hszr := hrow.lt
    have cb := (hbel.cell (p := ⟨w.heap.size, 0, none⟩) hs2).trans hcb3
    by_cases hk0 : 0 < k
    · obtain ⟨k, rfl⟩ : ∃ k', k = k' + 1 := ⟨k - 1, by omega⟩
      rw [show (((k + 1 : Nat) : Int) - 1) = (k : Int) by omega]
      have hlt : k < n := by omega
      obtain ⟨b, off, rfl, hblt, hat⟩ := HV.out.at (i := k) (by rw [← HN.out]; exact hlt)
      obtain ⟨c0, c1, c2, c3⟩ := hat.below hbw hblt
      have hvb := HOK.out.at (j := k) (by rw [← HN.out]; exact hlt)
      have hsg := segP_bounds HOK.out (i := k + 1) (by rw [← HN.out]; exact hlt)
      have HQ : Hid (code / segP m.vars (k + 1) / vspan (m.vars.getD k vr0) = code / segP m.vars k) := quo_step HOK.out code (by rw [← HN.out]; exact hlt)
      have HVa : Hid (valAt m.vars code k = (m.vars.getD k vr0).lo + (code / segP m.vars (k + 1)) % vspan (m.vars.getD k vr0)) := rfl
      have hq0 : 0 ≤ code / segP m.vars (k + 1) := Int.ediv_nonneg hc1 (by omega)
      have hq1 : code / segP m.vars (k + 1) ≤ 4096 := by
        have := Int.ediv_le_self (segP m.vars (k + 1)) hc1; omega
      have hf : wr.frozen? ⟨w2.heap.size, k, none⟩ = false := hrow.frozen k
      have hcl : wr.cell? ⟨w2.heap.size, k, none⟩ = some (.int .i64 0) := by rw [hrow.cell hlt, if_neg (by omega)]
      generalize code / segP m.vars (k + 1) = cd at *
      generalize m.vars.getD k vr0 = x at *
      obtain ⟨s, lo, hi, ini⟩ := x
      simp only [vspan] at c0 c1 c2 c3 HQ HVa hvb
      obtain ⟨hv1, hv2, hv3, hv4, hv5, hv6, hv7⟩ := hvb
      have hsp := fun w => span_any s lo hi ini w hv3 hv4 hv5
      obtain ⟨sp, hspe⟩ : ∃ sp, hi - lo + 1 = sp := ⟨_, rfl⟩
      rw [hspe] at hv1 hv2 hsp HQ HVa
      clear hspe hat
      have hr0 := Int.emod_nonneg cd (show sp ≠ 0 by omega)
      have hr1 := Int.emod_lt_of_pos cd (show 0 < sp by omega)
      have hi0 : (0 : Int) ≤ (k : Int) := Int.natCast_nonneg _
      have hi1 : (k : Int) < (n : Int) := by omega
      have hsz0 : ¬ sp = 0 := by omega
      have hsz1 : (sp == 0) = false := by rw [beq_eq_false_iff_ne]; omega
      have ht : cd.tmod sp = cd % sp := Int.tmod_eq_emod_of_nonneg hq0
      have htd : cd.tdiv sp = cd / sp := Int.tdiv_eq_ediv_of_nonneg hq0
      have hd0 := Int.ediv_nonneg hq0 (show 0 ≤ sp by omega)
      have hd1 := Int.ediv_le_self sp hq0
      have hw0 : IntKind.i64.wrap (cd % sp) = cd % sp := wr64 (by omega) (by omega)
      have hw1 : IntKind.i64.wrap (lo + cd % sp) = lo + cd % sp := wr64 (by omega) (by omega)
      have hbA := hbel.alloc (Nat.le_of_lt hszr) (.cells #[.string s, .int .i64 lo, .int .i64 hi, .int .i64 ini] 76)
      have HBA := (show Hid _ from hbA)
      have hfA := hrow.alloc (.cells #[.string s, .int .i64 lo, .int .i64 hi, .int .i64 ini] 76)
      have HRA := (show Hid _ from hfA)
      have hS0 : ∀ w', Below (wr.heap.size + 1) (wr.alloc (.cells #[.string s, .int .i64 lo, .int .i64 hi, .int .i64 ini] 76)) w' → w'.cell? ⟨wr.heap.size, 0, none⟩ = some (.string s) ∧ w'.cell? ⟨wr.heap.size, 1, none⟩ = some (.int .i64 lo) ∧ w'.cell? ⟨wr.heap.size, 2, none⟩ = some (.int .i64 hi) ∧ w'.cell? ⟨wr.heap.size, 3, none⟩ = some (.int .i64 ini) := fun w' hw' =>
        ⟨(hw'.cell (p := ⟨wr.heap.size, 0, none⟩) (by simp)).trans (by simp [go_sem]), (hw'.cell (p := ⟨wr.heap.size, 1, none⟩) (by simp)).trans (by simp [go_sem]), (hw'.cell (p := ⟨wr.heap.size, 2, none⟩) (by simp)).trans (by simp [go_sem]), (hw'.cell (p := ⟨wr.heap.size, 3, none⟩) (by simp)).trans (by simp [go_sem])⟩
      have hne : ∀ j : Nat, (⟨wr.heap.size, j, none⟩ : Addr) ≠ ⟨w2.heap.size, k, none⟩ := fun j h => by injection h with h1; omega
      have hS1 : ∀ w' v, Below (wr.heap.size + 1) (wr.alloc (.cells #[.string s, .int .i64 lo, .int .i64 hi, .int .i64 ini] 76)) w' → (w'.setCell ⟨w2.heap.size, k, none⟩ v).cell? ⟨wr.heap.size, 0, none⟩ = some (.string s) ∧ (w'.setCell ⟨w2.heap.size, k, none⟩ v).cell? ⟨wr.heap.size, 1, none⟩ = some (.int .i64 lo) ∧ (w'.setCell ⟨w2.heap.size, k, none⟩ v).cell? ⟨wr.heap.size, 2, none⟩ = some (.int .i64 hi) ∧ (w'.setCell ⟨w2.heap.size, k, none⟩ v).cell? ⟨wr.heap.size, 3, none⟩ = some (.int .i64 ini) := fun w' v hw' => by
        obtain ⟨a0, a1, a2, a3⟩ := hS0 w' hw'
        exact ⟨(World.cell?_setCell_other _ _ _ _ (hne 0).symm).trans a0, (World.cell?_setCell_other _ _ _ _ (hne 1).symm).trans a1, (World.cell?_setCell_other _ _ _ _ (hne 2).symm).trans a2, (World.cell?_setCell_other _ _ _ _ (hne 3).symm).trans a3⟩
      have hB0 : Below (wr.heap.size + 1) (wr.alloc (.cells #[.string s, .int .i64 lo, .int .i64 hi, .int .i64 ini] 76)) (wr.alloc (.cells #[.string s, .int .i64 lo, .int .i64 hi, .int .i64 ini] 76)).drew := (Below.refl _ _).drew
      have hrw := fun w' (hw' : Below (wr.heap.size + 1) (wr.alloc (.cells #[.string s, .int .i64 lo, .int .i64 hi, .int .i64 ini] 76)) w') => hfA.of_block (hw'.block w2.heap.size (by omega))
      have hcf3 : ∀ w', Below (wr.heap.size + 1) (wr.alloc (.cells #[.string s, .int .i64 lo, .int .i64 hi, .int .i64 ini] 76)) w' → w'.frozen? ⟨w2.heap.size, k, none⟩ = false ∧ w'.cell? ⟨w2.heap.size, k, none⟩ = some (.int .i64 0) := fun w' hw' => ⟨(hrw w' hw').frozen k, by rw [(hrw w' hw').cell hlt, if_neg (by omega)]⟩
      have HRw := (show Hid _ from hrw)
      clear hfA hbA hrw hbel hrow hbw
      go_wp2_with fail
      go_region_held3 (fun w' => w'.cell? ⟨wr.heap.size, 0, none⟩ = some (.string s) ∧ w'.cell? ⟨wr.heap.size, 1, none⟩ = some (.int .i64 lo) ∧ w'.cell? ⟨wr.heap.size, 2, none⟩ = some (.int .i64 hi) ∧ w'.cell? ⟨wr.heap.size, 3, none⟩ = some (.int .i64 ini))
        (first | exact hS0 _ hB0 | exact hS0 _ (hB0.trans (hb3.mono (by simp))) | exact hS1 _ _ (hB0.trans (hb3.mono (by simp))))
        (first | (go_at_call 63; refine (hsp _).mono ?_; rintro e w3 ⟨rfl, hb3⟩; obtain ⟨hf3, hc3⟩ := hcf3 _ (hB0.trans (hb3.mono (by simp)))))
      have hB3 := hB0.trans (hb3.mono (by simp))
      obtain ⟨e0, e1, e2, e3⟩ := hS1 w3 (.int .i64 (lo + cd % sp)) hB3
      have hs3 : wr.heap.size < w3.heap.size := by have := hb3.size; simp at this; omega
      have hrow4 : ∀ w4, Below w3.heap.size (w3.setCell ⟨w2.heap.size, k, none⟩ (.int .i64 (lo + cd % sp))) w4 → w4.rowIs w2.heap.size 3 n (fun j => if k ≤ j then .int .i64 (valAt m.vars code j) else .int .i64 0) ∧ Below w2.heap.size w2 w4 := fun w4 h4 => by
        refine ⟨(((HRw.out w3 hB3).set k (.int .i64 (lo + cd % sp))).of_block (h4.block w2.heap.size (by omega))).congr fun j hj => ?_, ?_⟩
        · by_cases hjk : j = k
          · subst hjk; rw [if_pos rfl, if_pos (Nat.le_refl _), HVa.out]
          · rw [if_neg hjk]
            by_cases hkj : k + 1 ≤ j
            · rw [if_pos hkj, if_pos (by omega)]
            · rw [if_neg hkj, if_neg (by omega)]
        · exact ((HBA.out.trans (hB3.mono (by omega))).setCell (by simp) _).trans (h4.mono (by omega))
      have HR4 := (show Hid _ from hrow4)
      clear hrow4 hf hcl hf3 hc3 hcf3 hS0 hS1
      go_wp2_with (go_at_call 63; refine (hsp _).mono ?_; rintro e w4 ⟨rfl, hb4⟩)
      have hb4' : Below w3.heap.size (w3.setCell ⟨w2.heap.size, k, none⟩ (.int .i64 (lo + cd % sp))) w4 := hb4.mono (by simp)
      go_roundw
      case rel => exact ⟨k, by omega, by first | rfl | go_num, by rw [← HQ.out], (HR4.out _ hb4').1, (HR4.out _ hb4').2⟩
      case measure => simp [intOf]
    · have hk0 : k = 0 := by omega
      subst hk0
      go_wp2
      go_ret2
      exact ⟨w2.heap.size, rfl, HB2.out.size, hbw, hrow.congr (fun i hi => by rw [if_pos (by omega)])⟩
set_option maxRecDepth 20000 in
theorem mvalues_bad (va vr : Value) (m : Mo) (code : Int) (w : World) (hB : 0 < w.heap.size) (hT : TabAt w) (hV : ModelV w va vr m) (h : mcode m ≠ 0) :
    Calls Tryz.prog 42 #[.agg #[va, vr], .int .i64 code] w fun e w' => e = .returned (.tuple #[.slice none 0 0, .int .i64 (mcode m)]) ∧ Below w.heap.size w w' := by
  have hA : ∀ o, Below w.heap.size w (w.alloc o) := fun o => (Below.refl _ _).alloc (Nat.le_refl _) o
  have hch := fun o => mcheck_any va vr m (w.alloc o) (Nat.lt_of_lt_of_le hB (hA o).size) (hT.below (hA o) hB) (hV.below (hA o))
  obtain ⟨ao, cap, rfl⟩ := hV.1.shape
  obtain ⟨ro, rc, rfl⟩ := hV.2.shape
  generalize mcode m = x at *
  generalize m.vars.length = n at *
  generalize m.rules.length = rn at *
  clear hV hT
  go_enter Tryz.func42, Tryz.ntmps42
  go_wp2_with (go_at_call 35; refine (hch _).mono ?_; rintro e w1 ⟨rfl, hb1⟩)
  go_ret2
  exact ⟨rfl, (hA _).trans (hb1.mono (hA _).size)⟩
set_option maxRecDepth 20000 in
theorem mvalues_no (va vr : Value) (m : Mo) (code : Int) (w : World) (hB : 0 < w.heap.size) (hT : TabAt w) (hV : ModelV w va vr m) (h : mcode m = 0) (hc : ¬ (0 ≤ code ∧ code < prodTo m.vars m.vars.length)) :
    Calls Tryz.prog 42 #[.agg #[va, vr], .int .i64 code] w fun e w' => e = .returned (.tuple #[.slice none 0 0, .int .i64 9]) ∧ Below w.heap.size w w' := by
  have hA : ∀ o, Below w.heap.size w (w.alloc o) := fun o => (Below.refl _ _).alloc (Nat.le_refl _) o
  have hch := fun o => mcheck_any va vr m (w.alloc o) (Nat.lt_of_lt_of_le hB (hA o).size) (hT.below (hA o) hB) (hV.below (hA o))
  rw [h] at hch
  have hok := mcode_vars h
  have hcf := (fun w1 (hb : Below w.heap.size w w1) => countOf_any va m.vars w1 hok (hV.1.below hb))
  obtain ⟨ao, cap, rfl⟩ := hV.1.shape
  obtain ⟨ro, rc, rfl⟩ := hV.2.shape
  have hN := hok.prod (j := m.vars.length) (Nat.le_refl _)
  generalize prodTo m.vars m.vars.length = N at *
  generalize m.vars.length = n at *
  generalize m.rules.length = rn at *
  clear hV hT hok h
  by_cases h0 : code < 0
  · clear hc
    go_enter Tryz.func42, Tryz.ntmps42
    go_wp2_with (go_at_call 35; refine (hch _).mono ?_; rintro e w1 ⟨rfl, hb1⟩)
    go_ret2
    exact ⟨rfl, (hA _).trans (hb1.mono (hA _).size)⟩
  · have h1 : N ≤ code := by omega
    clear hc
    go_enter Tryz.func42, Tryz.ntmps42
    go_wp2_with (first | (go_at_call 35; refine (hch _).mono ?_; rintro e w1 ⟨rfl, hb1⟩; have hcb : w1.cell? ⟨w.heap.size, 0, none⟩ = some (.slice ao n cap) := (hb1.cell (p := ⟨w.heap.size, 0, none⟩) (by simp)).trans (by simp [go_sem]); have hbw := (hA _).trans (hb1.mono (hA _).size)) | (go_at_call 66; refine (hcf _ hbw).mono ?_; rintro e w2 ⟨rfl, hb2⟩))
    go_ret2
    exact ⟨rfl, hbw.trans (hb2.mono hbw.size)⟩

set_option maxRecDepth 20000 in
/-- THE CONTRACT OF Values. -/
theorem mvalues_any (va vr : Value) (m : Mo) (code : Int) (w : World) (hB : 0 < w.heap.size) (hT : TabAt w) (hV : ModelV w va vr m) :
    Calls Tryz.prog 42 #[.agg #[va, vr], .int .i64 code] w fun e w' => ∃ v, e = .returned (.tuple #[v, .int .i64 (wcode m code)]) ∧ Below w.heap.size w w' ∧ IntsV w' v (wvals m code) := by
  by_cases h : mcode m = 0
  · by_cases hc : 0 ≤ code ∧ code < prodTo m.vars m.vars.length
    · have h0 := wcode_yes h hc
      unfold wvals
      rw [h0, if_pos rfl]
      exact (mvalues_loop va vr m code w hB hT hV h hc).mono fun e w' ⟨B, he, _, hb, hr⟩ => ⟨_, he, hb, intsV_of_row hr⟩
    · have h0 := wcode_no h hc
      unfold wvals
      rw [h0, if_neg (by decide)]
      exact (mvalues_no va vr m code w hB hT hV h hc).mono fun e w' ⟨he, hb⟩ => ⟨_, he, hb, none, 0, rfl, fun h => absurd rfl h⟩
  · have h0 := wcode_bad (code := code) h
    unfold wvals
    rw [h0, if_neg h]
    exact (mvalues_bad va vr m code w hB hT hV h).mono fun e w' ⟨he, hb⟩ => ⟨_, he, hb, none, 0, rfl, fun h => absurd rfl h⟩
end Go.Proofs.YtnicbkkkecfdpaaGreatDoor

/-
  The contract of step.After.
-/
namespace Go.Proofs.YtnicbkkkecfdpaaGreatDoor
open Go.ChangeShapes Go.WideShapes Go.ChangeAt Go.RowKit Go.Deep
open Terms Tm

/-- what After answers. -/
noncomputable def aftN (m : Mo) (code rule : Int) : Int := if wcode m code = 0 then (if 0 ≤ rule ∧ rule < m.rules.length then optN (ruleDo m.vars (valsL m.vars code) (m.rules.getD rule.toNat ru0)) else 0) else 0
noncomputable def aftC (m : Mo) (code rule : Int) : Int := if wcode m code = 0 then (if 0 ≤ rule ∧ rule < m.rules.length then optC (ruleDo m.vars (valsL m.vars code) (m.rules.getD rule.toNat ru0)) else 2) else wcode m code
set_option maxRecDepth 20000 in
theorem wcode_zero {m : Mo} {code : Int} (h : wcode m code = 0) : mcode m = 0 ∧ 0 ≤ code ∧ code < prodTo m.vars m.vars.length := by
  unfold wcode at h
  split at h
  · rename_i h1
    split at h
    · rename_i h2; exact ⟨h1, h2⟩
    · cases h
  · rename_i h1; exact absurd h h1
set_option maxRecDepth 20000 in
/-- THE CONTRACT OF Values, where there are some: a block of their own. -/
theorem svalues_any (va vr : Value) (m : Mo) (code : Int) (w : World) (hB : 0 < w.heap.size) (hT : TabAt w) (hV : ModelV w va vr m) (h : wcode m code = 0) :
    Calls Tryz.prog 42 #[.agg #[va, vr], .int .i64 code] w fun e w' => ∃ B, e = .returned (.tuple #[.slice (some ⟨B, 0, none⟩) (valsL m.vars code).length (valsL m.vars code).length, .int .i64 0]) ∧ w.heap.size ≤ B ∧ Below w.heap.size w w' ∧ w'.rowIs B 3 (valsL m.vars code).length (fun j => .int .i64 ((valsL m.vars code).getD j 0)) := by
  obtain ⟨h1, h2⟩ := wcode_zero h
  refine (mvalues_loop va vr m code w hB hT hV h1 h2).mono fun e w' ⟨B, he, hl, hb, hr⟩ => ?_
  rw [← valsL_length m.vars code] at he hr
  refine ⟨B, he, hl, hb, hr.congr fun j hj => ?_⟩
  rw [valsL_length] at hj
  simp [valsL, List.getD_eq_getElem?_getD, hj]

end Go.Proofs.YtnicbkkkecfdpaaGreatDoor

/-
  Slices of truths; the contract of the laws' own sameTruths.
-/
namespace Go.Proofs.YtnicbkkkecfdpaaGreatDoor
open Go.ChangeShapes Go.WideShapes Go.ChangeAt Go.RowKit Go.Deep
open Terms

set_option maxRecDepth 20000 in
theorem infoBool : (Tryz.prog.info? 4).map (fun i => (i.zero, i.size, i.bytes)) = some (some (.bool false), 1, 1) := by kernel_rfl
/-- a slice of truths. -/
def BoolsAt (w : World) (b off : Nat) (l : List Bool) : Prop := ∀ i, i < l.length → w.cell? ⟨b, off + i, none⟩ = some (.bool (l.getD i false))
def BoolsV (w : World) (v : Value) (l : List Bool) : Prop := ∃ ao cap, v = .slice ao l.length cap ∧ (l ≠ [] → ∃ b off, ao = some ⟨b, off, none⟩ ∧ b < w.heap.size ∧ BoolsAt w b off l)
set_option maxRecDepth 20000 in
theorem BoolsV.below {w w' : World} {v : Value} {l : List Bool} (h : BoolsV w v l) (hb : Below w.heap.size w w') : BoolsV w' v l := by
  obtain ⟨ao, cap, rfl, h⟩ := h
  refine ⟨ao, cap, rfl, fun hne => ?_⟩
  obtain ⟨b, off, rfl, hlt, hat⟩ := h hne
  exact ⟨b, off, rfl, Nat.lt_of_lt_of_le hlt hb.size, fun i hi => (hb.cell (p := ⟨b, _, none⟩) hlt).trans (hat i hi)⟩
def bvals (l : List Bool) : List Value := l.map fun x => .bool x
set_option maxRecDepth 20000 in
theorem boolsV_of_owns {w : World} {base : Nat} {v : Value} {l : List Bool} (h : w.ownsRow base 4 1 v l.length (bvals l)) : BoolsV w v l := by
  rcases h.2 with ⟨rfl, h0⟩ | ⟨g, cap, cur, rfl, hb, hg, hnc, hcm, hcs, htake⟩
  · have : l = [] := by simpa using h0
    subst this
    exact ⟨none, 0, rfl, fun h => absurd rfl h⟩
  · refine ⟨_, cap, rfl, fun _ => ⟨g, 0, rfl, (Array.getElem?_eq_some_iff.1 hg).1, fun i hi => ?_⟩⟩
    rw [Nat.zero_add, h.cellAt i (by omega)]
    simp [bvals, List.getD_eq_getElem?_getD, hi]
set_option maxRecDepth 20000 in
theorem boolsV_of_row {w : World} {B : Nat} {l : List Bool} (h : w.rowIs B 4 l.length (fun j => .bool (l.getD j false))) : BoolsV w (.slice (some ⟨B, 0, none⟩) l.length l.length) l :=
  ⟨some ⟨B, 0, none⟩, l.length, rfl, fun _ => ⟨B, 0, rfl, h.lt, fun i hi => by rw [Nat.zero_add, h.cell hi]⟩⟩

end Go.Proofs.YtnicbkkkecfdpaaGreatDoor

/-
  The contract of step.Letter.
-/
namespace Go.Proofs.YtnicbkkkecfdpaaGreatDoor
open Go.ChangeShapes Go.WideShapes Go.ChangeAt Go.RowKit Go.Deep
open Terms Tm

/-- what Letter answers. -/
noncomputable def letC (m : Mo) (ps : List (List (Int × Int))) (code : Int) : Int := if pcode m ps = 0 then wcode m code else pcode m ps
noncomputable def letL (m : Mo) (ps : List (List (Int × Int))) (code : Int) : List Bool := if letC m ps code = 0 then ps.map (fun p => holdsB p (valsL m.vars code)) else []
/-- a slice's row has elements of that type. -/
def RowTy (w : World) (v : Value) (t : TypeId) : Prop := ∀ a n c, v = .slice (some a) n c → ∃ cs fr, w.heap[a.block]? = some (.cells cs t fr)
set_option maxRecDepth 20000 in
theorem RowTy.nil (w : World) (t : TypeId) : RowTy w (.slice none 0 0) t := fun a n c e => by simp at e
set_option maxRecDepth 20000 in
theorem pcode_m {m : Mo} {ps : List (List (Int × Int))} (h : pcode m ps = 0) : mcode m = 0 ∧ ps.length ≤ 6 := by
  unfold pcode at h
  split at h
  · rename_i h1
    split at h
    · simp at h
    · exact ⟨h1, by omega⟩
  · rename_i h1; exact absurd h h1
set_option maxRecDepth 20000 in
theorem wcode_bare {m : Mo} (code : Int) (h : mcode m = 0) : wcode ⟨m.vars, []⟩ code = wcode m code := by
  unfold wcode
  rw [if_pos h, if_pos (mcode_bare h)]

set_option maxHeartbeats 3200000 in
set_option maxRecDepth 20000 in
/-- THE CONTRACT OF Letter. -/
theorem letter_own (va vr pv : Value) (m : Mo) (ps : List (List (Int × Int))) (code : Int) (w : World) (hB : 0 < w.heap.size) (hT : TabAt w) (hV : ModelV w va vr m) (hP : TermsV w pv ps) :
    Calls Tryz.prog 24 #[.agg #[va, vr], pv, .int .i64 code] w fun e w' => ∃ v, e = .returned (.tuple #[v, .int .i64 (letC m ps code)]) ∧ Below w.heap.size w w' ∧ BoolsV w' v (letL m ps code) ∧ RowTy w' v 4 := by
  have hA : ∀ o, Below w.heap.size w (w.alloc o) := fun o => (Below.refl _ _).alloc (Nat.le_refl _) o
  have hpr := fun o => mprops_any va vr pv m ps (w.alloc o) (Nat.lt_of_lt_of_le hB (hA o).size) (hT.below (hA o) hB) (hV.below (hA o)) (hP.below (hA o))
  obtain ⟨ao, cap, rfl⟩ := hV.1.shape
  obtain ⟨ro, rc, rfl⟩ := hV.2.shape
  obtain ⟨po, pc, rfl, hPa⟩ := hP
  have hba := fun w => bare_any ao ro m.vars.length cap m.rules.length rc w
  by_cases hp : pcode m ps = 0
  · obtain ⟨hm, hp6⟩ := pcode_m hp
    rw [hp] at hpr
    have hVb : ∀ w', Below w.heap.size w w' → ModelV w' (.slice ao m.vars.length cap) (.slice none 0 0) ⟨m.vars, []⟩ := fun w' hb => ⟨hV.1.below hb, ⟨none, 0, rfl, ⟨by simp, fun _ => ⟨rfl, rfl⟩⟩, fun h => by simp at h⟩⟩
    by_cases hw : wcode m code = 0
    · have hlc : letC m ps code = 0 := by unfold letC; rw [if_pos hp, hw]
      have hll : letL m ps code = ps.map (fun p => holdsB p (valsL m.vars code)) := by unfold letL; rw [if_pos hlc]
      rw [hlc, hll]
      have hvl := fun w' (hb : Below w.heap.size w w') => svalues_any _ _ ⟨m.vars, []⟩ code w' (Nat.lt_of_lt_of_le hB hb.size) (hT.below hb hB) (hVb w' hb) (by rw [wcode_bare _ hm]; exact hw)
      have hvl2 : ∀ w', Below w.heap.size w w' → Calls Tryz.prog 42 #[.agg #[.slice ao m.vars.length cap, .slice none 0 0], .int .i64 code] w' fun e w2 => ∃ B, e = .returned (.tuple #[.slice (some ⟨B, 0, none⟩) (valsL m.vars code).length (valsL m.vars code).length, .int .i64 0]) ∧ w'.heap.size ≤ B ∧ Below w'.heap.size w' w2 ∧ w2.rowIs B 3 (valsL m.vars code).length (fun j => .int .i64 ((valsL m.vars code).getD j 0)) := hvl
      generalize valsL m.vars code = env at hvl2 ⊢
      have HHo : Hid (∀ w' (_ : Below w.heap.size w w') v ev l, OpsV w' v l → IntsV w' ev env → Calls Tryz.prog 44 #[v, ev] w' fun e w2 => e = .returned (.bool (holdsB l env)) ∧ Below w'.heap.size w' w2) := fun w' hb v ev l h1 h2 => sholds_any v ev l env w' (Nat.lt_of_lt_of_le hB hb.size) (hT.below hb hB) h1 h2
      have HP : Hid (ps ≠ [] → ∃ b off, po = some ⟨b, off, none⟩ ∧ b < w.heap.size ∧ ∀ i, i < ps.length → ∃ u, w.cell? ⟨b, off + i, none⟩ = some u ∧ OpsV w u (ps.getD i [])) := hPa
      have HML : Hid ((ps.map (fun p => holdsB p env)).length = ps.length ∧ ∀ i, i < ps.length → (ps.map (fun p => holdsB p env)).getD i false = holdsB (ps.getD i []) env) := ⟨by simp, fun i hi => by simp [List.getD_eq_getElem?_getD, hi]⟩
      generalize ps.map (fun p => holdsB p env) = lt at HML ⊢
      obtain ⟨pn, hpn⟩ : ∃ pn, pn = ps.length := ⟨_, rfl⟩
      have HPN : Hid (pn = ps.length) := hpn
      rw [← hpn] at hpr hp6 HP HML ⊢
      generalize m.vars.length = n at *
      generalize m.rules.length = rn at *
      have hmk := run_make_row' (P := Tryz.prog) 50 4 (.bool false) 1 Tryz.underlying50 infoBool rfl .i64 .i64 pn (by omega) (by omega)
      clear hV hT hVb hlc hll hPa hvl hpn hw hm hp
      go_enter Tryz.func24, Tryz.ntmps24
      go_wp2_with (first | (go_at_call 19; refine (hpr _).mono ?_; rintro e w1 ⟨rfl, hb1⟩; have hbw1 := (hA _).trans (hb1.mono (hA _).size); have k10 : w1.cell? ⟨w.heap.size, 0, none⟩ = some (.slice ao n cap) := (hb1.cell (p := ⟨w.heap.size, 0, none⟩) (by simp)).trans (by simp [go_sem]); have k11 : w1.cell? ⟨w.heap.size, 1, none⟩ = some (.slice ro rn rc) := (hb1.cell (p := ⟨w.heap.size, 1, none⟩) (by simp)).trans (by simp [go_sem])) | (go_at_call 43; refine (hba _).mono ?_; rintro e w2 ⟨rfl, hb2⟩; have hbw2 := hbw1.trans (hb2.mono hbw1.size)) | (go_at_call 42; refine (hvl2 _ hbw2).mono ?_; rintro e w3 ⟨B, rfl, hBl, hb3, hr3⟩))
      have hbw3 := hbw2.trans (hb3.mono hbw2.size)
      have hrow0 := World.rowIs_made w3 (.bool false) pn 4
      have HI3 : Hid (∀ w', Below w3.heap.size w3 w' → IntsV w' (.slice (some ⟨B, 0, none⟩) env.length env.length) env) := fun w' hb => by
        have h1 := intsV_of_row hr3
        have e1 : (List.range env.length).map (fun j => env.getD j 0) = env := by
          apply List.ext_getElem?
          intro i
          by_cases hi : i < env.length
          · simp [hi, List.getD_eq_getElem?_getD]
          · simp [hi]
        rw [e1] at h1
        exact h1.below hb
      have HB3 : Hid (Below w.heap.size w w3) := hbw3
      clear hpr hvl2 hba hmk hb1 hbw1 k10 k11 hb2 hbw2 hb3 hr3 hbw3 hBl
      go_loopw [35] (fun i wr => ∃ k : Nat, k ≤ pn ∧ i = .int .i64 k ∧ Hid (wr.rowIs w3.heap.size 4 pn (fun j => if j < k then .bool (lt.getD j false) else .bool false)) ∧ Hid (Below w3.heap.size w3 wr)) (fun i _ => pn - (intOf i).toNat)
      case atStart => exact ⟨0, Nat.zero_le _, rfl, hrow0.congr (fun i hi => by rw [if_neg (by omega)]), (Below.refl _ _).alloc (Nat.le_refl _) _⟩
      case round =>
        obtain ⟨k, hk, rfl, HRow, HBel⟩ := hrel
        have hbel := HBel.out
        have hbw := HB3.out.trans (hbel.mono HB3.out.size)
        by_cases hlt : k < pn
        · obtain ⟨b, off, rfl, hblt, hat⟩ := HP.out (by intro h; have := HPN.out; subst h; simp at this; omega)
          obtain ⟨u, hu, hou⟩ := hat k hlt
          have c0 := (hbel.cell (p := ⟨b, off + k, none⟩) (Nat.lt_of_lt_of_le hblt HB3.out.size)).trans ((HB3.out.cell (p := ⟨b, off + k, none⟩) hblt).trans hu)
          obtain ⟨uo, uc, rfl⟩ := hou.shape
          have hho := HHo.out wr hbw _ _ _ (hou.below hbw) (HI3.out wr hbel)
          have HLk := (show Hid _ from HML.out.2 k hlt)
          generalize holdsB (ps.getD k []) env = tv at hho HLk
          generalize (ps.getD k []).length = ul at *
          have HWr : Hid (∀ w4, Below wr.heap.size wr w4 → w4.rowIs w3.heap.size 4 pn (fun j => if j < k then .bool (lt.getD j false) else .bool false) ∧ Below w3.heap.size w3 w4) := fun w4 hb => ⟨row_later HRow.out hb, hbel.trans (hb.mono hbel.size)⟩
          clear hat hu hou hbel hbw HHo HI3 HP HML
          go_wp2_with (go_at_call 44; refine hho.mono ?_; rintro e w4 ⟨rfl, hb4⟩; obtain ⟨hr4, hb34⟩ := HWr.out w4 hb4; have hf := hr4.frozen k; have hc : w4.cell? ⟨w3.heap.size, k, none⟩ = some (.bool false) := (by rw [hr4.cell hlt, if_neg (by omega)]); have HR4 : Hid (w4.rowIs w3.heap.size 4 pn (fun j => if j < k then .bool (lt.getD j false) else .bool false)) := hr4; clear hr4)
          refine ⟨⟨k + 1, hlt, by first | rfl | simp, (HR4.out.set k (.bool tv)).congr fun i hi => ?_, hb34.setCell (Nat.le_refl _) _⟩, by simp [intOf]; omega⟩
          by_cases hik : i = k
          · subst hik; rw [if_pos rfl, if_pos (by omega), HLk.out]
          · rw [if_neg hik]
            by_cases hlk : i < k
            · rw [if_pos hlk, if_pos (by omega)]
            · rw [if_neg hlk, if_neg (by omega)]
        · have hkn : k = pn := by omega
          subst hkn
          have hrow := HRow.out.congr (g := fun j => .bool (lt.getD j false)) (fun i hi => by rw [if_pos hi])
          rw [← HML.out.1] at hrow
          have hbo := boolsV_of_row hrow
          rw [HML.out.1] at hbo
          have HBO := (show Hid _ from hbo)
          have HTy : Hid (RowTy wr (.slice (some ⟨w3.heap.size, 0, none⟩) k k) 4) := by
            intro a n c e
            injection e with e _ _
            injection e with e
            subst e
            obtain ⟨cs, hcs, _⟩ := HRow.out
            exact ⟨cs, (0, 0), hcs⟩
          clear hrow hbo
          go_wp2_with fail
          go_ret2
          exact ⟨_, rfl, hbw, HBO.out, HTy.out⟩
    · have hlc : letC m ps code = wcode m code := by unfold letC; rw [if_pos hp]
      have hll : letL m ps code = [] := by unfold letL; rw [if_neg (by rw [hlc]; exact hw)]
      rw [hlc, hll]
      have hvl := fun w' (hb : Below w.heap.size w w') => mvalues_any _ _ ⟨m.vars, []⟩ code w' (Nat.lt_of_lt_of_le hB hb.size) (hT.below hb hB) (hVb w' hb)
      rw [wcode_bare _ hm] at hvl
      generalize wcode m code = c at *
      generalize wvals ⟨m.vars, []⟩ code = vs at *
      generalize m.vars.length = n at *
      generalize m.rules.length = rn at *
      generalize ps.length = pn at *
      clear hV hT hVb hlc hll hPa
      go_enter Tryz.func24, Tryz.ntmps24
      go_wp2_with (first | (go_at_call 19; refine (hpr _).mono ?_; rintro e w1 ⟨rfl, hb1⟩; have hbw1 := (hA _).trans (hb1.mono (hA _).size); have k10 : w1.cell? ⟨w.heap.size, 0, none⟩ = some (.slice ao n cap) := (hb1.cell (p := ⟨w.heap.size, 0, none⟩) (by simp)).trans (by simp [go_sem]); have k11 : w1.cell? ⟨w.heap.size, 1, none⟩ = some (.slice ro rn rc) := (hb1.cell (p := ⟨w.heap.size, 1, none⟩) (by simp)).trans (by simp [go_sem])) | (go_at_call 43; refine (hba _).mono ?_; rintro e w2 ⟨rfl, hb2⟩; have hbw2 := hbw1.trans (hb2.mono hbw1.size)) | (go_at_call 42; refine (hvl _ hbw2).mono ?_; rintro e w3 ⟨v, rfl, hb3, _⟩))
      go_ret2
      exact ⟨_, rfl, hbw2.trans (hb3.mono hbw2.size), ⟨none, 0, rfl, fun h => absurd rfl h⟩, RowTy.nil _ _⟩
  · have hlc : letC m ps code = pcode m ps := by unfold letC; rw [if_neg hp]
    have hll : letL m ps code = [] := by unfold letL; rw [if_neg (by rw [hlc]; exact hp)]
    rw [hlc, hll]
    generalize pcode m ps = c at *
    generalize m.vars.length = n at *
    generalize m.rules.length = rn at *
    generalize ps.length = pn at *
    clear hV hT hlc hll hPa
    go_enter Tryz.func24, Tryz.ntmps24
    go_wp2_with (go_at_call 19; refine (hpr _).mono ?_; rintro e w1 ⟨rfl, hb1⟩)
    go_ret2
    exact ⟨_, rfl, (hA _).trans (hb1.mono (hA _).size), ⟨none, 0, rfl, fun h => absurd rfl h⟩, RowTy.nil _ _⟩
set_option maxRecDepth 20000 in
theorem letter_any (va vr pv : Value) (m : Mo) (ps : List (List (Int × Int))) (code : Int) (w : World) (hB : 0 < w.heap.size) (hT : TabAt w) (hV : ModelV w va vr m) (hP : TermsV w pv ps) :
    Calls Tryz.prog 24 #[.agg #[va, vr], pv, .int .i64 code] w fun e w' => ∃ v, e = .returned (.tuple #[v, .int .i64 (letC m ps code)]) ∧ Below w.heap.size w w' ∧ BoolsV w' v (letL m ps code) :=
  (letter_own va vr pv m ps code w hB hT hV hP).mono fun _ _ ⟨v, h1, h2, h3, _⟩ => ⟨v, h1, h2, h3⟩
end Go.Proofs.YtnicbkkkecfdpaaGreatDoor

/-
  Lists of letters as they lie in memory.
-/
namespace Go.Proofs.YtnicbkkkecfdpaaGreatDoor
open Go.ChangeShapes Go.WideShapes Go.ChangeAt Go.RowKit Go.Deep
open Terms

def nilV : Value := .slice none 0 0
/-- values that hold letters. -/
def LetsU (w : World) (us : List Value) (ls : List (List Bool)) : Prop := us.length = ls.length ∧ ∀ i, i < ls.length → BoolsV w (us.getD i nilV) (ls.getD i [])
set_option maxRecDepth 20000 in
theorem LetsU.below {w w' : World} {us : List Value} {ls : List (List Bool)} (h : LetsU w us ls) (hb : Below w.heap.size w w') : LetsU w' us ls := ⟨h.1, fun i hi => (h.2 i hi).below hb⟩
set_option maxRecDepth 20000 in
theorem LetsU.nil (w : World) : LetsU w [] [] := ⟨rfl, fun i hi => by simp at hi⟩
set_option maxRecDepth 20000 in
theorem getD_app {α : Type} (a b : List α) (d : α) (i : Nat) : (a ++ b).getD i d = if i < a.length then a.getD i d else b.getD (i - a.length) d := by
  by_cases h : i < a.length
  · rw [if_pos h]; simp [List.getD_eq_getElem?_getD, List.getElem?_append_left h]
  · rw [if_neg h]; simp [List.getD_eq_getElem?_getD, List.getElem?_append_right (Nat.le_of_not_lt h)]
set_option maxRecDepth 20000 in
theorem LetsU.append {w : World} {us us' : List Value} {ls ls' : List (List Bool)} (h : LetsU w us ls) (h' : LetsU w us' ls') : LetsU w (us ++ us') (ls ++ ls') := by
  refine ⟨by simp [h.1, h'.1], fun i hi => ?_⟩
  rw [getD_app, getD_app, h.1]
  split
  · rename_i hl; exact h.2 i hl
  · rename_i hl; exact h'.2 _ (by simp at hi; omega)
set_option maxRecDepth 20000 in
theorem LetsU.one {w : World} {us : List Value} {ls : List (List Bool)} (h : LetsU w us ls) : ∀ u ∈ us, u.oneCell' = true := by
  intro u hu
  obtain ⟨i, hi, rfl⟩ := List.getElem_of_mem hu
  have := h.2 i (by rw [← h.1]; exact hi)
  obtain ⟨ao, cap, hv, _⟩ := this
  rw [List.getD_eq_getElem?_getD, List.getElem?_eq_getElem hi] at hv
  simp only [Option.getD_some] at hv
  rw [hv]; rfl
/-- A VALUE THAT HOLDS LETTERS. -/
def LettersV (w : World) (v : Value) (ls : List (List Bool)) : Prop := ∃ us ao cap, v = .slice ao ls.length cap ∧ (ao = none → cap = 0 ∧ ls = []) ∧ LetsU w us ls ∧ (ls ≠ [] → ∃ b off, ao = some ⟨b, off, none⟩ ∧ b < w.heap.size ∧ ∀ i, i < ls.length → w.cell? ⟨b, off + i, none⟩ = some (us.getD i nilV))
set_option maxRecDepth 20000 in
theorem LettersV.below {w w' : World} {v : Value} {ls : List (List Bool)} (h : LettersV w v ls) (hb : Below w.heap.size w w') : LettersV w' v ls := by
  obtain ⟨us, ao, cap, rfl, h0, hu, h⟩ := h
  refine ⟨us, ao, cap, rfl, h0, hu.below hb, fun hne => ?_⟩
  obtain ⟨b, off, rfl, hlt, hat⟩ := h hne
  exact ⟨b, off, rfl, Nat.lt_of_lt_of_le hlt hb.size, fun i hi => (hb.cell (p := ⟨b, _, none⟩) hlt).trans (hat i hi)⟩
set_option maxRecDepth 20000 in
theorem LettersV.shape {w : World} {v : Value} {ls : List (List Bool)} (h : LettersV w v ls) : ∃ ao cap, v = .slice ao ls.length cap := by
  obtain ⟨_, ao, cap, rfl, _⟩ := h; exact ⟨_, _, rfl⟩
set_option maxRecDepth 20000 in
theorem LettersV.at {w : World} {ao : Option Addr} {cap n : Nat} {ls : List (List Bool)} (h : LettersV w (.slice ao n cap) ls) {i : Nat} (hi : i < ls.length) : ∃ b off, ao = some ⟨b, off, none⟩ ∧ b < w.heap.size ∧ ∃ u, w.cell? ⟨b, off + i, none⟩ = some u ∧ BoolsV w u (ls.getD i []) := by
  obtain ⟨us, ao', cap', hv, _, hu, h⟩ := h
  injection hv with e1 e2 e3
  subst e1
  obtain ⟨b, off, e, hlt, hat⟩ := h (by rintro rfl; simp at hi)
  exact ⟨b, off, e, hlt, _, hat i hi, hu.2 i hi⟩
set_option maxRecDepth 20000 in
/-- a row that the call owns holds letters. -/
theorem lettersV_of_owns {w : World} {base : Nat} {v : Value} {us : List Value} {ls : List (List Bool)} (h : w.ownsRow base 50 1 v us.length us) (hu : LetsU w us ls) : LettersV w v ls := by
  have hlen := hu.1
  rcases h.2 with ⟨rfl, h0⟩ | ⟨g, cap, cur, rfl, hb, hg, hnc, hcm, hcs, htake⟩
  · have : ls = [] := List.length_eq_zero_iff.1 (by omega)
    subst this
    exact ⟨us, none, 0, rfl, fun _ => ⟨rfl, rfl⟩, hu, fun h => absurd rfl h⟩
  · refine ⟨us, _, cap, by rw [hlen], fun h => by simp at h, hu, fun _ => ⟨g, 0, rfl, (Array.getElem?_eq_some_iff.1 hg).1, fun i hi => ?_⟩⟩
    rw [Nat.zero_add, h.cellAt i (by omega)]
    simp [List.getD_eq_getElem?_getD, show i < us.length by omega]
set_option maxRecDepth 20000 in
theorem infoBools : (Tryz.prog.info? 50).map (fun i => (i.zero, i.size, i.bytes)) = some (some (.slice none 0 0), 1, 24) := by kernel_rfl
end Go.Proofs.YtnicbkkkecfdpaaGreatDoor

/-
  The library's slices.Grow and slices.Concat at lists of letters.
-/
namespace Go.Proofs.YtnicbkkkecfdpaaGreatDoor
open Go.ChangeShapes Go.WideShapes Go.ChangeAt Go.RowKit Go.Deep
open Terms

set_option maxHeartbeats 800000 in
set_option maxRecDepth 20000 in
theorem grow_any (n : Nat) (w : World) (h0 : 0 < n) (h24 : n ≤ 24) :
    Calls Tryz.prog 95 #[.slice none 0 0, .int .i64 (n : Int)] w fun e w' => ∃ B cap, e = .returned (.slice (some ⟨B, 0, none⟩) 0 cap) ∧ Below w.heap.size w w' ∧ w'.ownsRow w.heap.size 50 1 (.slice (some ⟨B, 0, none⟩) 0 cap) 0 [] := by
  obtain ⟨i0, hi, hz0, hz1, hz2⟩ := info_parts infoBools
  have hrz : ∀ ty, (Builtin.append_ #[41, 3] ty #[.slice none 0 0, .int .i64 (n : Int)]).run Tryz.prog w = .ok (.slice (some ⟨w.heap.size, 0, none⟩) n (grownCap w n 0 50)) (w.drew.alloc (.cells (Builtin.zeroCells (Value.slice none 0 0).cells n ++ Builtin.zeroCells (Value.slice none 0 0).cells (grownCap w n 0 50 - n)) 50)) := fun ty =>
    Lib.run_append_nil_zeros w 41 3 ty 50 i0 (.slice none 0 0) .i64 .i64 Tryz.underlying41 Tryz.underlying3 hi hz0 n h0 (by omega) (by omega) (by rw [hz2]; omega)
  have hge := grownCap_ge w n 0 50
  have hle := grownCap_le_maxLen w n 0 50 (by unfold maxLen; omega)
  generalize grownCap w n 0 50 = G at hrz hge hle
  have hG : G ≤ 9223372036854775807 := by unfold maxLen at hle; omega
  have hn : ¬ (n : Int) < 0 := by omega
  have hn2 : (n : Int) > 0 := by omega
  go_enter Tryz.func95, Tryz.ntmps95
  go_wp2_with (at_builtin; refine Lib.wpList_append_run _ rfl _ _ _ _ rfl _ _ rfl rfl _ _ (hrz _) ?_)
  go_ret
  refine ⟨_, _, rfl, (below_drewN (Below.refl _ _) 1).alloc (Nat.le_refl _) _, ?_⟩
  refine ⟨rfl, .inr ⟨w.heap.size, G, Builtin.zeroCells #[Value.slice none 0 0] n ++ Builtin.zeroCells #[Value.slice none 0 0] (G - n), rfl, Nat.le_refl _, ?_, Nat.zero_le _, hle, ?_, by simp⟩⟩
  · show (w.heap.push _)[w.heap.size]? = _
    simp
  · simp [size_zeroCells]
    omega

/-- what stands in the row ahead of each list. -/
def accL (ss ll : List (List Bool)) (k : Nat) : List (List Bool) := if k = 0 then [] else if k = 1 then ss else ss ++ ll
def zL (a b : Nat) (k : Nat) : Int := if k = 0 then 0 else if k = 1 then (a : Int) else (a : Int) + (b : Int)
set_option maxRecDepth 20000 in
/-- the list of this number. -/
theorem concat_at {w0 w : World} {g : Nat} {so lo : Option Addr} {sn ln sc lc : Nat} {ss ll : List (List Bool)} (hsn : sn = ss.length) (hln : ln = ll.length) (h1 : sn ≤ 12) (h2 : ln ≤ 12) (hS : LettersV w0 (.slice so sn sc) ss) (hL : LettersV w0 (.slice lo ln lc) ll) (c0 : w.cell? ⟨g, 0, none⟩ = some (.slice so sn sc)) (c1 : w.cell? ⟨g, 1, none⟩ = some (.slice lo ln lc)) {k : Nat} (hk : k < 2) :
    ∃ xo xn xc xl, w.cell? ⟨g, k, none⟩ = some (.slice xo xn xc) ∧ zL sn ln (k + 1) = zL sn ln k + (xn : Int) ∧ 0 ≤ zL sn ln k ∧ zL sn ln k ≤ 12 ∧ xn ≤ 12 ∧ xn = xl.length ∧ accL ss ll (k + 1) = accL ss ll k ++ xl ∧ (accL ss ll k).length ≤ 12 ∧ LettersV w0 (.slice xo xn xc) xl := by
  have hk2 : k = 0 ∨ k = 1 := by omega
  rcases hk2 with rfl | rfl
  · exact ⟨so, sn, sc, ss, c0, by simp [zL], by simp [zL], by simp [zL], h1, hsn, by simp [accL], by simp [accL], hS⟩
  · exact ⟨lo, ln, lc, ll, c1, by simp [zL], by simp [zL], by simp [zL]; omega, h2, hln, by simp [accL], by simp [accL]; omega, hL⟩
set_option maxRecDepth 20000 in
theorem lets_cells {w : World} {b off : Nat} {us : List Value} {xl : List (List Bool)} (hu : LetsU w us xl) (h : ∀ i, i < xl.length → w.cell? ⟨b, off + i, none⟩ = some (us.getD i nilV)) : ∀ j u, us[j]? = some u → w.cell? ((⟨b, off, none⟩ : Addr).add j) = some u := by
  intro j u hj
  have hlt := (List.getElem?_eq_some_iff.1 hj).1
  rw [Go.WideShapes.add_plain, h j (by rw [← hu.1]; exact hlt), List.getD_eq_getElem?_getD, hj]
  rfl

set_option maxHeartbeats 1600000 in
set_option maxRecDepth 20000 in
/-- THE CONTRACT OF slices.Concat at two lists of letters. -/
theorem concat_own (g : Nat) (sv lv : Value) (ss ll : List (List Bool)) (w0 w : World) (hb0 : Below w0.heap.size w0 w) (h1 : ss.length ≤ 12) (h2 : ll.length ≤ 12) (h0 : 1 ≤ ll.length) (hS : LettersV w0 sv ss) (hL : LettersV w0 lv ll) (c0 : w.cell? ⟨g, 0, none⟩ = some sv) (c1 : w.cell? ⟨g, 1, none⟩ = some lv) :
    Calls Tryz.prog 70 #[.slice (some ⟨g, 0, none⟩) 2 2] w fun e w' => ∃ B cap, e = .returned (.slice (some ⟨B, 0, none⟩) (ss.length + ll.length) cap) ∧ Below w.heap.size w w' ∧ Hid (∃ us, w'.ownsRow w.heap.size 50 1 (.slice (some ⟨B, 0, none⟩) (ss.length + ll.length) cap) us.length us ∧ LetsU w0 us (ss ++ ll)) := by
  have hg := World.block_lt_of_cell? w ⟨g, 0, none⟩ c0
  obtain ⟨i0, hi, hz0, hz1, hz2⟩ := info_parts infoBools
  obtain ⟨so, sc, rfl⟩ := hS.shape
  obtain ⟨lo, lc, rfl⟩ := hL.shape
  have HAt : Hid (∀ k, k < 2 → ∃ xo xn xc xl, w.cell? ⟨g, k, none⟩ = some (.slice xo xn xc) ∧ zL ss.length ll.length (k + 1) = zL ss.length ll.length k + (xn : Int) ∧ 0 ≤ zL ss.length ll.length k ∧ zL ss.length ll.length k ≤ 12 ∧ xn ≤ 12 ∧ xn = xl.length ∧ accL ss ll (k + 1) = accL ss ll k ++ xl ∧ (accL ss ll k).length ≤ 12 ∧ LettersV w0 (.slice xo xn xc) xl) := fun k hk => concat_at rfl rfl h1 h2 hS hL c0 c1 hk
  have HZ0 : Hid (zL ss.length ll.length 0 = 0) := rfl
  have HZ2 : Hid (zL ss.length ll.length 2 = ((ss.length + ll.length : Nat) : Int)) := by show _ = _; simp [zL]
  have HA0 : Hid (accL ss ll 0 = []) := rfl
  have HA2 : Hid (accL ss ll 2 = ss ++ ll) := rfl
  have hgr := fun w1 => grow_any (ss.length + ll.length) w1 (by omega) (by omega)
  have HLen : Hid ((ss ++ ll).length = ss.length + ll.length) := List.length_append
  obtain ⟨tn, htn⟩ : ∃ tn, tn = ss.length + ll.length := ⟨_, rfl⟩
  rw [← htn] at hgr HLen HZ2 ⊢
  have ht24 : tn ≤ 24 := by omega
  have ht0 : 0 < tn := by omega
  generalize zL ss.length ll.length = zz at *
  generalize accL ss ll = ac at *
  clear hS hL c0 c1 h1 h2 h0 htn
  go_enter Tryz.func70, Tryz.ntmps70
  go_wp2
  go_loop [3, 11] (fun z i => ∃ k : Nat, k ≤ 2 ∧ i = .int .i64 (k : Int) ∧ z = .int .i64 (zz k)) (fun _ i => 2 - (intOf i).toNat)
  case atStart => exact ⟨0, by omega, rfl, by rw [HZ0.out]⟩
  case round =>
    obtain ⟨k, hk, rfl, rfl⟩ := hrel
    by_cases hlt : k < 2
    · obtain ⟨xo, xn, xc, xl, hc, hz, hz00, hz12, hx12, hr⟩ := HAt.out k hlt
      clear hr
      have HZ : Hid (zz (k + 1) = zz k + (xn : Int)) := hz
      clear hz
      generalize zz k = z0 at *
      go_wp2
      go_round
      case rel => exact ⟨k + 1, hlt, by go_num, by rw [HZ.out]⟩
      case measure => simp [intOf]; omega
    · obtain rfl : k = 2 := by omega
      rw [HZ2.out]
      go_wp2_with (go_at_call 95; refine (hgr _).mono ?_; rintro e w1 ⟨B, cap, rfl, hb1, ho1⟩)
      clear hgr
      go_loopw [6, 27] (fun nv i wr => ∃ k : Nat, k ≤ 2 ∧ i = .int .i64 (k : Int) ∧ ∃ B cap, nv = .slice (some ⟨B, 0, none⟩) (ac k).length cap ∧ Hid (∃ us, wr.ownsRow w.heap.size 50 1 nv us.length us ∧ LetsU w0 us (ac k)) ∧ Below w.heap.size w wr) (fun _ i _ => 2 - (intOf i).toNat)
      case atStart => exact ⟨0, by omega, rfl, B, cap, by rw [HA0.out]; rfl, ⟨[], ho1, by rw [HA0.out]; exact LetsU.nil _⟩, hb1⟩
      case round =>
        obtain ⟨k, hk, rfl, B, cap, rfl, HU, hbel⟩ := hrel
        by_cases hlt : k < 2
        · obtain ⟨xo, xn, xc, xl, hc, _, _, _, hx12, hxn, hac, hal, hX⟩ := HAt.out k hlt
          have hcr := (hbel.cell (p := ⟨g, k, none⟩) hg).trans hc
          obtain ⟨us, hown, hus⟩ := HU.out
          have HUS : Hid (LetsU w0 us (ac k)) := hus
          have HXN : Hid (xn = xl.length) := hxn
          have HAC : Hid (ac (k + 1) = ac k ++ xl) := hac
          have hul : us.length = (ac k).length := hus.1
          obtain ⟨vs, xo', xc', hxv, hx0, hvs, hxat⟩ := hX
          injection hxv with e1 e2 e3
          subst e1 e3
          rw [← hul] at hal hown ⊢
          clear hxn hac hus e2 HU hul
          cases xo with
          | none =>
            obtain ⟨hc0, hl0⟩ := hx0 rfl
            have HL0 : Hid (xl = []) := hl0
            have hxn0 : xn = 0 := by rw [HXN.out, HL0.out]; rfl
            subst hxn0 hc0
            clear hx0 hxat hl0 hvs
            go_wp2_with (at_builtin; refine wpList_append_own_none rfl (.tmp 31) (.tmp 32) 41 rfl w.heap.size 50 i0 1 Tryz.underlying41 hi _ _ _ rfl hown rfl ?_)
            go_roundw
            case rel => exact ⟨k + 1, hlt, by go_num, B, cap, by rw [HAC.out, HL0.out, List.append_nil, ← HUS.out.1], ⟨us, hown, by rw [HAC.out, HL0.out, List.append_nil]; exact HUS.out⟩, hbel⟩
            case measure => simp [intOf]; omega
          | some a =>
            have hcells : ∀ j u, vs[j]? = some u → wr.cell? (a.add j) = some u := by
              intro j u hj
              have hjl : j < xl.length := by rw [← hvs.1]; exact (List.getElem?_eq_some_iff.1 hj).1
              obtain ⟨b, off, e, hbl, hat⟩ := hxat (by rintro rfl; simp at hjl)
              obtain rfl := Option.some.inj e
              have := lets_cells hvs hat j u hj
              rw [Go.WideShapes.add_plain] at this ⊢
              exact ((hb0.trans (hbel.mono hb0.size)).cell (p := ⟨b, off + j, none⟩) hbl).trans this
            have HVS : Hid (LetsU w0 vs xl) := hvs
            have hvl : vs.length = xn * 1 := by rw [hvs.1, HXN.out]; omega
            have hv1 := hvs.one
            have hbsz := hbel.size
            have hnb := hown.lt
            clear hx0 hxat hvs
            go_wp2_with (at_builtin; refine wpList_append_own _ rfl (.tmp 31) (.tmp 32) 41 rfl w.heap.size 50 i0 (.slice none 0 0) 1 24 Tryz.underlying41 hi hz0 hz1 hz2 rfl (by decide) (.slice (some ⟨B, 0, none⟩) us.length cap) us.length us rfl hown a xn xc vs rfl hvl hcells hv1 (by unfold maxLen; omega) (by omega) hbsz ?_; intro v' w4 hown' hgrow hne)
            have hb4 : Below w.heap.size w w4 := hbel.grown hgrow hbsz (fun q hq => (hnb q hq).1)
            have hlen4 : (us ++ vs).length = us.length + xn := by rw [List.length_append]; omega
            obtain ⟨B4, cap4, rfl⟩ : ∃ B4 cap4, v' = .slice (some ⟨B4, 0, none⟩) (us.length + xn) cap4 := by
              rcases hown'.2 with ⟨h, _⟩ | ⟨g', cap', cur', h, _⟩
              · exact absurd (hne.1 h).1 (by simp)
              · exact ⟨_, _, h⟩
            have HLn : Hid (us.length + xn = (ac (k + 1)).length) := by show _ = _; rw [HAC.out, List.length_append, ← HUS.out.1, HXN.out]
            have HU4 : Hid (∃ zs, w4.ownsRow w.heap.size 50 1 (.slice (some ⟨B4, 0, none⟩) (us.length + xn) cap4) zs.length zs ∧ LetsU w0 zs (ac (k + 1))) := ⟨us ++ vs, by rw [hlen4]; exact hown', by rw [HAC.out]; exact HUS.out.append HVS.out⟩
            clear hown' hgrow hown hcells hne
            go_roundw
            case rel => exact ⟨k + 1, hlt, by go_num, B4, cap4, by rw [HLn.out], HU4, hb4⟩
            case measure => simp [intOf]; omega
        · obtain rfl : k = 2 := by omega
          have HF : Hid (∃ us, wr.ownsRow w.heap.size 50 1 (.slice (some ⟨B, 0, none⟩) tn cap) us.length us ∧ LetsU w0 us (ss ++ ll)) := by
            obtain ⟨us, h1, h2⟩ := HU.out
            rw [HA2.out] at h1 h2
            rw [HLen.out] at h1
            exact ⟨us, h1, h2⟩
          rw [HA2.out, HLen.out]
          clear HU
          go_wp2
          go_ret
          exact ⟨_, _, rfl, hbel, HF⟩

set_option maxRecDepth 20000 in
theorem concat_any (g : Nat) (sv lv : Value) (ss ll : List (List Bool)) (w : World) (h1 : ss.length ≤ 12) (h2 : ll.length ≤ 12) (h0 : 1 ≤ ll.length) (hS : LettersV w sv ss) (hL : LettersV w lv ll) (c0 : w.cell? ⟨g, 0, none⟩ = some sv) (c1 : w.cell? ⟨g, 1, none⟩ = some lv) :
    Calls Tryz.prog 70 #[.slice (some ⟨g, 0, none⟩) 2 2] w fun e w' => ∃ B cap, e = .returned (.slice (some ⟨B, 0, none⟩) (ss.length + ll.length) cap) ∧ Below w.heap.size w w' ∧ Hid (LettersV w' (.slice (some ⟨B, 0, none⟩) (ss.length + ll.length) cap) (ss ++ ll)) :=
  (concat_own g sv lv ss ll w w (Below.refl _ _) h1 h2 h0 hS hL c0 c1).mono fun e w' ⟨B, cap, e1, e2, e3⟩ => by
    obtain ⟨us, e4, e5⟩ := e3.out
    exact ⟨B, cap, e1, e2, lettersV_of_owns e4 (e5.below e2)⟩
end Go.Proofs.YtnicbkkkecfdpaaGreatDoor

/-
  Words without an end: plain mathematics of what holds at a moment. Nothing of the program is named here.
-/
namespace Go.Proofs.YtnicbkkkecfdpaaGreatDoor.Terms

namespace Tm
/-- WHAT HOLDS AT A MOMENT (P6.2), of a word that says at each moment of each proposition whether it is so. -/
def ho (σ : Nat → Nat → Bool) : Tm → Nat → Prop
  | leaf k v => fun i => if k = 13 then σ i v.toNat = true else k = 11
  | un k _ a => fun i => if k = 10 then ¬ ho σ a i else if k = 14 then ho σ a (i + 1) else if k = 17 then ∃ j, i ≤ j ∧ ho σ a j else ∀ j, i ≤ j → ho σ a j
  | bi k _ a b => fun i => if k = 8 then ho σ a i ∧ ho σ b i else if k = 9 then ho σ a i ∨ ho σ b i else if k = 15 then ∃ j, i ≤ j ∧ ho σ b j ∧ ∀ m, i ≤ m → m < j → ho σ a m else ∀ j, i ≤ j → ho σ b j ∨ ∃ m, i ≤ m ∧ m < j ∧ ho σ a m
set_option maxRecDepth 20000 in
theorem ho_shift (σ : Nat → Nat → Bool) (d : Nat) (t : Tm) : ∀ i, ho (fun j => σ (j + d)) t i ↔ ho σ t (i + d) := by
  induction t with
  | leaf k v => intro i; simp only [ho]
  | un k v a ih =>
    intro i
    simp only [ho]
    split
    · rw [ih]
    · split
      · rw [ih, show i + 1 + d = i + d + 1 by omega]
      · split
        · constructor
          · rintro ⟨j, h1, h2⟩; exact ⟨j + d, by omega, (ih j).1 h2⟩
          · rintro ⟨j, h1, h2⟩; exact ⟨j - d, by omega, (ih _).2 (by rwa [show j - d + d = j by omega])⟩
        · constructor
          · intro h j hj; have := (ih _).1 (h (j - d) (by omega)); rwa [show j - d + d = j by omega] at this
          · intro h j hj; exact (ih j).2 (h (j + d) (by omega))
  | bi k v a b iha ihb =>
    intro i
    simp only [ho]
    split
    · rw [iha, ihb]
    · split
      · rw [iha, ihb]
      · split
        · constructor
          · rintro ⟨j, h1, h2, h3⟩
            refine ⟨j + d, by omega, (ihb j).1 h2, fun m hm hmj => ?_⟩
            have := (iha _).1 (h3 (m - d) (by omega) (by omega))
            rwa [show m - d + d = m by omega] at this
          · rintro ⟨j, h1, h2, h3⟩
            refine ⟨j - d, by omega, (ihb _).2 (by rwa [show j - d + d = j by omega]), fun m hm hmj => (iha m).2 (h3 (m + d) (by omega) (by omega))⟩
        · constructor
          · intro h j hj
            rcases h (j - d) (by omega) with h1 | ⟨m, h1, h2, h3⟩
            · left; have := (ihb _).1 h1; rwa [show j - d + d = j by omega] at this
            · exact .inr ⟨m + d, by omega, by omega, (iha m).1 h3⟩
          · intro h j hj
            rcases h (j + d) (by omega) with h1 | ⟨m, h1, h2, h3⟩
            · exact .inl ((ihb j).2 h1)
            · exact .inr ⟨m - d, by omega, by omega, (iha _).2 (by rwa [show m - d + d = m by omega])⟩
/-- a word that comes again. -/
def Per (σ : Nat → Nat → Bool) (s L : Nat) : Prop := ∀ i, s ≤ i → σ (i + L) = σ i
set_option maxRecDepth 20000 in
theorem ho_per {σ : Nat → Nat → Bool} {s L : Nat} (h : Per σ s L) (t : Tm) {i : Nat} (hi : s ≤ i) : ho σ t (i + L) ↔ ho σ t i := by
  have h1 := ho_shift σ (i + L) t 0
  have h2 := ho_shift σ i t 0
  rw [Nat.zero_add] at h1 h2
  rw [← h1, ← h2]
  have : (fun j => σ (j + (i + L))) = fun j => σ (j + i) := by
    funext j
    rw [show j + (i + L) = (j + i) + L by omega]
    exact h _ (by omega)
  rw [this]
open Classical in
/-- the same, as a truth. -/
noncomputable def hb (σ : Nat → Nat → Bool) (t : Tm) (i : Nat) : Bool := decide (ho σ t i)
set_option maxRecDepth 20000 in
open Classical in
theorem hb_iff {σ : Nat → Nat → Bool} {t : Tm} {i : Nat} : hb σ t i = true ↔ ho σ t i := by unfold hb; exact decide_eq_true_iff
set_option maxRecDepth 20000 in
theorem bool_eq {x y : Bool} (h : x = true ↔ y = true) : x = y := by cases x <;> cases y <;> simp_all
set_option maxRecDepth 20000 in
theorem hb_per {σ : Nat → Nat → Bool} {s L : Nat} (h : Per σ s L) (t : Tm) {i : Nat} (hi : s ≤ i) : hb σ t (i + L) = hb σ t i := bool_eq (by rw [hb_iff, hb_iff]; exact ho_per h t hi)
set_option maxRecDepth 20000 in
theorem hb_prop (σ : Nat → Nat → Bool) (v : Int) (i : Nat) : hb σ (leaf 13 v) i = σ i v.toNat := bool_eq (by rw [hb_iff]; simp [ho])
set_option maxRecDepth 20000 in
theorem hb_yes (σ : Nat → Nat → Bool) (v : Int) (i : Nat) : hb σ (leaf 11 v) i = true := by rw [hb_iff]; simp [ho]
set_option maxRecDepth 20000 in
theorem hb_no {k : Int} (σ : Nat → Nat → Bool) (v : Int) (i : Nat) (h1 : k ≠ 13) (h2 : k ≠ 11) : hb σ (leaf k v) i = false := by
  have : ¬ hb σ (leaf k v) i = true := by rw [hb_iff]; simp [ho, h1, h2]
  simpa using this
set_option maxRecDepth 20000 in
theorem hb_not (σ : Nat → Nat → Bool) (v : Int) (a : Tm) (i : Nat) : hb σ (un 10 v a) i = !hb σ a i := bool_eq (by rw [hb_iff, Bool.not_eq_true', ← Bool.not_eq_true, hb_iff]; simp [ho])
set_option maxRecDepth 20000 in
theorem hb_next (σ : Nat → Nat → Bool) (v : Int) (a : Tm) (i : Nat) : hb σ (un 14 v a) i = hb σ a (i + 1) := bool_eq (by rw [hb_iff, hb_iff]; simp [ho])
set_option maxRecDepth 20000 in
theorem hb_and (σ : Nat → Nat → Bool) (v : Int) (a b : Tm) (i : Nat) : hb σ (bi 8 v a b) i = (hb σ a i && hb σ b i) := bool_eq (by rw [hb_iff, Bool.and_eq_true, hb_iff, hb_iff]; simp [ho])
set_option maxRecDepth 20000 in
theorem hb_or (σ : Nat → Nat → Bool) (v : Int) (a b : Tm) (i : Nat) : hb σ (bi 9 v a b) i = (hb σ a i || hb σ b i) := bool_eq (by rw [hb_iff, Bool.or_eq_true, hb_iff, hb_iff]; simp [ho])
end Tm

/-! ### until, strong or weak -/
/-- u comes, and v holds till then; or (weak) v holds for ever. -/
def Unt (u v : Nat → Bool) (d : Bool) (i : Nat) : Prop := (∃ j, i ≤ j ∧ u j = true ∧ ∀ m, i ≤ m → m < j → v m = true) ∨ (d = true ∧ ∀ m, i ≤ m → v m = true)
set_option maxRecDepth 20000 in
theorem unt_step (u v : Nat → Bool) (d : Bool) (i : Nat) : Unt u v d i ↔ u i = true ∨ (v i = true ∧ Unt u v d (i + 1)) := by
  constructor
  · rintro (⟨j, h1, h2, h3⟩ | ⟨h1, h2⟩)
    · by_cases e : j = i
      · subst e; exact .inl h2
      · exact .inr ⟨h3 i (by omega) (by omega), .inl ⟨j, by omega, h2, fun m hm hmj => h3 m (by omega) hmj⟩⟩
    · exact .inr ⟨h2 i (by omega), .inr ⟨h1, fun m hm => h2 m (by omega)⟩⟩
  · rintro (h | ⟨h1, (⟨j, h2, h3, h4⟩ | ⟨h2, h3⟩)⟩)
    · exact .inl ⟨i, by omega, h, fun m hm hmi => by omega⟩
    · refine .inl ⟨j, by omega, h3, fun m hm hmj => ?_⟩
      by_cases e : m = i
      · subst e; exact h1
      · exact h4 m (by omega) hmj
    · refine .inr ⟨h2, fun m hm => ?_⟩
      by_cases e : m = i
      · subst e; exact h1
      · exact h3 m (by omega)
open Classical in
noncomputable def untB (u v : Nat → Bool) (d : Bool) (i : Nat) : Bool := decide (Unt u v d i)
set_option maxRecDepth 20000 in
open Classical in
theorem untB_iff {u v : Nat → Bool} {d : Bool} {i : Nat} : untB u v d i = true ↔ Unt u v d i := by unfold untB; exact decide_eq_true_iff
set_option maxRecDepth 20000 in
theorem untB_step (u v : Nat → Bool) (d : Bool) (i : Nat) : untB u v d i = (u i || (v i && untB u v d (i + 1))) := Tm.bool_eq (by rw [untB_iff, unt_step, Bool.or_eq_true, Bool.and_eq_true, untB_iff])
/-- so many steps back, from what stands behind them. -/
def stp (u v : Nat → Bool) (x : Bool) : Nat → Nat → Bool
  | 0, _ => x
  | k + 1, i => u i || (v i && stp u v x k (i + 1))
set_option maxRecDepth 20000 in
theorem stp_unt (u v : Nat → Bool) (d : Bool) : ∀ k i, stp u v (untB u v d (i + k)) k i = untB u v d i := by
  intro k
  induction k with
  | zero => intro i; rfl
  | succ k ih => intro i; simp only [stp]; rw [show i + (k + 1) = (i + 1) + k by omega, ih, ← untB_step]
set_option maxRecDepth 20000 in
theorem stp_or (u v : Nat → Bool) : ∀ k i, (∀ x y, stp u v x k i = stp u v y k i) ∨ ((∀ m, i ≤ m → m < i + k → u m = false ∧ v m = true) ∧ ∀ x, stp u v x k i = x) := by
  intro k
  induction k with
  | zero => intro i; exact .inr ⟨fun m h1 h2 => by omega, fun x => rfl⟩
  | succ k ih =>
    intro i
    cases hu : u i with
    | true => left; intro x y; simp [stp, hu]
    | false =>
      cases hv : v i with
      | false => left; intro x y; simp [stp, hu, hv]
      | true =>
        rcases ih (i + 1) with h | ⟨h1, h2⟩
        · left; intro x y; simp only [stp]; rw [h x y]
        · right
          refine ⟨fun m hm hmk => ?_, fun x => by simp [stp, hu, hv, h2]⟩
          by_cases e : m = i
          · subst e; exact ⟨hu, hv⟩
          · exact h1 m (by omega) (by omega)
set_option maxRecDepth 20000 in
theorem unt_stuck {u v : Nat → Bool} {d : Bool} {i : Nat} (h : ∀ m, i ≤ m → u m = false ∧ v m = true) : untB u v d i = d := by
  cases d with
  | true => rw [untB_iff]; exact .inr ⟨rfl, fun m hm => (h m hm).2⟩
  | false =>
    have : ¬ untB u v false i = true := by
      rw [untB_iff]
      rintro (⟨j, h1, h2, _⟩ | ⟨h1, _⟩)
      · rw [(h j h1).1] at h2; cases h2
      · cases h1
    simpa using this
set_option maxRecDepth 20000 in
/-- from one round of what comes again to all that comes. -/
theorem per_all {u : Nat → Bool} {s L : Nat} (hL : 0 < L) (hp : ∀ i, s ≤ i → u (i + L) = u i) {x : Bool} {a : Nat} (ha : s ≤ a) (h : ∀ m, a ≤ m → m < a + L → u m = x) : ∀ m, a ≤ m → u m = x := by
  intro m
  induction m using Nat.strongRecOn with
  | ind m ih =>
    intro hm
    by_cases hl : m < a + L
    · exact h m hm hl
    · have := ih (m - L) (by omega) (by omega)
      rw [← this, ← hp (m - L) (by omega), show m - L + L = m by omega]
set_option maxRecDepth 20000 in
theorem unt_per {u v : Nat → Bool} {d : Bool} {s L : Nat} (hu : ∀ i, s ≤ i → u (i + L) = u i) (hv : ∀ i, s ≤ i → v (i + L) = v i) {i : Nat} (hi : s ≤ i) : untB u v d (i + L) = untB u v d i := by
  refine Tm.bool_eq ?_
  rw [untB_iff, untB_iff]
  constructor
  · rintro (⟨j, h1, h2, h3⟩ | ⟨h1, h2⟩)
    · refine .inl ⟨j - L, by omega, ?_, fun m hm hmj => ?_⟩
      · rw [← hu _ (by omega), show j - L + L = j by omega]; exact h2
      · rw [← hv _ (by omega)]; exact h3 _ (by omega) (by omega)
    · refine .inr ⟨h1, fun m hm => ?_⟩
      rw [← hv _ (by omega)]; exact h2 _ (by omega)
  · rintro (⟨j, h1, h2, h3⟩ | ⟨h1, h2⟩)
    · refine .inl ⟨j + L, by omega, ?_, fun m hm hmj => ?_⟩
      · rw [hu _ (by omega)]; exact h2
      · have := h3 (m - L) (by omega) (by omega)
        rw [← hv _ (by omega), show m - L + L = m by omega] at this; exact this
    · refine .inr ⟨h1, fun m hm => ?_⟩
      have := h2 (m - L) (by omega)
      rw [← hv _ (by omega), show m - L + L = m by omega] at this; exact this
set_option maxRecDepth 20000 in
/-- TWO ROUNDS BACK SETTLE IT. -/
theorem settle_is {u v : Nat → Bool} {d : Bool} {s n : Nat} (hsn : s < n) (hu : ∀ i, s ≤ i → u (i + (n - s)) = u i) (hv : ∀ i, s ≤ i → v (i + (n - s)) = v i) {i : Nat} (hi : i ≤ n) :
    stp u v (stp u v d (n - s) s) (n - i) i = untB u v d i := by
  have hper := unt_per (d := d) hu hv (Nat.le_refl s)
  have hx : stp u v d (n - s) s = untB u v d n := by
    rcases stp_or u v (n - s) s with h | ⟨h1, h2⟩
    · rw [h d (untB u v d (s + (n - s))), stp_unt, ← hper, show s + (n - s) = n by omega]
    · rw [h2, unt_stuck]
      intro m hm
      exact ⟨per_all (by omega) hu (Nat.le_refl s) (fun m a b => (h1 m a b).1) m (by omega), per_all (by omega) hv (Nat.le_refl s) (fun m a b => (h1 m a b).2) m (by omega)⟩
  rw [hx]
  have := stp_unt u v d (n - i) i
  rwa [show i + (n - i) = n by omega] at this
set_option maxRecDepth 20000 in
/-- A LOOK AHEAD OVER ALL MOMENTS DOES, TOO. -/
theorem scan_is {u v : Nat → Bool} {d : Bool} {s n : Nat} (hsn : s < n) (hu : ∀ i, s ≤ i → u (i + (n - s)) = u i) (hv : ∀ i, s ≤ i → v (i + (n - s)) = v i) (i : Nat) :
    stp u v d (n + 1) i = untB u v d i := by
  rcases stp_or u v (n + 1) i with h | ⟨h1, h2⟩
  · rw [h d (untB u v d (i + (n + 1))), stp_unt]
  · rw [h2, unt_stuck]
    intro m hm
    have hall : ∀ m, max i s ≤ m → u m = false ∧ v m = true := fun m hm => ⟨per_all (by omega) hu (a := max i s) (by omega) (fun m a b => (h1 m (by omega) (by omega)).1) m hm, per_all (by omega) hv (a := max i s) (by omega) (fun m a b => (h1 m (by omega) (by omega)).2) m hm⟩
    by_cases hms : s ≤ m
    · exact hall m (by omega)
    · exact h1 m hm (by omega)

/-! ### the laws of ops that look ahead -/
def uB (k : Int) (a b : Bool) : Bool := if k = 17 then a else if k = 15 then b else if k = 16 then a && b else false
def vB (k : Int) (a b : Bool) : Bool := if k = 17 then true else if k = 18 then a else if k = 15 then a else b
def dB (k : Int) : Bool := decide (k = 18 ∨ k = 16)
namespace Tm
set_option maxRecDepth 20000 in
theorem hb_fin (σ : Nat → Nat → Bool) (v : Int) (a : Tm) (i : Nat) : hb σ (un 17 v a) i = untB (hb σ a) (fun _ => true) false i := bool_eq (by
  rw [hb_iff, untB_iff]
  simp only [ho, Unt, show ¬ (17 : Int) = 10 by decide, show ¬ (17 : Int) = 14 by decide, if_false, if_true]
  constructor
  · rintro ⟨j, h1, h2⟩; exact .inl ⟨j, h1, hb_iff.2 h2, fun _ _ _ => trivial⟩
  · rintro (⟨j, h1, h2, _⟩ | ⟨h, _⟩)
    · exact ⟨j, h1, hb_iff.1 h2⟩
    · cases h)
set_option maxRecDepth 20000 in
theorem hb_glob (σ : Nat → Nat → Bool) (v : Int) (a : Tm) (i : Nat) : hb σ (un 18 v a) i = untB (fun _ => false) (hb σ a) true i := bool_eq (by
  rw [hb_iff, untB_iff]
  simp only [ho, Unt, show ¬ (18 : Int) = 10 by decide, show ¬ (18 : Int) = 14 by decide, show ¬ (18 : Int) = 17 by decide, if_false]
  constructor
  · intro h; exact .inr ⟨trivial, fun m hm => hb_iff.2 (h m hm)⟩
  · rintro (⟨j, h1, h2, _⟩ | ⟨_, h⟩)
    · cases h2
    · exact fun j hj => hb_iff.1 (h j hj))
set_option maxRecDepth 20000 in
theorem hb_until (σ : Nat → Nat → Bool) (v : Int) (a b : Tm) (i : Nat) : hb σ (bi 15 v a b) i = untB (hb σ b) (hb σ a) false i := bool_eq (by
  rw [hb_iff, untB_iff]
  simp only [ho, Unt, show ¬ (15 : Int) = 8 by decide, show ¬ (15 : Int) = 9 by decide, if_false, if_true]
  constructor
  · rintro ⟨j, h1, h2, h3⟩; exact .inl ⟨j, h1, hb_iff.2 h2, fun m hm hmj => hb_iff.2 (h3 m hm hmj)⟩
  · rintro (⟨j, h1, h2, h3⟩ | ⟨h, _⟩)
    · exact ⟨j, h1, hb_iff.1 h2, fun m hm hmj => hb_iff.1 (h3 m hm hmj)⟩
    · cases h)
set_option maxRecDepth 20000 in
theorem least {P : Nat → Prop} (i : Nat) : ∀ j, i ≤ j → P j → ∃ m, i ≤ m ∧ P m ∧ ∀ k, i ≤ k → k < m → ¬ P k := by
  intro j
  induction j using Nat.strongRecOn with
  | ind j ih =>
    intro hj hp
    by_cases h : ∃ k, i ≤ k ∧ k < j ∧ P k
    · obtain ⟨k, h1, h2, h3⟩ := h; exact ih k h2 h1 h3
    · exact ⟨j, hj, hp, fun k h1 h2 h3 => h ⟨k, h1, h2, h3⟩⟩
set_option maxRecDepth 20000 in
theorem hb_rel (σ : Nat → Nat → Bool) (v : Int) (a b : Tm) (i : Nat) : hb σ (bi 16 v a b) i = untB (fun j => hb σ a j && hb σ b j) (hb σ b) true i := bool_eq (by
  rw [hb_iff, untB_iff]
  simp only [ho, Unt, show ¬ (16 : Int) = 8 by decide, show ¬ (16 : Int) = 9 by decide, show ¬ (16 : Int) = 15 by decide, if_false, Bool.and_eq_true, true_and]
  constructor
  · intro h
    by_cases hall : ∀ m, i ≤ m → ho σ b m
    · exact .inr fun m hm => hb_iff.2 (hall m hm)
    · left
      have ⟨j, hj, hnb⟩ : ∃ j, i ≤ j ∧ ¬ ho σ b j := by
        by_cases hx : ∃ j, i ≤ j ∧ ¬ ho σ b j
        · exact hx
        · exact absurd (fun m hm => Classical.byContradiction fun hn => hx ⟨m, hm, hn⟩) hall
      obtain ⟨m, hm, hnm, hlow⟩ := least (P := fun j => ¬ ho σ b j) i j hj hnb
      rcases h m hm with hb' | ⟨q, h1, h2, h3⟩
      · exact absurd hb' hnm
      · exact ⟨q, h1, ⟨hb_iff.2 h3, hb_iff.2 (Classical.byContradiction fun hn => hlow q h1 h2 hn)⟩, fun z hz hzq => hb_iff.2 (Classical.byContradiction fun hn => hlow z hz (by omega) hn)⟩
  · rintro (⟨j, h1, ⟨h2, h2'⟩, h3⟩ | h) q hq
    · by_cases hl : q < j
      · exact .inl (hb_iff.1 (h3 q hq hl))
      · by_cases he : q = j
        · subst he; exact .inl (hb_iff.1 h2')
        · exact .inr ⟨j, h1, by omega, hb_iff.1 h2⟩
    · exact .inl (hb_iff.1 (h q hq)))
end Tm
end Go.Proofs.YtnicbkkkecfdpaaGreatDoor.Terms

/-
  Words as a stem and a loop: plain mathematics.
-/
namespace Go.Proofs.YtnicbkkkecfdpaaGreatDoor.Terms

/-- which moment of stem and loop one that is further is. -/
def moAt (s n i : Nat) : Nat := if i < n then i else s + (i - s) % (n - s)
set_option maxRecDepth 20000 in
theorem moAt_low {s n i : Nat} (h : i < n) : moAt s n i = i := by unfold moAt; rw [if_pos h]
set_option maxRecDepth 20000 in
theorem moAt_lt {s n i : Nat} (h : s < n) : moAt s n i < n := by
  unfold moAt
  split
  · assumption
  · have := Nat.mod_lt (i - s) (show 0 < n - s by omega)
    omega
set_option maxRecDepth 20000 in
theorem moAt_back {s n i : Nat} (hs : s < n) (h : n ≤ i) : moAt s n i = moAt s n (i - (n - s)) := by
  have hm : (i - s) % (n - s) = (i - (n - s) - s) % (n - s) := by
    rw [show i - s = (i - (n - s) - s) + (n - s) by omega, Nat.add_mod_right]
  unfold moAt
  rw [if_neg (by omega), hm]
  split
  · rw [Nat.mod_eq_of_lt (by omega)]; omega
  · rfl
set_option maxRecDepth 20000 in
theorem moAt_per {s n i : Nat} (hs : s < n) (h : s ≤ i) : moAt s n (i + (n - s)) = moAt s n i := by
  rw [moAt_back hs (by omega), show i + (n - s) - (n - s) = i by omega]
/-- the word without an end. -/
def sig (ls : List (List Bool)) (s : Nat) (i v : Nat) : Bool := (ls.getD (moAt s ls.length i) []).getD v false
set_option maxRecDepth 20000 in
theorem sig_per {ls : List (List Bool)} {s : Nat} (hs : s < ls.length) : Tm.Per (sig ls s) s (ls.length - s) := fun i hi => by funext v; unfold sig; rw [moAt_per hs hi]
set_option maxRecDepth 20000 in
theorem hb_mo {ls : List (List Bool)} {s : Nat} (hs : s < ls.length) (t : Tm) : ∀ i, t.hb (sig ls s) (moAt s ls.length i) = t.hb (sig ls s) i := by
  intro i
  induction i using Nat.strongRecOn with
  | ind i ih =>
    by_cases h : i < ls.length
    · rw [moAt_low h]
    · rw [moAt_back hs (by omega), ih _ (by omega)]
      have := Tm.hb_per (sig_per hs) t (i := i - (ls.length - s)) (by omega)
      rw [← this, show i - (ls.length - s) + (ls.length - s) = i by omega]

namespace Tm
/-- what makes a term hold at once. -/
noncomputable def uT (σ : Nat → Nat → Bool) : Tm → Nat → Bool
  | leaf k v => fun i => hb σ (leaf k v) i
  | un k v a => fun i => if k = 17 then hb σ a i else if k = 18 then false else hb σ (un k v a) i
  | bi k v a b => fun i => if k = 15 then hb σ b i else if k = 16 then hb σ a i && hb σ b i else hb σ (bi k v a b) i
/-- what lets it wait for the next moment. -/
noncomputable def vT (σ : Nat → Nat → Bool) : Tm → Nat → Bool
  | leaf _ _ => fun _ => false
  | un k _ a => fun i => if k = 17 then true else if k = 18 then hb σ a i else false
  | bi k _ a b => fun i => if k = 15 then hb σ a i else if k = 16 then hb σ b i else false
def dT (k : Int) : Bool := decide (k = 18 ∨ k = 16)
set_option maxRecDepth 20000 in
theorem untB_plain (u : Nat → Bool) (i : Nat) : untB u (fun _ => false) false i = u i := by rw [untB_step]; simp
set_option maxRecDepth 20000 in
theorem uT_per {σ : Nat → Nat → Bool} {s L : Nat} (h : Per σ s L) (t : Tm) {i : Nat} (hi : s ≤ i) : uT σ t (i + L) = uT σ t i := by
  cases t with
  | leaf k v => exact hb_per h _ hi
  | un k v a => simp only [uT]; rw [hb_per h _ hi, hb_per h _ hi]
  | bi k v a b => simp only [uT]; rw [hb_per h _ hi, hb_per h _ hi, hb_per h _ hi]
set_option maxRecDepth 20000 in
theorem vT_per {σ : Nat → Nat → Bool} {s L : Nat} (h : Per σ s L) (t : Tm) {i : Nat} (hi : s ≤ i) : vT σ t (i + L) = vT σ t i := by
  cases t with
  | leaf k v => rfl
  | un k v a => simp only [vT]; rw [hb_per h _ hi]
  | bi k v a b => simp only [vT]; rw [hb_per h _ hi, hb_per h _ hi]
set_option maxRecDepth 20000 in
/-- EACH TERM HOLDS BY ITS LAW. -/
theorem hb_unt (σ : Nat → Nat → Bool) {t : Tm} (hw : t.Wf) (i : Nat) : hb σ t i = untB (uT σ t) (vT σ t) (dT t.kind) i := by
  cases t with
  | leaf k v =>
    have hk : dT k = false := by
      obtain ⟨_, h2⟩ := hw
      simp only [dT, decide_eq_false_iff_not]
      rintro (rfl | rfl) <;> exact absurd h2 (by decide)
    show _ = untB _ (fun _ => false) (dT k) i
    rw [hk, untB_plain]
    rfl
  | un k v a =>
    by_cases h17 : k = 17
    · subst h17; rw [hb_fin]; rfl
    · by_cases h18 : k = 18
      · subst h18; rw [hb_glob]; rfl
      · have hk : dT k = false := by
          obtain ⟨_, h2, _⟩ := hw
          simp only [dT, decide_eq_false_iff_not]
          rintro (rfl | rfl)
          · exact h18 rfl
          · exact absurd h2 (by decide)
        have e1 : uT σ (un k v a) = hb σ (un k v a) := by funext j; simp only [uT]; rw [if_neg h17, if_neg h18]
        have e2 : vT σ (un k v a) = fun _ => false := by funext j; simp only [vT]; rw [if_neg h17, if_neg h18]
        rw [e1, e2]
        show _ = untB _ _ (dT k) i
        rw [hk, untB_plain]
  | bi k v a b =>
    by_cases h15 : k = 15
    · subst h15; rw [hb_until]; rfl
    · by_cases h16 : k = 16
      · subst h16; rw [hb_rel]; rfl
      · have hk : dT k = false := by
          obtain ⟨_, h2, _⟩ := hw
          simp only [dT, decide_eq_false_iff_not]
          rintro (rfl | rfl)
          · exact absurd h2 (by decide)
          · exact h16 rfl
        have e1 : uT σ (bi k v a b) = hb σ (bi k v a b) := by funext j; simp only [uT]; rw [if_neg h15, if_neg h16]
        have e2 : vT σ (bi k v a b) = fun _ => false := by funext j; simp only [vT]; rw [if_neg h15, if_neg h16]
        rw [e1, e2]
        show _ = untB _ _ (dT k) i
        rw [hk, untB_plain]
end Tm

/-! ### what Check answers -/
def letBad (props : Int) (ls : List (List Bool)) : Bool := ls.any fun l => decide ((l.length : Int) ≠ props)
def wdcode (props : Int) (ss ll : List (List Bool)) : Int :=
  if props < 0 ∨ 6 < props then 2 else if 12 < ss.length ∨ ll.length < 1 ∨ 12 < ll.length then 1 else if letBad props (ss ++ ll) = true then 3 else 0
set_option maxRecDepth 20000 in
theorem wdcode_range {props : Int} {ss ll : List (List Bool)} (h : props < 0 ∨ 6 < props) : wdcode props ss ll = 2 := by unfold wdcode; rw [if_pos h]
set_option maxRecDepth 20000 in
theorem wdcode_size {props : Int} {ss ll : List (List Bool)} (h : ¬ (props < 0 ∨ 6 < props)) (h2 : 12 < ss.length ∨ ll.length < 1 ∨ 12 < ll.length) : wdcode props ss ll = 1 := by unfold wdcode; rw [if_neg h, if_pos h2]
set_option maxRecDepth 20000 in
theorem wdcode_form {props : Int} {ss ll : List (List Bool)} (h : ¬ (props < 0 ∨ 6 < props)) (h2 : ¬ (12 < ss.length ∨ ll.length < 1 ∨ 12 < ll.length)) (h3 : letBad props (ss ++ ll) = true) : wdcode props ss ll = 3 := by unfold wdcode; rw [if_neg h, if_neg h2, if_pos h3]
set_option maxRecDepth 20000 in
theorem wdcode_ok {props : Int} {ss ll : List (List Bool)} (h : ¬ (props < 0 ∨ 6 < props)) (h2 : ¬ (12 < ss.length ∨ ll.length < 1 ∨ 12 < ll.length)) (h3 : letBad props (ss ++ ll) = false) : wdcode props ss ll = 0 := by unfold wdcode; rw [if_neg h, if_neg h2, if_neg (by rw [h3]; decide)]
set_option maxRecDepth 20000 in
theorem letBad_at {props : Int} {ls : List (List Bool)} {i : Nat} (hi : i < ls.length) (h : ((ls.getD i []).length : Int) ≠ props) : letBad props ls = true := by
  unfold letBad
  rw [List.any_eq_true]
  refine ⟨ls.getD i [], ?_, by simpa using h⟩
  rw [List.getD_eq_getElem?_getD, List.getElem?_eq_getElem hi]
  exact List.getElem_mem hi
set_option maxRecDepth 20000 in
theorem letBad_none {props : Int} {ls : List (List Bool)} (h : ∀ i, i < ls.length → ((ls.getD i []).length : Int) = props) : letBad props ls = false := by
  unfold letBad
  rw [List.any_eq_false]
  intro l hl
  obtain ⟨i, hi, rfl⟩ := List.getElem_of_mem hl
  have := h i hi
  rw [List.getD_eq_getElem?_getD, List.getElem?_eq_getElem hi] at this
  simpa using this
set_option maxRecDepth 20000 in
theorem wdcode_zero {props : Int} {ss ll : List (List Bool)} (h : wdcode props ss ll = 0) : (0 ≤ props ∧ props ≤ 6) ∧ ss.length ≤ 12 ∧ 1 ≤ ll.length ∧ ll.length ≤ 12 ∧ ∀ i, i < (ss ++ ll).length → (((ss ++ ll).getD i []).length : Int) = props := by
  by_cases hr : props < 0 ∨ 6 < props
  · rw [wdcode_range hr] at h; omega
  · by_cases hs : 12 < ss.length ∨ ll.length < 1 ∨ 12 < ll.length
    · rw [wdcode_size hr hs] at h; omega
    · cases hb : letBad props (ss ++ ll) with
      | true => rw [wdcode_form hr hs hb] at h; omega
      | false =>
        refine ⟨by omega, by omega, by omega, by omega, fun i hi => ?_⟩
        exact Classical.byContradiction fun hn => by rw [letBad_at hi hn] at hb; cases hb
end Go.Proofs.YtnicbkkkecfdpaaGreatDoor.Terms

/-
  The contract of word.Check.
-/
namespace Go.Proofs.YtnicbkkkecfdpaaGreatDoor
open Go.ChangeShapes Go.WideShapes Go.ChangeAt Go.RowKit Go.Deep
open Terms

set_option maxHeartbeats 1600000 in
set_option maxRecDepth 20000 in
/-- THE CONTRACT OF word.Check. -/
theorem wcheck_any (sv lv : Value) (ss ll : List (List Bool)) (props : Int) (w : World) (hzs : ss.length ≤ 140737488355328) (hzl : ll.length ≤ 140737488355328) (hS : LettersV w sv ss) (hL : LettersV w lv ll) :
    Calls Tryz.prog 69 #[.agg #[sv, lv], .int .i64 props] w fun e w' => e = .returned (.int .i64 (wdcode props ss ll)) ∧ Below w.heap.size w w' := by
  have hA : ∀ o, Below w.heap.size w (w.alloc o) := fun o => (Below.refl _ _).alloc (Nat.le_refl _) o
  obtain ⟨so, sc, rfl⟩ := hS.shape
  obtain ⟨lo, lc, rfl⟩ := hL.shape
  by_cases hr : props < 0 ∨ 6 < props
  · rw [wdcode_range hr]
    generalize ss.length = sn at *
    generalize ll.length = ln at *
    clear hS hL
    rcases hr with hr | hr
    all_goals
      go_enter Tryz.func69, Tryz.ntmps69
      go_wp2
      go_ret
      exact ⟨rfl, hA _⟩
  · have hp0 : 0 ≤ props := by omega
    have hp6 : props ≤ 6 := by omega
    by_cases hs : 12 < ss.length ∨ ll.length < 1 ∨ 12 < ll.length
    · rw [wdcode_size hr hs]
      have hs3 : 12 < ss.length ∨ (ss.length ≤ 12 ∧ ll.length < 1) ∨ (ss.length ≤ 12 ∧ 1 ≤ ll.length ∧ 12 < ll.length) := by omega
      generalize ss.length = sn at *
      generalize ll.length = ln at *
      clear hS hL hr hs
      rcases hs3 with h1 | ⟨h1, h2⟩ | ⟨h1, h2, h3⟩
      · have h1' : (12 : Int) < (sn : Int) := by omega
        go_enter Tryz.func69, Tryz.ntmps69
        go_wp2
        go_ret
        exact ⟨rfl, hA _⟩
      · have h1' : ¬ (12 : Int) < (sn : Int) := by omega
        have h2' : (ln : Int) < 1 := by omega
        go_enter Tryz.func69, Tryz.ntmps69
        go_wp2
        go_ret
        exact ⟨rfl, hA _⟩
      · have h1' : ¬ (12 : Int) < (sn : Int) := by omega
        have h2' : ¬ (ln : Int) < 1 := by omega
        have h3' : (12 : Int) < (ln : Int) := by omega
        go_enter Tryz.func69, Tryz.ntmps69
        go_wp2
        go_ret
        exact ⟨rfl, hA _⟩
    · have hs1 : ss.length ≤ 12 := by omega
      have hl1 : 1 ≤ ll.length := by omega
      have hl2 : ll.length ≤ 12 := by omega
      have hA2 : ∀ o o', Below w.heap.size w ((w.alloc o).alloc o') := fun o o' => (hA o).alloc (by simp) o'
      have hco : Calls Tryz.prog 70 #[.slice (some ⟨w.heap.size + 1, 0, none⟩) 2 2] ((w.alloc (.cells #[.slice so ss.length sc, .slice lo ll.length lc] 46)).alloc (.cells #[.slice so ss.length sc, .slice lo ll.length lc] 41)) fun e w' => ∃ B cap, e = .returned (.slice (some ⟨B, 0, none⟩) (ss.length + ll.length) cap) ∧ Below w.heap.size w w' ∧ Hid (LettersV w' (.slice (some ⟨B, 0, none⟩) (ss.length + ll.length) cap) (ss ++ ll)) :=
        (concat_any (w.heap.size + 1) _ _ ss ll _ hs1 hl2 hl1 (hS.below (hA2 _ _)) (hL.below (hA2 _ _)) (by simp [go_sem]) (by simp [go_sem])).mono fun e w' ⟨B, cap, h1, h2, h3⟩ => ⟨B, cap, h1, (hA2 _ _).trans (h2.mono (by simp; omega)), h3⟩
      have HOk := fun h => (show Hid _ from wdcode_ok (ss := ss) (ll := ll) hr hs h)
      have HFo := fun h => (show Hid _ from wdcode_form (ss := ss) (ll := ll) hr hs h)
      have HLen : Hid ((ss ++ ll).length = ss.length + ll.length) := List.length_append
      generalize wdcode props ss ll = wc at *
      obtain ⟨n, hn⟩ : ∃ n, n = ss.length + ll.length := ⟨_, rfl⟩
      rw [← hn] at hco HLen
      have hn24 : n ≤ 24 := by omega
      generalize ss.length = sn at *
      generalize ll.length = ln at *
      have HN : Hid (n = sn + ln) := hn
      clear hS hL hr hs hn hA2
      have g1 : ¬ (12 : Int) < (sn : Int) := by omega
      have g2 : ¬ (ln : Int) < 1 := by omega
      have g3 : ¬ (12 : Int) < (ln : Int) := by omega
      go_enter Tryz.func69, Tryz.ntmps69
      go_wp2_with (go_at_call 70; refine hco.mono ?_; rintro e w1 ⟨B, cap, rfl, hb1, HL⟩)
      clear hco
      go_loop [36] (fun i => ∃ k : Nat, k ≤ n ∧ i = .int .i64 (k : Int) ∧ Hid (∀ j, j < k → (((ss ++ ll).getD j []).length : Int) = props)) (fun i => n - (intOf i).toNat)
      case atStart => exact ⟨0, Nat.zero_le _, rfl, fun j hj => absurd hj (Nat.not_lt_zero _)⟩
      case round =>
        obtain ⟨k, hk, rfl, HAll⟩ := hrel
        by_cases hlt : k < n
        · obtain ⟨b, off, hbo, _, u, hcu, hbu⟩ := HL.out.at (i := k) (by rw [HLen.out]; exact hlt)
          obtain ⟨rfl, rfl⟩ : B = b ∧ 0 = off := by simpa using hbo
          obtain ⟨uo, uc, rfl, _⟩ := hbu
          simp only [Nat.zero_add] at hcu
          by_cases hx : (((ss ++ ll).getD k []).length : Int) = props
          · have HNx : Hid (∀ j, j < k + 1 → (((ss ++ ll).getD j []).length : Int) = props) := fun j hj => by
              by_cases hjk : j < k
              · exact HAll.out j hjk
              · obtain rfl : j = k := by omega
                exact hx
            generalize ((ss ++ ll).getD k []).length = xn at *
            clear HAll
            go_wp2
            go_round
            case rel => exact ⟨k + 1, hlt, by go_num, HNx⟩
            case measure => simp [intOf]; omega
          · have HW : Hid (wc = 3) := (HFo (letBad_at (by rw [HLen.out]; exact hlt) hx)).out
            generalize ((ss ++ ll).getD k []).length = xn at *
            clear HAll
            go_wp2
            go_ret
            rw [HW.out]
            exact ⟨rfl, hb1⟩
        · obtain rfl : k = n := by omega
          have HW : Hid (wc = 0) := (HOk (letBad_none fun i hi => HAll.out i (by rw [HLen.out] at hi; exact hi))).out
          go_wp2
          go_ret
          rw [HW.out]
          exact ⟨rfl, hb1⟩
end Go.Proofs.YtnicbkkkecfdpaaGreatDoor

/-
  Formulas: plain mathematics of what holds at a moment, with a letter and a claim.
-/
namespace Go.Proofs.YtnicbkkkecfdpaaGreatDoor
open Go.ChangeShapes Go.WideShapes Go.ChangeAt Go.RowKit Go.Deep
open Terms

/-- where the second part of the op at a place begins (if it has one). -/
def sec (l : List (Int × Int)) (p : Nat) : Nat := endAt (l.map Prod.fst) (p + 1)
/-- the bit of a claim. -/
def bitB (claim : Int) (i : Nat) : Bool := decide (claim / 2 ^ i % 2 = 1)
/-- what an op that does not look ahead makes of its parts. -/
def mkB (o : Int × Int) (letter : List Bool) (a b : Bool) : Bool :=
  if o.1 = 13 then letter.getD o.2.toNat false else if o.1 = 11 then true else if o.1 = 10 then !a else if o.1 = 8 then a && b else if o.1 = 9 then a || b else false
def truF (l : List (Int × Int)) (letter : List Bool) (claim : Int) : Nat → Nat → Bool
  | 0, _ => false
  | f + 1, p => if lookB (l.getD p (0, 0)).1 = true then bitB claim (aheadTo l p).length else mkB (l.getD p (0, 0)) letter (truF l letter claim f (p + 1)) (truF l letter claim f (max (sec l p) (p + 1)))
/-- does the term that begins at a place hold? -/
def tru (l : List (Int × Int)) (letter : List Bool) (claim : Int) (p : Nat) : Bool := truF l letter claim (l.length - p) p
set_option maxRecDepth 20000 in
theorem truF_fuel (l : List (Int × Int)) (letter : List Bool) (claim : Int) : ∀ f g p, l.length ≤ f + p → l.length ≤ g + p → p < l.length → truF l letter claim f p = truF l letter claim g p := by
  intro f
  induction f with
  | zero => intro g p h _ hp; omega
  | succ f ih =>
    intro g p h1 h2 hp
    cases g with
    | zero => omega
    | succ g =>
      simp only [truF]
      have aux : ∀ q, p < q → truF l letter claim f q = truF l letter claim g q := by
        intro q hq
        by_cases hql : q < l.length
        · exact ih g q (by omega) (by omega) hql
        · have z : ∀ f q, l.length ≤ q → truF l letter claim f q = false := by
            intro f
            induction f with
            | zero => intro q _; rfl
            | succ f ihf =>
              intro q hq
              simp only [truF]
              rw [show l.getD q (0, 0) = (0, 0) by simp [List.getD_eq_getElem?_getD, hq]]
              simp [lookB, mkB]
          rw [z f q (by omega), z g q (by omega)]
      rw [aux (p + 1) (by omega), aux (max (sec l p) (p + 1)) (by omega)]
set_option maxRecDepth 20000 in
theorem tru_look {l : List (Int × Int)} {letter : List Bool} {claim : Int} {p : Nat} (hp : p < l.length) (h : lookB (l.getD p (0, 0)).1 = true) : tru l letter claim p = bitB claim (aheadTo l p).length := by
  unfold tru
  obtain ⟨f, hf⟩ : ∃ f, l.length - p = f + 1 := ⟨l.length - p - 1, by omega⟩
  rw [hf]
  simp only [truF]
  rw [if_pos h]
set_option maxRecDepth 20000 in
theorem tru_mk {l : List (Int × Int)} {letter : List Bool} {claim : Int} {p : Nat} (hp : p < l.length) (h : lookB (l.getD p (0, 0)).1 = false) (hs : pn (l.getD p (0, 0)).1 = 2 → p + 1 < sec l p) : tru l letter claim p = mkB (l.getD p (0, 0)) letter (tru l letter claim (p + 1)) (tru l letter claim (sec l p)) := by
  unfold tru
  obtain ⟨f, hf⟩ : ∃ f, l.length - p = f + 1 := ⟨l.length - p - 1, by omega⟩
  rw [hf]
  have z : ∀ f q, l.length ≤ q → truF l letter claim f q = false := by
    intro f
    induction f with
    | zero => intro q _; rfl
    | succ f ihf =>
      intro q hq
      simp only [truF]
      rw [show l.getD q (0, 0) = (0, 0) by simp [List.getD_eq_getElem?_getD, hq]]
      simp [lookB, mkB]
  have aux : ∀ q, p < q → truF l letter claim f q = truF l letter claim (l.length - q) q := by
    intro q hq
    by_cases hql : q < l.length
    · exact truF_fuel l letter claim f _ q (by omega) (by omega) hql
    · rw [z _ q (by omega), z _ q (by omega)]
  simp only [truF]
  rw [if_neg (by rw [h]; decide), aux (p + 1) (by omega)]
  by_cases h2 : pn (l.getD p (0, 0)).1 = 2
  · rw [show max (sec l p) (p + 1) = sec l p by have := hs h2; omega, aux (sec l p) (by have := hs h2; omega)]
  · have hk : (l.getD p (0, 0)).1 ≠ 8 ∧ (l.getD p (0, 0)).1 ≠ 9 := by
      constructor <;> intro e <;> rw [e] at h2 <;> exact absurd rfl h2
    simp only [mkB, hk.1, hk.2, if_false]

/-! ### the places that look ahead -/
set_option maxRecDepth 20000 in
theorem aheadTo_get (l : List (Int × Int)) : ∀ n i, i < (aheadTo l n).length → ∃ p : Nat, (aheadTo l n).getD i 0 = p ∧ p < n ∧ lookB (l.getD p (0, 0)).1 = true ∧ (aheadTo l p).length = i := by
  intro n
  induction n with
  | zero => intro i hi; simp [aheadTo] at hi
  | succ n ih =>
    intro i hi
    cases hb : lookB (l.getD n (0, 0)).1 with
    | false =>
      rw [aheadTo_no hb] at hi ⊢
      obtain ⟨p, h1, h2, h3, h4⟩ := ih i hi
      exact ⟨p, h1, by omega, h3, h4⟩
    | true =>
      rw [aheadTo_yes hb] at hi ⊢
      by_cases hl : i < (aheadTo l n).length
      · obtain ⟨p, h1, h2, h3, h4⟩ := ih i hl
        refine ⟨p, ?_, by omega, h3, h4⟩
        rw [← h1]; simp [List.getD_eq_getElem?_getD, List.getElem?_append_left hl]
      · have hi' : i = (aheadTo l n).length := by simp at hi; omega
        subst hi'
        exact ⟨n, by simp [List.getD_eq_getElem?_getD], by omega, hb, rfl⟩
set_option maxRecDepth 20000 in
theorem aheadTo_mono (l : List (Int × Int)) {p n : Nat} (h : p ≤ n) : (aheadTo l p).length ≤ (aheadTo l n).length := by
  induction n with
  | zero => obtain rfl : p = 0 := by omega
            exact Nat.le_refl _
  | succ n ih =>
    by_cases hp : p = n + 1
    · subst hp; exact Nat.le_refl _
    · have := ih (by omega)
      simp only [aheadTo, List.length_append]; omega
set_option maxRecDepth 20000 in
theorem aheadTo_lt (l : List (Int × Int)) {p n : Nat} (h : p < n) (hb : lookB (l.getD p (0, 0)).1 = true) : (aheadTo l p).length < (aheadTo l n).length := by
  have := aheadTo_mono l (p := p + 1) (n := n) (by omega)
  rw [aheadTo_yes hb] at this
  simp at this; omega

/-! ### the parts of an op lie inside -/
set_option maxRecDepth 20000 in
theorem part_in {l : List (Int × Int)} (hz : endsCode (l.map Prod.fst) = 0) {p : Nat} (hp : p < l.length) :
    (1 ≤ pn (l.getD p (0, 0)).1 → p + 1 < l.length) ∧ (pn (l.getD p (0, 0)).1 = 2 → p + 1 < sec l p ∧ sec l p < l.length) := by
  obtain ⟨_, hc⟩ := code_zero hz
  obtain ⟨ks, hks⟩ : ∃ ks, ks = l.map Prod.fst := ⟨_, rfl⟩
  have hlen : ks.length = l.length := by rw [hks, List.length_map]
  have hget : ks.getD p 0 = (l.getD p (0, 0)).1 := by rw [hks]; simp [List.getD_eq_getElem?_getD, hp]
  have hsec : sec l p = endAt ks (p + 1) := by unfold sec; rw [← hks]
  rw [← hks] at hc
  rw [← hget, hsec, ← hlen]
  obtain ⟨m, hm, hm1, hml⟩ := cnt_in ks 1 ks.length p hc (by omega)
  have ha := cnt_at (ks := ks) (q := p) (by omega)
  rw [hm] at ha
  split at ha
  · cases hr : cnt (ks.drop (p + 1)) (pn (ks.getD p 0)) with
    | no e => rw [hr] at ha; simp [R.up] at ha
    | ok m2 =>
      rw [hr] at ha
      simp only [R.up, R.ok.injEq] at ha
      have h2 := cnt_le _ _ _ hr
      rw [List.length_drop] at h2
      refine ⟨fun h => by omega, fun h => ?_⟩
      rw [h, show (2 : Nat) = 1 + 1 from rfl] at hr
      obtain ⟨a, b, hca, hcb, hab⟩ := cnt_parts hr
      have h3 := cnt_le _ _ _ hca
      have h4 := cnt_le _ _ _ hcb
      rw [endAt_ok hca]
      omega
  · simp at ha
set_option maxRecDepth 20000 in
theorem bit_small : ∀ c, c < 64 → ∀ i, i < 6 → ((c >>> i) &&& 1 == 1) = decide (((c : Nat) : Int) / 2 ^ i % 2 = 1) := by decide
end Go.Proofs.YtnicbkkkecfdpaaGreatDoor

/-
  The laws that word's table hands out: the contracts of after, law and its functions.
-/
namespace Go.Proofs.YtnicbkkkecfdpaaGreatDoor
open Go.ChangeShapes Go.WideShapes Go.ChangeAt Go.RowKit Go.Deep
open Terms

/-- what the laws stand on: the boxes of the table and of the place, and what lies behind them. -/
structure TabIn (w : World) (bt bp b off n cap B : Nat) (aao : Option Addr) (an ac lb m lcap s R p : Nat) (l : List (Int × Int)) (ls : List (List Bool)) (h : Nat → Nat → Bool) : Prop where
  c0 : w.cell? ⟨bt, 0, none⟩ = some (.slice (some ⟨b, off, none⟩) n cap)
  c1 : w.cell? ⟨bt, 1, none⟩ = some (.slice (some ⟨B, 0, none⟩) n n)
  c2 : w.cell? ⟨bt, 2, none⟩ = some (.slice aao an ac)
  c3 : w.cell? ⟨bt, 3, none⟩ = some (.slice (some ⟨lb, 0, none⟩) m lcap)
  c4 : w.cell? ⟨bt, 4, none⟩ = some (.int .i64 (s : Int))
  c5 : w.cell? ⟨bt, 5, none⟩ = some (.slice (some ⟨R, 0, none⟩) n n)
  cp : w.cell? ⟨bp, 0, none⟩ = some (.int .i64 (p : Int))
  ends : ∀ j, j < n → w.cell? ⟨B, j, none⟩ = some (.int .i64 (endAt (l.map Prod.fst) j : Int))
  lets : LettersV w (.slice (some ⟨lb, 0, none⟩) m lcap) ls
  rows : ∀ q, p < q → q < n → ∃ rb ro rc, w.cell? ⟨R, q, none⟩ = some (.slice (some ⟨rb, ro, none⟩) m rc) ∧ rb < w.heap.size ∧ ∀ j, j < m → w.cell? ⟨rb, ro + j, none⟩ = some (.bool (h q j))
  hbt : bt < w.heap.size
  hbp : bp < w.heap.size
  hB : B < w.heap.size
  hR : R < w.heap.size
  hm : ls.length = m
  hn : n ≤ 60
  hm24 : m ≤ 24
  hs : s < m
set_option maxRecDepth 20000 in
theorem TabIn.below {w w' : World} {bt bp b off n cap B : Nat} {aao : Option Addr} {an ac lb m lcap s R p : Nat} {l : List (Int × Int)} {ls : List (List Bool)} {h : Nat → Nat → Bool} (t : TabIn w bt bp b off n cap B aao an ac lb m lcap s R p l ls h) (hb : Below w.heap.size w w') : TabIn w' bt bp b off n cap B aao an ac lb m lcap s R p l ls h :=
  ⟨(hb.cell (p := ⟨bt, 0, none⟩) t.hbt).trans t.c0, (hb.cell (p := ⟨bt, 1, none⟩) t.hbt).trans t.c1, (hb.cell (p := ⟨bt, 2, none⟩) t.hbt).trans t.c2, (hb.cell (p := ⟨bt, 3, none⟩) t.hbt).trans t.c3, (hb.cell (p := ⟨bt, 4, none⟩) t.hbt).trans t.c4, (hb.cell (p := ⟨bt, 5, none⟩) t.hbt).trans t.c5, (hb.cell (p := ⟨bp, 0, none⟩) t.hbp).trans t.cp, fun j hj => (hb.cell (p := ⟨B, j, none⟩) t.hB).trans (t.ends j hj), t.lets.below hb, fun q h1 h2 => by
    obtain ⟨rb, ro, rc, e1, e2, e3⟩ := t.rows q h1 h2
    exact ⟨rb, ro, rc, (hb.cell (p := ⟨R, q, none⟩) t.hR).trans e1, Nat.lt_of_lt_of_le e2 hb.size, fun j hj => (hb.cell (p := ⟨rb, ro + j, none⟩) e2).trans (e3 j hj)⟩,
    Nat.lt_of_lt_of_le t.hbt hb.size, Nat.lt_of_lt_of_le t.hbp hb.size, Nat.lt_of_lt_of_le t.hB hb.size, Nat.lt_of_lt_of_le t.hR hb.size, t.hm, t.hn, t.hm24, t.hs⟩

set_option maxRecDepth 20000 in
theorem first_w (w : World) (bt bp b off n cap B : Nat) (aao : Option Addr) (an ac lb m lcap s R p : Nat) (l : List (Int × Int)) (ls : List (List Bool)) (h : Nat → Nat → Bool) (mo : Nat) (hT : TabIn w bt bp b off n cap B aao an ac lb m lcap s R p l ls h) (hp : p + 1 < n) (hmo : mo < m) :
    Calls Tryz.prog 98 #[.int .i64 (mo : Int), .pointer (some ⟨bt, 0, none⟩), .pointer (some ⟨bp, 0, none⟩)] w fun e w' => e = .returned (.bool (h (p + 1) mo)) ∧ w' = w := by
  obtain ⟨rb, ro, rc, e1, e2, e3⟩ := hT.rows (p + 1) (by omega) hp
  have e4 := e3 mo hmo
  have c5 := hT.c5
  have cp := hT.cp
  have hn := hT.hn
  have hm := hT.hm24
  generalize h (p + 1) mo = x at *
  clear e3 hT
  go_enter Tryz.func98, Tryz.ntmps98
  go_wp2_with fail
  go_ret
  exact ⟨rfl, rfl⟩

set_option maxRecDepth 20000 in
theorem second_w (w : World) (bt bp b off n cap B : Nat) (aao : Option Addr) (an ac lb m lcap s R p : Nat) (l : List (Int × Int)) (ls : List (List Bool)) (h : Nat → Nat → Bool) (mo : Nat) (hT : TabIn w bt bp b off n cap B aao an ac lb m lcap s R p l ls h) (hp : p + 1 < n) (hs1 : p < sec l p) (hs2 : sec l p < n) (hmo : mo < m) :
    Calls Tryz.prog 99 #[.int .i64 (mo : Int), .pointer (some ⟨bt, 0, none⟩), .pointer (some ⟨bp, 0, none⟩)] w fun e w' => e = .returned (.bool (h (sec l p) mo)) ∧ ∃ q, w' = w.drewN q := by
  obtain ⟨rb, ro, rc, e1, e2, e3⟩ := hT.rows (sec l p) hs1 hs2
  have e4 := e3 mo hmo
  have c5 := hT.c5
  have c1 := hT.c1
  have cp := hT.cp
  have hn := hT.hn
  have hm := hT.hm24
  have ce : w.cell? ⟨B, p + 1, none⟩ = some (.int .i64 (sec l p : Int)) := hT.ends (p + 1) hp
  generalize h (sec l p) mo = x at *
  generalize sec l p = sn at *
  clear e3 hT
  go_enter Tryz.func99, Tryz.ntmps99
  go_wp2_with fail
  go_quiet (fail)
  go_wp2_with fail
  go_ret
  exact ⟨rfl, _, rfl⟩

set_option maxRecDepth 20000 in
theorem prop_w (w : World) (bt bp b off n cap B : Nat) (aao : Option Addr) (an ac lb m lcap s R p : Nat) (l : List (Int × Int)) (ls : List (List Bool)) (h : Nat → Nat → Bool) (bo : Nat) (v : Int) (x : Bool) (mo : Nat) (hT : TabIn w bt bp b off n cap B aao an ac lb m lcap s R p l ls h) (hmo : mo < m) (ho : w.cell? ⟨bo, 1, none⟩ = some (.int .i64 v)) (hv0 : 0 ≤ v) (hv : v < ((ls.getD mo []).length : Int)) :
    Calls Tryz.prog 100 #[.int .i64 (mo : Int), .bool x, .pointer (some ⟨bt, 0, none⟩), .pointer (some ⟨bo, 0, none⟩)] w fun e w' => e = .returned (.bool ((ls.getD mo []).getD v.toNat false)) ∧ ∃ q, w' = w.drewN q := by
  obtain ⟨lb', lo, e0, hlb, u, hcu, hbu⟩ := hT.lets.at (i := mo) (by rw [hT.hm]; exact hmo)
  obtain ⟨rfl, rfl⟩ : lb = lb' ∧ 0 = lo := by simpa using e0
  obtain ⟨uo, uc, rfl, hu⟩ := hbu
  obtain ⟨ub, uoff, rfl, hubl, hat⟩ := hu (by intro hh; rw [hh] at hv; simp at hv; omega)
  obtain ⟨vn, rfl⟩ : ∃ vn : Nat, v = vn := ⟨v.toNat, by omega⟩
  have cu := hat vn (by omega)
  have c3 := hT.c3
  have hm := hT.hm24
  simp only [Int.toNat_natCast, Nat.zero_add] at *
  generalize (ls.getD mo []).getD vn false = y at *
  generalize (ls.getD mo []).length = xn at *
  have hvn : vn < xn := by omega
  clear hat hu hT e0
  go_enter Tryz.func100, Tryz.ntmps100
  go_wp2_with fail
  go_quiet (fail)
  go_wp2_with fail
  go_ret
  exact ⟨rfl, _, rfl⟩

set_option maxRecDepth 20000 in
theorem after_any (b off n cap B : Nat) (aao : Option Addr) (an ac lb m lcap s R : Nat) (now : Nat) (w : World) (hm : m ≤ 24) (hnow : now < m) :
    Calls Tryz.prog 97 #[.agg #[.slice (some ⟨b, off, none⟩) n cap, .slice (some ⟨B, 0, none⟩) n n, .slice aao an ac, .slice (some ⟨lb, 0, none⟩) m lcap, .int .i64 (s : Int), .slice (some ⟨R, 0, none⟩) n n], .int .i64 (now : Int)] w fun e w' => e = .returned (.int .i64 ((if now = m - 1 then s else now + 1 : Nat) : Int)) ∧ Below w.heap.size w w' := by
  have hA : ∀ o, Below w.heap.size w (w.alloc o) := fun o => (Below.refl _ _).alloc (Nat.le_refl _) o
  by_cases hl : now = m - 1
  · rw [if_pos hl]
    have hl' : (now : Int) = (m : Int) - 1 := by omega
    rw [hl']
    clear hl hl' hnow
    go_enter Tryz.func97, Tryz.ntmps97
    go_wp2_with fail
    go_ret
    exact ⟨rfl, hA _⟩
  · rw [if_neg hl]
    have hl' : ¬ (now : Int) = (m : Int) - 1 := by omega
    clear hl
    go_enter Tryz.func97, Tryz.ntmps97
    go_wp2_with fail
    go_ret
    exact ⟨by simp, hA _⟩

/-- A LAW, HANDED OUT AS A FUNCTION: at each moment it says u, or v and what it is told of the next moment. -/
def LawAt (w : World) (F : Value) (m : Nat) (u v : Nat → Bool) : Prop := ∃ f caps, F = .func (.func f) #[] caps ∧ (∀ args w, (callFunc f args).run Tryz.prog w = .ok (.enter f args) w) ∧ ∀ w', Below w.heap.size w w' → ∀ (now : Nat) (x : Bool), now < m → Calls Tryz.prog f (#[.int .i64 (now : Int), .bool x] ++ caps) w' fun e w2 => e = .returned (.bool (u now || (v now && x))) ∧ Below w'.heap.size w' w2

/-- the boxes of the two functions that tell of the parts. -/
structure FunIn (w : World) (bt bp bf bs : Nat) : Prop where
  f1 : w.cell? ⟨bf, 0, none⟩ = some (.func (.func 98) #[] #[.pointer (some ⟨bt, 0, none⟩), .pointer (some ⟨bp, 0, none⟩)])
  f2 : w.cell? ⟨bs, 0, none⟩ = some (.func (.func 99) #[] #[.pointer (some ⟨bt, 0, none⟩), .pointer (some ⟨bp, 0, none⟩)])
  hbf : bf < w.heap.size
  hbs : bs < w.heap.size
set_option maxRecDepth 20000 in
theorem FunIn.below {w w' : World} {bt bp bf bs : Nat} (t : FunIn w bt bp bf bs) (hb : Below w.heap.size w w') : FunIn w' bt bp bf bs :=
  ⟨(hb.cell (p := ⟨bf, 0, none⟩) t.hbf).trans t.f1, (hb.cell (p := ⟨bs, 0, none⟩) t.hbs).trans t.f2, Nat.lt_of_lt_of_le t.hbf hb.size, Nat.lt_of_lt_of_le t.hbs hb.size⟩

set_option maxRecDepth 20000 in
theorem law5_w (w : World) (bt bp b off n cap B : Nat) (aao : Option Addr) (an ac lb m lcap s R p : Nat) (l : List (Int × Int)) (ls : List (List Bool)) (h : Nat → Nat → Bool) (bf bs : Nat) (now : Nat) (x : Bool) (hT : TabIn w bt bp b off n cap B aao an ac lb m lcap s R p l ls h) (hF : FunIn w bt bp bf bs) (hp : p + 1 < n) (hnow : now < m) :
    Calls Tryz.prog 102 #[.int .i64 (now : Int), .bool x, .pointer (some ⟨bf, 0, none⟩)] w fun e w' => e = .returned (.bool (!h (p + 1) now)) ∧ w' = w := by
  have hf := first_w w bt bp b off n cap B aao an ac lb m lcap s R p l ls h now hT hp hnow
  have f1 := hF.f1
  generalize h (p + 1) now = y at *
  clear hT hF
  cases y
  all_goals
    go_enter Tryz.func102, Tryz.ntmps102
    go_wp2_with (go_at_call 98; refine hf.mono ?_; rintro e w1 ⟨rfl, hw1⟩; obtain rfl := hw1.symm)
    go_ret
    exact ⟨by first | rfl | simp, rfl⟩

set_option maxRecDepth 20000 in
theorem law9_w (w : World) (bt bp b off n cap B : Nat) (aao : Option Addr) (an ac lb m lcap s R p : Nat) (l : List (Int × Int)) (ls : List (List Bool)) (h : Nat → Nat → Bool) (bf bs : Nat) (now : Nat) (x : Bool) (hT : TabIn w bt bp b off n cap B aao an ac lb m lcap s R p l ls h) (hF : FunIn w bt bp bf bs) (hp : p + 1 < n) (hnow : now < m) :
    Calls Tryz.prog 106 #[.int .i64 (now : Int), .bool x, .pointer (some ⟨bf, 0, none⟩)] w fun e w' => e = .returned (.bool (h (p + 1) now || x)) ∧ w' = w := by
  have hf := first_w w bt bp b off n cap B aao an ac lb m lcap s R p l ls h now hT hp hnow
  have f1 := hF.f1
  generalize h (p + 1) now = y at *
  clear hT hF
  cases y
  all_goals
    go_enter Tryz.func106, Tryz.ntmps106
    go_wp2_with (go_at_call 98; refine hf.mono ?_; rintro e w1 ⟨rfl, hw1⟩; obtain rfl := hw1.symm)
    go_ret
    exact ⟨by first | rfl | simp, rfl⟩

set_option maxRecDepth 20000 in
theorem law10_w (w : World) (bt bp b off n cap B : Nat) (aao : Option Addr) (an ac lb m lcap s R p : Nat) (l : List (Int × Int)) (ls : List (List Bool)) (h : Nat → Nat → Bool) (bf bs : Nat) (now : Nat) (x : Bool) (hT : TabIn w bt bp b off n cap B aao an ac lb m lcap s R p l ls h) (hF : FunIn w bt bp bf bs) (hp : p + 1 < n) (hnow : now < m) :
    Calls Tryz.prog 107 #[.int .i64 (now : Int), .bool x, .pointer (some ⟨bf, 0, none⟩)] w fun e w' => e = .returned (.bool (h (p + 1) now && x)) ∧ w' = w := by
  have hf := first_w w bt bp b off n cap B aao an ac lb m lcap s R p l ls h now hT hp hnow
  have f1 := hF.f1
  generalize h (p + 1) now = y at *
  clear hT hF
  cases y
  all_goals
    go_enter Tryz.func107, Tryz.ntmps107
    go_wp2_with (go_at_call 98; refine hf.mono ?_; rintro e w1 ⟨rfl, hw1⟩; obtain rfl := hw1.symm)
    go_ret
    exact ⟨by first | rfl | simp, rfl⟩

set_option maxHeartbeats 800000 in
set_option maxRecDepth 20000 in
theorem law6_w (w : World) (bt bp b off n cap B : Nat) (aao : Option Addr) (an ac lb m lcap s R p : Nat) (l : List (Int × Int)) (ls : List (List Bool)) (h : Nat → Nat → Bool) (bf bs : Nat) (now : Nat) (x : Bool) (hT : TabIn w bt bp b off n cap B aao an ac lb m lcap s R p l ls h) (hF : FunIn w bt bp bf bs) (hp : p + 1 < n) (hs1 : p < sec l p) (hs2 : sec l p < n) (hnow : now < m) :
    Calls Tryz.prog 103 #[.int .i64 (now : Int), .bool x, .pointer (some ⟨bf, 0, none⟩), .pointer (some ⟨bs, 0, none⟩)] w fun e w' => e = .returned (.bool (h (p + 1) now && h (sec l p) now)) ∧ ∃ q, w' = w.drewN q := by
  have hf := fun q => first_w (w.drewN q) bt bp b off n cap B aao an ac lb m lcap s R p l ls h now (hT.below (below_drewN (Below.refl _ _) q)) hp hnow
  have hs := fun q => second_w (w.drewN q) bt bp b off n cap B aao an ac lb m lcap s R p l ls h now (hT.below (below_drewN (Below.refl _ _) q)) hp hs1 hs2 hnow
  have f1 := hF.f1
  have f2 := hF.f2
  generalize h (p + 1) now = y at *
  generalize h (sec l p) now = z at *
  clear hT hF
  cases y <;> cases z
  all_goals
    go_enter Tryz.func103, Tryz.ntmps103
    go_wp2_with (first | (go_at_call 98; first | (refine (hf 0).mono ?_; rintro e w1 ⟨rfl, hw1⟩; obtain rfl := hw1.symm) | (refine (hf _).mono ?_; rintro e w1 ⟨rfl, hw1⟩; obtain rfl := hw1.symm)) | (go_at_call 99; first | (refine (hs 0).mono ?_; rintro e w1 ⟨rfl, q1, rfl⟩) | (refine (hs _).mono ?_; rintro e w1 ⟨rfl, q1, rfl⟩)))
    go_ret
    exact ⟨by first | rfl | simp, by first | exact ⟨0, rfl⟩ | exact ⟨_, rfl⟩ | exact ⟨_, World.drewN_drewN _ _ _⟩ | (exact ⟨_, by simp only [World.drewN_drewN]; rfl⟩)⟩

set_option maxHeartbeats 800000 in
set_option maxRecDepth 20000 in
theorem law7_w (w : World) (bt bp b off n cap B : Nat) (aao : Option Addr) (an ac lb m lcap s R p : Nat) (l : List (Int × Int)) (ls : List (List Bool)) (h : Nat → Nat → Bool) (bf bs : Nat) (now : Nat) (x : Bool) (hT : TabIn w bt bp b off n cap B aao an ac lb m lcap s R p l ls h) (hF : FunIn w bt bp bf bs) (hp : p + 1 < n) (hs1 : p < sec l p) (hs2 : sec l p < n) (hnow : now < m) :
    Calls Tryz.prog 104 #[.int .i64 (now : Int), .bool x, .pointer (some ⟨bf, 0, none⟩), .pointer (some ⟨bs, 0, none⟩)] w fun e w' => e = .returned (.bool (h (p + 1) now || h (sec l p) now)) ∧ ∃ q, w' = w.drewN q := by
  have hf := fun q => first_w (w.drewN q) bt bp b off n cap B aao an ac lb m lcap s R p l ls h now (hT.below (below_drewN (Below.refl _ _) q)) hp hnow
  have hs := fun q => second_w (w.drewN q) bt bp b off n cap B aao an ac lb m lcap s R p l ls h now (hT.below (below_drewN (Below.refl _ _) q)) hp hs1 hs2 hnow
  have f1 := hF.f1
  have f2 := hF.f2
  generalize h (p + 1) now = y at *
  generalize h (sec l p) now = z at *
  clear hT hF
  cases y <;> cases z
  all_goals
    go_enter Tryz.func104, Tryz.ntmps104
    go_wp2_with (first | (go_at_call 98; first | (refine (hf 0).mono ?_; rintro e w1 ⟨rfl, hw1⟩; obtain rfl := hw1.symm) | (refine (hf _).mono ?_; rintro e w1 ⟨rfl, hw1⟩; obtain rfl := hw1.symm)) | (go_at_call 99; first | (refine (hs 0).mono ?_; rintro e w1 ⟨rfl, q1, rfl⟩) | (refine (hs _).mono ?_; rintro e w1 ⟨rfl, q1, rfl⟩)))
    go_ret
    exact ⟨by first | rfl | simp, by first | exact ⟨0, rfl⟩ | exact ⟨_, rfl⟩ | exact ⟨_, World.drewN_drewN _ _ _⟩ | (exact ⟨_, by simp only [World.drewN_drewN]; rfl⟩)⟩

set_option maxHeartbeats 800000 in
set_option maxRecDepth 20000 in
theorem law11_w (w : World) (bt bp b off n cap B : Nat) (aao : Option Addr) (an ac lb m lcap s R p : Nat) (l : List (Int × Int)) (ls : List (List Bool)) (h : Nat → Nat → Bool) (bf bs : Nat) (now : Nat) (x : Bool) (hT : TabIn w bt bp b off n cap B aao an ac lb m lcap s R p l ls h) (hF : FunIn w bt bp bf bs) (hp : p + 1 < n) (hs1 : p < sec l p) (hs2 : sec l p < n) (hnow : now < m) :
    Calls Tryz.prog 108 #[.int .i64 (now : Int), .bool x, .pointer (some ⟨bs, 0, none⟩), .pointer (some ⟨bf, 0, none⟩)] w fun e w' => e = .returned (.bool (h (sec l p) now || (h (p + 1) now && x))) ∧ ∃ q, w' = w.drewN q := by
  have hf := fun q => first_w (w.drewN q) bt bp b off n cap B aao an ac lb m lcap s R p l ls h now (hT.below (below_drewN (Below.refl _ _) q)) hp hnow
  have hs := fun q => second_w (w.drewN q) bt bp b off n cap B aao an ac lb m lcap s R p l ls h now (hT.below (below_drewN (Below.refl _ _) q)) hp hs1 hs2 hnow
  have f1 := hF.f1
  have f2 := hF.f2
  generalize h (p + 1) now = y at *
  generalize h (sec l p) now = z at *
  clear hT hF
  cases y <;> cases z
  all_goals
    go_enter Tryz.func108, Tryz.ntmps108
    go_wp2_with (first | (go_at_call 98; first | (refine (hf 0).mono ?_; rintro e w1 ⟨rfl, hw1⟩; obtain rfl := hw1.symm) | (refine (hf _).mono ?_; rintro e w1 ⟨rfl, hw1⟩; obtain rfl := hw1.symm)) | (go_at_call 99; first | (refine (hs 0).mono ?_; rintro e w1 ⟨rfl, q1, rfl⟩) | (refine (hs _).mono ?_; rintro e w1 ⟨rfl, q1, rfl⟩)))
    go_ret
    exact ⟨by first | rfl | simp, by first | exact ⟨0, rfl⟩ | exact ⟨_, rfl⟩ | exact ⟨_, World.drewN_drewN _ _ _⟩ | (exact ⟨_, by simp only [World.drewN_drewN]; rfl⟩)⟩

set_option maxHeartbeats 800000 in
set_option maxRecDepth 20000 in
theorem law12_w (w : World) (bt bp b off n cap B : Nat) (aao : Option Addr) (an ac lb m lcap s R p : Nat) (l : List (Int × Int)) (ls : List (List Bool)) (h : Nat → Nat → Bool) (bf bs : Nat) (now : Nat) (x : Bool) (hT : TabIn w bt bp b off n cap B aao an ac lb m lcap s R p l ls h) (hF : FunIn w bt bp bf bs) (hp : p + 1 < n) (hs1 : p < sec l p) (hs2 : sec l p < n) (hnow : now < m) :
    Calls Tryz.prog 109 #[.int .i64 (now : Int), .bool x, .pointer (some ⟨bs, 0, none⟩), .pointer (some ⟨bf, 0, none⟩)] w fun e w' => e = .returned (.bool (h (sec l p) now && (h (p + 1) now || x))) ∧ ∃ q, w' = w.drewN q := by
  have hf := fun q => first_w (w.drewN q) bt bp b off n cap B aao an ac lb m lcap s R p l ls h now (hT.below (below_drewN (Below.refl _ _) q)) hp hnow
  have hs := fun q => second_w (w.drewN q) bt bp b off n cap B aao an ac lb m lcap s R p l ls h now (hT.below (below_drewN (Below.refl _ _) q)) hp hs1 hs2 hnow
  have f1 := hF.f1
  have f2 := hF.f2
  generalize h (p + 1) now = y at *
  generalize h (sec l p) now = z at *
  clear hT hF
  cases y <;> cases z
  all_goals
    go_enter Tryz.func109, Tryz.ntmps109
    go_wp2_with (first | (go_at_call 98; first | (refine (hf 0).mono ?_; rintro e w1 ⟨rfl, hw1⟩; obtain rfl := hw1.symm) | (refine (hf _).mono ?_; rintro e w1 ⟨rfl, hw1⟩; obtain rfl := hw1.symm)) | (go_at_call 99; first | (refine (hs 0).mono ?_; rintro e w1 ⟨rfl, q1, rfl⟩) | (refine (hs _).mono ?_; rintro e w1 ⟨rfl, q1, rfl⟩)))
    go_ret
    exact ⟨by first | rfl | simp, by first | exact ⟨0, rfl⟩ | exact ⟨_, rfl⟩ | exact ⟨_, World.drewN_drewN _ _ _⟩ | (exact ⟨_, by simp only [World.drewN_drewN]; rfl⟩)⟩

set_option maxHeartbeats 800000 in
set_option maxRecDepth 20000 in
theorem law8_w (w : World) (bt bp b off n cap B : Nat) (aao : Option Addr) (an ac lb m lcap s R p : Nat) (l : List (Int × Int)) (ls : List (List Bool)) (h : Nat → Nat → Bool) (bf bs : Nat) (now : Nat) (x : Bool) (hT : TabIn w bt bp b off n cap B aao an ac lb m lcap s R p l ls h) (hF : FunIn w bt bp bf bs) (hp : p + 1 < n) (hnow : now < m) :
    Calls Tryz.prog 105 #[.int .i64 (now : Int), .bool x, .pointer (some ⟨bf, 0, none⟩), .pointer (some ⟨bt, 0, none⟩)] w fun e w' => e = .returned (.bool (h (p + 1) (if now = m - 1 then s else now + 1))) ∧ Below w.heap.size w w' := by
  have haf := fun w1 => after_any b off n cap B aao an ac lb m lcap s R now w1 hT.hm24 hnow
  have hlt : (if now = m - 1 then s else now + 1) < m := by have := hT.hs; split <;> omega
  generalize (if now = m - 1 then s else now + 1) = nx at *
  have HF : Hid (∀ w1, Below w.heap.size w w1 → Calls Tryz.prog 98 #[.int .i64 (nx : Int), .pointer (some ⟨bt, 0, none⟩), .pointer (some ⟨bp, 0, none⟩)] w1 fun e w' => e = .returned (.bool (h (p + 1) nx)) ∧ w' = w1) := fun w1 hb => first_w w1 bt bp b off n cap B aao an ac lb m lcap s R p l ls h nx (hT.below hb) hp hlt
  have HS : Hid (∀ w1, Below w.heap.size w w1 → w1.cell? ⟨bf, 0, none⟩ = some (.func (.func 98) #[] #[.pointer (some ⟨bt, 0, none⟩), .pointer (some ⟨bp, 0, none⟩)]) ∧ w1.cell? ⟨bt, 0, none⟩ = some (.slice (some ⟨b, off, none⟩) n cap) ∧ w1.cell? ⟨bt, 1, none⟩ = some (.slice (some ⟨B, 0, none⟩) n n) ∧ w1.cell? ⟨bt, 2, none⟩ = some (.slice aao an ac) ∧ w1.cell? ⟨bt, 3, none⟩ = some (.slice (some ⟨lb, 0, none⟩) m lcap) ∧ w1.cell? ⟨bt, 4, none⟩ = some (.int .i64 (s : Int)) ∧ w1.cell? ⟨bt, 5, none⟩ = some (.slice (some ⟨R, 0, none⟩) n n) ∧ Below w.heap.size w w1) := fun w1 hb => by
    have t := hT.below hb
    exact ⟨(hF.below hb).f1, t.c0, t.c1, t.c2, t.c3, t.c4, t.c5, hb⟩
  have hS := HS.out
  have hB0 : Below w.heap.size w w := Below.refl _ _
  generalize h (p + 1) nx = y at *
  clear hT hF
  go_enter Tryz.func105, Tryz.ntmps105
  go_wp2_with fail
  go_region_held3 (fun w' => w'.cell? ⟨bf, 0, none⟩ = some (.func (.func 98) #[] #[.pointer (some ⟨bt, 0, none⟩), .pointer (some ⟨bp, 0, none⟩)]) ∧ w'.cell? ⟨bt, 0, none⟩ = some (.slice (some ⟨b, off, none⟩) n cap) ∧ w'.cell? ⟨bt, 1, none⟩ = some (.slice (some ⟨B, 0, none⟩) n n) ∧ w'.cell? ⟨bt, 2, none⟩ = some (.slice aao an ac) ∧ w'.cell? ⟨bt, 3, none⟩ = some (.slice (some ⟨lb, 0, none⟩) m lcap) ∧ w'.cell? ⟨bt, 4, none⟩ = some (.int .i64 (s : Int)) ∧ w'.cell? ⟨bt, 5, none⟩ = some (.slice (some ⟨R, 0, none⟩) n n) ∧ Below w.heap.size w w')
    (exact hS _ (by first | exact hB0 | exact hB0.drew | exact hb4))
    (first | (go_at_call 97; refine (haf _).mono ?_; rintro e w4 ⟨rfl, hb4'⟩; have hb4 := hB0.drew.trans (hb4'.mono hB0.drew.size)) | (go_at_call 98; refine (HF.out _ hb4).mono ?_; rintro e w5 ⟨rfl, hw5⟩; obtain rfl := hw5.symm))
  go_wp2_with fail
  go_ret
  exact ⟨rfl, hb4⟩
set_option maxRecDepth 20000 in
theorem law4_w (w : World) (now : Nat) (x : Bool) : Calls Tryz.prog 101 #[.int .i64 (now : Int), .bool x] w fun e w' => e = .returned (.bool true) ∧ w' = w := by
  go_enter Tryz.func101, Tryz.ntmps101
  go_wp2_with fail
  go_ret
  exact ⟨rfl, rfl⟩
set_option maxRecDepth 20000 in
theorem law13_w (w : World) (now : Nat) (x : Bool) : Calls Tryz.prog 110 #[.int .i64 (now : Int), .bool x] w fun e w' => e = .returned (.bool false) ∧ w' = w := by
  go_enter Tryz.func110, Tryz.ntmps110
  go_wp2_with fail
  go_ret
  exact ⟨rfl, rfl⟩
end Go.Proofs.YtnicbkkkecfdpaaGreatDoor
