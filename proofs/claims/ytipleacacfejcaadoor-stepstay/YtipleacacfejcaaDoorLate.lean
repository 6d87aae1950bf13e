/-
  Joined out of ShelfClone, Eval2, StepRule, StepAfter, MProps, Bools, StepLetter, ShelfSort, SortOwn, Nexts, StepNext, KeepNext, StayM, KeepAfter, SsWalk, in their order: a claim bears at most so many files.
-/
import Derived.Ground.Names2Prog
import Derived.Shelf.Slices.Clone
import Derived.Lib.OwnBridge
import Derived.Laws.OwnMore
import Derived.Test.YtipleacacfejcaaDoorValRes
import Derived.Test.YtipleacacfejcaaDoorEval
import Derived.Test.YtipleacacfejcaaDoorSteps
import Derived.Test.YtipleacacfejcaaDoorMCode
import Derived.Deep.RegionHeld3
import Derived.Test.YtipleacacfejcaaDoorMValues
import Derived.Test.YtipleacacfejcaaDoorMCheck2
import Derived.Test.YtipleacacfejcaaDoorMem
import Derived.Deep.OwnRows
import Derived.Shelf.Sort.Plain
import Derived.Shelf.Slices.CompactI
import Derived.Test.YtipleacacfejcaaDoorIntsOf
import Derived.Sort.OwnSortedInts
import Derived.Lib.RowBridge
import Derived.Deep.AppendLies
import Derived.Test.YtipleacacfejcaaDoorKeepStates
import Derived.Test.YtipleacacfejcaaDoorKeepMore
import Derived.Test.YtipleacacfejcaaDoorKeepRows
import Derived.Deep.RegionLaw
import Derived.Deep.Cut
import Derived.Deep.CutBlock
import Derived.Deep.CutRange
import Derived.Deep.DeepCutAuto
/-
  The library's slices.Clone at lists of numbers: its contract at this program.
-/
namespace Go.Proofs.YtipleacacfejcaaDoor
open Go.Shelf Go.RowKit Go.Lib
def laysClone_ren : Go.Shelf.Ren := ⟨fun | 15 => 28 | n => n, fun | 22 => 49 | 3 => 3 | 4 => 4 | n => n, fun | n => n⟩
set_option maxRecDepth 20000 in
theorem laysClone : Go.Proofs.Lays2.n15 Tryd.prog laysClone_ren := {
  mixed := by kernel_rfl
  f15 := Tryd.func28.trans (congrArg some (by kernel_rfl))
  t3 := Tryd.underlying3
  a3 := Tryd.isAgg3
  z3 := Tryd.sizeOf3
  v3 := Tryd.zeroValue3
  t4 := Tryd.underlying4
  a4 := Tryd.isAgg4
  z4 := Tryd.sizeOf4
  v4 := Tryd.zeroValue4
  t22 := Tryd.underlying49
  a22 := Tryd.isAgg49
  z22 := Tryd.sizeOf49
  v22 := Tryd.zeroValue49
  i3 := by kernel_rfl }
set_option maxRecDepth 20000 in
/-- a copy of numbers that lie in a block of their own. -/
theorem clone_any (B : Nat) (l : List Int) (w : World) (hl : l.length ≤ 10000) (hr : w.rowIs B 3 l.length (fun j => .int .i64 (l.getD j 0))) :
    Calls Tryd.prog 28 #[.slice (some ⟨B, 0, none⟩) l.length l.length] w fun e w' => ∃ g cap, e = .returned (.slice (some ⟨g, 0, none⟩) l.length cap) ∧ w.heap.size ≤ g ∧ Below w.heap.size w w' ∧ w'.ownsRow w.heap.size 3 1 (.slice (some ⟨g, 0, none⟩) l.length cap) l.length (ivals l) := by
  have h : Calls Tryd.prog 28 #[.slice (some ⟨B, 0, none⟩) l.length l.length] w fun e w' => ∃ v', e = .returned v' ∧ w'.ownsRow w.heap.size 3 1 v' l.length ((l.take l.length).map (Value.int .i64)) ∧ v' ≠ .slice none 0 0 ∧ Below w.heap.size w w' :=
    Any.slices_Clone_int laysClone B 0 l.length l.length l w (Nat.le_refl _) (by omega) (fun j hj => by rw [Nat.zero_add]; exact hr.cell hj)
  refine h.mono fun e w' ⟨v', he, ho, hn, hb⟩ => ?_
  rw [List.take_length] at ho
  obtain ⟨g, cap, rfl, hg, _⟩ := Lib.holds_of_ownsRow ho hn
  exact ⟨g, cap, he, hg, hb, ho⟩
end Go.Proofs.YtipleacacfejcaaDoor

/-
  The contract of expr.Eval, where Check says yes.
-/
namespace Go.Proofs.YtipleacacfejcaaDoor
open Go.ChangeShapes Go.WideShapes Go.ChangeAt Go.RowKit Go.Deep
open Terms Tm

/-- the values, as they lie. -/
def EnvAt (w : World) (eao : Option Addr) (env : List Int) : Prop := ∀ i, i < env.length → ∃ eb eoff, eao = some ⟨eb, eoff, none⟩ ∧ eb < w.heap.size ∧ w.cell? ⟨eb, eoff + i, none⟩ = some (.int .i64 (env.getD i 0))
set_option maxRecDepth 20000 in
theorem EnvAt.later {w w' : World} {eao : Option Addr} {env : List Int} (h : EnvAt w eao env) (hb : Below w.heap.size w w') : EnvAt w' eao env := fun i hi => by
  obtain ⟨eb, eoff, e1, e2, e3⟩ := h i hi
  exact ⟨eb, eoff, e1, Nat.lt_of_lt_of_le e2 hb.size, (hb.cell (p := ⟨eb, eoff + i, none⟩) e2).trans e3⟩

def evalPost (env : List Int) (t : Tm) (w : World) (e : Ending) (w' : World) : Prop :=
  e = .returned (.tuple #[.int .i64 (if envBad env = true then 0 else match t.eval env with | some x => x | none => 0), .int .i64 (if envBad env = true then 2 else match t.eval env with | some _ => 0 | none => 8)]) ∧ Below w.heap.size w w'

set_option maxRecDepth 20000 in
set_option maxHeartbeats 3200000 in
theorem eval_yes (b off n cap : Nat) (eao : Option Addr) (en ecap : Nat) (t : Tm) (env : List Int) (w : World) (hn : n = t.size) (h60 : n ≤ 60) (hen : en = env.length) (hen6 : en ≤ 6) (hg : t.Good env.length) (hty : t.typed = true) (hbB : b < w.heap.size) (hA : OpsAt w b off t.ops) (hE : EnvAt w eao env)
    (heo : Calls Tryd.prog 39 #[.slice (some ⟨b, off, none⟩) n cap, .int .i64 en] (e0 w) fun e w' => Below (e0 w).heap.size (e0 w) w' ∧ ∃ B, (e0 w).heap.size ≤ B ∧ e = .returned (.tuple #[.slice (some ⟨B, 0, none⟩) n n, .int .i64 0]) ∧ w'.rowIs B 3 n (fun q => .int .i64 (endAt (t.ops.map Prod.fst) q))) :
    Calls Tryd.prog 29 #[.slice (some ⟨b, off, none⟩) n cap, .slice eao en ecap] w (evalPost env t w) := by
  have hmf := hmakeFunc
  have HE : Hid (EnvAt w eao env) := hE
  have HA : Hid (OpsAt w b off t.ops) := hA
  have HN : Hid (n = t.size ∧ t.Good env.length ∧ t.typed = true ∧ en = env.length) := ⟨hn, hg, hty, hen⟩
  have hn1 : 0 < n := by rw [hn]; exact t.size_pos
  have hzs : (e0 w).heap.size = w.heap.size + 1 + 1 := by simp [e0]
  clear hE hA hn hg hty hen
  go_enter_defers Tryd.func29, Tryd.ntmps29
  go_wp2_with (go_at_call 39; refine heo.mono ?_; rintro e w2 ⟨hb2, B, hBw, rfl, hrow⟩; obtain ⟨c0, c1, f0, f1, hsz, hbw⟩ := e0_cells w hb2)
  obtain ⟨W3, hW3⟩ : ∃ W3, W3 = w2.setCell ⟨w.heap.size + 1, 0, none⟩ (.int .i64 0) := ⟨_, rfl⟩
  have hb3 : Below w.heap.size w W3 := by rw [hW3]; exact hbw.setCell (p := ⟨w.heap.size + 1, 0, none⟩) (by simp) _
  have d0 : W3.cell? ⟨w.heap.size, 0, none⟩ = some (.int .i64 0) := by rw [hW3]; simp [go_sem, c0]
  have d1 : W3.cell? ⟨w.heap.size + 1, 0, none⟩ = some (.int .i64 0) := by rw [hW3]; simp [go_sem, c1]
  have g0 : W3.frozen? ⟨w.heap.size, 0, none⟩ = false := by rw [hW3]; simp [go_sem, f0]
  have g1 : W3.frozen? ⟨w.heap.size + 1, 0, none⟩ = false := by rw [hW3]; simp [go_sem, f1]
  have hrow3 : W3.rowIs B 3 n (fun q => .int .i64 (endAt (t.ops.map Prod.fst) q)) := by rw [hW3]; exact hrow.setOther (by simp; omega) _
  have hsz3 : w.heap.size + 1 < W3.heap.size := by rw [hW3]; simpa using hsz
  have HW3 := (show Hid _ from hW3)
  have HR : Hid (W3.rowIs B 3 n (fun q => .int .i64 (endAt (t.ops.map Prod.fst) q))) := hrow3
  rw [← hW3]
  clear hW3 hrow3 hrow heo hb2 c0 c1 f0 f1 hsz hbw HW3
  go_loop [23] (fun c => ∃ i : Nat, i ≤ en ∧ c = .int .i64 i ∧ Hid (∀ j, j < i → -1000000 ≤ env.getD j 0 ∧ env.getD j 0 ≤ 1000000)) (fun c => en - (intOf c).toNat)
  case atStart => exact ⟨0, Nat.zero_le _, rfl, fun j hj => by omega⟩
  case round =>
    obtain ⟨i, hi, rfl, HJ⟩ := hrel
    by_cases hlt : i < en
    · obtain ⟨eb, eoff, rfl, e2, e3⟩ := (HE.out.later hb3) i (by rw [← HN.out.2.2.2]; exact hlt)
      have htg := fun w => tooGreat_any (env.getD i 0) w
      by_cases hz : -1000000 ≤ env.getD i 0 ∧ env.getD i 0 ≤ 1000000
      · rw [show decide (¬ (-1000000 ≤ env.getD i 0 ∧ env.getD i 0 ≤ 1000000)) = false by simpa using hz] at htg
        have HJ2 : Hid (∀ j, j < i + 1 → -1000000 ≤ env.getD j 0 ∧ env.getD j 0 ≤ 1000000) := fun j hj => by
          by_cases hji : j < i
          · exact HJ.out j hji
          · obtain rfl : j = i := by omega
            exact hz
        clear hz
        generalize env.getD i 0 = x at e3 htg
        go_wp2_with (go_at_call 40; refine (htg _).mono ?_; rintro e w5 ⟨rfl, rfl⟩)
        go_round
        case rel => exact ⟨i + 1, by omega, by go_num, HJ2⟩
        case measure => simp [intOf]; omega
      · have HX : Hid (envBad env = true) := envBad_at (by rw [← HN.out.2.2.2]; exact hlt) hz
        generalize env.getD i 0 = x at e3 htg hz
        rw [show decide (¬ (-1000000 ≤ x ∧ x ≤ 1000000)) = true by simp; omega] at htg
        clear hz
        go_wp2_with (go_at_call 40; refine (htg _).mono ?_; rintro e w5 ⟨rfl, rfl⟩)
        refine leaves_cons (f := 38) (args := #[.pointer (some ⟨w.heap.size, 0, none⟩), .pointer (some ⟨w.heap.size + 1, 0, none⟩)]) (by simp) (by simp [go_sem]) ?_
        refine (ecatch_idle w.heap.size _).mono ?_
        rintro e u' w'' ⟨rfl, rfl, rfl⟩
        simp [Leaves, settle, results, Tryd.results29, go_sem, d0, d1]
        unfold evalPost
        rw [if_pos HX.out, if_pos HX.out]
        exact ⟨rfl, (hb3.setCell (p := ⟨w.heap.size, 0, none⟩) (Nat.le_refl _) _).setCell (p := ⟨w.heap.size + 1, 0, none⟩) (by simp) _⟩
    · have hin : i = en := by omega
      subst hin
      have hok : envBad env = false := envBad_ok (fun j hj => HJ.out j (by rw [HN.out.2.2.2]; exact hj))
      have HX : Hid (envBad env = false) := hok
      have hpm := pairMakers_any W3
      clear hlt hi
      go_wp2_with (go_at_call 41; refine hpm.mono ?_; rintro e W4 ⟨M, hM, rfl, hpa, hb4⟩)
      have hb5 : Below W3.heap.size W3 (W4.alloc (.cells #[.slice (some ⟨b, off, none⟩) n cap, .slice (some ⟨B, 0, none⟩) n n, .slice eao i ecap, .map (some M)] 90)) := hb4.alloc hb4.size _
      have hpa5 : PairsAt (W4.alloc (.cells #[.slice (some ⟨b, off, none⟩) n cap, .slice (some ⟨B, 0, none⟩) n n, .slice eao i ecap, .map (some M)] 90)) M := World.ownsMap.alloc hpa _
      have hwk : WorkAt (W4.alloc (.cells #[.slice (some ⟨b, off, none⟩) n cap, .slice (some ⟨B, 0, none⟩) n n, .slice eao i ecap, .map (some M)] 90)) b off B eao M t env := by
        have hbb := hb3.trans (hb5.mono hb3.size)
        refine ⟨Nat.lt_of_lt_of_le hbB hbb.size, HA.out.below hbb hbB, ?_, HE.out.later hbb, hpa5⟩
        have hr := HR.out
        rw [HN.out.1] at hr
        exact hr.of_block (hb5.block B hr.lt)
      generalize W4.alloc (.cells #[.slice (some ⟨b, off, none⟩) n cap, .slice (some ⟨B, 0, none⟩) n n, .slice eao i ecap, .map (some M)] 90) = W5 at *
      have hat := at_any b off n cap B eao i ecap M env.length t env HN.out.1 h60 HN.out.2.1 HN.out.2.2.1 (envBad_false hok) rfl HN.out.2.2.2 t.size 0 W5 hn1 (by rw [sub_zero]; omega) hwk
      rw [sub_zero] at hat
      have hs3 := hb3.size
      have hs5 := hb5.size
      clear hwk hpa hpa5 hok hpm hb4 HR
      cases hx : t.eval env with
      | none =>
        rw [hx] at hat
        have HXN : Hid (t.eval env = none) := hx
        clear hx
        refine hat.mono ?_
        rintro e w6 ⟨hb6, rfl⟩
        have hb36 := hb5.trans (hb6.mono hb5.size)
        have k0 := (hb36.cell (p := ⟨w.heap.size, 0, none⟩) (by simp only; omega)).trans d0
        have k1 := (hb36.cell (p := ⟨w.heap.size + 1, 0, none⟩) (by simp only; omega)).trans d1
        have z0 := (hb36.frozen (p := ⟨w.heap.size, 0, none⟩) (by simp only; omega)).trans g0
        have z1 := (hb36.frozen (p := ⟨w.heap.size + 1, 0, none⟩) (by simp only; omega)).trans g1
        have hbf := hb3.trans (hb36.mono hb3.size)
        refine leaves_cons (f := 38) (args := #[.pointer (some ⟨w.heap.size, 0, none⟩), .pointer (some ⟨w.heap.size + 1, 0, none⟩)]) (by simp) (by simp [go_sem]) ?_
        refine (ecatch_panicking w.heap.size 8 _ _ w6 k0 k1 z0 z1).mono ?_
        rintro e u' w'' ⟨rfl, rfl, rfl⟩
        simp [Leaves, settle, results, Tryd.results29, go_sem, k0, k1]
        unfold evalPost
        rw [if_neg (by rw [HX.out]; simp), if_neg (by rw [HX.out]; simp), HXN.out]
        exact ⟨rfl, (((hbf.setCell (p := ⟨w.heap.size, 0, none⟩) (Nat.le_refl _) _).setCell (p := ⟨w.heap.size + 1, 0, none⟩) (by simp) _)).drew⟩
      | some x =>
        rw [hx] at hat
        have HXN : Hid (t.eval env = some x) := hx
        clear hx
        refine hat.mono ?_
        rintro e w6 ⟨hb6, rfl⟩
        have hb36 := hb5.trans (hb6.mono hb5.size)
        have k0 := (hb36.cell (p := ⟨w.heap.size, 0, none⟩) (by simp only; omega)).trans d0
        have k1 := (hb36.cell (p := ⟨w.heap.size + 1, 0, none⟩) (by simp only; omega)).trans d1
        have z0 := (hb36.frozen (p := ⟨w.heap.size, 0, none⟩) (by simp only; omega)).trans g0
        have z1 := (hb36.frozen (p := ⟨w.heap.size + 1, 0, none⟩) (by simp only; omega)).trans g1
        have hbf := hb3.trans (hb36.mono hb3.size)
        clear d0 d1 g0 g1 hat
        go_wp2_with fail
        refine leaves_cons (f := 38) (args := #[.pointer (some ⟨w.heap.size, 0, none⟩), .pointer (some ⟨w.heap.size + 1, 0, none⟩)]) (by simp) (by simp [go_sem]) ?_
        refine (ecatch_idle w.heap.size _).mono ?_
        rintro e u' w'' ⟨rfl, rfl, rfl⟩
        simp [Leaves, settle, results, Tryd.results29, go_sem, k0, k1]
        unfold evalPost
        rw [if_neg (by rw [HX.out]; simp), if_neg (by rw [HX.out]; simp), HXN.out]
        exact ⟨rfl, (hbf.setCell (p := ⟨w.heap.size, 0, none⟩) (Nat.le_refl _) _).setCell (p := ⟨w.heap.size + 1, 0, none⟩) (by simp) _⟩

set_option maxRecDepth 20000 in
theorem IntsV.env {w : World} {v : Value} {env : List Int} (h : IntsV w v env) : ∃ eao ecap, v = .slice eao env.length ecap ∧ EnvAt w eao env := by
  obtain ⟨ao, cap, rfl, h⟩ := h
  refine ⟨ao, cap, rfl, fun i hi => ?_⟩
  obtain ⟨b, off, rfl, hlt, hat⟩ := h (by intro h; subst h; simp at hi)
  exact ⟨b, off, rfl, hlt, hat i hi⟩

set_option maxRecDepth 20000 in
/-- THE CONTRACT OF expr.Eval. -/
theorem eval_any (v ev : Value) (l : List (Int × Int)) (env : List Int) (t : Tm) (w : World) (hB : 0 < w.heap.size) (hT : TabAt w) (hV : OpsV w v l) (hE : IntsV w ev env) (ht : endsCode (l.map Prod.fst) = 0 → t.Wf ∧ t.ops = l) :
    Calls Tryd.prog 29 #[v, ev] w fun e w' => e = .returned (.tuple #[.int .i64 (evalN l t env), .int .i64 (evalC l t env)]) ∧ Below w.heap.size w w' := by
  have hb0 := e0_below w
  have heo := eo_any v l env.length t (e0 w) (Nat.lt_of_lt_of_le hB hb0.size) (hT.below hb0 hB) (hV.below hb0) ht
  obtain ⟨eao, ecap, rfl, hEA⟩ := hE.env
  by_cases hx : xcode env.length l t = 0
  · obtain ⟨h0, h6, hops, hg, htt, h60⟩ := xcode_zero hx ht
    subst hops
    obtain ⟨ao, cap, rfl, _, h⟩ := hV
    obtain ⟨b, off, rfl, hlt, hat⟩ := h t.ops_ne
    refine (eval_yes b off _ cap eao _ ecap t env w t.ops_length (by rw [ops_length]; exact h60) rfl (by omega) hg htt hlt hat hEA (heo.mono fun e w' ⟨h1, _, h3⟩ => ⟨h1, ?_⟩)).mono fun e w' ⟨h1, h2⟩ => ⟨?_, h2⟩
    · obtain ⟨B, p1, p2, p3⟩ := h3 hx
      exact ⟨B, p1, p2, p3⟩
    · rw [h1]
      simp only [evalN, evalC, hx, ne_eq, not_true_eq_false, if_false]
      cases t.eval env <;> rfl
  · obtain ⟨ao, cap, rfl, _, h⟩ := hV
    refine (eval_no ao _ cap eao _ ecap _ w hx (heo.mono fun e w' ⟨h1, h2, _⟩ => ⟨h2 hx, h1⟩)).mono fun e w' ⟨h1, h2⟩ => ⟨?_, h2⟩
    rw [h1]
    unfold evalN evalC
    rw [if_pos hx, if_pos hx]
end Go.Proofs.YtipleacacfejcaaDoor

/-
  The contracts of package step's inner functions: holds, withoutRules, doRule.
-/
namespace Go.Proofs.YtipleacacfejcaaDoor
open Go.ChangeShapes Go.WideShapes Go.ChangeAt Go.RowKit Go.Deep
open Terms Tm

set_option maxRecDepth 20000 in
/-- THE CONTRACT OF expr.Eval, in the step's words. -/
theorem ex_any (v ev : Value) (l : List (Int × Int)) (env : List Int) (w : World) (hB : 0 < w.heap.size) (hT : TabAt w) (hV : OpsV w v l) (hE : IntsV w ev env) :
    Calls Tryd.prog 29 #[v, ev] w fun e w' => e = .returned (.tuple #[.int .i64 (exN l env), .int .i64 (exC l env)]) ∧ Below w.heap.size w w' :=
  eval_any v ev l env (treeOf l) w hB hT hV hE (treeOf_spec l)

set_option maxRecDepth 20000 in
set_option maxHeartbeats 800000 in
/-- THE CONTRACT OF holds. -/
theorem sholds_any (v ev : Value) (l : List (Int × Int)) (env : List Int) (w : World) (hB : 0 < w.heap.size) (hT : TabAt w) (hV : OpsV w v l) (hE : IntsV w ev env) :
    Calls Tryd.prog 27 #[v, ev] w fun e w' => e = .returned (.bool (holdsB l env)) ∧ Below w.heap.size w w' := by
  have hx := ex_any v ev l env w hB hT hV hE
  unfold holdsB
  generalize exN l env = n at hx ⊢
  generalize exC l env = c at hx ⊢
  clear hV hE hT
  go_enter Tryd.func27, Tryd.ntmps27
  go_wp2_with (go_at_call 29; refine hx.mono ?_; rintro e w1 ⟨rfl, hb1⟩)
  all_goals go_ret
  all_goals exact ⟨by first | (simp [*]; done) | (simp [*]; by_cases h1 : n = 1 <;> simp [h1]), hb1⟩

set_option maxRecDepth 20000 in
/-- THE CONTRACT OF withoutRules. -/
theorem bare_any (ao ro : Option Addr) (n cap rn rc : Nat) (w : World) :
    Calls Tryd.prog 31 #[.agg #[.slice ao n cap, .slice ro rn rc]] w fun e w' => e = .returned (.agg #[.slice ao n cap, .slice none 0 0]) ∧ Below w.heap.size w w' := by
  go_enter Tryd.func31, Tryd.ntmps31
  go_wp2_with fail
  exact bodyPost_ret (v := .agg #[.slice ao n cap, .slice none 0 0]) (by simp [results, Tryd.results31, go_sem]) rfl ⟨rfl, ((Below.refl _ _).alloc (Nat.le_refl _) _).alloc (by simp) _⟩

set_option maxHeartbeats 3200000 in
set_option maxRecDepth 20000 in
/-- THE CONTRACT OF doRule. -/
theorem doRule_any (va vr gv sv : Value) (B : Nat) (m : Mo) (env : List Int) (r : Ru) (w : World) (hB : 0 < w.heap.size) (hT : TabAt w) (hV : ModelV w va vr m) (hm : mcode m = 0) (hr : rcode m.vars.length r = 0) (he : env.length = m.vars.length)
    (hrow : w.rowIs B 3 env.length (fun j => .int .i64 (env.getD j 0))) (hg : OpsV w gv r.guard) (hs : SetsV w sv r.sets) :
    Calls Tryd.prog 19 #[.agg #[va, vr], .slice (some ⟨B, 0, none⟩) env.length env.length, .agg #[gv, sv]] w fun e w' => e = .returned (.tuple #[.int .i64 (optN (ruleDo m.vars env r)), .int .i64 (optC (ruleDo m.vars env r))]) ∧ Below w.heap.size w w' := by
  obtain ⟨h6, hsv⟩ := rule_sets hr
  have hv6 := (mcode_vars hm).1
  obtain ⟨ao, cap, rfl⟩ := hV.1.shape
  obtain ⟨ro, rc, rfl⟩ := hV.2.shape
  obtain ⟨go, gc, rfl⟩ := hg.shape
  obtain ⟨so, sc, rfl⟩ := hs.shape
  have hA2 : ∀ o o', Below w.heap.size w ((w.alloc o).alloc o') := fun o o' => ((Below.refl _ _).alloc (Nat.le_refl _) o).alloc (by simp) o'
  have hI : IntsV w (.slice (some ⟨B, 0, none⟩) env.length env.length) env := by
    have h1 := intsV_of_row hrow
    have e1 : (List.range env.length).map (fun j => env.getD j 0) = env := by
      apply List.ext_getElem?
      intro i
      by_cases hi : i < env.length
      · simp [hi, List.getD_eq_getElem?_getD]
      · simp [hi]
    rwa [e1] at h1
  have hho := fun w' (hb : Below w.heap.size w w') => sholds_any (.slice go r.guard.length gc) (.slice (some ⟨B, 0, none⟩) env.length env.length) r.guard env w' (Nat.lt_of_lt_of_le hB hb.size) (hT.below hb hB) (hg.below hb) (hI.below hb)
  have hcl := fun w' (hb : Below w.heap.size w w') => clone_any B env w' (by omega) (row_later hrow hb)
  have HEx : Hid (∀ w' (_ : Below w.heap.size w w') v l, OpsV w' v l → Calls Tryd.prog 29 #[v, .slice (some ⟨B, 0, none⟩) env.length env.length] w' fun e w2 => e = .returned (.tuple #[.int .i64 (exN l env), .int .i64 (exC l env)]) ∧ Below w'.heap.size w' w2) := fun w' hb v l hv => ex_any v _ l env w' (Nat.lt_of_lt_of_le hB hb.size) (hT.below hb hB) hv (hI.below hb)
  have HCo : Hid (∀ w' (_ : Below w.heap.size w w') vv vals, IntsV w' vv vals → Calls Tryd.prog 30 #[.agg #[.slice ao m.vars.length cap, .slice none 0 0], vv] w' fun e w2 => e = .returned (.tuple #[.int .i64 (cval ⟨m.vars, []⟩ vals), .int .i64 (ccode ⟨m.vars, []⟩ vals)]) ∧ Below w'.heap.size w' w2) := fun w' hb vv vals hi =>
    mcodes_any _ _ vv ⟨m.vars, []⟩ vals w' (Nat.lt_of_lt_of_le hB hb.size) (hT.below hb hB) ⟨hV.1.below hb, ⟨none, 0, rfl, ⟨by simp, fun _ => ⟨rfl, rfl⟩⟩, fun h => by simp at h⟩⟩ hi
  have HS : Hid (SetsV w (.slice so r.sets.length sc) r.sets) := hs
  have HSV : Hid (∀ j, j < r.sets.length → 0 ≤ (r.sets.getD j st0).var ∧ (r.sets.getD j st0).var < m.vars.length) := hsv
  have HE : Hid (env.length = m.vars.length) := he
  have HM0 : Hid (mcode ⟨m.vars, []⟩ = 0) := mcode_bare hm
  clear hV hT hg hs hsv hm hr hI hrow he
  by_cases hgd : holdsB r.guard env = true
  · rw [hgd] at hho
    go_enter Tryd.func19, Tryd.ntmps19
    go_wp2_with (go_at_call 27; refine (hho _ (hA2 _ _)).mono ?_; rintro e w1 ⟨rfl, hb1⟩; have hbw1 := (hA2 _ _).trans (hb1.mono (hA2 _ _).size))
    have hs1 : w.heap.size + 1 < w1.heap.size := by have := hb1.size; simp at this; omega
    have k10 : w1.cell? ⟨w.heap.size, 0, none⟩ = some (.slice ao m.vars.length cap) := (hb1.cell (p := ⟨w.heap.size, 0, none⟩) (by simp; omega)).trans (by simp [go_sem])
    have k11 : w1.cell? ⟨w.heap.size, 1, none⟩ = some (.slice ro m.rules.length rc) := (hb1.cell (p := ⟨w.heap.size, 1, none⟩) (by simp; omega)).trans (by simp [go_sem])
    have k12 : w1.cell? ⟨w.heap.size + 1, 1, none⟩ = some (.slice so r.sets.length sc) := (hb1.cell (p := ⟨w.heap.size + 1, 1, none⟩) (by simp)).trans (by simp [go_sem])
    have HC1 : Hid (∀ w', Below w1.heap.size w1 w' → w'.cell? ⟨w.heap.size, 0, none⟩ = some (.slice ao m.vars.length cap) ∧ w'.cell? ⟨w.heap.size, 1, none⟩ = some (.slice ro m.rules.length rc) ∧ w'.cell? ⟨w.heap.size + 1, 1, none⟩ = some (.slice so r.sets.length sc)) := fun w' hb => ⟨(hb.cell (p := ⟨w.heap.size, 0, none⟩) (by simp only; omega)).trans k10, (hb.cell (p := ⟨w.heap.size, 1, none⟩) (by simp only; omega)).trans k11, (hb.cell (p := ⟨w.heap.size + 1, 1, none⟩) hs1).trans k12⟩
    have HBW1 : Hid (Below w.heap.size w w1) := hbw1
    have hcl1 := hcl w1 hbw1
    clear hho hcl hb1 hbw1
    go_wp2_with (go_at_call 28; refine hcl1.mono ?_; rintro e w2 ⟨g, gcap, rfl, hgl, hb2, ho2⟩; obtain ⟨k20, k21, k22⟩ := HC1.out w2 hb2)
    have HO2 : Hid (w2.ownsRow w1.heap.size 3 1 (.slice (some ⟨g, 0, none⟩) env.length gcap) env.length (ivals env)) := ho2
    have HB2 : Hid (Below w1.heap.size w1 w2) := hb2
    have HRS : Hid (∀ j, j < r.sets.length → exC (r.sets.getD j st0).val env ≠ 0 → ruleDo m.vars env r = none) := fun j hj h => ruleDo_set hj h
    have HRC : Hid (setsOk env r → (ccode ⟨m.vars, []⟩ (behindL env r) = 0 → ruleDo m.vars env r = some (cval ⟨m.vars, []⟩ (behindL env r))) ∧ (ccode ⟨m.vars, []⟩ (behindL env r) ≠ 0 → ruleDo m.vars env r = none)) := fun h => ruleDo_code hgd h HE.out HM0.out rfl
    have HBL : Hid (behindL env r = setTo env r.sets r.sets.length) := rfl
    obtain ⟨sn, hsn⟩ : ∃ sn, sn = r.sets.length := ⟨_, rfl⟩
    have HSN : Hid (sn = r.sets.length) := hsn
    rw [← hsn] at h6 HS HC1 k22 ⊢
    obtain ⟨res, hres⟩ : ∃ res, ruleDo m.vars env r = res := ⟨_, rfl⟩
    rw [hres] at HRS HRC
    have HRes : Hid (ruleDo m.vars env r = res) := hres
    clear hcl1 ho2 hb2 hsn hres hgd
    go_loopw [25] (fun i wr => ∃ k : Nat, k ≤ sn ∧ i = .int .i64 k ∧ Hid (∀ j, j < k → exC (r.sets.getD j st0).val env = 0) ∧ Hid (wr.ownsRow w1.heap.size 3 1 (.slice (some ⟨g, 0, none⟩) env.length gcap) env.length (ivals (setTo env r.sets k))) ∧ Hid (Below w1.heap.size w1 wr)) (fun i _ => sn - (intOf i).toNat)
    case atStart => exact ⟨0, Nat.zero_le _, rfl, fun j hj => by omega, HO2.out, HB2.out⟩
    case round =>
      obtain ⟨k, hk, rfl, HOK, HOwn, HBel⟩ := hrel
      have hbel := HBel.out
      have hbw := HBW1.out.trans (hbel.mono HBW1.out.size)
      obtain ⟨kr0, kr1, kr2⟩ := HC1.out wr hbel
      by_cases hlt : k < sn
      · obtain ⟨b, off, rfl, hblt, hat⟩ := HS.out.at (i := k) (by rw [← HSN.out]; exact hlt)
        obtain ⟨c0, u, c1, hou⟩ := hat.below hbw hblt
        obtain ⟨uo, uc, rfl⟩ := hou.shape
        have HSk := HSV.out k (by rw [← HSN.out]; exact hlt)
        have HRk : Hid (exC (r.sets.getD k st0).val env ≠ 0 → res = none) := HRS.out k (by rw [← HSN.out]; exact hlt)
        have HStep : Hid (setTo env r.sets (k + 1) = (setTo env r.sets k).set (r.sets.getD k st0).var.toNat (exN (r.sets.getD k st0).val env)) := rfl
        have HOK2 : Hid (exC (r.sets.getD k st0).val env = 0 → ∀ j, j < k + 1 → exC (r.sets.getD j st0).val env = 0) := fun h j hj => by
          by_cases hjk : j = k
          · subst hjk; exact h
          · exact HOK.out j (by omega)
        have hAr : ∀ o, Below w.heap.size w (wr.alloc o) := fun o => hbw.alloc hbw.size o
        have hex := fun o => HEx.out (wr.alloc o) (hAr o) _ _ (hou.below ((Below.refl _ _).alloc (Nat.le_refl _) o))
        obtain ⟨hv0, hv1⟩ := HSk
        obtain ⟨vn, hvn⟩ : ∃ vn : Nat, (r.sets.getD k st0).var = vn := ⟨(r.sets.getD k st0).var.toNat, by omega⟩
        rw [hvn] at hv0 hv1 c0 HStep
        rw [Int.toNat_natCast] at HStep
        have hvn2 : vn < env.length := by rw [HE.out]; omega
        generalize exN (r.sets.getD k st0).val env = N at hex HStep
        generalize exC (r.sets.getD k st0).val env = C at hex HRk HOK2
        generalize (r.sets.getD k st0).val.length = ul at hex c1 hou
        have HBr : Hid (∀ o w4, Below (wr.alloc o).heap.size (wr.alloc o) w4 → Below w1.heap.size w1 w4 ∧ w4.ownsRow w1.heap.size 3 1 (.slice (some ⟨g, 0, none⟩) env.length gcap) env.length (ivals (setTo env r.sets k)) ∧ w4.cell? ⟨wr.heap.size, 0, none⟩ = (wr.alloc o).cell? ⟨wr.heap.size, 0, none⟩) := fun o w4 hb =>
          ⟨(hbel.alloc hbel.size o).trans (hb.mono (hbel.alloc hbel.size o).size), owns_later (owns_later HOwn.out ((Below.refl _ _).alloc (Nat.le_refl _) o) (Nat.le_refl _)) hb (Nat.le_refl _), hb.cell (p := ⟨wr.heap.size, 0, none⟩) (by simp)⟩
        clear hat hou hvn hAr HRS HEx HCo HS HSV HRC kr0 kr1 kr2 k20 k21 k22 k10 k11 k12 hbel hbw
        by_cases hC : C = 0
        · subst hC
          go_wp2_with (go_at_call 29; refine (hex _).mono ?_; rintro e w4 ⟨rfl, hb4⟩; obtain ⟨hb14, ho4, hcv⟩ := HBr.out _ w4 hb4; have hcell := ho4.cellAt vn (by omega); rw [show (ivals (setTo env r.sets k))[vn]? = some (.int .i64 ((setTo env r.sets k).getD vn 0)) by simp [ivals, List.getD_eq_getElem?_getD, setTo_length, hvn2]] at hcell; have hfz := ho4.frozenAt vn; have hcv2 : w4.cell? ⟨wr.heap.size, 0, none⟩ = some (.int .i64 vn) := (by rw [hcv]; simp [go_sem]))
          refine ⟨⟨k + 1, hlt, by first | rfl | simp, HOK2.out trivial, ?_, hb14.setCell hgl _⟩, by simp [intOf]; omega⟩
          have hst := (ho4.stored vn (.int .i64 N)).1
          rw [show (ivals (setTo env r.sets k)).set vn (.int .i64 N) = ivals (setTo env r.sets (k + 1)) by rw [HStep.out]; simp [ivals, List.map_set]] at hst
          exact hst
        · have HRN : Hid (res = none) := HRk.out hC
          go_wp2_with (go_at_call 29; refine (hex _).mono ?_; rintro e w4 ⟨rfl, hb4⟩; obtain ⟨hb14, ho4, hcv⟩ := HBr.out _ w4 hb4)
          go_ret2
          exact ⟨by rw [HRes.out, HRN.out]; rfl, HBW1.out.trans (hb14.mono HBW1.out.size)⟩
      · have hkn : k = sn := by omega
        subst hkn
        have hbe : behindL env r = setTo env r.sets k := by rw [HBL.out, HSN.out]
        have hrc := HRC.out (fun j hj => HOK.out j (by rw [HSN.out]; exact hj))
        have ho := HOwn.out
        rw [← hbe] at ho
        have hlb : (behindL env r).length = env.length := by rw [hbe, setTo_length]
        rw [← hlb] at ho
        have hba := bare_any ao ro m.vars.length cap m.rules.length rc wr
        have HI : Hid (∀ w', Below wr.heap.size wr w' → IntsV w' (.slice (some ⟨g, 0, none⟩) (behindL env r).length gcap) (behindL env r)) := fun w' hb => (intsV_of_owns ho).below hb
        rw [hlb] at HI
        have hco := fun w' (hb : Below wr.heap.size wr w') => HCo.out w' (hbw.trans (hb.mono hbw.size)) _ _ (HI.out w' hb)
        have HBWr : Hid (Below w.heap.size w wr) := hbw
        generalize cval ⟨m.vars, []⟩ (behindL env r) = cv at hco hrc
        generalize ccode ⟨m.vars, []⟩ (behindL env r) = cc at hco hrc
        obtain ⟨hrc0, hrc1⟩ := hrc
        clear hbe ho hlb HI HRC HRS HEx HCo HS HSV k20 k21 k22 k10 k11 k12 hbel hbw hlt hk HOK HOwn
        by_cases hcc : cc = 0
        · have hrn := hrc0 hcc
          subst hcc
          have HRN : Hid (res = some cv) := hrn
          clear hrc0 hrc1 hrn
          go_wp2_with (first | (go_at_call 31; refine hba.mono ?_; rintro e w5 ⟨rfl, hb5⟩) | (go_at_call 30; refine (hco _ hb5).mono ?_; rintro e w6 ⟨rfl, hb6⟩))
          go_ret2
          exact ⟨by rw [HRes.out, HRN.out]; rfl, HBWr.out.trans ((hb5.trans (hb6.mono hb5.size)).mono HBWr.out.size)⟩
        · have HRN : Hid (res = none) := hrc1 hcc
          clear hrc0 hrc1
          go_wp2_with (first | (go_at_call 31; refine hba.mono ?_; rintro e w5 ⟨rfl, hb5⟩) | (go_at_call 30; refine (hco _ hb5).mono ?_; rintro e w6 ⟨rfl, hb6⟩))
          go_ret2
          exact ⟨by rw [HRes.out, HRN.out]; rfl, HBWr.out.trans ((hb5.trans (hb6.mono hb5.size)).mono HBWr.out.size)⟩
  · have hgd2 : holdsB r.guard env = false := by simpa using hgd
    rw [hgd2] at hho
    rw [ruleDo_guard hgd2]
    go_enter Tryd.func19, Tryd.ntmps19
    go_wp2_with (go_at_call 27; refine (hho _ (hA2 _ _)).mono ?_; rintro e w1 ⟨rfl, hb1⟩)
    go_ret2
    exact ⟨rfl, (hA2 _ _).trans (hb1.mono (hA2 _ _).size)⟩
end Go.Proofs.YtipleacacfejcaaDoor

/-
  The contract of step.After.
-/
namespace Go.Proofs.YtipleacacfejcaaDoor
open Go.ChangeShapes Go.WideShapes Go.ChangeAt Go.RowKit Go.Deep
open Terms Tm

/-- what After answers. -/
noncomputable def aftN (m : Mo) (code rule : Int) : Int := if wcode m code = 0 then (if 0 ≤ rule ∧ rule < m.rules.length then optN (ruleDo m.vars (valsL m.vars code) (m.rules.getD rule.toNat ru0)) else 0) else 0
noncomputable def aftC (m : Mo) (code rule : Int) : Int := if wcode m code = 0 then (if 0 ≤ rule ∧ rule < m.rules.length then optC (ruleDo m.vars (valsL m.vars code) (m.rules.getD rule.toNat ru0)) else 2) else wcode m code
set_option maxRecDepth 20000 in
theorem wcode_zero {m : Mo} {code : Int} (h : wcode m code = 0) : mcode m = 0 ∧ 0 ≤ code ∧ code < prodTo m.vars m.vars.length := by
  unfold wcode at h
  split at h
  · rename_i h1
    split at h
    · rename_i h2; exact ⟨h1, h2⟩
    · cases h
  · rename_i h1; exact absurd h h1
set_option maxRecDepth 20000 in
/-- THE CONTRACT OF Values, where there are some: a block of their own. -/
theorem svalues_any (va vr : Value) (m : Mo) (code : Int) (w : World) (hB : 0 < w.heap.size) (hT : TabAt w) (hV : ModelV w va vr m) (h : wcode m code = 0) :
    Calls Tryd.prog 18 #[.agg #[va, vr], .int .i64 code] w fun e w' => ∃ B, e = .returned (.tuple #[.slice (some ⟨B, 0, none⟩) (valsL m.vars code).length (valsL m.vars code).length, .int .i64 0]) ∧ w.heap.size ≤ B ∧ Below w.heap.size w w' ∧ w'.rowIs B 3 (valsL m.vars code).length (fun j => .int .i64 ((valsL m.vars code).getD j 0)) := by
  obtain ⟨h1, h2⟩ := wcode_zero h
  refine (mvalues_loop va vr m code w hB hT hV h1 h2).mono fun e w' ⟨B, he, hl, hb, hr⟩ => ?_
  rw [← valsL_length m.vars code] at he hr
  refine ⟨B, he, hl, hb, hr.congr fun j hj => ?_⟩
  rw [valsL_length] at hj
  simp [valsL, List.getD_eq_getElem?_getD, hj]

set_option maxHeartbeats 3200000 in
set_option maxRecDepth 20000 in
/-- THE CONTRACT OF After. -/
theorem after_any (va vr : Value) (m : Mo) (code rule : Int) (w : World) (hB : 0 < w.heap.size) (hT : TabAt w) (hV : ModelV w va vr m) :
    Calls Tryd.prog 10 #[.agg #[va, vr], .int .i64 code, .int .i64 rule] w fun e w' => e = .returned (.tuple #[.int .i64 (aftN m code rule), .int .i64 (aftC m code rule)]) ∧ Below w.heap.size w w' := by
  have hA : ∀ o, Below w.heap.size w (w.alloc o) := fun o => (Below.refl _ _).alloc (Nat.le_refl _) o
  by_cases hw : wcode m code = 0
  · obtain ⟨hm, _⟩ := wcode_zero hw
    obtain ⟨hr12, hrs⟩ := mcode_rules hm
    have hvl := fun o => svalues_any va vr m code (w.alloc o) (Nat.lt_of_lt_of_le hB (hA o).size) (hT.below (hA o) hB) (hV.below (hA o)) hw
    have he := valsL_length m.vars code
    have HDo : Hid (∀ w' (_ : Below w.heap.size w w') B k gv sv, k < m.rules.length → w'.rowIs B 3 (valsL m.vars code).length (fun j => .int .i64 ((valsL m.vars code).getD j 0)) → OpsV w' gv (m.rules.getD k ru0).guard → SetsV w' sv (m.rules.getD k ru0).sets → Calls Tryd.prog 19 #[.agg #[va, vr], .slice (some ⟨B, 0, none⟩) (valsL m.vars code).length (valsL m.vars code).length, .agg #[gv, sv]] w' fun e w2 => e = .returned (.tuple #[.int .i64 (optN (ruleDo m.vars (valsL m.vars code) (m.rules.getD k ru0))), .int .i64 (optC (ruleDo m.vars (valsL m.vars code) (m.rules.getD k ru0)))]) ∧ Below w'.heap.size w' w2) := fun w' hb B k gv sv hk hrow hg hs =>
      doRule_any va vr gv sv B m (valsL m.vars code) (m.rules.getD k ru0) w' (Nat.lt_of_lt_of_le hB hb.size) (hT.below hb hB) (hV.below hb) hm (hrs k hk) he hrow hg hs
    have HR : Hid (RulesV w vr m.rules) := hV.2
    obtain ⟨ao, cap, rfl⟩ := hV.1.shape
    obtain ⟨ro, rc, rfl⟩ := hV.2.shape
    unfold aftN aftC
    rw [if_pos hw, if_pos hw]
    generalize hrr : (fun k => ruleDo m.vars (valsL m.vars code) (m.rules.getD k ru0)) = rr
    have HRR : Hid (∀ k, ruleDo m.vars (valsL m.vars code) (m.rules.getD k ru0) = rr k) := fun k => by rw [← hrr]
    have HDo2 := (show Hid _ from HDo.out)
    clear HDo
    have hrr2 := HRR.out
    simp only [hrr2] at HDo2 ⊢
    generalize (valsL m.vars code).length = vn at *
    generalize m.vars.length = n at *
    obtain ⟨rn, hrn⟩ : ∃ rn, rn = m.rules.length := ⟨_, rfl⟩
    have HRN : Hid (rn = m.rules.length) := hrn
    rw [← hrn] at hvl HR HDo2 ⊢
    rw [← hrn] at hr12
    clear hV hT hw hm hrs he hrr hrr2 hrn HRR
    by_cases hin : 0 ≤ rule ∧ rule < rn
    · rw [if_pos hin, if_pos hin]
      obtain ⟨hi0, hi1⟩ := hin
      obtain ⟨k, rfl⟩ : ∃ k : Nat, rule = k := ⟨rule.toNat, by omega⟩
      have hkn : k < rn := by omega
      rw [Int.toNat_natCast]
      obtain ⟨b, off, rfl, hblt, hat⟩ := HR.out.at (i := k) (by rw [← HRN.out]; exact hkn)
      clear HR hi1
      go_enter Tryd.func10, Tryd.ntmps10
      go_wp2_with (go_at_call 18; refine (hvl _).mono ?_; rintro e w1 ⟨B, rfl, hBl, hb1, hrow⟩; have hbw1 := (hA _).trans (hb1.mono (hA _).size); have k10 : w1.cell? ⟨w.heap.size, 0, none⟩ = some (.slice ao n cap) := (hb1.cell (p := ⟨w.heap.size, 0, none⟩) (by simp)).trans (by simp [go_sem]); have k11 : w1.cell? ⟨w.heap.size, 1, none⟩ = some (.slice (some ⟨b, off, none⟩) rn rc) := (hb1.cell (p := ⟨w.heap.size, 1, none⟩) (by simp)).trans (by simp [go_sem]))
      obtain ⟨⟨u, c0, hou⟩, u', c1, hsu⟩ := hat.below hbw1 hblt
      obtain ⟨uo, uc, rfl⟩ := hou.shape
      obtain ⟨so, sc, rfl⟩ := hsu.shape
      have hdo := HDo2.out w1.drew hbw1.drew B k _ _ hkn hrow hou hsu
      have HBW1 : Hid (Below w.heap.size w w1) := hbw1
      generalize (m.rules.getD k ru0).guard.length = gl at *
      generalize (m.rules.getD k ru0).sets.length = sl at *
      clear hvl hb1 hbw1 hrow hou hsu HDo2 hat
      go_region_with (go_at_call 19; refine hdo.mono ?_; rintro e w3 ⟨rfl, hb3⟩)
      all_goals go_wp2_with fail
      all_goals go_ret2
      all_goals exact ⟨rfl, HBW1.out.drew.trans (hb3.mono HBW1.out.drew.size)⟩
    · have HIN : Hid (¬ (0 ≤ rule ∧ rule < rn)) := hin
      rw [if_neg hin, if_neg hin]
      by_cases h0 : rule < 0
      · clear hin HDo2 HR
        go_enter Tryd.func10, Tryd.ntmps10
        go_wp2_with (go_at_call 18; refine (hvl _).mono ?_; rintro e w1 ⟨B, rfl, hBl, hb1, hrow⟩; have hbw1 := (hA _).trans (hb1.mono (hA _).size); have k11 : w1.cell? ⟨w.heap.size, 1, none⟩ = some (.slice ro rn rc) := (hb1.cell (p := ⟨w.heap.size, 1, none⟩) (by simp)).trans (by simp [go_sem]))
        go_ret2
        exact ⟨rfl, hbw1⟩
      · have h1 : (rn : Int) ≤ rule := by omega
        clear hin HDo2 HR
        go_enter Tryd.func10, Tryd.ntmps10
        go_wp2_with (go_at_call 18; refine (hvl _).mono ?_; rintro e w1 ⟨B, rfl, hBl, hb1, hrow⟩; have hbw1 := (hA _).trans (hb1.mono (hA _).size); have k11 : w1.cell? ⟨w.heap.size, 1, none⟩ = some (.slice ro rn rc) := (hb1.cell (p := ⟨w.heap.size, 1, none⟩) (by simp)).trans (by simp [go_sem]))
        go_ret2
        exact ⟨rfl, hbw1⟩
  · have hvl := fun o => mvalues_any va vr m code (w.alloc o) (Nat.lt_of_lt_of_le hB (hA o).size) (hT.below (hA o) hB) (hV.below (hA o))
    obtain ⟨ao, cap, rfl⟩ := hV.1.shape
    obtain ⟨ro, rc, rfl⟩ := hV.2.shape
    unfold aftN aftC
    rw [if_neg hw, if_neg hw]
    generalize wcode m code = c at *
    generalize m.vars.length = n at *
    generalize m.rules.length = rn at *
    clear hV hT
    go_enter Tryd.func10, Tryd.ntmps10
    go_wp2_with (go_at_call 18; refine (hvl _).mono ?_; rintro e w1 ⟨v, rfl, hb1, _⟩)
    go_ret2
    exact ⟨rfl, (hA _).trans (hb1.mono (hA _).size)⟩
end Go.Proofs.YtipleacacfejcaaDoor

/-
  The contract of the program's Props.
-/
namespace Go.Proofs.YtipleacacfejcaaDoor
open Go.ChangeShapes Go.WideShapes Go.ChangeAt Go.RowKit Go.Deep
open Terms Tm

set_option maxRecDepth 20000 in
theorem TermsV.shape {w : World} {v : Value} {ts : List (List (Int × Int))} (h : TermsV w v ts) : ∃ ao cap, v = .slice ao ts.length cap := by
  obtain ⟨ao, cap, h1, _⟩ := h
  exact ⟨ao, cap, h1⟩
set_option maxRecDepth 20000 in
theorem TermsV.at {w : World} {ao : Option Addr} {cap n : Nat} {ts : List (List (Int × Int))} (h : TermsV w (.slice ao n cap) ts) {i : Nat} (hi : i < ts.length) : ∃ b off, ao = some ⟨b, off, none⟩ ∧ b < w.heap.size ∧ ∃ u, w.cell? ⟨b, off + i, none⟩ = some u ∧ OpsV w u (ts.getD i []) := by
  obtain ⟨ao', cap', h1, h3⟩ := h
  injection h1 with e1 e2 e3
  subst e1
  obtain ⟨b, off, e, hb, hh⟩ := h3 (by intro h; subst h; simp at hi)
  exact ⟨b, off, e, hb, hh i hi⟩

end Go.Proofs.YtipleacacfejcaaDoor

/-
  Slices of truths; the contract of the laws' own sameTruths.
-/
namespace Go.Proofs.YtipleacacfejcaaDoor
open Go.ChangeShapes Go.WideShapes Go.ChangeAt Go.RowKit Go.Deep
open Terms

set_option maxRecDepth 20000 in
theorem infoBool : (Tryd.prog.info? 4).map (fun i => (i.zero, i.size, i.bytes)) = some (some (.bool false), 1, 1) := by kernel_rfl
/-- a slice of truths. -/
def BoolsAt (w : World) (b off : Nat) (l : List Bool) : Prop := ∀ i, i < l.length → w.cell? ⟨b, off + i, none⟩ = some (.bool (l.getD i false))
def BoolsV (w : World) (v : Value) (l : List Bool) : Prop := ∃ ao cap, v = .slice ao l.length cap ∧ (l ≠ [] → ∃ b off, ao = some ⟨b, off, none⟩ ∧ b < w.heap.size ∧ BoolsAt w b off l)
set_option maxRecDepth 20000 in
theorem BoolsV.below {w w' : World} {v : Value} {l : List Bool} (h : BoolsV w v l) (hb : Below w.heap.size w w') : BoolsV w' v l := by
  obtain ⟨ao, cap, rfl, h⟩ := h
  refine ⟨ao, cap, rfl, fun hne => ?_⟩
  obtain ⟨b, off, rfl, hlt, hat⟩ := h hne
  exact ⟨b, off, rfl, Nat.lt_of_lt_of_le hlt hb.size, fun i hi => (hb.cell (p := ⟨b, _, none⟩) hlt).trans (hat i hi)⟩
def bvals (l : List Bool) : List Value := l.map fun x => .bool x
set_option maxRecDepth 20000 in
theorem boolsV_of_owns {w : World} {base : Nat} {v : Value} {l : List Bool} (h : w.ownsRow base 4 1 v l.length (bvals l)) : BoolsV w v l := by
  rcases h.2 with ⟨rfl, h0⟩ | ⟨g, cap, cur, rfl, hb, hg, hnc, hcm, hcs, htake⟩
  · have : l = [] := by simpa using h0
    subst this
    exact ⟨none, 0, rfl, fun h => absurd rfl h⟩
  · refine ⟨_, cap, rfl, fun _ => ⟨g, 0, rfl, (Array.getElem?_eq_some_iff.1 hg).1, fun i hi => ?_⟩⟩
    rw [Nat.zero_add, h.cellAt i (by omega)]
    simp [bvals, List.getD_eq_getElem?_getD, hi]
set_option maxRecDepth 20000 in
theorem boolsV_of_row {w : World} {B : Nat} {l : List Bool} (h : w.rowIs B 4 l.length (fun j => .bool (l.getD j false))) : BoolsV w (.slice (some ⟨B, 0, none⟩) l.length l.length) l :=
  ⟨some ⟨B, 0, none⟩, l.length, rfl, fun _ => ⟨B, 0, rfl, h.lt, fun i hi => by rw [Nat.zero_add, h.cell hi]⟩⟩

end Go.Proofs.YtipleacacfejcaaDoor

/-
  The contract of step.Letter.
-/
namespace Go.Proofs.YtipleacacfejcaaDoor
open Go.ChangeShapes Go.WideShapes Go.ChangeAt Go.RowKit Go.Deep
open Terms Tm

/-- what Letter answers. -/
noncomputable def letC (m : Mo) (ps : List (List (Int × Int))) (code : Int) : Int := if pcode m ps = 0 then wcode m code else pcode m ps
noncomputable def letL (m : Mo) (ps : List (List (Int × Int))) (code : Int) : List Bool := if letC m ps code = 0 then ps.map (fun p => holdsB p (valsL m.vars code)) else []
set_option maxRecDepth 20000 in
theorem pcode_m {m : Mo} {ps : List (List (Int × Int))} (h : pcode m ps = 0) : mcode m = 0 ∧ ps.length ≤ 6 := by
  unfold pcode at h
  split at h
  · rename_i h1
    split at h
    · simp at h
    · exact ⟨h1, by omega⟩
  · rename_i h1; exact absurd h h1
set_option maxRecDepth 20000 in
theorem wcode_bare {m : Mo} (code : Int) (h : mcode m = 0) : wcode ⟨m.vars, []⟩ code = wcode m code := by
  unfold wcode
  rw [if_pos h, if_pos (mcode_bare h)]

end Go.Proofs.YtipleacacfejcaaDoor

/-
  The library's slices.Sort and slices.Compact at lists of numbers: their contracts at this program, in plain words.
-/
namespace Go.Proofs.YtipleacacfejcaaDoor
open Go.Shelf
def lays189_ren : Go.Shelf.Ren := ⟨fun | 189 => 32 | 125 => 45 | 257 => 44 | 128 => 67 | 129 => 68 | 294 => 58 | 295 => 59 | 296 => 60 | 297 => 61 | 298 => 62 | 299 => 63 | 216 => 64 | 300 => 65 | 301 => 66 | 328 => 72 | 329 => 73 | 330 => 74 | 331 => 75 | 332 => 76 | 215 => 77 | 343 => 79 | n => n, fun | 28 => 49 | 3 => 3 | 46 => 95 | 0 => 0 | 51 => 109 | 53 => 111 | 4 => 4 | 183 => 102 | 182 => 101 | 131 => 68 | 5 => 5 | 9 => 9 | 218 => 113 | 222 => 117 | 228 => 120 | 229 => 121 | n => n, fun | n => n⟩
set_option maxRecDepth 20000 in
theorem lays189 : Go.Proofs.Lays.n189 Tryd.prog lays189_ren := {
  mixed := by kernel_rfl
  f125 := Tryd.func45.trans (congrArg some (by kernel_rfl))
  f128 := Tryd.func67.trans (congrArg some (by kernel_rfl))
  f129 := Tryd.func68.trans (congrArg some (by kernel_rfl))
  f189 := Tryd.func32.trans (congrArg some (by kernel_rfl))
  f215 := Tryd.func77.trans (congrArg some (by kernel_rfl))
  f216 := Tryd.func64.trans (congrArg some (by kernel_rfl))
  f257 := Tryd.func44.trans (congrArg some (by kernel_rfl))
  f294 := Tryd.func58.trans (congrArg some (by kernel_rfl))
  f295 := Tryd.func59.trans (congrArg some (by kernel_rfl))
  f296 := Tryd.func60.trans (congrArg some (by kernel_rfl))
  f297 := Tryd.func61.trans (congrArg some (by kernel_rfl))
  f298 := Tryd.func62.trans (congrArg some (by kernel_rfl))
  f299 := Tryd.func63.trans (congrArg some (by kernel_rfl))
  f300 := Tryd.func65.trans (congrArg some (by kernel_rfl))
  f301 := Tryd.func66.trans (congrArg some (by kernel_rfl))
  f328 := Tryd.func72.trans (congrArg some (by kernel_rfl))
  f329 := Tryd.func73.trans (congrArg some (by kernel_rfl))
  f330 := Tryd.func74.trans (congrArg some (by kernel_rfl))
  f331 := Tryd.func75.trans (congrArg some (by kernel_rfl))
  f332 := Tryd.func76.trans (congrArg some (by kernel_rfl))
  f343 := Tryd.func79.trans (congrArg some (by kernel_rfl))
  t0 := Tryd.underlying0
  a0 := Tryd.isAgg0
  z0 := Tryd.sizeOf0
  v0 := Tryd.zeroValue0
  t3 := Tryd.underlying3
  a3 := Tryd.isAgg3
  z3 := Tryd.sizeOf3
  v3 := Tryd.zeroValue3
  t4 := Tryd.underlying4
  a4 := Tryd.isAgg4
  z4 := Tryd.sizeOf4
  v4 := Tryd.zeroValue4
  t5 := Tryd.underlying5
  a5 := Tryd.isAgg5
  z5 := Tryd.sizeOf5
  v5 := Tryd.zeroValue5
  t9 := Tryd.underlying9
  a9 := Tryd.isAgg9
  z9 := Tryd.sizeOf9
  v9 := Tryd.zeroValue9
  t28 := Tryd.underlying49
  a28 := Tryd.isAgg49
  z28 := Tryd.sizeOf49
  v28 := Tryd.zeroValue49
  t46 := Tryd.underlying95
  a46 := Tryd.isAgg95
  z46 := Tryd.sizeOf95
  v46 := Tryd.zeroValue95
  t51 := Tryd.underlying109
  a51 := Tryd.isAgg109
  z51 := Tryd.sizeOf109
  v51 := Tryd.zeroValue109
  t53 := Tryd.underlying111
  a53 := Tryd.isAgg111
  z53 := Tryd.sizeOf111
  v53 := Tryd.zeroValue111
  t131 := Tryd.underlying68
  a131 := Tryd.isAgg68
  z131 := Tryd.sizeOf68
  v131 := Tryd.zeroValue68
  t182 := Tryd.underlying101
  a182 := Tryd.isAgg101
  z182 := Tryd.sizeOf101
  v182 := Tryd.zeroValue101
  t183 := Tryd.underlying102
  a183 := Tryd.isAgg102
  z183 := Tryd.sizeOf102
  v183 := Tryd.zeroValue102
  t218 := Tryd.underlying113
  a218 := Tryd.isAgg113
  z218 := Tryd.sizeOf113
  v218 := Tryd.zeroValue113
  t222 := Tryd.underlying117
  a222 := Tryd.isAgg117
  z222 := Tryd.sizeOf117
  v222 := Tryd.zeroValue117
  t228 := Tryd.underlying120
  a228 := Tryd.isAgg120
  z228 := Tryd.sizeOf120
  v228 := Tryd.zeroValue120
  t229 := Tryd.underlying121
  a229 := Tryd.isAgg121
  z229 := Tryd.sizeOf121
  v229 := Tryd.zeroValue121 }
open Go.Sort Go.RowKit in
set_option maxRecDepth 20000 in
theorem slices_Sort_int (blk off cap : Nat) (zs : List Int) (w : World) (hH : Holds (Value.int .i64) w blk off zs.toArray) (hblk : blk < w.heap.size) (hsz : zs.length < 4611686018427387904) :
    Calls Tryd.prog 32 #[.slice (some ⟨blk, off, none⟩) zs.length cap] w fun e w' =>
      e = .returned (.tuple #[]) ∧ ∃ n os, w' = grow (putRow (Value.int .i64) (Sort.ahead w n) blk off (zs.mergeSort fun x y => decide (x ≤ y)).toArray) os := Any.slices_Sort_int lays189 blk off cap zs w hH hblk hsz
def laysNm220_ren : Go.Shelf.Ren := ⟨fun | 20 => 33 | n => n, fun | 22 => 49 | 3 => 3 | 4 => 4 | 0 => 0 | n => n, fun | n => n⟩
set_option maxRecDepth 20000 in
theorem laysNm220 : Go.Proofs.Lays2.n20 Tryd.prog laysNm220_ren := {
  mixed := by kernel_rfl
  f20 := Tryd.func33.trans (congrArg some (by kernel_rfl))
  t0 := Tryd.underlying0
  a0 := Tryd.isAgg0
  z0 := Tryd.sizeOf0
  v0 := Tryd.zeroValue0
  t3 := Tryd.underlying3
  a3 := Tryd.isAgg3
  z3 := Tryd.sizeOf3
  v3 := Tryd.zeroValue3
  t4 := Tryd.underlying4
  a4 := Tryd.isAgg4
  z4 := Tryd.sizeOf4
  v4 := Tryd.zeroValue4
  t22 := Tryd.underlying49
  a22 := Tryd.isAgg49
  z22 := Tryd.sizeOf49
  v22 := Tryd.zeroValue49
  i3 := by kernel_rfl }
open Go.RowKit Go.Lib Go.Sort in
set_option maxRecDepth 20000 in
theorem slices_Compact_int (blk off cap : Nat) (zs : List Int) (w : World) (hH : Holds (Value.int .i64) w blk off zs.toArray) (hsz : zs.length ≤ 9223372036854775807) (hcap : zs.length ≤ cap) :
    Calls Tryd.prog 33 #[.slice (some ⟨blk, off, none⟩) zs.length cap] w fun e w' => e = .returned (.slice (some ⟨blk, off, none⟩) (Lib.compact zs).length cap) ∧ ∃ q, w' = putRow (Value.int .i64) (Sort.ahead w q) blk off (Lib.compact zs ++ List.replicate (zs.length - (Lib.compact zs).length) 0).toArray := Any.slices_Compact_int laysNm220 blk off cap zs w hH hsz hcap
end Go.Proofs.YtipleacacfejcaaDoor

/-
  The library's Sort and Compact of numbers that lie in a row of one's own; and what comes of them.
-/
namespace Go.Proofs.YtipleacacfejcaaDoor
open Go.RowKit Go.Sort

def leB (x y : Int) : Bool := decide (x ≤ y)
set_option maxRecDepth 20000 in
/-- slices.Sort. -/
theorem sort_own (g cap base : Nat) (zs : List Int) (w : World) (hz : zs.length ≤ 100000) (ho : w.ownsRow base 3 1 (.slice (some ⟨g, 0, none⟩) zs.length cap) zs.length (ivals zs)) :
    Calls Tryd.prog 32 #[.slice (some ⟨g, 0, none⟩) zs.length cap] w fun e w' => e = .returned (.tuple #[]) ∧ w.grownBy w' (some g) ∧ w'.ownsRow base 3 1 (.slice (some ⟨g, 0, none⟩) zs.length cap) zs.length (ivals (zs.mergeSort leB)) := by
  have ho' : w.ownsRow base 3 1 (.slice (some ⟨g, 0, none⟩) zs.length cap) zs.length (zs.map (Value.int .i64)) := ho
  obtain ⟨g', cap', hv, hbg, hlt, hn, hm, hl, hH⟩ := Lib.holds_of_ownsRow ho' (by simp)
  injection hv with h1 h2 h3
  injection h1 with h1
  injection h1 with h1
  subst h1 h3
  rcases ho.2 with ⟨e0, _⟩ | ⟨g2, cap2, cur, e0, hb, hg, hnc, hcm, hcs, ht⟩
  · cases e0
  · injection e0 with e1 _ e3
    injection e1 with e1
    injection e1 with e1
    subst e1 e3
    refine (slices_Sort_int g 0 cap zs w hH hlt (by omega)).mono fun e w' ⟨he, n, os, hw⟩ => ⟨he, ?_, ?_⟩
    · rw [hw]; exact grownBy_sortedI _
    · rw [hw]; exact ownsRow_sortedI (ts := zs.mergeSort leB) (by simp) hbg hg hnc hcm hcs
set_option maxRecDepth 20000 in
/-- slices.Compact. -/
theorem compact_own (g cap base : Nat) (zs : List Int) (w : World) (hz : zs.length ≤ 100000) (ho : w.ownsRow base 3 1 (.slice (some ⟨g, 0, none⟩) zs.length cap) zs.length (ivals zs)) :
    Calls Tryd.prog 33 #[.slice (some ⟨g, 0, none⟩) zs.length cap] w fun e w' => e = .returned (.slice (some ⟨g, 0, none⟩) (Lib.compact zs).length cap) ∧ w.grownBy w' (some g) ∧ w'.ownsRow base 3 1 (.slice (some ⟨g, 0, none⟩) (Lib.compact zs).length cap) (Lib.compact zs).length (ivals (Lib.compact zs)) := by
  have ho' : w.ownsRow base 3 1 (.slice (some ⟨g, 0, none⟩) zs.length cap) zs.length (zs.map (Value.int .i64)) := ho
  obtain ⟨g', cap', hv, hbg, hlt, hn, hm, hl, hH⟩ := Lib.holds_of_ownsRow ho' (by simp)
  injection hv with h1 h2 h3
  injection h1 with h1
  injection h1 with h1
  subst h1 h3
  have hcl := Lib.compact_length_le zs
  refine (slices_Compact_int g 0 cap zs w hH (by omega) hn).mono fun e w' ⟨he, q, hw⟩ => ⟨he, ?_, ?_⟩
  · rw [hw]
    refine ⟨rfl, rfl, rfl, by simp [putRow, mapBlock, Sort.ahead], fun k _ hne => ?_⟩
    have : g ≠ k := fun e => hne (by rw [e])
    simp [putRow, mapBlock, Sort.ahead, Array.getElem?_modify, this]
  · rw [hw]
    have h := Lib.ownsRow_putRow (q := q) (k := (Lib.compact zs).length) (ys := Lib.compact zs ++ List.replicate (zs.length - (Lib.compact zs).length) 0) ho' (by simp; omega) hcl
    rw [List.take_left] at h
    exact h

/-! ### lists that rise -/

abbrev Rise (l : List Int) : Prop := l.Pairwise (· < ·)
set_option maxRecDepth 20000 in
theorem rise_eq : ∀ {l l' : List Int}, Rise l → Rise l' → (∀ x, x ∈ l ↔ x ∈ l') → l = l'
  | [], [], _, _, _ => rfl
  | [], y :: l', _, _, h => absurd ((h y).2 (by simp)) (by simp)
  | x :: l, [], _, _, h => absurd ((h x).1 (by simp)) (by simp)
  | x :: l, y :: l', h1, h2, h => by
    obtain ⟨hx, t1⟩ := List.pairwise_cons.1 h1
    obtain ⟨hy, t2⟩ := List.pairwise_cons.1 h2
    have e : x = y := by
      rcases List.mem_cons.1 ((h x).1 (by simp)) with e | e
      · exact e
      · rcases List.mem_cons.1 ((h y).2 (by simp)) with e' | e'
        · exact e'.symm
        · have := hx y e'; have := hy x e; omega
    subst e
    refine congrArg (x :: ·) (rise_eq t1 t2 fun z => ⟨fun hz => ?_, fun hz => ?_⟩)
    · rcases List.mem_cons.1 ((h z).1 (by simp [hz])) with e | e
      · subst e; have := hx z hz; omega
      · exact e
    · rcases List.mem_cons.1 ((h z).2 (by simp [hz])) with e | e
      · subst e; have := hy z hz; omega
      · exact e
set_option maxRecDepth 20000 in
theorem compact_step {d : Array Int} {n : Nat} (hs : ∀ i j, i ≤ j → j < n → d[i]! ≤ d[j]!) : ∀ m, m ≤ n → Rise (Lib.compactUpTo d m) ∧ ∀ x, x ∈ Lib.compactUpTo d m ↔ ∃ j, j < m ∧ d[j]! = x := by
  intro m
  induction m with
  | zero => intro _; exact ⟨by simp [Lib.compactUpTo], fun x => by simp [Lib.compactUpTo]⟩
  | succ m ih =>
    intro hm
    obtain ⟨h1, h2⟩ := ih (by omega)
    rw [Lib.compactUpTo_succ]
    by_cases hk : Lib.keeps d m = true
    · rw [if_pos hk]
      refine ⟨List.pairwise_append.2 ⟨h1, by simp, fun x hx y hy => ?_⟩, fun x => ?_⟩
      · simp at hy
        subst hy
        obtain ⟨j, hj, rfl⟩ := (h2 x).1 hx
        have h3 := hs j m (by omega) (by omega)
        have h4 := hs j (m - 1) (by omega) (by omega)
        have h5 := hs (m - 1) m (by omega) (by omega)
        have h6 : d[m]! ≠ d[m - 1]! := by
          have : m ≠ 0 := by omega
          simpa [Lib.keeps, this] using hk
        omega
      · simp only [List.mem_append, List.mem_singleton, h2]
        constructor
        · rintro (⟨j, hj, e⟩ | e)
          · exact ⟨j, by omega, e⟩
          · exact ⟨m, by omega, e.symm⟩
        · rintro ⟨j, hj, e⟩
          by_cases hjm : j = m
          · subst hjm; exact .inr e.symm
          · exact .inl ⟨j, by omega, e⟩
    · rw [if_neg hk, List.append_nil]
      refine ⟨h1, fun x => ?_⟩
      rw [h2]
      constructor
      · rintro ⟨j, hj, e⟩; exact ⟨j, by omega, e⟩
      · rintro ⟨j, hj, e⟩
        by_cases hjm : j = m
        · subst hjm
          have h7 : j ≠ 0 ∧ d[j]! = d[j - 1]! := by simpa [Lib.keeps] using hk
          exact ⟨j - 1, by omega, by rw [← h7.2]; exact e⟩
        · exact ⟨j, by omega, e⟩
/-- the numbers of a list, each once, rising. -/
def upL (l : List Int) : List Int := Lib.compact (l.mergeSort leB)
set_option maxRecDepth 20000 in
theorem upL_spec (l : List Int) : Rise (upL l) ∧ ∀ x, x ∈ upL l ↔ x ∈ l := by
  have hp : (l.mergeSort leB).Pairwise (fun x y => leB x y = true) := List.pairwise_mergeSort (le := leB) (by intro a b c; simp only [leB, decide_eq_true_eq]; omega) (by intro a b; simp only [leB, Bool.or_eq_true, decide_eq_true_eq]; omega) l
  have hs : ∀ i j, i ≤ j → j < (l.mergeSort leB).length → (l.mergeSort leB).toArray[i]! ≤ (l.mergeSort leB).toArray[j]! := fun i j hij hj => by
    rw [getElem!_pos _ i (by simpa using (by omega : i < (l.mergeSort leB).length)), getElem!_pos _ j (by simpa using hj)]
    rcases Nat.lt_or_eq_of_le hij with h | h
    · have := List.pairwise_iff_getElem.1 hp i j (by omega) hj h
      simpa [leB] using this
    · subst h; exact Int.le_refl _
  obtain ⟨h1, h2⟩ := compact_step hs (l.mergeSort leB).length (Nat.le_refl _)
  refine ⟨h1, fun x => ?_⟩
  show x ∈ Lib.compactUpTo _ _ ↔ _
  rw [h2, ← (List.mergeSort_perm l leB).mem_iff, List.mem_iff_getElem]
  constructor
  · rintro ⟨j, hj, e⟩
    exact ⟨j, hj, by rw [← e, getElem!_pos _ j (by simpa using hj)]; rfl⟩
  · rintro ⟨j, hj, e⟩
    exact ⟨j, hj, by rw [getElem!_pos _ j (by simpa using hj)]; exact e⟩
set_option maxRecDepth 20000 in
theorem upL_eq {l l' : List Int} (h : Rise l) (hm : ∀ x, x ∈ l ↔ x ∈ l') : l = upL l' := rise_eq h (upL_spec l').1 fun x => by rw [hm, (upL_spec l').2]
end Go.Proofs.YtipleacacfejcaaDoor

/-
  Plain mathematics of what comes next.
-/
namespace Go.Proofs.YtipleacacfejcaaDoor
open Terms Tm

/-- what comes behind the first so many rules. -/
noncomputable def rawTo (vars : List Vr) (env : List Int) (rules : List Ru) (k : Nat) : List Int := (rules.take k).filterMap (ruleDo vars env)
set_option maxRecDepth 20000 in
theorem rawTo_some {vars : List Vr} {env : List Int} {rules : List Ru} {k : Nat} (hk : k < rules.length) {x : Int} (h : ruleDo vars env (rules.getD k ru0) = some x) : rawTo vars env rules (k + 1) = rawTo vars env rules k ++ [x] := by
  unfold rawTo
  rw [List.take_succ_eq_append_getElem hk, List.filterMap_append, show rules[k] = rules.getD k ru0 by simp [List.getD_eq_getElem?_getD, hk]]
  generalize rules.getD k ru0 = r at h
  simp [h]
set_option maxRecDepth 20000 in
theorem rawTo_none {vars : List Vr} {env : List Int} {rules : List Ru} {k : Nat} (hk : k < rules.length) (h : ruleDo vars env (rules.getD k ru0) = none) : rawTo vars env rules (k + 1) = rawTo vars env rules k := by
  unfold rawTo
  rw [List.take_succ_eq_append_getElem hk, List.filterMap_append, show rules[k] = rules.getD k ru0 by simp [List.getD_eq_getElem?_getD, hk]]
  generalize rules.getD k ru0 = r at h
  simp [h]
set_option maxRecDepth 20000 in
theorem rawTo_length (vars : List Vr) (env : List Int) (rules : List Ru) (k : Nat) : (rawTo vars env rules k).length ≤ k := by
  unfold rawTo
  exact Nat.le_trans (List.length_filterMap_le _ _) (by simp; omega)
/-- what comes behind all rules, or the state itself. -/
noncomputable def rawL (m : Mo) (code : Int) : List Int := if rawTo m.vars (valsL m.vars code) m.rules m.rules.length = [] then [code] else rawTo m.vars (valsL m.vars code) m.rules m.rules.length
/-- the next states. -/
noncomputable def nextL (m : Mo) (code : Int) : List Int := upL (rawL m code)
/-- what Next answers. -/
noncomputable def nxtL (m : Mo) (code : Int) : List Int := if wcode m code = 0 then nextL m code else []
set_option maxRecDepth 20000 in
theorem rawTo_mem {vars : List Vr} {env : List Int} {rules : List Ru} {k : Nat} (hk : k ≤ rules.length) (x : Int) : x ∈ rawTo vars env rules k ↔ ∃ j, j < k ∧ ruleDo vars env (rules.getD j ru0) = some x := by
  unfold rawTo
  rw [List.mem_filterMap]
  constructor
  · rintro ⟨r, hr, e⟩
    obtain ⟨j, hj, rfl⟩ := List.mem_iff_getElem.1 hr
    rw [List.length_take] at hj
    refine ⟨j, by omega, ?_⟩
    rw [List.getElem_take] at e
    rw [show rules.getD j ru0 = rules[j]'(by omega) by simp [List.getD_eq_getElem?_getD, show j < rules.length by omega]]
    exact e
  · rintro ⟨j, hj, e⟩
    refine ⟨rules.getD j ru0, ?_, e⟩
    rw [List.mem_iff_getElem]
    exact ⟨j, by rw [List.length_take]; omega, by rw [List.getElem_take]; simp [List.getD_eq_getElem?_getD, show j < rules.length by omega]⟩
set_option maxRecDepth 20000 in
/-- a state behind a rule is a state. -/
theorem ruleDo_state {vars : List Vr} {env : List Int} {r : Ru} {x : Int} (hv : VarsOk vars) (h : ruleDo vars env r = some x) : 0 ≤ x ∧ x < prodTo vars vars.length := by
  unfold ruleDo at h
  split at h
  · rename_i hc
    injection h with h
    subst h
    exact code_bounds hv (Nat.le_refl _) hc.2.2
  · cases h
set_option maxRecDepth 20000 in
theorem upL_length (l : List Int) : (upL l).length ≤ l.length := Nat.le_trans (Lib.compact_length_le _) (by simp)
set_option maxRecDepth 20000 in
theorem nxtL_length (m : Mo) (code : Int) : (nxtL m code).length ≤ 1 + m.rules.length := by
  unfold nxtL nextL
  split
  · refine Nat.le_trans (upL_length _) ?_
    unfold rawL
    split
    · simp
    · exact Nat.le_trans (rawTo_length _ _ _ _) (by omega)
  · simp
end Go.Proofs.YtipleacacfejcaaDoor

/-
  The contracts of step.nextOf and step.Next.
-/
namespace Go.Proofs.YtipleacacfejcaaDoor
open Go.ChangeShapes Go.WideShapes Go.ChangeAt Go.RowKit Go.Deep
open Terms Tm

/-- numbers in a row of one's own, in a slice that is not nil. -/
def OwnI (base : Nat) (w : World) (v : Value) (l : List Int) : Prop := w.ownsRow base 3 1 v l.length (ivals l) ∧ v ≠ .slice none 0 0
set_option maxRecDepth 20000 in
theorem OwnI.form {base : Nat} {w : World} {v : Value} {l : List Int} (h : OwnI base w v l) : ∃ g cap, v = .slice (some ⟨g, 0, none⟩) l.length cap ∧ base ≤ g ∧ g < w.heap.size := by
  rcases h.1.2 with ⟨e0, _⟩ | ⟨g, cap, cur, rfl, hb, hg, _⟩
  · exact absurd e0 h.2
  · exact ⟨g, cap, rfl, hb, (Array.getElem?_eq_some_iff.1 hg).1⟩

set_option maxHeartbeats 3200000 in
set_option maxRecDepth 20000 in
/-- THE CONTRACT OF nextOf. -/
theorem nextOf_own (va vr : Value) (m : Mo) (code : Int) (w : World) (hB : 0 < w.heap.size) (hT : TabAt w) (hV : ModelV w va vr m) (hm : mcode m = 0) :
    Calls Tryd.prog 20 #[.agg #[va, vr], .int .i64 code] w fun e w' => ∃ v, e = .returned (.tuple #[v, .int .i64 (wcode m code)]) ∧ Below w.heap.size w w' ∧ IntsV w' v (nxtL m code) ∧ w'.ownsRow w.heap.size 3 1 v (nxtL m code).length (ivals (nxtL m code)) := by
  have hA : ∀ o, Below w.heap.size w (w.alloc o) := fun o => (Below.refl _ _).alloc (Nat.le_refl _) o
  have hVb : ∀ w', Below w.heap.size w w' → ∀ ao cap, va = .slice ao m.vars.length cap → ModelV w' (.slice ao m.vars.length cap) (.slice none 0 0) ⟨m.vars, []⟩ := fun w' hb ao cap e => ⟨e ▸ hV.1.below hb, ⟨none, 0, rfl, ⟨by simp, fun _ => ⟨rfl, rfl⟩⟩, fun h => by simp at h⟩⟩
  obtain ⟨ao, cap, rfl⟩ := hV.1.shape
  obtain ⟨ro, rc, hro⟩ := hV.2.shape
  have hba := fun w => bare_any ao ro m.vars.length cap m.rules.length rc w
  by_cases hw : wcode m code = 0
  · have hvl : ∀ w', Below w.heap.size w w' → Calls Tryd.prog 18 #[.agg #[.slice ao m.vars.length cap, .slice none 0 0], .int .i64 code] w' fun e w2 => ∃ B, e = .returned (.tuple #[.slice (some ⟨B, 0, none⟩) (valsL m.vars code).length (valsL m.vars code).length, .int .i64 0]) ∧ w'.heap.size ≤ B ∧ Below w'.heap.size w' w2 ∧ w2.rowIs B 3 (valsL m.vars code).length (fun j => .int .i64 ((valsL m.vars code).getD j 0)) := fun w' hb =>
      svalues_any _ _ ⟨m.vars, []⟩ code w' (Nat.lt_of_lt_of_le hB hb.size) (hT.below hb hB) (hVb w' hb ao cap rfl) (by rw [wcode_bare _ hm]; exact hw)
    obtain ⟨hr12, hrs⟩ := mcode_rules hm
    have HDo : Hid (∀ w' (_ : Below w.heap.size w w') B k gv sv, k < m.rules.length → w'.rowIs B 3 (valsL m.vars code).length (fun j => .int .i64 ((valsL m.vars code).getD j 0)) → OpsV w' gv (m.rules.getD k ru0).guard → SetsV w' sv (m.rules.getD k ru0).sets → Calls Tryd.prog 19 #[.agg #[.slice ao m.vars.length cap, vr], .slice (some ⟨B, 0, none⟩) (valsL m.vars code).length (valsL m.vars code).length, .agg #[gv, sv]] w' fun e w2 => e = .returned (.tuple #[.int .i64 (optN (ruleDo m.vars (valsL m.vars code) (m.rules.getD k ru0))), .int .i64 (optC (ruleDo m.vars (valsL m.vars code) (m.rules.getD k ru0)))]) ∧ Below w'.heap.size w' w2) := fun w' hb B k gv sv hk hrow hg hs =>
      doRule_any _ vr gv sv B m (valsL m.vars code) (m.rules.getD k ru0) w' (Nat.lt_of_lt_of_le hB hb.size) (hT.below hb hB) (hV.below hb) hm (hrs k hk) (valsL_length _ _) hrow hg hs
    have HR : Hid (RulesV w vr m.rules) := hV.2
    have HNL : Hid (nxtL m code = upL (if rawTo m.vars (valsL m.vars code) m.rules m.rules.length = [] then [code] else rawTo m.vars (valsL m.vars code) m.rules m.rules.length)) := by show _ = _; unfold nxtL nextL rawL; rw [if_pos hw]
    rw [hw]
    generalize nxtL m code = res at *
    generalize valsL m.vars code = env at *
    subst hro
    obtain ⟨rn, hrn⟩ : ∃ rn, rn = m.rules.length := ⟨_, rfl⟩
    have HRN : Hid (rn = m.rules.length) := hrn
    rw [← hrn] at hba HDo HR HNL hr12 ⊢
    obtain ⟨i0, hi, hz0, hz1, hz2⟩ := info_parts infoInt
    clear hV hT hVb hw hm hrs hrn
    generalize m.vars.length = n at *
    go_enter Tryd.func20, Tryd.ntmps20
    go_wp2_with (first | (go_at_call 31; refine (hba _).mono ?_; rintro e w1 ⟨rfl, hb1⟩; have hbw1 := (hA _).trans (hb1.mono (hA _).size); have k10 : w1.cell? ⟨w.heap.size, 0, none⟩ = some (.slice ao n cap) := (hb1.cell (p := ⟨w.heap.size, 0, none⟩) (by simp)).trans (by simp [go_sem]); have k11 : w1.cell? ⟨w.heap.size, 1, none⟩ = some (.slice ro rn rc) := (hb1.cell (p := ⟨w.heap.size, 1, none⟩) (by simp)).trans (by simp [go_sem]); have hs1 : w.heap.size < w1.heap.size := (by have := hb1.size; simp at this; omega)) | (go_at_call 18; refine (hvl _ hbw1).mono ?_; rintro e w2 ⟨B, rfl, hBl, hb2, hr2⟩; have k20 := (hb2.cell (p := ⟨w.heap.size, 0, none⟩) hs1).trans k10; have k21 := (hb2.cell (p := ⟨w.heap.size, 1, none⟩) hs1).trans k11; have hs2 := Nat.lt_of_lt_of_le hs1 hb2.size; have kA1 : ∀ o, (w2.alloc o).cell? ⟨w.heap.size, 1, none⟩ = some (.slice ro rn rc) := fun o => (((Below.refl w2.heap.size w2).alloc (Nat.le_refl _) o).cell (p := ⟨w.heap.size, 1, none⟩) hs2).trans k21))
    have hbw2 := hbw1.trans (hb2.mono hbw1.size)
    have hA2 : ∀ o, Below w2.heap.size w2 (w2.alloc o) := fun o => (Below.refl _ _).alloc (Nat.le_refl _) o
    have HRow : Hid (w2.rowIs B 3 env.length (fun j => .int .i64 (env.getD j 0))) := hr2
    have HB2 : Hid (Below w.heap.size w w2) := hbw2
    have HK2 : Hid (∀ w', Below w2.heap.size w2 w' → w'.cell? ⟨w.heap.size, 0, none⟩ = some (.slice ao n cap) ∧ w'.cell? ⟨w.heap.size, 1, none⟩ = some (.slice ro rn rc)) := fun w' hb => ⟨(hb.cell (p := ⟨w.heap.size, 0, none⟩) hs2).trans k20, (hb.cell (p := ⟨w.heap.size, 1, none⟩) hs2).trans k21⟩
    have HO0 : Hid (OwnI w2.heap.size (w2.alloc (.cells #[] 3)) (.slice (some ⟨w2.heap.size, 0, none⟩) 0 0) (rawTo m.vars env m.rules 0)) := ⟨World.ownsRow_lit w2 #[] 0 (Nat.le_refl _) (by decide) rfl, by simp⟩
    clear hvl hba hb1 hbw1 k10 k11 hs1 hb2 hr2 k20 k21 kA1 hbw2
    go_loopw [8, 27] (fun nx i wr => ∃ k : Nat, k ≤ rn ∧ i = .int .i64 k ∧ Hid (OwnI w2.heap.size wr nx (rawTo m.vars env m.rules k)) ∧ Hid (Below w2.heap.size w2 wr)) (fun _ i _ => rn - (intOf i).toNat)
    case atStart => exact ⟨0, Nat.zero_le _, rfl, HO0.out, hA2 _⟩
    case round =>
      obtain ⟨k, hk, rfl, HOwn, HBel⟩ := hrel
      have hbel := HBel.out
      have hbw := HB2.out.trans (hbel.mono HB2.out.size)
      obtain ⟨kr0, kr1⟩ := HK2.out wr hbel
      obtain ⟨g, gc, rfl, hg, hgl⟩ := HOwn.out.form
      have hown := HOwn.out.1
      by_cases hlt : k < rn
      · obtain ⟨b, off, rfl, hblt, hat⟩ := HR.out.at (i := k) (by rw [← HRN.out]; exact hlt)
        obtain ⟨⟨u, c0, hou⟩, u', c1, hsu⟩ := hat.below hbw hblt
        obtain ⟨uo, uc, rfl⟩ := hou.shape
        obtain ⟨so, sc, rfl⟩ := hsu.shape
        have hAr : ∀ o, Below wr.heap.size wr (wr.alloc o) := fun o => (Below.refl _ _).alloc (Nat.le_refl _) o
        have hkA0 : ∀ o, (wr.alloc o).cell? ⟨w.heap.size, 0, none⟩ = some (.slice ao n cap) := fun o => (HK2.out _ (hbel.trans ((hAr o).mono hbel.size))).1
        have hkA1 : ∀ o, (wr.alloc o).cell? ⟨w.heap.size, 1, none⟩ = some (.slice (some ⟨b, off, none⟩) rn rc) := fun o => (HK2.out _ (hbel.trans ((hAr o).mono hbel.size))).2
        have hdo := fun o => HDo.out (wr.alloc o) (hbw.trans ((hAr o).mono hbw.size)) B k _ _ hlt (row_later (row_later HRow.out hbel) (hAr o)) (hou.below (hAr o)) (hsu.below (hAr o))
        have HRl : Hid ((rawTo m.vars env m.rules k).length ≤ k) := rawTo_length _ _ _ _
        have hk' : k < m.rules.length := by rw [← HRN.out]; exact hlt
        generalize (m.rules.getD k ru0).guard.length = gl at *
        generalize (m.rules.getD k ru0).sets.length = sl at *
        obtain ⟨L, hL⟩ : ∃ L, L = (rawTo m.vars env m.rules k).length := ⟨_, rfl⟩
        have HL : Hid (L = (rawTo m.vars env m.rules k).length) := hL
        rw [← hL] at hown HRl ⊢
        cases hres : ruleDo m.vars env (m.rules.getD k ru0) with
        | none =>
          rw [hres] at hdo
          simp only [optN, optC] at hdo
          have HN : Hid (rawTo m.vars env m.rules (k + 1) = rawTo m.vars env m.rules k) := rawTo_none hk' hres
          have HW4 : Hid (∀ o w4, Below (wr.alloc o).heap.size (wr.alloc o) w4 → Below w2.heap.size w2 w4 ∧ OwnI w2.heap.size w4 (.slice (some ⟨g, 0, none⟩) L gc) (rawTo m.vars env m.rules k)) := fun o w4 hb => ⟨(hbel.alloc hbel.size o).trans (hb.mono (hbel.alloc hbel.size o).size), by
            refine ⟨?_, by simp⟩
            rw [← HL.out]
            exact owns_later (owns_later hown (hAr o) (Nat.le_refl _)) hb (Nat.le_refl _)⟩
          clear hat hou hsu HDo HR hres hk' hown hL
          go_wp2_with (go_at_call 19; refine (hdo _).mono ?_; rintro e w4 ⟨rfl, hb4⟩; obtain ⟨hb24, ho4⟩ := HW4.out _ w4 hb4)
          exact ⟨⟨k + 1, hlt, by first | rfl | simp, by rw [HN.out]; exact ho4, hb24⟩, by simp [intOf]; omega⟩
        | some x =>
          rw [hres] at hdo
          simp only [optN, optC] at hdo
          have HN : Hid (rawTo m.vars env m.rules (k + 1) = rawTo m.vars env m.rules k ++ [x]) := rawTo_some hk' hres
          have h63 : L + 1 ≤ maxLen := by have := HRl.out; unfold maxLen; omega
          have hkb : (L + 1) * 8 ≤ 140737488355328 := by have := HRl.out; omega
          clear hat hou hsu HDo HR hres hk' hL
          go_wp2_with (first | (go_at_call 19; refine (hdo _).mono ?_; rintro e w4 ⟨rfl, hb4⟩; have hb24 := (hbel.alloc hbel.size _).trans (hb4.mono (hbel.alloc hbel.size _).size); have hown4 := fun o => (owns_later (owns_later hown (hAr _) (Nat.le_refl _)) hb4 (Nat.le_refl _)).alloc o; have hbase : ∀ o, w2.heap.size ≤ (w4.alloc o).heap.size := (fun o => by have := hb24.size; simp; omega)) | (at_builtin; refine wpList_append_lies _ rfl (.tmp 40) (.tmp 42) 49 rfl w2.heap.size 3 i0 (.int .i64 0) 1 8 Tryd.underlying49 hi hz0 hz1 hz2 rfl (by decide) (.slice (some ⟨g, 0, none⟩) L gc) L _ rfl (hown4 _) ⟨w4.heap.size, 0, none⟩ 1 1 [.int .i64 x] rfl rfl (cell_one_new _ _ _) (by intro u hu; simp at hu; subst hu; rfl) (by decide) h63 hkb (hbase _) _ rfl ?_; intro g5 cp5 w5 hown5 hgrow5 hat5 hgl5))
          have hb25 : Below w2.heap.size w2 w5 := (hb24.alloc hb24.size _).grown hgrow5 (hbase _) (fun z hz => by have hgz : g = z := (by simpa [Value.ownBlock] using hz); rw [← hgz]; exact hg)
          have ho5 : OwnI w2.heap.size w5 (.slice (some ⟨g5, 0, none⟩) (L + 1) cp5) (rawTo m.vars env m.rules (k + 1)) := by
            refine ⟨?_, by simp⟩
            rw [HN.out, List.length_append, ← HL.out]
            rw [show ivals (rawTo m.vars env m.rules k ++ [x]) = ivals (rawTo m.vars env m.rules k) ++ [.int .i64 x] by simp [ivals]]
            exact hown5
          exact ⟨⟨k + 1, hlt, by first | rfl | simp, ho5, hb25⟩, by simp [intOf]; omega⟩
      · have hkn : k = rn := by omega
        subst hkn
        have HRl : Hid ((rawTo m.vars env m.rules k).length ≤ k) := rawTo_length _ _ _ _
        generalize rawTo m.vars env m.rules k = raw at *
        clear HDo HR HOwn kr0 kr1 hlt hk
        by_cases hraw : raw = []
        · have HRes : Hid (res = upL [code]) := by show _ = _; rw [HNL.out, if_pos hraw]
          subst hraw
          have hown0 : wr.ownsRow w2.heap.size 3 1 (.slice (some ⟨g, 0, none⟩) 0 gc) 0 [] := hown
          have hown4 := fun o => hown0.alloc o
          have hbase : ∀ o, w2.heap.size ≤ (wr.alloc o).heap.size := fun o => by have := hbel.size; simp; omega
          have hAr : ∀ o, Below wr.heap.size wr (wr.alloc o) := fun o => (Below.refl _ _).alloc (Nat.le_refl _) o
          clear hown HNL HRl
          simp only [List.length_nil]
          have hso := fun (w5 : World) g5 cp5 (ho : w5.ownsRow w2.heap.size 3 1 (.slice (some ⟨g5, 0, none⟩) 1 cp5) 1 (ivals [code])) => sort_own g5 cp5 w2.heap.size [code] w5 (by simp) ho
          have hms : [code].mergeSort leB = [code] := List.mergeSort_singleton _
          have HUp : Hid (Lib.compact [code] = upL [code]) := by show _ = Lib.compact _; rw [hms]
          rw [hms] at hso
          simp only [List.length_cons, List.length_nil, Nat.zero_add] at hso
          have hco := fun (w5 : World) g5 cp5 (ho : w5.ownsRow w2.heap.size 3 1 (.slice (some ⟨g5, 0, none⟩) 1 cp5) 1 (ivals [code])) => compact_own g5 cp5 w2.heap.size [code] w5 (by simp) ho
          simp only [List.length_cons, List.length_nil, Nat.zero_add] at hco
          rw [HUp.out] at hco
          go_wp2_with (first | (at_builtin; refine wpList_append_lies _ rfl (.tmp 48) (.tmp 50) 49 rfl w2.heap.size 3 i0 (.int .i64 0) 1 8 Tryd.underlying49 hi hz0 hz1 hz2 rfl (by decide) (.slice (some ⟨g, 0, none⟩) 0 gc) 0 _ rfl (hown4 _) ⟨wr.heap.size, 0, none⟩ 1 1 [.int .i64 code] rfl rfl (cell_one_new _ _ _) (by intro u hu; simp at hu; subst hu; rfl) (by decide) (by decide) (by decide) (hbase _) _ rfl ?_; intro g5 cp5 w5 hown5 hgrow5 hat5 hgl5; have hg5 : w2.heap.size ≤ g5 := (by rcases hat5 with h5 | h5; (have hgz : g = g5 := (by simpa [Value.ownBlock] using h5)); (rw [← hgz]; exact hg); (rw [h5]; exact hbase _))) | (go_at_call 32; refine (hso _ _ _ hown5).mono ?_; rintro e w6 ⟨rfl, hgr6, ho6⟩) | (go_at_call 33; refine (hco _ _ _ ho6).mono ?_; rintro e w7 ⟨rfl, hgr7, ho7⟩))
          have hb5 : Below w2.heap.size w2 w5 := (hbel.alloc hbel.size _).grown hgrow5 (hbase _) (fun z hz => by have hgz : g = z := (by simpa [Value.ownBlock] using hz); rw [← hgz]; exact hg)
          have hb7 : Below w2.heap.size w2 w7 := (hb5.grown hgr6 hb5.size (fun z hz => by rw [← Option.some.inj hz]; exact hg5)).grown hgr7 (Nat.le_trans hb5.size hgr6.size) (fun z hz => by rw [← Option.some.inj hz]; exact hg5)
          have hI7 : IntsV w7 (.slice (some ⟨g5, 0, none⟩) (upL [code]).length cp5) (upL [code]) := intsV_of_owns ho7
          go_ret2
          exact ⟨_, rfl, HB2.out.trans (hb7.mono HB2.out.size), by rw [HRes.out]; exact ⟨hI7, owns_mono ho7 HB2.out.size⟩⟩
        · have HRes : Hid (res = upL raw) := by show _ = _; rw [HNL.out, if_neg hraw]
          have hpos : 0 < raw.length := List.length_pos_iff.2 hraw
          have hso := sort_own g gc w2.heap.size raw wr (by have := HRl.out; omega) hown
          obtain ⟨L, hL⟩ : ∃ L, L = raw.length := ⟨_, rfl⟩
          have HL : Hid (L = raw.length) := hL
          have HLs : Hid ((raw.mergeSort leB).length = L) := by show _ = _; rw [List.length_mergeSort, hL]
          have hL12 : L ≤ 12 := by have := HRl.out; omega
          rw [← hL] at hso hpos ⊢
          clear hown HNL HRl hraw hL
          have HCo : Hid (∀ w5 : World, w5.ownsRow w2.heap.size 3 1 (.slice (some ⟨g, 0, none⟩) L gc) L (ivals (raw.mergeSort leB)) → Calls Tryd.prog 33 #[.slice (some ⟨g, 0, none⟩) L gc] w5 fun e w' => e = .returned (.slice (some ⟨g, 0, none⟩) (upL raw).length gc) ∧ w5.grownBy w' (some g) ∧ w'.ownsRow w2.heap.size 3 1 (.slice (some ⟨g, 0, none⟩) (upL raw).length gc) (upL raw).length (ivals (upL raw))) := fun w5 ho => by
            rw [← HLs.out] at ho ⊢
            exact compact_own g gc w2.heap.size (raw.mergeSort leB) w5 (by rw [HLs.out]; omega) ho
          go_wp2_with (first | (go_at_call 32; refine hso.mono ?_; rintro e w6 ⟨rfl, hgr6, ho6⟩; have hco := HCo.out w6 ho6) | (go_at_call 33; refine hco.mono ?_; rintro e w7 ⟨rfl, hgr7, ho7⟩))
          have hb7 : Below w2.heap.size w2 w7 := (hbel.grown hgr6 hbel.size (fun z hz => by rw [← Option.some.inj hz]; exact hg)).grown hgr7 (Nat.le_trans hbel.size hgr6.size) (fun z hz => by rw [← Option.some.inj hz]; exact hg)
          have hI7 : IntsV w7 (.slice (some ⟨g, 0, none⟩) (upL raw).length gc) (upL raw) := intsV_of_owns ho7
          go_ret2
          exact ⟨_, rfl, HB2.out.trans (hb7.mono HB2.out.size), by rw [HRes.out]; exact ⟨hI7, owns_mono ho7 HB2.out.size⟩⟩
  · have hvl := fun w' (hb : Below w.heap.size w w') => mvalues_any _ _ ⟨m.vars, []⟩ code w' (Nat.lt_of_lt_of_le hB hb.size) (hT.below hb hB) (hVb w' hb ao cap rfl)
    rw [wcode_bare _ hm] at hvl
    have hnl : nxtL m code = [] := by unfold nxtL; rw [if_neg hw]
    rw [hnl]
    subst hro
    generalize wcode m code = c at *
    generalize wvals ⟨m.vars, []⟩ code = vs at *
    generalize m.vars.length = n at *
    generalize m.rules.length = rn at *
    clear hV hT hVb hnl hm
    go_enter Tryd.func20, Tryd.ntmps20
    go_wp2_with (first | (go_at_call 31; refine (hba _).mono ?_; rintro e w2 ⟨rfl, hb2⟩; have hbw2 := (hA _).trans (hb2.mono (hA _).size)) | (go_at_call 18; refine (hvl _ hbw2).mono ?_; rintro e w3 ⟨v, rfl, hb3, _⟩))
    go_ret2
    exact ⟨_, rfl, hbw2.trans (hb3.mono hbw2.size), ⟨none, 0, rfl, fun h => absurd rfl h⟩, World.ownsRow_nil _ _ _ _⟩

set_option maxRecDepth 20000 in
theorem nextOf_any (va vr : Value) (m : Mo) (code : Int) (w : World) (hB : 0 < w.heap.size) (hT : TabAt w) (hV : ModelV w va vr m) (hm : mcode m = 0) :
    Calls Tryd.prog 20 #[.agg #[va, vr], .int .i64 code] w fun e w' => ∃ v, e = .returned (.tuple #[v, .int .i64 (wcode m code)]) ∧ Below w.heap.size w w' ∧ IntsV w' v (nxtL m code) :=
  (nextOf_own va vr m code w hB hT hV hm).mono fun _ _ ⟨v, h1, h2, h3, _⟩ => ⟨v, h1, h2, h3⟩

set_option maxHeartbeats 1600000 in
set_option maxRecDepth 20000 in
/-- THE CONTRACT OF Next. -/
theorem next_any (va vr : Value) (m : Mo) (code : Int) (w : World) (hB : 0 < w.heap.size) (hT : TabAt w) (hV : ModelV w va vr m) :
    Calls Tryd.prog 11 #[.agg #[va, vr], .int .i64 code] w fun e w' => ∃ v, e = .returned (.tuple #[v, .int .i64 (wcode m code)]) ∧ Below w.heap.size w w' ∧ IntsV w' v (nxtL m code) := by
  have hA : ∀ o, Below w.heap.size w (w.alloc o) := fun o => (Below.refl _ _).alloc (Nat.le_refl _) o
  have hch := fun o => mcheck_any va vr m (w.alloc o) (Nat.lt_of_lt_of_le hB (hA o).size) (hT.below (hA o) hB) (hV.below (hA o))
  by_cases hm : mcode m = 0
  · have hne := fun w' (hb : Below w.heap.size w w') => nextOf_any va vr m code w' (Nat.lt_of_lt_of_le hB hb.size) (hT.below hb hB) (hV.below hb) hm
    rw [hm] at hch
    obtain ⟨ao, cap, rfl⟩ := hV.1.shape
    obtain ⟨ro, rc, rfl⟩ := hV.2.shape
    generalize wcode m code = c at *
    generalize nxtL m code = res at *
    generalize m.vars.length = n at *
    generalize m.rules.length = rn at *
    clear hV hT hm
    go_enter Tryd.func11, Tryd.ntmps11
    go_wp2_with (first | (go_at_call 8; refine (hch _).mono ?_; rintro e w1 ⟨rfl, hb1⟩; have hbw1 := (hA _).trans (hb1.mono (hA _).size); have k10 : w1.cell? ⟨w.heap.size, 0, none⟩ = some (.slice ao n cap) := (hb1.cell (p := ⟨w.heap.size, 0, none⟩) (by simp)).trans (by simp [go_sem]); have k11 : w1.cell? ⟨w.heap.size, 1, none⟩ = some (.slice ro rn rc) := (hb1.cell (p := ⟨w.heap.size, 1, none⟩) (by simp)).trans (by simp [go_sem])) | (go_at_call 20; refine (hne _ hbw1).mono ?_; rintro e w2 ⟨v, rfl, hb2, hI2⟩))
    go_ret2
    exact ⟨_, rfl, hbw1.trans (hb2.mono hbw1.size), hI2⟩
  · have hw : wcode m code = mcode m := wcode_bad hm
    have hnl : nxtL m code = [] := by unfold nxtL; rw [if_neg (by rw [hw]; exact hm)]
    rw [hw, hnl]
    obtain ⟨ao, cap, rfl⟩ := hV.1.shape
    obtain ⟨ro, rc, rfl⟩ := hV.2.shape
    generalize mcode m = c at *
    generalize m.vars.length = n at *
    generalize m.rules.length = rn at *
    clear hV hT hw hnl
    go_enter Tryd.func11, Tryd.ntmps11
    go_wp2_with (go_at_call 8; refine (hch _).mono ?_; rintro e w1 ⟨rfl, hb1⟩)
    go_ret2
    exact ⟨_, rfl, (hA _).trans (hb1.mono (hA _).size), none, 0, rfl, fun h => absurd rfl h⟩
end Go.Proofs.YtipleacacfejcaaDoor

/-
  What the program answers of the next states of a model that the keeping laws make.
-/
namespace Go.Proofs.YtipleacacfejcaaDoor
open Go.ChangeShapes Go.WideShapes Go.ChangeAt Go.RowKit Go.Deep
open Terms Tm

/-- a list of next states. -/
structure UpTo (l : List Int) (N : Int) (rn : Nat) : Prop where
  rise : Rise l
  inN : ∀ x ∈ l, 0 ≤ x ∧ x < N
  some : 0 < l.length
  few : l.length ≤ max rn 1
set_option maxRecDepth 20000 in
theorem UpTo.at {l : List Int} {N : Int} {rn : Nat} (h : UpTo l N rn) {i : Nat} (hi : i < l.length) : 0 ≤ l.getD i 0 ∧ l.getD i 0 < N := by
  rw [show l.getD i 0 = l[i] by simp [List.getD_eq_getElem?_getD, hi]]
  exact h.inN _ (List.getElem_mem hi)
set_option maxRecDepth 20000 in
theorem UpTo.up {l : List Int} {N : Int} {rn : Nat} (h : UpTo l N rn) {i : Nat} (hi : i + 1 < l.length) : l.getD i 0 < l.getD (i + 1) 0 := by
  rw [show l.getD i 0 = l[i] by simp [List.getD_eq_getElem?_getD, show i < l.length by omega], show l.getD (i + 1) 0 = l[i + 1] by simp [List.getD_eq_getElem?_getD, hi]]
  exact List.pairwise_iff_getElem.1 h.rise i (i + 1) (by omega) hi (by omega)
set_option maxRecDepth 20000 in
theorem rawL_facts {a b : Vr} (hG : GV a b) {rules : List Ru} {c : Int} (hc : 0 ≤ c ∧ c < vspan a * vspan b) : (∀ x ∈ rawL ⟨[a, b], rules⟩ c, 0 ≤ x ∧ x < vspan a * vspan b) ∧ 0 < (rawL ⟨[a, b], rules⟩ c).length ∧ (rawL ⟨[a, b], rules⟩ c).length ≤ max rules.length 1 := by
  have hv := varsOk_of hG.vcode
  have hp := prod_two a b
  unfold rawL
  split
  · exact ⟨fun x hx => by simp at hx; subst hx; exact hc, by simp, by simp; omega⟩
  · rename_i h
    refine ⟨fun x hx => ?_, List.length_pos_iff.2 h, ?_⟩
    · obtain ⟨j, _, e⟩ := (rawTo_mem (Nat.le_refl _) x).1 hx
      have := ruleDo_state hv e
      rw [← hp]; exact this
    · have := rawTo_length [a, b] (valsL [a, b] c) rules rules.length
      show (rawTo [a, b] (valsL [a, b] c) rules rules.length).length ≤ _
      omega
set_option maxRecDepth 20000 in
theorem upL_pos {l : List Int} (h : 0 < l.length) : 0 < (upL l).length := by
  obtain ⟨x, hx⟩ := List.exists_mem_of_length_pos h
  exact List.length_pos_of_mem (((upL_spec l).2 x).2 hx)
set_option maxRecDepth 20000 in
theorem nextL_up {a b : Vr} (hG : GV a b) {rules : List Ru} {c : Int} (hc : 0 ≤ c ∧ c < vspan a * vspan b) : UpTo (nextL ⟨[a, b], rules⟩ c) (vspan a * vspan b) rules.length := by
  obtain ⟨h1, h2, h3⟩ := rawL_facts hG (rules := rules) hc
  refine ⟨(upL_spec _).1, fun x hx => h1 x (((upL_spec _).2 x).1 hx), upL_pos h2, Nat.le_trans (upL_length _) h3⟩
set_option maxRecDepth 20000 in
theorem gwcode {a b : Vr} (hG : GV a b) {rules : List Ru} (h5 : rules.length ≤ 12) (hr : ∀ j, j < rules.length → rcode 2 (rules.getD j ru0) = 0) {c : Int} (hc : 0 ≤ c ∧ c < vspan a * vspan b) : wcode ⟨[a, b], rules⟩ c = 0 :=
  wcode_yes (hG.mcode h5 hr) ⟨hc.1, by show c < prodTo [a, b] 2; rw [prod_two]; exact hc.2⟩
set_option maxRecDepth 20000 in
/-- step.Next of such a model. -/
theorem knext {a b : Vr} {va : Value} {ro : Option Addr} {rn rc : Nat} {w : World} (hG : GV a b) {c : Int} (hc : 0 ≤ c ∧ c < vspan a * vspan b) (hB : 0 < w.heap.size) (hT : TabAt w) (hM : GModel w va (.slice ro rn rc) [a, b]) :
    Calls Tryd.prog 11 #[.agg #[va, .slice ro rn rc], .int .i64 c] w fun e w' => ∃ v l, e = .returned (.tuple #[v, .int .i64 0]) ∧ Below w.heap.size w w' ∧ IntsV w' v l ∧ UpTo l (vspan a * vspan b) rn := by
  obtain ⟨rules, h1, h2, h3⟩ := hM
  have hrn : rn = rules.length := by
    obtain ⟨ao, cap, e, _⟩ := h1.2
    injection e
  have hw := gwcode hG (by omega) h3 hc
  have h := next_any va _ ⟨[a, b], rules⟩ c w hB hT h1
  rw [hw, show nxtL ⟨[a, b], rules⟩ c = nextL ⟨[a, b], rules⟩ c by unfold nxtL; rw [if_pos hw]] at h
  exact h.mono fun e w' ⟨v, he, hb, hi⟩ => ⟨v, _, he, hb, hi, by rw [hrn]; exact nextL_up hG hc⟩
end Go.Proofs.YtipleacacfejcaaDoor

/-
  Three rules more: one that stays, one that never can be done, one that leaves the bounds: what comes behind them.
-/
namespace Go.Proofs.YtipleacacfejcaaDoor
open Go.ChangeShapes Go.WideShapes Go.ChangeAt Go.RowKit Go.Deep
open Terms Tm

set_option maxRecDepth 20000 in
theorem leaf_tree {k x : Int} (hg : (Tm.leaf k x).Good 2) : treeOf [(k, x)] = .leaf k x := treeOf_ops (T := .leaf k x) hg.wf (by simp [Tm.size])
set_option maxRecDepth 20000 in
theorem leaf_ex {env : List Int} (hl : env.length = 2) (he : envBad env = false) {k x : Int} (hg : (Tm.leaf k x).Good 2) (ht : (Tm.leaf k x).typed = true) : exC [(k, x)] env = 0 ∧ exN [(k, x)] env = (if k = 1 then x else if k = 2 then env.getD x.toNat 0 else if k = 11 then 1 else 0) := by
  have hx : xcode (env.length : Nat) [(k, x)] (.leaf k x) = 0 := by
    rw [hl]
    have := xcode_good (vars := 2) (t := .leaf k x) (by decide) (by decide) hg (by simp [Tm.size])
    rw [if_pos ht] at this
    exact this
  unfold exC exN evalC evalN
  rw [leaf_tree hg, if_neg (by rw [hx]; simp), if_neg (by rw [he]; simp), if_neg (by rw [hx]; simp), if_neg (by rw [he]; simp)]
  exact ⟨rfl, rfl⟩
set_option maxRecDepth 20000 in
theorem good_yes : (Tm.leaf 11 0).Good 2 := .inr (.inr ⟨.inl rfl, rfl⟩)
set_option maxRecDepth 20000 in
theorem good_no : (Tm.leaf 12 0).Good 2 := .inr (.inr ⟨.inr rfl, rfl⟩)
set_option maxRecDepth 20000 in
theorem good_num {n : Int} (h : -1000 ≤ n ∧ n ≤ 1000) : (Tm.leaf 1 n).Good 2 := .inl ⟨rfl, h.1, h.2⟩
set_option maxRecDepth 20000 in
theorem no_kcode : kcode 2 [(12, 0)] true = 0 := by
  have := kcode_tree (T := .leaf 12 0) (vars := 2) (by decide) (by decide) good_no (by simp [Tm.size]) rfl true
  simpa [Tm.ops, Tm.kind, mkT] using this
/-- the three rules. -/
def stayR : Ru := ⟨[(11, 0)], []⟩
def neverR : Ru := ⟨[(12, 0)], []⟩
def outR (n : Int) : Ru := ⟨[(11, 0)], [⟨0, [(1, n)]⟩]⟩
set_option maxRecDepth 20000 in
theorem stay_rcode : rcode 2 stayR = 0 := by
  unfold rcode stayR
  rw [if_neg (by simp), if_pos yes_kcode]
  rfl
set_option maxRecDepth 20000 in
theorem never_rcode : rcode 2 neverR = 0 := by
  unfold rcode neverR
  rw [if_neg (by simp), if_pos no_kcode]
  rfl
set_option maxRecDepth 20000 in
theorem out_rcode {n : Int} (h : -1000 ≤ n ∧ n ≤ 1000) : rcode 2 (outR n) = 0 := by
  unfold rcode outR
  rw [if_neg (by simp), if_pos yes_kcode]
  refine firstOf_none fun j hj => ?_
  have h0 : j = 0 := by simp at hj; omega
  subst h0
  show (if (0 : Int) < 0 ∨ (2 : Int) ≤ 0 then (2 : Int) else if metVar [⟨0, [(1, n)]⟩] 0 0 = true then 7 else kcode 2 [(1, n)] false) = 0
  rw [if_neg (by omega), if_neg (by simp [metVar]), num_kcode h]
  rfl
set_option maxRecDepth 20000 in
theorem vals_two {a b : Vr} (hG : GV a b) {c : Int} (hc : 0 ≤ c ∧ c < vspan a * vspan b) : (valsL [a, b] c).length = 2 ∧ envBad (valsL [a, b] c) = false ∧ (∀ i, i < 2 → inB [a, b] (valsL [a, b] c) i) ∧ codeTo [a, b] (valsL [a, b] c) 2 = c := by
  have hv := varsOk_of hG.vcode
  have hg : ∀ i, i < 2 → (valsL [a, b] c).getD i 0 = valAt [a, b] c i := fun i hi => by
    unfold valsL
    rw [List.getD_eq_getElem?_getD, List.getElem?_map, List.getElem?_range (by simpa using hi)]; rfl
  have hin : ∀ i, i < 2 → inB [a, b] (valsL [a, b] c) i := fun i hi => by
    unfold inB
    rw [hg i hi]
    exact valAt_in hv c (by simpa using hi)
  refine ⟨by simp [valsL], envBad_ok fun j hj => ?_, hin, ?_⟩
  · have hj2 : j < 2 := by simpa [valsL] using hj
    obtain ⟨h1, h2⟩ := hin j hj2
    obtain ⟨na, nb, p0, p1, p2, p3, p4, p5, q0, q1, q2, q3, q4, q5⟩ := hG
    have hj3 : j = 0 ∨ j = 1 := by omega
    rcases hj3 with rfl | rfl
    · have h3 : a.lo ≤ (valsL [a, b] c).getD 0 0 := h1
      have h4 : (valsL [a, b] c).getD 0 0 ≤ a.hi := h2
      omega
    · have h3 : b.lo ≤ (valsL [a, b] c).getD 1 0 := h1
      have h4 : (valsL [a, b] c).getD 1 0 ≤ b.hi := h2
      omega
  · show (0 * vspan a + ((valsL [a, b] c).getD 0 0 - a.lo)) * vspan b + ((valsL [a, b] c).getD 1 0 - b.lo) = c
    rw [hg 0 (by omega), hg 1 (by omega), val_zero hG hc.1 hc.2, val_one]
    rw [show 0 * vspan a + (a.lo + c / vspan b - a.lo) = c / vspan b by omega, show b.lo + c % vspan b - b.lo = c % vspan b by omega]
    have := Int.mul_ediv_add_emod c (vspan b)
    rw [Int.mul_comm] at this
    exact this
set_option maxRecDepth 20000 in
theorem stay_do {a b : Vr} (hG : GV a b) {c : Int} (hc : 0 ≤ c ∧ c < vspan a * vspan b) : ruleDo [a, b] (valsL [a, b] c) stayR = some c := by
  obtain ⟨h1, h2, h3, h4⟩ := vals_two hG hc
  obtain ⟨e1, e2⟩ := leaf_ex h1 h2 good_yes rfl
  unfold ruleDo
  rw [if_pos ⟨by show (decide (exC [(11, 0)] _ = 0) && decide (exN [(11, 0)] _ = 1)) = true; rw [e1, e2]; rfl, fun j hj => by simp [stayR] at hj, fun i hi => h3 i (by simpa using hi)⟩]
  exact congrArg some h4
set_option maxRecDepth 20000 in
theorem never_do {a b : Vr} (hG : GV a b) {c : Int} (hc : 0 ≤ c ∧ c < vspan a * vspan b) : ruleDo [a, b] (valsL [a, b] c) neverR = none := by
  obtain ⟨h1, h2, h3, h4⟩ := vals_two hG hc
  obtain ⟨e1, e2⟩ := leaf_ex h1 h2 good_no rfl
  refine ruleDo_guard ?_
  show (decide (exC [(12, 0)] _ = 0) && decide (exN [(12, 0)] _ = 1)) = false
  rw [e1, e2]; rfl
set_option maxRecDepth 20000 in
theorem out_do {a b : Vr} (hG : GV a b) {c : Int} (hc : 0 ≤ c ∧ c < vspan a * vspan b) : ruleDo [a, b] (valsL [a, b] c) (outR (a.hi + 1)) = none := by
  obtain ⟨h1, h2, h3, h4⟩ := vals_two hG hc
  have hn : -1000 ≤ a.hi + 1 ∧ a.hi + 1 ≤ 1000 := by
    obtain ⟨na, nb, p0, p1, p2, p3, p4, p5, q0, q1, q2, q3, q4, q5⟩ := hG
    omega
  obtain ⟨e1, e2⟩ := leaf_ex h1 h2 (good_num hn) rfl
  unfold ruleDo
  rw [if_neg]
  rintro ⟨_, _, h⟩
  have h0 := (h 0 (by simp)).2
  have e : (behindL (valsL [a, b] c) (outR (a.hi + 1))).getD 0 0 = a.hi + 1 := by
    show ((valsL [a, b] c).set (0 : Int).toNat (exN [(1, a.hi + 1)] (valsL [a, b] c))).getD 0 0 = _
    rw [getD_set _ _ _ _ (by rw [h1]; decide), e2]
    rfl
  rw [e] at h0
  have h0' : a.hi + 1 ≤ a.hi := h0
  omega
set_option maxRecDepth 20000 in
/-- the rules together. -/
theorem stay_rules {rules : List Ru} (h5 : rules.length ≤ 5) (hr : ∀ j, j < rules.length → rcode 2 (rules.getD j ru0) = 0) {n : Int} (hn : -1000 ≤ n ∧ n ≤ 1000) : (rules ++ [stayR, neverR, outR n]).length ≤ 12 ∧ ∀ j, j < (rules ++ [stayR, neverR, outR n]).length → rcode 2 ((rules ++ [stayR, neverR, outR n]).getD j ru0) = 0 := by
  refine ⟨by simp; omega, fun j hj => ?_⟩
  rw [List.length_append] at hj
  by_cases hlt : j < rules.length
  · rw [ruD_app_left hlt]; exact hr j hlt
  · rw [List.getD_eq_getElem?_getD, List.getElem?_append_right (by omega)]
    have h3 : j - rules.length = 0 ∨ j - rules.length = 1 ∨ j - rules.length = 2 := by simp at hj; omega
    rcases h3 with h | h | h
    · rw [h]; exact stay_rcode
    · rw [h]; exact never_rcode
    · rw [h]; exact out_rcode hn
set_option maxRecDepth 20000 in
theorem three_at (rules : List Ru) (x y z : Ru) : (rules ++ [x, y, z]).getD rules.length ru0 = x ∧ (rules ++ [x, y, z]).getD (rules.length + 1) ru0 = y ∧ (rules ++ [x, y, z]).getD (rules.length + 2) ru0 = z := by
  refine ⟨?_, ?_, ?_⟩
  · rw [List.getD_eq_getElem?_getD, List.getElem?_append_right (by omega), Nat.sub_self]; rfl
  · rw [List.getD_eq_getElem?_getD, List.getElem?_append_right (by omega), show rules.length + 1 - rules.length = 1 by omega]; rfl
  · rw [List.getD_eq_getElem?_getD, List.getElem?_append_right (by omega), show rules.length + 2 - rules.length = 2 by omega]; rfl
section
variable {a b : Vr} {rules : List Ru} {c : Int} (hG : GV a b) (hc : 0 ≤ c ∧ c < vspan a * vspan b) (h5 : rules.length ≤ 5) (hr : ∀ j, j < rules.length → rcode 2 (rules.getD j ru0) = 0)
include hG hc h5 hr
set_option maxRecDepth 20000 in
/-- what step.After answers. -/
theorem stay_after : (aftN ⟨[a, b], rules ++ [stayR, neverR, outR (a.hi + 1)]⟩ c rules.length = c ∧ aftC ⟨[a, b], rules ++ [stayR, neverR, outR (a.hi + 1)]⟩ c rules.length = 0) ∧ aftC ⟨[a, b], rules ++ [stayR, neverR, outR (a.hi + 1)]⟩ c (rules.length + 1) = 11 ∧ aftC ⟨[a, b], rules ++ [stayR, neverR, outR (a.hi + 1)]⟩ c (rules.length + 2) = 11 ∧ aftC ⟨[a, b], rules ++ [stayR, neverR, outR (a.hi + 1)]⟩ c (rules.length + 3) = 2 := by
  have hn : -1000 ≤ a.hi + 1 ∧ a.hi + 1 ≤ 1000 := by
    obtain ⟨na, nb, p0, p1, p2, p3, p4, p5, q0, q1, q2, q3, q4, q5⟩ := hG
    omega
  obtain ⟨h12, hrc⟩ := stay_rules h5 hr hn
  have hw := gwcode hG h12 hrc hc
  obtain ⟨t0, t1, t2⟩ := three_at rules stayR neverR (outR (a.hi + 1))
  have hlen : (rules ++ [stayR, neverR, outR (a.hi + 1)]).length = rules.length + 3 := by simp
  unfold aftN aftC
  rw [hw]
  simp only [if_true, hlen]
  refine ⟨⟨?_, ?_⟩, ?_, ?_, ?_⟩
  · rw [if_pos ⟨by omega, by omega⟩, Int.toNat_natCast, t0, stay_do hG hc]; rfl
  · rw [if_pos ⟨by omega, by omega⟩, Int.toNat_natCast, t0, stay_do hG hc]; rfl
  · rw [if_pos ⟨by omega, by omega⟩, show ((rules.length : Int) + 1).toNat = rules.length + 1 by omega, t1, never_do hG hc]; rfl
  · rw [if_pos ⟨by omega, by omega⟩, show ((rules.length : Int) + 2).toNat = rules.length + 2 by omega, t2, out_do hG hc]; rfl
  · rw [if_neg (by omega)]
set_option maxRecDepth 20000 in
/-- what step.Next answers has the state. -/
theorem stay_next : wcode ⟨[a, b], rules ++ [stayR, neverR, outR (a.hi + 1)]⟩ c = 0 ∧ c ∈ nxtL ⟨[a, b], rules ++ [stayR, neverR, outR (a.hi + 1)]⟩ c ∧ (nxtL ⟨[a, b], rules ++ [stayR, neverR, outR (a.hi + 1)]⟩ c).length ≤ 8 := by
  have hn : -1000 ≤ a.hi + 1 ∧ a.hi + 1 ≤ 1000 := by
    obtain ⟨na, nb, p0, p1, p2, p3, p4, p5, q0, q1, q2, q3, q4, q5⟩ := hG
    omega
  obtain ⟨h12, hrc⟩ := stay_rules h5 hr hn
  have hw := gwcode hG h12 hrc hc
  obtain ⟨t0, _, _⟩ := three_at rules stayR neverR (outR (a.hi + 1))
  have hlen : (rules ++ [stayR, neverR, outR (a.hi + 1)]).length = rules.length + 3 := by simp
  have hmem : c ∈ rawTo [a, b] (valsL [a, b] c) (rules ++ [stayR, neverR, outR (a.hi + 1)]) (rules ++ [stayR, neverR, outR (a.hi + 1)]).length := (rawTo_mem (Nat.le_refl _) c).2 ⟨rules.length, by omega, by rw [t0]; exact stay_do hG hc⟩
  refine ⟨hw, ?_, ?_⟩
  · unfold nxtL
    rw [if_pos hw]
    unfold nextL
    rw [(upL_spec _).2]
    unfold rawL
    rw [if_neg (fun h => by rw [h] at hmem; cases hmem)]
    exact hmem
  · have := (nextL_up hG (rules := rules ++ [stayR, neverR, outR (a.hi + 1)]) hc).few
    unfold nxtL
    rw [if_pos hw]
    omega
end
end Go.Proofs.YtipleacacfejcaaDoor

/-
  The keeping laws' own has; what the program answers of a model that they make, its rules at hand.
-/
namespace Go.Proofs.YtipleacacfejcaaDoor
open Go.ChangeShapes Go.WideShapes Go.ChangeAt Go.RowKit Go.Deep
open Terms Tm

set_option maxRecDepth 20000 in
theorem mem_take_succ {l : List Int} {k : Nat} (hk : k < l.length) (x : Int) : x ∈ l.take (k + 1) ↔ x ∈ l.take k ∨ x = l.getD k 0 := by
  rw [List.take_succ_eq_append_getElem hk, show l[k] = l.getD k 0 by simp [List.getD_eq_getElem?_getD, hk]]
  simp
set_option maxRecDepth 20000 in
set_option maxHeartbeats 1600000 in
/-- THE CONTRACT OF has. -/
theorem has_any (v : Value) (l : List Int) (x : Int) (w : World) (hl : l.length ≤ 1000) (hI : IntsV w v l) :
    Calls Tryd.prog 12 #[v, .int .i64 x] w fun e w' => e = .returned (.bool (decide (x ∈ l))) ∧ Below w.heap.size w w' := by
  obtain ⟨vo, vc, rfl⟩ := hI.shape
  obtain ⟨n, hn⟩ : ∃ n, n = l.length := ⟨_, rfl⟩
  have HN : Hid (n = l.length) := hn
  have HI : Hid (IntsV w (.slice vo n vc) l) := by rw [hn]; exact hI
  rw [← hn] at hl ⊢
  obtain ⟨res, hres⟩ : ∃ res, decide (x ∈ l) = res := ⟨_, rfl⟩
  have HRes : Hid (decide (x ∈ l) = res) := hres
  rw [hres]
  clear hI hn hres
  go_enter Tryd.func12, Tryd.ntmps12
  go_wp2_with fail
  go_loopw [5] (fun i wr => ∃ k : Nat, k ≤ n ∧ i = .int .i64 k ∧ Hid (¬ x ∈ l.take k) ∧ wr = w) (fun i _ => n - (intOf i).toNat)
  case atStart => exact ⟨0, Nat.zero_le _, rfl, (show ¬ x ∈ l.take 0 by simp), rfl⟩
  case round =>
    obtain ⟨k, hk, rfl, HNo, rfl⟩ := hrel
    by_cases hlt : k < n
    · obtain ⟨b, off, rfl, hb, hc⟩ := HI.out.at (i := k) (by rw [← HN.out]; exact hlt)
      have hk' : k < l.length := by rw [← HN.out]; exact hlt
      by_cases hx : l.getD k 0 = x
      · have hr : res = true := by
          rw [← HRes.out]
          refine decide_eq_true ?_
          rw [← hx, show l.getD k 0 = l[k] by simp [List.getD_eq_getElem?_getD, hk']]
          exact List.getElem_mem hk'
        rw [hx] at hc
        subst hr
        clear hx hk'
        go_wp2_with fail
        go_ret
        exact ⟨rfl, Below.refl _ _⟩
      · have HNo2 : Hid (¬ x ∈ l.take (k + 1)) := by
          show ¬ _
          rw [mem_take_succ hk']
          rintro (h | h)
          · exact HNo.out h
          · exact hx h.symm
        generalize l.getD k 0 = y at hc hx
        clear hk' HNo
        go_wp2_with fail
        go_roundw
        case rel => exact ⟨k + 1, hlt, by go_num, HNo2.out, by first | rfl | trivial⟩
        case measure => simp [intOf]; omega
    · have hkn : k = n := by omega
      subst hkn
      have hr : res = false := by
        rw [← HRes.out]
        refine decide_eq_false ?_
        have := HNo.out
        rwa [List.take_of_length_le (by rw [← HN.out]; omega)] at this
      subst hr
      go_wp2_with fail
      go_ret
      exact ⟨rfl, Below.refl _ _⟩
end Go.Proofs.YtipleacacfejcaaDoor

namespace Go.Proofs.YtipleacacfejcaaDoor
open Go.ChangeShapes Go.WideShapes Go.ChangeAt Go.RowKit Go.Deep
open Terms Tm

/-- a literal's memory. -/
def Lit (w : World) (base g : Nat) (cs : Array Value) (t : TypeId) : Prop := base ≤ g ∧ w.heap[g]? = some (.cells cs t (0, 0))
set_option maxRecDepth 20000 in
theorem Lit.below {w w' : World} {base g : Nat} {cs : Array Value} {t : TypeId} (h : Lit w base g cs t) (hb : Below w.heap.size w w') : Lit w' base g cs t :=
  ⟨h.1, (hb.block g (Array.getElem?_eq_some_iff.1 h.2).1).trans h.2⟩
set_option maxRecDepth 20000 in
theorem Lit.new {w : World} {base : Nat} (h : base ≤ w.heap.size) (cs : Array Value) (t : TypeId) : Lit (w.alloc (.cells cs t)) base w.heap.size cs t := ⟨h, heap_new _ _⟩
set_option maxRecDepth 20000 in
/-- behind an append to a row of other things, and a store below. -/
theorem Lit.far {w w8 : World} {base g n Y i : Nat} {cs : Array Value} {t e : TypeId} {s : Nat} {v y : Value} {xs : List Value} (h : Lit w base g cs t) (hte : t ≠ e) (ho : w.ownsRow base e s v n xs) (hg : w.grownBy w8 v.ownBlock) (hY : Y < base) : Lit (w8.setCell ⟨Y, i, none⟩ y) base g cs t := by
  refine ⟨h.1, ?_⟩
  have h1 := h.1
  rw [Below.heap_setCell _ _ _ _ (show g ≠ Y by omega)]
  refine heap_grown hg h.2 fun ev => ?_
  rcases ho.2 with ⟨rfl, _⟩ | ⟨g', cap, cur, rfl, hb, hg', _⟩
  · cases ev
  · have : g' = g := by simpa [Value.ownBlock] using ev
    subst this
    rw [h.2] at hg'
    injection hg' with hg'
    injection hg' with _ h3 _
    exact hte h3
/-- what the operations of the great region leave. -/
def ssP (M p off : Nat) (vv vr : Value) (base : Nat) (l : List (Value × Value)) (rn : Nat) (hi : Int) : Nat → Value → World → Prop
  | 0, v, _ => v = .pointer (some ⟨M, 1, none⟩)
  | 1, v, _ => v = vr
  | 2, v, w => w.ownsRow base 42 2 v rn (ruFlat l)
  | 3, v, _ => v = .agg #[.int .i64 11, .int .i64 0]
  | 4, v, w => ∃ g, v = .slice (some ⟨g, 0, none⟩) 1 1 ∧ Lit w base g #[.int .i64 11, .int .i64 0] 35
  | 5, v, w => ∃ g, v = .agg #[.slice (some ⟨g, 0, none⟩) 1 1, .slice none 0 0] ∧ Lit w base g #[.int .i64 11, .int .i64 0] 35
  | 6, v, _ => v = .agg #[.int .i64 12, .int .i64 0]
  | 7, v, w => ∃ g, v = .slice (some ⟨g, 0, none⟩) 1 1 ∧ Lit w base g #[.int .i64 12, .int .i64 0] 35
  | 8, v, w => ∃ g, v = .agg #[.slice (some ⟨g, 0, none⟩) 1 1, .slice none 0 0] ∧ Lit w base g #[.int .i64 12, .int .i64 0] 35
  | 9, v, _ => v = .agg #[.int .i64 11, .int .i64 0]
  | 10, v, w => ∃ g, v = .slice (some ⟨g, 0, none⟩) 1 1 ∧ Lit w base g #[.int .i64 11, .int .i64 0] 35
  | 11, v, _ => v = .pointer (some ⟨M, 0, none⟩)
  | 12, v, _ => v = vv
  | 13, v, _ => v = .pointer (some ⟨p, off, none⟩)
  | 14, v, _ => v = .pointer (some ⟨p, off + 2, none⟩)
  | 15, v, _ => v = .int .i64 hi
  | 16, v, _ => v = .int .i64 (hi + 1)
  | 17, v, w => ∃ g, v = .slice (some ⟨g, 0, none⟩) 1 1 ∧ Lit w base g #[.int .i64 1, .int .i64 (hi + 1)] 35
  | 18, v, w => ∃ g, v = .agg #[.int .i64 0, .slice (some ⟨g, 0, none⟩) 1 1] ∧ Lit w base g #[.int .i64 1, .int .i64 (hi + 1)] 35
  | 19, v, w => ∃ s g, v = .slice (some ⟨s, 0, none⟩) 1 1 ∧ Lit w base s #[.int .i64 0, .slice (some ⟨g, 0, none⟩) 1 1] 39 ∧ Lit w base g #[.int .i64 1, .int .i64 (hi + 1)] 35
  | 20, v, w => ∃ g1 s g, v = .agg #[.slice (some ⟨g1, 0, none⟩) 1 1, .slice (some ⟨s, 0, none⟩) 1 1] ∧ Lit w base g1 #[.int .i64 11, .int .i64 0] 35 ∧ Lit w base s #[.int .i64 0, .slice (some ⟨g, 0, none⟩) 1 1] 39 ∧ Lit w base g #[.int .i64 1, .int .i64 (hi + 1)] 35
  | 21, v, w => ∃ b x0 x1 x2 s g, v = .slice (some ⟨b, 0, none⟩) 3 3 ∧ Lit w base b #[.slice (some ⟨x0, 0, none⟩) 1 1, .slice none 0 0, .slice (some ⟨x1, 0, none⟩) 1 1, .slice none 0 0, .slice (some ⟨x2, 0, none⟩) 1 1, .slice (some ⟨s, 0, none⟩) 1 1] 42 ∧ Lit w base x0 #[.int .i64 11, .int .i64 0] 35 ∧ Lit w base x1 #[.int .i64 12, .int .i64 0] 35 ∧ Lit w base x2 #[.int .i64 11, .int .i64 0] 35 ∧ Lit w base s #[.int .i64 0, .slice (some ⟨g, 0, none⟩) 1 1] 39 ∧ Lit w base g #[.int .i64 1, .int .i64 (hi + 1)] 35
  | _, _, _ => True
set_option maxRecDepth 20000 in
theorem ssP_stable (M p off : Nat) (vv vr : Value) (base : Nat) (l : List (Value × Value)) (rn : Nat) (hi : Int) (i : Nat) (v : Value) (w w' : World) (hlt : i < 22) (h : ssP M p off vv vr base l rn hi i v w) (hb : Below w.heap.size w w') : ssP M p off vv vr base l rn hi i v w' := by
  have hc : i = 0 ∨ i = 1 ∨ i = 2 ∨ i = 3 ∨ i = 4 ∨ i = 5 ∨ i = 6 ∨ i = 7 ∨ i = 8 ∨ i = 9 ∨ i = 10 ∨ i = 11 ∨ i = 12 ∨ i = 13 ∨ i = 14 ∨ i = 15 ∨ i = 16 ∨ i = 17 ∨ i = 18 ∨ i = 19 ∨ i = 20 ∨ i = 21 := by omega
  rcases hc with rfl | rfl | rfl | rfl | rfl | rfl | rfl | rfl | rfl | rfl | rfl | rfl | rfl | rfl | rfl | rfl | rfl | rfl | rfl | rfl | rfl | rfl
  all_goals first
    | exact owns_later h hb (Nat.le_refl _)
    | (obtain ⟨g, h1, h2⟩ := h; exact ⟨g, h1, h2.below hb⟩)
    | (obtain ⟨s, g, h1, h2, h3⟩ := h; exact ⟨s, g, h1, h2.below hb, h3.below hb⟩)
    | (obtain ⟨g1, s, g, h1, h2, h3, h4⟩ := h; exact ⟨g1, s, g, h1, h2.below hb, h3.below hb, h4.below hb⟩)
    | (obtain ⟨b, x0, x1, x2, s, g, h1, h2, h3, h4, h5, h6, h7⟩ := h; exact ⟨b, x0, x1, x2, s, g, h1, h2.below hb, h3.below hb, h4.below hb, h5.below hb, h6.below hb, h7.below hb⟩)
    | exact h
/-- the model with the three rules. -/
def SsR (W : World) (M : Nat) (va : Value) (rs : List Ru) (w : World) : Prop := ∃ yo yc, RulesV w (.slice yo rs.length yc) rs ∧ w.cell? ⟨M, 0, none⟩ = some va ∧ w.cell? ⟨M, 1, none⟩ = some (.slice yo rs.length yc) ∧ M < w.heap.size ∧ Below W.heap.size W w

set_option maxHeartbeats 6400000 in
set_option maxRecDepth 20000 in
theorem stepStay_walk (c0 c1 c2 c3 c4 c5 c6 : Value) (a b : Vr) (code : Int) (w : World) (hB : 0 < w.heap.size) (hT : TabAt w) (hG : GV a b) (hx : I64 code)
    (hmd : ∀ w', Below w.heap.size w w' → Calls Tryd.prog 5 #[.agg #[c0, c1, c2, c3, c4, c5, c6]] w' fun e w2 => ∃ va vr, e = .returned (.agg #[va, vr]) ∧ Below w'.heap.size w' w2 ∧ GModel w2 va vr [a, b]) :
    Calls Tryd.prog 4 #[.agg #[c0, c1, c2, c3, c4, c5, c6], .int .i64 code] w fun e w' => e = .returned (.bool true) ∧ Below w.heap.size w w' := by
  have HT : Hid (∀ w', Below w.heap.size w w' → 0 < w'.heap.size ∧ TabAt w') := fun w' hb => ⟨Nat.lt_of_lt_of_le hB hb.size, hT.below hb hB⟩
  have hA : ∀ o, Below w.heap.size w (w.alloc o) := fun o => (Below.refl _ _).alloc (Nat.le_refl _) o
  clear hB hT
  go_enter Tryd.func4, Tryd.ntmps4
  go_upto_region 2 with (go_at_call 5; refine (hmd _ (hA _)).mono ?_; rintro e w1 ⟨va, vr, rfl, hb1, hM⟩; obtain ⟨ao, cap, ro, rn, rc, rfl, rfl, hrn⟩ := hM.shape)
  have HBw1 : Hid (Below w.heap.size w w1) := (hA _).trans (hb1.mono (hA _).size)
  have HM1 : Hid (GModel w1 (.slice ao 2 cap) (.slice ro rn rc) [a, b]) := hM
  obtain ⟨hbW, hk⟩ := kept (a := a) (b := b) (t := 29) HT.out ((hA _).trans (hb1.mono (hA _).size)) hM rfl
  have hs12 : w1.heap.size < (w1.alloc (.cells #[.slice ao 2 cap, .slice ro rn rc] 29)).heap.size := by simp
  have hb12 : Below w1.heap.size w1 (w1.alloc (.cells #[.slice ao 2 cap, .slice ro rn rc] 29)) := (Below.refl _ _).alloc (Nat.le_refl _) _
  have hf2 : (w1.alloc (.cells #[.slice ao 2 cap, .slice ro rn rc] 29)).frozen? ⟨w1.heap.size, 1, none⟩ = false := by simp [go_sem]
  generalize w1.alloc (.cells #[.slice ao 2 cap, .slice ro rn rc] 29) = W2 at hbW hk hs12 hb12 hf2 ⊢
  have HK : Hid (∀ w', Below W2.heap.size W2 w' → (0 < w'.heap.size ∧ TabAt w' ∧ GModel w' (.slice ao 2 cap) (.slice ro rn rc) [a, b]) ∧ w'.cell? ⟨w1.heap.size, 0, none⟩ = some (.slice ao 2 cap) ∧ w'.cell? ⟨w1.heap.size, 1, none⟩ = some (.slice ro rn rc)) := hk
  have HB12 : Hid (Below w1.heap.size w1 W2) := hb12
  obtain ⟨⟨z0, z1, z2⟩, z3, z4⟩ := hk W2 (Below.refl _ _)
  have hcn := kcount hG z0 z1 z2
  have hP := hG.prod
  have hpx := fun w => picked_is code (vspan a * vspan b) w hx (by omega) (by omega)
  have hxr := pk_range (n := code) (m := vspan a * vspan b) (by omega)
  generalize pk code (vspan a * vspan b) = c at hpx hxr
  obtain ⟨rules, hMV, hle, hrc⟩ := hM
  obtain ⟨l, hL, hrl, hro, hcells⟩ := rules_pairs hMV.2
  have HL : Hid (RuPairs w1 l rules) := hL
  have HRO : Hid (ro = none → rc = 0 ∧ rn = 0) := hro
  have HCE : Hid (∀ w', Below w1.heap.size w1 w' → ∀ ad, ro = some ad → ∀ j u, (ruFlat l)[j]? = some u → w'.cell? (ad.add j) = some u) := hcells
  have HLE : Hid (rules.length ≤ 5 ∧ ∀ j, j < rules.length → rcode 2 (rules.getD j ru0) = 0) := ⟨hle, hrc⟩
  have HRL : Hid (rules.length = rn) := hrl
  have HLL : Hid ((ruFlat l).length = rn * 2) := by show _ = _; rw [ruFlat_length, hL.len, hrl]
  have hrn5 : rn ≤ 5 := by rw [← hrl]; exact hle
  have HVV : Hid (VarsV w1 (.slice ao 2 cap) [a, b]) := hMV.1
  clear hMV hle hrc hL hrl hro hcells
  obtain ⟨p, off, rfl, hp, hva, hvb⟩ := kvars z2
  have HV : Hid (∀ w', Below W2.heap.size W2 w' → VarAt w' p off a) := fun w' hb => hva.below hb hp
  have HG : Hid (GV a b) := hG
  have HC : Hid (0 ≤ c ∧ c < vspan a * vspan b) := hxr
  have hhi : -1 ≤ a.hi ∧ a.hi ≤ 4 := by obtain ⟨na, nb, p0, p1, p2, p3, p4, p5, q0, q1, q2, q3, q4, q5⟩ := hG; omega
  obtain ⟨hh0, hh1⟩ := hhi
  generalize vspan a * vspan b = N at hcn hP hpx hxr
  obtain ⟨hP0, hP1⟩ := hP
  obtain ⟨hc0, hc1⟩ := hxr
  obtain ⟨M, hM1⟩ : ∃ M, M = w1.heap.size := ⟨_, rfl⟩
  rw [← hM1] at HK z3 z4 hs12 hf2 ⊢
  have HMM : Hid (M = w1.heap.size) := hM1
  clear hva hvb hk hbW hb1 hmd hx z0 z1 z2 hrn hA hM1 hG hb12
  obtain ⟨iR, hiR, r0, r1, r2⟩ := info_parts infoRule
  go_upto_region 7 with (first | (go_at_call 9; refine hcn.mono ?_; rintro e w3 ⟨rfl, hb3⟩; obtain ⟨k30, k31⟩ := (HK.out w3 hb3).2) | (go_at_call 6; refine (hpx _).mono ?_; rintro e w9 ⟨rfl, h9⟩; rw [h9]; clear h9))
  have hM3 : M < w3.heap.size := Nat.lt_of_lt_of_le hs12 hb3.size
  have hf3 : w3.frozen? ⟨M, 1, none⟩ = false := (hb3.frozen (p := ⟨M, 1, none⟩) hs12).trans hf2
  have hb13 : Below w1.heap.size w1 w3 := HB12.out.trans (hb3.mono HB12.out.size)
  clear z3 z4 hf2 hcn hpx
  go_cut [] (fun wx => Hid (SsR w1 M (.slice (some ⟨p, off, none⟩) 2 cap) (rules ++ [stayR, neverR, outR (a.hi + 1)]) wx))
  case first =>
    rename_i J K' hJ hK'
    generalize ha0 : Act.mk _ _ = a0
    have hsz : a0.tmps.size = 128 := by rw [← ha0]; rfl
    have a5 : a0.eval (.tmp 5) = .pointer (some ⟨M, 0, none⟩) := by rw [← ha0]; rfl
    refine wp_anyway (by rfl) [39, 40, 41, 42, 43, 44, 45, 46, 47, 48, 49, 50, 51, 52, 53, 54, 55, 56, 57, 58, 59, 60, 61, 62] 22 (ssP M p off (.slice (some ⟨p, off, none⟩) 2 cap) (.slice ro rn rc) w3.heap.size l rn a.hi) (by rw [hsz]; rfl) (ssP_stable _ _ _ _ _ _ _ _ _) ?_ ?_
    · intro i o hi ho q w' hb hq
      have hbW := hb3.trans (hb.mono hb3.size)
      have hb1' := hb13.trans (hb.mono hb13.size)
      have f : ∀ t, [39, 40, 41, 42, 43, 44, 45, 46, 47, 48, 49, 50, 51, 52, 53, 54, 55, 56, 57, 58, 59, 60, 61, 62].contains t = true → t < 128 → (frm a0 [39, 40, 41, 42, 43, 44, 45, 46, 47, 48, 49, 50, 51, 52, 53, 54, 55, 56, 57, 58, 59, 60, 61, 62] q).eval (.tmp t) = q t := fun t h1 h2 => frm_in h1 (by rw [hsz]; exact h2)
      have e5 : (frm a0 [39, 40, 41, 42, 43, 44, 45, 46, 47, 48, 49, 50, 51, 52, 53, 54, 55, 56, 57, 58, 59, 60, 61, 62] q).eval (.tmp 5) = .pointer (some ⟨M, 0, none⟩) := (frm_out rfl).trans a5
      obtain ⟨m0, m1⟩ := (HK.out w' hbW).2
      have hsw := hb.size
      have hA : ∀ o, Below w'.heap.size w' (w'.alloc o) := fun o => (Below.refl _ _).alloc (Nat.le_refl _) o
      obtain ⟨ev, hev⟩ : ∃ ev, ev = (frm a0 [39, 40, 41, 42, 43, 44, 45, 46, 47, 48, 49, 50, 51, 52, 53, 54, 55, 56, 57, 58, 59, 60, 61, 62] q).eval := ⟨_, rfl⟩
      have evc : ∀ v, ev (.const v) = v := fun v => by rw [hev]; rfl
      have evf : ∀ n, ev (.func n) = .func (.func n) #[] #[] := fun n => by rw [hev]; rfl
      rw [← hev] at f e5
      have hc : i = 0 ∨ i = 1 ∨ i = 2 ∨ i = 3 ∨ i = 4 ∨ i = 5 ∨ i = 6 ∨ i = 7 ∨ i = 8 ∨ i = 9 ∨ i = 10 ∨ i = 11 ∨ i = 12 ∨ i = 13 ∨ i = 14 ∨ i = 15 ∨ i = 16 ∨ i = 17 ∨ i = 18 ∨ i = 19 ∨ i = 20 ∨ i = 21 := by omega
      rcases hc with rfl | rfl | rfl | rfl | rfl | rfl | rfl | rfl | rfl | rfl | rfl | rfl | rfl | rfl | rfl | rfl | rfl | rfl | rfl | rfl | rfl | rfl
      all_goals obtain rfl := Option.some.inj ho
      · refine op_val (w' := w') (v := Value.pointer (some ⟨M, 1, none⟩)) ?_ (Below.refl _ _) rfl
        rw [← hev]
        simp [execOp, e5, go_sem]
      · have e39 := (f 39 rfl (by decide)).trans (hq 0 39 rfl rfl)
        refine op_val (w' := w') ?_ (Below.refl _ _) rfl
        rw [← hev]
        simp [execOp, e39, m1, go_sem]
      · have e40 := (f 40 rfl (by decide)).trans (hq 1 40 rfl rfl)
        exact wp_copy (.const (.slice none 0 0)) (.tmp 40) 27 rfl w3.heap.size 42 iR _ 2 48 Tryd.underlying27 hiR r0 r1 r2 rfl (by decide) rfl ro rn rc (ruFlat l) (by rw [← hev]; exact e40) HRO.out HLL.out (HCE.out _ hb1') HL.out.one (by unfold maxLen; omega) (by omega) hb.size fun v' w2 ho2 hg2 => ⟨v', rfl, below_of_grown hg2, ho2⟩
      · refine op_val (w' := w') (v := .agg #[.int .i64 11, .int .i64 0]) ?_ (Below.refl _ _) rfl
        rw [← hev]
        simp [execOp, evc, go_sem]
      · have e42 := (f 42 rfl (by decide)).trans (hq 3 42 rfl rfl)
        refine op_val (v := .slice (some ⟨w'.heap.size, 0, none⟩) 1 1) (w' := w'.alloc (.cells #[.int .i64 11, .int .i64 0] 35)) ?_ (hA _) ⟨_, rfl, Lit.new hsw _ _⟩
        rw [← hev]
        simp [execOp, e42, go_sem]
      · obtain ⟨g, hg, hlit⟩ := hq 4 43 rfl rfl
        have e43 := (f 43 rfl (by decide)).trans hg
        refine op_val (w' := w') (v := .agg #[.slice (some ⟨g, 0, none⟩) 1 1, .slice none 0 0]) ?_ (Below.refl _ _) ⟨g, rfl, hlit⟩
        rw [← hev]
        simp [execOp, e43, go_sem]
      · refine op_val (w' := w') (v := .agg #[.int .i64 12, .int .i64 0]) ?_ (Below.refl _ _) rfl
        rw [← hev]
        simp [execOp, evc, go_sem]
      · have e45 := (f 45 rfl (by decide)).trans (hq 6 45 rfl rfl)
        refine op_val (v := .slice (some ⟨w'.heap.size, 0, none⟩) 1 1) (w' := w'.alloc (.cells #[.int .i64 12, .int .i64 0] 35)) ?_ (hA _) ⟨_, rfl, Lit.new hsw _ _⟩
        rw [← hev]
        simp [execOp, e45, go_sem]
      · obtain ⟨g, hg, hlit⟩ := hq 7 46 rfl rfl
        have e46 := (f 46 rfl (by decide)).trans hg
        refine op_val (w' := w') (v := .agg #[.slice (some ⟨g, 0, none⟩) 1 1, .slice none 0 0]) ?_ (Below.refl _ _) ⟨g, rfl, hlit⟩
        rw [← hev]
        simp [execOp, e46, go_sem]
      · refine op_val (w' := w') (v := .agg #[.int .i64 11, .int .i64 0]) ?_ (Below.refl _ _) rfl
        rw [← hev]
        simp [execOp, evc, go_sem]
      · have e48 := (f 48 rfl (by decide)).trans (hq 9 48 rfl rfl)
        refine op_val (v := .slice (some ⟨w'.heap.size, 0, none⟩) 1 1) (w' := w'.alloc (.cells #[.int .i64 11, .int .i64 0] 35)) ?_ (hA _) ⟨_, rfl, Lit.new hsw _ _⟩
        rw [← hev]
        simp [execOp, e48, go_sem]
      · refine op_val (w' := w') (v := Value.pointer (some ⟨M, 0, none⟩)) ?_ (Below.refl _ _) rfl
        rw [← hev]
        simp [execOp, e5, go_sem]
      · have e50 := (f 50 rfl (by decide)).trans (hq 11 50 rfl rfl)
        refine op_val (w' := w') ?_ (Below.refl _ _) rfl
        rw [← hev]
        simp [execOp, e50, m0, go_sem]
      · have e51 := (f 51 rfl (by decide)).trans (hq 12 51 rfl rfl)
        refine op_val (w' := w') (v := Value.pointer (some ⟨p, off, none⟩)) ?_ (Below.refl _ _) rfl
        rw [← hev]
        simp [execOp, e51, evc, go_sem]
      · have e52 := (f 52 rfl (by decide)).trans (hq 13 52 rfl rfl)
        refine op_val (w' := w') (v := Value.pointer (some ⟨p, off + 2, none⟩)) ?_ (Below.refl _ _) rfl
        rw [← hev]
        simp [execOp, e52, go_sem]
      · have e53 := (f 53 rfl (by decide)).trans (hq 14 53 rfl rfl)
        obtain ⟨q0, q1, q2, q3⟩ := HV.out w' hbW
        refine op_val (w' := w') ?_ (Below.refl _ _) rfl
        rw [← hev]
        simp [execOp, e53, go_sem, q2]
      · have e54 := (f 54 rfl (by decide)).trans (hq 15 54 rfl rfl)
        refine op_val (w' := w') (v := .int .i64 (a.hi + 1)) ?_ (Below.refl _ _) rfl
        rw [← hev]
        simp [execOp, e54, evc, go_sem]
        exact wr64 (by omega) (by omega)
      · have e55 := (f 55 rfl (by decide)).trans (hq 16 55 rfl rfl)
        refine op_call (f := 7) (args := #[.int .i64 (a.hi + 1)]) ?_ ((num_is (a.hi + 1) w').mono ?_)
        · rw [← hev]; simp [execOp, e55, evf, go_sem]
        · rintro e w2 ⟨rfl, rfl⟩
          exact ⟨_, rfl, hA _, _, rfl, Lit.new hsw _ _⟩
      · obtain ⟨g, hg, hlit⟩ := hq 17 56 rfl rfl
        have e56 := (f 56 rfl (by decide)).trans hg
        refine op_val (w' := w') (v := .agg #[.int .i64 0, .slice (some ⟨g, 0, none⟩) 1 1]) ?_ (Below.refl _ _) ⟨g, rfl, hlit⟩
        rw [← hev]
        simp [execOp, e56, go_sem]
      · obtain ⟨g, hg, hlit⟩ := hq 18 57 rfl rfl
        have e57 := (f 57 rfl (by decide)).trans hg
        refine op_val (v := .slice (some ⟨w'.heap.size, 0, none⟩) 1 1) (w' := w'.alloc (.cells #[.int .i64 0, .slice (some ⟨g, 0, none⟩) 1 1] 39)) ?_ (hA _) ⟨_, g, rfl, Lit.new hsw _ _, hlit.below (hA _)⟩
        rw [← hev]
        simp [execOp, e57, go_sem]
      · obtain ⟨g1, hg1, hlit1⟩ := hq 10 49 rfl rfl
        obtain ⟨s, g, hg2, hlit2, hlit3⟩ := hq 19 58 rfl rfl
        have e49 := (f 49 rfl (by decide)).trans hg1
        have e58 := (f 58 rfl (by decide)).trans hg2
        refine op_val (w' := w') (v := .agg #[.slice (some ⟨g1, 0, none⟩) 1 1, .slice (some ⟨s, 0, none⟩) 1 1]) ?_ (Below.refl _ _) ⟨g1, s, g, rfl, hlit1, hlit2, hlit3⟩
        rw [← hev]
        simp [execOp, e49, e58, go_sem]
      · obtain ⟨x0, hx0, t0⟩ := hq 5 44 rfl rfl
        obtain ⟨x1, hx1, t1⟩ := hq 8 47 rfl rfl
        obtain ⟨x2, s, g, hx2, t2, t3, t4⟩ := hq 20 59 rfl rfl
        have e44 := (f 44 rfl (by decide)).trans hx0
        have e47 := (f 47 rfl (by decide)).trans hx1
        have e59 := (f 59 rfl (by decide)).trans hx2
        refine op_val (v := .slice (some ⟨w'.heap.size, 0, none⟩) 3 3) (w' := w'.alloc (.cells #[.slice (some ⟨x0, 0, none⟩) 1 1, .slice none 0 0, .slice (some ⟨x1, 0, none⟩) 1 1, .slice none 0 0, .slice (some ⟨x2, 0, none⟩) 1 1, .slice (some ⟨s, 0, none⟩) 1 1] 42)) ?_ (hA _) ⟨_, x0, x1, x2, s, g, rfl, Lit.new hsw _ _, t0.below (hA _), t1.below (hA _), t2.below (hA _), t3.below (hA _), t4.below (hA _)⟩
        rw [← hev]
        simp [execOp, e44, e47, e59, go_sem]
    · intro q w' hb hq
      have hb1' := hb13.trans (hb.mono hb13.size)
      have f : ∀ q t, [39, 40, 41, 42, 43, 44, 45, 46, 47, 48, 49, 50, 51, 52, 53, 54, 55, 56, 57, 58, 59, 60, 61, 62].contains t = true → t < 128 → (frm a0 [39, 40, 41, 42, 43, 44, 45, 46, 47, 48, 49, 50, 51, 52, 53, 54, 55, 56, 57, 58, 59, 60, 61, 62] q).eval (.tmp t) = q t := fun q t h1 h2 => frm_in h1 (by rw [hsz]; exact h2)
      have ho2 : w'.ownsRow w3.heap.size 42 2 (q 41) rn (ruFlat l) := hq 2 41 (by decide) rfl
      obtain ⟨g, x0, x1, x2, s, y, hg60, hgb, t0, t1, t2, t3, t4⟩ := hq 21 60 (by decide) rfl
      show wpOps Tryd.prog _ _ [22, 23, 24] _ _
      rw [wpOps_cons]
      refine op_at rfl rfl ?_
      refine wp_append_lies _ (.tmp 41) (.tmp 60) 27 rfl w3.heap.size 42 iR _ 2 48 Tryd.underlying27 hiR r0 r1 r2 rfl (by decide) (q 41) rn (ruFlat l) (f q 41 rfl (by decide)) ho2 ⟨g, 0, none⟩ 3 3 [.slice (some ⟨x0, 0, none⟩) 1 1, .slice none 0 0, .slice (some ⟨x1, 0, none⟩) 1 1, .slice none 0 0, .slice (some ⟨x2, 0, none⟩) 1 1, .slice (some ⟨s, 0, none⟩) 1 1] ((f q 60 rfl (by decide)).trans hg60) rfl (World.news_of_block hgb.2) (by intro u hu; simp at hu; rcases hu with rfl | rfl | rfl | rfl | rfl | rfl <;> rfl) (by decide) (by unfold maxLen; omega) (by omega) hb.size _ rfl ?_
      intro g6 cp6 w6 ho6 hg6 hat6 hgl6
      have hb6 : Below w3.heap.size w3 w6 := hb.grown hg6 hb.size (fun z hz => (ho2.lt z hz).1)
      have k60 : w6.cell? ⟨M, 0, none⟩ = some (.slice (some ⟨p, off, none⟩) 2 cap) := (hb6.cell (p := ⟨M, 0, none⟩) hM3).trans k30
      have k61 : w6.cell? ⟨M, 1, none⟩ = some (.slice ro rn rc) := (hb6.cell (p := ⟨M, 1, none⟩) hM3).trans k31
      have kf6 : w6.frozen? ⟨M, 1, none⟩ = false := (hb6.frozen (p := ⟨M, 1, none⟩) hM3).trans hf3
      rw [late_put 61 rfl rfl, wpOps_cons]
      refine op_at rfl rfl ?_
      have e5 : (frm a0 [39, 40, 41, 42, 43, 44, 45, 46, 47, 48, 49, 50, 51, 52, 53, 54, 55, 56, 57, 58, 59, 60, 61, 62] (setV q 61 (.slice (some ⟨g6, 0, none⟩) (rn + 3) cp6))).eval (.tmp 5) = .pointer (some ⟨M, 0, none⟩) := (frm_out rfl).trans a5
      refine op_run (w' := w6) (v := .pointer (some ⟨M, 1, none⟩)) ?_ ?_
      · generalize (frm a0 [39, 40, 41, 42, 43, 44, 45, 46, 47, 48, 49, 50, 51, 52, 53, 54, 55, 56, 57, 58, 59, 60, 61, 62] (setV q 61 (.slice (some ⟨g6, 0, none⟩) (rn + 3) cp6))).eval = ev at e5 ⊢
        simp [execOp, e5, go_sem]
      rw [late_put 62 rfl rfl, wpOps_cons]
      refine op_at rfl rfl ?_
      have e61 := f (setV (setV q 61 (.slice (some ⟨g6, 0, none⟩) (rn + 3) cp6)) 62 (.pointer (some ⟨M, 1, none⟩))) 61 rfl (by decide)
      have e62 := f (setV (setV q 61 (.slice (some ⟨g6, 0, none⟩) (rn + 3) cp6)) 62 (.pointer (some ⟨M, 1, none⟩))) 62 rfl (by decide)
      rw [setV_same] at e62
      rw [setV_other (by decide), setV_same] at e61
      refine op_skip (w' := w6.setCell ⟨M, 1, none⟩ (.slice (some ⟨g6, 0, none⟩) (rn + 3) cp6)) rfl ?_ ?_
      · generalize (frm a0 [39, 40, 41, 42, 43, 44, 45, 46, 47, 48, 49, 50, 51, 52, 53, 54, 55, 56, 57, 58, 59, 60, 61, 62] (setV (setV q 61 (.slice (some ⟨g6, 0, none⟩) (rn + 3) cp6)) 62 (.pointer (some ⟨M, 1, none⟩)))).eval = ev at e61 e62 ⊢
        simp [execOp, e61, e62, go_sem, k61, kf6]
      show K' _ _
      refine hK' _ _ ?_
      rw [← ha0]
      go_meet
      have hbf : Below w1.heap.size w1 (w6.setCell ⟨M, 1, none⟩ (.slice (some ⟨g6, 0, none⟩) (rn + 3) cp6)) := (hb13.trans (hb6.mono hb13.size)).setCell (by show _ ≤ M; rw [HMM.out]; exact Nat.le_refl _) _
      have ho' := ownsRow_setCell_below ho6 (a := ⟨M, 1, none⟩) hM3 (.slice (some ⟨g6, 0, none⟩) (rn + 3) cp6)
      have hlen : (rules ++ [stayR, neverR, outR (a.hi + 1)]).length = rn + 3 := by rw [List.length_append, HRL.out]; rfl
      have u0 := t0.far (by decide) ho2 hg6 hM3 (i := 1) (y := .slice (some ⟨g6, 0, none⟩) (rn + 3) cp6)
      have u1 := t1.far (by decide) ho2 hg6 hM3 (i := 1) (y := .slice (some ⟨g6, 0, none⟩) (rn + 3) cp6)
      have u2 := t2.far (by decide) ho2 hg6 hM3 (i := 1) (y := .slice (some ⟨g6, 0, none⟩) (rn + 3) cp6)
      have u3 := t3.far (by decide) ho2 hg6 hM3 (i := 1) (y := .slice (some ⟨g6, 0, none⟩) (rn + 3) cp6)
      have u4 := t4.far (by decide) ho2 hg6 hM3 (i := 1) (y := .slice (some ⟨g6, 0, none⟩) (rn + 3) cp6)
      have hpn : RuPairs (w6.setCell ⟨M, 1, none⟩ (.slice (some ⟨g6, 0, none⟩) (rn + 3) cp6)) [(.slice (some ⟨x0, 0, none⟩) 1 1, .slice none 0 0), (.slice (some ⟨x1, 0, none⟩) 1 1, .slice none 0 0), (.slice (some ⟨x2, 0, none⟩) 1 1, .slice (some ⟨s, 0, none⟩) 1 1)] [stayR, neverR, outR (a.hi + 1)] := RuPairs.cons (ops_lit u0.2) (sets_nil _) (RuPairs.cons (ops_lit u1.2) (sets_nil _) (RuPairs.cons (ops_lit u2.2) (sets_one u3.2 (ops_lit u4.2)) (RuPairs.nil _)))
      have e : ruFlat l ++ [.slice (some ⟨x0, 0, none⟩) 1 1, .slice none 0 0, .slice (some ⟨x1, 0, none⟩) 1 1, .slice none 0 0, .slice (some ⟨x2, 0, none⟩) 1 1, .slice (some ⟨s, 0, none⟩) 1 1] = ruFlat (l ++ [(.slice (some ⟨x0, 0, none⟩) 1 1, .slice none 0 0), (.slice (some ⟨x1, 0, none⟩) 1 1, .slice none 0 0), (.slice (some ⟨x2, 0, none⟩) 1 1, .slice (some ⟨s, 0, none⟩) 1 1)]) := by rw [ruFlat_app]; rfl
      rw [e] at ho'
      refine ⟨some ⟨g6, 0, none⟩, cp6, ?_, ?_, ?_, ?_, hbf⟩
      · rw [hlen]
        exact pairs_rules ho' hlen.symm ((HL.out.below hbf).app hpn)
      · rw [World.cell?_setCell_other _ _ _ _ (by simp)]; exact k60
      · rw [hlen]; exact World.cell?_setCell_same w6 ⟨M, 1, none⟩ _ k61
      · have := hb6.size; simp; omega
  case rest =>
    obtain ⟨yo, yc, hRY, y0, y1, hYl, hbY⟩ := hcut.out
    have hlen : (rules ++ [stayR, neverR, outR (a.hi + 1)]).length = rn + 3 := by rw [List.length_append, HRL.out]; rfl
    rw [hlen] at hRY y1
    have HTW : Hid (∀ w', Below wc.heap.size wc w' → Below w.heap.size w w' ∧ 0 < w'.heap.size ∧ TabAt w') := fun w' hb => by
      have h1 := hbY.trans (hb.mono hbY.size)
      have h2 := HBw1.out.trans (h1.mono HBw1.out.size)
      exact ⟨h2, HT.out w' h2⟩
    have HAF : Hid (∀ w', Below wc.heap.size wc w' → ∀ r : Int, Calls Tryd.prog 10 #[.agg #[.slice (some ⟨p, off, none⟩) 2 cap, .slice yo (rn + 3) yc], .int .i64 c, .int .i64 r] w' fun e w2 => e = .returned (.tuple #[.int .i64 (aftN ⟨[a, b], rules ++ [stayR, neverR, outR (a.hi + 1)]⟩ c r), .int .i64 (aftC ⟨[a, b], rules ++ [stayR, neverR, outR (a.hi + 1)]⟩ c r)]) ∧ Below w'.heap.size w' w2) := fun w' hb r =>
      after_any _ _ ⟨[a, b], rules ++ [stayR, neverR, outR (a.hi + 1)]⟩ c r w' (HTW.out w' hb).2.1 (HTW.out w' hb).2.2 ⟨HVV.out.below (hbY.trans (hb.mono hbY.size)), hRY.below hb⟩
    have HNX : Hid (∀ w', Below wc.heap.size wc w' → Calls Tryd.prog 11 #[.agg #[.slice (some ⟨p, off, none⟩) 2 cap, .slice yo (rn + 3) yc], .int .i64 c] w' fun e w2 => ∃ v, e = .returned (.tuple #[v, .int .i64 (wcode ⟨[a, b], rules ++ [stayR, neverR, outR (a.hi + 1)]⟩ c)]) ∧ Below w'.heap.size w' w2 ∧ IntsV w2 v (nxtL ⟨[a, b], rules ++ [stayR, neverR, outR (a.hi + 1)]⟩ c)) := fun w' hb =>
      next_any _ _ ⟨[a, b], rules ++ [stayR, neverR, outR (a.hi + 1)]⟩ c w' (HTW.out w' hb).2.1 (HTW.out w' hb).2.2 ⟨HVV.out.below (hbY.trans (hb.mono hbY.size)), hRY.below hb⟩
    have HX : Hid (∀ w', Below wc.heap.size wc w' → w'.cell? ⟨M, 0, none⟩ = some (.slice (some ⟨p, off, none⟩) 2 cap) ∧ w'.cell? ⟨M, 1, none⟩ = some (.slice yo (rn + 3) yc)) := fun w' hb => ⟨(hb.cell (p := ⟨M, 0, none⟩) hYl).trans y0, (hb.cell (p := ⟨M, 1, none⟩) hYl).trans y1⟩
    obtain ⟨⟨sa, sb⟩, sc, sd, se⟩ := stay_after HG.out HC.out HLE.out.1 HLE.out.2
    obtain ⟨s1, s2, s3⟩ := stay_next HG.out HC.out HLE.out.1 HLE.out.2
    rw [HRL.out] at sa sb sc sd se
    generalize aftN ⟨[a, b], rules ++ [stayR, neverR, outR (a.hi + 1)]⟩ c = fN at HAF sa
    generalize aftC ⟨[a, b], rules ++ [stayR, neverR, outR (a.hi + 1)]⟩ c = fC at HAF sb sc sd se
    rw [s1] at HNX
    generalize nxtL ⟨[a, b], rules ++ [stayR, neverR, outR (a.hi + 1)]⟩ c = ln at HNX s2 s3
    have HLN : Hid (c ∈ ln ∧ ln.length ≤ 8) := ⟨s2, s3⟩
    have hA0 := HAF.out wc (Below.refl _ _) rn
    rw [sa, sb] at hA0
    have HA1 : Hid (∀ w', Below wc.heap.size wc w' → Calls Tryd.prog 10 #[.agg #[.slice (some ⟨p, off, none⟩) 2 cap, .slice yo (rn + 3) yc], .int .i64 c, .int .i64 ((rn : Int) + 1)] w' fun e w2 => e = .returned (.tuple #[.int .i64 (fN ((rn : Int) + 1)), .int .i64 11]) ∧ Below w'.heap.size w' w2) := fun w' hb => by rw [← sc]; exact HAF.out w' hb _
    have HA2 : Hid (∀ w', Below wc.heap.size wc w' → Calls Tryd.prog 10 #[.agg #[.slice (some ⟨p, off, none⟩) 2 cap, .slice yo (rn + 3) yc], .int .i64 c, .int .i64 ((rn : Int) + 2)] w' fun e w2 => e = .returned (.tuple #[.int .i64 (fN ((rn : Int) + 2)), .int .i64 11]) ∧ Below w'.heap.size w' w2) := fun w' hb => by rw [← sd]; exact HAF.out w' hb _
    have HA3 : Hid (∀ w', Below wc.heap.size wc w' → Calls Tryd.prog 10 #[.agg #[.slice (some ⟨p, off, none⟩) 2 cap, .slice yo (rn + 3) yc], .int .i64 c, .int .i64 ((rn : Int) + 3)] w' fun e w2 => e = .returned (.tuple #[.int .i64 (fN ((rn : Int) + 3)), .int .i64 2]) ∧ Below w'.heap.size w' w2) := fun w' hb => by rw [← se]; exact HAF.out w' hb _
    obtain ⟨i0, i1⟩ := HX.out wc (Below.refl _ _)
    clear hcut hRY y0 y1 hYl hbY sa sb sc sd se s1 s2 s3 HAF HVV HLE HRL HLL HL HCE HRO HK HB12 HM1 HV hiR r0 r1 r2 hlen k30 k31 hf3 hb13 hM3 hb3 hs12 HG HC HMM HT HBw1 hp
    have tk1 := True.intro
    have tk2 := True.intro
    have tk3 := True.intro
    have tk4 := True.intro
    go_wp2_with (first
      | (clear tk1; go_at_call 10; refine hA0.mono ?_; rintro e v1 ⟨rfl, hv1⟩; obtain ⟨j0, j1⟩ := HX.out v1 hv1; have hk1 := HA1.out v1 hv1)
      | (clear tk2; go_at_call 10; refine hk1.mono ?_; rintro e v2 ⟨rfl, hv2'⟩; have hv2 := hv1.trans (hv2'.mono hv1.size); obtain ⟨l0, l1⟩ := HX.out v2 hv2; have hk2 := HA2.out v2 hv2)
      | (clear tk3; go_at_call 10; refine hk2.mono ?_; rintro e v3 ⟨rfl, hv3'⟩; have hv3 := hv2.trans (hv3'.mono hv2.size); obtain ⟨o0, o1⟩ := HX.out v3 hv3; have hk3 := HA3.out v3 hv3)
      | (clear tk4; go_at_call 10; refine hk3.mono ?_; rintro e v4 ⟨rfl, hv4'⟩; have hv4 := hv3.trans (hv4'.mono hv3.size); obtain ⟨p0, p1⟩ := HX.out v4 hv4; have hk4 := HNX.out v4 hv4)
      | (go_at_call 11; refine hk4.mono ?_; rintro e v5 ⟨vn, rfl, hv5', hIn⟩; have hv5 := hv4.trans (hv5'.mono hv4.size); have hhas := has_any vn ln c v5 (Nat.le_trans HLN.out.2 (by decide)) hIn; rw [decide_eq_true HLN.out.1] at hhas; obtain ⟨vo, vc, rfl⟩ := hIn.shape)
      | (go_at_call 12; refine hhas.mono ?_; rintro e v6 ⟨rfl, hv6'⟩; have hv6 := hv5.trans (hv6'.mono hv5.size)))
    go_ret
    exact ⟨by first | rfl | simp, (HTW.out _ hv6).1⟩
end Go.Proofs.YtipleacacfejcaaDoor
