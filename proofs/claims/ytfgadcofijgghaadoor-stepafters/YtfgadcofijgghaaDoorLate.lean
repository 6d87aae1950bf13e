/-
  Joined out of RefRule, RefModel, RefCount, RefCode, RefValues, RefAfter, SameOps, SameModel, in their order: a claim bears at most so many files.
-/
import Derived.Test.YtfgadcofijgghaaDoorRefVars
import Derived.Test.YtfgadcofijgghaaDoorRefExpr2
import Derived.Test.YtfgadcofijgghaaDoorStates
import Derived.Test.YtfgadcofijgghaaDoorCodeRes
import Derived.Test.YtfgadcofijgghaaDoorValRes
import Derived.Deep.AppendLies
import Derived.Deep.RegionHeld3
import Derived.Test.YtfgadcofijgghaaDoorStepAfter
import Derived.Test.YtfgadcofijgghaaDoorRefEval
import Derived.Test.YtfgadcofijgghaaDoorMem
import Derived.Test.YtfgadcofijgghaaDoorModelMem
/-
  The contracts of the document's own kindFault, ruleFault.
-/
namespace Go.Proofs.YtfgadcofijgghaaDoor
open Go.ChangeShapes Go.WideShapes Go.ChangeAt Go.RowKit Go.Deep
open Terms Tm

theorem kindFault_any (v : Value) (l : List (Int × Int)) (vars : Int) (tr : Bool) (w : World) (hV : OpsV w v l) :
    Calls Tryd.prog 51 #[v, .int .i64 vars, .bool tr] w fun e w' => e = .returned (.int .i64 (kcode vars l tr)) ∧ Below w.heap.size w w' := by
  have hch := exprChecked_any v l vars (treeOf l) w hV (treeOf_spec l)
  obtain ⟨ao, cap, rfl⟩ := hV.shape
  unfold kcode
  generalize xcode vars l (treeOf l) = x at *
  generalize mkT (treeOf l).kind = mk at *
  clear hV
  by_cases hx : x = 0
  · subst hx
    rw [if_pos rfl]
    rw [show (decide ((0 : Int) = 0) && mk) = mk by simp] at hch
    by_cases hm : mk = tr
    · rw [if_pos hm]
      subst hm
      go_enter Tryd.func51, Tryd.ntmps51
      go_wp2_with (go_at_call 44; refine hch.mono ?_; rintro e w1 ⟨rfl, hb1⟩)
      all_goals go_ret
      all_goals exact ⟨rfl, hb1⟩
    · rw [if_neg hm]
      have hne : (mk == tr) = false := by simpa using hm
      go_enter Tryd.func51, Tryd.ntmps51
      go_wp2_with (go_at_call 44; refine hch.mono ?_; rintro e w1 ⟨rfl, hb1⟩)
      all_goals go_ret
      all_goals exact ⟨rfl, hb1⟩
  · rw [if_neg hx]
    rw [show (decide (x = 0) && mk) = false by simp [hx]] at hch
    go_enter Tryd.func51, Tryd.ntmps51
    go_wp2_with (go_at_call 44; refine hch.mono ?_; rintro e w1 ⟨rfl, hb1⟩)
    all_goals go_ret
    all_goals exact ⟨rfl, hb1⟩

theorem rsAt_eq {vars : Int} {l : List St} {k : Nat} {x : St} (hx : l.getD k st0 = x) :
    (x.var < 0 ∨ vars ≤ x.var → sAt vars l k = 2) ∧ (¬ (x.var < 0 ∨ vars ≤ x.var) → metVar l k x.var = true → sAt vars l k = 7) ∧ (¬ (x.var < 0 ∨ vars ≤ x.var) → metVar l k x.var = false → sAt vars l k = kcode vars x.val false) := by
  subst hx
  refine ⟨fun h1 => ?_, fun h1 h2 => ?_, fun h1 h2 => ?_⟩
  all_goals unfold sAt
  · rw [if_pos h1]
  · rw [if_neg h1, if_pos h2]
  · rw [if_neg h1, if_neg (by rw [h2]; decide)]

theorem rrule_long (gv : Value) (so : Option Addr) (n cap : Nat) (vars : Int) (w : World) (h : 6 < n) :
    Calls Tryd.prog 66 #[.agg #[gv, .slice so n cap], .int .i64 vars] w fun e w' => e = .returned (.int .i64 1) ∧ Below w.heap.size w w' := by
  go_enter Tryd.func66, Tryd.ntmps66
  go_wp2
  go_ret
  exact ⟨rfl, (Below.refl _ _).alloc (Nat.le_refl _) _⟩

set_option maxHeartbeats 3200000 in
theorem rrule_loop (gv sv : Value) (r : Ru) (vars : Int) (w : World) (hv0 : 0 ≤ vars) (hv6 : vars ≤ 6) (h6 : r.sets.length ≤ 6) (hG : OpsV w gv r.guard) (hS : SetsV w sv r.sets) :
    Calls Tryd.prog 66 #[.agg #[gv, sv], .int .i64 vars] w fun e w' => e = .returned (.int .i64 (if kcode vars r.guard true = 0 then firstOf (sAt vars r.sets) r.sets.length else kcode vars r.guard true)) ∧ Below w.heap.size w w' := by
  have hA : ∀ o, Below w.heap.size w (w.alloc o) := fun o => (Below.refl _ _).alloc (Nat.le_refl _) o
  have hcm := fun o => kindFault_any gv r.guard vars true (w.alloc o) (hG.below (hA o))
  obtain ⟨ga, gc, rfl⟩ := hG.shape
  obtain ⟨so, sc, rfl⟩ := hS.shape
  generalize hl : r.sets = l at *
  have HS : Hid (SetsV w (.slice so l.length sc) l) := hS
  obtain ⟨n, hn⟩ : ∃ n, n = l.length := ⟨_, rfl⟩
  have HN : Hid (n = l.length) := hn
  rw [← hn] at h6 HS ⊢
  obtain ⟨g, hg⟩ : ∃ g, kcode vars r.guard true = g := ⟨_, rfl⟩
  rw [hg] at hcm ⊢
  obtain ⟨res, hres⟩ : ∃ res, (if g = 0 then firstOf (sAt vars l) n else g) = res := ⟨_, rfl⟩
  rw [hres]
  have HRes : Hid ((g = 0 → res = firstOf (sAt vars l) n) ∧ (g ≠ 0 → res = g)) := ⟨fun h => by rw [← hres, if_pos h], fun h => by rw [← hres, if_neg h]⟩
  generalize r.guard.length = gn at *
  clear hG hS hn hl hg hres
  go_enter Tryd.func66, Tryd.ntmps66
  go_wp2_with (go_at_call 51; refine (hcm _).mono ?_; rintro e w1 ⟨rfl, hb1⟩)
  have hb1' : Below (w.heap.size + 1) (w.alloc (.cells #[.slice ga gn gc, .slice so n sc] 50)) w1 := hb1.mono (by simp)
  clear hcm hb1
  go_loopw [5, 6] (fun e i wr => ∃ (k : Nat) (x : Int), k ≤ n ∧ i = .int .i64 k ∧ e = .int .i64 x ∧ Hid ((x = 0 → g = 0 ∧ ∀ j, j < k → sAt vars l j = 0) ∧ (x ≠ 0 → res = x)) ∧ Below (w.heap.size + 1) (w.alloc (.cells #[.slice ga gn gc, .slice so n sc] 50)) wr) (fun _ i _ => n - (intOf i).toNat)
  case atStart => exact ⟨0, g, Nat.zero_le _, rfl, rfl, ⟨fun h => ⟨h, fun j hj => by omega⟩, fun h => HRes.out.2 h⟩, hb1'⟩
  case round =>
    obtain ⟨k, x, hk, rfl, rfl, HJ, hbel⟩ := hrel
    have hbw := (hA _).trans (hbel.mono (Nat.le_succ _))
    have hszb : w.heap.size + 1 ≤ wr.heap.size := by have := hbel.size; simp at this; omega
    have hlb : w.heap.size < wr.heap.size := by omega
    have cb := (hbel.cell (p := ⟨w.heap.size, 1, none⟩) (by simp)).trans (show _ = some (.slice so n sc) by simp [go_sem])
    clear hb1'
    by_cases hx : x = 0
    · subst hx
      obtain ⟨hg0, hJ⟩ := HJ.out.1 rfl
      have HJ' := (show Hid _ from hJ)
      have HRF : Hid (res = firstOf (sAt vars l) n) := HRes.out.1 hg0
      have HG0 : Hid (g = 0) := hg0
      clear HJ hJ HRes hg0
      by_cases hlt : k < n
      · obtain ⟨b, off, rfl, hblt, hat⟩ := HS.out.at (i := k) (by rw [← HN.out]; exact hlt)
        have HC : Hid (∀ q, q < n → wr.cell? ⟨b, off + q * 2, none⟩ = some (.int .i64 (l.getD q st0).var)) := fun q hq => by
          obtain ⟨b', off', e, _, hq2⟩ := HS.out.at (i := q) (by rw [← HN.out]; exact hq)
          injection Option.some.inj e with e1 e2
          subst e1 e2
          exact (hbw.cell (p := ⟨b, off + q * 2, none⟩) hblt).trans hq2.1
        have HAt := (show Hid _ from rsAt_eq (vars := vars) (l := l) (k := k) rfl)
        have HHit : Hid (∀ c, sAt vars l k = c → c ≠ 0 → res = c) := fun c h1 h2 => by rw [HRF.out, firstOf_hit hlt HJ'.out (by rw [h1]; exact h2), h1]
        have HStep : Hid (sAt vars l k = 0 → ∀ j, j < k + 1 → sAt vars l j = 0) := fun h0 j hj => by
          by_cases hjk : j = k
          · subst hjk; exact h0
          · exact HJ'.out j (by omega)
        obtain ⟨x, hx⟩ : ∃ x, l.getD k st0 = x := ⟨_, rfl⟩
        rw [hx] at hat HAt
        obtain ⟨y, val⟩ := x
        obtain ⟨c0', u, c1', hOu⟩ := hat
        obtain ⟨ua, uc, rfl⟩ := hOu.shape
        have c0 := (hbw.cell (p := ⟨b, off + k * 2, none⟩) hblt).trans c0'
        have c1 := (hbw.cell (p := ⟨b, off + k * 2 + 1, none⟩) hblt).trans c1'
        simp only at c0 HAt hOu
        have hkf := (fun w2 (hb2 : Below w.heap.size w w2) => kindFault_any _ val vars false w2 (hOu.below hb2))
        have HKF := (show Hid _ from hkf)
        generalize val.length = vn at *
        have hbA := hbel.alloc hszb (.cells #[.int .i64 y, .slice ua vn uc] 52)
        have hbwA := (hA _).trans (hbA.mono (Nat.le_succ _))
        clear hx HJ' c0' c1' hOu hkf
        by_cases hy : y < 0 ∨ vars ≤ y
        · have HR : Hid (res = 2) := HHit.out 2 (HAt.out.1 hy) (by decide)
          have hin := fun w => in_any y 0 (vars - 1) w
          rw [decide_eq_false (show ¬ (0 ≤ y ∧ y ≤ vars - 1) by omega)] at hin
          clear HAt HStep HHit HKF HC HRF hy
          go_wp2_with (go_at_call 24; refine (hin _).mono ?_; rintro e w1 ⟨rfl, rfl⟩)
          go_ret
          rw [HR.out]
          exact ⟨rfl, hbwA⟩
        · have hin := fun w => in_any y 0 (vars - 1) w
          rw [decide_eq_true (show (0 ≤ y ∧ y ≤ vars - 1) by omega)] at hin
          have HY : Hid (¬ (y < 0 ∨ vars ≤ y)) := hy
          clear hy
          go_wp2_with (go_at_call 24; refine (hin _).mono ?_; rintro e w1 ⟨rfl, rfl⟩)
          generalize wr = wo at *
          go_loopw [8] (fun i wr => ∃ q : Nat, q ≤ k ∧ i = .int .i64 q ∧ Hid (∀ j, j < q → (l.getD j st0).var ≠ y) ∧ ∃ d, wr = (wo.alloc (.cells #[.int .i64 y, .slice ua vn uc] 52)).drewN d) (fun i _ => k - (intOf i).toNat)
          case atStart => exact ⟨0, Nat.zero_le _, rfl, fun j hj => by omega, 0, rfl⟩
          case round =>
            obtain ⟨q, hq, rfl, HQ, d, rfl⟩ := hrel
            have hAo : Below wo.heap.size wo (wo.alloc (.cells #[.int .i64 y, .slice ua vn uc] 52)) := (Below.refl wo.heap.size wo).alloc (Nat.le_refl _) _
            by_cases hqk : q < k
            · have cq' := HC.out q (by omega)
              have hbo : b < wo.heap.size := by omega
              have cq := (hAo.cell (p := ⟨b, off + q * 2, none⟩) hbo).trans cq'
              have cb2 := (hAo.cell (p := ⟨w.heap.size, 1, none⟩) hlb).trans cb
              have hq0 : (0 : Int) ≤ (q : Int) := Int.natCast_nonneg _
              have hqn : (q : Int) < (n : Int) := by omega
              by_cases heq : (l.getD q st0).var = y
              · have hmet : metVar l k y = true := by
                  simp only [metVar, List.any_eq_true, List.mem_range, decide_eq_true_eq]
                  exact ⟨q, hqk, heq⟩
                have HR : Hid (res = 7) := HHit.out 7 (HAt.out.2.1 HY.out hmet) (by decide)
                rw [heq] at cq cq'
                clear HAt HStep HHit HC HQ heq hmet cq' HKF HRF hAo
                go_wp2_with fail
                go_quiet (fail)
                go_wp2_with fail
                go_ret
                rw [HR.out]
                exact ⟨rfl, below_drewN (below_drewN hbwA _) _⟩
              · have HQ2 : Hid (∀ j, j < q + 1 → (l.getD j st0).var ≠ y) := fun j hj => by
                  by_cases hjq : j = q
                  · subst hjq; exact heq
                  · exact HQ.out j (by omega)
                have hne : ((l.getD q st0).var == y) = false := by simpa using heq
                generalize (l.getD q st0).var = y' at *
                clear HAt HStep HHit HC HQ heq cq' HKF HRF hAo
                go_wp2_with fail
                go_quiet (fail)
                go_wp2_with fail
                go_roundw
                case rel => exact ⟨q + 1, by omega, by go_num, HQ2, _, rfl⟩
                case measure => simp [intOf]; omega
            · have hqe : q = k := by omega
              have hmet : metVar l k y = false := by
                simp only [metVar, List.any_eq_false, List.mem_range, decide_eq_true_eq]
                intro j hj
                exact HQ.out j (by omega)
              have HA2 := (show Hid _ from HAt.out.2.2 HY.out hmet)
              have hkf := HKF.out _ (below_drewN hbwA d)
              have hbD := below_drewN hbA d
              obtain ⟨x, hx⟩ : ∃ x, kcode vars val false = x := ⟨_, rfl⟩
              rw [hx] at hkf HA2
              have HF2 : Hid ((x = 0 → g = 0 ∧ ∀ j, j < k + 1 → sAt vars l j = 0) ∧ (x ≠ 0 → res = x)) :=
                ⟨fun h0 => ⟨HG0.out, HStep.out (by rw [HA2.out, h0])⟩, fun h0 => HHit.out x HA2.out h0⟩
              clear HQ HC hqk HAt HStep HHit HKF HRF hmet hx HA2
              subst hqe
              go_wp2_with (go_at_call 51; refine hkf.mono ?_; rintro e w3 ⟨rfl, hb3⟩)
              go_roundw
              case rel => exact ⟨q + 1, x, hlt, by go_num, rfl, HF2, hbD.trans (hb3.mono (by have := hbD.size; simp at this ⊢; omega))⟩
              case measure => simp [intOf]; omega
      · have HR : Hid (res = 0) := by show _ = _; rw [HRF.out]; exact firstOf_none (fun j hj => HJ'.out j (by omega))
        clear HJ' HRF
        go_wp2
        go_ret
        rw [HR.out]
        exact ⟨rfl, hbw⟩
    · have HR : Hid (res = x) := HJ.out.2 hx
      clear HJ HRes
      by_cases hlt : k < n
      all_goals
        go_wp2
        go_ret
        rw [HR.out]
        exact ⟨rfl, hbw⟩
/-- THE CONTRACT OF ruleFault. -/
theorem rrule_any (gv sv : Value) (r : Ru) (vars : Int) (w : World) (hv0 : 0 ≤ vars) (hv6 : vars ≤ 6) (hG : OpsV w gv r.guard) (hS : SetsV w sv r.sets) :
    Calls Tryd.prog 66 #[.agg #[gv, sv], .int .i64 vars] w fun e w' => e = .returned (.int .i64 (rcode vars r)) ∧ Below w.heap.size w w' := by
  unfold rcode
  by_cases h6 : 6 < r.sets.length
  · rw [if_pos h6]
    obtain ⟨so, cap, rfl⟩ := hS.shape
    exact rrule_long gv so _ cap vars w h6
  · rw [if_neg h6]
    exact rrule_loop gv sv r vars w hv0 hv6 (by omega) hG hS
end Go.Proofs.YtfgadcofijgghaaDoor

/-
  The contract of the document's own ModelFault.
-/
namespace Go.Proofs.YtfgadcofijgghaaDoor
open Go.ChangeShapes Go.WideShapes Go.ChangeAt Go.RowKit Go.Deep
open Terms Tm

theorem rmodel_vars (va vr : Value) (m : Mo) (w : World) (hV : ModelV w va vr m) (h : vcode m.vars ≠ 0) :
    Calls Tryd.prog 46 #[.agg #[va, vr]] w fun e w' => e = .returned (.int .i64 (vcode m.vars)) ∧ Below w.heap.size w w' := by
  have hA : ∀ o, Below w.heap.size w (w.alloc o) := fun o => (Below.refl _ _).alloc (Nat.le_refl _) o
  have hcv := fun o => rvars_any va m.vars (w.alloc o) (hV.1.below (hA o))
  generalize vcode m.vars = x at *
  obtain ⟨ao, cap, rfl⟩ := hV.1.shape
  obtain ⟨ro, rc, rfl⟩ := hV.2.shape
  clear hV
  go_enter Tryd.func46, Tryd.ntmps46
  go_wp2_with (go_at_call 65; refine (hcv _).mono ?_; rintro e w1 ⟨rfl, hb1⟩)
  go_ret
  exact ⟨rfl, (hA _).trans (hb1.mono (hA _).size)⟩

theorem rmodel_long (va vr : Value) (m : Mo) (w : World) (hV : ModelV w va vr m) (h : vcode m.vars = 0) (h12 : 12 < m.rules.length) :
    Calls Tryd.prog 46 #[.agg #[va, vr]] w fun e w' => e = .returned (.int .i64 1) ∧ Below w.heap.size w w' := by
  have hA : ∀ o, Below w.heap.size w (w.alloc o) := fun o => (Below.refl _ _).alloc (Nat.le_refl _) o
  have hcv := fun o => rvars_any va m.vars (w.alloc o) (hV.1.below (hA o))
  rw [h] at hcv
  obtain ⟨ao, cap, rfl⟩ := hV.1.shape
  obtain ⟨ro, rc, rfl⟩ := hV.2.shape
  generalize m.rules.length = rn at *
  clear hV
  go_enter Tryd.func46, Tryd.ntmps46
  go_wp2_with (go_at_call 65; refine (hcv _).mono ?_; rintro e w1 ⟨rfl, hb1⟩; have hcb : w1.cell? ⟨w.heap.size, 1, none⟩ = some (.slice ro rn rc) := (hb1.cell (p := ⟨w.heap.size, 1, none⟩) (by simp)).trans (by simp [go_sem]))
  go_ret
  exact ⟨rfl, (hA _).trans (hb1.mono (hA _).size)⟩

set_option maxHeartbeats 3200000 in
theorem rmodel_loop (va vr : Value) (m : Mo) (w : World) (hV : ModelV w va vr m) (h : vcode m.vars = 0) (h12 : m.rules.length ≤ 12) :
    Calls Tryd.prog 46 #[.agg #[va, vr]] w fun e w' => e = .returned (.int .i64 (firstOf (fun i => rcode m.vars.length (m.rules.getD i ru0)) m.rules.length)) ∧ Below w.heap.size w w' := by
  have hA : ∀ o, Below w.heap.size w (w.alloc o) := fun o => (Below.refl _ _).alloc (Nat.le_refl _) o
  have hcv := fun o => rvars_any va m.vars (w.alloc o) (hV.1.below (hA o))
  have h6 := (varsOk_of h).1
  rw [h] at hcv
  obtain ⟨ao, cap, rfl⟩ := hV.1.shape
  obtain ⟨ro, rc, rfl⟩ := hV.2.shape
  generalize hl : m.rules = l at *
  have HS : Hid (RulesV w (.slice ro l.length rc) l) := by show RulesV _ _ _; rw [← hl]; rw [← hl] at hV; exact hV.2
  obtain ⟨n, hn⟩ : ∃ n, n = l.length := ⟨_, rfl⟩
  have HN : Hid (n = l.length) := hn
  rw [← hn] at h12 HS ⊢
  obtain ⟨vn, hvn⟩ : ∃ vn, vn = m.vars.length := ⟨_, rfl⟩
  rw [← hvn] at hcv h6 ⊢
  clear hV hn hl h hvn
  obtain ⟨f, hf⟩ : ∃ f : Nat → Int, f = fun i => rcode vn (l.getD i ru0) := ⟨_, rfl⟩
  rw [← hf]
  have HF : Hid (f = fun i => rcode vn (l.getD i ru0)) := hf
  clear hf
  go_enter Tryd.func46, Tryd.ntmps46
  go_wp2_with (go_at_call 65; refine (hcv _).mono ?_; rintro e w1 ⟨rfl, hb1⟩; have hcb : w1.cell? ⟨w.heap.size, 1, none⟩ = some (.slice ro n rc) := (hb1.cell (p := ⟨w.heap.size, 1, none⟩) (by simp)).trans (by simp [go_sem]))
  have hb1' : Below (w.heap.size + 1) (w.alloc (.cells #[.slice ao vn cap, .slice ro n rc] 25)) w1 := hb1.mono (by simp)
  clear hcv hcb hb1
  go_loopw [3, 4] (fun e i wr => ∃ (k : Nat) (x : Int), k ≤ n ∧ i = .int .i64 k ∧ e = .int .i64 x ∧ Hid ((x = 0 → ∀ j, j < k → f j = 0) ∧ (x ≠ 0 → firstOf f n = x)) ∧ Below (w.heap.size + 1) (w.alloc (.cells #[.slice ao vn cap, .slice ro n rc] 25)) wr) (fun _ i _ => n - (intOf i).toNat)
  case atStart => exact ⟨0, 0, Nat.zero_le _, rfl, rfl, ⟨fun _ j hj => by omega, fun h => absurd rfl h⟩, hb1'⟩
  case round =>
    obtain ⟨k, x, hk, rfl, rfl, HJ, hbel⟩ := hrel
    have hbw := (hA _).trans (hbel.mono (Nat.le_succ _))
    have hszb : w.heap.size + 1 ≤ wr.heap.size := by have := hbel.size; simp at this; omega
    have hlb : w.heap.size < wr.heap.size := by omega
    have cb0 := (hbel.cell (p := ⟨w.heap.size, 0, none⟩) (by simp)).trans (show _ = some (.slice ao vn cap) by simp [go_sem])
    have cb := (hbel.cell (p := ⟨w.heap.size, 1, none⟩) (by simp)).trans (show _ = some (.slice ro n rc) by simp [go_sem])
    clear hb1'
    by_cases hx : x = 0
    · subst hx
      have HJ' := (show Hid _ from HJ.out.1 rfl)
      clear HJ
      by_cases hlt : k < n
      · obtain ⟨b, off, rfl, hblt, hat⟩ := HS.out.at (i := k) (by rw [← HN.out]; exact hlt)
        obtain ⟨⟨u, c0', hO⟩, s, c1', hS⟩ := hat
        have HFk : Hid (f k = rcode vn (l.getD k ru0)) := by show _ = _; rw [HF.out]
        generalize l.getD k ru0 = r at *
        obtain ⟨ua, uc, rfl⟩ := hO.shape
        obtain ⟨sa, sc, rfl⟩ := hS.shape
        have c0 := (hbw.cell (p := ⟨b, off + k * 2, none⟩) hblt).trans c0'
        have c1 := (hbw.cell (p := ⟨b, off + k * 2 + 1, none⟩) hblt).trans c1'
        have hrr := (fun w2 (hb2 : Below wr.heap.size wr w2) => rrule_any _ _ r vn w2 (by omega) (by omega) (hO.below (hbw.trans (hb2.mono hbw.size))) (hS.below (hbw.trans (hb2.mono hbw.size))))
        generalize r.guard.length = gn at *
        generalize r.sets.length = sn at *
        obtain ⟨x, hx⟩ : ∃ x, rcode vn r = x := ⟨_, rfl⟩
        rw [hx] at hrr HFk
        have HF2 : Hid ((x = 0 → ∀ j, j < k + 1 → f j = 0) ∧ (x ≠ 0 → firstOf f n = x)) := by
          refine ⟨fun h0 j hj => ?_, fun h0 => ?_⟩
          · by_cases hjk : j = k
            · subst hjk; rw [HFk.out, h0]
            · exact HJ'.out j (by omega)
          · rw [firstOf_hit hlt HJ'.out (by rw [HFk.out]; exact h0), HFk.out]
        have hbo : b < wr.heap.size := by omega
        have hS0 : ∀ w', Below wr.heap.size wr w' → w'.cell? ⟨w.heap.size, 0, none⟩ = some (.slice ao vn cap) ∧ w'.cell? ⟨w.heap.size, 1, none⟩ = some (.slice (some ⟨b, off, none⟩) n rc) ∧ w'.cell? ⟨b, off + k * 2, none⟩ = some (.slice ua gn uc) ∧ w'.cell? ⟨b, off + k * 2 + 1, none⟩ = some (.slice sa sn sc) ∧ Below wr.heap.size wr w' := fun w' hw' =>
          ⟨(hw'.cell (p := ⟨w.heap.size, 0, none⟩) hlb).trans cb0, (hw'.cell (p := ⟨w.heap.size, 1, none⟩) hlb).trans cb, (hw'.cell (p := ⟨b, off + k * 2, none⟩) hbo).trans c0, (hw'.cell (p := ⟨b, off + k * 2 + 1, none⟩) hbo).trans c1, hw'⟩
        have hB0 : Below wr.heap.size wr wr := Below.refl _ _
        have hi0 : (0 : Int) ≤ (k : Int) := Int.natCast_nonneg _
        have hi1 : (k : Int) < (n : Int) := by omega
        clear HJ' c0' c1' hO hS hx hA HF HFk hbw
        go_wp2_with fail
        go_region_held3 (fun w' => w'.cell? ⟨w.heap.size, 0, none⟩ = some (.slice ao vn cap) ∧ w'.cell? ⟨w.heap.size, 1, none⟩ = some (.slice (some ⟨b, off, none⟩) n rc) ∧ w'.cell? ⟨b, off + k * 2, none⟩ = some (.slice ua gn uc) ∧ w'.cell? ⟨b, off + k * 2 + 1, none⟩ = some (.slice sa sn sc) ∧ Below wr.heap.size wr w')
          (exact hS0 _ (by first | exact hB0 | exact hB0.drew | exact hB0.drew.trans hb2))
          (first | (go_at_call 66; refine (hrr _ hB0.drew).mono ?_; rintro e w2 ⟨rfl, hb2⟩))
        go_wp2_with fail
        go_roundw
        case rel => exact ⟨k + 1, x, hlt, by go_num, rfl, HF2, hbel.trans ((hB0.drew.trans hb2).mono hszb)⟩
        case measure => simp [intOf]; omega
      · have HR : Hid (firstOf f n = 0) := firstOf_none (fun j hj => HJ'.out j (by omega))
        clear HJ'
        go_wp2
        go_ret
        rw [HR.out]
        exact ⟨rfl, hbw⟩
    · have HR : Hid (firstOf f n = x) := HJ.out.2 hx
      clear HJ
      by_cases hlt : k < n
      all_goals
        go_wp2
        go_ret
        rw [HR.out]
        exact ⟨rfl, hbw⟩

/-- THE CONTRACT OF ModelFault. -/
theorem rmodel_any (va vr : Value) (m : Mo) (w : World) (hV : ModelV w va vr m) :
    Calls Tryd.prog 46 #[.agg #[va, vr]] w fun e w' => e = .returned (.int .i64 (mcode m)) ∧ Below w.heap.size w w' := by
  unfold mcode
  by_cases h : vcode m.vars = 0
  · rw [if_pos h]
    by_cases h12 : 12 < m.rules.length
    · rw [if_pos h12]
      exact rmodel_long va vr m w hV h h12
    · rw [if_neg h12]
      exact rmodel_loop va vr m w hV h (by omega)
  · rw [if_neg h]
    exact rmodel_vars va vr m w hV h
end Go.Proofs.YtfgadcofijgghaaDoor

/-
  The contracts of the document's own behindVar, StateCount.
-/
namespace Go.Proofs.YtfgadcofijgghaaDoor
open Go.ChangeShapes Go.WideShapes Go.ChangeAt Go.RowKit Go.Deep
open Terms Tm

set_option maxHeartbeats 1600000 in
theorem behindVar_any (va : Value) (ro : Option Addr) (rn rc : Nat) (l : List Vr) (a : Nat) (w : World) (hok : VarsOk l) (ha : a ≤ l.length) (hV : VarsV w va l) :
    Calls Tryd.prog 43 #[.agg #[va, .slice ro rn rc], .int .i64 ((a : Int) - 1)] w fun e w' => e = .returned (.int .i64 (segP l a)) ∧ Below w.heap.size w w' := by
  obtain ⟨ao, cap, rfl⟩ := hV.shape
  have HV : Hid (VarsV w (.slice ao l.length cap) l) := hV
  have HOK : Hid (VarsOk l) := hok
  have h6 := hok.1
  unfold segP
  obtain ⟨n, hn⟩ : ∃ n, n = l.length := ⟨_, rfl⟩
  have HN : Hid (n = l.length) := hn
  rw [← hn] at h6 ha HV ⊢
  clear hV hn hok
  have hA : Below w.heap.size w (w.alloc (.cells #[.slice ao n cap, .slice ro rn rc] 25)) := (Below.refl _ _).alloc (Nat.le_refl _) _
  go_enter Tryd.func43, Tryd.ntmps43
  go_wp2
  go_loopw [5, 6] (fun st i wr => ∃ c : Nat, a + c ≤ n ∧ i = .int .i64 ((a + c : Nat) : Int) ∧ st = .int .i64 (prodSeg l a c) ∧ ∃ d, wr = (w.alloc (.cells #[.slice ao n cap, .slice ro rn rc] 25)).drewN d) (fun _ i _ => n - (intOf i).toNat)
  case atStart => exact ⟨0, by omega, by first | rfl | (congr 1; omega) | go_num, rfl, 0, rfl⟩
  case round =>
    obtain ⟨c, hc, rfl, rfl, d, rfl⟩ := hrel
    by_cases hlt : a + c < n
    · obtain ⟨b, off, rfl, hblt, hat⟩ := HV.out.at (i := a + c) (by rw [← HN.out]; exact hlt)
      obtain ⟨c0, c1, c2, c3⟩ := hat.below hA hblt
      have hpb1 := prodSeg_pos HOK.out (a := a) (c := c) (by rw [← HN.out]; exact hc)
      have hpb2 := prodSeg_le HOK.out (a := a) (c := c) (by rw [← HN.out]; exact hc)
      have hvb := HOK.out.at (j := a + c) (by rw [← HN.out]; exact hlt)
      have HPr : Hid (prodSeg l a (c + 1) = prodSeg l a c * vspan (l.getD (a + c) vr0)) := rfl
      generalize prodSeg l a c = st at *
      generalize l.getD (a + c) vr0 = x at *
      obtain ⟨s, lo, hi, ini⟩ := x
      simp only [vspan] at c0 c1 c2 c3 HPr hvb
      obtain ⟨hv1, hv2, hv3, hv4, hv5, hv6, hv7⟩ := hvb
      have hm1 : 1 ≤ st * (hi - lo + 1) := by have := Int.mul_le_mul hpb1 hv1 (by omega) (by omega); simpa using this
      have hm2 : st * (hi - lo + 1) ≤ 262144 := by have := Int.mul_le_mul hpb2 hv2 (by omega) (by omega); simpa using this
      obtain ⟨k, hk⟩ : ∃ k, k = a + c := ⟨_, rfl⟩
      have HK : Hid (k = a + c) := hk
      rw [← hk] at hlt c0 c1 c2 c3 ⊢
      clear hat hk
      have hi0 : (0 : Int) ≤ (k : Int) := Int.natCast_nonneg _
      have hi1 : (k : Int) < (n : Int) := by omega
      have hw1 : IntKind.i64.wrap (hi - lo) = hi - lo := wr64 (by omega) (by omega)
      have hw2 : IntKind.i64.wrap (hi - lo + 1) = hi - lo + 1 := wr64 (by omega) (by omega)
      have hw3 : IntKind.i64.wrap (st * (hi - lo + 1)) = st * (hi - lo + 1) := wr64 (by omega) (by omega)
      go_wp2_with fail
      go_quiet (fail)
      go_wp2_with fail
      go_roundw
      case rel => exact ⟨c + 1, by have := HK.out; omega, by have := HK.out; congr 1; omega, by rw [HPr.out], _, rfl⟩
      case measure => simp [intOf]; omega
    · have hce : c = n - a := by omega
      subst hce
      go_wp2_with fail
      go_ret
      exact ⟨rfl, below_drewN hA _⟩
/-- THE CONTRACT OF StateCount. -/
theorem rcount_any (va vr : Value) (m : Mo) (w : World) (hV : ModelV w va vr m) :
    Calls Tryd.prog 30 #[.agg #[va, vr]] w fun e w' => e = .returned (.tuple #[.int .i64 (if mcode m = 0 then prodTo m.vars m.vars.length else 0), .int .i64 (mcode m)]) ∧ Below w.heap.size w w' := by
  have hA : ∀ o, Below w.heap.size w (w.alloc o) := fun o => (Below.refl _ _).alloc (Nat.le_refl _) o
  have hch := fun o => rmodel_any va vr m (w.alloc o) (hV.below (hA o))
  have HV : Hid (ModelV w va vr m) := hV
  obtain ⟨ao, cap, rfl⟩ := hV.1.shape
  obtain ⟨ro, rc, rfl⟩ := hV.2.shape
  clear hV
  by_cases hz : mcode m = 0
  · have hok := mcode_vars hz
    have hcn := (fun w1 (hb : Below w.heap.size w w1) => behindVar_any _ ro m.rules.length rc m.vars 0 w1 hok (Nat.zero_le _) (HV.out.1.below hb))
    rw [segP_zero, show ((0 : Nat) : Int) - 1 = -1 by decide] at hcn
    rw [hz] at hch ⊢
    rw [if_pos rfl]
    generalize prodTo m.vars m.vars.length = N at *
    generalize m.vars.length = n at *
    generalize m.rules.length = rn at *
    clear hz hok HV
    go_enter Tryd.func30, Tryd.ntmps30
    go_wp2_with (first | (go_at_call 46; refine (hch _).mono ?_; rintro e w1 ⟨rfl, hb1⟩; have hcb0 : w1.cell? ⟨w.heap.size, 0, none⟩ = some (.slice ao n cap) := (hb1.cell (p := ⟨w.heap.size, 0, none⟩) (by simp)).trans (by simp [go_sem]); have hcb1 : w1.cell? ⟨w.heap.size, 1, none⟩ = some (.slice ro rn rc) := (hb1.cell (p := ⟨w.heap.size, 1, none⟩) (by simp)).trans (by simp [go_sem]); have hbw := (hA _).trans (hb1.mono (hA _).size)) | (go_at_call 43; refine (hcn _ hbw).mono ?_; rintro e w2 ⟨rfl, hb2⟩))
    go_ret2
    exact ⟨rfl, hbw.trans (hb2.mono hbw.size)⟩
  · rw [if_neg hz]
    generalize mcode m = x at *
    generalize m.vars.length = n at *
    generalize m.rules.length = rn at *
    clear HV
    go_enter Tryd.func30, Tryd.ntmps30
    go_wp2_with (go_at_call 46; refine (hch _).mono ?_; rintro e w1 ⟨rfl, hb1⟩)
    go_ret2
    exact ⟨rfl, (hA _).trans (hb1.mono (hA _).size)⟩
end Go.Proofs.YtfgadcofijgghaaDoor

/-
  The contract of the document's own CodeOf.
-/
namespace Go.Proofs.YtfgadcofijgghaaDoor
open Go.ChangeShapes Go.WideShapes Go.ChangeAt Go.RowKit Go.Deep
open Terms Tm

theorem rcode_bad (va vr vv : Value) (m : Mo) (w : World) (hV : ModelV w va vr m) (io : Option Addr) (il ic : Nat) (hv : vv = .slice io il ic) (h : mcode m ≠ 0) :
    Calls Tryd.prog 26 #[.agg #[va, vr], vv] w fun e w' => e = .returned (.tuple #[.int .i64 0, .int .i64 (mcode m)]) ∧ Below w.heap.size w w' := by
  subst hv
  have hA : ∀ o, Below w.heap.size w (w.alloc o) := fun o => (Below.refl _ _).alloc (Nat.le_refl _) o
  have hch := fun o => rmodel_any va vr m (w.alloc o) (hV.below (hA o))
  obtain ⟨ao, cap, rfl⟩ := hV.1.shape
  obtain ⟨ro, rc, rfl⟩ := hV.2.shape
  generalize mcode m = x at *
  generalize m.vars.length = n at *
  generalize m.rules.length = rn at *
  clear hV
  go_enter Tryd.func26, Tryd.ntmps26
  go_wp2_with (go_at_call 46; refine (hch _).mono ?_; rintro e w1 ⟨rfl, hb1⟩)
  go_ret2
  exact ⟨rfl, (hA _).trans (hb1.mono (hA _).size)⟩
theorem rcode_len (va vr vv : Value) (m : Mo) (w : World) (hV : ModelV w va vr m) (io : Option Addr) (il ic : Nat) (hv : vv = .slice io il ic) (h : mcode m = 0) (hl : il ≠ m.vars.length) :
    Calls Tryd.prog 26 #[.agg #[va, vr], vv] w fun e w' => e = .returned (.tuple #[.int .i64 0, .int .i64 9]) ∧ Below w.heap.size w w' := by
  subst hv
  have hA : ∀ o, Below w.heap.size w (w.alloc o) := fun o => (Below.refl _ _).alloc (Nat.le_refl _) o
  have hch := fun o => rmodel_any va vr m (w.alloc o) (hV.below (hA o))
  rw [h] at hch
  obtain ⟨ao, cap, rfl⟩ := hV.1.shape
  obtain ⟨ro, rc, rfl⟩ := hV.2.shape
  generalize m.vars.length = n at *
  generalize m.rules.length = rn at *
  have hne : ((il : Int) == (n : Int)) = false := by rw [beq_eq_false_iff_ne]; omega
  clear hV h
  go_enter Tryd.func26, Tryd.ntmps26
  go_wp2_with (go_at_call 46; refine (hch _).mono ?_; rintro e w1 ⟨rfl, hb1⟩; have hcb : w1.cell? ⟨w.heap.size, 0, none⟩ = some (.slice ao n cap) := (hb1.cell (p := ⟨w.heap.size, 0, none⟩) (by simp)).trans (by simp [go_sem]))
  all_goals first | (exfalso; omega) | go_ret2
  all_goals exact ⟨rfl, (hA _).trans (hb1.mono (hA _).size)⟩

set_option maxHeartbeats 3200000 in
theorem rcode_loop (va vr vv : Value) (m : Mo) (vals : List Int) (w : World) (hV : ModelV w va vr m) (hI : IntsV w vv vals) (h : mcode m = 0) (hlen : vals.length = m.vars.length) :
    Calls Tryd.prog 26 #[.agg #[va, vr], vv] w fun e w' => e = .returned (.tuple #[.int .i64 (cval m vals), .int .i64 (ccode m vals)]) ∧ Below w.heap.size w w' := by
  have hA : ∀ o, Below w.heap.size w (w.alloc o) := fun o => (Below.refl _ _).alloc (Nat.le_refl _) o
  have hch := fun o => rmodel_any va vr m (w.alloc o) (hV.below (hA o))
  rw [h] at hch
  have hok := mcode_vars h
  have HOK : Hid (VarsOk m.vars) := hok
  have h6 := hok.1
  obtain ⟨ao, cap, rfl⟩ := hV.1.shape
  obtain ⟨ro, rc, rfl⟩ := hV.2.shape
  obtain ⟨io, icap, rfl⟩ := hI.shape
  have hbv := (fun w1 (hb : Below w.heap.size w w1) a (ha : a ≤ m.vars.length) => behindVar_any (.slice ao m.vars.length cap) ro m.rules.length rc m.vars a w1 hok ha (hV.1.below hb))
  have HBV := (show Hid _ from hbv)
  have HV : Hid (VarsV w (.slice ao m.vars.length cap) m.vars) := hV.1
  have HI : Hid (IntsV w (.slice io vals.length icap) vals) := hI
  have HYes : Hid ((∀ i, i < m.vars.length → inB m.vars vals i) → ccode m vals = 0 ∧ cval m vals = sumTo m.vars vals m.vars.length) := fun hin => by
    have h1 := ccode_yes h ⟨hlen, hin⟩
    exact ⟨h1, by unfold cval; rw [if_pos h1, sum_all]⟩
  have HNo : Hid (∀ k, k < m.vars.length → ¬ inB m.vars vals k → ccode m vals = 9 ∧ cval m vals = 0) := fun k hk hin => by
    have h1 := ccode_no h (vals := vals) (fun h => hin (h.2 k hk))
    exact ⟨h1, by unfold cval; rw [h1, if_neg (by decide)]⟩
  have HLen : Hid (vals.length = m.vars.length) := hlen
  obtain ⟨n, hn⟩ : ∃ n, n = m.vars.length := ⟨_, rfl⟩
  have HN : Hid (n = m.vars.length) := hn
  rw [hlen] at HI ⊢
  rw [← hn] at h6 hch HBV HV HI HYes HNo ⊢
  generalize m.rules.length = rn at *
  generalize ccode m vals = cc at *
  generalize cval m vals = cv at *
  clear hV hI hbv hlen hn hok h
  go_enter Tryd.func26, Tryd.ntmps26
  go_wp2_with (go_at_call 46; refine (hch _).mono ?_; rintro e w1 ⟨rfl, hb1⟩; have hcb : w1.cell? ⟨w.heap.size, 0, none⟩ = some (.slice ao n cap) := (hb1.cell (p := ⟨w.heap.size, 0, none⟩) (by simp)).trans (by simp [go_sem]))
  have hb1' : Below (w.heap.size + 1) (w.alloc (.cells #[.slice ao n cap, .slice ro rn rc] 25)) w1 := hb1.mono (by simp)
  clear hch hcb hb1
  go_loopw [7, 8] (fun st i wr => ∃ k : Nat, k ≤ n ∧ i = .int .i64 k ∧ st = .int .i64 (sumTo m.vars vals k) ∧ Hid (∀ i, i < k → inB m.vars vals i) ∧ Below (w.heap.size + 1) (w.alloc (.cells #[.slice ao n cap, .slice ro rn rc] 25)) wr) (fun _ i _ => n - (intOf i).toNat)
  case atStart => exact ⟨0, Nat.zero_le _, rfl, rfl, fun j hj => by omega, hb1'⟩
  case round =>
    obtain ⟨k, hk, rfl, rfl, HJ, hbelB⟩ := hrel
    clear hb1'
    have hbel := (hA _).trans (hbelB.mono (Nat.le_succ _))
    have hszb : w.heap.size + 1 ≤ wr.heap.size := by have := hbelB.size; simp at this; omega
    have hlb : w.heap.size < wr.heap.size := by omega
    have cb := (hbelB.cell (p := ⟨w.heap.size, 0, none⟩) (by simp)).trans (show _ = some (.slice ao n cap) by simp [go_sem])
    have cb1 := (hbelB.cell (p := ⟨w.heap.size, 1, none⟩) (by simp)).trans (show _ = some (.slice ro rn rc) by simp [go_sem])
    by_cases hlt : k < n
    · obtain ⟨b, off, rfl, hblt, hat⟩ := HV.out.at (i := k) (by rw [← HN.out]; exact hlt)
      obtain ⟨ib, ioff, rfl, hilt, hic⟩ := HI.out.at (i := k) (by rw [HLen.out, ← HN.out]; exact hlt)
      obtain ⟨c0, c1, c2, c3⟩ := hat.below hbel hblt
      have hic2 := (hbel.cell (p := ⟨ib, ioff + k, none⟩) hilt).trans hic
      have HNk := (show Hid _ from HNo.out k hlt)
      unfold inB at HNk
      have hsb := sum_bounds HOK.out (k := k) (by rw [← HN.out]; exact hk) HJ.out
      have hgb := segP_bounds HOK.out (i := k + 1) (by rw [← HN.out]; exact hlt)
      have hvb := HOK.out.at (j := k) (by rw [← HN.out]; exact hlt)
      have HPr : Hid (sumTo m.vars vals (k + 1) = sumTo m.vars vals k + (vals.getD k 0 - (m.vars.getD k vr0).lo) * segP m.vars (k + 1)) := rfl
      have HJ3 : Hid ((m.vars.getD k vr0).lo ≤ vals.getD k 0 ∧ vals.getD k 0 ≤ (m.vars.getD k vr0).hi → ∀ i, i < k + 1 → inB m.vars vals i) := fun h i hi => by
        by_cases hik : i = k
        · subst hik; exact h
        · exact HJ.out i (by omega)
      have hbvk := (fun w1 hb => HBV.out w1 hb (k + 1) (by omega))
      rw [show ((k + 1 : Nat) : Int) - 1 = (k : Int) by omega] at hbvk
      generalize sumTo m.vars vals k = st at *
      generalize segP m.vars (k + 1) = sg at *
      generalize m.vars.getD k vr0 = x at *
      generalize vals.getD k 0 = y at *
      obtain ⟨s, lo, hi, ini⟩ := x
      simp only [vspan] at c0 c1 c2 c3 HNk HJ3 HPr hvb
      obtain ⟨hv1, hv2, hv3, hv4, hv5, hv6, hv7⟩ := hvb
      clear hat hic HJ
      have hi0 : (0 : Int) ≤ (k : Int) := Int.natCast_nonneg _
      have hi1 : (k : Int) < (n : Int) := by omega
      have hin0 := fun w => in_any y lo hi w
      have hbo : b < wr.heap.size := by omega
      have hio : ib < wr.heap.size := by omega
      by_cases hin : lo ≤ y ∧ y ≤ hi
      · rw [decide_eq_true hin] at hin0
        have HJ4 := (show Hid _ from HJ3.out hin)
        obtain ⟨hy1, hy2⟩ := hin
        have hm1 : 0 ≤ (y - lo) * sg := Int.mul_nonneg (by omega) (by omega)
        have hm2 : (y - lo) * sg ≤ 262144 := by
          have := Int.mul_le_mul (show y - lo ≤ 64 by omega) hgb.2 (by omega) (by omega); simpa using this
        have hw1 : IntKind.i64.wrap (y - lo) = y - lo := wr64 (by omega) (by omega)
        have hw2 : IntKind.i64.wrap ((y - lo) * sg) = (y - lo) * sg := wr64 (by omega) (by omega)
        have hw3 : IntKind.i64.wrap (st + (y - lo) * sg) = st + (y - lo) * sg := wr64 (by omega) (by omega)
        clear HJ3 HNk HNo HYes HBV
        go_wp2_with fail
        go_quiet ((go_at_call 24; exact Calls.quiet_of_same (hin0 _)))
        go_wp2_with fail
        have hB0 : Below wr.heap.size wr (wr.drewN nq) := below_drewN (Below.refl _ _) _
        have hbvk2 := fun w2 (hb2 : Below wr.heap.size wr w2) => hbvk w2 (hbel.trans (hb2.mono hbel.size))
        have hS0 : ∀ w', Below wr.heap.size wr w' → w'.cell? ⟨w.heap.size, 0, none⟩ = some (.slice (some ⟨b, off, none⟩) n cap) ∧ w'.cell? ⟨w.heap.size, 1, none⟩ = some (.slice ro rn rc) ∧ w'.cell? ⟨b, off + k * 4 + 1, none⟩ = some (.int .i64 lo) ∧ w'.cell? ⟨ib, ioff + k, none⟩ = some (.int .i64 y) := fun w' hw' =>
          ⟨(hw'.cell (p := ⟨w.heap.size, 0, none⟩) hlb).trans cb, (hw'.cell (p := ⟨w.heap.size, 1, none⟩) hlb).trans cb1, (hw'.cell (p := ⟨b, off + k * 4 + 1, none⟩) hbo).trans c1, (hw'.cell (p := ⟨ib, ioff + k, none⟩) hio).trans hic2⟩
        clear hbvk cb cb1 c0 c1 c2 c3 hic2
        go_region_held3 (fun w' => w'.cell? ⟨w.heap.size, 0, none⟩ = some (.slice (some ⟨b, off, none⟩) n cap) ∧ w'.cell? ⟨w.heap.size, 1, none⟩ = some (.slice ro rn rc) ∧ w'.cell? ⟨b, off + k * 4 + 1, none⟩ = some (.int .i64 lo) ∧ w'.cell? ⟨ib, ioff + k, none⟩ = some (.int .i64 y))
          (exact hS0 _ (by first | exact hB0 | exact hB0.drew | exact hB0.drew.trans (hb2.mono (by simp))))
          (first | (go_at_call 43; refine (hbvk2 _ hB0.drew).mono ?_; rintro e w2 ⟨rfl, hb2⟩))
        go_wp2_with fail
        go_roundw
        case rel => exact ⟨k + 1, hlt, by go_num, by rw [HPr.out], HJ4, hbelB.trans ((hB0.drew.trans (hb2.mono (by simp))).mono hszb)⟩
        case measure => simp [intOf]; omega
      · rw [decide_eq_false hin] at hin0
        have HR := (show Hid _ from HNk.out hin)
        clear hin HJ3 HNk HNo HYes HBV hbvk
        go_wp2_with fail
        go_quiet ((go_at_call 24; exact Calls.quiet_of_same (hin0 _)))
        go_wp2_with fail
        go_ret2
        rw [HR.out.1, HR.out.2]
        exact ⟨rfl, below_drewN hbel _⟩
    · have hkn : k = n := by omega
      subst hkn
      have HR := (show Hid _ from HYes.out HJ.out)
      generalize sumTo m.vars vals k = cd at *
      clear HJ HYes HNo HBV
      go_wp2
      go_ret2
      rw [HR.out.1, HR.out.2]
      exact ⟨rfl, hbel⟩

/-- THE CONTRACT OF CodeOf. -/
theorem rcodes_any (va vr vv : Value) (m : Mo) (vals : List Int) (w : World) (hV : ModelV w va vr m) (hI : IntsV w vv vals) :
    Calls Tryd.prog 26 #[.agg #[va, vr], vv] w fun e w' => e = .returned (.tuple #[.int .i64 (cval m vals), .int .i64 (ccode m vals)]) ∧ Below w.heap.size w w' := by
  obtain ⟨io, ic, hv⟩ := hI.shape
  by_cases h : mcode m = 0
  · by_cases hl : vals.length = m.vars.length
    · exact rcode_loop va vr vv m vals w hV hI h hl
    · have h9 := ccode_no h (vals := vals) (fun h => hl h.1)
      unfold cval
      rw [h9, if_neg (by decide)]
      exact rcode_len va vr vv m w hV io _ ic hv h hl
  · have h9 := ccode_bad (vals := vals) h
    unfold cval
    rw [h9, if_neg h]
    exact rcode_bad va vr vv m w hV io _ ic hv h
end Go.Proofs.YtfgadcofijgghaaDoor

/-
  The contract of the document's own ValuesOf.
-/
namespace Go.Proofs.YtfgadcofijgghaaDoor
open Go.ChangeShapes Go.WideShapes Go.ChangeAt Go.RowKit Go.Deep
open Terms Tm

theorem ivals_snoc (f : Nat → Int) (k : Nat) : ivals ((List.range (k + 1)).map f) = ivals ((List.range k).map f) ++ [.int .i64 (f k)] := by
  simp [ivals, List.range_succ]

theorem rvalues_bad (va vr : Value) (m : Mo) (code : Int) (w : World) (hV : ModelV w va vr m) (h : mcode m ≠ 0) :
    Calls Tryd.prog 23 #[.agg #[va, vr], .int .i64 code] w fun e w' => e = .returned (.tuple #[.slice none 0 0, .int .i64 (mcode m)]) ∧ Below w.heap.size w w' := by
  have hA : ∀ o, Below w.heap.size w (w.alloc o) := fun o => (Below.refl _ _).alloc (Nat.le_refl _) o
  have hch := fun o => rcount_any va vr m (w.alloc o) (hV.below (hA o))
  rw [if_neg h] at hch
  obtain ⟨ao, cap, rfl⟩ := hV.1.shape
  obtain ⟨ro, rc, rfl⟩ := hV.2.shape
  generalize mcode m = x at *
  generalize m.vars.length = n at *
  generalize m.rules.length = rn at *
  clear hV
  go_enter Tryd.func23, Tryd.ntmps23
  go_wp2_with (go_at_call 30; refine (hch _).mono ?_; rintro e w1 ⟨rfl, hb1⟩)
  go_ret2
  exact ⟨rfl, (hA _).trans (hb1.mono (hA _).size)⟩
theorem rvalues_no (va vr : Value) (m : Mo) (code : Int) (w : World) (hV : ModelV w va vr m) (h : mcode m = 0) (hc : ¬ (0 ≤ code ∧ code < prodTo m.vars m.vars.length)) :
    Calls Tryd.prog 23 #[.agg #[va, vr], .int .i64 code] w fun e w' => e = .returned (.tuple #[.slice none 0 0, .int .i64 9]) ∧ Below w.heap.size w w' := by
  have hA : ∀ o, Below w.heap.size w (w.alloc o) := fun o => (Below.refl _ _).alloc (Nat.le_refl _) o
  have hch := fun o => rcount_any va vr m (w.alloc o) (hV.below (hA o))
  rw [if_pos h, h] at hch
  have hN := (mcode_vars h).prod (j := m.vars.length) (Nat.le_refl _)
  obtain ⟨ao, cap, rfl⟩ := hV.1.shape
  obtain ⟨ro, rc, rfl⟩ := hV.2.shape
  generalize prodTo m.vars m.vars.length = N at *
  generalize m.vars.length = n at *
  generalize m.rules.length = rn at *
  have hin := fun w => in_any code 0 (N - 1) w
  rw [decide_eq_false (show ¬ (0 ≤ code ∧ code ≤ N - 1) by omega)] at hin
  clear hV h hc
  go_enter Tryd.func23, Tryd.ntmps23
  go_wp2_with (first | (go_at_call 30; refine (hch _).mono ?_; rintro e w1 ⟨rfl, hb1⟩) | (go_at_call 24; refine (hin _).mono ?_; rintro e w2 ⟨rfl, rfl⟩))
  go_ret2
  exact ⟨rfl, (hA _).trans (hb1.mono (hA _).size)⟩

set_option maxHeartbeats 3200000 in
theorem rvalues_loop (va vr : Value) (m : Mo) (code : Int) (w : World) (hV : ModelV w va vr m) (h : mcode m = 0) (hc : 0 ≤ code ∧ code < prodTo m.vars m.vars.length) :
    Calls Tryd.prog 23 #[.agg #[va, vr], .int .i64 code] w fun e w' => ∃ v, e = .returned (.tuple #[v, .int .i64 0]) ∧ Below w.heap.size w w' ∧ IntsV w' v (valsL m.vars code) := by
  have hA : ∀ o, Below w.heap.size w (w.alloc o) := fun o => (Below.refl _ _).alloc (Nat.le_refl _) o
  have hch := fun o => rcount_any va vr m (w.alloc o) (hV.below (hA o))
  rw [if_pos h, h] at hch
  have hok := mcode_vars h
  have HOK : Hid (VarsOk m.vars) := hok
  have h6 := hok.1
  obtain ⟨ao, cap, rfl⟩ := hV.1.shape
  obtain ⟨ro, rc, rfl⟩ := hV.2.shape
  have hbv := (fun w1 (hb : Below w.heap.size w w1) a (ha : a ≤ m.vars.length) => behindVar_any (.slice ao m.vars.length cap) ro m.rules.length rc m.vars a w1 hok ha (hV.1.below hb))
  have HBV := (show Hid _ from hbv)
  have HV : Hid (VarsV w (.slice ao m.vars.length cap) m.vars) := hV.1
  have hN := hok.prod (j := m.vars.length) (Nat.le_refl _)
  have HS0 : Hid (segP m.vars 0 = prodTo m.vars m.vars.length) := segP_zero _
  obtain ⟨hc1, hc2⟩ := hc
  generalize prodTo m.vars m.vars.length = N at *
  obtain ⟨n, hn⟩ : ∃ n, n = m.vars.length := ⟨_, rfl⟩
  have HN : Hid (n = m.vars.length) := hn
  rw [← hn] at h6 hch HBV HV ⊢
  generalize m.rules.length = rn at *
  have hin := fun w => in_any code 0 (N - 1) w
  rw [decide_eq_true (show (0 ≤ code ∧ code ≤ N - 1) by omega)] at hin
  obtain ⟨i0, hi, hz0, hz1, hz2⟩ := info_parts infoInt
  have HL : Hid (valsL m.vars code = (List.range n).map (valAt m.vars code)) := by show _ = _; rw [HN.out]; rfl
  clear hV hn hok h hbv
  go_enter Tryd.func23, Tryd.ntmps23
  go_wp2_with (first | (go_at_call 30; refine (hch _).mono ?_; rintro e w1 ⟨rfl, hb1⟩) | (go_at_call 24; refine (hin _).mono ?_; rintro e w2 ⟨rfl, rfl⟩))
  have hb1' : Below (w.heap.size + 1) (w.alloc (.cells #[.slice ao n cap, .slice ro rn rc] 25)) w2 := hb1.mono (by simp)
  clear hch hin hb1
  go_loopw [1, 8, 9] (fun cd vv i wr => ∃ k : Nat, k ≤ n ∧ i = .int .i64 k ∧ cd = .int .i64 (code % segP m.vars k) ∧ Hid (wr.ownsRow (w.heap.size + 1) 3 1 vv k (ivals ((List.range k).map (valAt m.vars code)))) ∧ Below (w.heap.size + 1) (w.alloc (.cells #[.slice ao n cap, .slice ro rn rc] 25)) wr) (fun _ _ i _ => n - (intOf i).toNat)
  case atStart => exact ⟨0, Nat.zero_le _, rfl, by rw [HS0.out, Int.emod_eq_of_lt hc1 hc2], World.ownsRow_nil _ _ _ _, hb1'⟩
  case round =>
    obtain ⟨k, hk, rfl, rfl, HOwn, hbelB⟩ := hrel
    clear hb1'
    have hbel := (hA _).trans (hbelB.mono (Nat.le_succ _))
    have hszb : w.heap.size + 1 ≤ wr.heap.size := by have := hbelB.size; simp at this; omega
    have hlb : w.heap.size < wr.heap.size := by omega
    have cb := (hbelB.cell (p := ⟨w.heap.size, 0, none⟩) (by simp)).trans (show _ = some (.slice ao n cap) by simp [go_sem])
    have cb1 := (hbelB.cell (p := ⟨w.heap.size, 1, none⟩) (by simp)).trans (show _ = some (.slice ro rn rc) by simp [go_sem])
    by_cases hlt : k < n
    · obtain ⟨b, off, rfl, hblt, hat⟩ := HV.out.at (i := k) (by rw [← HN.out]; exact hlt)
      obtain ⟨c0, c1, c2, c3⟩ := hat.below hbel hblt
      have hvb := HOK.out.at (j := k) (by rw [← HN.out]; exact hlt)
      have hsg := segP_bounds HOK.out (i := k + 1) (by rw [← HN.out]; exact hlt)
      have hsg0 := segP_bounds HOK.out (i := k) (by rw [← HN.out]; exact hk)
      have HQ : Hid ((code % segP m.vars k) % segP m.vars (k + 1) = code % segP m.vars (k + 1)) := mod_step code (by rw [← HN.out]; exact hlt)
      have HVa : Hid ((m.vars.getD k vr0).lo + (code % segP m.vars k) / segP m.vars (k + 1) = valAt m.vars code k) := valAt_ref HOK.out code (by rw [← HN.out]; exact hlt)
      have HSn := (show Hid _ from ivals_snoc (valAt m.vars code) k)
      have hcd0 := Int.emod_nonneg code (show segP m.vars k ≠ 0 by omega)
      have hcd1 := Int.emod_lt_of_pos code (show 0 < segP m.vars k by omega)
      have hbvk := HBV.out wr hbel (k + 1) (by omega)
      rw [show ((k + 1 : Nat) : Int) - 1 = (k : Int) by omega] at hbvk
      generalize hcd : code % segP m.vars k = cd at *
      generalize segP m.vars k = sg0 at *
      obtain ⟨sg, hsge⟩ : ∃ sg, segP m.vars (k + 1) = sg := ⟨_, rfl⟩
      have HSG : Hid (segP m.vars (k + 1) = sg) := hsge
      rw [hsge] at hsg hbvk HQ HVa
      generalize m.vars.getD k vr0 = x at *
      obtain ⟨s, lo, hi', ini⟩ := x
      simp only [vspan] at c0 c1 c2 c3 HVa hvb
      obtain ⟨hv1, hv2, hv3, hv4, hv5, hv6, hv7⟩ := hvb
      clear hat hsge hcd
      have hi0 : (0 : Int) ≤ (k : Int) := Int.natCast_nonneg _
      have hi1 : (k : Int) < (n : Int) := by omega
      have hsz0 : ¬ sg = 0 := by omega
      have hsz1 : (sg == 0) = false := by rw [beq_eq_false_iff_ne]; omega
      have ht : cd.tmod sg = cd % sg := Int.tmod_eq_emod_of_nonneg hcd0
      have htd : cd.tdiv sg = cd / sg := Int.tdiv_eq_ediv_of_nonneg hcd0
      have hd0 := Int.ediv_nonneg hcd0 (show 0 ≤ sg by omega)
      have hd1 := Int.ediv_le_self sg hcd0
      have hw0 : IntKind.i64.wrap (cd / sg) = cd / sg := wr64 (by omega) (by omega)
      have hw1 : IntKind.i64.wrap (lo + cd / sg) = lo + cd / sg := wr64 (by omega) (by omega)
      have hbo : b < wr.heap.size := by omega
      have hown := HOwn.out
      go_wp2_with (go_at_call 43; refine hbvk.mono ?_; rintro e w3 ⟨rfl, hb3⟩)
      have hown3 : ∀ o, (w3.alloc o).ownsRow (w.heap.size + 1) 3 1 _ k _ := fun o => (owns_later hown hb3 (Nat.le_refl _)).alloc o
      have hnb := hown.lt
      generalize hxs : ivals ((List.range k).map (valAt m.vars code)) = xs at *
      have HXS : Hid (ivals ((List.range k).map (valAt m.vars code)) = xs) := hxs
      have hs3 : w.heap.size < w3.heap.size := Nat.lt_of_lt_of_le hlb hb3.size
      have hS0 : ∀ w', Below wr.heap.size wr w' → w'.cell? ⟨w.heap.size, 0, none⟩ = some (.slice (some ⟨b, off, none⟩) n cap) ∧ w'.cell? ⟨b, off + k * 4 + 1, none⟩ = some (.int .i64 lo) := fun w' hw' =>
        ⟨(hw'.cell (p := ⟨w.heap.size, 0, none⟩) hlb).trans cb, (hw'.cell (p := ⟨b, off + k * 4 + 1, none⟩) hbo).trans c1⟩
      have hSA : ∀ o, (w3.alloc o).cell? ⟨w.heap.size, 0, none⟩ = some (.slice (some ⟨b, off, none⟩) n cap) ∧ (w3.alloc o).cell? ⟨b, off + k * 4 + 1, none⟩ = some (.int .i64 lo) := fun o => hS0 _ (hb3.alloc hb3.size o)
      have hkb : (k + 1) * 8 ≤ 140737488355328 := by omega
      have h63 : k + 1 ≤ maxLen := by unfold maxLen; omega
      have hbase : ∀ o, w.heap.size + 1 ≤ (w3.alloc o).heap.size := fun o => by simp; omega
      clear hxs hown hbvk HOwn cb cb1 c0 c1 c2 c3
      go_region_held3 (fun w' => w'.cell? ⟨w.heap.size, 0, none⟩ = some (.slice (some ⟨b, off, none⟩) n cap) ∧ w'.cell? ⟨b, off + k * 4 + 1, none⟩ = some (.int .i64 lo))
        (first | exact hS0 _ hb3 | exact hS0 _ hb3.drew | exact hSA _ | exact hk4)
        (first
          | (refine step_append_lies _ (by rfl) (.tmp 34) (.tmp 45) 32 (by rfl) (w.heap.size + 1) 3 i0 _ 1 8 Tryd.underlying32 hi hz0 hz1 hz2 (by rfl) (by decide) _ k xs (by rfl) (hown3 _) ⟨w3.heap.size, 0, none⟩ 1 1 [.int .i64 (lo + cd / sg)] (by rfl) (by rfl) (cell_one_new _ _ _) (by intro u hu; simp at hu; subst hu; rfl) (by decide) h63 hkb (hbase _) (w3.heap.size + 1) (by simp) ?_; intro g cp w4 ho4 hg4 hat4 hl4; have hk4 : w4.cell? ⟨w.heap.size, 0, none⟩ = some (.slice (some ⟨b, off, none⟩) n cap) ∧ w4.cell? ⟨b, off + k * 4 + 1, none⟩ = some (.int .i64 lo) := ⟨(hg4.cell_far ⟨w.heap.size, 0, none⟩ (by simp; omega) (fun he => by have := (hnb _ he.symm).1; simp only at this; omega)).trans (hSA _).1, (hg4.cell_far ⟨b, off + k * 4 + 1, none⟩ (by simp; omega) (fun he => by have := (hnb _ he.symm).1; simp only at this; omega)).trans (hSA _).2⟩))
      have hbk : Below (w.heap.size + 1) (w.alloc (.cells #[.slice (some ⟨b, off, none⟩) n cap, .slice ro rn rc] 25)) w4 := by
        have h3 := hbelB.trans (hb3.mono hszb)
        first
          | exact Below.grown (Below.alloc h3.drew (by simp; omega) _) hg4 (by simp; omega) (fun q hq => (hnb q hq).1)
          | exact Below.grown (Below.alloc h3 (by omega) _) hg4 (by simp; omega) (fun q hq => (hnb q hq).1)
      have HO4 : Hid (w4.ownsRow (w.heap.size + 1) 3 1 (.slice (some ⟨g, 0, none⟩) (k + 1) cp) (k + 1) (ivals ((List.range (k + 1)).map (valAt m.vars code)))) := by
        show World.ownsRow _ _ _ _ _ _ _
        rw [HSn.out, ← HVa.out]
        exact ho4
      clear ho4 hg4 hown3 hk4
      go_wp2_with fail
      go_roundw
      case rel => exact ⟨k + 1, hlt, by go_num, by rw [HSG.out, ← HQ.out], HO4, hbk⟩
      case measure => simp [intOf]; omega
    · have hkn : k = n := by omega
      subst hkn
      have hown := HOwn.out
      obtain ⟨vo, vc, rfl⟩ := owns_slice hown
      have hI : IntsV wr (.slice vo k vc) (valsL m.vars code) := by
        rw [HL.out]
        exact intsV_of_owns (by simpa using hown)
      have HI := (show Hid _ from hI)
      clear hI hown
      go_wp2
      go_ret2
      exact ⟨_, rfl, hbel, HI.out⟩
/-- THE CONTRACT OF ValuesOf. -/
theorem rvalues_any (va vr : Value) (m : Mo) (code : Int) (w : World) (hV : ModelV w va vr m) :
    Calls Tryd.prog 23 #[.agg #[va, vr], .int .i64 code] w fun e w' => ∃ v, e = .returned (.tuple #[v, .int .i64 (wcode m code)]) ∧ Below w.heap.size w w' ∧ IntsV w' v (wvals m code) := by
  by_cases h : mcode m = 0
  · by_cases hc : 0 ≤ code ∧ code < prodTo m.vars m.vars.length
    · have h0 := wcode_yes h hc
      unfold wvals
      rw [h0, if_pos rfl]
      exact rvalues_loop va vr m code w hV h hc
    · have h0 := wcode_no h hc
      unfold wvals
      rw [h0, if_neg (by decide)]
      exact (rvalues_no va vr m code w hV h hc).mono fun e w' ⟨he, hb⟩ => ⟨_, he, hb, none, 0, rfl, fun h => absurd rfl h⟩
  · have h0 := wcode_bad (code := code) h
    unfold wvals
    rw [h0, if_neg h]
    exact (rvalues_bad va vr m code w hV h).mono fun e w' ⟨he, hb⟩ => ⟨_, he, hb, none, 0, rfl, fun h => absurd rfl h⟩
end Go.Proofs.YtfgadcofijgghaaDoor

/-
  The contract of the document's own AfterRule.
-/
namespace Go.Proofs.YtfgadcofijgghaaDoor
open Go.ChangeShapes Go.WideShapes Go.ChangeAt Go.RowKit Go.Deep
open Terms Tm

/-- THE CONTRACT OF Evaluated, in the step's words. -/
theorem rex_any (v ev : Value) (l : List (Int × Int)) (env : List Int) (w : World) (hV : OpsV w v l) (hE : IntsV w ev env) :
    Calls Tryd.prog 25 #[v, ev] w fun e w' => e = .returned (.tuple #[.int .i64 (exN l env), .int .i64 (exC l env)]) ∧ Below w.heap.size w w' :=
  evaluated_any v ev l env (treeOf l) w hV hE (treeOf_spec l)
theorem behindL_eq {env : List Int} {r : Ru} (h : ∀ j, j < r.sets.length → 0 ≤ (r.sets.getD j st0).var ∧ (r.sets.getD j st0).var < env.length) : (List.range env.length).map (fun i => setAt env r.sets i r.sets.length) = behindL env r := by
  apply List.ext_getElem?
  intro i
  by_cases hi : i < env.length
  · have h1 := setTo_at (k := r.sets.length) h i
    rw [List.getElem?_map, List.getElem?_range hi]
    have h2 : i < (behindL env r).length := by unfold behindL; rw [setTo_length]; exact hi
    rw [List.getElem?_eq_getElem h2]
    show some (setAt env r.sets i r.sets.length) = _
    rw [← h1]
    unfold behindL at h2 ⊢
    simp [List.getD_eq_getElem?_getD, h2]
  · simp [hi, behindL, setTo_length]

set_option maxHeartbeats 3200000 in
set_option maxRecDepth 20000 in
/-- one rule that is there, at a state. -/
theorem rafter_in (va vr : Value) (m : Mo) (code : Int) (k : Nat) (w : World) (hV : ModelV w va vr m) (hw : wcode m code = 0) (hk : k < m.rules.length) :
    Calls Tryd.prog 9 #[.agg #[va, vr], .int .i64 code, .int .i64 k] w fun e w' => e = .returned (.tuple #[.int .i64 (optN (ruleDo m.vars (valsL m.vars code) (m.rules.getD k ru0))), .int .i64 (optC (ruleDo m.vars (valsL m.vars code) (m.rules.getD k ru0)))]) ∧ Below w.heap.size w w' := by
  have hA : ∀ o, Below w.heap.size w (w.alloc o) := fun o => (Below.refl _ _).alloc (Nat.le_refl _) o
  obtain ⟨hm, _⟩ := wcode_zero hw
  obtain ⟨hr12, hrs⟩ := mcode_rules hm
  have hrk := hrs k hk
  obtain ⟨h6, hsv⟩ := rule_sets hrk
  have hv6 := (mcode_vars hm).1
  have he := valsL_length m.vars code
  have hvl := fun o => rvalues_any va vr m code (w.alloc o) (hV.below (hA o))
  rw [hw, show wvals m code = valsL m.vars code by unfold wvals; rw [if_pos hw]] at hvl
  have HCo : Hid (∀ w' (_ : Below w.heap.size w w') vv vals, IntsV w' vv vals → Calls Tryd.prog 26 #[.agg #[va, vr], vv] w' fun e w2 => e = .returned (.tuple #[.int .i64 (cval m vals), .int .i64 (ccode m vals)]) ∧ Below w'.heap.size w' w2) := fun w' hb vv vals hi => rcodes_any va vr vv m vals w' (hV.below hb) hi
  have HR : Hid (RulesV w vr m.rules) := hV.2
  obtain ⟨ao, cap, rfl⟩ := hV.1.shape
  obtain ⟨ro, rc, rfl⟩ := hV.2.shape
  obtain ⟨b, off, rfl, hblt, hat⟩ := HR.out.at (i := k) hk
  have hin := fun w => in_any k 0 (m.rules.length - 1) w
  rw [decide_eq_true (show (0 : Int) ≤ k ∧ (k : Int) ≤ (m.rules.length : Int) - 1 by omega)] at hin
  have HG : Hid (holdsB (m.rules.getD k ru0).guard (valsL m.vars code) = false → ruleDo m.vars (valsL m.vars code) (m.rules.getD k ru0) = none) := fun h => ruleDo_guard h
  have HGd : Hid (holdsB (m.rules.getD k ru0).guard (valsL m.vars code) = (decide (exC (m.rules.getD k ru0).guard (valsL m.vars code) = 0) && decide (exN (m.rules.getD k ru0).guard (valsL m.vars code) = 1))) := rfl
  have HRS : Hid (∀ j, j < (m.rules.getD k ru0).sets.length → exC ((m.rules.getD k ru0).sets.getD j st0).val (valsL m.vars code) ≠ 0 → ruleDo m.vars (valsL m.vars code) (m.rules.getD k ru0) = none) := fun j hj h => ruleDo_set hj h
  have HRC : Hid (holdsB (m.rules.getD k ru0).guard (valsL m.vars code) = true → setsOk (valsL m.vars code) (m.rules.getD k ru0) → (ccode m (behindL (valsL m.vars code) (m.rules.getD k ru0)) = 0 → ruleDo m.vars (valsL m.vars code) (m.rules.getD k ru0) = some (cval m (behindL (valsL m.vars code) (m.rules.getD k ru0)))) ∧ (ccode m (behindL (valsL m.vars code) (m.rules.getD k ru0)) ≠ 0 → ruleDo m.vars (valsL m.vars code) (m.rules.getD k ru0) = none)) := fun h1 h2 => ruleDo_code h1 h2 he hm rfl
  generalize ruleDo m.vars (valsL m.vars code) (m.rules.getD k ru0) = res at *
  rw [← he] at hsv hv6
  generalize valsL m.vars code = env at *
  generalize m.rules.getD k ru0 = r at *
  have HSV : Hid (∀ j, j < r.sets.length → 0 ≤ (r.sets.getD j st0).var ∧ (r.sets.getD j st0).var < env.length) := hsv
  clear hV hw hm hrs hrk he hsv
  generalize m.vars.length = n at *
  generalize m.rules.length = rn at *
  go_enter Tryd.func9, Tryd.ntmps9
  go_wp2_with (first | (go_at_call 23; refine (hvl _).mono ?_; rintro e w1 ⟨v, rfl, hb1, hI⟩; obtain ⟨vo, vc, rfl⟩ := hI.shape; have hbw1 := (hA _).trans (hb1.mono (hA _).size); have k10 : w1.cell? ⟨w.heap.size, 0, none⟩ = some (.slice ao n cap) := (hb1.cell (p := ⟨w.heap.size, 0, none⟩) (by simp)).trans (by simp [go_sem]); have k11 : w1.cell? ⟨w.heap.size, 1, none⟩ = some (.slice (some ⟨b, off, none⟩) rn rc) := (hb1.cell (p := ⟨w.heap.size, 1, none⟩) (by simp)).trans (by simp [go_sem]); have hs1 : w.heap.size < w1.heap.size := (by have := hb1.size; simp at this; omega); obtain ⟨⟨u, c0, hou⟩, u', c1, hsu⟩ := hat.below hbw1 hblt; obtain ⟨uo, uc, rfl⟩ := hou.shape; obtain ⟨so, sc, rfl⟩ := hsu.shape) | (go_at_call 24; refine (hin _).mono ?_; rintro e w9 ⟨rfl, rfl⟩))
  have hAr : Below w9.heap.size w9 (w9.alloc (.cells #[.slice uo r.guard.length uc, .slice so r.sets.length sc] 50)) := (Below.refl _ _).alloc (Nat.le_refl _) _
  have hbA := hbw1.trans (hAr.mono hbw1.size)
  have q10 : (w9.alloc (.cells #[.slice uo r.guard.length uc, .slice so r.sets.length sc] 50)).cell? ⟨w9.heap.size, 1, none⟩ = some (.slice so r.sets.length sc) := by simp [go_sem]
  have q11 := (hAr.cell (p := ⟨w.heap.size, 0, none⟩) hs1).trans k10
  have q12 := (hAr.cell (p := ⟨w.heap.size, 1, none⟩) hs1).trans k11
  have hIA := hI.below hAr
  have hsA := hsu.below hAr
  have hgu := rex_any _ _ r.guard env _ (hou.below hAr) hIA
  have hszA : w9.heap.size < (w9.alloc (.cells #[.slice uo r.guard.length uc, .slice so r.sets.length sc] 50)).heap.size := by simp
  generalize w9.alloc (.cells #[.slice uo r.guard.length uc, .slice so r.sets.length sc] 50) = W2 at *
  have HK2 : Hid (∀ w', Below W2.heap.size W2 w' → w'.cell? ⟨w9.heap.size, 1, none⟩ = some (.slice so r.sets.length sc) ∧ w'.cell? ⟨w.heap.size, 0, none⟩ = some (.slice ao n cap) ∧ w'.cell? ⟨w.heap.size, 1, none⟩ = some (.slice (some ⟨b, off, none⟩) rn rc)) := fun w' hb => ⟨(hb.cell (p := ⟨w9.heap.size, 1, none⟩) hszA).trans q10, (hb.cell (p := ⟨w.heap.size, 0, none⟩) (Nat.lt_trans hs1 hszA)).trans q11, (hb.cell (p := ⟨w.heap.size, 1, none⟩) (Nat.lt_trans hs1 hszA)).trans q12⟩
  have HI2 : Hid (IntsV W2 (.slice vo env.length vc) env) := hIA
  have HS2 : Hid (SetsV W2 (.slice so r.sets.length sc) r.sets) := hsA
  have HBW2 : Hid (Below w.heap.size w W2) := hbA
  clear hAr hbA q10 q11 q12 hIA hsA hszA hou hsu hI c0 c1 k10 k11 hb1 hbw1 hat hvl hin HR hA hs1
  have hgd := HGd.out
  generalize exN r.guard env = gn at hgu hgd
  generalize exC r.guard env = gc at hgu hgd
  by_cases hc0 : gc = 0
  · by_cases hn1 : gn = 1
    · have hg1 : holdsB r.guard env = true := by rw [hgd]; simp [hc0, hn1]
      have HRC2 : Hid _ := HRC.out hg1
      subst hc0 hn1
      clear hgd HGd HG HRC hg1
      go_wp2_with (go_at_call 25; refine hgu.mono ?_; rintro e w3 ⟨rfl, hb3⟩; obtain ⟨k30, k31, k32⟩ := HK2.out w3 hb3)
      have HBE : Hid ((List.range env.length).map (fun i => setAt env r.sets i r.sets.length) = behindL env r) := behindL_eq HSV.out
      have hI3 := HI2.out.below hb3
      have HI3 : Hid (IntsV w3 (.slice vo env.length vc) env) := hI3
      have HS3 : Hid (SetsV w3 (.slice so r.sets.length sc) r.sets) := HS2.out.below hb3
      have HK3 : Hid (∀ w', Below w3.heap.size w3 w' → w'.cell? ⟨w9.heap.size, 1, none⟩ = some (.slice so r.sets.length sc) ∧ w'.cell? ⟨w.heap.size, 0, none⟩ = some (.slice ao n cap) ∧ w'.cell? ⟨w.heap.size, 1, none⟩ = some (.slice (some ⟨b, off, none⟩) rn rc)) := fun w' hb => HK2.out w' (hb3.trans (hb.mono hb3.size))
      have HBW3 : Hid (Below w.heap.size w w3) := HBW2.out.trans (hb3.mono HBW2.out.size)
      have HEx : Hid (∀ w' (_ : Below w3.heap.size w3 w') v l, OpsV w' v l → Calls Tryd.prog 25 #[v, .slice vo env.length vc] w' fun e w2 => e = .returned (.tuple #[.int .i64 (exN l env), .int .i64 (exC l env)]) ∧ Below w'.heap.size w' w2) := fun w' hb v l hv => rex_any v _ l env w' hv (hI3.below hb)
      obtain ⟨en, hen⟩ : ∃ en, en = env.length := ⟨_, rfl⟩
      have HEN : Hid (en = env.length) := hen
      obtain ⟨sn, hsn⟩ : ∃ sn, sn = r.sets.length := ⟨_, rfl⟩
      have HSN : Hid (sn = r.sets.length) := hsn
      rw [← hen, ← hsn] at HBE
      rw [← hen] at HI3 HEx hv6 ⊢
      rw [← hsn] at HS3 HK3 h6 k30 ⊢
      have HSV2 : Hid (∀ j, j < sn → 0 ≤ (r.sets.getD j st0).var ∧ (r.sets.getD j st0).var < en) := by rw [hsn, hen]; exact HSV.out
      have HRS2 : Hid (∀ j, j < sn → exC (r.sets.getD j st0).val env ≠ 0 → res = none) := by rw [hsn]; exact HRS.out
      obtain ⟨i0, hi, hz0, hz1, hz2⟩ := info_parts infoInt
      clear hen hsn hI3 hb3 hgu HK2 HI2 HS2 HBW2 HSV HRS
      go_loopw [13, 14] (fun out i wr => ∃ q : Nat, q ≤ en ∧ i = .int .i64 q ∧ Hid (∀ j, j < sn → (r.sets.getD j st0).var < q → exC (r.sets.getD j st0).val env = 0) ∧ Hid (wr.ownsRow w3.heap.size 3 1 out q (ivals ((List.range q).map (fun i => setAt env r.sets i sn)))) ∧ Hid (Below w3.heap.size w3 wr)) (fun _ i _ => en - (intOf i).toNat)
      case atStart => exact ⟨0, Nat.zero_le _, rfl, fun j hj h => absurd h (by have := (HSV2.out j hj).1; omega), World.ownsRow_nil _ _ _ _, Below.refl _ _⟩
      case round =>
        obtain ⟨q, hq, rfl, HOK, HOwn, HBel⟩ := hrel
        have hbel := HBel.out
        by_cases hlt : q < en
        · obtain ⟨vb, voff, rfl, hvblt, hvc⟩ := HI3.out.at (i := q) (by rw [← HEN.out]; exact hlt)
          have hvc2 := (hbel.cell (p := ⟨vb, voff + q, none⟩) hvblt).trans hvc
          obtain ⟨kr0, kr1, kr2⟩ := HK3.out wr hbel
          have HA0 : Hid (setAt env r.sets q 0 = env.getD q 0) := rfl
          generalize env.getD q 0 = x0 at hvc2 HA0
          clear hvc k30 k31 k32
          go_wp2_with fail
          obtain ⟨wo, hwo⟩ : ∃ wo, wo = wr := ⟨_, rfl⟩
          subst hwo
          go_loopw [15, 16] (fun x kk wi => ∃ k : Nat, k ≤ sn ∧ kk = .int .i64 k ∧ x = .int .i64 (setAt env r.sets q k) ∧ Hid (∀ j, j < k → (r.sets.getD j st0).var = q → exC (r.sets.getD j st0).val env = 0) ∧ Hid (Below wo.heap.size wo wi)) (fun _ kk _ => sn - (intOf kk).toNat)
          case atStart => exact ⟨0, Nat.zero_le _, rfl, by rw [HA0.out], fun j hj => by omega, Below.refl _ _⟩
          case round =>
            obtain ⟨k, hk', rfl, rfl, HOKi, HBi⟩ := hrel
            have hbi := hbel.trans (HBi.out.mono hbel.size)
            obtain ⟨ki0, ki1, ki2⟩ := HK3.out wr hbi
            by_cases hlk : k < sn
            · obtain ⟨sb, soff, rfl, hsblt, hsat⟩ := HS3.out.at (i := k) (by rw [← HSN.out]; exact hlk)
              obtain ⟨c0, u, c1, hou⟩ := hsat.below hbi hsblt
              obtain ⟨uo2, uc2, rfl⟩ := hou.shape
              have HStep : Hid (setAt env r.sets q (k + 1) = if (r.sets.getD k st0).var = q then exN (r.sets.getD k st0).val env else setAt env r.sets q k) := rfl
              have HOK2 : Hid (((r.sets.getD k st0).var = q → exC (r.sets.getD k st0).val env = 0) → ∀ j, j < k + 1 → (r.sets.getD j st0).var = q → exC (r.sets.getD j st0).val env = 0) := fun h j hj => by
                by_cases hjk : j = k
                · subst hjk; exact h
                · exact HOKi.out j (by omega)
              have HRk : Hid (exC (r.sets.getD k st0).val env ≠ 0 → res = none) := HRS2.out k hlk
              have hex := HEx.out wr hbi _ _ hou
              generalize exN (r.sets.getD k st0).val env = N at hex HStep
              generalize exC (r.sets.getD k st0).val env = C at hex HRk HOK2
              generalize (r.sets.getD k st0).val.length = ul at hex c1 hou
              generalize (r.sets.getD k st0).var = sv at c0 HStep HOK2
              clear hsat hou HRS2 HEx HS3 HSV2 HRC2 HCo HOKi kr0 kr1 kr2
              by_cases hsv : sv = q
              · have hst : setAt env r.sets q (k + 1) = N := by rw [HStep.out, if_pos hsv]
                have HST : Hid (setAt env r.sets q (k + 1) = N) := hst
                by_cases hC : C = 0
                · have HJ : Hid _ := HOK2.out (fun _ => hC)
                  subst hC hsv
                  clear hst HStep HOK2 HRk
                  go_wp2_with (go_at_call 25; refine hex.mono ?_; rintro e w5 ⟨rfl, hb5⟩)
                  refine ⟨⟨k + 1, hlk, by first | rfl | simp, by rw [HST.out], HJ.out, HBi.out.trans (hb5.mono HBi.out.size)⟩, by simp [intOf]; omega⟩
                · have HRN : Hid (res = none) := HRk.out hC
                  subst hsv
                  clear hst HStep HOK2 HRk
                  go_wp2_with (go_at_call 25; refine hex.mono ?_; rintro e w5 ⟨rfl, hb5⟩)
                  go_ret2
                  exact ⟨by rw [HRN.out]; rfl, HBW3.out.trans ((hbi.trans (hb5.mono hbi.size)).mono HBW3.out.size)⟩
              · have HST : Hid (setAt env r.sets q (k + 1) = setAt env r.sets q k) := by show _ = _; rw [HStep.out, if_neg hsv]
                have HJ : Hid _ := HOK2.out (fun h => absurd h hsv)
                clear HStep HOK2 HRk
                go_wp2_with fail
                refine ⟨⟨k + 1, hlk, by first | rfl | simp, by rw [HST.out], HJ.out, HBi.out⟩, by simp [intOf]; omega⟩
            · have hks : k = sn := by omega
              subst hks
              have hown := HOwn.out
              have hown2 := owns_later hown HBi.out (Nat.le_refl _)
              have hnb := hown.lt
              obtain ⟨oo, oc, rfl⟩ := owns_slice hown
              have HSn : Hid (ivals ((List.range (q + 1)).map (fun i => setAt env r.sets i k)) = ivals ((List.range q).map (fun i => setAt env r.sets i k)) ++ [.int .i64 (setAt env r.sets q k)]) := by
                show _ = _
                simp [ivals, List.range_succ]
              have HOK2 : Hid (∀ j, j < k → (r.sets.getD j st0).var < ((q + 1 : Nat) : Int) → exC (r.sets.getD j st0).val env = 0) := fun j hj h => by
                by_cases hjq : (r.sets.getD j st0).var = q
                · exact HOKi.out j hj hjq
                · exact HOK.out j hj (by omega)
              generalize setAt env r.sets q k = xv at *
              have hown3 := fun o => hown2.alloc o
              have h63 : q + 1 ≤ maxLen := by unfold maxLen; omega
              have hkb : (q + 1) * 8 ≤ 140737488355328 := by omega
              have hbase : ∀ o, w3.heap.size ≤ (wr.alloc o).heap.size := fun o => by have := hbi.size; simp; omega
              clear hown hown2 HRS2 HEx HS3 HSV2 HRC2 HCo HOKi kr0 kr1 kr2
              go_wp2_with (at_builtin; refine wpList_append_own _ rfl (.tmp 94) (.tmp 96) 32 rfl w3.heap.size 3 i0 (.int .i64 0) 1 8 Tryd.underlying32 hi hz0 hz1 hz2 rfl (by decide) _ q _ rfl (hown3 _) ⟨wr.heap.size, 0, none⟩ 1 1 [.int .i64 xv] rfl rfl (cell_one_new _ _ _) (by intro u hu; simp at hu; subst hu; rfl) h63 hkb (hbase _) ?_)
              intro v' w4 hown' hgrow _
              have hb4 : Below w3.heap.size w3 w4 := (hbi.alloc hbi.size _).grown hgrow (hbase _) (fun z hz => (hnb z hz).1)
              have HO4 : Hid (w4.ownsRow w3.heap.size 3 1 v' (q + 1) (ivals ((List.range (q + 1)).map (fun i => setAt env r.sets i k)))) := by
                show World.ownsRow _ _ _ _ _ _ _
                rw [HSn.out]
                exact hown'
              clear hown' hgrow hown3
              go_wp2
              go_roundw
              case rel => exact ⟨q + 1, hlt, by go_num, HOK2, HO4, hb4⟩
              case measure => simp [intOf]; omega
        · have hqn : q = en := by omega
          subst hqn
          have hown := HOwn.out
          rw [HBE.out] at hown
          obtain ⟨oo, oc, rfl⟩ := owns_slice hown
          have hlb : (behindL env r).length = q := by unfold behindL; rw [setTo_length, HEN.out]
          have hI : IntsV wr (.slice oo q oc) (behindL env r) := intsV_of_owns (by rw [hlb]; exact hown)
          have hbw := HBW3.out.trans (hbel.mono HBW3.out.size)
          have hco := HCo.out wr hbw _ _ hI
          have hrc := HRC2.out (fun j hj => HOK.out j (by rw [HSN.out]; exact hj) (HSV2.out j (by rw [HSN.out]; exact hj)).2)
          obtain ⟨kr0, kr1, kr2⟩ := HK3.out wr hbel
          have HBWr : Hid (Below w.heap.size w wr) := hbw
          generalize cval m (behindL env r) = cv at hco hrc
          generalize ccode m (behindL env r) = cc at hco hrc
          obtain ⟨hrc0, hrc1⟩ := hrc
          clear hown hlb hI HCo HRC2 HOK HOwn HI3 HS3 HEx HSV2 HRS2 k30 k31 k32 hbel hbw hlt hq
          by_cases hcc : cc = 0
          · have HRN : Hid (res = some cv) := hrc0 hcc
            subst hcc
            clear hrc0 hrc1
            go_wp2_with (go_at_call 26; refine hco.mono ?_; rintro e w6 ⟨rfl, hb6⟩)
            go_ret2
            exact ⟨by rw [HRN.out]; rfl, HBWr.out.trans (hb6.mono HBWr.out.size)⟩
          · have HRN : Hid (res = none) := hrc1 hcc
            clear hrc0 hrc1
            go_wp2_with (go_at_call 26; refine hco.mono ?_; rintro e w6 ⟨rfl, hb6⟩)
            go_ret2
            exact ⟨by rw [HRN.out]; rfl, HBWr.out.trans (hb6.mono HBWr.out.size)⟩
    · have hrn := HG.out (by rw [hgd]; simp [hn1])
      subst hrn hc0
      clear hgd HGd HRC
      go_wp2_with (go_at_call 25; refine hgu.mono ?_; rintro e w3 ⟨rfl, hb3⟩)
      go_ret2
      exact ⟨rfl, HBW2.out.trans (hb3.mono HBW2.out.size)⟩
  · have hrn := HG.out (by rw [hgd]; simp [hc0])
    subst hrn
    clear hgd HGd HRC
    go_wp2_with (go_at_call 25; refine hgu.mono ?_; rintro e w3 ⟨rfl, hb3⟩)
    go_ret2
    exact ⟨rfl, HBW2.out.trans (hb3.mono HBW2.out.size)⟩

set_option maxHeartbeats 1600000 in
set_option maxRecDepth 20000 in
/-- THE CONTRACT OF AfterRule. -/
theorem rafter_any (va vr : Value) (m : Mo) (code rule : Int) (w : World) (hV : ModelV w va vr m) (hz : m.rules.length ≤ 1000000000000000) :
    Calls Tryd.prog 9 #[.agg #[va, vr], .int .i64 code, .int .i64 rule] w fun e w' => e = .returned (.tuple #[.int .i64 (aftN m code rule), .int .i64 (aftC m code rule)]) ∧ Below w.heap.size w w' := by
  have hA : ∀ o, Below w.heap.size w (w.alloc o) := fun o => (Below.refl _ _).alloc (Nat.le_refl _) o
  by_cases hw : wcode m code = 0
  · by_cases hin : 0 ≤ rule ∧ rule < m.rules.length
    · obtain ⟨k, rfl⟩ : ∃ k : Nat, rule = k := ⟨rule.toNat, by omega⟩
      have h := rafter_in va vr m code k w hV hw (by omega)
      unfold aftN aftC
      rw [if_pos hw, if_pos hw, if_pos hin, if_pos hin, Int.toNat_natCast]
      exact h
    · have hvl := fun o => rvalues_any va vr m code (w.alloc o) (hV.below (hA o))
      rw [hw] at hvl
      unfold aftN aftC
      rw [if_pos hw, if_pos hw, if_neg hin, if_neg hin]
      have hii := fun w => in_any rule 0 (m.rules.length - 1) w
      rw [decide_eq_false (show ¬ (0 ≤ rule ∧ rule ≤ (m.rules.length : Int) - 1) by omega)] at hii
      obtain ⟨ao, cap, rfl⟩ := hV.1.shape
      obtain ⟨ro, rc, rfl⟩ := hV.2.shape
      generalize wvals m code = vals at hvl
      generalize m.vars.length = n at *
      generalize m.rules.length = rn at *
      clear hV hw hin
      go_enter Tryd.func9, Tryd.ntmps9
      go_wp2_with (first | (go_at_call 23; refine (hvl _).mono ?_; rintro e w1 ⟨v, rfl, hb1, hI⟩; have k11 : w1.cell? ⟨w.heap.size, 1, none⟩ = some (.slice ro rn rc) := (hb1.cell (p := ⟨w.heap.size, 1, none⟩) (by simp)).trans (by simp [go_sem])) | (go_at_call 24; refine (hii _).mono ?_; rintro e w9 ⟨rfl, rfl⟩))
      go_ret2
      exact ⟨rfl, (hA _).trans (hb1.mono (hA _).size)⟩
  · have hvl := fun o => rvalues_any va vr m code (w.alloc o) (hV.below (hA o))
    unfold aftN aftC
    rw [if_neg hw, if_neg hw]
    obtain ⟨ao, cap, rfl⟩ := hV.1.shape
    obtain ⟨ro, rc, rfl⟩ := hV.2.shape
    generalize wvals m code = vals at hvl
    generalize wcode m code = c at *
    generalize m.vars.length = n at *
    generalize m.rules.length = rn at *
    clear hV
    go_enter Tryd.func9, Tryd.ntmps9
    go_wp2_with (go_at_call 23; refine (hvl _).mono ?_; rintro e w1 ⟨v, rfl, hb1, hI⟩)
    go_ret2
    exact ⟨rfl, (hA _).trans (hb1.mono (hA _).size)⟩
end Go.Proofs.YtfgadcofijgghaaDoor

/-
  The contract of the laws' own sameOps.
-/
namespace Go.Proofs.YtfgadcofijgghaaDoor
open Go.ChangeShapes Go.WideShapes Go.ChangeAt Go.RowKit Go.Deep
open Terms

set_option maxHeartbeats 800000 in
theorem sameOps_true (va vb : Value) (l : List (Int × Int)) (w : World) (hl : l.length ≤ 140737488355328) (hA : OpsV w va l) (hB : OpsV w vb l) :
    Calls Tryd.prog 27 #[va, vb] w fun e w' => e = .returned (.bool true) ∧ ∃ n, w' = w.drewN n := by
  obtain ⟨ao, ca, rfl, _, ha⟩ := hA
  obtain ⟨bo, cb, rfl, _, hb⟩ := hB
  obtain ⟨n, hn⟩ : ∃ n, l.length = n := ⟨_, rfl⟩
  rw [hn] at hl ⊢
  have HA : Hid (l ≠ [] → ∃ b off, ao = some ⟨b, off, none⟩ ∧ b < w.heap.size ∧ OpsAt w b off l) := ha
  have HB : Hid (l ≠ [] → ∃ b off, bo = some ⟨b, off, none⟩ ∧ b < w.heap.size ∧ OpsAt w b off l) := hb
  have HN : Hid (l.length = n) := hn
  clear ha hb hn
  go_enter Tryd.func27, Tryd.ntmps27
  go_wp2
  go_loopw [5] (fun i wr => ∃ k : Nat, k ≤ n ∧ i = .int .i64 k ∧ ∃ q, wr = w.drewN q) (fun i _ => n - (intOf i).toNat)
  case atStart => exact ⟨0, Nat.zero_le _, rfl, 0, rfl⟩
  case round =>
    obtain ⟨k, hk, rfl, q, rfl⟩ := hrel
    by_cases hlt : k < n
    · have hne : l ≠ [] := by intro h; subst h; have := HN.out; simp at this; omega
      obtain ⟨b, off, rfl, _, hca⟩ := HA.out hne
      obtain ⟨b', off', rfl, _, hcb⟩ := HB.out hne
      obtain ⟨c1, d1⟩ := hca k (by rw [HN.out]; exact hlt)
      obtain ⟨c2, d2⟩ := hcb k (by rw [HN.out]; exact hlt)
      generalize (l.getD k (0, 0)).1 = x at c1 c2
      generalize (l.getD k (0, 0)).2 = y at d1 d2
      clear hca hcb hne
      go_wp2_with fail
      go_quiet (fail)
      go_wp2_with fail
      go_roundw
      case rel => exact ⟨k + 1, by omega, by go_num, _, rfl⟩
      case measure => simp [intOf]; omega
    · go_wp2_with fail
      go_ret
      exact ⟨rfl, q, rfl⟩
theorem sameOps_b (va vb : Value) (l : List (Int × Int)) (w : World) (hl : l.length ≤ 140737488355328) (hA : OpsV w va l) (hB : OpsV w vb l) :
    Calls Tryd.prog 27 #[va, vb] w fun e w' => e = .returned (.bool true) ∧ Below w.heap.size w w' :=
  (sameOps_true va vb l w hl hA hB).mono fun _ _ ⟨he, _, hw⟩ => ⟨he, hw ▸ below_drewN (Below.refl _ _) _⟩
end Go.Proofs.YtfgadcofijgghaaDoor

/-
  The contract of the laws' own sameModel, at two models that hold the same.
-/
namespace Go.Proofs.YtfgadcofijgghaaDoor
open Go.ChangeShapes Go.WideShapes Go.ChangeAt Go.RowKit Go.Deep
open Terms Tm

set_option maxHeartbeats 3200000 in
set_option maxRecDepth 20000 in
theorem sameModel_b (va vr va' vr' : Value) (m : Mo) (w : World) (hZ : MoSz m) (hV : ModelV w va vr m) (hV' : ModelV w va' vr' m) :
    Calls Tryd.prog 10 #[.agg #[va, vr], .agg #[va', vr']] w fun e w' => e = .returned (.bool true) ∧ Below w.heap.size w w' := by
  obtain ⟨hz1, hz2, hz3⟩ := hZ
  obtain ⟨ao, cap, rfl⟩ := hV.1.shape
  obtain ⟨ro, rc, rfl⟩ := hV.2.shape
  obtain ⟨ao', cap', rfl⟩ := hV'.1.shape
  obtain ⟨ro', rc', rfl⟩ := hV'.2.shape
  obtain ⟨vs, l⟩ := m
  simp only at *
  have HVs : Hid (VarsV w (.slice ao vs.length cap) vs ∧ VarsV w (.slice ao' vs.length cap') vs) := ⟨hV.1, hV'.1⟩
  have HRs : Hid (RulesV w (.slice ro l.length rc) l ∧ RulesV w (.slice ro' l.length rc') l) := ⟨hV.2, hV'.2⟩
  have HZ := (show Hid _ from hz3)
  obtain ⟨n, hn⟩ : ∃ n, n = vs.length := ⟨_, rfl⟩
  have HN : Hid (n = vs.length) := hn
  obtain ⟨rn, hrn⟩ : ∃ rn, rn = l.length := ⟨_, rfl⟩
  have HRN : Hid (rn = l.length) := hrn
  rw [← hn] at hz1 HVs ⊢
  rw [← hrn] at hz2 HRs ⊢
  obtain ⟨W2, hW2⟩ : ∃ W2, W2 = (w.alloc (.cells #[.slice ao n cap, .slice ro rn rc] 25)).alloc (.cells #[.slice ao' n cap', .slice ro' rn rc'] 25) := ⟨_, rfl⟩
  have hA : Below w.heap.size w W2 := by rw [hW2]; exact ((Below.refl _ _).alloc (Nat.le_refl _) _).alloc (by simp) _
  have hs2 : W2.heap.size = w.heap.size + 2 := by rw [hW2]; simp
  have hbx : W2.cell? ⟨w.heap.size, 0, none⟩ = some (.slice ao n cap) ∧ W2.cell? ⟨w.heap.size, 1, none⟩ = some (.slice ro rn rc) ∧ W2.cell? ⟨w.heap.size + 1, 0, none⟩ = some (.slice ao' n cap') ∧ W2.cell? ⟨w.heap.size + 1, 1, none⟩ = some (.slice ro' rn rc') := by
    rw [hW2]; refine ⟨?_, ?_, ?_, ?_⟩ <;> simp [go_sem]
  obtain ⟨b0, b1, b2, b3⟩ := hbx
  have HW2 : Hid (W2 = (w.alloc (.cells #[.slice ao n cap, .slice ro rn rc] 25)).alloc (.cells #[.slice ao' n cap', .slice ro' rn rc'] 25)) := hW2
  clear hV hV' hn hrn hz3 hW2
  go_enter Tryd.func10, Tryd.ntmps10
  go_wp2
  rw [← HW2.out]
  go_loopw [5] (fun i wr => ∃ k : Nat, k ≤ n ∧ i = .int .i64 k ∧ ∃ d, wr = W2.drewN d) (fun i _ => n - (intOf i).toNat)
  case atStart => exact ⟨0, Nat.zero_le _, rfl, 0, rfl⟩
  case round =>
    obtain ⟨k, hk, rfl, d, rfl⟩ := hrel
    by_cases hlt : k < n
    · obtain ⟨b, off, rfl, hblt, hat⟩ := HVs.out.1.at (i := k) (by rw [← HN.out]; exact hlt)
      obtain ⟨b', off', rfl, hblt', hat'⟩ := HVs.out.2.at (i := k) (by rw [← HN.out]; exact hlt)
      obtain ⟨c0, c1, c2, c3⟩ := hat.below hA hblt
      obtain ⟨e0, e1, e2, e3⟩ := hat'.below hA hblt'
      generalize vs.getD k vr0 = x at *
      obtain ⟨s, lo, hi, ini⟩ := x
      simp only at c0 c1 c2 c3 e0 e1 e2 e3
      have hi0 : (0 : Int) ≤ (k : Int) := Int.natCast_nonneg _
      have hi1 : (k : Int) < (n : Int) := by omega
      clear hat hat'
      go_wp2_with fail
      go_quiet (fail)
      go_wp2_with fail
      go_roundw
      case rel => exact ⟨k + 1, hlt, by go_num, _, rfl⟩
      case measure => simp [intOf]; omega
    · have hke : k = n := by omega
      go_wp2_with fail
      clear HVs hke hlt hk
      go_loopw [6] (fun i wr => ∃ k : Nat, k ≤ rn ∧ i = .int .i64 k ∧ Below W2.heap.size W2 wr) (fun i _ => rn - (intOf i).toNat)
      case atStart => exact ⟨0, Nat.zero_le _, rfl, below_drewN (Below.refl _ _) _⟩
      case round =>
        obtain ⟨k, hk, rfl, hbel⟩ := hrel
        have hbw := hA.trans (hbel.mono hA.size)
        have hlb : w.heap.size < wr.heap.size := by have := hbel.size; omega
        have hlb1 : w.heap.size + 1 < wr.heap.size := by have := hbel.size; omega
        have d1 := (hbel.cell (p := ⟨w.heap.size, 1, none⟩) (by simp only; omega)).trans b1
        have d3 := (hbel.cell (p := ⟨w.heap.size + 1, 1, none⟩) (by simp only; omega)).trans b3
        by_cases hlt : k < rn
        · obtain ⟨b, off, rfl, hblt, ⟨u, c0', hO⟩, sv, c1', hS⟩ := HRs.out.1.at (i := k) (by rw [← HRN.out]; exact hlt)
          obtain ⟨b', off', rfl, hblt', ⟨u', e0', hO'⟩, sv', e1', hS'⟩ := HRs.out.2.at (i := k) (by rw [← HRN.out]; exact hlt)
          obtain ⟨hgz, hsz2, hsz3⟩ := HZ.out k (by rw [← HRN.out]; exact hlt)
          generalize l.getD k ru0 = r at *
          obtain ⟨gd, ss⟩ := r
          simp only at hO hO' hS hS' hgz hsz2 hsz3
          obtain ⟨ua, uc, rfl⟩ := hO.shape
          obtain ⟨ua', uc', rfl⟩ := hO'.shape
          obtain ⟨sa, sc, rfl⟩ := hS.shape
          obtain ⟨sa', sc', rfl⟩ := hS'.shape
          have c0 := (hbw.cell (p := ⟨b, off + k * 2, none⟩) hblt).trans c0'
          have c1 := (hbw.cell (p := ⟨b, off + k * 2 + 1, none⟩) hblt).trans c1'
          have e0 := (hbw.cell (p := ⟨b', off' + k * 2, none⟩) hblt').trans e0'
          have e1 := (hbw.cell (p := ⟨b', off' + k * 2 + 1, none⟩) hblt').trans e1'
          have hbo' : b' < wr.heap.size := by omega
          have HSs : Hid (SetsV w (.slice sa ss.length sc) ss ∧ SetsV w (.slice sa' ss.length sc') ss) := ⟨hS, hS'⟩
          have HZ3 := (show Hid _ from hsz3)
          have hsg := (fun w4 (hb : Below w.heap.size w w4) => sameOps_true _ _ gd w4 (by omega) (hO.below hb) (hO'.below hb))
          generalize gd.length = gn at *
          obtain ⟨sn, hsn⟩ : ∃ sn, sn = ss.length := ⟨_, rfl⟩
          have HSN : Hid (sn = ss.length) := hsn
          rw [← hsn] at hsz2 HSs c1 e1
          clear hO hO' hS hS' c0' c1' e0' e1' hsn hsz3 HRs
          obtain ⟨W4, hW4⟩ : ∃ W4, W4 = (wr.alloc (.cells #[.slice ua gn uc, .slice sa sn sc] 50)).alloc (.cells #[.slice ua' gn uc', .slice sa' sn sc'] 50) := ⟨_, rfl⟩
          have hA4 : Below W2.heap.size W2 W4 := by rw [hW4]; exact (hbel.alloc (by have := hbel.size; omega) _).alloc (by have := hbel.size; simp; omega) _
          have hbw4 := hA.trans (hA4.mono hA.size)
          have hx4 : W4.cell? ⟨wr.heap.size, 1, none⟩ = some (.slice sa sn sc) ∧ W4.cell? ⟨wr.heap.size + 1, 1, none⟩ = some (.slice sa' sn sc') := by rw [hW4]; refine ⟨?_, ?_⟩ <;> simp [go_sem]
          obtain ⟨x1, y1⟩ := hx4
          have HW4 : Hid (W4 = (wr.alloc (.cells #[.slice ua gn uc, .slice sa sn sc] 50)).alloc (.cells #[.slice ua' gn uc', .slice sa' sn sc'] 50)) := hW4
          rw [hW4] at hbw4
          have hsg2 := hsg _ hbw4
          rw [← hW4] at hbw4
          have HBW4 : Hid (Below w.heap.size w W4) := hbw4
          have HA4 : Hid (Below W2.heap.size W2 W4) := hA4
          clear hW4 hsg hbw4 hA4
          go_wp2_with (go_at_call 27; refine hsg2.mono ?_; rintro e w5 ⟨rfl, d5, rfl⟩)
          rw [← HW4.out]
          clear hsg2 c0 c1 e0 e1 HW4
          generalize wr = wo at *
          go_loopw [9] (fun i wr => ∃ q : Nat, q ≤ sn ∧ i = .int .i64 q ∧ ∃ d, wr = W4.drewN d) (fun i _ => sn - (intOf i).toNat)
          case atStart => exact ⟨0, Nat.zero_le _, rfl, _, rfl⟩
          case round =>
            obtain ⟨q, hq, rfl, d, hd⟩ := hrel
            have HD : Hid (wr = W4.drewN d) := hd
            have hbr : Below w.heap.size w wr := by rw [hd]; exact below_drewN HBW4.out _
            have x2 : wr.cell? ⟨wo.heap.size, 1, none⟩ = some (.slice sa sn sc) := by rw [hd]; simpa using x1
            have y2 : wr.cell? ⟨wo.heap.size + 1, 1, none⟩ = some (.slice sa' sn sc') := by rw [hd]; simpa using y1
            clear hd
            by_cases hqs : q < sn
            · obtain ⟨sb, soff, rfl, hsb, f0', uu, f1', hOu⟩ := HSs.out.1.at (i := q) (by rw [← HSN.out]; exact hqs)
              obtain ⟨sb', soff', rfl, hsb', g0', uu', g1', hOu'⟩ := HSs.out.2.at (i := q) (by rw [← HSN.out]; exact hqs)
              have hvz := HZ3.out q (by rw [← HSN.out]; exact hqs)
              generalize ss.getD q st0 = x at *
              obtain ⟨y, val⟩ := x
              simp only [StSz] at f0' hOu hvz g0' hOu'
              obtain ⟨va2, vc2, rfl⟩ := hOu.shape
              obtain ⟨va2', vc2', rfl⟩ := hOu'.shape
              have f0 := (hbr.cell (p := ⟨sb, soff + q * 2, none⟩) hsb).trans f0'
              have f1 := (hbr.cell (p := ⟨sb, soff + q * 2 + 1, none⟩) hsb).trans f1'
              have g0 := (hbr.cell (p := ⟨sb', soff' + q * 2, none⟩) hsb').trans g0'
              have g1 := (hbr.cell (p := ⟨sb', soff' + q * 2 + 1, none⟩) hsb').trans g1'
              have hso := (fun w4 (hb : Below w.heap.size w w4) => sameOps_true _ _ val w4 (by omega) (hOu.below hb) (hOu'.below hb))
              generalize val.length = vl at *
              have hi0 : (0 : Int) ≤ (q : Int) := Int.natCast_nonneg _
              have hi1 : (q : Int) < (sn : Int) := by omega
              have hso2 := fun n => hso (wr.drewN n) (below_drewN hbr _)
              clear hOu hOu' f0' f1' g0' g1' hso
              go_wp2_with fail
              go_quiet ((go_at_call 27; exact Calls.quiet_of (hso2 _)))
              go_wp2_with fail
              go_roundw
              case rel => exact ⟨q + 1, hqs, by go_num, d + nq, by rw [HD.out, World.drewN_drewN]⟩
              case measure => simp [intOf]; omega
            · go_wp2_with fail
              go_roundw
              case rel => exact ⟨k + 1, hlt, by go_num, by rw [HD.out]; exact below_drewN HA4.out _⟩
              case measure => simp [intOf]; omega
        · go_wp2_with fail
          go_ret
          exact ⟨rfl, hbw⟩
end Go.Proofs.YtfgadcofijgghaaDoor
