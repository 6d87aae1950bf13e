/-
  Joined out of Eval2, MCount, MCode, StepRule, MValues, StepAfter, StepLetter, MFirst, PBegin, RefAhead, RefCount, RefCode, RefFirst, RefWorked, RefEval, in their order: a claim bears at most so many files.
-/
import Derived.Test.YtdlpmomohbdpgaaDoorLateA
import Derived.Test.YtdlpmomohbdpgaaDoorMCheck2
import Derived.Test.YtdlpmomohbdpgaaDoorIntsOf
import Derived.Deep.RegionHeld3
import Derived.Test.YtdlpmomohbdpgaaDoorMProps
import Derived.Test.YtdlpmomohbdpgaaDoorPSurv
import Derived.Test.YtdlpmomohbdpgaaDoorRefLook
import Derived.Test.YtdlpmomohbdpgaaDoorLogicRead
import Derived.Test.YtdlpmomohbdpgaaDoorRefModel
import Derived.Test.YtdlpmomohbdpgaaDoorRefExpr2
/-
  The contract of expr.Eval, where Check says yes.
-/
namespace Go.Proofs.YtdlpmomohbdpgaaDoor
open Go.ChangeShapes Go.WideShapes Go.ChangeAt Go.RowKit Go.Deep
open Terms Tm

/-- the values, as they lie. -/
def EnvAt (w : World) (eao : Option Addr) (env : List Int) : Prop := ∀ i, i < env.length → ∃ eb eoff, eao = some ⟨eb, eoff, none⟩ ∧ eb < w.heap.size ∧ w.cell? ⟨eb, eoff + i, none⟩ = some (.int .i64 (env.getD i 0))
theorem EnvAt.later {w w' : World} {eao : Option Addr} {env : List Int} (h : EnvAt w eao env) (hb : Below w.heap.size w w') : EnvAt w' eao env := fun i hi => by
  obtain ⟨eb, eoff, e1, e2, e3⟩ := h i hi
  exact ⟨eb, eoff, e1, Nat.lt_of_lt_of_le e2 hb.size, (hb.cell (p := ⟨eb, eoff + i, none⟩) e2).trans e3⟩

def evalPost (env : List Int) (t : Tm) (w : World) (e : Ending) (w' : World) : Prop :=
  e = .returned (.tuple #[.int .i64 (if envBad env = true then 0 else match t.eval env with | some x => x | none => 0), .int .i64 (if envBad env = true then 2 else match t.eval env with | some _ => 0 | none => 8)]) ∧ Below w.heap.size w w'

set_option maxHeartbeats 3200000 in
theorem eval_yes (b off n cap : Nat) (eao : Option Addr) (en ecap : Nat) (t : Tm) (env : List Int) (w : World) (hn : n = t.size) (h60 : n ≤ 60) (hen : en = env.length) (hen6 : en ≤ 6) (hg : t.Good env.length) (hty : t.typed = true) (hbB : b < w.heap.size) (hA : OpsAt w b off t.ops) (hE : EnvAt w eao env)
    (heo : Calls Tryd.prog 74 #[.slice (some ⟨b, off, none⟩) n cap, .int .i64 en] (e0 w) fun e w' => Below (e0 w).heap.size (e0 w) w' ∧ ∃ B, (e0 w).heap.size ≤ B ∧ e = .returned (.tuple #[.slice (some ⟨B, 0, none⟩) n n, .int .i64 0]) ∧ w'.rowIs B 3 n (fun q => .int .i64 (endAt (t.ops.map Prod.fst) q))) :
    Calls Tryd.prog 58 #[.slice (some ⟨b, off, none⟩) n cap, .slice eao en ecap] w (evalPost env t w) := by
  have hmf := hmakeFunc
  have HE : Hid (EnvAt w eao env) := hE
  have HA : Hid (OpsAt w b off t.ops) := hA
  have HN : Hid (n = t.size ∧ t.Good env.length ∧ t.typed = true ∧ en = env.length) := ⟨hn, hg, hty, hen⟩
  have hn1 : 0 < n := by rw [hn]; exact t.size_pos
  have hzs : (e0 w).heap.size = w.heap.size + 1 + 1 := by simp [e0]
  clear hE hA hn hg hty hen
  go_enter_defers Tryd.func58, Tryd.ntmps58
  go_wp2_with (go_at_call 74; refine heo.mono ?_; rintro e w2 ⟨hb2, B, hBw, rfl, hrow⟩; obtain ⟨c0, c1, f0, f1, hsz, hbw⟩ := e0_cells w hb2)
  obtain ⟨W3, hW3⟩ : ∃ W3, W3 = w2.setCell ⟨w.heap.size + 1, 0, none⟩ (.int .i64 0) := ⟨_, rfl⟩
  have hb3 : Below w.heap.size w W3 := by rw [hW3]; exact hbw.setCell (p := ⟨w.heap.size + 1, 0, none⟩) (by simp) _
  have d0 : W3.cell? ⟨w.heap.size, 0, none⟩ = some (.int .i64 0) := by rw [hW3]; simp [go_sem, c0]
  have d1 : W3.cell? ⟨w.heap.size + 1, 0, none⟩ = some (.int .i64 0) := by rw [hW3]; simp [go_sem, c1]
  have g0 : W3.frozen? ⟨w.heap.size, 0, none⟩ = false := by rw [hW3]; simp [go_sem, f0]
  have g1 : W3.frozen? ⟨w.heap.size + 1, 0, none⟩ = false := by rw [hW3]; simp [go_sem, f1]
  have hrow3 : W3.rowIs B 3 n (fun q => .int .i64 (endAt (t.ops.map Prod.fst) q)) := by rw [hW3]; exact hrow.setOther (by simp; omega) _
  have hsz3 : w.heap.size + 1 < W3.heap.size := by rw [hW3]; simpa using hsz
  have HW3 := (show Hid _ from hW3)
  have HR : Hid (W3.rowIs B 3 n (fun q => .int .i64 (endAt (t.ops.map Prod.fst) q))) := hrow3
  rw [← hW3]
  clear hW3 hrow3 hrow heo hb2 c0 c1 f0 f1 hsz hbw HW3
  go_loop [23] (fun c => ∃ i : Nat, i ≤ en ∧ c = .int .i64 i ∧ Hid (∀ j, j < i → -1000000 ≤ env.getD j 0 ∧ env.getD j 0 ≤ 1000000)) (fun c => en - (intOf c).toNat)
  case atStart => exact ⟨0, Nat.zero_le _, rfl, fun j hj => by omega⟩
  case round =>
    obtain ⟨i, hi, rfl, HJ⟩ := hrel
    by_cases hlt : i < en
    · obtain ⟨eb, eoff, rfl, e2, e3⟩ := (HE.out.later hb3) i (by rw [← HN.out.2.2.2]; exact hlt)
      have htg := fun w => tooGreat_any (env.getD i 0) w
      by_cases hz : -1000000 ≤ env.getD i 0 ∧ env.getD i 0 ≤ 1000000
      · rw [show decide (¬ (-1000000 ≤ env.getD i 0 ∧ env.getD i 0 ≤ 1000000)) = false by simpa using hz] at htg
        have HJ2 : Hid (∀ j, j < i + 1 → -1000000 ≤ env.getD j 0 ∧ env.getD j 0 ≤ 1000000) := fun j hj => by
          by_cases hji : j < i
          · exact HJ.out j hji
          · obtain rfl : j = i := by omega
            exact hz
        clear hz
        generalize env.getD i 0 = x at e3 htg
        go_wp2_with (go_at_call 75; refine (htg _).mono ?_; rintro e w5 ⟨rfl, rfl⟩)
        go_round
        case rel => exact ⟨i + 1, by omega, by go_num, HJ2⟩
        case measure => simp [intOf]; omega
      · have HX : Hid (envBad env = true) := envBad_at (by rw [← HN.out.2.2.2]; exact hlt) hz
        generalize env.getD i 0 = x at e3 htg hz
        rw [show decide (¬ (-1000000 ≤ x ∧ x ≤ 1000000)) = true by simp; omega] at htg
        clear hz
        go_wp2_with (go_at_call 75; refine (htg _).mono ?_; rintro e w5 ⟨rfl, rfl⟩)
        refine leaves_cons (f := 73) (args := #[.pointer (some ⟨w.heap.size, 0, none⟩), .pointer (some ⟨w.heap.size + 1, 0, none⟩)]) (by simp) (by simp [go_sem]) ?_
        refine (ecatch_idle w.heap.size _).mono ?_
        rintro e u' w'' ⟨rfl, rfl, rfl⟩
        simp [Leaves, settle, results, Tryd.results58, go_sem, d0, d1]
        unfold evalPost
        rw [if_pos HX.out, if_pos HX.out]
        exact ⟨rfl, (hb3.setCell (p := ⟨w.heap.size, 0, none⟩) (Nat.le_refl _) _).setCell (p := ⟨w.heap.size + 1, 0, none⟩) (by simp) _⟩
    · have hin : i = en := by omega
      subst hin
      have hok : envBad env = false := envBad_ok (fun j hj => HJ.out j (by rw [HN.out.2.2.2]; exact hj))
      have HX : Hid (envBad env = false) := hok
      have hpm := pairMakers_any W3
      clear hlt hi
      go_wp2_with (go_at_call 76; refine hpm.mono ?_; rintro e W4 ⟨M, hM, rfl, hpa, hb4⟩)
      have hb5 : Below W3.heap.size W3 (W4.alloc (.cells #[.slice (some ⟨b, off, none⟩) n cap, .slice (some ⟨B, 0, none⟩) n n, .slice eao i ecap, .map (some M)] 118)) := hb4.alloc hb4.size _
      have hpa5 : PairsAt (W4.alloc (.cells #[.slice (some ⟨b, off, none⟩) n cap, .slice (some ⟨B, 0, none⟩) n n, .slice eao i ecap, .map (some M)] 118)) M := World.ownsMap.alloc hpa _
      have hwk : WorkAt (W4.alloc (.cells #[.slice (some ⟨b, off, none⟩) n cap, .slice (some ⟨B, 0, none⟩) n n, .slice eao i ecap, .map (some M)] 118)) b off B eao M t env := by
        have hbb := hb3.trans (hb5.mono hb3.size)
        refine ⟨Nat.lt_of_lt_of_le hbB hbb.size, HA.out.below hbb hbB, ?_, HE.out.later hbb, hpa5⟩
        have hr := HR.out
        rw [HN.out.1] at hr
        exact hr.of_block (hb5.block B hr.lt)
      generalize W4.alloc (.cells #[.slice (some ⟨b, off, none⟩) n cap, .slice (some ⟨B, 0, none⟩) n n, .slice eao i ecap, .map (some M)] 118) = W5 at *
      have hat := at_any b off n cap B eao i ecap M env.length t env HN.out.1 h60 HN.out.2.1 HN.out.2.2.1 (envBad_false hok) rfl HN.out.2.2.2 t.size 0 W5 hn1 (by rw [sub_zero]; omega) hwk
      rw [sub_zero] at hat
      have hs3 := hb3.size
      have hs5 := hb5.size
      clear hwk hpa hpa5 hok hpm hb4 HR
      cases hx : t.eval env with
      | none =>
        rw [hx] at hat
        have HXN : Hid (t.eval env = none) := hx
        clear hx
        refine hat.mono ?_
        rintro e w6 ⟨hb6, rfl⟩
        have hb36 := hb5.trans (hb6.mono hb5.size)
        have k0 := (hb36.cell (p := ⟨w.heap.size, 0, none⟩) (by simp only; omega)).trans d0
        have k1 := (hb36.cell (p := ⟨w.heap.size + 1, 0, none⟩) (by simp only; omega)).trans d1
        have z0 := (hb36.frozen (p := ⟨w.heap.size, 0, none⟩) (by simp only; omega)).trans g0
        have z1 := (hb36.frozen (p := ⟨w.heap.size + 1, 0, none⟩) (by simp only; omega)).trans g1
        have hbf := hb3.trans (hb36.mono hb3.size)
        refine leaves_cons (f := 73) (args := #[.pointer (some ⟨w.heap.size, 0, none⟩), .pointer (some ⟨w.heap.size + 1, 0, none⟩)]) (by simp) (by simp [go_sem]) ?_
        refine (ecatch_panicking w.heap.size 8 _ _ w6 k0 k1 z0 z1).mono ?_
        rintro e u' w'' ⟨rfl, rfl, rfl⟩
        simp [Leaves, settle, results, Tryd.results58, go_sem, k0, k1]
        unfold evalPost
        rw [if_neg (by rw [HX.out]; simp), if_neg (by rw [HX.out]; simp), HXN.out]
        exact ⟨rfl, (((hbf.setCell (p := ⟨w.heap.size, 0, none⟩) (Nat.le_refl _) _).setCell (p := ⟨w.heap.size + 1, 0, none⟩) (by simp) _)).drew⟩
      | some x =>
        rw [hx] at hat
        have HXN : Hid (t.eval env = some x) := hx
        clear hx
        refine hat.mono ?_
        rintro e w6 ⟨hb6, rfl⟩
        have hb36 := hb5.trans (hb6.mono hb5.size)
        have k0 := (hb36.cell (p := ⟨w.heap.size, 0, none⟩) (by simp only; omega)).trans d0
        have k1 := (hb36.cell (p := ⟨w.heap.size + 1, 0, none⟩) (by simp only; omega)).trans d1
        have z0 := (hb36.frozen (p := ⟨w.heap.size, 0, none⟩) (by simp only; omega)).trans g0
        have z1 := (hb36.frozen (p := ⟨w.heap.size + 1, 0, none⟩) (by simp only; omega)).trans g1
        have hbf := hb3.trans (hb36.mono hb3.size)
        clear d0 d1 g0 g1 hat
        go_wp2_with fail
        refine leaves_cons (f := 73) (args := #[.pointer (some ⟨w.heap.size, 0, none⟩), .pointer (some ⟨w.heap.size + 1, 0, none⟩)]) (by simp) (by simp [go_sem]) ?_
        refine (ecatch_idle w.heap.size _).mono ?_
        rintro e u' w'' ⟨rfl, rfl, rfl⟩
        simp [Leaves, settle, results, Tryd.results58, go_sem, k0, k1]
        unfold evalPost
        rw [if_neg (by rw [HX.out]; simp), if_neg (by rw [HX.out]; simp), HXN.out]
        exact ⟨rfl, (hbf.setCell (p := ⟨w.heap.size, 0, none⟩) (Nat.le_refl _) _).setCell (p := ⟨w.heap.size + 1, 0, none⟩) (by simp) _⟩

theorem IntsV.env {w : World} {v : Value} {env : List Int} (h : IntsV w v env) : ∃ eao ecap, v = .slice eao env.length ecap ∧ EnvAt w eao env := by
  obtain ⟨ao, cap, rfl, h⟩ := h
  refine ⟨ao, cap, rfl, fun i hi => ?_⟩
  obtain ⟨b, off, rfl, hlt, hat⟩ := h (by intro h; subst h; simp at hi)
  exact ⟨b, off, rfl, hlt, hat i hi⟩

/-- THE CONTRACT OF expr.Eval. -/
theorem eval_any (v ev : Value) (l : List (Int × Int)) (env : List Int) (t : Tm) (w : World) (hB : 0 < w.heap.size) (hT : TabAt w) (hV : OpsV w v l) (hE : IntsV w ev env) (ht : endsCode (l.map Prod.fst) = 0 → t.Wf ∧ t.ops = l) :
    Calls Tryd.prog 58 #[v, ev] w fun e w' => e = .returned (.tuple #[.int .i64 (evalN l t env), .int .i64 (evalC l t env)]) ∧ Below w.heap.size w w' := by
  have hb0 := e0_below w
  have heo := eo_any v l env.length t (e0 w) (Nat.lt_of_lt_of_le hB hb0.size) (hT.below hb0 hB) (hV.below hb0) ht
  obtain ⟨eao, ecap, rfl, hEA⟩ := hE.env
  by_cases hx : xcode env.length l t = 0
  · obtain ⟨h0, h6, hops, hg, htt, h60⟩ := xcode_zero hx ht
    subst hops
    obtain ⟨ao, cap, rfl, _, h⟩ := hV
    obtain ⟨b, off, rfl, hlt, hat⟩ := h t.ops_ne
    refine (eval_yes b off _ cap eao _ ecap t env w t.ops_length (by rw [ops_length]; exact h60) rfl (by omega) hg htt hlt hat hEA (heo.mono fun e w' ⟨h1, _, h3⟩ => ⟨h1, ?_⟩)).mono fun e w' ⟨h1, h2⟩ => ⟨?_, h2⟩
    · obtain ⟨B, p1, p2, p3⟩ := h3 hx
      exact ⟨B, p1, p2, p3⟩
    · rw [h1]
      simp only [evalN, evalC, hx, ne_eq, not_true_eq_false, if_false]
      all_goals (cases t.eval env <;> rfl)
  · obtain ⟨ao, cap, rfl, _, h⟩ := hV
    refine (eval_no ao _ cap eao _ ecap _ w hx (heo.mono fun e w' ⟨h1, h2, _⟩ => ⟨h2 hx, h1⟩)).mono fun e w' ⟨h1, h2⟩ => ⟨?_, h2⟩
    rw [h1]
    unfold evalN evalC
    rw [if_pos hx, if_pos hx]
end Go.Proofs.YtdlpmomohbdpgaaDoor

/-
  The contracts of the program's countOf, Count.
-/
namespace Go.Proofs.YtdlpmomohbdpgaaDoor
open Go.ChangeShapes Go.WideShapes Go.ChangeAt Go.RowKit Go.Deep
open Terms Tm

set_option maxRecDepth 20000 in
set_option maxHeartbeats 1600000 in
theorem countOf_any (va : Value) (l : List Vr) (w : World) (hok : VarsOk l) (hV : VarsV w va l) :
    Calls Tryd.prog 57 #[va] w fun e w' => e = .returned (.int .i64 (prodTo l l.length)) ∧ Below w.heap.size w w' := by
  obtain ⟨ao, cap, rfl⟩ := hV.shape
  have HV : Hid (VarsV w (.slice ao l.length cap) l) := hV
  have HOK : Hid (VarsOk l) := hok
  have h6 := hok.1
  obtain ⟨n, hn⟩ : ∃ n, n = l.length := ⟨_, rfl⟩
  have HN : Hid (n = l.length) := hn
  rw [← hn] at h6 HV ⊢
  clear hV hn hok
  go_enter Tryd.func57, Tryd.ntmps57
  go_wp2
  go_loopw [3, 8] (fun st i wr => ∃ k : Nat, k ≤ n ∧ i = .int .i64 k ∧ st = .int .i64 (prodTo l k) ∧ Below w.heap.size w wr) (fun _ i _ => n - (intOf i).toNat)
  case atStart => exact ⟨0, Nat.zero_le _, rfl, rfl, Below.refl _ _⟩
  case round =>
    obtain ⟨k, hk, rfl, rfl, hbel⟩ := hrel
    by_cases hlt : k < n
    · obtain ⟨b, off, rfl, hblt, hat⟩ := HV.out.at (i := k) (by rw [← HN.out]; exact hlt)
      obtain ⟨c0, c1, c2, c3⟩ := hat.below hbel hblt
      have hpb := HOK.out.prod (j := k) (by rw [← HN.out]; exact hk)
      have hvb := HOK.out.at (j := k) (by rw [← HN.out]; exact hlt)
      have HPr : Hid (prodTo l (k + 1) = prodTo l k * vspan (l.getD k vr0)) := rfl
      generalize prodTo l k = st at *
      generalize l.getD k vr0 = x at *
      obtain ⟨s, lo, hi, ini⟩ := x
      simp only [vspan] at c0 c1 c2 c3 HPr hvb
      obtain ⟨hv1, hv2, hv3, hv4, hv5, hv6, hv7⟩ := hvb
      have hsp := fun w => span_any s lo hi ini w hv3 hv4 hv5
      obtain ⟨sp, hspe⟩ : ∃ sp, hi - lo + 1 = sp := ⟨_, rfl⟩
      rw [hspe] at hv1 hv2 hsp HPr
      clear hspe hat
      have hm1 : 1 ≤ st * sp := by have := Int.mul_le_mul hpb.1 hv1 (by omega) (by omega); simpa using this
      have hm2 : st * sp ≤ 262144 := by have := Int.mul_le_mul hpb.2 hv2 (by omega) (by omega); simpa using this
      have hbA := hbel.alloc hbel.size (.cells #[.string s, .int .i64 lo, .int .i64 hi, .int .i64 ini] 70)
      go_wp2_with (go_at_call 56; refine (hsp _).mono ?_; rintro e w3 ⟨rfl, hb3⟩)
      go_roundw
      case rel => exact ⟨k + 1, hlt, by go_num, by rw [HPr.out], hbA.trans (hb3.mono hbA.size)⟩
      case measure => simp [intOf]; omega
    · have hkn : k = n := by omega
      subst hkn
      go_wp2
      go_ret
      exact ⟨rfl, hbel⟩

end Go.Proofs.YtdlpmomohbdpgaaDoor

/-
  The contracts of the program's codeOf, Code.
-/
namespace Go.Proofs.YtdlpmomohbdpgaaDoor
open Go.ChangeShapes Go.WideShapes Go.ChangeAt Go.RowKit Go.Deep
open Terms Tm

set_option maxRecDepth 20000 in
set_option maxHeartbeats 1600000 in
theorem codeOf_any (va vv : Value) (l : List Vr) (vals : List Int) (w : World) (hok : VarsOk l) (hlen : vals.length = l.length) (hin : ∀ i, i < l.length → inB l vals i) (hV : VarsV w va l) (hI : IntsV w vv vals) :
    Calls Tryd.prog 36 #[va, vv] w fun e w' => e = .returned (.int .i64 (codeTo l vals l.length)) ∧ Below w.heap.size w w' := by
  obtain ⟨ao, cap, rfl⟩ := hV.shape
  obtain ⟨io, icap, rfl⟩ := hI.shape
  have HV : Hid (VarsV w (.slice ao l.length cap) l) := hV
  have HI : Hid (IntsV w (.slice io vals.length icap) vals) := hI
  have HOK : Hid (VarsOk l) := hok
  have HIN : Hid (∀ i, i < l.length → inB l vals i) := hin
  have HLen : Hid (vals.length = l.length) := hlen
  have h6 := hok.1
  obtain ⟨n, hn⟩ : ∃ n, n = l.length := ⟨_, rfl⟩
  have HN : Hid (n = l.length) := hn
  rw [hlen, ← hn] at HI
  rw [hlen, ← hn]
  rw [← hn] at h6 HV
  clear hV hI hn hok hin hlen
  go_enter Tryd.func36, Tryd.ntmps36
  go_wp2
  go_loopw [5, 10] (fun st i wr => ∃ k : Nat, k ≤ n ∧ i = .int .i64 k ∧ st = .int .i64 (codeTo l vals k) ∧ Below w.heap.size w wr) (fun _ i _ => n - (intOf i).toNat)
  case atStart => exact ⟨0, Nat.zero_le _, rfl, rfl, Below.refl _ _⟩
  case round =>
    obtain ⟨k, hk, rfl, rfl, hbel⟩ := hrel
    by_cases hlt : k < n
    · obtain ⟨b, off, rfl, hblt, hat⟩ := HV.out.at (i := k) (by rw [← HN.out]; exact hlt)
      obtain ⟨ib, ioff, rfl, hilt, hic⟩ := HI.out.at (i := k) (by rw [HLen.out, ← HN.out]; exact hlt)
      obtain ⟨c0, c1, c2, c3⟩ := hat.below hbel hblt
      have hic2 := (hbel.cell (p := ⟨ib, ioff + k, none⟩) hilt).trans hic
      have hcb := code_bounds HOK.out (k := k) (by rw [← HN.out]; exact hk) (fun i hi => HIN.out i (by rw [← HN.out]; omega))
      have hpb := HOK.out.prod (j := k) (by rw [← HN.out]; exact hk)
      have hvb := HOK.out.at (j := k) (by rw [← HN.out]; exact hlt)
      have hxb := HIN.out k (by rw [← HN.out]; exact hlt)
      have HPr : Hid (codeTo l vals (k + 1) = codeTo l vals k * vspan (l.getD k vr0) + (vals.getD k 0 - (l.getD k vr0).lo)) := rfl
      unfold inB at hxb
      generalize codeTo l vals k = st at *
      generalize prodTo l k = pr at *
      generalize l.getD k vr0 = x at *
      generalize vals.getD k 0 = y at *
      obtain ⟨s, lo, hi, ini⟩ := x
      simp only [vspan] at c0 c1 c2 c3 HPr hvb hxb
      obtain ⟨hv1, hv2, hv3, hv4, hv5, hv6, hv7⟩ := hvb
      have hsp := fun w => span_any s lo hi ini w hv3 hv4 hv5
      obtain ⟨sp, hspe⟩ : ∃ sp, hi - lo + 1 = sp := ⟨_, rfl⟩
      rw [hspe] at hv1 hv2 hsp HPr
      clear hspe hat hic
      have hm1 : 0 ≤ st * sp := Int.mul_nonneg hcb.1 (by omega)
      have hm2 : st * sp ≤ 262144 := by
        have h1 : st ≤ 4096 := by omega
        have := Int.mul_le_mul h1 hv2 (by omega) (by omega); simpa using this
      have hw1 : IntKind.i64.wrap (st * sp) = st * sp := wr64 (by omega) (by omega)
      have hw2 : IntKind.i64.wrap (st * sp + y) = st * sp + y := wr64 (by omega) (by omega)
      have hw3 : IntKind.i64.wrap (st * sp + y - lo) = st * sp + y - lo := wr64 (by omega) (by omega)
      have hszw := hbel.size
      have hbA := hbel.alloc hszw (.cells #[.string s, .int .i64 lo, .int .i64 hi, .int .i64 ini] 70)
      have hic3 := (((Below.refl wr.heap.size wr).alloc (Nat.le_refl _) (.cells #[.string s, .int .i64 lo, .int .i64 hi, .int .i64 ini] 70)).cell (p := ⟨ib, ioff + k, none⟩) (by simp only; omega)).trans hic2
      have hi0 : (0 : Int) ≤ (k : Int) := Int.natCast_nonneg _
      have hi1 : (k : Int) < (n : Int) := by omega
      have hS0 : ∀ w', Below (wr.heap.size + 1) (wr.alloc (.cells #[.string s, .int .i64 lo, .int .i64 hi, .int .i64 ini] 70)) w' → w'.cell? ⟨wr.heap.size, 0, none⟩ = some (.string s) ∧ w'.cell? ⟨wr.heap.size, 1, none⟩ = some (.int .i64 lo) ∧ w'.cell? ⟨wr.heap.size, 2, none⟩ = some (.int .i64 hi) ∧ w'.cell? ⟨wr.heap.size, 3, none⟩ = some (.int .i64 ini) ∧ w'.cell? ⟨ib, ioff + k, none⟩ = some (.int .i64 y) := fun w' hw' =>
        ⟨(hw'.cell (p := ⟨wr.heap.size, 0, none⟩) (by simp)).trans (by simp [go_sem]), (hw'.cell (p := ⟨wr.heap.size, 1, none⟩) (by simp)).trans (by simp [go_sem]), (hw'.cell (p := ⟨wr.heap.size, 2, none⟩) (by simp)).trans (by simp [go_sem]), (hw'.cell (p := ⟨wr.heap.size, 3, none⟩) (by simp)).trans (by simp [go_sem]), (hw'.cell (p := ⟨ib, ioff + k, none⟩) (by simp only; omega)).trans hic3⟩
      have hB0 : Below (wr.heap.size + 1) (wr.alloc (.cells #[.string s, .int .i64 lo, .int .i64 hi, .int .i64 ini] 70)) (wr.alloc (.cells #[.string s, .int .i64 lo, .int .i64 hi, .int .i64 ini] 70)) := Below.refl _ _
      clear hic3 hic2
      go_wp2_with fail
      go_region_held3 (fun w' => w'.cell? ⟨wr.heap.size, 0, none⟩ = some (.string s) ∧ w'.cell? ⟨wr.heap.size, 1, none⟩ = some (.int .i64 lo) ∧ w'.cell? ⟨wr.heap.size, 2, none⟩ = some (.int .i64 hi) ∧ w'.cell? ⟨wr.heap.size, 3, none⟩ = some (.int .i64 ini) ∧ w'.cell? ⟨ib, ioff + k, none⟩ = some (.int .i64 y))
        (exact hS0 _ (by first | exact hB0 | exact hB0.drew | exact hB0.drew.trans (hb2.mono (by simp))))
        (first | (go_at_call 56; refine (hsp _).mono ?_; rintro e w2 ⟨rfl, hb2⟩))
      go_wp2_with fail
      go_roundw
      case rel => exact ⟨k + 1, hlt, by go_num, by rw [HPr.out]; first | (congr 1; omega) | (simp [hw1, hw2, hw3]; omega), hbA.drew.trans (hb2.mono (by simp; omega))⟩
      case measure => simp [intOf]; omega
    · have hkn : k = n := by omega
      subst hkn
      go_wp2
      go_ret
      exact ⟨rfl, hbel⟩
end Go.Proofs.YtdlpmomohbdpgaaDoor

/-
  The contracts of package step's inner functions: holds, withoutRules, doRule.
-/
namespace Go.Proofs.YtdlpmomohbdpgaaDoor
open Go.ChangeShapes Go.WideShapes Go.ChangeAt Go.RowKit Go.Deep
open Terms Tm

/-- THE CONTRACT OF expr.Eval, in the step's words. -/
theorem ex_any (v ev : Value) (l : List (Int × Int)) (env : List Int) (w : World) (hB : 0 < w.heap.size) (hT : TabAt w) (hV : OpsV w v l) (hE : IntsV w ev env) :
    Calls Tryd.prog 58 #[v, ev] w fun e w' => e = .returned (.tuple #[.int .i64 (exN l env), .int .i64 (exC l env)]) ∧ Below w.heap.size w w' :=
  eval_any v ev l env (treeOf l) w hB hT hV hE (treeOf_spec l)

set_option maxHeartbeats 800000 in
/-- THE CONTRACT OF holds. -/
theorem sholds_any (v ev : Value) (l : List (Int × Int)) (env : List Int) (w : World) (hB : 0 < w.heap.size) (hT : TabAt w) (hV : OpsV w v l) (hE : IntsV w ev env) :
    Calls Tryd.prog 39 #[v, ev] w fun e w' => e = .returned (.bool (holdsB l env)) ∧ Below w.heap.size w w' := by
  have hx := ex_any v ev l env w hB hT hV hE
  unfold holdsB
  generalize exN l env = n at hx ⊢
  generalize exC l env = c at hx ⊢
  clear hV hE hT
  go_enter Tryd.func39, Tryd.ntmps39
  go_wp2_with (go_at_call 58; refine hx.mono ?_; rintro e w1 ⟨rfl, hb1⟩)
  all_goals go_ret
  all_goals exact ⟨by first | (simp [*]; done) | (simp [*]; by_cases h1 : n = 1 <;> simp [h1]), hb1⟩

/-- THE CONTRACT OF withoutRules. -/
theorem bare_any (ao ro : Option Addr) (n cap rn rc : Nat) (w : World) :
    Calls Tryd.prog 38 #[.agg #[.slice ao n cap, .slice ro rn rc]] w fun e w' => e = .returned (.agg #[.slice ao n cap, .slice none 0 0]) ∧ Below w.heap.size w w' := by
  go_enter Tryd.func38, Tryd.ntmps38
  go_wp2_with fail
  exact bodyPost_ret (v := .agg #[.slice ao n cap, .slice none 0 0]) (by simp [results, Tryd.results38, go_sem]) rfl ⟨rfl, ((Below.refl _ _).alloc (Nat.le_refl _) _).alloc (by simp) _⟩

end Go.Proofs.YtdlpmomohbdpgaaDoor

/-
  The contract of the program's Values.
-/
namespace Go.Proofs.YtdlpmomohbdpgaaDoor
open Go.ChangeShapes Go.WideShapes Go.ChangeAt Go.RowKit Go.Deep
open Terms Tm

set_option maxRecDepth 20000 in
set_option maxHeartbeats 1600000 in
theorem mvalues_loop (va vr : Value) (m : Mo) (code : Int) (w : World) (hB : 0 < w.heap.size) (hT : TabAt w) (hV : ModelV w va vr m) (h : mcode m = 0) (hc : 0 ≤ code ∧ code < prodTo m.vars m.vars.length) :
    Calls Tryd.prog 37 #[.agg #[va, vr], .int .i64 code] w fun e w' => ∃ B, e = .returned (.tuple #[.slice (some ⟨B, 0, none⟩) m.vars.length m.vars.length, .int .i64 0]) ∧ w.heap.size ≤ B ∧ Below w.heap.size w w' ∧ w'.rowIs B 3 m.vars.length (fun j => .int .i64 (valAt m.vars code j)) := by
  have hA : ∀ o, Below w.heap.size w (w.alloc o) := fun o => (Below.refl _ _).alloc (Nat.le_refl _) o
  have hch := fun o => mcheck_any va vr m (w.alloc o) (Nat.lt_of_lt_of_le hB (hA o).size) (hT.below (hA o) hB) (hV.below (hA o))
  rw [h] at hch
  have hok := mcode_vars h
  have HOK : Hid (VarsOk m.vars) := hok
  have h6 := hok.1
  have hcf := (fun w1 (hb : Below w.heap.size w w1) => countOf_any va m.vars w1 hok (hV.1.below hb))
  obtain ⟨ao, cap, rfl⟩ := hV.1.shape
  obtain ⟨ro, rc, rfl⟩ := hV.2.shape
  have HV : Hid (VarsV w (.slice ao m.vars.length cap) m.vars) := hV.1
  have hN := hok.prod (j := m.vars.length) (Nat.le_refl _)
  have HS0 : Hid (segP m.vars m.vars.length = 1) := segP_end _
  obtain ⟨hc1, hc2⟩ := hc
  generalize prodTo m.vars m.vars.length = N at *
  obtain ⟨n, hn⟩ : ∃ n, n = m.vars.length := ⟨_, rfl⟩
  have HN : Hid (n = m.vars.length) := hn
  rw [← hn] at h6 hch hcf HV HS0 ⊢
  generalize m.rules.length = rn at *
  have hmk := run_make_row' (P := Tryd.prog) 54 3 (.int .i64 0) 8 Tryd.underlying54 infoInt rfl .i64 .i64 n (by omega) (by omega)
  clear hV hT hn hok h
  go_enter Tryd.func37, Tryd.ntmps37
  go_wp2_with (first | (go_at_call 35; refine (hch _).mono ?_; rintro e w1 ⟨rfl, hb1⟩; have hcb : w1.cell? ⟨w.heap.size, 0, none⟩ = some (.slice ao n cap) := (hb1.cell (p := ⟨w.heap.size, 0, none⟩) (by simp)).trans (by simp [go_sem]); have hbw := (hA _).trans (hb1.mono (hA _).size); have hs1 : w.heap.size < w1.heap.size := (by have := hb1.size; simp at this; omega)) | (go_at_call 57; refine (hcf _ hbw).mono ?_; rintro e w2 ⟨rfl, hb2⟩; have hcb2 := (hb2.cell (p := ⟨w.heap.size, 0, none⟩) hs1).trans hcb))
  have hbw2 := hbw.trans (hb2.mono hbw.size)
  have hrow0 := World.rowIs_made w2 (.int .i64 0) n 3
  have hs2 := Nat.lt_of_lt_of_le hs1 hb2.size
  have HB2 : Hid (Below w.heap.size w w2) := hbw2
  have hcb3 := hcb2
  clear hch hcf hmk hb1 hb2 hcb hbw hs1 hbw2 hcb2
  go_loopw [1, 8] (fun cd i wr => ∃ k : Nat, k ≤ n ∧ i = .int .i64 ((k : Int) - 1) ∧ cd = .int .i64 (code / segP m.vars k) ∧ Hid (wr.rowIs w2.heap.size 3 n (fun j => if k ≤ j then .int .i64 (valAt m.vars code j) else .int .i64 0)) ∧ Hid (Below w2.heap.size w2 wr)) (fun _ i _ => (intOf i + 1).toNat)
  case atStart => exact ⟨n, Nat.le_refl _, by first | rfl | go_num, by rw [HS0.out]; simp, hrow0.congr (fun i hi => by rw [if_neg (by omega)]), (Below.refl _ _).alloc (Nat.le_refl _) _⟩
  case round =>
    obtain ⟨k, hk, rfl, rfl, HRow, HBel⟩ := hrel
    have hbel := HBel.out
    have hrow := HRow.out
    have hbw := HB2.out.trans (hbel.mono HB2.out.size)
    have hszr := hrow.lt
    have cb := (hbel.cell (p := ⟨w.heap.size, 0, none⟩) hs2).trans hcb3
    by_cases hk0 : 0 < k
    · obtain ⟨k, rfl⟩ : ∃ k', k = k' + 1 := ⟨k - 1, by omega⟩
      rw [show (((k + 1 : Nat) : Int) - 1) = (k : Int) by omega]
      have hlt : k < n := by omega
      obtain ⟨b, off, rfl, hblt, hat⟩ := HV.out.at (i := k) (by rw [← HN.out]; exact hlt)
      obtain ⟨c0, c1, c2, c3⟩ := hat.below hbw hblt
      have hvb := HOK.out.at (j := k) (by rw [← HN.out]; exact hlt)
      have hsg := segP_bounds HOK.out (i := k + 1) (by rw [← HN.out]; exact hlt)
      have HQ : Hid (code / segP m.vars (k + 1) / vspan (m.vars.getD k vr0) = code / segP m.vars k) := quo_step HOK.out code (by rw [← HN.out]; exact hlt)
      have HVa : Hid (valAt m.vars code k = (m.vars.getD k vr0).lo + (code / segP m.vars (k + 1)) % vspan (m.vars.getD k vr0)) := rfl
      have hq0 : 0 ≤ code / segP m.vars (k + 1) := Int.ediv_nonneg hc1 (by omega)
      have hq1 : code / segP m.vars (k + 1) ≤ 4096 := by
        have := Int.ediv_le_self (segP m.vars (k + 1)) hc1; omega
      have hf : wr.frozen? ⟨w2.heap.size, k, none⟩ = false := hrow.frozen k
      have hcl : wr.cell? ⟨w2.heap.size, k, none⟩ = some (.int .i64 0) := by rw [hrow.cell hlt, if_neg (by omega)]
      generalize code / segP m.vars (k + 1) = cd at *
      generalize m.vars.getD k vr0 = x at *
      obtain ⟨s, lo, hi, ini⟩ := x
      simp only [vspan] at c0 c1 c2 c3 HQ HVa hvb
      obtain ⟨hv1, hv2, hv3, hv4, hv5, hv6, hv7⟩ := hvb
      have hsp := fun w => span_any s lo hi ini w hv3 hv4 hv5
      obtain ⟨sp, hspe⟩ : ∃ sp, hi - lo + 1 = sp := ⟨_, rfl⟩
      rw [hspe] at hv1 hv2 hsp HQ HVa
      clear hspe hat
      have hr0 := Int.emod_nonneg cd (show sp ≠ 0 by omega)
      have hr1 := Int.emod_lt_of_pos cd (show 0 < sp by omega)
      have hi0 : (0 : Int) ≤ (k : Int) := Int.natCast_nonneg _
      have hi1 : (k : Int) < (n : Int) := by omega
      have hsz0 : ¬ sp = 0 := by omega
      have hsz1 : (sp == 0) = false := by rw [beq_eq_false_iff_ne]; omega
      have ht : cd.tmod sp = cd % sp := Int.tmod_eq_emod_of_nonneg hq0
      have htd : cd.tdiv sp = cd / sp := Int.tdiv_eq_ediv_of_nonneg hq0
      have hd0 := Int.ediv_nonneg hq0 (show 0 ≤ sp by omega)
      have hd1 := Int.ediv_le_self sp hq0
      have hw0 : IntKind.i64.wrap (cd % sp) = cd % sp := wr64 (by omega) (by omega)
      have hw1 : IntKind.i64.wrap (lo + cd % sp) = lo + cd % sp := wr64 (by omega) (by omega)
      have hbA := hbel.alloc (Nat.le_of_lt hszr) (.cells #[.string s, .int .i64 lo, .int .i64 hi, .int .i64 ini] 70)
      have HBA := (show Hid _ from hbA)
      have hfA := hrow.alloc (.cells #[.string s, .int .i64 lo, .int .i64 hi, .int .i64 ini] 70)
      have HRA := (show Hid _ from hfA)
      have hS0 : ∀ w', Below (wr.heap.size + 1) (wr.alloc (.cells #[.string s, .int .i64 lo, .int .i64 hi, .int .i64 ini] 70)) w' → w'.cell? ⟨wr.heap.size, 0, none⟩ = some (.string s) ∧ w'.cell? ⟨wr.heap.size, 1, none⟩ = some (.int .i64 lo) ∧ w'.cell? ⟨wr.heap.size, 2, none⟩ = some (.int .i64 hi) ∧ w'.cell? ⟨wr.heap.size, 3, none⟩ = some (.int .i64 ini) := fun w' hw' =>
        ⟨(hw'.cell (p := ⟨wr.heap.size, 0, none⟩) (by simp)).trans (by simp [go_sem]), (hw'.cell (p := ⟨wr.heap.size, 1, none⟩) (by simp)).trans (by simp [go_sem]), (hw'.cell (p := ⟨wr.heap.size, 2, none⟩) (by simp)).trans (by simp [go_sem]), (hw'.cell (p := ⟨wr.heap.size, 3, none⟩) (by simp)).trans (by simp [go_sem])⟩
      have hne : ∀ j : Nat, (⟨wr.heap.size, j, none⟩ : Addr) ≠ ⟨w2.heap.size, k, none⟩ := fun j h => by injection h with h1; omega
      have hS1 : ∀ w' v, Below (wr.heap.size + 1) (wr.alloc (.cells #[.string s, .int .i64 lo, .int .i64 hi, .int .i64 ini] 70)) w' → (w'.setCell ⟨w2.heap.size, k, none⟩ v).cell? ⟨wr.heap.size, 0, none⟩ = some (.string s) ∧ (w'.setCell ⟨w2.heap.size, k, none⟩ v).cell? ⟨wr.heap.size, 1, none⟩ = some (.int .i64 lo) ∧ (w'.setCell ⟨w2.heap.size, k, none⟩ v).cell? ⟨wr.heap.size, 2, none⟩ = some (.int .i64 hi) ∧ (w'.setCell ⟨w2.heap.size, k, none⟩ v).cell? ⟨wr.heap.size, 3, none⟩ = some (.int .i64 ini) := fun w' v hw' => by
        obtain ⟨a0, a1, a2, a3⟩ := hS0 w' hw'
        exact ⟨(World.cell?_setCell_other _ _ _ _ (hne 0).symm).trans a0, (World.cell?_setCell_other _ _ _ _ (hne 1).symm).trans a1, (World.cell?_setCell_other _ _ _ _ (hne 2).symm).trans a2, (World.cell?_setCell_other _ _ _ _ (hne 3).symm).trans a3⟩
      have hB0 : Below (wr.heap.size + 1) (wr.alloc (.cells #[.string s, .int .i64 lo, .int .i64 hi, .int .i64 ini] 70)) (wr.alloc (.cells #[.string s, .int .i64 lo, .int .i64 hi, .int .i64 ini] 70)).drew := (Below.refl _ _).drew
      have hrw := fun w' (hw' : Below (wr.heap.size + 1) (wr.alloc (.cells #[.string s, .int .i64 lo, .int .i64 hi, .int .i64 ini] 70)) w') => hfA.of_block (hw'.block w2.heap.size (by omega))
      have hcf3 : ∀ w', Below (wr.heap.size + 1) (wr.alloc (.cells #[.string s, .int .i64 lo, .int .i64 hi, .int .i64 ini] 70)) w' → w'.frozen? ⟨w2.heap.size, k, none⟩ = false ∧ w'.cell? ⟨w2.heap.size, k, none⟩ = some (.int .i64 0) := fun w' hw' => ⟨(hrw w' hw').frozen k, by rw [(hrw w' hw').cell hlt, if_neg (by omega)]⟩
      have HRw := (show Hid _ from hrw)
      clear hfA hbA hrw hbel hrow hbw
      go_wp2_with fail
      go_region_held3 (fun w' => w'.cell? ⟨wr.heap.size, 0, none⟩ = some (.string s) ∧ w'.cell? ⟨wr.heap.size, 1, none⟩ = some (.int .i64 lo) ∧ w'.cell? ⟨wr.heap.size, 2, none⟩ = some (.int .i64 hi) ∧ w'.cell? ⟨wr.heap.size, 3, none⟩ = some (.int .i64 ini))
        (first | exact hS0 _ hB0 | exact hS0 _ (hB0.trans (hb3.mono (by simp))) | exact hS1 _ _ (hB0.trans (hb3.mono (by simp))))
        (first | (go_at_call 56; refine (hsp _).mono ?_; rintro e w3 ⟨rfl, hb3⟩; obtain ⟨hf3, hc3⟩ := hcf3 _ (hB0.trans (hb3.mono (by simp)))))
      have hB3 := hB0.trans (hb3.mono (by simp))
      obtain ⟨e0, e1, e2, e3⟩ := hS1 w3 (.int .i64 (lo + cd % sp)) hB3
      have hs3 : wr.heap.size < w3.heap.size := by have := hb3.size; simp at this; omega
      have hrow4 : ∀ w4, Below w3.heap.size (w3.setCell ⟨w2.heap.size, k, none⟩ (.int .i64 (lo + cd % sp))) w4 → w4.rowIs w2.heap.size 3 n (fun j => if k ≤ j then .int .i64 (valAt m.vars code j) else .int .i64 0) ∧ Below w2.heap.size w2 w4 := fun w4 h4 => by
        refine ⟨(((HRw.out w3 hB3).set k (.int .i64 (lo + cd % sp))).of_block (h4.block w2.heap.size (by omega))).congr fun j hj => ?_, ?_⟩
        · by_cases hjk : j = k
          · subst hjk; rw [if_pos rfl, if_pos (Nat.le_refl _), HVa.out]
          · rw [if_neg hjk]
            by_cases hkj : k + 1 ≤ j
            · rw [if_pos hkj, if_pos (by omega)]
            · rw [if_neg hkj, if_neg (by omega)]
        · exact ((HBA.out.trans (hB3.mono (by omega))).setCell (by simp) _).trans (h4.mono (by omega))
      have HR4 := (show Hid _ from hrow4)
      clear hrow4 hf hcl hf3 hc3 hcf3 hS0 hS1
      go_wp2_with (go_at_call 56; refine (hsp _).mono ?_; rintro e w4 ⟨rfl, hb4⟩)
      have hb4' : Below w3.heap.size (w3.setCell ⟨w2.heap.size, k, none⟩ (.int .i64 (lo + cd % sp))) w4 := hb4.mono (by simp)
      go_roundw
      case rel => exact ⟨k, by omega, by first | rfl | go_num, by rw [← HQ.out], (HR4.out _ hb4').1, (HR4.out _ hb4').2⟩
      case measure => simp [intOf]
    · have hk0 : k = 0 := by omega
      subst hk0
      go_wp2
      go_ret2
      exact ⟨w2.heap.size, rfl, HB2.out.size, hbw, hrow.congr (fun i hi => by rw [if_pos (by omega)])⟩
set_option maxRecDepth 20000 in
theorem mvalues_bad (va vr : Value) (m : Mo) (code : Int) (w : World) (hB : 0 < w.heap.size) (hT : TabAt w) (hV : ModelV w va vr m) (h : mcode m ≠ 0) :
    Calls Tryd.prog 37 #[.agg #[va, vr], .int .i64 code] w fun e w' => e = .returned (.tuple #[.slice none 0 0, .int .i64 (mcode m)]) ∧ Below w.heap.size w w' := by
  have hA : ∀ o, Below w.heap.size w (w.alloc o) := fun o => (Below.refl _ _).alloc (Nat.le_refl _) o
  have hch := fun o => mcheck_any va vr m (w.alloc o) (Nat.lt_of_lt_of_le hB (hA o).size) (hT.below (hA o) hB) (hV.below (hA o))
  obtain ⟨ao, cap, rfl⟩ := hV.1.shape
  obtain ⟨ro, rc, rfl⟩ := hV.2.shape
  generalize mcode m = x at *
  generalize m.vars.length = n at *
  generalize m.rules.length = rn at *
  clear hV hT
  go_enter Tryd.func37, Tryd.ntmps37
  go_wp2_with (go_at_call 35; refine (hch _).mono ?_; rintro e w1 ⟨rfl, hb1⟩)
  go_ret2
  exact ⟨rfl, (hA _).trans (hb1.mono (hA _).size)⟩
set_option maxRecDepth 20000 in
theorem mvalues_no (va vr : Value) (m : Mo) (code : Int) (w : World) (hB : 0 < w.heap.size) (hT : TabAt w) (hV : ModelV w va vr m) (h : mcode m = 0) (hc : ¬ (0 ≤ code ∧ code < prodTo m.vars m.vars.length)) :
    Calls Tryd.prog 37 #[.agg #[va, vr], .int .i64 code] w fun e w' => e = .returned (.tuple #[.slice none 0 0, .int .i64 9]) ∧ Below w.heap.size w w' := by
  have hA : ∀ o, Below w.heap.size w (w.alloc o) := fun o => (Below.refl _ _).alloc (Nat.le_refl _) o
  have hch := fun o => mcheck_any va vr m (w.alloc o) (Nat.lt_of_lt_of_le hB (hA o).size) (hT.below (hA o) hB) (hV.below (hA o))
  rw [h] at hch
  have hok := mcode_vars h
  have hcf := (fun w1 (hb : Below w.heap.size w w1) => countOf_any va m.vars w1 hok (hV.1.below hb))
  obtain ⟨ao, cap, rfl⟩ := hV.1.shape
  obtain ⟨ro, rc, rfl⟩ := hV.2.shape
  have hN := hok.prod (j := m.vars.length) (Nat.le_refl _)
  generalize prodTo m.vars m.vars.length = N at *
  generalize m.vars.length = n at *
  generalize m.rules.length = rn at *
  clear hV hT hok h
  by_cases h0 : code < 0
  · clear hc
    go_enter Tryd.func37, Tryd.ntmps37
    go_wp2_with (go_at_call 35; refine (hch _).mono ?_; rintro e w1 ⟨rfl, hb1⟩)
    go_ret2
    exact ⟨rfl, (hA _).trans (hb1.mono (hA _).size)⟩
  · have h1 : N ≤ code := by omega
    clear hc
    go_enter Tryd.func37, Tryd.ntmps37
    go_wp2_with (first | (go_at_call 35; refine (hch _).mono ?_; rintro e w1 ⟨rfl, hb1⟩; have hcb : w1.cell? ⟨w.heap.size, 0, none⟩ = some (.slice ao n cap) := (hb1.cell (p := ⟨w.heap.size, 0, none⟩) (by simp)).trans (by simp [go_sem]); have hbw := (hA _).trans (hb1.mono (hA _).size)) | (go_at_call 57; refine (hcf _ hbw).mono ?_; rintro e w2 ⟨rfl, hb2⟩))
    go_ret2
    exact ⟨rfl, hbw.trans (hb2.mono hbw.size)⟩

set_option maxRecDepth 20000 in
/-- THE CONTRACT OF Values. -/
theorem mvalues_any (va vr : Value) (m : Mo) (code : Int) (w : World) (hB : 0 < w.heap.size) (hT : TabAt w) (hV : ModelV w va vr m) :
    Calls Tryd.prog 37 #[.agg #[va, vr], .int .i64 code] w fun e w' => ∃ v, e = .returned (.tuple #[v, .int .i64 (wcode m code)]) ∧ Below w.heap.size w w' ∧ IntsV w' v (wvals m code) := by
  by_cases h : mcode m = 0
  · by_cases hc : 0 ≤ code ∧ code < prodTo m.vars m.vars.length
    · have h0 := wcode_yes h hc
      unfold wvals
      rw [h0, if_pos rfl]
      exact (mvalues_loop va vr m code w hB hT hV h hc).mono fun e w' ⟨B, he, _, hb, hr⟩ => ⟨_, he, hb, intsV_of_row hr⟩
    · have h0 := wcode_no h hc
      unfold wvals
      rw [h0, if_neg (by decide)]
      exact (mvalues_no va vr m code w hB hT hV h hc).mono fun e w' ⟨he, hb⟩ => ⟨_, he, hb, none, 0, rfl, fun h => absurd rfl h⟩
  · have h0 := wcode_bad (code := code) h
    unfold wvals
    rw [h0, if_neg h]
    exact (mvalues_bad va vr m code w hB hT hV h).mono fun e w' ⟨he, hb⟩ => ⟨_, he, hb, none, 0, rfl, fun h => absurd rfl h⟩
end Go.Proofs.YtdlpmomohbdpgaaDoor

/-
  The contract of step.After.
-/
namespace Go.Proofs.YtdlpmomohbdpgaaDoor
open Go.ChangeShapes Go.WideShapes Go.ChangeAt Go.RowKit Go.Deep
open Terms Tm

/-- what After answers. -/
noncomputable def aftN (m : Mo) (code rule : Int) : Int := if wcode m code = 0 then (if 0 ≤ rule ∧ rule < m.rules.length then optN (ruleDo m.vars (valsL m.vars code) (m.rules.getD rule.toNat ru0)) else 0) else 0
noncomputable def aftC (m : Mo) (code rule : Int) : Int := if wcode m code = 0 then (if 0 ≤ rule ∧ rule < m.rules.length then optC (ruleDo m.vars (valsL m.vars code) (m.rules.getD rule.toNat ru0)) else 2) else wcode m code
theorem wcode_zero {m : Mo} {code : Int} (h : wcode m code = 0) : mcode m = 0 ∧ 0 ≤ code ∧ code < prodTo m.vars m.vars.length := by
  unfold wcode at h
  split at h
  · rename_i h1
    split at h
    · rename_i h2; exact ⟨h1, h2⟩
    · cases h
  · rename_i h1; exact absurd h h1
/-- THE CONTRACT OF Values, where there are some: a block of their own. -/
theorem svalues_any (va vr : Value) (m : Mo) (code : Int) (w : World) (hB : 0 < w.heap.size) (hT : TabAt w) (hV : ModelV w va vr m) (h : wcode m code = 0) :
    Calls Tryd.prog 37 #[.agg #[va, vr], .int .i64 code] w fun e w' => ∃ B, e = .returned (.tuple #[.slice (some ⟨B, 0, none⟩) (valsL m.vars code).length (valsL m.vars code).length, .int .i64 0]) ∧ w.heap.size ≤ B ∧ Below w.heap.size w w' ∧ w'.rowIs B 3 (valsL m.vars code).length (fun j => .int .i64 ((valsL m.vars code).getD j 0)) := by
  obtain ⟨h1, h2⟩ := wcode_zero h
  refine (mvalues_loop va vr m code w hB hT hV h1 h2).mono fun e w' ⟨B, he, hl, hb, hr⟩ => ?_
  rw [← valsL_length m.vars code] at he hr
  refine ⟨B, he, hl, hb, hr.congr fun j hj => ?_⟩
  rw [valsL_length] at hj
  simp [valsL, List.getD_eq_getElem?_getD, hj]

end Go.Proofs.YtdlpmomohbdpgaaDoor

/-
  The contract of step.Letter.
-/
namespace Go.Proofs.YtdlpmomohbdpgaaDoor
open Go.ChangeShapes Go.WideShapes Go.ChangeAt Go.RowKit Go.Deep
open Terms Tm

/-- what Letter answers. -/
noncomputable def letC (m : Mo) (ps : List (List (Int × Int))) (code : Int) : Int := if pcode m ps = 0 then wcode m code else pcode m ps
noncomputable def letL (m : Mo) (ps : List (List (Int × Int))) (code : Int) : List Bool := if letC m ps code = 0 then ps.map (fun p => holdsB p (valsL m.vars code)) else []
theorem pcode_m {m : Mo} {ps : List (List (Int × Int))} (h : pcode m ps = 0) : mcode m = 0 ∧ ps.length ≤ 6 := by
  unfold pcode at h
  split at h
  · rename_i h1
    split at h
    · simp at h
    · exact ⟨h1, by omega⟩
  · rename_i h1; exact absurd h h1
theorem wcode_bare {m : Mo} (code : Int) (h : mcode m = 0) : wcode ⟨m.vars, []⟩ code = wcode m code := by
  unfold wcode
  rw [if_pos h, if_pos (mcode_bare h)]

set_option maxHeartbeats 3200000 in
set_option maxRecDepth 20000 in
/-- THE CONTRACT OF Letter. -/
theorem letter_any (va vr pv : Value) (m : Mo) (ps : List (List (Int × Int))) (code : Int) (w : World) (hB : 0 < w.heap.size) (hT : TabAt w) (hV : ModelV w va vr m) (hP : TermsV w pv ps) :
    Calls Tryd.prog 21 #[.agg #[va, vr], pv, .int .i64 code] w fun e w' => ∃ v, e = .returned (.tuple #[v, .int .i64 (letC m ps code)]) ∧ Below w.heap.size w w' ∧ BoolsV w' v (letL m ps code) := by
  have hA : ∀ o, Below w.heap.size w (w.alloc o) := fun o => (Below.refl _ _).alloc (Nat.le_refl _) o
  have hpr := fun o => mprops_any va vr pv m ps (w.alloc o) (Nat.lt_of_lt_of_le hB (hA o).size) (hT.below (hA o) hB) (hV.below (hA o)) (hP.below (hA o))
  obtain ⟨ao, cap, rfl⟩ := hV.1.shape
  obtain ⟨ro, rc, rfl⟩ := hV.2.shape
  obtain ⟨po, pc, rfl, hPa⟩ := hP
  have hba := fun w => bare_any ao ro m.vars.length cap m.rules.length rc w
  by_cases hp : pcode m ps = 0
  · obtain ⟨hm, hp6⟩ := pcode_m hp
    rw [hp] at hpr
    have hVb : ∀ w', Below w.heap.size w w' → ModelV w' (.slice ao m.vars.length cap) (.slice none 0 0) ⟨m.vars, []⟩ := fun w' hb => ⟨hV.1.below hb, ⟨none, 0, rfl, ⟨by simp, fun _ => ⟨rfl, rfl⟩⟩, fun h => by simp at h⟩⟩
    by_cases hw : wcode m code = 0
    · have hlc : letC m ps code = 0 := by unfold letC; rw [if_pos hp, hw]
      have hll : letL m ps code = ps.map (fun p => holdsB p (valsL m.vars code)) := by unfold letL; rw [if_pos hlc]
      rw [hlc, hll]
      have hvl := fun w' (hb : Below w.heap.size w w') => svalues_any _ _ ⟨m.vars, []⟩ code w' (Nat.lt_of_lt_of_le hB hb.size) (hT.below hb hB) (hVb w' hb) (by rw [wcode_bare _ hm]; exact hw)
      have hvl2 : ∀ w', Below w.heap.size w w' → Calls Tryd.prog 37 #[.agg #[.slice ao m.vars.length cap, .slice none 0 0], .int .i64 code] w' fun e w2 => ∃ B, e = .returned (.tuple #[.slice (some ⟨B, 0, none⟩) (valsL m.vars code).length (valsL m.vars code).length, .int .i64 0]) ∧ w'.heap.size ≤ B ∧ Below w'.heap.size w' w2 ∧ w2.rowIs B 3 (valsL m.vars code).length (fun j => .int .i64 ((valsL m.vars code).getD j 0)) := hvl
      generalize valsL m.vars code = env at hvl2 ⊢
      have HHo : Hid (∀ w' (_ : Below w.heap.size w w') v ev l, OpsV w' v l → IntsV w' ev env → Calls Tryd.prog 39 #[v, ev] w' fun e w2 => e = .returned (.bool (holdsB l env)) ∧ Below w'.heap.size w' w2) := fun w' hb v ev l h1 h2 => sholds_any v ev l env w' (Nat.lt_of_lt_of_le hB hb.size) (hT.below hb hB) h1 h2
      have HP : Hid (ps ≠ [] → ∃ b off, po = some ⟨b, off, none⟩ ∧ b < w.heap.size ∧ ∀ i, i < ps.length → ∃ u, w.cell? ⟨b, off + i, none⟩ = some u ∧ OpsV w u (ps.getD i [])) := hPa
      have HML : Hid ((ps.map (fun p => holdsB p env)).length = ps.length ∧ ∀ i, i < ps.length → (ps.map (fun p => holdsB p env)).getD i false = holdsB (ps.getD i []) env) := ⟨by simp, fun i hi => by simp [List.getD_eq_getElem?_getD, hi]⟩
      generalize ps.map (fun p => holdsB p env) = lt at HML ⊢
      obtain ⟨pn, hpn⟩ : ∃ pn, pn = ps.length := ⟨_, rfl⟩
      have HPN : Hid (pn = ps.length) := hpn
      rw [← hpn] at hpr hp6 HP HML ⊢
      generalize m.vars.length = n at *
      generalize m.rules.length = rn at *
      have hmk := run_make_row' (P := Tryd.prog) 47 4 (.bool false) 1 Tryd.underlying47 infoBool rfl .i64 .i64 pn (by omega) (by omega)
      clear hV hT hVb hlc hll hPa hvl hpn hw hm hp
      go_enter Tryd.func21, Tryd.ntmps21
      go_wp2_with (first | (go_at_call 32; refine (hpr _).mono ?_; rintro e w1 ⟨rfl, hb1⟩; have hbw1 := (hA _).trans (hb1.mono (hA _).size); have k10 : w1.cell? ⟨w.heap.size, 0, none⟩ = some (.slice ao n cap) := (hb1.cell (p := ⟨w.heap.size, 0, none⟩) (by simp)).trans (by simp [go_sem]); have k11 : w1.cell? ⟨w.heap.size, 1, none⟩ = some (.slice ro rn rc) := (hb1.cell (p := ⟨w.heap.size, 1, none⟩) (by simp)).trans (by simp [go_sem])) | (go_at_call 38; refine (hba _).mono ?_; rintro e w2 ⟨rfl, hb2⟩; have hbw2 := hbw1.trans (hb2.mono hbw1.size)) | (go_at_call 37; refine (hvl2 _ hbw2).mono ?_; rintro e w3 ⟨B, rfl, hBl, hb3, hr3⟩))
      have hbw3 := hbw2.trans (hb3.mono hbw2.size)
      have hrow0 := World.rowIs_made w3 (.bool false) pn 4
      have HI3 : Hid (∀ w', Below w3.heap.size w3 w' → IntsV w' (.slice (some ⟨B, 0, none⟩) env.length env.length) env) := fun w' hb => by
        have h1 := intsV_of_row hr3
        have e1 : (List.range env.length).map (fun j => env.getD j 0) = env := by
          apply List.ext_getElem?
          intro i
          by_cases hi : i < env.length
          · simp [hi, List.getD_eq_getElem?_getD]
          · simp [hi]
        rw [e1] at h1
        exact h1.below hb
      have HB3 : Hid (Below w.heap.size w w3) := hbw3
      clear hpr hvl2 hba hmk hb1 hbw1 k10 k11 hb2 hbw2 hb3 hr3 hbw3 hBl
      go_loopw [35] (fun i wr => ∃ k : Nat, k ≤ pn ∧ i = .int .i64 k ∧ Hid (wr.rowIs w3.heap.size 4 pn (fun j => if j < k then .bool (lt.getD j false) else .bool false)) ∧ Hid (Below w3.heap.size w3 wr)) (fun i _ => pn - (intOf i).toNat)
      case atStart => exact ⟨0, Nat.zero_le _, rfl, hrow0.congr (fun i hi => by rw [if_neg (by omega)]), (Below.refl _ _).alloc (Nat.le_refl _) _⟩
      case round =>
        obtain ⟨k, hk, rfl, HRow, HBel⟩ := hrel
        have hbel := HBel.out
        have hbw := HB3.out.trans (hbel.mono HB3.out.size)
        by_cases hlt : k < pn
        · obtain ⟨b, off, rfl, hblt, hat⟩ := HP.out (by intro h; have := HPN.out; subst h; simp at this; omega)
          obtain ⟨u, hu, hou⟩ := hat k hlt
          have c0 := (hbel.cell (p := ⟨b, off + k, none⟩) (Nat.lt_of_lt_of_le hblt HB3.out.size)).trans ((HB3.out.cell (p := ⟨b, off + k, none⟩) hblt).trans hu)
          obtain ⟨uo, uc, rfl⟩ := hou.shape
          have hho := HHo.out wr hbw _ _ _ (hou.below hbw) (HI3.out wr hbel)
          have HLk := (show Hid _ from HML.out.2 k hlt)
          generalize holdsB (ps.getD k []) env = tv at hho HLk
          generalize (ps.getD k []).length = ul at *
          have HWr : Hid (∀ w4, Below wr.heap.size wr w4 → w4.rowIs w3.heap.size 4 pn (fun j => if j < k then .bool (lt.getD j false) else .bool false) ∧ Below w3.heap.size w3 w4) := fun w4 hb => ⟨row_later HRow.out hb, hbel.trans (hb.mono hbel.size)⟩
          clear hat hu hou hbel hbw HHo HI3 HP HML
          go_wp2_with (go_at_call 39; refine hho.mono ?_; rintro e w4 ⟨rfl, hb4⟩; obtain ⟨hr4, hb34⟩ := HWr.out w4 hb4; have hf := hr4.frozen k; have hc : w4.cell? ⟨w3.heap.size, k, none⟩ = some (.bool false) := (by rw [hr4.cell hlt, if_neg (by omega)]); have HR4 : Hid (w4.rowIs w3.heap.size 4 pn (fun j => if j < k then .bool (lt.getD j false) else .bool false)) := hr4; clear hr4)
          refine ⟨⟨k + 1, hlt, by first | rfl | simp, (HR4.out.set k (.bool tv)).congr fun i hi => ?_, hb34.setCell (Nat.le_refl _) _⟩, by simp [intOf]; omega⟩
          by_cases hik : i = k
          · subst hik; rw [if_pos rfl, if_pos (by omega), HLk.out]
          · rw [if_neg hik]
            by_cases hlk : i < k
            · rw [if_pos hlk, if_pos (by omega)]
            · rw [if_neg hlk, if_neg (by omega)]
        · have hkn : k = pn := by omega
          subst hkn
          have hrow := HRow.out.congr (g := fun j => .bool (lt.getD j false)) (fun i hi => by rw [if_pos hi])
          rw [← HML.out.1] at hrow
          have hbo := boolsV_of_row hrow
          rw [HML.out.1] at hbo
          have HBO := (show Hid _ from hbo)
          clear hrow hbo
          go_wp2_with fail
          go_ret2
          exact ⟨_, rfl, hbw, HBO.out⟩
    · have hlc : letC m ps code = wcode m code := by unfold letC; rw [if_pos hp]
      have hll : letL m ps code = [] := by unfold letL; rw [if_neg (by rw [hlc]; exact hw)]
      rw [hlc, hll]
      have hvl := fun w' (hb : Below w.heap.size w w') => mvalues_any _ _ ⟨m.vars, []⟩ code w' (Nat.lt_of_lt_of_le hB hb.size) (hT.below hb hB) (hVb w' hb)
      rw [wcode_bare _ hm] at hvl
      generalize wcode m code = c at *
      generalize wvals ⟨m.vars, []⟩ code = vs at *
      generalize m.vars.length = n at *
      generalize m.rules.length = rn at *
      generalize ps.length = pn at *
      clear hV hT hVb hlc hll hPa
      go_enter Tryd.func21, Tryd.ntmps21
      go_wp2_with (first | (go_at_call 32; refine (hpr _).mono ?_; rintro e w1 ⟨rfl, hb1⟩; have hbw1 := (hA _).trans (hb1.mono (hA _).size); have k10 : w1.cell? ⟨w.heap.size, 0, none⟩ = some (.slice ao n cap) := (hb1.cell (p := ⟨w.heap.size, 0, none⟩) (by simp)).trans (by simp [go_sem]); have k11 : w1.cell? ⟨w.heap.size, 1, none⟩ = some (.slice ro rn rc) := (hb1.cell (p := ⟨w.heap.size, 1, none⟩) (by simp)).trans (by simp [go_sem])) | (go_at_call 38; refine (hba _).mono ?_; rintro e w2 ⟨rfl, hb2⟩; have hbw2 := hbw1.trans (hb2.mono hbw1.size)) | (go_at_call 37; refine (hvl _ hbw2).mono ?_; rintro e w3 ⟨v, rfl, hb3, _⟩))
      go_ret2
      exact ⟨_, rfl, hbw2.trans (hb3.mono hbw2.size), none, 0, rfl, fun h => absurd rfl h⟩
  · have hlc : letC m ps code = pcode m ps := by unfold letC; rw [if_neg hp]
    have hll : letL m ps code = [] := by unfold letL; rw [if_neg (by rw [hlc]; exact hp)]
    rw [hlc, hll]
    generalize pcode m ps = c at *
    generalize m.vars.length = n at *
    generalize m.rules.length = rn at *
    generalize ps.length = pn at *
    clear hV hT hlc hll hPa
    go_enter Tryd.func21, Tryd.ntmps21
    go_wp2_with (go_at_call 32; refine (hpr _).mono ?_; rintro e w1 ⟨rfl, hb1⟩)
    go_ret2
    exact ⟨_, rfl, (hA _).trans (hb1.mono (hA _).size), none, 0, rfl, fun h => absurd rfl h⟩
end Go.Proofs.YtdlpmomohbdpgaaDoor

/-
  The contract of the program's First.
-/
namespace Go.Proofs.YtdlpmomohbdpgaaDoor
open Go.ChangeShapes Go.WideShapes Go.ChangeAt Go.RowKit Go.Deep
open Terms Tm

set_option maxRecDepth 20000 in
theorem initsL_length (l : List Vr) : (initsL l).length = l.length := by simp [initsL]
set_option maxRecDepth 20000 in
theorem initsL_get {l : List Vr} {i : Nat} (h : i < l.length) : (initsL l).getD i 0 = (l.getD i vr0).ini := by
  simp [initsL, List.getD_eq_getElem?_getD, h]

set_option maxRecDepth 20000 in
set_option maxHeartbeats 1600000 in
theorem mfirst_loop (va vr : Value) (m : Mo) (w : World) (hB : 0 < w.heap.size) (hT : TabAt w) (hV : ModelV w va vr m) (h : mcode m = 0) :
    Calls Tryd.prog 20 #[.agg #[va, vr]] w fun e w' => e = .returned (.tuple #[.int .i64 (codeTo m.vars (initsL m.vars) m.vars.length), .int .i64 0]) ∧ Below w.heap.size w w' := by
  have hA : ∀ o, Below w.heap.size w (w.alloc o) := fun o => (Below.refl _ _).alloc (Nat.le_refl _) o
  have hch := fun o => mcheck_any va vr m (w.alloc o) (Nat.lt_of_lt_of_le hB (hA o).size) (hT.below (hA o) hB) (hV.below (hA o))
  rw [h] at hch
  have hok := mcode_vars h
  have h6 := hok.1
  have hcf := (fun vv w1 (hb : Below w.heap.size w w1) (hI : IntsV w1 vv (initsL m.vars)) => codeOf_any va vv m.vars (initsL m.vars) w1 hok (initsL_length _) (inits_in hok) (hV.1.below hb) hI)
  obtain ⟨ao, cap, rfl⟩ := hV.1.shape
  obtain ⟨ro, rc, rfl⟩ := hV.2.shape
  have HCF := (show Hid _ from hcf)
  have HV : Hid (VarsV w (.slice ao m.vars.length cap) m.vars) := hV.1
  have HIn : Hid (∀ i, i < m.vars.length → (initsL m.vars).getD i 0 = (m.vars.getD i vr0).ini) := fun i hi => initsL_get hi
  have HLn : Hid ((initsL m.vars).length = m.vars.length) := initsL_length _
  generalize codeTo m.vars (initsL m.vars) m.vars.length = res at *
  obtain ⟨n, hn⟩ : ∃ n, n = m.vars.length := ⟨_, rfl⟩
  have HN : Hid (n = m.vars.length) := hn
  rw [← hn] at h6 hch HCF HV HIn HLn ⊢
  generalize m.rules.length = rn at *
  have hmk := run_make_row' (P := Tryd.prog) 54 3 (.int .i64 0) 8 Tryd.underlying54 infoInt rfl .i64 .i64 n (by omega) (by omega)
  clear hV hT hn hok h hcf
  go_enter Tryd.func20, Tryd.ntmps20
  go_wp2_with (go_at_call 35; refine (hch _).mono ?_; rintro e w1 ⟨rfl, hb1⟩; have hcb : w1.cell? ⟨w.heap.size, 0, none⟩ = some (.slice ao n cap) := (hb1.cell (p := ⟨w.heap.size, 0, none⟩) (by simp)).trans (by simp [go_sem]); have hs1 : w.heap.size < w1.heap.size := (by have := hb1.size; simp at this; omega); have hcbA : ∀ o, (w1.alloc o).cell? ⟨w.heap.size, 0, none⟩ = some (.slice ao n cap) := (fun o => (((Below.refl w1.heap.size w1).alloc (Nat.le_refl _) o).cell (p := ⟨w.heap.size, 0, none⟩) hs1).trans hcb))
  have hbw := (hA _).trans (hb1.mono (hA _).size)
  have hrow0 := World.rowIs_made w1 (.int .i64 0) n 3
  have HB1 : Hid (Below w.heap.size w w1) := hbw
  clear hch hmk hb1 hbw hcbA
  go_loopw [20] (fun i wr => ∃ k : Nat, k ≤ n ∧ i = .int .i64 k ∧ Hid (wr.rowIs w1.heap.size 3 n (fun j => if j < k then .int .i64 ((initsL m.vars).getD j 0) else .int .i64 0)) ∧ Hid (Below w1.heap.size w1 wr)) (fun i _ => n - (intOf i).toNat)
  case atStart => exact ⟨0, Nat.zero_le _, rfl, hrow0.congr (fun i hi => by rw [if_neg (by omega)]), (Below.refl _ _).alloc (Nat.le_refl _) _⟩
  case round =>
    obtain ⟨k, hk, rfl, HRow, HBel⟩ := hrel
    have hbel := HBel.out
    have hrow := HRow.out
    have hbw := HB1.out.trans (hbel.mono HB1.out.size)
    have hszr := hrow.lt
    have cb := (hbel.cell (p := ⟨w.heap.size, 0, none⟩) hs1).trans hcb
    by_cases hlt : k < n
    · obtain ⟨b, off, rfl, hblt, hat⟩ := HV.out.at (i := k) (by rw [← HN.out]; exact hlt)
      obtain ⟨c0, c1, c2, c3⟩ := hat.below hbw hblt
      have HIk := (show Hid _ from HIn.out k hlt)
      have hA2 := fun o => hrow.alloc o
      have hf : ∀ o, (wr.alloc o).frozen? ⟨w1.heap.size, k, none⟩ = false := fun o => (hA2 o).frozen k
      have hcl : ∀ o, (wr.alloc o).cell? ⟨w1.heap.size, k, none⟩ = some (.int .i64 0) := fun o => by rw [(hA2 o).cell hlt, if_neg (by omega)]
      generalize m.vars.getD k vr0 = x at *
      obtain ⟨s, lo, hi, ini⟩ := x
      simp only at c0 c1 c2 c3 HIk
      have hfin : (((wr.setCell ⟨w1.heap.size, k, none⟩ (.int .i64 ini)).alloc (.cells #[.string s, .int .i64 lo, .int .i64 hi, .int .i64 ini] 70)).rowIs w1.heap.size 3 n (fun j => if j < k + 1 then .int .i64 ((initsL m.vars).getD j 0) else .int .i64 0)) := ((hrow.set k (.int .i64 ini)).alloc _).congr fun j hj => by
        by_cases hjk : j = k
        · subst hjk; rw [if_pos rfl, if_pos (by omega), HIk.out]
        · rw [if_neg hjk]
          by_cases hlk : j < k
          · rw [if_pos hlk, if_pos (by omega)]
          · rw [if_neg hlk, if_neg (by omega)]
      have hbA := (hbel.setCell (p := ⟨w1.heap.size, k, none⟩) (Nat.le_refl _) (.int .i64 ini)).alloc (by simp; omega) (.cells #[.string s, .int .i64 lo, .int .i64 hi, .int .i64 ini] 70)
      have HF := (show Hid _ from hfin)
      have HBA := (show Hid _ from hbA)
      have hfs := hf (.cells #[.string s, .int .i64 lo, .int .i64 hi, .int .i64 ini] 70)
      have hcs := hcl (.cells #[.string s, .int .i64 lo, .int .i64 hi, .int .i64 ini] 70)
      clear hat hA2 hf hcl hfin hbA hrow hbel hrow0
      go_wp2_with fail
      go_roundw
      case rel => exact ⟨k + 1, hlt, by go_num, HF.out, HBA.out⟩
      case measure => simp [intOf]; omega
    · have hkn : k = n := by omega
      subst hkn
      have hI : IntsV wr (.slice (some ⟨w1.heap.size, 0, none⟩) k k) (initsL m.vars) := by
        have := intsV_of_row (hrow.congr (g := fun j => .int .i64 ((initsL m.vars).getD j 0)) (fun i hi => by rw [if_pos hi]))
        have e : (List.range k).map (fun j => (initsL m.vars).getD j 0) = initsL m.vars := by
          apply List.ext_getElem?
          intro i
          by_cases hi : i < k
          · simp [hi, List.getD_eq_getElem?_getD, show i < (initsL m.vars).length by rw [HLn.out]; exact hi]
          · simp [hi, show ¬ i < (initsL m.vars).length by rw [HLn.out]; exact hi]
        rwa [e] at this
      have hcf := HCF.out _ wr hbw hI
      clear hI hrow HCF HRow hrow0
      go_wp2_with (go_at_call 36; refine hcf.mono ?_; rintro e w2 ⟨rfl, hb2⟩)
      go_ret2
      exact ⟨rfl, hbw.trans (hb2.mono hbw.size)⟩

set_option maxRecDepth 20000 in
theorem mfirst_bad (va vr : Value) (m : Mo) (w : World) (hB : 0 < w.heap.size) (hT : TabAt w) (hV : ModelV w va vr m) (h : mcode m ≠ 0) :
    Calls Tryd.prog 20 #[.agg #[va, vr]] w fun e w' => e = .returned (.tuple #[.int .i64 0, .int .i64 (mcode m)]) ∧ Below w.heap.size w w' := by
  have hA : ∀ o, Below w.heap.size w (w.alloc o) := fun o => (Below.refl _ _).alloc (Nat.le_refl _) o
  have hch := fun o => mcheck_any va vr m (w.alloc o) (Nat.lt_of_lt_of_le hB (hA o).size) (hT.below (hA o) hB) (hV.below (hA o))
  obtain ⟨ao, cap, rfl⟩ := hV.1.shape
  obtain ⟨ro, rc, rfl⟩ := hV.2.shape
  generalize mcode m = x at *
  generalize m.vars.length = n at *
  generalize m.rules.length = rn at *
  clear hV hT
  go_enter Tryd.func20, Tryd.ntmps20
  go_wp2_with (go_at_call 35; refine (hch _).mono ?_; rintro e w1 ⟨rfl, hb1⟩)
  go_ret2
  exact ⟨rfl, (hA _).trans (hb1.mono (hA _).size)⟩
set_option maxRecDepth 20000 in
/-- THE CONTRACT OF First. -/
theorem mfirst_any (va vr : Value) (m : Mo) (w : World) (hB : 0 < w.heap.size) (hT : TabAt w) (hV : ModelV w va vr m) :
    Calls Tryd.prog 20 #[.agg #[va, vr]] w fun e w' => e = .returned (.tuple #[.int .i64 (if mcode m = 0 then codeTo m.vars (initsL m.vars) m.vars.length else 0), .int .i64 (mcode m)]) ∧ Below w.heap.size w w' := by
  by_cases h : mcode m = 0
  · rw [if_pos h, h]
    exact mfirst_loop va vr m w hB hT hV h
  · rw [if_neg h]
    exact mfirst_bad va vr m w hB hT hV h
end Go.Proofs.YtdlpmomohbdpgaaDoor

/-
  Where runs begin that do not keep the formula: the contracts of the survey's begin and of product.Begin.
-/
namespace Go.Proofs.YtdlpmomohbdpgaaDoor
open Go.ChangeShapes Go.WideShapes Go.ChangeAt Go.RowKit Go.Deep
open Terms Tm

/-- the first state. -/
def begC (m : Mo) : Int := codeTo m.vars (initsL m.vars) m.vars.length
/-- the spots of the first claims. -/
noncomputable def begTo (m : Mo) (ps : List (List (Int × Int))) (l : List (Int × Int)) : Nat → List (Int × Int)
  | 0 => []
  | k + 1 => if tru l (letL m ps (begC m)) (k : Int) 0 = true then begTo m ps l k else begTo m ps l k ++ [(begC m, (k : Int))]
noncomputable def begL (m : Mo) (ps : List (List (Int × Int))) (l : List (Int × Int)) : List (Int × Int) := begTo m ps l (2 ^ (aheadL l).length)
theorem begTo_len (m : Mo) (ps : List (List (Int × Int))) (l : List (Int × Int)) : ∀ k, (begTo m ps l k).length ≤ k
  | 0 => Nat.le_refl _
  | k + 1 => by
    rw [begTo]
    have := begTo_len m ps l k
    split
    · omega
    · rw [List.length_append, List.length_singleton]; omega
theorem begL_len {m : Mo} {ps : List (List (Int × Int))} {l : List (Int × Int)} (h : tkcode m ps l = 0) : (begL m ps l).length ≤ 64 := by
  have h6 := (lcode_zero (tk_zero h).2).2.2.2.2
  have := begTo_len m ps l (2 ^ (aheadL l).length)
  have h2 : 2 ^ (aheadL l).length ≤ 2 ^ 6 := Nat.pow_le_pow_right (by decide) h6
  unfold begL
  omega
/-- the letter of a state of a right task. -/
theorem tk_let {m : Mo} {ps : List (List (Int × Int))} {l : List (Int × Int)} (h : tkcode m ps l = 0) {c : Int} (hc : 0 ≤ c ∧ c < prodTo m.vars m.vars.length) : letC m ps c = 0 ∧ (letL m ps c).length = ps.length := by
  obtain ⟨hp, _⟩ := tk_zero h
  obtain ⟨hm, _⟩ := pcode_m hp
  have h1 : letC m ps c = 0 := by unfold letC; rw [if_pos hp, wcode_yes hm hc]
  refine ⟨h1, ?_⟩
  unfold letL
  rw [if_pos h1, List.length_map]
theorem tk_beg {m : Mo} {ps : List (List (Int × Int))} {l : List (Int × Int)} (h : tkcode m ps l = 0) : 0 ≤ begC m ∧ begC m < prodTo m.vars m.vars.length := by
  obtain ⟨hp, _⟩ := tk_zero h
  obtain ⟨hm, _⟩ := pcode_m hp
  exact code_bounds (mcode_vars hm) (Nat.le_refl _) (fun i hi => inits_in (mcode_vars hm) i hi)
/-- the truths of a state and a claim. -/
theorem tk_tru {m : Mo} {ps : List (List (Int × Int))} {l : List (Int × Int)} (h : tkcode m ps l = 0) {c : Int} (hc : 0 ≤ c ∧ c < prodTo m.vars m.vars.length) {k : Nat} (hk : k < 2 ^ (aheadL l).length) :
    tcode l (letL m ps c) (k : Int) = 0 ∧ truL l (letL m ps c) (k : Int) = (List.range l.length).map (tru l (letL m ps c) (k : Int)) := by
  have h1 := (tk_let h hc).2
  have h2 : tcode l (letL m ps c) (k : Int) = 0 := by
    refine tcode_ok (by rw [h1]; exact (tk_zero h).2) fun hn => ?_
    unfold ClaimNo at hn
    have : ((2 ^ (aheadL l).length : Nat) : Int) = (2 : Int) ^ (aheadL l).length := by push_cast; rfl
    rcases hn with hn | hn
    · omega
    · rw [← this] at hn; omega
  exact ⟨h2, by unfold truL; rw [if_pos h2]⟩
theorem tk_ne {m : Mo} {ps : List (List (Int × Int))} {l : List (Int × Int)} (h : tkcode m ps l = 0) : 0 < l.length := by
  obtain ⟨_, _, hz, _, _⟩ := lcode_zero (tk_zero h).2
  have := (ends_ne hz).1
  rcases Nat.eq_zero_or_pos l.length with h0 | h0
  · rw [List.length_eq_zero_iff.1 h0] at this
    simp at this
  · exact h0

set_option maxHeartbeats 3200000 in
set_option maxRecDepth 20000 in
/-- THE CONTRACT OF the survey's begin. -/
theorem begin_any (B : Nat) (va vr pv fv : Value) (m : Mo) (ps : List (List (Int × Int))) (l : List (Int × Int)) (ho : Option Addr) (hcp bs bl : Nat) (w : World) (hB : 0 < w.heap.size) (hT : TabAt w) (hV : TaskV w va vr pv fv m ps l) (hc : tkcode m ps l = 0)
    (hS : SurvAt w B va vr pv fv (.slice ho (aheadL l).length hcp) bs bl) :
    Calls Tryd.prog 9 #[.pointer (some ⟨B, 0, none⟩)] w fun e w' => ∃ so sc, e = .returned (.tuple #[.slice so (begL m ps l).length sc, .int .i64 0]) ∧ Below w.heap.size w w' ∧ Hid (SpO w' w.heap.size (.slice so (begL m ps l).length sc) (begL m ps l)) := by
  obtain ⟨hp0, hl0⟩ := tk_zero hc
  obtain ⟨hm0, _⟩ := pcode_m hp0
  have h6 := (lcode_zero hl0).2.2.2.2
  have hne := tk_ne hc
  have hnei : (0 : Int) < (l.length : Int) := by omega
  obtain ⟨ao, ac, rfl⟩ := hV.mo.1.shape
  obtain ⟨ro, rc, rfl⟩ := hV.mo.2.shape
  obtain ⟨po, pc, rfl⟩ := hV.ps.shape
  obtain ⟨fo, fc, rfl, _⟩ := id hV.fo
  have hfi : Calls Tryd.prog 20 #[.agg #[.slice ao m.vars.length ac, .slice ro m.rules.length rc]] w fun e w' => e = .returned (.tuple #[.int .i64 (begC m), .int .i64 0]) ∧ Below w.heap.size w w' := by
    have := mfirst_any _ _ m w hB hT hV.mo
    rw [if_pos hm0, hm0] at this
    exact this
  have HLe : Hid (∀ w1, Below w.heap.size w w1 → Calls Tryd.prog 21 #[.agg #[.slice ao m.vars.length ac, .slice ro m.rules.length rc], .slice po ps.length pc, .int .i64 (begC m)] w1 fun e w' => ∃ lo lc, e = .returned (.tuple #[.slice lo ps.length lc, .int .i64 0]) ∧ Below w1.heap.size w1 w' ∧ Hid (BoolsV w' (.slice lo ps.length lc) (letL m ps (begC m)))) := fun w1 h => by
    refine (letter_any _ _ _ m ps (begC m) w1 (Nat.lt_of_lt_of_le hB h.size) (hT.below h hB) (hV.mo.below h) (hV.ps.below h)).mono fun e w' ⟨v, h1, h2, h3⟩ => ?_
    obtain ⟨t1, t2⟩ := tk_let hc (tk_beg hc)
    obtain ⟨lo, lc, rfl, hx⟩ := h3
    rw [t2] at h1
    exact ⟨lo, lc, by rw [h1, t1], h2, ⟨lo, lc, by rw [t2], hx⟩⟩
  have HTr : Hid (∀ (k : Nat) (lv : Value) (w1 : World), k < 2 ^ (aheadL l).length → Below w.heap.size w w1 → BoolsV w1 lv (letL m ps (begC m)) → Calls Tryd.prog 23 #[.slice fo l.length fc, lv, .int .i64 (k : Int)] w1 fun e w' => ∃ b off c, e = .returned (.tuple #[.slice (some ⟨b, off, none⟩) l.length c, .int .i64 0]) ∧ Below w1.heap.size w1 w' ∧ w'.cell? ⟨b, off, none⟩ = some (.bool (tru l (letL m ps (begC m)) (k : Int) 0))) := fun k lv w1 hk h hl => by
    refine (ltruths_any _ lv l (letL m ps (begC m)) (k : Int) w1 (Nat.lt_of_lt_of_le hB h.size) (hT.below h hB) (hV.fo.below h) hl).mono fun e w' ⟨v, h1, h2, h3⟩ => ?_
    obtain ⟨t1, t2⟩ := tk_tru hc (tk_beg hc) hk
    rw [t2] at h3
    have hn := tk_ne hc
    obtain ⟨lo, lc, rfl, hx⟩ := h3
    obtain ⟨b, off, rfl, _, hat⟩ := hx (by intro h0; have := congrArg List.length h0; rw [List.length_map, List.length_range, List.length_nil] at this; omega)
    have c0 := hat 0 (by simpa using hn)
    refine ⟨b, off, lc, by rw [h1, t1]; simp, h2, ?_⟩
    rw [Nat.add_zero] at c0
    rw [c0]
    simp [List.getD_eq_getElem?_getD, hn]
  have HS : Hid (∀ w1, Below w.heap.size w w1 → SurvAt w1 B (.slice ao m.vars.length ac) (.slice ro m.rules.length rc) (.slice po ps.length pc) (.slice fo l.length fc) (.slice ho (aheadL l).length hcp) bs bl) := fun w1 h => hS.later h
  have hcl := fun w1 (h : Below w.heap.size w w1) => claims_any B _ _ _ _ ho _ hcp bs bl w1 h6 (hS.later h)
  have HCl : Hid (∀ w1, Below w.heap.size w w1 → Calls Tryd.prog 22 #[.pointer (some ⟨B, 0, none⟩)] w1 fun e w' => e = .returned (.int .i64 ((2 ^ (aheadL l).length : Nat) : Int)) ∧ w' = w1) := hcl
  obtain ⟨_, s0, s1, s2, s3, s4, s5, s6⟩ := id hS
  have hq64 : 2 ^ (aheadL l).length ≤ 64 := Nat.pow_le_pow_right (show 0 < 2 by decide) h6
  have HNil : Hid (begTo m ps l 0 = []) := rfl
  have HSt : Hid (∀ k, begTo m ps l (k + 1) = if tru l (letL m ps (begC m)) (k : Int) 0 = true then begTo m ps l k else begTo m ps l k ++ [(begC m, (k : Int))]) := fun k => rfl
  have HLen : Hid (∀ k, (begTo m ps l k).length ≤ k) := begTo_len m ps l
  unfold begL
  generalize begTo m ps l = bg at *
  generalize letL m ps (begC m) = lt at *
  generalize begC m = first at *
  generalize m.vars.length = vn at *
  generalize m.rules.length = rn at *
  generalize ps.length = pn at *
  generalize (aheadL l).length = an at *
  generalize 2 ^ an = N at *
  have HTru : Hid (∀ k : Nat, tru l lt (k : Int) 0 = true ∨ tru l lt (k : Int) 0 = false) := fun k => by cases tru l lt (k : Int) 0 <;> simp
  generalize hfn : l.length = fn at *
  clear hV hT hc hl0 hp0 hm0 hS hcl h6 hfn
  go_enter Tryd.func9, Tryd.ntmps9
  go_wp2_with (first | (go_at_call 20; refine hfi.mono ?_; rintro e w1 ⟨rfl, hb1⟩; obtain ⟨_, p0, p1, p2, p3, p4, p5, p6⟩ := HS.out w1 hb1; have hle := HLe.out _ hb1.drew))
  have HSB : Hid (∀ w2, Below w1.heap.size w1 w2 → w2.cell? ⟨B, 0, none⟩ = some (.slice ao vn ac) ∧ w2.cell? ⟨B, 1, none⟩ = some (.slice ro rn rc) ∧ w2.cell? ⟨B, 2, none⟩ = some (.slice po pn pc)) := fun w2 h => by
    obtain ⟨_, q0, q1, q2, _, _, _, _⟩ := HS.out w2 (hb1.trans (h.mono hb1.size))
    exact ⟨q0, q1, q2⟩
  have hB0 : Below w1.heap.size w1 w1 := Below.refl _ _
  have hBw := hB0.drew
  go_region_held3 (fun w' => w'.cell? ⟨B, 0, none⟩ = some (.slice ao vn ac) ∧ w'.cell? ⟨B, 1, none⟩ = some (.slice ro rn rc) ∧ w'.cell? ⟨B, 2, none⟩ = some (.slice po pn pc))
    (first | exact HSB.out _ hb12 | exact HSB.out _ hBw | exact HSB.out _ hB0)
    (first
      | (go_at_call 21; refine hle.mono ?_; rintro e w2 ⟨lo, lc, rfl, hb2, HLv⟩; have hb12 := hBw.trans (hb2.mono hBw.size)))
  have hw2 := hb1.trans (hb12.mono hb1.size)
  have hcl := HCl.out w2 hw2
  clear hle hfi HLe HSB p0 p1 p2 p3 p4 p5 p6 s0 s1 s2 s3 s4 s5 s6
  have HLet : Hid (∀ w3, Below w2.heap.size w2 w3 → BoolsV w3 (.slice lo pn lc) lt) := fun w3 h => HLv.out.below h
  go_wp2_with (first | (go_at_call 22; refine hcl.mono ?_; rintro e w3 ⟨rfl, rfl⟩))
  go_loopw [7, 43] (fun u i wr => ∃ k : Nat, k ≤ N ∧ i = .int .i64 k ∧ (∃ so sn sc, u = .slice so sn sc ∧ sn ≤ k ∧ Hid ((bg k).length = sn ∧ SpO wr w3.heap.size (.slice so sn sc) (bg k))) ∧ Below w3.heap.size w3 wr) (fun _ i _ => N - (intOf i).toNat)
  case atStart => exact ⟨0, Nat.zero_le _, rfl, ⟨none, 0, 0, rfl, Nat.le_refl _, by rw [HNil.out]; rfl, by rw [HNil.out]; exact SpO.nil _ _⟩, Below.refl _ _⟩
  case round =>
    obtain ⟨k, hk, rfl, ⟨so, sn, sc, rfl, hsn, HSp⟩, hbr3⟩ := hrel
    have hbr := hw2.trans (hbr3.mono hw2.size)
    have HBo := (show Hid _ from HLet.out wr hbr3)
    obtain ⟨_, p0, p1, p2, p3, p4, p5, p6⟩ := HS.out wr hbr
    by_cases hkN : k < N
    · have htr := HTr.out k _ wr hkN hbr HBo.out
      have hst := HSt.out k
      have HSk : Hid (∀ w4, Below wr.heap.size wr w4 → SpO w4 w3.heap.size (.slice so sn sc) (bg k)) := fun w4 h => HSp.out.2.later h (Nat.le_refl _)
      have HSl : Hid ((bg k).length = sn) := HSp.out.1
      rcases HTru.out k with ht | ht
      · rw [ht] at htr hst
        rw [if_pos rfl] at hst
        have HE : Hid (bg (k + 1) = bg k) := hst
        clear hst ht HBo HSp
        go_wp2_with (first | (go_at_call 23; refine htr.mono ?_; rintro e w4 ⟨b, off, c, rfl, hb4, d0⟩; have hbw4 := hbr3.trans (hb4.mono hbr3.size)))
        go_roundw
        case rel => exact ⟨k + 1, by omega, by go_num, ⟨so, sn, sc, rfl, by omega, by rw [HE.out]; exact HSl.out, by rw [HE.out]; exact HSk.out _ hb4⟩, hbw4⟩
        case measure => simp [intOf]; omega
      · rw [ht] at htr hst
        rw [if_neg (by simp)] at hst
        have HE : Hid (bg (k + 1) = bg k ++ [(first, (k : Int))]) := hst
        have hsz : w.heap.size ≤ wr.heap.size := hbr.size
        clear hst ht HBo HSp
        go_wp2_with (first | (go_at_call 23; refine htr.mono ?_; rintro e w4 ⟨b, off, c, rfl, hb4, d0⟩; have hbw4 := hbr3.trans (hb4.mono hbr3.size); have hsp := HSk.out _ hb4; have hs4 := hbw4.size) | (at_builtin; refine push_sp first (k : Int) rfl _ _ rfl w3.heap.size sn sc so (bg k) HSl.out rfl hsp rfl (by omega) hs4 ?_; intro vo5 cap5 w5 ho5 hb5 hg5; have HO5 : Hid (SpO w5 w3.heap.size (.slice vo5 (sn + 1) cap5) (bg k ++ [(first, (k : Int))])) := ho5; have hbw5 := hbw4.trans hb5; clear ho5 hg5 hsp))
        go_roundw
        case rel => exact ⟨k + 1, by omega, by go_num, ⟨vo5, sn + 1, cap5, rfl, by omega, by rw [HE.out, List.length_append, HSl.out]; rfl, by rw [HE.out]; exact HO5.out⟩, hbw5⟩
        case measure => simp [intOf]; omega
    · obtain rfl : k = N := by omega
      have HSl : Hid ((bg k).length = sn) := HSp.out.1
      have HSk : Hid (SpO wr w.heap.size (.slice so sn sc) (bg k)) := owns_mono HSp.out.2 hw2.size
      clear HSp HBo
      go_wp2_with fail
      go_ret2
      refine ⟨so, sc, by rw [HSl.out]; rfl, hbr, by rw [HSl.out]; exact HSk.out⟩

/-- what Begin answers. -/
noncomputable def begR (m : Mo) (ps : List (List (Int × Int))) (l : List (Int × Int)) : List (Int × Int) := by classical exact if tkcode m ps l = 0 then begL m ps l else []
theorem begR_ok {m : Mo} {ps : List (List (Int × Int))} {l : List (Int × Int)} (h : tkcode m ps l = 0) : begR m ps l = begL m ps l := by unfold begR; rw [if_pos h]
theorem begR_bad {m : Mo} {ps : List (List (Int × Int))} {l : List (Int × Int)} (h : tkcode m ps l ≠ 0) : begR m ps l = [] := by unfold begR; rw [if_neg h]
theorem begR_len (m : Mo) (ps : List (List (Int × Int))) (l : List (Int × Int)) : (begR m ps l).length ≤ 64 := by
  by_cases h : tkcode m ps l = 0
  · rw [begR_ok h]; exact begL_len h
  · rw [begR_bad h]; simp
def BegPost (w : World) (m : Mo) (ps : List (List (Int × Int))) (l : List (Int × Int)) (e : Ending) (w' : World) : Prop := ∃ so sc, e = .returned (.tuple #[.slice so (begR m ps l).length sc, .int .i64 (tkcode m ps l)]) ∧ Below w.heap.size w w' ∧ Hid (SpO w' w.heap.size (.slice so (begR m ps l).length sc) (begR m ps l))

set_option maxHeartbeats 800000 in
set_option maxRecDepth 20000 in
/-- THE CONTRACT OF product.Begin. -/
theorem pbegin_any (va vr pv fv : Value) (m : Mo) (ps : List (List (Int × Int))) (l : List (Int × Int)) (w : World) (hB : 0 < w.heap.size) (hT : TabAt w) (hV : TaskV w va vr pv fv m ps l) :
    Calls Tryd.prog 4 #[.agg #[va, vr, pv, fv]] w (BegPost w m ps l) := by
  have hA : ∀ o, Below w.heap.size w (w.alloc o) := fun o => (Below.refl _ _).alloc (Nat.le_refl _) o
  obtain ⟨ao, ac, rfl⟩ := hV.mo.1.shape
  obtain ⟨ro, rc, rfl⟩ := hV.mo.2.shape
  obtain ⟨po, pc, rfl⟩ := hV.ps.shape
  obtain ⟨fo, fc, rfl, _⟩ := id hV.fo
  unfold BegPost
  by_cases hc : tkcode m ps l = 0
  · have hsv := surveyOf_ok _ _ _ _ m ps l _ (Nat.lt_of_lt_of_le hB (hA (.cells #[.slice ao m.vars.length ac, .slice ro m.rules.length rc, .slice po ps.length pc, .slice fo l.length fc] 29)).size) (hT.below (hA _) hB) (hV.below (hA _)) hc
    have HBe : Hid (∀ (w1 : World) (B bs bl : Nat) (ho : Option Addr) (hcp : Nat), Below w.heap.size w w1 → SurvAt w1 B (.slice ao m.vars.length ac) (.slice ro m.rules.length rc) (.slice po ps.length pc) (.slice fo l.length fc) (.slice ho (aheadL l).length hcp) bs bl → Calls Tryd.prog 9 #[.pointer (some ⟨B, 0, none⟩)] w1 fun e w' => ∃ so sc, e = .returned (.tuple #[.slice so (begL m ps l).length sc, .int .i64 0]) ∧ Below w1.heap.size w1 w' ∧ Hid (SpO w' w1.heap.size (.slice so (begL m ps l).length sc) (begL m ps l))) := fun w1 B bs bl ho hcp h hs => begin_any B _ _ _ _ m ps l ho hcp bs bl w1 (Nat.lt_of_lt_of_le hB h.size) (hT.below h hB) (hV.below h) hc hs
    rw [begR_ok hc, hc]
    unfold SurvPost at hsv
    generalize begL m ps l = bg at *
    generalize (aheadL l).length = an at *
    generalize m.vars.length = vn at *
    generalize m.rules.length = rn at *
    generalize ps.length = pn at *
    generalize l.length = fn at *
    generalize bg.length = bn at *
    clear hV hT hc
    go_enter Tryd.func4, Tryd.ntmps4
    go_wp2_with (first | (go_at_call 8; refine hsv.mono ?_; rintro e w1 ⟨n, ho, hcp, rfl, hb1, _, _, HS, _, _⟩; have hbw := (hA _).trans (hb1.mono (hA _).size); have hbe := HBe.out w1 _ _ _ _ _ hbw HS.out) | (go_at_call 9; refine hbe.mono ?_; rintro e w2 ⟨so, sc, rfl, hb2, HO⟩))
    go_ret2
    exact ⟨so, sc, rfl, hbw.trans (hb2.mono hbw.size), owns_mono HO.out hbw.size⟩
  · have hsv := surveyOf_bad _ _ _ _ m ps l _ (Nat.lt_of_lt_of_le hB (hA (.cells #[.slice ao m.vars.length ac, .slice ro m.rules.length rc, .slice po ps.length pc, .slice fo l.length fc] 29)).size) (hT.below (hA _) hB) (hV.below (hA _)) hc
    rw [begR_bad hc]
    generalize tkcode m ps l = c at *
    generalize m.vars.length = vn at *
    generalize m.rules.length = rn at *
    generalize ps.length = pn at *
    generalize l.length = fn at *
    clear hV hT
    go_enter Tryd.func4, Tryd.ntmps4
    go_wp2_with (first | (go_at_call 8; refine hsv.mono ?_; rintro e w1 ⟨rfl, hb1⟩; have hbw := (hA _).trans (hb1.mono (hA _).size)))
    go_ret2
    exact ⟨none, 0, rfl, hbw, SpO.nil _ _⟩
end Go.Proofs.YtdlpmomohbdpgaaDoor

/-
  The contract of the document's own AheadOf.
-/
namespace Go.Proofs.YtdlpmomohbdpgaaDoor
open Go.ChangeShapes Go.WideShapes Go.ChangeAt Go.RowKit Go.Deep
open Terms

theorem refl_post {α : Prop} (h : α) : α := h

set_option maxHeartbeats 800000 in
set_option maxRecDepth 20000 in
/-- THE CONTRACT OF the document's AheadOf. -/
theorem aheadOf_any (v : Value) (l : List (Int × Int)) (props : Int) (w : World) (hV : OpsV w v l) :
    Calls Tryd.prog 29 #[v, .int .i64 props] w fun e w' => ∃ av, e = .returned (.tuple #[av, .int .i64 (lcode props l)]) ∧ Below w.heap.size w w' ∧ w'.ownsRow w.heap.size 3 1 av (ahL props l).length (ivals (ahL props l)) := by
  have hff := fault_any v l props w hV
  by_cases hz : lcode props l = 0
  · obtain ⟨_, _, hz0', _, _⟩ := lcode_zero hz
    obtain ⟨hne, h60⟩ := ends_ne hz0'
    rw [List.length_map] at h60
    obtain ⟨ao, cap, rfl, h0, h⟩ := hV
    obtain ⟨b, off, rfl, hblt, hat⟩ := h (by rintro rfl; exact hne rfl)
    rw [hz] at hff
    have HLd : Hid (ahL props l = aheadTo l l.length) := by show _ = _; unfold ahL aheadL; rw [if_pos hz]
    have HA : Hid (OpsAt w b off l) := hat
    rw [hz]
    obtain ⟨n, hn⟩ : ∃ n, n = l.length := ⟨_, rfl⟩
    have HN : Hid (n = l.length) := hn
    rw [← hn] at h60 HLd hff ⊢
    obtain ⟨i0, hi, hz0, hz1, hz2⟩ := info_parts infoInt
    clear h0 h hat hne hz hn hz0'
    go_enter Tryd.func29, Tryd.ntmps29
    go_wp2_with (go_at_call 25; refine hff.mono ?_; rintro e w1 ⟨rfl, hb1⟩)
    have hs1 := hb1.size
    clear hff
    go_loopw [7, 8] (fun out i wr => ∃ k : Nat, k ≤ n ∧ i = .int .i64 k ∧ Hid (wr.ownsRow w1.heap.size 3 1 out (aheadTo l k).length (ivals (aheadTo l k))) ∧ Below w1.heap.size w1 wr) (fun _ i _ => n - (intOf i).toNat)
    case atStart => exact ⟨0, Nat.zero_le _, rfl, World.ownsRow_nil _ _ _ _, Below.refl _ _⟩
    case round =>
      obtain ⟨k, hk, rfl, HOw, hbel⟩ := hrel
      have hbw := hb1.trans (hbel.mono hb1.size)
      have hlen := aheadTo_length l k
      have hown := HOw.out
      obtain ⟨aao, aac, rfl⟩ := owns_slice hown
      by_cases hlt : k < n
      · obtain ⟨c0, c1⟩ := (HA.out.below hbw hblt) k (by rw [← HN.out]; exact hlt)
        have HY : Hid (lookB (l.getD k (0, 0)).1 = true → aheadTo l (k + 1) = aheadTo l k ++ [(k : Int)]) := aheadTo_yes
        have HNo : Hid (lookB (l.getD k (0, 0)).1 = false → aheadTo l (k + 1) = aheadTo l k) := aheadTo_no
        generalize l.getD k (0, 0) = xy at c0 c1 HY HNo
        obtain ⟨x, y⟩ := xy
        simp only at c0 c1 HY HNo
        have hlk := fun w => rlook_any x w
        obtain ⟨L, hL⟩ : ∃ L, L = (aheadTo l k).length := ⟨_, rfl⟩
        have HL : Hid (L = (aheadTo l k).length) := hL
        rw [← hL] at hlen hown ⊢
        clear hL HA HOw
        cases hb : lookB x with
        | true =>
          have HAh := (show Hid _ from HY.out hb)
          rw [hb] at hlk
          have h63 : L + 1 ≤ maxLen := by unfold maxLen; omega
          have hkb : (L + 1) * 8 ≤ 140737488355328 := by omega
          have hbase : ∀ o, w1.heap.size ≤ (wr.alloc o).heap.size := fun o => by have := hbel.size; simp; omega
          clear HY HNo hb
          go_wp2_with (first | (go_at_call 44; refine (hlk _).mono ?_; rintro e w3 ⟨rfl, rfl⟩) | (at_builtin; refine wpList_append_own _ rfl _ _ 54 rfl w1.heap.size 3 i0 (.int .i64 0) 1 8 Tryd.underlying54 hi hz0 hz1 hz2 rfl (by decide) _ _ _ rfl (hown.alloc _) ⟨_, 0, none⟩ 1 1 _ rfl rfl (cell_one_new _ _ _) (by intro u hu; simp at hu; subst hu; rfl) h63 hkb (hbase _) ?_; intro v5 w5 hown5 hgrow5 _; obtain ⟨g5, cp5, rfl⟩ := owns_more hown5))
          have hb5 : Below w1.heap.size w1 w5 := (hbel.alloc hbel.size _).grown hgrow5 (hbase _) (owns_block hown)
          refine ⟨⟨k + 1, hlt, by first | rfl | simp, ?_, hb5⟩, by simp [intOf]; omega⟩
          show World.ownsRow _ _ _ _ _ _ _
          rw [HAh.out, List.length_append, ← HL.out]
          rw [show ivals (aheadTo l k ++ [(k : Int)]) = ivals (aheadTo l k) ++ [.int .i64 (k : Int)] by simp [ivals]]
          exact hown5
        | false =>
          have HAh := (show Hid _ from HNo.out hb)
          rw [hb] at hlk
          clear HY HNo hb
          have HO2 : Hid (wr.ownsRow w1.heap.size 3 1 (.slice aao L aac) L (ivals (aheadTo l k))) := hown
          go_wp2_with (go_at_call 44; refine (hlk _).mono ?_; rintro e w3 ⟨rfl, rfl⟩)
          refine ⟨⟨k + 1, hlt, by first | rfl | simp, ?_, hbel⟩, by simp [intOf]; omega⟩
          show World.ownsRow _ _ _ _ _ _ _
          rw [HAh.out, ← HL.out]
          exact HO2.out
      · have hkn : k = n := by omega
        subst hkn
        obtain ⟨L, hL⟩ : ∃ L, L = (aheadTo l k).length := ⟨_, rfl⟩
        have HL : Hid (L = (aheadTo l k).length) := hL
        rw [← hL] at hlen hown ⊢
        clear hL HA HOw
        have HO2 : Hid (wr.ownsRow w1.heap.size 3 1 (.slice aao L aac) L (ivals (aheadTo l k))) := hown
        clear hown
        go_wp2_with fail
        go_ret2
        refine ⟨_, rfl, hbw, ?_⟩
        rw [HLd.out, ← HL.out]
        exact owns_mono HO2.out hs1
  · obtain ⟨ao, cap, rfl, _⟩ := hV
    have HLd : Hid (ahL props l = []) := by show _ = _; unfold ahL; rw [if_neg hz]
    generalize lcode props l = x at *
    go_enter Tryd.func29, Tryd.ntmps29
    go_wp2_with (go_at_call 25; refine hff.mono ?_; rintro e w1 ⟨rfl, hb1⟩)
    go_ret2
    exact ⟨_, rfl, hb1, by rw [HLd.out]; exact World.ownsRow_nil _ _ _ _⟩
end Go.Proofs.YtdlpmomohbdpgaaDoor

/-
  The contracts of the document's own behindVar, StateCount.
-/
namespace Go.Proofs.YtdlpmomohbdpgaaDoor
open Go.ChangeShapes Go.WideShapes Go.ChangeAt Go.RowKit Go.Deep
open Terms Tm

set_option maxHeartbeats 1600000 in
theorem behindVar_any (va : Value) (ro : Option Addr) (rn rc : Nat) (l : List Vr) (a : Nat) (w : World) (hok : VarsOk l) (ha : a ≤ l.length) (hV : VarsV w va l) :
    Calls Tryd.prog 45 #[.agg #[va, .slice ro rn rc], .int .i64 ((a : Int) - 1)] w fun e w' => e = .returned (.int .i64 (segP l a)) ∧ Below w.heap.size w w' := by
  obtain ⟨ao, cap, rfl⟩ := hV.shape
  have HV : Hid (VarsV w (.slice ao l.length cap) l) := hV
  have HOK : Hid (VarsOk l) := hok
  have h6 := hok.1
  unfold segP
  obtain ⟨n, hn⟩ : ∃ n, n = l.length := ⟨_, rfl⟩
  have HN : Hid (n = l.length) := hn
  rw [← hn] at h6 ha HV ⊢
  clear hV hn hok
  have hA : Below w.heap.size w (w.alloc (.cells #[.slice ao n cap, .slice ro rn rc] 25)) := (Below.refl _ _).alloc (Nat.le_refl _) _
  go_enter Tryd.func45, Tryd.ntmps45
  go_wp2
  go_loopw [5, 6] (fun st i wr => ∃ c : Nat, a + c ≤ n ∧ i = .int .i64 ((a + c : Nat) : Int) ∧ st = .int .i64 (prodSeg l a c) ∧ ∃ d, wr = (w.alloc (.cells #[.slice ao n cap, .slice ro rn rc] 25)).drewN d) (fun _ i _ => n - (intOf i).toNat)
  case atStart => exact ⟨0, by omega, by first | rfl | (congr 1; omega) | go_num, rfl, 0, rfl⟩
  case round =>
    obtain ⟨c, hc, rfl, rfl, d, rfl⟩ := hrel
    by_cases hlt : a + c < n
    · obtain ⟨b, off, rfl, hblt, hat⟩ := HV.out.at (i := a + c) (by rw [← HN.out]; exact hlt)
      obtain ⟨c0, c1, c2, c3⟩ := hat.below hA hblt
      have hpb1 := prodSeg_pos HOK.out (a := a) (c := c) (by rw [← HN.out]; exact hc)
      have hpb2 := prodSeg_le HOK.out (a := a) (c := c) (by rw [← HN.out]; exact hc)
      have hvb := HOK.out.at (j := a + c) (by rw [← HN.out]; exact hlt)
      have HPr : Hid (prodSeg l a (c + 1) = prodSeg l a c * vspan (l.getD (a + c) vr0)) := rfl
      generalize prodSeg l a c = st at *
      generalize l.getD (a + c) vr0 = x at *
      obtain ⟨s, lo, hi, ini⟩ := x
      simp only [vspan] at c0 c1 c2 c3 HPr hvb
      obtain ⟨hv1, hv2, hv3, hv4, hv5, hv6, hv7⟩ := hvb
      have hm1 : 1 ≤ st * (hi - lo + 1) := by have := Int.mul_le_mul hpb1 hv1 (by omega) (by omega); simpa using this
      have hm2 : st * (hi - lo + 1) ≤ 262144 := by have := Int.mul_le_mul hpb2 hv2 (by omega) (by omega); simpa using this
      obtain ⟨k, hk⟩ : ∃ k, k = a + c := ⟨_, rfl⟩
      have HK : Hid (k = a + c) := hk
      rw [← hk] at hlt c0 c1 c2 c3 ⊢
      clear hat hk
      have hi0 : (0 : Int) ≤ (k : Int) := Int.natCast_nonneg _
      have hi1 : (k : Int) < (n : Int) := by omega
      have hw1 : IntKind.i64.wrap (hi - lo) = hi - lo := wr64 (by omega) (by omega)
      have hw2 : IntKind.i64.wrap (hi - lo + 1) = hi - lo + 1 := wr64 (by omega) (by omega)
      have hw3 : IntKind.i64.wrap (st * (hi - lo + 1)) = st * (hi - lo + 1) := wr64 (by omega) (by omega)
      go_wp2_with fail
      go_quiet (fail)
      go_wp2_with fail
      go_roundw
      case rel => exact ⟨c + 1, by have := HK.out; omega, by have := HK.out; congr 1; omega, by rw [HPr.out], _, rfl⟩
      case measure => simp [intOf]; omega
    · have hce : c = n - a := by omega
      subst hce
      go_wp2_with fail
      go_ret
      exact ⟨rfl, below_drewN hA _⟩
/-- THE CONTRACT OF StateCount. -/
theorem rcount_any (va vr : Value) (m : Mo) (w : World) (hV : ModelV w va vr m) :
    Calls Tryd.prog 46 #[.agg #[va, vr]] w fun e w' => e = .returned (.tuple #[.int .i64 (if mcode m = 0 then prodTo m.vars m.vars.length else 0), .int .i64 (mcode m)]) ∧ Below w.heap.size w w' := by
  have hA : ∀ o, Below w.heap.size w (w.alloc o) := fun o => (Below.refl _ _).alloc (Nat.le_refl _) o
  have hch := fun o => rmodel_any va vr m (w.alloc o) (hV.below (hA o))
  have HV : Hid (ModelV w va vr m) := hV
  obtain ⟨ao, cap, rfl⟩ := hV.1.shape
  obtain ⟨ro, rc, rfl⟩ := hV.2.shape
  clear hV
  by_cases hz : mcode m = 0
  · have hok := mcode_vars hz
    have hcn := (fun w1 (hb : Below w.heap.size w w1) => behindVar_any _ ro m.rules.length rc m.vars 0 w1 hok (Nat.zero_le _) (HV.out.1.below hb))
    rw [segP_zero, show ((0 : Nat) : Int) - 1 = -1 by decide] at hcn
    rw [hz] at hch ⊢
    rw [if_pos rfl]
    generalize prodTo m.vars m.vars.length = N at *
    generalize m.vars.length = n at *
    generalize m.rules.length = rn at *
    clear hz hok HV
    go_enter Tryd.func46, Tryd.ntmps46
    go_wp2_with (first | (go_at_call 41; refine (hch _).mono ?_; rintro e w1 ⟨rfl, hb1⟩; have hcb0 : w1.cell? ⟨w.heap.size, 0, none⟩ = some (.slice ao n cap) := (hb1.cell (p := ⟨w.heap.size, 0, none⟩) (by simp)).trans (by simp [go_sem]); have hcb1 : w1.cell? ⟨w.heap.size, 1, none⟩ = some (.slice ro rn rc) := (hb1.cell (p := ⟨w.heap.size, 1, none⟩) (by simp)).trans (by simp [go_sem]); have hbw := (hA _).trans (hb1.mono (hA _).size)) | (go_at_call 45; refine (hcn _ hbw).mono ?_; rintro e w2 ⟨rfl, hb2⟩))
    go_ret2
    exact ⟨rfl, hbw.trans (hb2.mono hbw.size)⟩
  · rw [if_neg hz]
    generalize mcode m = x at *
    generalize m.vars.length = n at *
    generalize m.rules.length = rn at *
    clear HV
    go_enter Tryd.func46, Tryd.ntmps46
    go_wp2_with (go_at_call 41; refine (hch _).mono ?_; rintro e w1 ⟨rfl, hb1⟩)
    go_ret2
    exact ⟨rfl, (hA _).trans (hb1.mono (hA _).size)⟩
end Go.Proofs.YtdlpmomohbdpgaaDoor

/-
  The contract of the document's own CodeOf.
-/
namespace Go.Proofs.YtdlpmomohbdpgaaDoor
open Go.ChangeShapes Go.WideShapes Go.ChangeAt Go.RowKit Go.Deep
open Terms Tm

theorem rcode_bad (va vr vv : Value) (m : Mo) (w : World) (hV : ModelV w va vr m) (io : Option Addr) (il ic : Nat) (hv : vv = .slice io il ic) (h : mcode m ≠ 0) :
    Calls Tryd.prog 26 #[.agg #[va, vr], vv] w fun e w' => e = .returned (.tuple #[.int .i64 0, .int .i64 (mcode m)]) ∧ Below w.heap.size w w' := by
  subst hv
  have hA : ∀ o, Below w.heap.size w (w.alloc o) := fun o => (Below.refl _ _).alloc (Nat.le_refl _) o
  have hch := fun o => rmodel_any va vr m (w.alloc o) (hV.below (hA o))
  obtain ⟨ao, cap, rfl⟩ := hV.1.shape
  obtain ⟨ro, rc, rfl⟩ := hV.2.shape
  generalize mcode m = x at *
  generalize m.vars.length = n at *
  generalize m.rules.length = rn at *
  clear hV
  go_enter Tryd.func26, Tryd.ntmps26
  go_wp2_with (go_at_call 41; refine (hch _).mono ?_; rintro e w1 ⟨rfl, hb1⟩)
  go_ret2
  exact ⟨rfl, (hA _).trans (hb1.mono (hA _).size)⟩
theorem rcode_len (va vr vv : Value) (m : Mo) (w : World) (hV : ModelV w va vr m) (io : Option Addr) (il ic : Nat) (hv : vv = .slice io il ic) (h : mcode m = 0) (hl : il ≠ m.vars.length) :
    Calls Tryd.prog 26 #[.agg #[va, vr], vv] w fun e w' => e = .returned (.tuple #[.int .i64 0, .int .i64 9]) ∧ Below w.heap.size w w' := by
  subst hv
  have hA : ∀ o, Below w.heap.size w (w.alloc o) := fun o => (Below.refl _ _).alloc (Nat.le_refl _) o
  have hch := fun o => rmodel_any va vr m (w.alloc o) (hV.below (hA o))
  rw [h] at hch
  obtain ⟨ao, cap, rfl⟩ := hV.1.shape
  obtain ⟨ro, rc, rfl⟩ := hV.2.shape
  generalize m.vars.length = n at *
  generalize m.rules.length = rn at *
  have hne : ((il : Int) == (n : Int)) = false := by rw [beq_eq_false_iff_ne]; omega
  clear hV h
  go_enter Tryd.func26, Tryd.ntmps26
  go_wp2_with (go_at_call 41; refine (hch _).mono ?_; rintro e w1 ⟨rfl, hb1⟩; have hcb : w1.cell? ⟨w.heap.size, 0, none⟩ = some (.slice ao n cap) := (hb1.cell (p := ⟨w.heap.size, 0, none⟩) (by simp)).trans (by simp [go_sem]))
  all_goals first | (exfalso; omega) | go_ret2
  all_goals exact ⟨rfl, (hA _).trans (hb1.mono (hA _).size)⟩

set_option maxHeartbeats 3200000 in
theorem rcode_loop (va vr vv : Value) (m : Mo) (vals : List Int) (w : World) (hV : ModelV w va vr m) (hI : IntsV w vv vals) (h : mcode m = 0) (hlen : vals.length = m.vars.length) :
    Calls Tryd.prog 26 #[.agg #[va, vr], vv] w fun e w' => e = .returned (.tuple #[.int .i64 (cval m vals), .int .i64 (ccode m vals)]) ∧ Below w.heap.size w w' := by
  have hA : ∀ o, Below w.heap.size w (w.alloc o) := fun o => (Below.refl _ _).alloc (Nat.le_refl _) o
  have hch := fun o => rmodel_any va vr m (w.alloc o) (hV.below (hA o))
  rw [h] at hch
  have hok := mcode_vars h
  have HOK : Hid (VarsOk m.vars) := hok
  have h6 := hok.1
  obtain ⟨ao, cap, rfl⟩ := hV.1.shape
  obtain ⟨ro, rc, rfl⟩ := hV.2.shape
  obtain ⟨io, icap, rfl⟩ := hI.shape
  have hbv := (fun w1 (hb : Below w.heap.size w w1) a (ha : a ≤ m.vars.length) => behindVar_any (.slice ao m.vars.length cap) ro m.rules.length rc m.vars a w1 hok ha (hV.1.below hb))
  have HBV := (show Hid _ from hbv)
  have HV : Hid (VarsV w (.slice ao m.vars.length cap) m.vars) := hV.1
  have HI : Hid (IntsV w (.slice io vals.length icap) vals) := hI
  have HYes : Hid ((∀ i, i < m.vars.length → inB m.vars vals i) → ccode m vals = 0 ∧ cval m vals = sumTo m.vars vals m.vars.length) := fun hin => by
    have h1 := ccode_yes h ⟨hlen, hin⟩
    exact ⟨h1, by unfold cval; rw [if_pos h1, sum_all]⟩
  have HNo : Hid (∀ k, k < m.vars.length → ¬ inB m.vars vals k → ccode m vals = 9 ∧ cval m vals = 0) := fun k hk hin => by
    have h1 := ccode_no h (vals := vals) (fun h => hin (h.2 k hk))
    exact ⟨h1, by unfold cval; rw [h1, if_neg (by decide)]⟩
  have HLen : Hid (vals.length = m.vars.length) := hlen
  obtain ⟨n, hn⟩ : ∃ n, n = m.vars.length := ⟨_, rfl⟩
  have HN : Hid (n = m.vars.length) := hn
  rw [hlen] at HI ⊢
  rw [← hn] at h6 hch HBV HV HI HYes HNo ⊢
  generalize m.rules.length = rn at *
  generalize ccode m vals = cc at *
  generalize cval m vals = cv at *
  clear hV hI hbv hlen hn hok h
  go_enter Tryd.func26, Tryd.ntmps26
  go_wp2_with (go_at_call 41; refine (hch _).mono ?_; rintro e w1 ⟨rfl, hb1⟩; have hcb : w1.cell? ⟨w.heap.size, 0, none⟩ = some (.slice ao n cap) := (hb1.cell (p := ⟨w.heap.size, 0, none⟩) (by simp)).trans (by simp [go_sem]))
  have hb1' : Below (w.heap.size + 1) (w.alloc (.cells #[.slice ao n cap, .slice ro rn rc] 25)) w1 := hb1.mono (by simp)
  clear hch hcb hb1
  go_loopw [7, 8] (fun st i wr => ∃ k : Nat, k ≤ n ∧ i = .int .i64 k ∧ st = .int .i64 (sumTo m.vars vals k) ∧ Hid (∀ i, i < k → inB m.vars vals i) ∧ Below (w.heap.size + 1) (w.alloc (.cells #[.slice ao n cap, .slice ro rn rc] 25)) wr) (fun _ i _ => n - (intOf i).toNat)
  case atStart => exact ⟨0, Nat.zero_le _, rfl, rfl, fun j hj => by omega, hb1'⟩
  case round =>
    obtain ⟨k, hk, rfl, rfl, HJ, hbelB⟩ := hrel
    clear hb1'
    have hbel := (hA _).trans (hbelB.mono (Nat.le_succ _))
    have hszb : w.heap.size + 1 ≤ wr.heap.size := by have := hbelB.size; simp at this; omega
    have hlb : w.heap.size < wr.heap.size := by omega
    have cb := (hbelB.cell (p := ⟨w.heap.size, 0, none⟩) (by simp)).trans (show _ = some (.slice ao n cap) by simp [go_sem])
    have cb1 := (hbelB.cell (p := ⟨w.heap.size, 1, none⟩) (by simp)).trans (show _ = some (.slice ro rn rc) by simp [go_sem])
    by_cases hlt : k < n
    · obtain ⟨b, off, rfl, hblt, hat⟩ := HV.out.at (i := k) (by rw [← HN.out]; exact hlt)
      obtain ⟨ib, ioff, rfl, hilt, hic⟩ := HI.out.at (i := k) (by rw [HLen.out, ← HN.out]; exact hlt)
      obtain ⟨c0, c1, c2, c3⟩ := hat.below hbel hblt
      have hic2 := (hbel.cell (p := ⟨ib, ioff + k, none⟩) hilt).trans hic
      have HNk := (show Hid _ from HNo.out k hlt)
      unfold inB at HNk
      have hsb := sum_bounds HOK.out (k := k) (by rw [← HN.out]; exact hk) HJ.out
      have hgb := segP_bounds HOK.out (i := k + 1) (by rw [← HN.out]; exact hlt)
      have hvb := HOK.out.at (j := k) (by rw [← HN.out]; exact hlt)
      have HPr : Hid (sumTo m.vars vals (k + 1) = sumTo m.vars vals k + (vals.getD k 0 - (m.vars.getD k vr0).lo) * segP m.vars (k + 1)) := rfl
      have HJ3 : Hid ((m.vars.getD k vr0).lo ≤ vals.getD k 0 ∧ vals.getD k 0 ≤ (m.vars.getD k vr0).hi → ∀ i, i < k + 1 → inB m.vars vals i) := fun h i hi => by
        by_cases hik : i = k
        · subst hik; exact h
        · exact HJ.out i (by omega)
      have hbvk := (fun w1 hb => HBV.out w1 hb (k + 1) (by omega))
      rw [show ((k + 1 : Nat) : Int) - 1 = (k : Int) by omega] at hbvk
      generalize sumTo m.vars vals k = st at *
      generalize segP m.vars (k + 1) = sg at *
      generalize m.vars.getD k vr0 = x at *
      generalize vals.getD k 0 = y at *
      obtain ⟨s, lo, hi, ini⟩ := x
      simp only [vspan] at c0 c1 c2 c3 HNk HJ3 HPr hvb
      obtain ⟨hv1, hv2, hv3, hv4, hv5, hv6, hv7⟩ := hvb
      clear hat hic HJ
      have hi0 : (0 : Int) ≤ (k : Int) := Int.natCast_nonneg _
      have hi1 : (k : Int) < (n : Int) := by omega
      have hin0 := fun w => in_any y lo hi w
      have hbo : b < wr.heap.size := by omega
      have hio : ib < wr.heap.size := by omega
      by_cases hin : lo ≤ y ∧ y ≤ hi
      · rw [decide_eq_true hin] at hin0
        have HJ4 := (show Hid _ from HJ3.out hin)
        obtain ⟨hy1, hy2⟩ := hin
        have hm1 : 0 ≤ (y - lo) * sg := Int.mul_nonneg (by omega) (by omega)
        have hm2 : (y - lo) * sg ≤ 262144 := by
          have := Int.mul_le_mul (show y - lo ≤ 64 by omega) hgb.2 (by omega) (by omega); simpa using this
        have hw1 : IntKind.i64.wrap (y - lo) = y - lo := wr64 (by omega) (by omega)
        have hw2 : IntKind.i64.wrap ((y - lo) * sg) = (y - lo) * sg := wr64 (by omega) (by omega)
        have hw3 : IntKind.i64.wrap (st + (y - lo) * sg) = st + (y - lo) * sg := wr64 (by omega) (by omega)
        clear HJ3 HNk HNo HYes HBV
        go_wp2_with fail
        go_quiet ((go_at_call 30; exact Calls.quiet_of_same (hin0 _)))
        go_wp2_with fail
        have hB0 : Below wr.heap.size wr (wr.drewN nq) := below_drewN (Below.refl _ _) _
        have hbvk2 := fun w2 (hb2 : Below wr.heap.size wr w2) => hbvk w2 (hbel.trans (hb2.mono hbel.size))
        have hS0 : ∀ w', Below wr.heap.size wr w' → w'.cell? ⟨w.heap.size, 0, none⟩ = some (.slice (some ⟨b, off, none⟩) n cap) ∧ w'.cell? ⟨w.heap.size, 1, none⟩ = some (.slice ro rn rc) ∧ w'.cell? ⟨b, off + k * 4 + 1, none⟩ = some (.int .i64 lo) ∧ w'.cell? ⟨ib, ioff + k, none⟩ = some (.int .i64 y) := fun w' hw' =>
          ⟨(hw'.cell (p := ⟨w.heap.size, 0, none⟩) hlb).trans cb, (hw'.cell (p := ⟨w.heap.size, 1, none⟩) hlb).trans cb1, (hw'.cell (p := ⟨b, off + k * 4 + 1, none⟩) hbo).trans c1, (hw'.cell (p := ⟨ib, ioff + k, none⟩) hio).trans hic2⟩
        clear hbvk cb cb1 c0 c1 c2 c3 hic2
        go_region_held3 (fun w' => w'.cell? ⟨w.heap.size, 0, none⟩ = some (.slice (some ⟨b, off, none⟩) n cap) ∧ w'.cell? ⟨w.heap.size, 1, none⟩ = some (.slice ro rn rc) ∧ w'.cell? ⟨b, off + k * 4 + 1, none⟩ = some (.int .i64 lo) ∧ w'.cell? ⟨ib, ioff + k, none⟩ = some (.int .i64 y))
          (exact hS0 _ (by first | exact hB0 | exact hB0.drew | exact hB0.drew.trans (hb2.mono (by simp))))
          (first | (go_at_call 45; refine (hbvk2 _ hB0.drew).mono ?_; rintro e w2 ⟨rfl, hb2⟩))
        go_wp2_with fail
        go_roundw
        case rel => exact ⟨k + 1, hlt, by go_num, by rw [HPr.out], HJ4, hbelB.trans ((hB0.drew.trans (hb2.mono (by simp))).mono hszb)⟩
        case measure => simp [intOf]; omega
      · rw [decide_eq_false hin] at hin0
        have HR := (show Hid _ from HNk.out hin)
        clear hin HJ3 HNk HNo HYes HBV hbvk
        go_wp2_with fail
        go_quiet ((go_at_call 30; exact Calls.quiet_of_same (hin0 _)))
        go_wp2_with fail
        go_ret2
        rw [HR.out.1, HR.out.2]
        exact ⟨rfl, below_drewN hbel _⟩
    · have hkn : k = n := by omega
      subst hkn
      have HR := (show Hid _ from HYes.out HJ.out)
      generalize sumTo m.vars vals k = cd at *
      clear HJ HYes HNo HBV
      go_wp2
      go_ret2
      rw [HR.out.1, HR.out.2]
      exact ⟨rfl, hbel⟩

/-- THE CONTRACT OF CodeOf. -/
theorem rcodes_any (va vr vv : Value) (m : Mo) (vals : List Int) (w : World) (hV : ModelV w va vr m) (hI : IntsV w vv vals) :
    Calls Tryd.prog 26 #[.agg #[va, vr], vv] w fun e w' => e = .returned (.tuple #[.int .i64 (cval m vals), .int .i64 (ccode m vals)]) ∧ Below w.heap.size w w' := by
  obtain ⟨io, ic, hv⟩ := hI.shape
  by_cases h : mcode m = 0
  · by_cases hl : vals.length = m.vars.length
    · exact rcode_loop va vr vv m vals w hV hI h hl
    · have h9 := ccode_no h (vals := vals) (fun h => hl h.1)
      unfold cval
      rw [h9, if_neg (by decide)]
      exact rcode_len va vr vv m w hV io _ ic hv h hl
  · have h9 := ccode_bad (vals := vals) h
    unfold cval
    rw [h9, if_neg h]
    exact rcode_bad va vr vv m w hV io _ ic hv h
end Go.Proofs.YtdlpmomohbdpgaaDoor

/-
  The contract of the document's own FirstCode.
-/
namespace Go.Proofs.YtdlpmomohbdpgaaDoor
open Go.ChangeShapes Go.WideShapes Go.ChangeAt Go.RowKit Go.Deep
open Terms Tm

theorem ivals_inits {l : List Vr} {k : Nat} (h : k < l.length) : ivals (initsL (l.take (k + 1))) = ivals (initsL (l.take k)) ++ [.int .i64 (l.getD k vr0).ini] := by
  rw [List.take_succ_eq_append_getElem h, List.getD_eq_getElem?_getD, List.getElem?_eq_getElem h]
  simp only [ivals, initsL, List.map_append, List.map_cons, List.map_nil, Option.getD_some]

set_option maxHeartbeats 1600000 in
/-- THE CONTRACT OF FirstCode. -/
theorem rfirst_any (va vr : Value) (m : Mo) (w : World) (hz : m.vars.length * 40 ≤ 140737488355328) (hV : ModelV w va vr m) :
    Calls Tryd.prog 14 #[.agg #[va, vr]] w fun e w' => e = .returned (.tuple #[.int .i64 (if mcode m = 0 then codeTo m.vars (initsL m.vars) m.vars.length else 0), .int .i64 (mcode m)]) ∧ Below w.heap.size w w' := by
  have hres : ccode m (initsL m.vars) = mcode m ∧ cval m (initsL m.vars) = if mcode m = 0 then codeTo m.vars (initsL m.vars) m.vars.length else 0 := by
    by_cases h : mcode m = 0
    · have h1 := ccode_yes h (vals := initsL m.vars) ⟨by simp [initsL], inits_in (mcode_vars h)⟩
      refine ⟨by rw [h1, h], ?_⟩
      unfold cval
      rw [h1, if_pos rfl, if_pos h]
    · have h1 := ccode_bad (vals := initsL m.vars) h
      refine ⟨h1, ?_⟩
      unfold cval
      rw [h1, if_neg h]
  have hcf := (fun vv w1 (hb : Below w.heap.size w w1) (hI : IntsV w1 vv (initsL m.vars)) => rcodes_any va vr vv m (initsL m.vars) w1 (hV.below hb) hI)
  rw [hres.1, hres.2] at hcf
  have HCF := (show Hid _ from hcf)
  have HV : Hid (VarsV w va m.vars) := hV.1
  obtain ⟨ao, cap, rfl⟩ := hV.1.shape
  obtain ⟨ro, rc, rfl⟩ := hV.2.shape
  generalize (if mcode m = 0 then codeTo m.vars (initsL m.vars) m.vars.length else 0) = res at *
  generalize mcode m = x at *
  obtain ⟨n, hn⟩ : ∃ n, n = m.vars.length := ⟨_, rfl⟩
  have HN : Hid (n = m.vars.length) := hn
  rw [← hn] at hz HCF HV ⊢
  generalize m.rules.length = rn at *
  obtain ⟨i0, hi, hz0, hz1, hz2⟩ := info_parts infoInt
  clear hV hn hcf hres
  have hA : Below w.heap.size w (w.alloc (.cells #[.slice ao n cap, .slice ro rn rc] 25)) := (Below.refl _ _).alloc (Nat.le_refl _) _
  go_enter Tryd.func14, Tryd.ntmps14
  go_wp2
  go_loopw [4, 5] (fun vv i wr => ∃ k : Nat, k ≤ n ∧ i = .int .i64 k ∧ Hid (wr.ownsRow (w.heap.size + 1) 3 1 vv k (ivals (initsL (m.vars.take k)))) ∧ Below (w.heap.size + 1) (w.alloc (.cells #[.slice ao n cap, .slice ro rn rc] 25)) wr) (fun _ i _ => n - (intOf i).toNat)
  case atStart => exact ⟨0, Nat.zero_le _, rfl, World.ownsRow_nil _ _ _ _, Below.refl _ _⟩
  case round =>
    obtain ⟨k, hk, rfl, HOwn, hbelB⟩ := hrel
    have hbel := hA.trans (hbelB.mono (Nat.le_succ _))
    have hszb : w.heap.size + 1 ≤ wr.heap.size := by have := hbelB.size; simp at this; omega
    have hlb : w.heap.size < wr.heap.size := by omega
    have cb := (hbelB.cell (p := ⟨w.heap.size, 0, none⟩) (by simp)).trans (show _ = some (.slice ao n cap) by simp [go_sem])
    have cb1 := (hbelB.cell (p := ⟨w.heap.size, 1, none⟩) (by simp)).trans (show _ = some (.slice ro rn rc) by simp [go_sem])
    by_cases hlt : k < n
    · obtain ⟨b, off, rfl, hblt, hat⟩ := HV.out.at (i := k) (by rw [← HN.out]; exact hlt)
      obtain ⟨c0, c1, c2, c3⟩ := hat.below hbel hblt
      have HSn := (show Hid _ from ivals_inits (l := m.vars) (k := k) (by rw [← HN.out]; exact hlt))
      generalize m.vars.getD k vr0 = x at *
      obtain ⟨s, lo, hi', ini⟩ := x
      simp only at c0 c1 c2 c3 HSn
      have hown := HOwn.out
      have hnb := hown.lt
      have hown2 := fun o => hown.alloc o
      have h63 : k + 1 ≤ maxLen := by unfold maxLen; omega
      have hkb : (k + 1) * 8 ≤ 140737488355328 := by omega
      have hbase : ∀ o, w.heap.size + 1 ≤ (wr.alloc o).heap.size := fun o => by simp; omega
      clear hat hown
      go_wp2_with (at_builtin; refine wpList_append_own _ rfl (.tmp 15) (.tmp 22) 54 rfl (w.heap.size + 1) 3 i0 (.int .i64 0) 1 8 Tryd.underlying54 hi hz0 hz1 hz2 rfl (by decide) _ k _ rfl (hown2 _) ⟨wr.heap.size, 0, none⟩ 1 1 [.int .i64 ini] rfl rfl (cell_one_new _ _ _) (by intro u hu; simp at hu; subst hu; rfl) h63 hkb (hbase _) ?_)
      intro v' w4 hown' hgrow _
      have hb4 : Below (w.heap.size + 1) (w.alloc (.cells #[.slice (some ⟨b, off, none⟩) n cap, .slice ro rn rc] 25)) w4 := (hbelB.alloc hszb _).grown hgrow (by simp; omega) (fun q hq => (hnb q hq).1)
      have HO4 : Hid (w4.ownsRow (w.heap.size + 1) 3 1 v' (k + 1) (ivals (initsL (m.vars.take (k + 1))))) := by
        show World.ownsRow _ _ _ _ _ _ _
        rw [HSn.out]
        exact hown'
      clear hown' hgrow hown2
      go_wp2
      go_roundw
      case rel => exact ⟨k + 1, hlt, by go_num, HO4, hb4⟩
      case measure => simp [intOf]; omega
    · have hkn : k = n := by omega
      subst hkn
      have hown := HOwn.out
      obtain ⟨vo, vc, rfl⟩ := owns_slice hown
      have hI : IntsV wr (.slice vo k vc) (initsL m.vars) := by
        rw [List.take_of_length_le (by rw [← HN.out]; omega)] at hown
        exact intsV_of_owns (by rw [show (initsL m.vars).length = k by simp [initsL, HN.out]]; exact hown)
      have hcf := HCF.out _ wr hbel hI
      clear hI hown HOwn HCF
      go_wp2_with (go_at_call 26; refine hcf.mono ?_; rintro e w2 ⟨rfl, hb2⟩)
      go_ret2
      exact ⟨rfl, hbel.trans (hb2.mono hbel.size)⟩
end Go.Proofs.YtdlpmomohbdpgaaDoor

/-
  The contract of the document's own worked.
-/
namespace Go.Proofs.YtdlpmomohbdpgaaDoor
open Go.ChangeShapes Go.WideShapes Go.ChangeAt Go.RowKit Go.Deep
open Terms Tm

def wkN (r : Option Int) : Int := match r with
  | some x => x
  | none => 0
def wkC (r : Option Int) : Int := match r with
  | some _ => 0
  | none => 8

/-- what the row of the parts' values is, when those from k on are in it. -/
def RowF (t : Tm) (env : List Int) (base np : Nat) (vao : Option Addr) (wr : World) (k : Nat) : Prop :=
  np = 0 ∨ ∃ g, vao = some ⟨g, 0, none⟩ ∧ base ≤ g ∧ g < wr.heap.size ∧ (∀ j, j < np → wr.frozen? ⟨g, j, none⟩ = false ∧ ∃ u, wr.cell? ⟨g, j, none⟩ = some u) ∧ (∀ j, k ≤ j → j < np → ∃ x, (t.kids.getD j t).eval env = some x ∧ wr.cell? ⟨g, j, none⟩ = some (.int .i64 x))
theorem RowF.later {t : Tm} {env : List Int} {base np k : Nat} {vao : Option Addr} {w w' : World} (h : RowF t env base np vao w k) (hb : Below w.heap.size w w') : RowF t env base np vao w' k := by
  rcases h with h | ⟨g, h1, h2, h3, h4, h5⟩
  · exact .inl h
  · refine .inr ⟨g, h1, h2, Nat.lt_of_lt_of_le h3 hb.size, fun j hj => ?_, fun j hk hj => ?_⟩
    · obtain ⟨f, u, c⟩ := h4 j hj
      exact ⟨(hb.frozen (p := ⟨g, j, none⟩) h3).trans f, u, (hb.cell (p := ⟨g, j, none⟩) h3).trans c⟩
    · obtain ⟨x, e, c⟩ := h5 j hk hj
      exact ⟨x, e, (hb.cell (p := ⟨g, j, none⟩) h3).trans c⟩
theorem RowF.store {t : Tm} {env : List Int} {base np k g : Nat} {x : Int} {w : World} (h : RowF t env base np (some ⟨g, 0, none⟩) w (k + 1)) (hk : k < np) (hx : (t.kids.getD k t).eval env = some x) : RowF t env base np (some ⟨g, 0, none⟩) (w.setCell ⟨g, k, none⟩ (.int .i64 x)) k := by
  rcases h with h | ⟨g', h1, h2, h3, h4, h5⟩
  · omega
  · obtain rfl : g = g' := by simpa using h1
    refine .inr ⟨g, rfl, h2, by simpa using h3, fun j hj => ?_, fun j hkj hj => ?_⟩
    · obtain ⟨f, u, c⟩ := h4 j hj
      refine ⟨by simpa [go_sem] using f, ?_⟩
      by_cases hjk : j = k
      · subst hjk; exact ⟨.int .i64 x, by simp [go_sem, c]⟩
      · exact ⟨u, by rw [← c]; exact World.cell?_setCell_other _ _ _ _ (by intro h; injection h with _ h2; omega)⟩
    · by_cases hjk : j = k
      · subst hjk
        obtain ⟨f, u, c⟩ := h4 j hj
        exact ⟨x, hx, by simp [go_sem, c]⟩
      · obtain ⟨y, e, c⟩ := h5 j (by omega) hj
        exact ⟨y, e, by rw [← c]; exact World.cell?_setCell_other _ _ _ _ (by intro h; injection h with _ h2; omega)⟩

theorem wrE {x : Int} (h1 : -9223372036854775808 ≤ x) (h2 : x ≤ 9223372036854775807) : IntKind.i64.wrap x = x := by
  rw [IntWalk.i64_left]
  exact IntWalk.wrap64_in x ⟨h1, h2⟩
theorem mul_big {x y : Int} (hx : -1000000 ≤ x ∧ x ≤ 1000000) (hy : -1000000 ≤ y ∧ y ≤ 1000000) : -1000000000000 ≤ x * y ∧ x * y ≤ 1000000000000 := by
  have h : (x * y).natAbs ≤ 1000000000000 := by
    rw [Int.natAbs_mul]
    exact Nat.mul_le_mul (show x.natAbs ≤ 1000000 by omega) (show y.natAbs ≤ 1000000 by omega)
  omega
theorem IntsV.atE {w : World} {ao : Option Addr} {cap n : Nat} {l : List Int} (h : IntsV w (.slice ao n cap) l) {i : Nat} (hi : i < l.length) : ∃ b off, ao = some ⟨b, off, none⟩ ∧ b < w.heap.size ∧ w.cell? ⟨b, off + i, none⟩ = some (.int .i64 (l.getD i 0)) := by
  obtain ⟨ao', cap', h1, h3⟩ := h
  injection h1 with e1 e2 e3
  subst e1
  obtain ⟨b, off, e, hb, hh⟩ := h3 (by intro h; subst h; simp at hi)
  exact ⟨b, off, e, hb, hh i hi⟩
theorem eval_kid_none {t : Tm} {env : List Int} {k : Nat} (hk : k < t.kids.length) (h : (t.kids.getD k t).eval env = none) : t.eval env = none := by
  cases t with
  | leaf a b => simp [kids] at hk
  | un a b s =>
    have : k = 0 := by simp [kids] at hk; exact hk
    subst this
    simp only [kids, List.getD_cons_zero] at h
    simp [eval, h]
  | bi a b s u =>
    have hk2 : k = 0 ∨ k = 1 := by simp [kids] at hk; omega
    rcases hk2 with rfl | rfl
    · simp only [kids, List.getD_cons_zero] at h
      simp [eval, h]
    · simp only [kids, List.getD_cons_succ, List.getD_cons_zero] at h
      cases hs : s.eval env <;> simp [eval, h, hs]

set_option maxHeartbeats 1600000 in
set_option maxRecDepth 20000 in
theorem worked_any (eao : Option Addr) (ecap en : Nat) (env : List Int) (hev : Hid (EnvOk env)) (hen : Hid (env.length = en)) (d : Nat) : ∀ (t : Tm) (v : Value) (w : World), t.size ≤ d → t.size ≤ 60 → t.Good en → t.typed = true → OpsV w v t.ops → IntsV w (.slice eao en ecap) env →
    Calls Tryd.prog 48 #[v, .slice eao en ecap] w fun e w' => e = .returned (.tuple #[.int .i64 (wkN (t.eval env)), .int .i64 (wkC (t.eval env))]) ∧ Below w.heap.size w w' := by
  induction d with
  | zero => intro t v w hd; have := t.size_pos; omega
  | succ d ih =>
    intro t v w hd h60 hg hty hV hE
    have hsp := splitOf_any v t.ops w hV
    rw [splitL_tree hg.wf h60, tree_code hg.wf h60] at hsp
    obtain ⟨i0, hi, hz0, hz1, hz2⟩ := info_parts infoInt
    have HV : Hid (OpsV w v t.ops) := hV
    have HE : Hid (IntsV w (.slice eao en ecap) env) := hE
    have HGT : Hid (t.Good en ∧ t.typed = true) := ⟨hg, hty⟩
    obtain ⟨va, vn, vc, hvs⟩ : ∃ a n c, v = .slice a n c := by obtain ⟨a, c, rfl, _⟩ := hV; exact ⟨_, _, _, rfl⟩
    subst hvs
    have hk2 := t.kids_le
    have HS : Hid (∀ i, i < t.kids.length → (t.kids.getD i t).size ≤ d ∧ (t.kids.getD i t).size ≤ 60 ∧ (t.kids.getD i t).Good en ∧ (t.kids.getD i t).typed = true) := fun i hi => by
      have := t.kid_at hi
      exact ⟨by omega, by omega, hg.kid hi, ((typed_kids t).1 hty i hi).2⟩
    obtain ⟨np, hnp⟩ : ∃ np, np = t.kids.length := ⟨_, rfl⟩
    have HNP : Hid (np = t.kids.length) := hnp
    rw [← hnp] at hk2
    obtain ⟨res, hres⟩ : ∃ res, t.eval env = res := ⟨_, rfl⟩
    rw [hres]
    have HRS : Hid (t.eval env = res) := hres
    clear hV hE hnp hres hg hty
    go_enter Tryd.func48, Tryd.ntmps48
    go_wp2_with (go_at_call 67; refine hsp.mono ?_; rintro e w1 ⟨tv, rfl, hb1, ht⟩; obtain ⟨tao, tcap, htv, htat⟩ := ht; rw [List.length_map, ← HNP.out] at htv; subst htv)
    have HT := (show Hid _ from htat)
    clear htat hsp
    go_loopw [8, 9] (fun vv c wr => ∃ i : Nat, i ≤ np ∧ c = .int .i64 i ∧ wr.ownsRow w1.heap.size 3 1 vv i (List.replicate i (.int .i64 0)) ∧ Below w1.heap.size w1 wr) (fun _ c _ => np - (intOf c).toNat)
    case atStart => exact ⟨0, Nat.zero_le _, rfl, World.ownsRow_nil _ _ _ _, Below.refl _ _⟩
    case round =>
      obtain ⟨i, hile, rfl, hown, hbel⟩ := hrel
      by_cases hlt : i < np
      · have hsz := hbel.size
        go_wp2_with (at_builtin; refine wpList_append_own _ rfl (.tmp 26) (.tmp 27) 54 rfl w1.heap.size 3 i0 (.int .i64 0) 1 8 Tryd.underlying54 hi hz0 hz1 hz2 rfl (by decide) _ _ _ rfl (hown.alloc _) ⟨_, 0, none⟩ 1 1 [.int .i64 0] rfl rfl (cell_one_new _ _ _) ?c2 ?c3 ?c4 ?c5 ?_)
        case c2 => intro u hu; simp at hu; subst hu; rfl
        case c3 => unfold maxLen; omega
        case c4 => omega
        case c5 => simp; omega
        intro v' w4 hown' hgrow _
        have hb4 : Below w1.heap.size w1 w4 := (hbel.alloc (by omega) _).grown hgrow (by simp; omega) (fun q hq => (hown.lt q hq).1)
        have ho4 : w4.ownsRow w1.heap.size 3 1 v' (i + 1) (List.replicate (i + 1) (.int .i64 0)) := by
          rw [List.replicate_succ']; exact hown'
        clear hown' hgrow hown
        go_wp2
        go_roundw
        case rel => exact ⟨i + 1, by omega, by go_num, ho4, hb4⟩
        case measure => simp [intOf]; omega
      · have hin : i = np := by omega
        subst hin
        clear hlt hile
        generalize wr = wo at *
        go_wp2_with fail
        obtain ⟨vao, vcap, rfl⟩ := owns_slice hown
        have HR0 : Hid (RowF t env w1.heap.size i vao wo i) := by
          show RowF _ _ _ _ _ _ _
          rcases hown.2 with ⟨h1, h2⟩ | ⟨g, cap, cur, h1, h2, h3, h4⟩
          · exact .inl h2
          · injection h1 with e1 e2 e3
            refine .inr ⟨g, e1, h2, (Array.getElem?_eq_some_iff.1 h3).1, fun j hj => ⟨by simp [World.frozen?, h3], ?_⟩, fun j hkj hj => by omega⟩
            exact ⟨.int .i64 0, by rw [e1, e3] at hown; rw [hown.cellAt j (by omega)]; simp [hj]⟩
        have HBo : Hid (Below w1.heap.size w1 wo) := hbel
        clear hown hbel
        go_loopw [10] (fun c wr => ∃ k : Nat, k ≤ i ∧ c = .int .i64 ((k : Int) - 1) ∧ Below w1.heap.size w1 wr ∧ Hid (RowF t env w1.heap.size i vao wr k)) (fun c _ => ((intOf c) + 1).toNat)
        case atStart => exact ⟨i, Nat.le_refl _, by go_num, HBo.out, HR0.out⟩
        case round =>
          obtain ⟨k, hki, rfl, hbel, HR⟩ := hrel
          by_cases hk : 0 < k
          · obtain ⟨k, rfl⟩ : ∃ k', k = k' + 1 := ⟨k - 1, by omega⟩
            rw [show (((k + 1 : Nat) : Int) - 1) = (k : Int) by omega]
            have hltk : k < t.kids.length := by rw [← HNP.out]; omega
            obtain ⟨tb, toff, rfl, hbl, hcs⟩ := HT.out (by intro h; have := congrArg List.length h; rw [List.length_map] at this; simp at this; rw [this] at hltk; simp at hltk)
            obtain ⟨u, hu, hou⟩ := hcs k (by rw [List.length_map]; exact hltk)
            have hgd : (t.kids.map ops).getD k [] = (t.kids.getD k t).ops := by
              rw [List.getD_eq_getElem?_getD, List.getElem?_map, List.getD_eq_getElem?_getD, List.getElem?_eq_getElem hltk]
              rfl
            rw [hgd] at hou
            obtain ⟨hs1, hs2, hs3, hs4⟩ := HS.out k hltk
            have hbw := hb1.trans (hbel.mono hb1.size)
            have hrec := ih (t.kids.getD k t) u wr hs1 hs2 hs3 hs4 (hou.below hbel) (HE.out.below hbw)
            clear ih
            have hcu := (hbel.cell (p := ⟨tb, toff + k, none⟩) hbl).trans hu
            obtain ⟨ua, un, uc, hus⟩ : ∃ a n c, u = .slice a n c := by obtain ⟨a, c, rfl, _⟩ := hou; exact ⟨_, _, _, rfl⟩
            subst hus
            have HBw : Hid (Below w.heap.size w wr) := hbw
            have HBe : Hid (Below w1.heap.size w1 wr) := hbel
            cases hx : (t.kids.getD k t).eval env with
            | none =>
              rw [hx] at hrec
              have HX : Hid (res = none) := by
                show _ = _
                rw [← HRS.out]
                exact eval_kid_none hltk hx
              simp only [wkN, wkC] at hrec
              clear hgd hou hu hcs hs1 hs2 hs3 hs4 hx hbel hbw
              go_wp2_with (go_at_call 48; refine hrec.mono ?_; rintro e w2 ⟨rfl, hb2⟩)
              go_ret2
              rw [HX.out]
              exact ⟨rfl, HBw.out.trans (hb2.mono HBw.out.size)⟩
            | some x =>
              rw [hx] at hrec
              simp only [wkN, wkC] at hrec
              obtain ⟨g, rfl, hg1, hg2, hg3, _⟩ := HR.out.resolve_left (by omega)
              have HX : Hid ((t.kids.getD k t).eval env = some x) := hx
              have HFZ := (show Hid _ from hg3 k (by omega))
              clear hgd hou hu hcs hs1 hs2 hs3 hs4 hx hbel hbw hg3
              go_wp2_with (go_at_call 48; refine hrec.mono ?_; rintro e w2 ⟨rfl, hb2⟩; obtain ⟨hf0, u0, hc0⟩ := HFZ.out; have hf2 := (hb2.frozen (p := ⟨g, k, none⟩) hg2).trans hf0; have hc2 := (hb2.cell (p := ⟨g, k, none⟩) hg2).trans hc0)
              go_roundw
              case rel => exact ⟨k, by omega, by go_num, (HBe.out.trans (hb2.mono HBe.out.size)).setCell (p := ⟨g, k, none⟩) hg1 _, RowF.store (HR.out.later hb2) (by omega) HX.out⟩
              case measure => simp [intOf]
          · have hk0 : k = 0 := by omega
            subst hk0
            have hbw := hb1.trans (hbel.mono hb1.size)
            obtain ⟨bo, bcap, hbe, _, hbh⟩ := HV.out
            obtain ⟨b, off, rfl, hblt, hbat⟩ := hbh t.ops_ne
            injection hbe with e1 e2 e3
            subst e1 e2 e3
            have hhd := hbat 0 (by rw [ops_length]; exact t.size_pos)
            rw [t.ops_head] at hhd
            simp only [Nat.zero_mul, Nat.add_zero] at hhd
            have c0 := (hbw.cell (p := ⟨b, off, none⟩) hblt).trans hhd.1
            have c1 := (hbw.cell (p := ⟨b, off + 1, none⟩) hblt).trans hhd.2
            have hln : 0 < t.ops.length := by rw [ops_length]; exact t.size_pos
            generalize hol : t.ops.length = ol at *
            have HHE : Hid (IntsV wr (.slice eao en ecap) env) := HE.out.below hbw
            have hrow := HR.out
            clear hbat hbh hol hhd HV HT HS HR HR0 HBo ih hk hki
            cases t with
            | leaf k v =>
              have hi0 : i = 0 := HNP.out
              subst hi0
              simp only [kind, val] at c0 c1
              have HRv : Hid (res = some (if k = 1 then v else if k = 2 then env.getD v.toNat 0 else if k = 11 then 1 else 0)) := HRS.out.symm
              have hgd : (k = 1 ∧ -1000 ≤ v ∧ v ≤ 1000) ∨ (k = 2 ∧ 0 ≤ v ∧ v ≤ (en : Int) - 1) ∨ ((k = 11 ∨ k = 12) ∧ v = 0) := HGT.out.1
              clear HRS HGT HNP hrow
              rcases hgd with ⟨rfl, hv1, hv2⟩ | ⟨rfl, hv1, hv2⟩ | ⟨rfl | rfl, rfl⟩
              · have hin := fun w => in_any v (-1000000) 1000000 w
                rw [decide_eq_true (show -1000000 ≤ v ∧ v ≤ 1000000 by omega)] at hin
                go_wp2_with (go_at_call 30; refine (hin _).mono ?_; rintro e w2 ⟨rfl, rfl⟩)
                go_ret2
                rw [HRv.out]
                exact ⟨rfl, hbw⟩
              · obtain ⟨j, rfl⟩ : ∃ j : Nat, v = (j : Int) := ⟨v.toNat, by omega⟩
                have hj : j < env.length := by rw [hen.out]; omega
                obtain ⟨eb, eoff, hea, _, hec⟩ := (show IntsV wr (.slice eao en ecap) env from HHE.out) |> fun h => IntsV.atE h hj
                subst hea
                have hb := hev.out j hj
                have HEV : Hid (res = some (env.getD j 0)) := by show _ = _; rw [HRv.out]; simp
                generalize env.getD j 0 = y at *
                have hin := fun w => in_any y (-1000000) 1000000 w
                rw [decide_eq_true hb] at hin
                have hj0 : (0 : Int) ≤ (j : Int) := Int.natCast_nonneg _
                have hj1 : (j : Int) < (en : Int) := by omega
                clear HRv HHE
                go_wp2_with (go_at_call 30; refine (hin _).mono ?_; rintro e w2 ⟨rfl, rfl⟩)
                go_ret2
                rw [HEV.out]
                exact ⟨rfl, hbw⟩
              · have hin := fun w => in_any 1 (-1000000) 1000000 w
                rw [decide_eq_true (by omega)] at hin
                go_wp2_with (go_at_call 30; refine (hin _).mono ?_; rintro e w2 ⟨rfl, rfl⟩)
                go_ret2
                rw [HRv.out]
                exact ⟨rfl, hbw⟩
              · have hin := fun w => in_any 0 (-1000000) 1000000 w
                rw [decide_eq_true (by omega)] at hin
                go_wp2_with (go_at_call 30; refine (hin _).mono ?_; rintro e w2 ⟨rfl, rfl⟩)
                go_ret2
                rw [HRv.out]
                exact ⟨rfl, hbw⟩
            | un k v a =>
              have hi0 : i = 1 := HNP.out
              subst hi0
              obtain ⟨g, rfl, hg1, hg2, _, hg4⟩ := hrow.resolve_left (by omega)
              obtain ⟨x, hx, cx⟩ := hg4 0 (Nat.le_refl _) (by omega)
              simp only [kids, List.getD_cons_zero] at hx
              obtain ⟨hgk, hgv, hga⟩ := HGT.out.1
              have hty := HGT.out.2
              simp only [typed, Bool.and_eq_true, beq_iff_eq] at hty
              subst hgk hgv
              have hxx := (eval_le hev.out hen.out hga hty.2 x hx).2 (by rw [hty.1]; rfl)
              have HRv : Hid (res = some (1 - x)) := by show _ = _; rw [← HRS.out]; simp [eval, hx]
              simp only [kind, val] at c0 c1
              clear HRS HGT HNP hrow hg4 hx hga hty HHE
              rcases hxx with rfl | rfl
              · have hin := fun w => in_any 1 (-1000000) 1000000 w
                rw [decide_eq_true (by omega)] at hin
                go_wp2_with (go_at_call 30; refine (hin _).mono ?_; rintro e w2 ⟨rfl, rfl⟩)
                go_ret2
                rw [HRv.out]
                exact ⟨rfl, hbw⟩
              · have hin := fun w => in_any 0 (-1000000) 1000000 w
                rw [decide_eq_true (by omega)] at hin
                go_wp2_with (go_at_call 30; refine (hin _).mono ?_; rintro e w2 ⟨rfl, rfl⟩)
                go_ret2
                rw [HRv.out]
                exact ⟨rfl, hbw⟩
            | bi k v a a' =>
              have hi0 : i = 2 := HNP.out
              subst hi0
              obtain ⟨g, rfl, hg1, hg2, _, hg4⟩ := hrow.resolve_left (by omega)
              obtain ⟨x, hx, cx⟩ := hg4 0 (Nat.zero_le _) (by omega)
              obtain ⟨y, hy, cy⟩ := hg4 1 (Nat.zero_le _) (by omega)
              simp only [kids, List.getD_cons_zero, List.getD_cons_succ] at hx hy
              obtain ⟨hk3, hk9, hgv, hga, hga'⟩ := HGT.out.1
              have hty := HGT.out.2
              simp only [typed, Bool.and_eq_true, beq_iff_eq] at hty
              subst hgv
              have hxb := eval_le hev.out hen.out hga hty.1.2 x hx
              have hyb := eval_le hev.out hen.out hga' hty.2.2 y hy
              rw [hty.1.1] at hxb
              rw [hty.2.1] at hyb
              have HRv : Hid (res = lid (bin k x y)) := by show _ = _; rw [← HRS.out]; simp [eval, hx, hy]
              simp only [kind, val] at c0 c1
              obtain ⟨⟨hx1, hx2⟩, hxt⟩ := hxb
              obtain ⟨⟨hy1, hy2⟩, hyt⟩ := hyb
              clear HRS HGT HNP hrow hg4 hx hy hga hga' hty HHE
              have hm1 : -1000000000000 ≤ x * y ∧ x * y ≤ 1000000000000 := mul_big ⟨hx1, hx2⟩ ⟨hy1, hy2⟩
              have hkk : k = 3 ∨ k = 4 ∨ k = 5 ∨ k = 6 ∨ k = 7 ∨ k = 8 ∨ k = 9 := by omega
              rcases hkk with rfl | rfl | rfl | rfl | rfl | rfl | rfl
              · have hw : IntKind.i64.wrap (x + y) = x + y := wrE (by omega) (by omega)
                have hbn : bin 3 x y = x + y := rfl
                rw [hbn] at HRv
                have hin := fun w => in_any (x + y) (-1000000) 1000000 w
                by_cases hr : -1000000 ≤ x + y ∧ x + y ≤ 1000000
                · rw [decide_eq_true hr] at hin
                  have HR2 : Hid (res = some (x + y)) := by show _ = _; rw [HRv.out]; unfold lid; rw [if_pos hr]
                  clear HRv hbn
                  go_wp2_with fail
                  go_quiet (fail)
                  go_wp2_with (go_at_call 30; refine (hin _).mono ?_; rintro e w2 ⟨rfl, rfl⟩)
                  go_ret2
                  rw [HR2.out]
                  exact ⟨rfl, below_drewN hbw _⟩
                · rw [decide_eq_false hr] at hin
                  have HR2 : Hid (res = none) := by show _ = _; rw [HRv.out]; unfold lid; rw [if_neg hr]
                  clear HRv hbn hr
                  go_wp2_with fail
                  go_quiet (fail)
                  go_wp2_with (go_at_call 30; refine (hin _).mono ?_; rintro e w2 ⟨rfl, rfl⟩)
                  go_ret2
                  rw [HR2.out]
                  exact ⟨rfl, below_drewN hbw _⟩
              · have hw : IntKind.i64.wrap (x - y) = x - y := wrE (by omega) (by omega)
                have hbn : bin 4 x y = x - y := rfl
                rw [hbn] at HRv
                have hin := fun w => in_any (x - y) (-1000000) 1000000 w
                by_cases hr : -1000000 ≤ x - y ∧ x - y ≤ 1000000
                · rw [decide_eq_true hr] at hin
                  have HR2 : Hid (res = some (x - y)) := by show _ = _; rw [HRv.out]; unfold lid; rw [if_pos hr]
                  clear HRv hbn
                  go_wp2_with fail
                  go_quiet (fail)
                  go_wp2_with (go_at_call 30; refine (hin _).mono ?_; rintro e w2 ⟨rfl, rfl⟩)
                  go_ret2
                  rw [HR2.out]
                  exact ⟨rfl, below_drewN hbw _⟩
                · rw [decide_eq_false hr] at hin
                  have HR2 : Hid (res = none) := by show _ = _; rw [HRv.out]; unfold lid; rw [if_neg hr]
                  clear HRv hbn hr
                  go_wp2_with fail
                  go_quiet (fail)
                  go_wp2_with (go_at_call 30; refine (hin _).mono ?_; rintro e w2 ⟨rfl, rfl⟩)
                  go_ret2
                  rw [HR2.out]
                  exact ⟨rfl, below_drewN hbw _⟩
              · have hw : IntKind.i64.wrap (x * y) = x * y := wrE (by omega) (by omega)
                have hbn : bin 5 x y = x * y := rfl
                rw [hbn] at HRv
                have hin := fun w => in_any (x * y) (-1000000) 1000000 w
                by_cases hr : -1000000 ≤ x * y ∧ x * y ≤ 1000000
                · rw [decide_eq_true hr] at hin
                  have HR2 : Hid (res = some (x * y)) := by show _ = _; rw [HRv.out]; unfold lid; rw [if_pos hr]
                  clear HRv hbn
                  go_wp2_with fail
                  go_quiet (fail)
                  go_wp2_with (go_at_call 30; refine (hin _).mono ?_; rintro e w2 ⟨rfl, rfl⟩)
                  go_ret2
                  rw [HR2.out]
                  exact ⟨rfl, below_drewN hbw _⟩
                · rw [decide_eq_false hr] at hin
                  have HR2 : Hid (res = none) := by show _ = _; rw [HRv.out]; unfold lid; rw [if_neg hr]
                  clear HRv hbn hr
                  go_wp2_with fail
                  go_quiet (fail)
                  go_wp2_with (go_at_call 30; refine (hin _).mono ?_; rintro e w2 ⟨rfl, rfl⟩)
                  go_ret2
                  rw [HR2.out]
                  exact ⟨rfl, below_drewN hbw _⟩
              · have hbn : bin 6 x y = if x = y then 1 else 0 := rfl
                rw [hbn] at HRv
                by_cases hc : x = y
                · have hin := fun w => in_any 1 (-1000000) 1000000 w
                  rw [decide_eq_true (by omega)] at hin
                  have HR2 : Hid (res = some 1) := by show _ = _; rw [HRv.out, if_pos hc]; rfl
                  clear HRv hbn
                  subst hc
                  go_wp2_with fail
                  go_quiet (fail)
                  go_wp2_with (go_at_call 30; refine (hin _).mono ?_; rintro e w2 ⟨rfl, rfl⟩)
                  go_ret2
                  rw [HR2.out]
                  exact ⟨rfl, below_drewN hbw _⟩
                · have hin := fun w => in_any 0 (-1000000) 1000000 w
                  rw [decide_eq_true (by omega)] at hin
                  have HR2 : Hid (res = some 0) := by show _ = _; rw [HRv.out, if_neg hc]; rfl
                  have hne : (x == y) = false := by simpa using hc
                  clear HRv hbn
                  go_wp2_with fail
                  go_quiet (fail)
                  go_wp2_with (go_at_call 30; refine (hin _).mono ?_; rintro e w2 ⟨rfl, rfl⟩)
                  go_ret2
                  rw [HR2.out]
                  exact ⟨rfl, below_drewN hbw _⟩
              · have hbn : bin 7 x y = if x < y then 1 else 0 := rfl
                rw [hbn] at HRv
                by_cases hc : x < y
                · have hin := fun w => in_any 1 (-1000000) 1000000 w
                  rw [decide_eq_true (by omega)] at hin
                  have HR2 : Hid (res = some 1) := by show _ = _; rw [HRv.out, if_pos hc]; rfl
                  clear HRv hbn
                  skip
                  go_wp2_with fail
                  go_quiet (fail)
                  go_wp2_with (go_at_call 30; refine (hin _).mono ?_; rintro e w2 ⟨rfl, rfl⟩)
                  go_ret2
                  rw [HR2.out]
                  exact ⟨rfl, below_drewN hbw _⟩
                · have hin := fun w => in_any 0 (-1000000) 1000000 w
                  rw [decide_eq_true (by omega)] at hin
                  have HR2 : Hid (res = some 0) := by show _ = _; rw [HRv.out, if_neg hc]; rfl
                  skip
                  clear HRv hbn
                  go_wp2_with fail
                  go_quiet (fail)
                  go_wp2_with (go_at_call 30; refine (hin _).mono ?_; rintro e w2 ⟨rfl, rfl⟩)
                  go_ret2
                  rw [HR2.out]
                  exact ⟨rfl, below_drewN hbw _⟩
              · have hxx := hxt rfl
                have hyy := hyt rfl
                rcases hxx with rfl | rfl <;> rcases hyy with rfl | rfl
                · have hin := fun w => in_any 0 (-1000000) 1000000 w
                  rw [decide_eq_true (by omega)] at hin
                  have HR2 : Hid (res = some 0) := by show _ = _; rw [HRv.out]; rfl
                  clear HRv
                  go_wp2_with (go_at_call 30; refine (hin _).mono ?_; rintro e w2 ⟨rfl, rfl⟩)
                  go_ret2
                  rw [HR2.out]
                  exact ⟨rfl, hbw⟩
                · have hin := fun w => in_any 0 (-1000000) 1000000 w
                  rw [decide_eq_true (by omega)] at hin
                  have HR2 : Hid (res = some 0) := by show _ = _; rw [HRv.out]; rfl
                  clear HRv
                  go_wp2_with (go_at_call 30; refine (hin _).mono ?_; rintro e w2 ⟨rfl, rfl⟩)
                  go_ret2
                  rw [HR2.out]
                  exact ⟨rfl, hbw⟩
                · have hin := fun w => in_any 0 (-1000000) 1000000 w
                  rw [decide_eq_true (by omega)] at hin
                  have HR2 : Hid (res = some 0) := by show _ = _; rw [HRv.out]; rfl
                  clear HRv
                  go_wp2_with (go_at_call 30; refine (hin _).mono ?_; rintro e w2 ⟨rfl, rfl⟩)
                  go_ret2
                  rw [HR2.out]
                  exact ⟨rfl, hbw⟩
                · have hin := fun w => in_any 1 (-1000000) 1000000 w
                  rw [decide_eq_true (by omega)] at hin
                  have HR2 : Hid (res = some 1) := by show _ = _; rw [HRv.out]; rfl
                  clear HRv
                  go_wp2_with (go_at_call 30; refine (hin _).mono ?_; rintro e w2 ⟨rfl, rfl⟩)
                  go_ret2
                  rw [HR2.out]
                  exact ⟨rfl, hbw⟩
              · have hxx := hxt rfl
                have hyy := hyt rfl
                rcases hxx with rfl | rfl <;> rcases hyy with rfl | rfl
                · have hin := fun w => in_any 0 (-1000000) 1000000 w
                  rw [decide_eq_true (by omega)] at hin
                  have HR2 : Hid (res = some 0) := by show _ = _; rw [HRv.out]; rfl
                  clear HRv
                  go_wp2_with (go_at_call 30; refine (hin _).mono ?_; rintro e w2 ⟨rfl, rfl⟩)
                  go_ret2
                  rw [HR2.out]
                  exact ⟨rfl, hbw⟩
                · have hin := fun w => in_any 1 (-1000000) 1000000 w
                  rw [decide_eq_true (by omega)] at hin
                  have HR2 : Hid (res = some 1) := by show _ = _; rw [HRv.out]; rfl
                  clear HRv
                  go_wp2_with (go_at_call 30; refine (hin _).mono ?_; rintro e w2 ⟨rfl, rfl⟩)
                  go_ret2
                  rw [HR2.out]
                  exact ⟨rfl, hbw⟩
                · have hin := fun w => in_any 1 (-1000000) 1000000 w
                  rw [decide_eq_true (by omega)] at hin
                  have HR2 : Hid (res = some 1) := by show _ = _; rw [HRv.out]; rfl
                  clear HRv
                  go_wp2_with (go_at_call 30; refine (hin _).mono ?_; rintro e w2 ⟨rfl, rfl⟩)
                  go_ret2
                  rw [HR2.out]
                  exact ⟨rfl, hbw⟩
                · have hin := fun w => in_any 1 (-1000000) 1000000 w
                  rw [decide_eq_true (by omega)] at hin
                  have HR2 : Hid (res = some 1) := by show _ = _; rw [HRv.out]; rfl
                  clear HRv
                  go_wp2_with (go_at_call 30; refine (hin _).mono ?_; rintro e w2 ⟨rfl, rfl⟩)
                  go_ret2
                  rw [HR2.out]
                  exact ⟨rfl, hbw⟩
end Go.Proofs.YtdlpmomohbdpgaaDoor

/-
  The contract of the document's own Evaluated.
-/
namespace Go.Proofs.YtdlpmomohbdpgaaDoor
open Go.ChangeShapes Go.WideShapes Go.ChangeAt Go.RowKit Go.Deep
open Terms Tm

set_option maxHeartbeats 1600000 in
/-- THE CONTRACT OF Evaluated. -/
theorem evaluated_any (v ev : Value) (l : List (Int × Int)) (env : List Int) (t : Tm) (w : World) (hV : OpsV w v l) (hE : IntsV w ev env) (ht : endsCode (l.map Prod.fst) = 0 → t.Wf ∧ t.ops = l) :
    Calls Tryd.prog 28 #[v, ev] w fun e w' => e = .returned (.tuple #[.int .i64 (evalN l t env), .int .i64 (evalC l t env)]) ∧ Below w.heap.size w w' := by
  have hch := exprChecked_any v l env.length t w hV ht
  obtain ⟨va, vc, rfl⟩ : ∃ ao cap, v = .slice ao l.length cap := by obtain ⟨ao, cap, h, _⟩ := hV; exact ⟨ao, cap, h⟩
  obtain ⟨eao, ecap, rfl⟩ : ∃ ao cap, ev = .slice ao env.length cap := by obtain ⟨ao, cap, h, _⟩ := hE; exact ⟨ao, cap, h⟩
  by_cases hx : xcode env.length l t = 0
  · obtain ⟨h0, h6, hops, hg, htt, h60⟩ := xcode_zero hx ht
    have HWK : Hid (EnvOk env → ∀ w1, Below w.heap.size w w1 → Calls Tryd.prog 48 #[.slice va l.length vc, .slice eao env.length ecap] w1 fun e w' => e = .returned (.tuple #[.int .i64 (wkN (t.eval env)), .int .i64 (wkC (t.eval env))]) ∧ Below w1.heap.size w1 w') :=
      fun hok w1 hb => worked_any eao ecap env.length env hok rfl _ t _ w1 (Nat.le_refl _) h60 hg htt (by rw [hops]; exact hV.below hb) (hE.below hb)
    have HE : Hid (IntsV w (.slice eao env.length ecap) env) := hE
    have HBad : Hid (envBad env = true → evalN l t env = 0 ∧ evalC l t env = 2) := fun h => by
      unfold evalN evalC
      simp [hx, h]
    have HOk : Hid (envBad env = false → evalN l t env = wkN (t.eval env) ∧ evalC l t env = wkC (t.eval env)) := fun h => by
      unfold evalN evalC wkN wkC
      simp only [hx, h]
      cases t.eval env <;> simp
    rw [hx] at hch
    generalize (decide ((0 : Int) = 0) && mkT t.kind) = bb at hch
    generalize evalN l t env = rn at *
    generalize evalC l t env = rc at *
    generalize wkN (t.eval env) = kn at *
    generalize wkC (t.eval env) = kc at *
    obtain ⟨n, hn⟩ : ∃ n, n = env.length := ⟨_, rfl⟩
    have HN : Hid (n = env.length) := hn
    rw [← hn] at h6 hch HWK HE ⊢
    generalize l.length = ln at *
    clear hV hE ht hx hops hg htt h60 h0 hn
    go_enter Tryd.func28, Tryd.ntmps28
    go_wp2_with (go_at_call 47; refine hch.mono ?_; rintro e w1 ⟨rfl, hb1⟩)
    go_loopw [8] (fun i wr => ∃ k : Nat, k ≤ n ∧ i = .int .i64 k ∧ Hid (∀ j, j < k → -1000000 ≤ env.getD j 0 ∧ env.getD j 0 ≤ 1000000) ∧ wr = w1) (fun i _ => n - (intOf i).toNat)
    case atStart => exact ⟨0, Nat.zero_le _, rfl, fun j hj => by omega, rfl⟩
    case round =>
      obtain ⟨k, hk, rfl, HJ, rfl⟩ := hrel
      by_cases hlt : k < n
      · obtain ⟨b, off, rfl, hblt, hc⟩ := IntsV.atE HE.out (i := k) (by rw [← HN.out]; exact hlt)
        have hc2 := (hb1.cell (p := ⟨b, off + k, none⟩) hblt).trans hc
        have HBk : Hid (¬ (-1000000 ≤ env.getD k 0 ∧ env.getD k 0 ≤ 1000000) → rn = 0 ∧ rc = 2) := fun h => HBad.out (envBad_at (by rw [← HN.out]; exact hlt) h)
        have HJ2 : Hid (-1000000 ≤ env.getD k 0 ∧ env.getD k 0 ≤ 1000000 → ∀ j, j < k + 1 → -1000000 ≤ env.getD j 0 ∧ env.getD j 0 ≤ 1000000) := fun h j hj => by
          by_cases hjk : j = k
          · subst hjk; exact h
          · exact HJ.out j (by omega)
        generalize env.getD k 0 = y at *
        have hin := fun w => in_any y (-1000000) 1000000 w
        clear hc HJ HWK hch
        by_cases hr : -1000000 ≤ y ∧ y ≤ 1000000
        · rw [decide_eq_true hr] at hin
          have HJ3 := (show Hid _ from HJ2.out hr)
          clear HJ2 HBk hr
          go_wp2_with (go_at_call 30; refine (hin _).mono ?_; rintro e w2 ⟨rfl, rfl⟩)
          go_roundw
          case rel => exact ⟨k + 1, hlt, by go_num, HJ3, by first | rfl | trivial⟩
          case measure => simp [intOf]; omega
        · rw [decide_eq_false hr] at hin
          have HR := (show Hid _ from HBk.out hr)
          clear HJ2 HBk hr
          go_wp2_with (go_at_call 30; refine (hin _).mono ?_; rintro e w2 ⟨rfl, rfl⟩)
          go_ret2
          rw [HR.out.1, HR.out.2]
          exact ⟨rfl, hb1⟩
      · have hok : ∀ i, i < env.length → -1000000 ≤ env.getD i 0 ∧ env.getD i 0 ≤ 1000000 := fun i hi => HJ.out i (by have := HN.out; omega)
        have HR := (show Hid _ from HOk.out (envBad_ok hok))
        have hwk := HWK.out hok _ hb1
        clear HJ HWK HOk HBad hok hch
        go_wp2_with (go_at_call 48; refine hwk.mono ?_; rintro e w2 ⟨rfl, hb2⟩)
        go_ret2
        rw [HR.out.1, HR.out.2]
        exact ⟨rfl, hb1.trans (hb2.mono hb1.size)⟩
  · have h1 : evalN l t env = 0 ∧ evalC l t env = xcode env.length l t := by
      unfold evalN evalC
      simp [hx]
    rw [h1.1, h1.2]
    generalize xcode env.length l t = x at *
    rw [show (decide (x = 0) && mkT t.kind) = false by simp [hx]] at hch
    generalize env.length = n at *
    generalize l.length = ln at *
    clear hV hE ht h1
    go_enter Tryd.func28, Tryd.ntmps28
    go_wp2_with (go_at_call 47; refine hch.mono ?_; rintro e w1 ⟨rfl, hb1⟩)
    go_ret2
    exact ⟨rfl, hb1⟩
end Go.Proofs.YtdlpmomohbdpgaaDoor
