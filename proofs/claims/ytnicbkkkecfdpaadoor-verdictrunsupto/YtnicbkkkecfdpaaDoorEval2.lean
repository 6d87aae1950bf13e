/-
  The contract of expr.Eval, where Check says yes.
-/
import Derived.Test.YtnicbkkkecfdpaaDoorEval
namespace Go.Proofs.YtnicbkkkecfdpaaDoor
open Go.ChangeShapes Go.WideShapes Go.ChangeAt Go.RowKit Go.Deep
open Terms Tm

/-- the values, as they lie. -/
def EnvAt (w : World) (eao : Option Addr) (env : List Int) : Prop := ∀ i, i < env.length → ∃ eb eoff, eao = some ⟨eb, eoff, none⟩ ∧ eb < w.heap.size ∧ w.cell? ⟨eb, eoff + i, none⟩ = some (.int .i64 (env.getD i 0))
theorem EnvAt.later {w w' : World} {eao : Option Addr} {env : List Int} (h : EnvAt w eao env) (hb : Below w.heap.size w w') : EnvAt w' eao env := fun i hi => by
  obtain ⟨eb, eoff, e1, e2, e3⟩ := h i hi
  exact ⟨eb, eoff, e1, Nat.lt_of_lt_of_le e2 hb.size, (hb.cell (p := ⟨eb, eoff + i, none⟩) e2).trans e3⟩

def evalPost (env : List Int) (t : Tm) (w : World) (e : Ending) (w' : World) : Prop :=
  e = .returned (.tuple #[.int .i64 (if envBad env = true then 0 else match t.eval env with | some x => x | none => 0), .int .i64 (if envBad env = true then 2 else match t.eval env with | some _ => 0 | none => 8)]) ∧ Below w.heap.size w w'

set_option maxHeartbeats 3200000 in
theorem eval_yes (b off n cap : Nat) (eao : Option Addr) (en ecap : Nat) (t : Tm) (env : List Int) (w : World) (hn : n = t.size) (h60 : n ≤ 60) (hen : en = env.length) (hen6 : en ≤ 6) (hg : t.Good env.length) (hty : t.typed = true) (hbB : b < w.heap.size) (hA : OpsAt w b off t.ops) (hE : EnvAt w eao env)
    (heo : Calls Tryd.prog 59 #[.slice (some ⟨b, off, none⟩) n cap, .int .i64 en] (e0 w) fun e w' => Below (e0 w).heap.size (e0 w) w' ∧ ∃ B, (e0 w).heap.size ≤ B ∧ e = .returned (.tuple #[.slice (some ⟨B, 0, none⟩) n n, .int .i64 0]) ∧ w'.rowIs B 3 n (fun q => .int .i64 (endAt (t.ops.map Prod.fst) q))) :
    Calls Tryd.prog 51 #[.slice (some ⟨b, off, none⟩) n cap, .slice eao en ecap] w (evalPost env t w) := by
  have hmf := hmakeFunc
  have HE : Hid (EnvAt w eao env) := hE
  have HA : Hid (OpsAt w b off t.ops) := hA
  have HN : Hid (n = t.size ∧ t.Good env.length ∧ t.typed = true ∧ en = env.length) := ⟨hn, hg, hty, hen⟩
  have hn1 : 0 < n := by rw [hn]; exact t.size_pos
  have hzs : (e0 w).heap.size = w.heap.size + 1 + 1 := by simp [e0]
  clear hE hA hn hg hty hen
  go_enter_defers Tryd.func51, Tryd.ntmps51
  go_wp2_with (go_at_call 59; refine heo.mono ?_; rintro e w2 ⟨hb2, B, hBw, rfl, hrow⟩; obtain ⟨c0, c1, f0, f1, hsz, hbw⟩ := e0_cells w hb2)
  obtain ⟨W3, hW3⟩ : ∃ W3, W3 = w2.setCell ⟨w.heap.size + 1, 0, none⟩ (.int .i64 0) := ⟨_, rfl⟩
  have hb3 : Below w.heap.size w W3 := by rw [hW3]; exact hbw.setCell (p := ⟨w.heap.size + 1, 0, none⟩) (by simp) _
  have d0 : W3.cell? ⟨w.heap.size, 0, none⟩ = some (.int .i64 0) := by rw [hW3]; simp [go_sem, c0]
  have d1 : W3.cell? ⟨w.heap.size + 1, 0, none⟩ = some (.int .i64 0) := by rw [hW3]; simp [go_sem, c1]
  have g0 : W3.frozen? ⟨w.heap.size, 0, none⟩ = false := by rw [hW3]; simp [go_sem, f0]
  have g1 : W3.frozen? ⟨w.heap.size + 1, 0, none⟩ = false := by rw [hW3]; simp [go_sem, f1]
  have hrow3 : W3.rowIs B 3 n (fun q => .int .i64 (endAt (t.ops.map Prod.fst) q)) := by rw [hW3]; exact hrow.setOther (by simp; omega) _
  have hsz3 : w.heap.size + 1 < W3.heap.size := by rw [hW3]; simpa using hsz
  have HW3 := (show Hid _ from hW3)
  have HR : Hid (W3.rowIs B 3 n (fun q => .int .i64 (endAt (t.ops.map Prod.fst) q))) := hrow3
  rw [← hW3]
  clear hW3 hrow3 hrow heo hb2 c0 c1 f0 f1 hsz hbw HW3
  go_loop [23] (fun c => ∃ i : Nat, i ≤ en ∧ c = .int .i64 i ∧ Hid (∀ j, j < i → -1000000 ≤ env.getD j 0 ∧ env.getD j 0 ≤ 1000000)) (fun c => en - (intOf c).toNat)
  case atStart => exact ⟨0, Nat.zero_le _, rfl, fun j hj => by omega⟩
  case round =>
    obtain ⟨i, hi, rfl, HJ⟩ := hrel
    by_cases hlt : i < en
    · obtain ⟨eb, eoff, rfl, e2, e3⟩ := (HE.out.later hb3) i (by rw [← HN.out.2.2.2]; exact hlt)
      have htg := fun w => tooGreat_any (env.getD i 0) w
      by_cases hz : -1000000 ≤ env.getD i 0 ∧ env.getD i 0 ≤ 1000000
      · rw [show decide (¬ (-1000000 ≤ env.getD i 0 ∧ env.getD i 0 ≤ 1000000)) = false by simpa using hz] at htg
        have HJ2 : Hid (∀ j, j < i + 1 → -1000000 ≤ env.getD j 0 ∧ env.getD j 0 ≤ 1000000) := fun j hj => by
          by_cases hji : j < i
          · exact HJ.out j hji
          · obtain rfl : j = i := by omega
            exact hz
        clear hz
        generalize env.getD i 0 = x at e3 htg
        go_wp2_with (go_at_call 62; refine (htg _).mono ?_; rintro e w5 ⟨rfl, rfl⟩)
        go_round
        case rel => exact ⟨i + 1, by omega, by go_num, HJ2⟩
        case measure => simp [intOf]; omega
      · have HX : Hid (envBad env = true) := envBad_at (by rw [← HN.out.2.2.2]; exact hlt) hz
        generalize env.getD i 0 = x at e3 htg hz
        rw [show decide (¬ (-1000000 ≤ x ∧ x ≤ 1000000)) = true by simp; omega] at htg
        clear hz
        go_wp2_with (go_at_call 62; refine (htg _).mono ?_; rintro e w5 ⟨rfl, rfl⟩)
        refine leaves_cons (f := 61) (args := #[.pointer (some ⟨w.heap.size, 0, none⟩), .pointer (some ⟨w.heap.size + 1, 0, none⟩)]) (by simp) (by simp [go_sem]) ?_
        refine (ecatch_idle w.heap.size _).mono ?_
        rintro e u' w'' ⟨rfl, rfl, rfl⟩
        simp [Leaves, settle, results, Tryd.results51, go_sem, d0, d1]
        unfold evalPost
        rw [if_pos HX.out, if_pos HX.out]
        exact ⟨rfl, (hb3.setCell (p := ⟨w.heap.size, 0, none⟩) (Nat.le_refl _) _).setCell (p := ⟨w.heap.size + 1, 0, none⟩) (by simp) _⟩
    · have hin : i = en := by omega
      subst hin
      have hok : envBad env = false := envBad_ok (fun j hj => HJ.out j (by rw [HN.out.2.2.2]; exact hj))
      have HX : Hid (envBad env = false) := hok
      have hpm := pairMakers_any W3
      clear hlt hi
      go_wp2_with (go_at_call 63; refine hpm.mono ?_; rintro e W4 ⟨M, hM, rfl, hpa, hb4⟩)
      have hb5 : Below W3.heap.size W3 (W4.alloc (.cells #[.slice (some ⟨b, off, none⟩) n cap, .slice (some ⟨B, 0, none⟩) n n, .slice eao i ecap, .map (some M)] 96)) := hb4.alloc hb4.size _
      have hpa5 : PairsAt (W4.alloc (.cells #[.slice (some ⟨b, off, none⟩) n cap, .slice (some ⟨B, 0, none⟩) n n, .slice eao i ecap, .map (some M)] 96)) M := World.ownsMap.alloc hpa _
      have hwk : WorkAt (W4.alloc (.cells #[.slice (some ⟨b, off, none⟩) n cap, .slice (some ⟨B, 0, none⟩) n n, .slice eao i ecap, .map (some M)] 96)) b off B eao M t env := by
        have hbb := hb3.trans (hb5.mono hb3.size)
        refine ⟨Nat.lt_of_lt_of_le hbB hbb.size, HA.out.below hbb hbB, ?_, HE.out.later hbb, hpa5⟩
        have hr := HR.out
        rw [HN.out.1] at hr
        exact hr.of_block (hb5.block B hr.lt)
      generalize W4.alloc (.cells #[.slice (some ⟨b, off, none⟩) n cap, .slice (some ⟨B, 0, none⟩) n n, .slice eao i ecap, .map (some M)] 96) = W5 at *
      have hat := at_any b off n cap B eao i ecap M env.length t env HN.out.1 h60 HN.out.2.1 HN.out.2.2.1 (envBad_false hok) rfl HN.out.2.2.2 t.size 0 W5 hn1 (by rw [sub_zero]; omega) hwk
      rw [sub_zero] at hat
      have hs3 := hb3.size
      have hs5 := hb5.size
      clear hwk hpa hpa5 hok hpm hb4 HR
      cases hx : t.eval env with
      | none =>
        rw [hx] at hat
        have HXN : Hid (t.eval env = none) := hx
        clear hx
        refine hat.mono ?_
        rintro e w6 ⟨hb6, rfl⟩
        have hb36 := hb5.trans (hb6.mono hb5.size)
        have k0 := (hb36.cell (p := ⟨w.heap.size, 0, none⟩) (by simp only; omega)).trans d0
        have k1 := (hb36.cell (p := ⟨w.heap.size + 1, 0, none⟩) (by simp only; omega)).trans d1
        have z0 := (hb36.frozen (p := ⟨w.heap.size, 0, none⟩) (by simp only; omega)).trans g0
        have z1 := (hb36.frozen (p := ⟨w.heap.size + 1, 0, none⟩) (by simp only; omega)).trans g1
        have hbf := hb3.trans (hb36.mono hb3.size)
        refine leaves_cons (f := 61) (args := #[.pointer (some ⟨w.heap.size, 0, none⟩), .pointer (some ⟨w.heap.size + 1, 0, none⟩)]) (by simp) (by simp [go_sem]) ?_
        refine (ecatch_panicking w.heap.size 8 _ _ w6 k0 k1 z0 z1).mono ?_
        rintro e u' w'' ⟨rfl, rfl, rfl⟩
        simp [Leaves, settle, results, Tryd.results51, go_sem, k0, k1]
        unfold evalPost
        rw [if_neg (by rw [HX.out]; simp), if_neg (by rw [HX.out]; simp), HXN.out]
        exact ⟨rfl, (((hbf.setCell (p := ⟨w.heap.size, 0, none⟩) (Nat.le_refl _) _).setCell (p := ⟨w.heap.size + 1, 0, none⟩) (by simp) _)).drew⟩
      | some x =>
        rw [hx] at hat
        have HXN : Hid (t.eval env = some x) := hx
        clear hx
        refine hat.mono ?_
        rintro e w6 ⟨hb6, rfl⟩
        have hb36 := hb5.trans (hb6.mono hb5.size)
        have k0 := (hb36.cell (p := ⟨w.heap.size, 0, none⟩) (by simp only; omega)).trans d0
        have k1 := (hb36.cell (p := ⟨w.heap.size + 1, 0, none⟩) (by simp only; omega)).trans d1
        have z0 := (hb36.frozen (p := ⟨w.heap.size, 0, none⟩) (by simp only; omega)).trans g0
        have z1 := (hb36.frozen (p := ⟨w.heap.size + 1, 0, none⟩) (by simp only; omega)).trans g1
        have hbf := hb3.trans (hb36.mono hb3.size)
        clear d0 d1 g0 g1 hat
        go_wp2_with fail
        refine leaves_cons (f := 61) (args := #[.pointer (some ⟨w.heap.size, 0, none⟩), .pointer (some ⟨w.heap.size + 1, 0, none⟩)]) (by simp) (by simp [go_sem]) ?_
        refine (ecatch_idle w.heap.size _).mono ?_
        rintro e u' w'' ⟨rfl, rfl, rfl⟩
        simp [Leaves, settle, results, Tryd.results51, go_sem, k0, k1]
        unfold evalPost
        rw [if_neg (by rw [HX.out]; simp), if_neg (by rw [HX.out]; simp), HXN.out]
        exact ⟨rfl, (hbf.setCell (p := ⟨w.heap.size, 0, none⟩) (Nat.le_refl _) _).setCell (p := ⟨w.heap.size + 1, 0, none⟩) (by simp) _⟩

theorem IntsV.env {w : World} {v : Value} {env : List Int} (h : IntsV w v env) : ∃ eao ecap, v = .slice eao env.length ecap ∧ EnvAt w eao env := by
  obtain ⟨ao, cap, rfl, h⟩ := h
  refine ⟨ao, cap, rfl, fun i hi => ?_⟩
  obtain ⟨b, off, rfl, hlt, hat⟩ := h (by intro h; subst h; simp at hi)
  exact ⟨b, off, rfl, hlt, hat i hi⟩

/-- THE CONTRACT OF expr.Eval. -/
theorem eval_any (v ev : Value) (l : List (Int × Int)) (env : List Int) (t : Tm) (w : World) (hB : 0 < w.heap.size) (hT : TabAt w) (hV : OpsV w v l) (hE : IntsV w ev env) (ht : endsCode (l.map Prod.fst) = 0 → t.Wf ∧ t.ops = l) :
    Calls Tryd.prog 51 #[v, ev] w fun e w' => e = .returned (.tuple #[.int .i64 (evalN l t env), .int .i64 (evalC l t env)]) ∧ Below w.heap.size w w' := by
  have hb0 := e0_below w
  have heo := eo_any v l env.length t (e0 w) (Nat.lt_of_lt_of_le hB hb0.size) (hT.below hb0 hB) (hV.below hb0) ht
  obtain ⟨eao, ecap, rfl, hEA⟩ := hE.env
  by_cases hx : xcode env.length l t = 0
  · obtain ⟨h0, h6, hops, hg, htt, h60⟩ := xcode_zero hx ht
    subst hops
    obtain ⟨ao, cap, rfl, _, h⟩ := hV
    obtain ⟨b, off, rfl, hlt, hat⟩ := h t.ops_ne
    refine (eval_yes b off _ cap eao _ ecap t env w t.ops_length (by rw [ops_length]; exact h60) rfl (by omega) hg htt hlt hat hEA (heo.mono fun e w' ⟨h1, _, h3⟩ => ⟨h1, ?_⟩)).mono fun e w' ⟨h1, h2⟩ => ⟨?_, h2⟩
    · obtain ⟨B, p1, p2, p3⟩ := h3 hx
      exact ⟨B, p1, p2, p3⟩
    · rw [h1]
      simp only [evalN, evalC, hx, ne_eq, not_true_eq_false, if_false]
      all_goals (cases t.eval env <;> rfl)
  · obtain ⟨ao, cap, rfl, _, h⟩ := hV
    refine (eval_no ao _ cap eao _ ecap _ w hx (heo.mono fun e w' ⟨h1, h2, _⟩ => ⟨h2 hx, h1⟩)).mono fun e w' ⟨h1, h2⟩ => ⟨?_, h2⟩
    rw [h1]
    unfold evalN evalC
    rw [if_pos hx, if_pos hx]
end Go.Proofs.YtnicbkkkecfdpaaDoor
