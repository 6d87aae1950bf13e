/-
  The contract of the document's own Evaluated.
-/
import Derived.Test.YtbcjhkhndahdhaaDoorRefWorked
import Derived.Test.YtbcjhkhndahdhaaDoorEval
namespace Go.Proofs.YtbcjhkhndahdhaaDoor
open Go.ChangeShapes Go.WideShapes Go.ChangeAt Go.RowKit Go.Deep
open Terms Tm

set_option maxHeartbeats 1600000 in
/-- THE CONTRACT OF Evaluated. -/
theorem evaluated_any (v ev : Value) (l : List (Int × Int)) (env : List Int) (t : Tm) (w : World) (hV : OpsV w v l) (hE : IntsV w ev env) (ht : endsCode (l.map Prod.fst) = 0 → t.Wf ∧ t.ops = l) :
    Calls Tryd.prog 50 #[v, ev] w fun e w' => e = .returned (.tuple #[.int .i64 (evalN l t env), .int .i64 (evalC l t env)]) ∧ Below w.heap.size w w' := by
  have hch := exprChecked_any v l env.length t w hV ht
  obtain ⟨va, vc, rfl⟩ : ∃ ao cap, v = .slice ao l.length cap := by obtain ⟨ao, cap, h, _⟩ := hV; exact ⟨ao, cap, h⟩
  obtain ⟨eao, ecap, rfl⟩ : ∃ ao cap, ev = .slice ao env.length cap := by obtain ⟨ao, cap, h, _⟩ := hE; exact ⟨ao, cap, h⟩
  by_cases hx : xcode env.length l t = 0
  · obtain ⟨h0, h6, hops, hg, htt, h60⟩ := xcode_zero hx ht
    have HWK : Hid (EnvOk env → ∀ w1, Below w.heap.size w w1 → Calls Tryd.prog 69 #[.slice va l.length vc, .slice eao env.length ecap] w1 fun e w' => e = .returned (.tuple #[.int .i64 (wkN (t.eval env)), .int .i64 (wkC (t.eval env))]) ∧ Below w1.heap.size w1 w') :=
      fun hok w1 hb => worked_any eao ecap env.length env hok rfl _ t _ w1 (Nat.le_refl _) h60 hg htt (by rw [hops]; exact hV.below hb) (hE.below hb)
    have HE : Hid (IntsV w (.slice eao env.length ecap) env) := hE
    have HBad : Hid (envBad env = true → evalN l t env = 0 ∧ evalC l t env = 2) := fun h => by
      unfold evalN evalC
      simp [hx, h]
    have HOk : Hid (envBad env = false → evalN l t env = wkN (t.eval env) ∧ evalC l t env = wkC (t.eval env)) := fun h => by
      unfold evalN evalC wkN wkC
      simp only [hx, h]
      cases t.eval env <;> simp
    rw [hx] at hch
    generalize (decide ((0 : Int) = 0) && mkT t.kind) = bb at hch
    generalize evalN l t env = rn at *
    generalize evalC l t env = rc at *
    generalize wkN (t.eval env) = kn at *
    generalize wkC (t.eval env) = kc at *
    obtain ⟨n, hn⟩ : ∃ n, n = env.length := ⟨_, rfl⟩
    have HN : Hid (n = env.length) := hn
    rw [← hn] at h6 hch HWK HE ⊢
    generalize l.length = ln at *
    clear hV hE ht hx hops hg htt h60 h0 hn
    go_enter Tryd.func50, Tryd.ntmps50
    go_wp2_with (go_at_call 68; refine hch.mono ?_; rintro e w1 ⟨rfl, hb1⟩)
    go_loopw [8] (fun i wr => ∃ k : Nat, k ≤ n ∧ i = .int .i64 k ∧ Hid (∀ j, j < k → -1000000 ≤ env.getD j 0 ∧ env.getD j 0 ≤ 1000000) ∧ wr = w1) (fun i _ => n - (intOf i).toNat)
    case atStart => exact ⟨0, Nat.zero_le _, rfl, fun j hj => by omega, rfl⟩
    case round =>
      obtain ⟨k, hk, rfl, HJ, rfl⟩ := hrel
      by_cases hlt : k < n
      · obtain ⟨b, off, rfl, hblt, hc⟩ := IntsV.atE HE.out (i := k) (by rw [← HN.out]; exact hlt)
        have hc2 := (hb1.cell (p := ⟨b, off + k, none⟩) hblt).trans hc
        have HBk : Hid (¬ (-1000000 ≤ env.getD k 0 ∧ env.getD k 0 ≤ 1000000) → rn = 0 ∧ rc = 2) := fun h => HBad.out (envBad_at (by rw [← HN.out]; exact hlt) h)
        have HJ2 : Hid (-1000000 ≤ env.getD k 0 ∧ env.getD k 0 ≤ 1000000 → ∀ j, j < k + 1 → -1000000 ≤ env.getD j 0 ∧ env.getD j 0 ≤ 1000000) := fun h j hj => by
          by_cases hjk : j = k
          · subst hjk; exact h
          · exact HJ.out j (by omega)
        generalize env.getD k 0 = y at *
        have hin := fun w => in_any y (-1000000) 1000000 w
        clear hc HJ HWK hch
        by_cases hr : -1000000 ≤ y ∧ y ≤ 1000000
        · rw [decide_eq_true hr] at hin
          have HJ3 := (show Hid _ from HJ2.out hr)
          clear HJ2 HBk hr
          go_wp2_with (go_at_call 26; refine (hin _).mono ?_; rintro e w2 ⟨rfl, rfl⟩)
          go_roundw
          case rel => exact ⟨k + 1, hlt, by go_num, HJ3, by first | rfl | trivial⟩
          case measure => simp [intOf]; omega
        · rw [decide_eq_false hr] at hin
          have HR := (show Hid _ from HBk.out hr)
          clear HJ2 HBk hr
          go_wp2_with (go_at_call 26; refine (hin _).mono ?_; rintro e w2 ⟨rfl, rfl⟩)
          go_ret2
          rw [HR.out.1, HR.out.2]
          exact ⟨rfl, hb1⟩
      · have hok : ∀ i, i < env.length → -1000000 ≤ env.getD i 0 ∧ env.getD i 0 ≤ 1000000 := fun i hi => HJ.out i (by have := HN.out; omega)
        have HR := (show Hid _ from HOk.out (envBad_ok hok))
        have hwk := HWK.out hok _ hb1
        clear HJ HWK HOk HBad hok hch
        go_wp2_with (go_at_call 69; refine hwk.mono ?_; rintro e w2 ⟨rfl, hb2⟩)
        go_ret2
        rw [HR.out.1, HR.out.2]
        exact ⟨rfl, hb1.trans (hb2.mono hb1.size)⟩
  · have h1 : evalN l t env = 0 ∧ evalC l t env = xcode env.length l t := by
      unfold evalN evalC
      simp [hx]
    rw [h1.1, h1.2]
    generalize xcode env.length l t = x at *
    rw [show (decide (x = 0) && mkT t.kind) = false by simp [hx]] at hch
    generalize env.length = n at *
    generalize l.length = ln at *
    clear hV hE ht h1
    go_enter Tryd.func50, Tryd.ntmps50
    go_wp2_with (go_at_call 68; refine hch.mono ?_; rintro e w1 ⟨rfl, hb1⟩)
    go_ret2
    exact ⟨rfl, hb1⟩
end Go.Proofs.YtbcjhkhndahdhaaDoor
