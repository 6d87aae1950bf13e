/-
  The contract of word.Check.
-/
import Derived.Test.YtoeagklgfaoejaaDoorConcat
import Derived.Test.YtoeagklgfaoejaaDoorWordM
namespace Go.Proofs.YtoeagklgfaoejaaDoor
open Go.ChangeShapes Go.WideShapes Go.ChangeAt Go.RowKit Go.Deep
open Terms

set_option maxHeartbeats 1600000 in
set_option maxRecDepth 20000 in
/-- THE CONTRACT OF word.Check. -/
theorem wcheck_any (sv lv : Value) (ss ll : List (List Bool)) (props : Int) (w : World) (hzs : ss.length ≤ 140737488355328) (hzl : ll.length ≤ 140737488355328) (hS : LettersV w sv ss) (hL : LettersV w lv ll) :
    Calls Tryd.prog 20 #[.agg #[sv, lv], .int .i64 props] w fun e w' => e = .returned (.int .i64 (wcode props ss ll)) ∧ Below w.heap.size w w' := by
  have hA : ∀ o, Below w.heap.size w (w.alloc o) := fun o => (Below.refl _ _).alloc (Nat.le_refl _) o
  obtain ⟨so, sc, rfl⟩ := hS.shape
  obtain ⟨lo, lc, rfl⟩ := hL.shape
  by_cases hr : props < 0 ∨ 6 < props
  · rw [wcode_range hr]
    generalize ss.length = sn at *
    generalize ll.length = ln at *
    clear hS hL
    rcases hr with hr | hr
    all_goals
      go_enter Tryd.func20, Tryd.ntmps20
      go_wp2
      go_ret
      exact ⟨rfl, hA _⟩
  · have hp0 : 0 ≤ props := by omega
    have hp6 : props ≤ 6 := by omega
    by_cases hs : 12 < ss.length ∨ ll.length < 1 ∨ 12 < ll.length
    · rw [wcode_size hr hs]
      have hs3 : 12 < ss.length ∨ (ss.length ≤ 12 ∧ ll.length < 1) ∨ (ss.length ≤ 12 ∧ 1 ≤ ll.length ∧ 12 < ll.length) := by omega
      generalize ss.length = sn at *
      generalize ll.length = ln at *
      clear hS hL hr hs
      rcases hs3 with h1 | ⟨h1, h2⟩ | ⟨h1, h2, h3⟩
      · have h1' : (12 : Int) < (sn : Int) := by omega
        go_enter Tryd.func20, Tryd.ntmps20
        go_wp2
        go_ret
        exact ⟨rfl, hA _⟩
      · have h1' : ¬ (12 : Int) < (sn : Int) := by omega
        have h2' : (ln : Int) < 1 := by omega
        go_enter Tryd.func20, Tryd.ntmps20
        go_wp2
        go_ret
        exact ⟨rfl, hA _⟩
      · have h1' : ¬ (12 : Int) < (sn : Int) := by omega
        have h2' : ¬ (ln : Int) < 1 := by omega
        have h3' : (12 : Int) < (ln : Int) := by omega
        go_enter Tryd.func20, Tryd.ntmps20
        go_wp2
        go_ret
        exact ⟨rfl, hA _⟩
    · have hs1 : ss.length ≤ 12 := by omega
      have hl1 : 1 ≤ ll.length := by omega
      have hl2 : ll.length ≤ 12 := by omega
      have hA2 : ∀ o o', Below w.heap.size w ((w.alloc o).alloc o') := fun o o' => (hA o).alloc (by simp) o'
      have hco : Calls Tryd.prog 22 #[.slice (some ⟨w.heap.size + 1, 0, none⟩) 2 2] ((w.alloc (.cells #[.slice so ss.length sc, .slice lo ll.length lc] 28)).alloc (.cells #[.slice so ss.length sc, .slice lo ll.length lc] 26)) fun e w' => ∃ B cap, e = .returned (.slice (some ⟨B, 0, none⟩) (ss.length + ll.length) cap) ∧ Below w.heap.size w w' ∧ Hid (LettersV w' (.slice (some ⟨B, 0, none⟩) (ss.length + ll.length) cap) (ss ++ ll)) :=
        (concat_any (w.heap.size + 1) _ _ ss ll _ hs1 hl2 hl1 (hS.below (hA2 _ _)) (hL.below (hA2 _ _)) (by simp [go_sem]) (by simp [go_sem])).mono fun e w' ⟨B, cap, h1, h2, h3⟩ => ⟨B, cap, h1, (hA2 _ _).trans (h2.mono (by simp; omega)), h3⟩
      have HOk := fun h => (show Hid _ from wcode_ok (ss := ss) (ll := ll) hr hs h)
      have HFo := fun h => (show Hid _ from wcode_form (ss := ss) (ll := ll) hr hs h)
      have HLen : Hid ((ss ++ ll).length = ss.length + ll.length) := List.length_append
      generalize wcode props ss ll = wc at *
      obtain ⟨n, hn⟩ : ∃ n, n = ss.length + ll.length := ⟨_, rfl⟩
      rw [← hn] at hco HLen
      have hn24 : n ≤ 24 := by omega
      generalize ss.length = sn at *
      generalize ll.length = ln at *
      have HN : Hid (n = sn + ln) := hn
      clear hS hL hr hs hn hA2
      have g1 : ¬ (12 : Int) < (sn : Int) := by omega
      have g2 : ¬ (ln : Int) < 1 := by omega
      have g3 : ¬ (12 : Int) < (ln : Int) := by omega
      go_enter Tryd.func20, Tryd.ntmps20
      go_wp2_with (go_at_call 22; refine hco.mono ?_; rintro e w1 ⟨B, cap, rfl, hb1, HL⟩)
      clear hco
      go_loop [36] (fun i => ∃ k : Nat, k ≤ n ∧ i = .int .i64 (k : Int) ∧ Hid (∀ j, j < k → (((ss ++ ll).getD j []).length : Int) = props)) (fun i => n - (intOf i).toNat)
      case atStart => exact ⟨0, Nat.zero_le _, rfl, fun j hj => absurd hj (Nat.not_lt_zero _)⟩
      case round =>
        obtain ⟨k, hk, rfl, HAll⟩ := hrel
        by_cases hlt : k < n
        · obtain ⟨b, off, hbo, _, u, hcu, hbu⟩ := HL.out.at (i := k) (by rw [HLen.out]; exact hlt)
          obtain ⟨rfl, rfl⟩ : B = b ∧ 0 = off := by simpa using hbo
          obtain ⟨uo, uc, rfl, _⟩ := hbu
          simp only [Nat.zero_add] at hcu
          by_cases hx : (((ss ++ ll).getD k []).length : Int) = props
          · have HNx : Hid (∀ j, j < k + 1 → (((ss ++ ll).getD j []).length : Int) = props) := fun j hj => by
              by_cases hjk : j < k
              · exact HAll.out j hjk
              · obtain rfl : j = k := by omega
                exact hx
            generalize ((ss ++ ll).getD k []).length = xn at *
            clear HAll
            go_wp2
            go_round
            case rel => exact ⟨k + 1, hlt, by go_num, HNx⟩
            case measure => simp [intOf]; omega
          · have HW : Hid (wc = 3) := (HFo (letBad_at (by rw [HLen.out]; exact hlt) hx)).out
            generalize ((ss ++ ll).getD k []).length = xn at *
            clear HAll
            go_wp2
            go_ret
            rw [HW.out]
            exact ⟨rfl, hb1⟩
        · obtain rfl : k = n := by omega
          have HW : Hid (wc = 0) := (HOk (letBad_none fun i hi => HAll.out i (by rw [HLen.out] at hi; exact hi))).out
          go_wp2
          go_ret
          rw [HW.out]
          exact ⟨rfl, hb1⟩
end Go.Proofs.YtoeagklgfaoejaaDoor
