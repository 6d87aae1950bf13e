/-
  The document's own momentOf, letterAt and WordFault.
-/
import Derived.Test.YtalbnbcfdpfofaaDoorLetters
import Derived.Test.YtalbnbcfdpfofaaDoorWordM
import Derived.Test.YtalbnbcfdpfofaaDoorRefIn
namespace Go.Proofs.YtalbnbcfdpfofaaDoor
open Go.ChangeShapes Go.WideShapes Go.ChangeAt Go.RowKit Go.Deep
open Terms

set_option maxRecDepth 20000 in
set_option maxHeartbeats 800000 in
theorem moment_any (so lo : Option Addr) (sn sc ln lc : Nat) (i : Nat) (w : World) (hs : sn ≤ 12) (hl0 : 1 ≤ ln) (hl : ln ≤ 12) (hi : i ≤ 100) :
    Calls Tryd.prog 52 #[.agg #[.slice so sn sc, .slice lo ln lc], .int .i64 (i : Int)] w fun e w' => e = .returned (.int .i64 (moAt sn (sn + ln) i : Int)) ∧ Below w.heap.size w w' := by
  have hA : ∀ o, Below w.heap.size w (w.alloc o) := fun o => (Below.refl _ _).alloc (Nat.le_refl _) o
  go_enter Tryd.func52, Tryd.ntmps52
  go_wp2
  go_loop [1] (fun x => ∃ j : Nat, j ≤ i ∧ x = .int .i64 (j : Int) ∧ Hid (moAt sn (sn + ln) j = moAt sn (sn + ln) i)) (fun x => (intOf x).toNat)
  case atStart => exact ⟨i, Nat.le_refl _, rfl, rfl⟩
  case round =>
    obtain ⟨j, hj, rfl, HM⟩ := hrel
    by_cases hlt : sn + ln ≤ j
    · have HM2 : Hid (moAt sn (sn + ln) (j - ln) = moAt sn (sn + ln) i) := by
        show _ = _
        rw [← HM.out, moAt_back (s := sn) (n := sn + ln) (i := j) (by omega) hlt, show sn + ln - sn = ln by omega]
      have hlt' : (sn : Int) + (ln : Int) ≤ (j : Int) := by omega
      go_wp2
      go_round
      case rel => exact ⟨j - ln, by omega, by congr 1; omega, HM2⟩
      case measure => simp [intOf]; omega
    · have HE : Hid ((j : Int) = (moAt sn (sn + ln) i : Int)) := by show _ = _; rw [← HM.out, moAt_low (by omega)]
      have hlt' : (j : Int) < (sn : Int) + (ln : Int) := by omega
      go_wp2
      go_ret
      rw [← HE.out]
      exact ⟨rfl, hA _⟩

set_option maxRecDepth 20000 in
set_option maxHeartbeats 800000 in
theorem letterAt_any (so lo : Option Addr) (sn sc ln lc : Nat) (ss ll : List (List Bool)) (i : Nat) (w : World) (hsn : sn = ss.length) (hln : ln = ll.length) (hs : sn ≤ 12) (hl0 : 1 ≤ ln) (hl : ln ≤ 12) (hi : i ≤ 100) (hS : LettersV w (.slice so sn sc) ss) (hL : LettersV w (.slice lo ln lc) ll) :
    Calls Tryd.prog 51 #[.agg #[.slice so sn sc, .slice lo ln lc], .int .i64 (i : Int)] w fun e w' => ∃ uo uc, e = .returned (.slice uo ((ss ++ ll).getD (moAt sn (sn + ln) i) []).length uc) ∧ Below w.heap.size w w' ∧ Hid (BoolsV w' (.slice uo ((ss ++ ll).getD (moAt sn (sn + ln) i) []).length uc) ((ss ++ ll).getD (moAt sn (sn + ln) i) [])) := by
  have hA : ∀ o, Below w.heap.size w (w.alloc o) := fun o => (Below.refl _ _).alloc (Nat.le_refl _) o
  have hmo : ∀ o, Calls Tryd.prog 52 #[.agg #[.slice so sn sc, .slice lo ln lc], .int .i64 (i : Int)] (w.alloc o) fun e w' => e = .returned (.int .i64 (moAt sn (sn + ln) i : Int)) ∧ Below w.heap.size w w' := fun o => (moment_any so lo sn sc ln lc i (w.alloc o) hs hl0 hl hi).mono fun e w' ⟨h1, h2⟩ => ⟨h1, (hA o).trans (h2.mono (hA o).size)⟩
  have hmo2 : ∀ o, Calls Tryd.prog 52 #[.agg #[.slice so sn sc, .slice lo ln lc], .int .i64 (i : Int)] (w.alloc o) fun e w' => e = .returned (.int .i64 (moAt sn (sn + ln) i : Int)) ∧ Below (w.heap.size + 1) (w.alloc o) w' := fun o => (moment_any so lo sn sc ln lc i (w.alloc o) hs hl0 hl hi).mono fun e w' ⟨h1, h2⟩ => ⟨h1, by simpa using h2⟩
  have hmlt := moAt_lt (s := sn) (n := sn + ln) (i := i) (by omega)
  generalize moAt sn (sn + ln) i = mo at *
  have hm2 := hmo2 (.cells #[.slice so sn sc, .slice lo ln lc] 25)
  have d0 : (w.alloc (.cells #[.slice so sn sc, .slice lo ln lc] 25)).cell? ⟨w.heap.size, 0, none⟩ = some (.slice so sn sc) := by simp [go_sem]
  have d1 : (w.alloc (.cells #[.slice so sn sc, .slice lo ln lc] 25)).cell? ⟨w.heap.size, 1, none⟩ = some (.slice lo ln lc) := by simp [go_sem]
  by_cases hlow : mo < sn
  · obtain ⟨b, off, rfl, hbl, u, hcu, hbu⟩ := hS.at (i := mo) (by omega)
    have hgd : (ss ++ ll).getD mo [] = ss.getD mo [] := by rw [getD_app, if_pos (by omega)]
    rw [hgd]
    generalize ss.getD mo [] = x at *
    have HBU : Hid (BoolsV w u x) := hbu
    obtain ⟨uo, uc, rfl, _⟩ := hbu
    generalize x.length = xn at *
    have hlow' : (mo : Int) < (sn : Int) := by omega
    clear hmo hmo2 hgd hS hL hsn hln
    go_enter Tryd.func51, Tryd.ntmps51
    go_wp2_with (go_at_call 52; refine hm2.mono ?_; rintro e w1 ⟨rfl, hb1⟩; have hbw := (hA _).trans (hb1.mono (Nat.le_succ _)); have e0 := (hb1.cell (p := ⟨w.heap.size, 0, none⟩) (Nat.lt_succ_self _)).trans d0; have e1 := (hb1.cell (p := ⟨w.heap.size, 1, none⟩) (Nat.lt_succ_self _)).trans d1; have e2 := (hbw.cell (p := ⟨b, off + mo, none⟩) hbl).trans hcu)
    go_ret
    exact ⟨_, _, rfl, hbw, HBU.out.below hbw⟩
  · obtain ⟨b, off, rfl, hbl, u, hcu, hbu⟩ := hL.at (i := mo - sn) (by omega)
    have hgd : (ss ++ ll).getD mo [] = ll.getD (mo - sn) [] := by rw [getD_app, if_neg (by omega), ← hsn]
    rw [hgd]
    generalize ll.getD (mo - sn) [] = x at *
    have HBU : Hid (BoolsV w u x) := hbu
    obtain ⟨uo, uc, rfl, _⟩ := hbu
    generalize x.length = xn at *
    have hlow' : ¬ (mo : Int) < (sn : Int) := by omega
    obtain ⟨q, hq⟩ : ∃ q : Nat, q = mo - sn := ⟨_, rfl⟩
    have hqi : (mo : Int) - (sn : Int) = (q : Int) := by omega
    have hql : q < ln := by omega
    rw [← hq] at hcu
    clear hmo hmo2 hgd hS hL hsn hln hq
    go_enter Tryd.func51, Tryd.ntmps51
    go_wp2_with (go_at_call 52; refine hm2.mono ?_; rintro e w1 ⟨rfl, hb1⟩; have hbw := (hA _).trans (hb1.mono (Nat.le_succ _)); have e0 := (hb1.cell (p := ⟨w.heap.size, 0, none⟩) (Nat.lt_succ_self _)).trans d0; have e1 := (hb1.cell (p := ⟨w.heap.size, 1, none⟩) (Nat.lt_succ_self _)).trans d1; have e2 := (hbw.cell (p := ⟨b, off + q, none⟩) hbl).trans hcu)
    go_ret
    exact ⟨_, _, rfl, hbw, HBU.out.below hbw⟩

set_option maxRecDepth 20000 in
set_option maxHeartbeats 1600000 in
/-- THE CONTRACT OF the document's WordFault. -/
theorem wfault_any (sv lv : Value) (ss ll : List (List Bool)) (props : Int) (w : World) (hzs : ss.length ≤ 140737488355328) (hzl : ll.length ≤ 140737488355328) (hS : LettersV w sv ss) (hL : LettersV w lv ll) :
    Calls Tryd.prog 28 #[.agg #[sv, lv], .int .i64 props] w fun e w' => e = .returned (.int .i64 (wcode props ss ll)) ∧ Below w.heap.size w w' := by
  have hA : ∀ o, Below w.heap.size w (w.alloc o) := fun o => (Below.refl _ _).alloc (Nat.le_refl _) o
  obtain ⟨so, sc, rfl⟩ := hS.shape
  obtain ⟨lo, lc, rfl⟩ := hL.shape
  have hin := fun w1 => in_any props 0 6 w1
  have hin2 := fun w1 => in_any (ll.length : Int) 1 12 w1
  by_cases hr : props < 0 ∨ 6 < props
  · rw [wcode_range hr]
    rw [show decide (0 ≤ props ∧ props ≤ 6) = false by simp; omega] at hin
    generalize ss.length = sn at *
    generalize ll.length = ln at *
    clear hS hL hin2 hr
    go_enter Tryd.func28, Tryd.ntmps28
    go_wp2_with (go_at_call 30; refine (hin _).mono ?_; rintro e w1 ⟨rfl, hw1⟩; obtain rfl := hw1.symm)
    go_ret
    exact ⟨rfl, hA _⟩
  · rw [show decide (0 ≤ props ∧ props ≤ 6) = true by simp; omega] at hin
    by_cases hs : 12 < ss.length ∨ ll.length < 1 ∨ 12 < ll.length
    · rw [wcode_size hr hs]
      by_cases h1 : 12 < ss.length
      · generalize ss.length = sn at *
        generalize ll.length = ln at *
        have h1' : (12 : Int) < (sn : Int) := by omega
        clear hS hL hr hs hin2
        go_enter Tryd.func28, Tryd.ntmps28
        go_wp2_with (go_at_call 30; refine (hin _).mono ?_; rintro e w1 ⟨rfl, hw1⟩; obtain rfl := hw1.symm)
        go_ret
        exact ⟨rfl, hA _⟩
      · rw [show decide (1 ≤ (ll.length : Int) ∧ (ll.length : Int) ≤ 12) = false by simp; omega] at hin2
        generalize ss.length = sn at *
        generalize ll.length = ln at *
        have h1' : ¬ (12 : Int) < (sn : Int) := by omega
        clear hS hL hr hs
        go_enter Tryd.func28, Tryd.ntmps28
        go_wp2_with (first | (go_at_call 30; refine (hin _).mono ?_; clear hin; rintro e w1 ⟨rfl, hw1⟩; obtain rfl := hw1.symm) | (go_at_call 30; refine (hin2 _).mono ?_; clear hin2; rintro e w1 ⟨rfl, hw1⟩; obtain rfl := hw1.symm))
        go_ret
        exact ⟨rfl, hA _⟩
    · have hs1 : ss.length ≤ 12 := by omega
      have hl1 : 1 ≤ ll.length := by omega
      have hl2 : ll.length ≤ 12 := by omega
      rw [show decide (1 ≤ (ll.length : Int) ∧ (ll.length : Int) ≤ 12) = true by simp; omega] at hin2
      have HOk := fun h => (show Hid _ from wcode_ok (ss := ss) (ll := ll) hr hs h)
      have HFo := fun h => (show Hid _ from wcode_form (ss := ss) (ll := ll) hr hs h)
      have HLen : Hid ((ss ++ ll).length = ss.length + ll.length) := List.length_append
      have HAt : Hid (∀ w1 (k : Nat), Below w.heap.size w w1 → k < ss.length + ll.length → Calls Tryd.prog 51 #[.agg #[.slice so ss.length sc, .slice lo ll.length lc], .int .i64 (k : Int)] w1 fun e w' => ∃ uo uc, e = .returned (.slice uo ((ss ++ ll).getD k []).length uc) ∧ Below w1.heap.size w1 w') := fun w1 k hb hk => by
        have h := letterAt_any so lo _ sc _ lc ss ll k w1 rfl rfl hs1 hl1 hl2 (by omega) (hS.below hb) (hL.below hb)
        rw [moAt_low hk] at h
        exact h.mono fun e w' ⟨uo, uc, h1, h2, _⟩ => ⟨uo, uc, h1, h2⟩
      generalize wcode props ss ll = wc at *
      generalize ss.length = sn at *
      generalize ll.length = ln at *
      clear hS hL hr hs
      have g1 : ¬ (12 : Int) < (sn : Int) := by omega
      have d0 : (w.alloc (.cells #[.slice so sn sc, .slice lo ln lc] 25)).cell? ⟨w.heap.size, 0, none⟩ = some (.slice so sn sc) := by simp [go_sem]
      have d1 : (w.alloc (.cells #[.slice so sn sc, .slice lo ln lc] 25)).cell? ⟨w.heap.size, 1, none⟩ = some (.slice lo ln lc) := by simp [go_sem]
      have HB1 : Hid (Below (w.heap.size + 1) (w.alloc (.cells #[.slice so sn sc, .slice lo ln lc] 25)) (w.alloc (.cells #[.slice so sn sc, .slice lo ln lc] 25))) := Below.refl _ _
      have HA2 : Hid (∀ w1, Below (w.heap.size + 1) (w.alloc (.cells #[.slice so sn sc, .slice lo ln lc] 25)) w1 → Below w.heap.size w w1 ∧ w1.cell? ⟨w.heap.size, 0, none⟩ = some (.slice so sn sc) ∧ w1.cell? ⟨w.heap.size, 1, none⟩ = some (.slice lo ln lc)) := fun w1 hb => ⟨(hA _).trans (hb.mono (Nat.le_succ _)), (hb.cell (p := ⟨w.heap.size, 0, none⟩) (Nat.lt_succ_self _)).trans d0, (hb.cell (p := ⟨w.heap.size, 1, none⟩) (Nat.lt_succ_self _)).trans d1⟩
      go_enter Tryd.func28, Tryd.ntmps28
      go_wp2_with (first | (go_at_call 30; refine (hin _).mono ?_; clear hin; rintro e w1 ⟨rfl, hw1⟩; obtain rfl := hw1.symm) | (go_at_call 30; refine (hin2 _).mono ?_; clear hin2; rintro e w1 ⟨rfl, hw1⟩; obtain rfl := hw1.symm))
      go_loopw [5] (fun i wr => ∃ k : Nat, k ≤ sn + ln ∧ i = .int .i64 (k : Int) ∧ Hid (∀ j, j < k → (((ss ++ ll).getD j []).length : Int) = props) ∧ Hid (Below (w.heap.size + 1) (w.alloc (.cells #[.slice so sn sc, .slice lo ln lc] 25)) wr)) (fun i _ => sn + ln - (intOf i).toNat)
      case atStart => exact ⟨0, Nat.zero_le _, rfl, fun j hj => absurd hj (Nat.not_lt_zero _), HB1.out⟩
      case round =>
        obtain ⟨k, hk, rfl, HAll, HBe⟩ := hrel
        obtain ⟨hbw, e0, e1⟩ := HA2.out wr HBe.out
        by_cases hlt : k < sn + ln
        · have hla := HAt.out wr k hbw hlt
          have hlt' : (k : Int) < (sn : Int) + (ln : Int) := by omega
          by_cases hx : (((ss ++ ll).getD k []).length : Int) = props
          · have HNx : Hid (∀ j, j < k + 1 → (((ss ++ ll).getD j []).length : Int) = props) := fun j hj => by
              by_cases hjk : j < k
              · exact HAll.out j hjk
              · obtain rfl : j = k := by omega
                exact hx
            generalize ((ss ++ ll).getD k []).length = xn at *
            clear HAll
            go_wp2_with (go_at_call 51; refine hla.mono ?_; rintro e w2 ⟨uo, uc, rfl, hb2⟩)
            have HB2 : Hid (Below (w.heap.size + 1) (w.alloc (.cells #[.slice so sn sc, .slice lo ln lc] 25)) w2) := HBe.out.trans (hb2.mono (by have := HBe.out.size; simpa using this))
            go_roundw
            case rel => exact ⟨k + 1, hlt, by go_num, HNx, HB2⟩
            case measure => simp [intOf]; omega
          · have HW : Hid (wc = 3) := (HFo (letBad_at (by rw [HLen.out]; exact hlt) hx)).out
            generalize ((ss ++ ll).getD k []).length = xn at *
            clear HAll
            go_wp2_with (go_at_call 51; refine hla.mono ?_; rintro e w2 ⟨uo, uc, rfl, hb2⟩)
            go_ret
            rw [HW.out]
            exact ⟨rfl, hbw.trans (hb2.mono hbw.size)⟩
        · obtain rfl : k = sn + ln := by omega
          have HW : Hid (wc = 0) := (HOk (letBad_none fun i hi => HAll.out i (by rw [HLen.out] at hi; exact hi))).out
          go_wp2_with fail
          go_ret
          rw [HW.out]
          exact ⟨rfl, hbw⟩
end Go.Proofs.YtalbnbcfdpfofaaDoor
