/-
  store.Check, store.All, store.Has.
-/
import Derived.Test.YtncfkpfbjenpjaaUCheck
namespace Go.Proofs.Ytncfkpfbjenpjaa
open Go.ChangeShapes Go.WideShapes Go.ChangeAt Go.RowKit Go.Deep

set_option maxHeartbeats 800000 in
set_option maxRecDepth 20000 in
/-- THE CONTRACT OF Check. -/
theorem check_any (lo : List Int) (rs : List (List Int)) (la ra : Option Addr) (lc rc : Nat) (w : World) (hz : StSz lo rs) (hL : IntsV w (.slice la lo.length lc) lo) (hR : LisV w (.slice ra rs.length rc) rs) :
    Calls Try.prog 16 #[.agg #[.slice la lo.length lc, .slice ra rs.length rc]] w fun e w' => e = .returned (.int .i64 (sC lo rs)) ∧ Below w.heap.size w w' := by
  obtain ⟨hbA, hcA⟩ := Bc.arg w (.slice la lo.length lc) (.slice ra rs.length rc) 25
  obtain ⟨_, a0, a1⟩ := id hcA
  have hS := sizes_any lo rs la ra lc rc _ hz (hR.below hbA)
  have HB : Hid (∀ w1, Below (w.alloc (.cells #[.slice la lo.length lc, .slice ra rs.length rc] 25)).heap.size (w.alloc (.cells #[.slice la lo.length lc, .slice ra rs.length rc] 25)) w1 → Below w.heap.size w w1 ∧ w1.cell? ⟨w.heap.size, 0, none⟩ = some (.slice la lo.length lc) ∧ w1.cell? ⟨w.heap.size, 1, none⟩ = some (.slice ra rs.length rc)) := fun w1 h => ⟨hbA.trans (h.mono hbA.size), (hcA.later h).2⟩
  by_cases hs : SizeOk lo rs
  · have hS' : Calls Try.prog 24 #[.agg #[.slice la lo.length lc, .slice ra rs.length rc]] (w.alloc (.cells #[.slice la lo.length lc, .slice ra rs.length rc] 25)) fun e w' => e = .returned (.bool true) ∧ Below (w.alloc (.cells #[.slice la lo.length lc, .slice ra rs.length rc] 25)).heap.size (w.alloc (.cells #[.slice la lo.length lc, .slice ra rs.length rc] 25)) w' := hS.mono fun e w' ⟨s, h1, h2, h3⟩ => ⟨by rw [h1, h3.2 hs], h2⟩
    have HK : Hid (∀ w1, Below w.heap.size w w1 → Calls Try.prog 18 #[.agg #[.slice la lo.length lc, .slice ra rs.length rc]] w1 fun e w' => ∃ ao cap, e = .returned (.slice ao (tog (rs ++ [up lo])).length cap) ∧ Below w1.heap.size w1 w' ∧ Hid (IntsV w' (.slice ao (tog (rs ++ [up lo])).length cap) (tog (rs ++ [up lo])))) := fun w1 h => keysOf_any lo rs la ra lc rc w1 hs (hL.below h) (hR.below h)
    have hlen : (tog (rs ++ [up lo])).length ≤ 140737488355328 := by rw [tog_len]; have := hs.flat; omega
    have HN : Hid (∀ (ao : Option Addr) (cap : Nat) (w1 : World), IntsV w1 (.slice ao (tog (rs ++ [up lo])).length cap) (tog (rs ++ [up lo])) → Calls Try.prog 25 #[.slice ao (tog (rs ++ [up lo])).length cap] w1 fun e w' => e = .returned (.bool (nrB (-1) (tog (rs ++ [up lo])))) ∧ Below w1.heap.size w1 w') := fun ao cap w1 h => notRising_any ao cap _ w1 hlen h
    have hcode : sC lo rs = if nrB (-1) (tog (rs ++ [up lo])) = true then 9 else 0 := by
      cases hb : nrB (-1) (tog (rs ++ [up lo])) with
      | true => rw [sC_bad (fun h => by rw [(may_iff hs).2 h] at hb; cases hb)]; rfl
      | false => rw [sC_ok ((may_iff hs).1 hb)]; rfl
    rw [hcode]
    generalize nrB (-1) (tog (rs ++ [up lo])) = o at *
    generalize (tog (rs ++ [up lo])).length = tn at *
    generalize rs.length = n at *
    generalize lo.length = m at *
    clear hL hR hS hcA hz hcode hlen
    cases o
    all_goals
      go_enter Try.func16, Try.ntmps16
      go_wp2_with (first | (go_at_call 24; refine hS'.mono ?_; rintro e w1 ⟨rfl, hb1⟩; obtain ⟨hw1, q0, q1⟩ := HB.out w1 hb1; have hk := HK.out w1 hw1) | (go_at_call 18; refine hk.mono ?_; rintro e w2 ⟨ko, kc, rfl, hb2, hx2⟩; have hw2 := hw1.trans (hb2.mono hw1.size); have hnr := HN.out ko kc w2 hx2.out) | (go_at_call 25; refine hnr.mono ?_; rintro e w3 ⟨rfl, hb3⟩; have hw3 := hw2.trans (hb3.mono hw2.size)))
      go_ret
      exact ⟨by rfl, hw3⟩
  · have hS' : Calls Try.prog 24 #[.agg #[.slice la lo.length lc, .slice ra rs.length rc]] (w.alloc (.cells #[.slice la lo.length lc, .slice ra rs.length rc] 25)) fun e w' => e = .returned (.bool false) ∧ Below (w.alloc (.cells #[.slice la lo.length lc, .slice ra rs.length rc] 25)).heap.size (w.alloc (.cells #[.slice la lo.length lc, .slice ra rs.length rc] 25)) w' := hS.mono fun e w' ⟨s, h1, h2, h3⟩ => ⟨by cases s with | false => exact h1 | true => exact absurd (h3.1 rfl) hs, h2⟩
    have HC : Hid (sC lo rs = 9) := sC_bad fun h => hs h.size
    generalize rs.length = n at *
    generalize lo.length = m at *
    clear hL hR hS hcA hz
    rw [HC.out]
    go_enter Try.func16, Try.ntmps16
    go_wp2_with (first | (go_at_call 24; refine hS'.mono ?_; rintro e w1 ⟨rfl, hb1⟩; obtain ⟨hw1, q0, q1⟩ := HB.out w1 hb1))
    go_ret
    exact ⟨rfl, hw1⟩

/-- what All answers. -/
def AlPost (w : World) (l : List Int) (c : Int) (e : Ending) (w' : World) : Prop := ∃ ao cap, e = .returned (.tuple #[.slice ao l.length cap, .int .i64 c]) ∧ Below w.heap.size w w' ∧ Hid (IntsV w' (.slice ao l.length cap) l)
open Classical in
noncomputable def allL (lo : List Int) (rs : List (List Int)) : List Int := if May lo rs then up (keysL lo rs) else []
theorem allL_ok {lo : List Int} {rs : List (List Int)} (h : May lo rs) : allL lo rs = up (keysL lo rs) := by unfold allL; rw [if_pos h]
theorem allL_bad {lo : List Int} {rs : List (List Int)} (h : ¬ May lo rs) : allL lo rs = [] := by unfold allL; rw [if_neg h]
set_option maxHeartbeats 800000 in
set_option maxRecDepth 20000 in
/-- THE CONTRACT OF All. -/
theorem all_any (lo : List Int) (rs : List (List Int)) (la ra : Option Addr) (lc rc : Nat) (w : World) (hz : StSz lo rs) (hL : IntsV w (.slice la lo.length lc) lo) (hR : LisV w (.slice ra rs.length rc) rs) :
    Calls Try.prog 11 #[.agg #[.slice la lo.length lc, .slice ra rs.length rc]] w (AlPost w (allL lo rs) (sC lo rs)) := by
  obtain ⟨hbA, hcA⟩ := Bc.arg w (.slice la lo.length lc) (.slice ra rs.length rc) 25
  obtain ⟨_, a0, a1⟩ := id hcA
  have hC := check_any lo rs la ra lc rc _ hz (hL.below hbA) (hR.below hbA)
  have HB : Hid (∀ w1, Below (w.alloc (.cells #[.slice la lo.length lc, .slice ra rs.length rc] 25)).heap.size (w.alloc (.cells #[.slice la lo.length lc, .slice ra rs.length rc] 25)) w1 → Below w.heap.size w w1 ∧ w1.cell? ⟨w.heap.size, 0, none⟩ = some (.slice la lo.length lc) ∧ w1.cell? ⟨w.heap.size, 1, none⟩ = some (.slice ra rs.length rc)) := fun w1 h => ⟨hbA.trans (h.mono hbA.size), (hcA.later h).2⟩
  by_cases hm : May lo rs
  · have HK : Hid (∀ w1, Below w.heap.size w w1 → Calls Try.prog 18 #[.agg #[.slice la lo.length lc, .slice ra rs.length rc]] w1 fun e w' => ∃ ao cap, e = .returned (.slice ao (up (keysL lo rs)).length cap) ∧ Below w1.heap.size w1 w' ∧ Hid (IntsV w' (.slice ao (up (keysL lo rs)).length cap) (up (keysL lo rs)))) := fun w1 h => by
      have := keysOf_any lo rs la ra lc rc w1 hm.size (hL.below h) (hR.below h)
      rw [tog_up hm] at this
      exact this
    rw [sC_ok hm] at hC ⊢
    rw [allL_ok hm]
    have HP : Hid (∀ (ao : Option Addr) (cap : Nat) (w2 : World), Below w.heap.size w w2 → IntsV w2 (.slice ao (up (keysL lo rs)).length cap) (up (keysL lo rs)) → AlPost w (up (keysL lo rs)) 0 (.returned (.tuple #[.slice ao (up (keysL lo rs)).length cap, .int .i64 0])) w2) := fun ao cap w2 h1 h2 => ⟨ao, cap, rfl, h1, h2⟩
    generalize (up (keysL lo rs)).length = kn at *
    generalize rs.length = n at *
    generalize lo.length = m at *
    clear hL hR hcA hz hm
    go_enter Try.func11, Try.ntmps11
    go_wp2_with (first | (go_at_call 16; refine hC.mono ?_; rintro e w1 ⟨rfl, hb1⟩; obtain ⟨hw1, q0, q1⟩ := HB.out w1 hb1; have hk := HK.out w1 hw1) | (go_at_call 18; refine hk.mono ?_; rintro e w2 ⟨ko, kc, rfl, hb2, hx2⟩; have hw2 := hw1.trans (hb2.mono hw1.size)))
    go_ret2
    exact HP.out ko kc w2 hw2 hx2.out
  · rw [sC_bad hm] at hC ⊢
    rw [allL_bad hm]
    have HP : Hid (∀ (w2 : World), Below w.heap.size w w2 → AlPost w [] 9 (.returned (.tuple #[.slice none 0 0, .int .i64 9])) w2) := fun w2 h1 => ⟨none, 0, rfl, h1, intsV_nil _⟩
    generalize rs.length = n at *
    generalize lo.length = m at *
    clear hL hR hcA hz hm
    go_enter Try.func11, Try.ntmps11
    go_wp2_with (first | (go_at_call 16; refine hC.mono ?_; rintro e w1 ⟨rfl, hb1⟩; obtain ⟨hw1, q0, q1⟩ := HB.out w1 hb1))
    go_ret2
    exact HP.out w1 hw1

theorem any_has (x : Int) (rs : List (List Int)) : rs.any (hasB x) = decide (x ∈ rs.flatten) := by
  rw [Bool.eq_iff_iff, List.any_eq_true, decide_eq_true_eq, List.mem_flatten]
  simp [hasB]
set_option maxHeartbeats 800000 in
set_option maxRecDepth 20000 in
/-- THE CONTRACT OF holds. -/
theorem holds_any (lo : List Int) (rs : List (List Int)) (x : Int) (la ra : Option Addr) (lc rc : Nat) (w : World) (hm : May lo rs) (hL : IntsV w (.slice la lo.length lc) lo) (hR : LisV w (.slice ra rs.length rc) rs) :
    Calls Try.prog 17 #[.agg #[.slice la lo.length lc, .slice ra rs.length rc], .int .i64 x] w fun e w' => e = .returned (.bool (decide (x ∈ keysL lo rs))) ∧ Below w.heap.size w w' := by
  obtain ⟨hbA, hcA⟩ := Bc.arg w (.slice la lo.length lc) (.slice ra rs.length rc) 25
  have hbB : Below w.heap.size w ((w.alloc (.cells #[.slice la lo.length lc, .slice ra rs.length rc] 25)).alloc (.cells #[.int .i64 x] 3)) := hbA.alloc hbA.size _
  obtain ⟨_, a0, a1⟩ := hcA.later ((Below.refl _ _).alloc (Nat.le_refl _) (.cells #[.int .i64 x] 3))
  have hcx : CellIs ((w.alloc (.cells #[.slice la lo.length lc, .slice ra rs.length rc] 25)).alloc (.cells #[.int .i64 x] 3)) (w.heap.size + 1) x := ⟨by simp, by simp [go_sem], by simp [go_sem]⟩
  have hK := containsK_any la lc lo x _ (by have := hm.size.loose; omega) (hL.below hbB)
  have hH := containsH_any (w.heap.size + 1) x ra rc rs _ (by have := hm.size.runs; omega) (fun r hr => ⟨by have := mem_flat_le hr; have := hm.size.many; omega, rise_le (hm.rise r hr)⟩) (hR.below hbB) hcx
  have hxc : w.heap.size + 1 < ((w.alloc (.cells #[.slice la lo.length lc, .slice ra rs.length rc] 25)).alloc (.cells #[.int .i64 x] 3)).heap.size := hcx.1
  obtain ⟨_, x0, _⟩ := hcx
  rw [any_has] at hH
  have HB : Hid (∀ w1, Below ((w.alloc (.cells #[.slice la lo.length lc, .slice ra rs.length rc] 25)).alloc (.cells #[.int .i64 x] 3)).heap.size ((w.alloc (.cells #[.slice la lo.length lc, .slice ra rs.length rc] 25)).alloc (.cells #[.int .i64 x] 3)) w1 → Below w.heap.size w w1) := fun w1 h => hbB.trans (h.mono hbB.size)
  have hdec : decide (x ∈ keysL lo rs) = (decide (x ∈ lo) || decide (x ∈ rs.flatten)) := by
    rw [Bool.eq_iff_iff, decide_eq_true_eq, Bool.or_eq_true, decide_eq_true_eq, decide_eq_true_eq, keysL, List.mem_append, or_comm]
  rw [hdec]
  generalize decide (x ∈ lo) = o1 at *
  generalize decide (x ∈ rs.flatten) = o2 at *
  generalize rs.length = n at *
  generalize lo.length = m at *
  clear hL hR hm hdec
  cases o1
  · go_enter Try.func17, Try.ntmps17
    go_wp2_with (first | (go_at_call 26; refine hK.mono ?_; rintro e w1 ⟨rfl, rfl⟩) | (go_at_call 27; refine hH.mono ?_; rintro e w2 ⟨rfl, hb2⟩))
    go_ret
    exact ⟨by first | rfl | simp, HB.out _ hb2⟩
  · go_enter Try.func17, Try.ntmps17
    go_wp2_with (first | (go_at_call 26; refine hK.mono ?_; rintro e w1 ⟨rfl, rfl⟩))
    go_ret
    exact ⟨by first | rfl | simp, hbB⟩
open Classical in
noncomputable def hasC (lo : List Int) (rs : List (List Int)) (x : Int) : Bool × Int := if May lo rs then (if 0 ≤ x ∧ x ≤ 2147483647 then (decide (x ∈ keysL lo rs), 0) else (false, 2)) else (false, 9)
set_option maxHeartbeats 800000 in
set_option maxRecDepth 20000 in
/-- THE CONTRACT OF Has. -/
theorem has_any (lo : List Int) (rs : List (List Int)) (x : Int) (la ra : Option Addr) (lc rc : Nat) (w : World) (hz : StSz lo rs) (hL : IntsV w (.slice la lo.length lc) lo) (hR : LisV w (.slice ra rs.length rc) rs) :
    Calls Try.prog 10 #[.agg #[.slice la lo.length lc, .slice ra rs.length rc], .int .i64 x] w fun e w' => e = .returned (.tuple #[.bool (hasC lo rs x).1, .int .i64 (hasC lo rs x).2]) ∧ Below w.heap.size w w' := by
  obtain ⟨hbA, hcA⟩ := Bc.arg w (.slice la lo.length lc) (.slice ra rs.length rc) 25
  obtain ⟨_, a0, a1⟩ := id hcA
  have hC := check_any lo rs la ra lc rc _ hz (hL.below hbA) (hR.below hbA)
  have HB : Hid (∀ w1, Below (w.alloc (.cells #[.slice la lo.length lc, .slice ra rs.length rc] 25)).heap.size (w.alloc (.cells #[.slice la lo.length lc, .slice ra rs.length rc] 25)) w1 → Below w.heap.size w w1 ∧ w1.cell? ⟨w.heap.size, 0, none⟩ = some (.slice la lo.length lc) ∧ w1.cell? ⟨w.heap.size, 1, none⟩ = some (.slice ra rs.length rc)) := fun w1 h => ⟨hbA.trans (h.mono hbA.size), (hcA.later h).2⟩
  by_cases hm : May lo rs
  · rw [sC_ok hm] at hC
    by_cases hx0 : x < 0
    · rw [show hasC lo rs x = (false, 2) by unfold hasC; rw [if_pos hm, if_neg (by omega)]]
      generalize rs.length = n at *
      generalize lo.length = m at *
      clear hL hR hcA hz hm
      go_enter Try.func10, Try.ntmps10
      go_wp2_with (first | (go_at_call 16; refine hC.mono ?_; rintro e w1 ⟨rfl, hb1⟩; obtain ⟨hw1, q0, q1⟩ := HB.out w1 hb1))
      go_ret2
      exact ⟨rfl, hw1⟩
    · by_cases hx1 : 2147483647 < x
      · rw [show hasC lo rs x = (false, 2) by unfold hasC; rw [if_pos hm, if_neg (by omega)]]
        generalize rs.length = n at *
        generalize lo.length = m at *
        clear hL hR hcA hz hm
        go_enter Try.func10, Try.ntmps10
        go_wp2_with (first | (go_at_call 16; refine hC.mono ?_; rintro e w1 ⟨rfl, hb1⟩; obtain ⟨hw1, q0, q1⟩ := HB.out w1 hb1))
        go_ret2
        exact ⟨rfl, hw1⟩
      · rw [show hasC lo rs x = (decide (x ∈ keysL lo rs), 0) by unfold hasC; rw [if_pos hm, if_pos (by omega)]]
        have HH : Hid (∀ w1, Below w.heap.size w w1 → Calls Try.prog 17 #[.agg #[.slice la lo.length lc, .slice ra rs.length rc], .int .i64 x] w1 fun e w' => e = .returned (.bool (decide (x ∈ keysL lo rs))) ∧ Below w1.heap.size w1 w') := fun w1 h => holds_any lo rs x la ra lc rc w1 hm (hL.below h) (hR.below h)
        generalize decide (x ∈ keysL lo rs) = o at *
        generalize rs.length = n at *
        generalize lo.length = m at *
        clear hL hR hcA hz hm
        go_enter Try.func10, Try.ntmps10
        go_wp2_with (first | (go_at_call 16; refine hC.mono ?_; rintro e w1 ⟨rfl, hb1⟩; obtain ⟨hw1, q0, q1⟩ := HB.out w1 hb1; have hh := HH.out w1 hw1) | (go_at_call 17; refine hh.mono ?_; rintro e w2 ⟨rfl, hb2⟩))
        go_ret2
        exact ⟨rfl, hw1.trans (hb2.mono hw1.size)⟩
  · rw [sC_bad hm] at hC
    rw [show hasC lo rs x = (false, 9) by unfold hasC; rw [if_neg hm]]
    generalize rs.length = n at *
    generalize lo.length = m at *
    clear hL hR hcA hz hm
    go_enter Try.func10, Try.ntmps10
    go_wp2_with (first | (go_at_call 16; refine hC.mono ?_; rintro e w1 ⟨rfl, hb1⟩; obtain ⟨hw1, q0, q1⟩ := HB.out w1 hb1))
    go_ret2
    exact ⟨rfl, hw1⟩
end Go.Proofs.Ytncfkpfbjenpjaa
