/-
  search.Check, and the document's MovesFault.
-/
import Derived.Test.YtkncpnfhenmonaaSMem
namespace Go.Proofs.Ytkncpnfhenmonaa
open Go.ChangeShapes Go.WideShapes Go.ChangeAt Go.RowKit Go.Deep

/-- what is told of one move. -/
def mv1 (p : Int × Int) : Int := if p.1 < 1 ∨ 4 < p.1 then 13 else if p.2 < 0 ∨ 2147483647 < p.2 then 2 else 0
/-- of moves, one by one. -/
def mvF : List (Int × Int) → Int
  | [] => 0
  | p :: l => if mv1 p = 0 then mvF l else mv1 p
/-- what Check answers. -/
def mvC (l : List (Int × Int)) : Int := if 5000 < l.length then 1 else mvF l
theorem drop_at {l : List (Int × Int)} {k : Nat} (h : k < l.length) : l.drop k = l.getD k (0, 0) :: l.drop (k + 1) := by
  rw [List.drop_eq_getElem_cons h]
  simp [List.getD_eq_getElem?_getD, h]
theorem mvF_at {l : List (Int × Int)} {k : Nat} (h : k < l.length) : mvF (l.drop k) = if mv1 (l.getD k (0, 0)) = 0 then mvF (l.drop (k + 1)) else mv1 (l.getD k (0, 0)) := by rw [drop_at h]; rfl
theorem OpsV.at {w : World} {ao : Option Addr} {cap n : Nat} {l : List (Int × Int)} (h : OpsV w (.slice ao n cap) l) {i : Nat} (hi : i < l.length) : ∃ b off, ao = some ⟨b, off, none⟩ ∧ b < w.heap.size ∧ w.cell? ⟨b, off + i * 2, none⟩ = some (.int .i64 (l.getD i (0, 0)).1) ∧ w.cell? ⟨b, off + i * 2 + 1, none⟩ = some (.int .i64 (l.getD i (0, 0)).2) := by
  obtain ⟨ao', cap', hv, _, h⟩ := h
  injection hv with e1 e2 e3
  subst e1
  obtain ⟨b, off, e, hlt, hat⟩ := h (by rintro rfl; simp at hi)
  exact ⟨b, off, e, hlt, (hat i hi).1, (hat i hi).2⟩

set_option maxHeartbeats 1600000 in
set_option maxRecDepth 20000 in
/-- THE CONTRACT OF search.Check. -/
theorem check_any (ao : Option Addr) (cap : Nat) (l : List (Int × Int)) (w : World) (hl : l.length * 16 ≤ 140737488355328) (hV : OpsV w (.slice ao l.length cap) l) :
    Calls Try.prog 4 #[.slice ao l.length cap] w fun e w' => e = .returned (.int .i64 (mvC l)) ∧ Below w.heap.size w w' := by
  obtain ⟨n, hn⟩ : ∃ n, l.length = n := ⟨_, rfl⟩
  have H : Hid (OpsV w (.slice ao l.length cap) l) := hV
  have HN : Hid (l.length = n) := hn
  have HC : Hid (mvC l = if 5000 < n then 1 else mvF l) := by show _ = _; unfold mvC; rw [hn]
  have H0 : Hid (mvF (l.drop 0) = mvF l) := rfl
  rw [hn] at hl H ⊢
  clear hV hn
  by_cases hbig : 5000 < n
  · have hbi : (5000 : Int) < (n : Int) := by omega
    rw [HC.out, if_pos hbig]
    go_enter Try.func4, Try.ntmps4
    go_wp2
    go_ret
    exact ⟨rfl, Below.refl _ _⟩
  · have hbi : ¬ (5000 : Int) < (n : Int) := by omega
    rw [HC.out, if_neg hbig]
    clear HC
    generalize hmf : mvF l = mf at *
    clear hmf
    go_enter Try.func4, Try.ntmps4
    go_wp2
    go_loopw [10] (fun i wr => ∃ k : Nat, k ≤ n ∧ i = .int .i64 k ∧ Hid (mvF (l.drop k) = mf) ∧ Below w.heap.size w wr) (fun i _ => n - (intOf i).toNat)
    case atStart => exact ⟨0, Nat.zero_le _, rfl, H0, Below.refl _ _⟩
    case round =>
      obtain ⟨k, hk, rfl, HT, hbr⟩ := hrel
      by_cases hlt : k < n
      · have hlt2 : k < l.length := by rw [HN.out]; exact hlt
        obtain ⟨b, off, rfl, hbl, c0, c1⟩ := (H.out.below hbr).at hlt2
        have HE := (show Hid _ from mvF_at hlt2)
        have hki : (k : Int) < (n : Int) := by omega
        have hba : ∀ o, Below w.heap.size w (wr.alloc o) := fun o => hbr.alloc hbr.size o
        unfold mv1 at HE
        generalize l.getD k (0, 0) = p at *
        obtain ⟨x, y⟩ := p
        simp only at c0 c1 HE
        by_cases hx : x < 1 ∨ 4 < x
        · have he : mf = 13 := by rw [← HT.out, HE.out, if_pos hx]; rfl
          subst he
          by_cases hx1 : x < 1
          · go_wp2
            go_ret
            exact ⟨rfl, hba _⟩
          · have hx4 : 4 < x := by omega
            go_wp2
            go_ret
            exact ⟨rfl, hba _⟩
        · have hx1 : ¬ x < 1 := by omega
          have hx4 : ¬ 4 < x := by omega
          by_cases hy : y < 0 ∨ 2147483647 < y
          · have he : mf = 2 := by rw [← HT.out, HE.out, if_neg hx, if_pos hy]; rfl
            subst he
            by_cases hy1 : y < 0
            · go_wp2
              go_ret
              exact ⟨rfl, hba _⟩
            · have hy4 : 2147483647 < y := by omega
              go_wp2
              go_ret
              exact ⟨rfl, hba _⟩
          · have hy1 : ¬ y < 0 := by omega
            have hy4 : ¬ 2147483647 < y := by omega
            have HT2 : Hid (mvF (l.drop (k + 1)) = mf) := by show _ = _; rw [← HT.out, HE.out, if_neg hx, if_neg hy]; rfl
            clear HE HT
            go_wp2
            go_roundw
            case rel => exact ⟨k + 1, by omega, by go_num, HT2, hba _⟩
            case measure => simp [intOf]; omega
      · obtain rfl : k = n := by omega
        have he : mf = 0 := by rw [← HT.out, ← HN.out, List.drop_length]; rfl
        subst he
        go_wp2
        go_ret
        exact ⟨rfl, hbr⟩
theorem in_any (x a b : Int) (w : World) : Calls Try.prog 7 #[.int .i64 x, .int .i64 a, .int .i64 b] w fun e w' => e = .returned (.bool (decide (a ≤ x) && decide (x ≤ b))) ∧ w' = w := by
  by_cases h1 : a ≤ x
  · by_cases h2 : x ≤ b
    · rw [show (decide (a ≤ x) && decide (x ≤ b)) = true by simp [h1, h2]]
      go_enter Try.func7, Try.ntmps7
      go_wp2
      all_goals go_ret
      all_goals exact ⟨by first | rfl | simp, rfl⟩
    · rw [show (decide (a ≤ x) && decide (x ≤ b)) = false by simp [h2]]
      go_enter Try.func7, Try.ntmps7
      go_wp2
      all_goals go_ret
      all_goals exact ⟨by first | rfl | (simp; omega), rfl⟩
  · rw [show (decide (a ≤ x) && decide (x ≤ b)) = false by simp [h1]]
    go_enter Try.func7, Try.ntmps7
    go_wp2
    all_goals go_ret
    all_goals exact ⟨by first | rfl | (simp; omega), rfl⟩

set_option maxHeartbeats 1600000 in
set_option maxRecDepth 20000 in
/-- THE CONTRACT OF the document's MovesFault. -/
theorem fault_any (ao : Option Addr) (cap : Nat) (l : List (Int × Int)) (w : World) (hl : l.length * 16 ≤ 140737488355328) (hV : OpsV w (.slice ao l.length cap) l) :
    Calls Try.prog 6 #[.slice ao l.length cap] w fun e w' => e = .returned (.int .i64 (mvC l)) ∧ Below w.heap.size w w' := by
  obtain ⟨n, hn⟩ : ∃ n, l.length = n := ⟨_, rfl⟩
  have H : Hid (OpsV w (.slice ao l.length cap) l) := hV
  have HN : Hid (l.length = n) := hn
  have HC : Hid (mvC l = if 5000 < n then 1 else mvF l) := by show _ = _; unfold mvC; rw [hn]
  have H0 : Hid (mvF (l.drop 0) = mvF l) := rfl
  rw [hn] at hl H ⊢
  clear hV hn
  by_cases hbig : 5000 < n
  · have hbi : (5000 : Int) < (n : Int) := by omega
    rw [HC.out, if_pos hbig]
    go_enter Try.func6, Try.ntmps6
    go_wp2
    go_ret
    exact ⟨rfl, Below.refl _ _⟩
  · have hbi : ¬ (5000 : Int) < (n : Int) := by omega
    rw [HC.out, if_neg hbig]
    clear HC
    generalize hmf : mvF l = mf at *
    clear hmf
    go_enter Try.func6, Try.ntmps6
    go_wp2
    go_loopw [3] (fun i wr => ∃ k : Nat, k ≤ n ∧ i = .int .i64 k ∧ Hid (mvF (l.drop k) = mf) ∧ wr = w) (fun i _ => n - (intOf i).toNat)
    case atStart => exact ⟨0, Nat.zero_le _, rfl, H0, rfl⟩
    case round =>
      obtain ⟨k, hk, rfl, HT, rfl⟩ := hrel
      by_cases hlt : k < n
      · have hlt2 : k < l.length := by rw [HN.out]; exact hlt
        obtain ⟨b, off, rfl, hbl, c0, c1⟩ := H.out.at hlt2
        have HE := (show Hid _ from mvF_at hlt2)
        have hki : (k : Int) < (n : Int) := by omega
        unfold mv1 at HE
        generalize l.getD k (0, 0) = p at *
        obtain ⟨x, y⟩ := p
        simp only at c0 c1 HE
        have hi1 := in_any x 1 4 wr
        have hi2 := in_any y 0 2147483647 wr
        by_cases hx : x < 1 ∨ 4 < x
        · have he : mf = 13 := by rw [← HT.out, HE.out, if_pos hx]; rfl
          subst he
          rw [show (decide (1 ≤ x) && decide (x ≤ 4)) = false by simp; omega] at hi1
          go_wp2_with (first | (go_at_call_of 7 x; refine hi1.mono ?_; rintro e w1 ⟨rfl, rfl⟩))
          go_ret
          exact ⟨rfl, Below.refl _ _⟩
        · rw [show (decide (1 ≤ x) && decide (x ≤ 4)) = true by simp; omega] at hi1
          by_cases hy : y < 0 ∨ 2147483647 < y
          · have he : mf = 2 := by rw [← HT.out, HE.out, if_neg hx, if_pos hy]; rfl
            subst he
            rw [show (decide (0 ≤ y) && decide (y ≤ 2147483647)) = false by simp; omega] at hi2
            go_wp2_with (first | (go_at_call_of 7 x; refine hi1.mono ?_; rintro e w1 ⟨rfl, rfl⟩) | (go_at_call_of 7 y; refine hi2.mono ?_; rintro e w2 ⟨rfl, rfl⟩))
            go_ret
            exact ⟨rfl, Below.refl _ _⟩
          · rw [show (decide (0 ≤ y) && decide (y ≤ 2147483647)) = true by simp; omega] at hi2
            have HT2 : Hid (mvF (l.drop (k + 1)) = mf) := by show _ = _; rw [← HT.out, HE.out, if_neg hx, if_neg hy]; rfl
            clear HE HT
            go_wp2_with (first | (go_at_call_of 7 x; refine hi1.mono ?_; rintro e w1 ⟨rfl, rfl⟩) | (go_at_call_of 7 y; refine hi2.mono ?_; rintro e w2 ⟨rfl, rfl⟩))
            go_roundw
            case rel => exact ⟨k + 1, by omega, by go_num, HT2, trivial⟩
            case measure => simp [intOf]; omega
      · obtain rfl : k = n := by omega
        have he : mf = 0 := by rw [← HT.out, ← HN.out, List.drop_length]; rfl
        subst he
        go_wp2
        go_ret
        exact ⟨rfl, Below.refl _ _⟩
end Go.Proofs.Ytkncpnfhenmonaa
