/-
  The library's slices.Index and slices.Contains at lists of numbers.
-/
import Derived.Test.YtnicbkkkecfdpaaDoorIntsOf
namespace Go.Proofs.YtnicbkkkecfdpaaDoor
open Go.ChangeShapes Go.WideShapes Go.ChangeAt Go.RowKit Go.Deep
open Terms

theorem take_getV {l : List Int} {k : Nat} (h : k < l.length) : l.take (k + 1) = l.take k ++ [l.getD k 0] := by
  rw [List.take_succ_eq_append_getElem h]
  simp [List.getD_eq_getElem?_getD, h]
theorem getD_memV {l : List Int} {k : Nat} (h : k < l.length) : l.getD k 0 ∈ l := by
  rw [List.getD_eq_getElem?_getD, List.getElem?_eq_getElem h]
  exact List.getElem_mem h
theorem IntsV.atV {w : World} {ao : Option Addr} {n cap : Nat} {l : List Int} (h : IntsV w (.slice ao n cap) l) {k : Nat} (hk : k < l.length) : ∃ b off, ao = some ⟨b, off, none⟩ ∧ b < w.heap.size ∧ n = l.length ∧ IntsAt w b off l := by
  obtain ⟨ao', cap', e, h⟩ := h
  injection e with e1 e2 e3
  subst e1 e3
  obtain ⟨b, off, e, hb, hat⟩ := h (by intro h; subst h; simp at hk)
  exact ⟨b, off, e, hb, e2, hat⟩

set_option maxHeartbeats 800000 in
set_option maxRecDepth 20000 in
theorem indexV_any (ao : Option Addr) (cap : Nat) (l : List Int) (x : Int) (w : World) (hl : l.length ≤ 140737488355328) (hV : IntsV w (.slice ao l.length cap) l) :
    Calls Tryd.prog 29 #[.slice ao l.length cap, .int .i64 x] w fun e w' => ∃ q : Int, e = .returned (.int .i64 q) ∧ w' = w ∧ (x ∈ l → 0 ≤ q) ∧ (x ∉ l → q = -1) := by
  obtain ⟨n, hn⟩ : ∃ n, l.length = n := ⟨_, rfl⟩
  have H : Hid (IntsV w (.slice ao l.length cap) l) := hV
  rw [hn] at hl H ⊢
  have HN : Hid (l.length = n) := hn
  clear hV hn
  go_enter Tryd.func29, Tryd.ntmps29
  go_wp2
  go_loopw [8] (fun i wr => ∃ k : Nat, k ≤ n ∧ i = .int .i64 k ∧ Hid (x ∉ l.take k) ∧ wr = w) (fun i _ => n - (intOf i).toNat)
  case atStart => exact ⟨0, Nat.zero_le _, rfl, by show ¬ _; simp, rfl⟩
  case round =>
    obtain ⟨k, hk, rfl, HT, rfl⟩ := hrel
    by_cases hlt : k < n
    · have hlt2 : k < l.length := by rw [HN.out]; exact hlt
      obtain ⟨b, off, rfl, hb, _, hat⟩ := IntsV.atV H.out hlt2
      have c1 := hat k hlt2
      have HS : Hid (x ≠ l.getD k 0 → x ∉ l.take (k + 1)) := fun h hm => by
        rw [take_getV hlt2] at hm
        rcases List.mem_append.1 hm with h2 | h2
        · exact HT.out h2
        · simp at h2; exact h h2
      have HM : Hid (l.getD k 0 ∈ l) := getD_memV hlt2
      clear hat HT
      generalize l.getD k 0 = y at *
      by_cases hxy : x = y
      · subst hxy
        go_wp2
        go_ret
        exact ⟨_, rfl, rfl, fun _ => by omega, fun h => absurd HM.out h⟩
      · have hs := HS.out hxy
        have HS2 : Hid (x ∉ l.take (k + 1)) := hs
        clear hs HS HM
        go_wp2
        go_roundw
        case rel => exact ⟨k + 1, by omega, by go_num, HS2, by trivial⟩
        case measure => simp [intOf]; omega
    · obtain rfl : k = n := by omega
      have HT' : Hid (x ∉ l) := by have h := HT.out; rw [List.take_of_length_le (by rw [HN.out]; omega)] at h; exact h
      clear HT
      go_wp2
      go_ret
      exact ⟨-1, rfl, rfl, fun h => absurd h HT'.out, fun _ => rfl⟩
set_option maxRecDepth 20000 in
theorem containsV_any (ao : Option Addr) (cap : Nat) (l : List Int) (x : Int) (w : World) (hl : l.length ≤ 140737488355328) (hV : IntsV w (.slice ao l.length cap) l) :
    Calls Tryd.prog 20 #[.slice ao l.length cap, .int .i64 x] w fun e w' => e = .returned (.bool (decide (x ∈ l))) ∧ w' = w := by
  have hx := indexV_any ao cap l x w hl hV
  generalize l.length = n at *
  clear hV
  by_cases hm : x ∈ l
  · rw [show decide (x ∈ l) = true by simp [hm]]
    have hx2 : Calls Tryd.prog 29 #[.slice ao n cap, .int .i64 x] w fun e w' => ∃ q : Int, e = .returned (.int .i64 q) ∧ w' = w ∧ 0 ≤ q := hx.mono fun e w' ⟨q, h1, h2, h3, _⟩ => ⟨q, h1, h2, h3 hm⟩
    clear hx hm
    go_enter Tryd.func20, Tryd.ntmps20
    go_wp2_with (go_at_call 29; refine hx2.mono ?_; rintro e w1 ⟨q, rfl, rfl, h3⟩)
    go_ret
    exact ⟨by first | rfl | trivial, rfl⟩
  · rw [show decide (x ∈ l) = false by simp [hm]]
    have hx2 : Calls Tryd.prog 29 #[.slice ao n cap, .int .i64 x] w fun e w' => e = .returned (.int .i64 (-1)) ∧ w' = w := hx.mono fun e w' ⟨q, h1, h2, _, h3⟩ => ⟨by rw [h1, h3 hm], h2⟩
    clear hx hm
    go_enter Tryd.func20, Tryd.ntmps20
    go_wp2_with (go_at_call 29; refine hx2.mono ?_; rintro e w1 ⟨rfl, rfl⟩)
    go_ret
    exact ⟨by first | rfl | trivial, rfl⟩

end Go.Proofs.YtnicbkkkecfdpaaDoor
