/-
  Records: how they are laid; what may be written.
-/
import Derived.Test.YtjnobdpjohbdnaaTWord
namespace Go.Proofs.Ytjnobdpjohbdnaa
open Go.ChangeShapes Go.WideShapes Go.ChangeAt Go.RowKit Go.Deep

/-! ### what a record is -/
def outB (x : Int) : Bool := decide (x < 0) || decide (2147483647 < x)
/-- why a record cannot be written. -/
def wrC (l : List Int) : Int := if 4000 < l.length then 1 else if l.any outB = true then 2 else 0
def bodyB (l : List Int) : List UInt8 := l.flatMap fun x => word4 x.toNat
def headB (n : Nat) (l : List Int) : List UInt8 := word4 n ++ bodyB l
def recB (l : List Int) : List UInt8 := headB l.length l ++ word4 (sumL (headB l.length l))
theorem bodyB_length (l : List Int) : (bodyB l).length = 4 * l.length := by
  induction l with
  | nil => rfl
  | cons x l ih => rw [bodyB, List.flatMap_cons, List.length_append]; rw [bodyB] at ih; rw [ih, word4_length, List.length_cons]; omega
theorem headB_length (n : Nat) (l : List Int) : (headB n l).length = 4 + 4 * l.length := by rw [headB, List.length_append, word4_length, bodyB_length]
theorem recB_length (l : List Int) : (recB l).length = 4 * l.length + 8 := by rw [recB, List.length_append, headB_length, word4_length]; omega
theorem bodyB_snoc {l : List Int} {i : Nat} (h : i < l.length) : bodyB (l.take (i + 1)) = bodyB (l.take i) ++ word4 (l.getD i 0).toNat := by
  have e : l.take (i + 1) = l.take i ++ [l.getD i 0] := by
    rw [List.take_add_one]
    simp [List.getD_eq_getElem?_getD, h]
  rw [e]
  simp [bodyB]
theorem outB_get {l : List Int} (h : l.any outB = false) {i : Nat} (hi : i < l.length) : 0 ≤ l.getD i 0 ∧ l.getD i 0 ≤ 2147483647 := by
  have hm : l.getD i 0 ∈ l := by rw [List.getD_eq_getElem?_getD, List.getElem?_eq_getElem hi]; simp
  have := List.any_eq_false.1 h _ hm
  generalize l.getD i 0 = x at *
  simp [outB] at this
  omega

theorem outside_any (x : Int) (w : World) : Calls Try.prog 26 #[.int .i64 x] w fun e w' => e = .returned (.bool (outB x)) ∧ w' = w := by
  by_cases h1 : x < 0
  · rw [show outB x = true by simp [outB, h1]]
    go_enter Try.func26, Try.ntmps26
    go_wp2
    all_goals go_ret
    all_goals exact ⟨rfl, rfl⟩
  · by_cases h2 : 2147483647 < x
    · rw [show outB x = true by simp [outB, h2]]
      go_enter Try.func26, Try.ntmps26
      go_wp2
      all_goals go_ret
      all_goals exact ⟨rfl, rfl⟩
    · rw [show outB x = false by simp [outB, h1, h2]]
      go_enter Try.func26, Try.ntmps26
      go_wp2
      all_goals go_ret
      all_goals exact ⟨rfl, rfl⟩

theorem recordBytes_any (n : Nat) (w : World) (h : n ≤ 4294967296) : Calls Try.prog 23 #[.int .i64 n] w fun e w' => e = .returned (.int .i64 ((4 * n + 8 : Nat) : Int)) ∧ w' = w := by
  have e : ((4 * n + 8 : Nat) : Int) = ((n : Int) + 2) * 4 := by omega
  rw [e]
  go_enter Try.func23, Try.ntmps23
  go_wp2
  go_ret
  exact ⟨rfl, rfl⟩

set_option maxHeartbeats 800000 in
set_option maxRecDepth 20000 in
theorem index_any (v : Value) (l : List Int) (w : World) (hl : l.length ≤ 140737488355328) (hV : IntsV w v l) :
    Calls Try.prog 29 #[v, .func (.func 26) #[] #[]] w fun e w' => ∃ q : Int, e = .returned (.int .i64 q) ∧ w' = w ∧ (l.any outB = true → 0 ≤ q) ∧ (l.any outB = false → q = -1) := by
  obtain ⟨ao, cap, rfl, h⟩ := hV
  obtain ⟨n, hn⟩ : ∃ n, l.length = n := ⟨_, rfl⟩
  rw [hn] at hl ⊢
  have H : Hid (l ≠ [] → ∃ b off, ao = some ⟨b, off, none⟩ ∧ b < w.heap.size ∧ IntsAt w b off l) := h
  have HN : Hid (l.length = n) := hn
  clear h hn
  go_enter Try.func29, Try.ntmps29
  go_wp2
  go_loopw [8] (fun i wr => ∃ k : Nat, k ≤ n ∧ i = .int .i64 k ∧ (l.take k).any outB = false ∧ wr = w) (fun i _ => n - (intOf i).toNat)
  case atStart => exact ⟨0, Nat.zero_le _, rfl, rfl, rfl⟩
  case round =>
    obtain ⟨k, hk, rfl, HT, rfl⟩ := hrel
    by_cases hlt : k < n
    · have hlt2 : k < l.length := by rw [HN.out]; exact hlt
      have hne : l ≠ [] := by intro h; subst h; simp at hlt2
      obtain ⟨b, off, rfl, _, hca⟩ := H.out hne
      have c1 := hca k hlt2
      have hou := outside_any (l.getD k 0) wr
      have hst : (l.take (k + 1)).any outB = outB (l.getD k 0) := by
        have e : l.take (k + 1) = l.take k ++ [l.getD k 0] := by
          rw [List.take_add_one]
          simp [List.getD_eq_getElem?_getD, hlt2]
        rw [e, List.any_append, HT]
        simp
      have hany : outB (l.getD k 0) = true → l.any outB = true := fun h => List.any_eq_true.2 ⟨l.getD k 0, by rw [List.getD_eq_getElem?_getD, List.getElem?_eq_getElem hlt2]; simp, h⟩
      have HS : Hid ((l.take (k + 1)).any outB = outB (l.getD k 0)) := hst
      have HAn : Hid (outB (l.getD k 0) = true → l.any outB = true) := hany
      clear hca hne hst hany HT
      generalize l.getD k 0 = x at *
      generalize outB x = o at *
      cases o
      · go_wp2_with (go_at_call 26; refine hou.mono ?_; rintro e w1 ⟨rfl, rfl⟩)
        go_roundw
        case rel => exact ⟨k + 1, by omega, by go_num, HS.out, by trivial⟩
        case measure => simp [intOf]; omega
      · go_wp2_with (go_at_call 26; refine hou.mono ?_; rintro e w1 ⟨rfl, rfl⟩)
        go_ret
        exact ⟨_, rfl, rfl, fun _ => by omega, fun h => by rw [HAn.out (by trivial)] at h; simp at h⟩
    · obtain rfl : k = n := by omega
      have hall : l.take k = l := by rw [List.take_of_length_le]; rw [HN.out]; omega
      rw [hall] at HT
      have HT' : Hid (l.any outB = false) := HT
      clear HT
      go_wp2
      go_ret
      exact ⟨-1, rfl, rfl, fun h => by rw [HT'.out] at h; simp at h, fun _ => rfl⟩

set_option maxRecDepth 20000 in
theorem contains_any (v : Value) (l : List Int) (w : World) (hl : l.length ≤ 140737488355328) (hV : IntsV w v l) :
    Calls Try.prog 25 #[v, .func (.func 26) #[] #[]] w fun e w' => e = .returned (.bool (l.any outB)) ∧ w' = w := by
  have hx := index_any v l w hl hV
  obtain ⟨ao, cap, rfl, _⟩ := hV
  generalize l.length = n at *
  generalize l.any outB = o at *
  cases o
  all_goals
    go_enter Try.func25, Try.ntmps25
    go_wp2_with (go_at_call 29; refine hx.mono ?_; rintro e w1 ⟨q, rfl, rfl, h1, h2⟩; first | (obtain rfl := h2 rfl) | (have h3 := h1 rfl))
    go_ret
    exact ⟨by first | rfl | trivial, rfl⟩
end Go.Proofs.Ytjnobdpjohbdnaa
