/-
  Tapes: what may be one; the copies that the code and the document make.
-/
import Derived.Test.YtojioopoblphfaaTMem
import Derived.Deep.AppendLies
import Derived.Deep.RegionHeld3
namespace Go.Proofs.Ytojioopoblphfaa
open Go.ChangeShapes Go.WideShapes Go.ChangeAt Go.RowKit Go.Deep

theorem take_succ {l : List UInt8} {k : Nat} (hk : k < l.length) : l.take (k + 1) = l.take k ++ [l.getD k 0] := by
  rw [List.take_add_one]
  simp [List.getD_eq_getElem?_getD, hk]
/-- P11.1. -/
def mayB (n : Nat) (s : Int) : Bool := decide (n ≤ 1048576 ∧ 0 ≤ s ∧ s ≤ n)

theorem in_any (n low high : Int) (w : World) :
    Calls Try.prog 41 #[.int .i64 n, .int .i64 low, .int .i64 high] w fun e w' => e = .returned (.bool (decide (low ≤ n ∧ n ≤ high))) ∧ w' = w := by
  by_cases h1 : low ≤ n
  · by_cases h2 : n ≤ high
    · rw [show decide (low ≤ n ∧ n ≤ high) = true by simp [h1, h2]]
      go_enter Try.func41, Try.ntmps41
      go_wp2
      all_goals go_ret
      all_goals exact ⟨rfl, rfl⟩
    · rw [show decide (low ≤ n ∧ n ≤ high) = false by simp [h2]]
      go_enter Try.func41, Try.ntmps41
      go_wp2
      all_goals go_ret
      all_goals exact ⟨rfl, rfl⟩
  · rw [show decide (low ≤ n ∧ n ≤ high) = false by simp [h1]]
    go_enter Try.func41, Try.ntmps41
    go_wp2
    all_goals go_ret
    all_goals exact ⟨rfl, rfl⟩

set_option maxRecDepth 20000 in
theorem mayBe_any (ao : Option Addr) (n cap : Nat) (s : Int) (w : World) :
    Calls Try.prog 26 #[.agg #[.slice ao n cap, .int .i64 s]] w fun e w' => e = .returned (.bool (mayB n s)) ∧ Below w.heap.size w w' := by
  have hb : ∀ o, Below w.heap.size w (w.alloc o) := fun o => (Below.refl _ _).alloc (Nat.le_refl _) _
  by_cases h1 : n ≤ 1048576
  · by_cases h2 : 0 ≤ s
    · by_cases h3 : s ≤ n
      · rw [show mayB n s = true by simp [mayB, h1, h2, h3]]
        go_enter Try.func26, Try.ntmps26
        go_wp2
        all_goals go_ret
        all_goals exact ⟨rfl, hb _⟩
      · rw [show mayB n s = false by simp [mayB, h3]]
        go_enter Try.func26, Try.ntmps26
        go_wp2
        all_goals go_ret
        all_goals exact ⟨rfl, hb _⟩
    · rw [show mayB n s = false by simp [mayB, h2]]
      go_enter Try.func26, Try.ntmps26
      go_wp2
      all_goals go_ret
      all_goals exact ⟨rfl, hb _⟩
  · rw [show mayB n s = false by simp [mayB, h1]]
    go_enter Try.func26, Try.ntmps26
    go_wp2
    all_goals go_ret
    all_goals exact ⟨rfl, hb _⟩

set_option maxRecDepth 20000 in
theorem tmay_any (ao : Option Addr) (n cap : Nat) (s : Int) (w : World) :
    Calls Try.prog 31 #[.agg #[.slice ao n cap, .int .i64 s]] w fun e w' => e = .returned (.bool (mayB n s)) ∧ Below w.heap.size w w' := by
  have hb : ∀ o, Below w.heap.size w (w.alloc o) := fun o => (Below.refl _ _).alloc (Nat.le_refl _) _
  have hin := fun w1 => in_any s 0 n w1
  by_cases h1 : n ≤ 1048576
  · have e : decide (0 ≤ s ∧ s ≤ (n : Int)) = mayB n s := by simp [mayB, h1]
    rw [e] at hin
    generalize mayB n s = b at *
    cases b
    all_goals
      go_enter Try.func31, Try.ntmps31
      go_wp2_with (go_at_call 41; refine (hin _).mono ?_; rintro e w1 ⟨rfl, rfl⟩)
      all_goals go_ret
      all_goals exact ⟨rfl, hb _⟩
  · rw [show mayB n s = false by simp [mayB, h1]]
    go_enter Try.func31, Try.ntmps31
    go_wp2
    all_goals go_ret
    all_goals exact ⟨rfl, hb _⟩

set_option maxHeartbeats 800000 in
set_option maxRecDepth 20000 in
/-- the document's copy of the first bytes. -/
theorem octs_any (v : Value) (l : List UInt8) (n : Nat) (w : World) (hl : l.length ≤ 1048576) (hn : n ≤ l.length) (hV : BytesV w v l) :
    Calls Try.prog 33 #[v, .int .i64 n] w fun e w' => ∃ v', e = .returned v' ∧ Below w.heap.size w w' ∧ w'.ownsRow w.heap.size 5 1 v' n (bvals (l.take n)) := by
  obtain ⟨ao, cap, rfl, _, h⟩ := hV
  obtain ⟨i0, hi, hz0, hz1, hz2⟩ := info_parts infoByte
  obtain ⟨m, hm⟩ : ∃ m, l.length = m := ⟨_, rfl⟩
  rw [hm] at hl hn ⊢
  have H : Hid (l ≠ [] → ∃ b off, ao = some ⟨b, off, none⟩ ∧ b < w.heap.size ∧ BytesAt w b off l) := h
  have HM : Hid (l.length = m) := hm
  clear h hm
  go_enter Try.func33, Try.ntmps33
  go_wp2
  go_loopw [5, 6] (fun v i wr => ∃ k : Nat, k ≤ n ∧ i = .int .i64 k ∧ Below w.heap.size w wr ∧ wr.ownsRow w.heap.size 5 1 v k (bvals (l.take k))) (fun _ i _ => n - (intOf i).toNat)
  case atStart => exact ⟨0, Nat.zero_le _, rfl, Below.refl _ _, World.ownsRow_nil _ _ _ _⟩
  case round =>
    obtain ⟨k, hk, rfl, hB, hO⟩ := hrel
    obtain ⟨vo, vc, rfl⟩ := owns_slice hO
    by_cases hlt : k < n
    · have hlt2 : k < l.length := by rw [HM.out]; omega
      have hne : l ≠ [] := by intro h; subst h; simp at hlt2
      obtain ⟨b, off, rfl, hbl, hca⟩ := H.out hne
      have c1 := (hB.cell (p := ⟨b, off + k, none⟩) hbl).trans (hca k hlt2)
      have hkm : k < m := by omega
      have he : bvals (l.take (k + 1)) = bvals (l.take k) ++ [.int .u8 ((l.getD k 0).toNat : Int)] := by
        rw [take_succ hlt2, bvals_append]
        rfl
      have HE : Hid (bvals (l.take (k + 1)) = bvals (l.take k) ++ [.int .u8 ((l.getD k 0).toNat : Int)]) := he
      clear hca hne he
      generalize l.getD k 0 = x at c1 HE
      go_wp2_with (at_builtin; refine wpList_append_own _ rfl _ _ 22 rfl w.heap.size 5 i0 (.int .u8 0) 1 1 Try.underlying22 hi hz0 hz1 hz2 rfl (by decide) (.slice vo k vc) k (bvals (l.take k)) rfl (hO.alloc _) ⟨wr.heap.size, 0, none⟩ 1 1 [.int .u8 (x.toNat : Int)] rfl rfl ?c1 (by simp [Value.oneCell']) ?c3 ?c4 ?c5 ?_)
      case c1 =>
        intro j u hj
        match j, hj with
        | 0, hj => simp at hj; subst hj; simp [Addr.add, go_sem]
      case c3 => unfold maxLen; omega
      case c4 => omega
      case c5 => simp; exact Nat.le_succ_of_le hB.size
      intro v' w4 hown' hgrow _
      have hb4 : Below w.heap.size w w4 := (hB.alloc hB.size _).grown hgrow (by simp; exact Nat.le_succ_of_le hB.size) (fun q hq => (hO.lt q hq).1)
      rw [← HE.out] at hown'
      clear hgrow HE c1 hO
      go_wp2
      go_roundw
      case rel => exact ⟨k + 1, by omega, by go_num, hb4, hown'⟩
      case measure => simp [intOf]; omega
    · obtain rfl : k = n := by omega
      go_wp2
      go_ret
      exact ⟨_, rfl, hB, hO⟩

set_option maxRecDepth 20000 in
theorem sameBytes_any (va vb : Value) (l m : List UInt8) (w : World) (hA : BytesV w va l) (hB : BytesV w vb m) :
    Calls Try.prog 34 #[va, vb] w fun e w' => e = .returned (.bool (decide (l = m))) ∧ w' = w := by
  obtain ⟨ao, ac, rfl⟩ := hA.shape
  obtain ⟨bo, bc, rfl⟩ := hB.shape
  have h1 := hA.text
  have h2 := hB.text
  generalize l.length = n at *
  generalize m.length = k at *
  go_enter Try.func34, Try.ntmps34
  go_wp2
  go_ret
  refine ⟨?_, rfl⟩
  have hbe : ∀ (x y : List UInt8), (x == y) = decide (x = y) := fun x y => by by_cases h : x = y <;> simp [h]
  simp [hbe]
end Go.Proofs.Ytojioopoblphfaa
