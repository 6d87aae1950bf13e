/-
  Sums of bytes (P11.2): tape.Sum and the document's own.
-/
import Derived.Test.YtjnobdpjohbdnaaTMem
namespace Go.Proofs.Ytjnobdpjohbdnaa
open Go.ChangeShapes Go.WideShapes Go.ChangeAt Go.RowKit Go.Deep

/-- a sum that goes on. -/
def sumStep (s : Nat) (b : UInt8) : Nat := (s * 257 + b.toNat) % 2147483629
def sumL (l : List UInt8) : Nat := l.foldl sumStep 1
theorem sumStep_lt (s : Nat) (b : UInt8) : sumStep s b < 2147483629 := Nat.mod_lt _ (by decide)
theorem foldl_sum_lt : ∀ (l : List UInt8) (s : Nat), s < 2147483629 → l.foldl sumStep s < 2147483629
  | [], s, h => h
  | b :: l, s, _ => by rw [List.foldl_cons]; exact foldl_sum_lt l _ (sumStep_lt s b)
theorem sumL_lt (l : List UInt8) : sumL l < 2147483629 := foldl_sum_lt l 1 (by decide)
theorem sum_take {l : List UInt8} {k : Nat} (hk : k < l.length) : sumL (l.take (k + 1)) = sumStep (sumL (l.take k)) (l.getD k 0) := by
  have e : l.take (k + 1) = l.take k ++ [l.getD k 0] := by
    rw [List.take_add_one]
    simp [List.getD_eq_getElem?_getD, hk]
  rw [e]
  simp [sumL]
theorem w64 {n : Int} (h0 : -9223372036854775808 ≤ n) (h1 : n ≤ 9223372036854775807) : wrap64 n = n := IntWalk.wrap64_in n ⟨h0, h1⟩
/-- one round of the code. -/
theorem sum_num (s : Nat) (b : UInt8) (hs : s < 2147483629) : (wrap64 ((s : Int) * 257 + wrap64 (b.toNat : Int))).tmod 2147483629 = (sumStep s b : Int) := by
  have hb : b.toNat < 256 := UInt8.toNat_lt b
  rw [w64 (n := (b.toNat : Int)) (by omega) (by omega), w64 (by omega) (by omega), Int.tmod_eq_emod_of_nonneg (by omega)]
  unfold sumStep
  omega
/-- one round of the document's. -/
theorem sum_num2 (s : Nat) (b : UInt8) (hs : s < 2147483629) : wrap64 (wrap64 (257 * (s : Int) + wrap64 (b.toNat : Int)) - wrap64 (wrap64 ((wrap64 (257 * (s : Int) + wrap64 (b.toNat : Int))).tdiv 2147483629) * 2147483629)) = (sumStep s b : Int) := by
  have hb : b.toNat < 256 := UInt8.toNat_lt b
  rw [w64 (n := (b.toNat : Int)) (by omega) (by omega), w64 (n := 257 * (s : Int) + (b.toNat : Int)) (by omega) (by omega), Int.tdiv_eq_ediv_of_nonneg (by omega), w64 (n := (257 * (s : Int) + (b.toNat : Int)) / 2147483629) (by omega) (by omega), w64 (n := (257 * (s : Int) + (b.toNat : Int)) / 2147483629 * 2147483629) (by omega) (by omega), w64 (by omega) (by omega)]
  unfold sumStep
  omega

set_option maxHeartbeats 800000 in
set_option maxRecDepth 20000 in
theorem sum_any (v : Value) (l : List UInt8) (w : World) (hl : l.length ≤ 140737488355328) (hV : BytesV w v l) :
    Calls Try.prog 10 #[v] w fun e w' => e = .returned (.int .i64 (sumL l)) ∧ w' = w := by
  obtain ⟨ao, cap, rfl, _, h⟩ := hV
  obtain ⟨n, hn⟩ : ∃ n, l.length = n := ⟨_, rfl⟩
  rw [hn] at hl ⊢
  have H : Hid (l ≠ [] → ∃ b off, ao = some ⟨b, off, none⟩ ∧ b < w.heap.size ∧ BytesAt w b off l) := h
  have HN : Hid (l.length = n) := hn
  clear h hn
  go_enter Try.func10, Try.ntmps10
  go_wp2
  go_loopw [3, 8] (fun s i wr => ∃ k : Nat, k ≤ n ∧ i = .int .i64 k ∧ s = .int .i64 (sumL (l.take k)) ∧ wr = w) (fun _ i _ => n - (intOf i).toNat)
  case atStart => exact ⟨0, Nat.zero_le _, rfl, rfl, rfl⟩
  case round =>
    obtain ⟨k, hk, rfl, rfl, rfl⟩ := hrel
    by_cases hlt : k < n
    · have hne : l ≠ [] := by intro h; subst h; have := HN.out; simp at this; omega
      obtain ⟨b, off, rfl, _, hca⟩ := H.out hne
      have c1 := hca k (by rw [HN.out]; exact hlt)
      have hst := sum_take (l := l) (k := k) (by rw [HN.out]; exact hlt)
      have hs := sumL_lt (l.take k)
      generalize l.getD k 0 = x at c1 hst
      generalize sumL (l.take k) = s at *
      have hnum := sum_num s x hs
      clear hca hne
      go_wp2
      go_roundw
      case rel => exact ⟨k + 1, by omega, by go_num, by rw [hst], by trivial⟩
      case measure => simp [intOf]; omega
    · obtain rfl : k = n := by omega
      have hall : l.take k = l := by rw [List.take_of_length_le]; rw [HN.out]; omega
      rw [hall]
      go_wp2
      go_ret
      exact ⟨rfl, rfl⟩

end Go.Proofs.Ytjnobdpjohbdnaa
