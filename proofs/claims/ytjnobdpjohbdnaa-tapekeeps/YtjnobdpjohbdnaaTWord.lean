/-
  A number's four bytes.
-/
import Derived.Test.YtjnobdpjohbdnaaTOpen
import Derived.Test.YtjnobdpjohbdnaaTSum
namespace Go.Proofs.Ytjnobdpjohbdnaa
open Go.ChangeShapes Go.WideShapes Go.ChangeAt Go.RowKit Go.Deep

/-- a number's four bytes, the highest first. -/
def word4 (n : Nat) : List UInt8 := [UInt8.ofNat (n / 16777216), UInt8.ofNat (n / 65536), UInt8.ofNat (n / 256), UInt8.ofNat n]
theorem word4_length (n : Nat) : (word4 n).length = 4 := rfl

theorem u8n (n : Nat) : ((UInt8.ofNat n).toNat : Int) = (n : Int) % 256 := by rw [UInt8.toNat_ofNat']; omega
theorem word4_vals {n : Nat} (hn : n < 4294967296) : bvals (word4 n) = [.int .u8 ((n : Int) / 16777216), .int .u8 ((n : Int) / 65536 % 256), .int .u8 ((n : Int) / 256 % 256), .int .u8 ((n : Int) % 256)] := by
  have e1 : ((n / 16777216 : Nat) : Int) % 256 = (n : Int) / 16777216 := by omega
  have e2 : ((n / 65536 : Nat) : Int) % 256 = (n : Int) / 65536 % 256 := by omega
  have e3 : ((n / 256 : Nat) : Int) % 256 = (n : Int) / 256 % 256 := by omega
  simp only [bvals, word4, List.map_cons, List.map_nil, u8n, e1, e2, e3]

theorem four_cells (w : World) (a b c d : Value) (t : TypeId) : ∀ j u, [a, b, c, d][j]? = some u → (w.alloc (.cells #[a, b, c, d] t)).cell? ((⟨w.heap.size, 0, none⟩ : Addr).add j) = some u := by
  intro j u hj
  match j, hj with
  | 0, hj => simp at hj; subst hj; simp [Addr.add, go_sem]
  | 1, hj => simp at hj; subst hj; simp [Addr.add, go_sem]
  | 2, hj => simp at hj; subst hj; simp [Addr.add, go_sem]
  | 3, hj => simp at hj; subst hj; simp [Addr.add, go_sem]

set_option maxHeartbeats 800000 in
set_option maxRecDepth 20000 in
theorem withWord_any (ao : Option Addr) (cap k : Nat) (xs : List Value) (n base : Nat) (w : World) (hO : w.ownsRow base 5 1 (.slice ao k cap) k xs) (hn : n < 4294967296) (hk : k ≤ 2097152) (hb : base ≤ w.heap.size) :
    Calls Try.prog 30 #[.slice ao k cap, .int .i64 n] w fun e w' => ∃ ao' cap', e = .returned (.slice ao' (k + 4) cap') ∧ Below base w w' ∧ Hid (w'.ownsRow base 5 1 (.slice ao' (k + 4) cap') (k + 4) (xs ++ bvals (word4 n))) := by
  obtain ⟨i0, hi, hz0, hz1, hz2⟩ := info_parts infoByte
  rw [word4_vals hn]
  go_enter Try.func30, Try.ntmps30
  go_wp2_with (at_builtin; refine wpList_append_own _ rfl _ _ 22 rfl base 5 i0 (.int .u8 0) 1 1 Try.underlying22 hi hz0 hz1 hz2 rfl (by decide) (.slice ao k cap) k xs rfl (hO.alloc _) ⟨w.heap.size, 0, none⟩ 4 4 [.int .u8 ((n : Int) / 16777216), .int .u8 ((n : Int) / 65536 % 256), .int .u8 ((n : Int) / 256 % 256), .int .u8 ((n : Int) % 256)] rfl rfl (four_cells _ _ _ _ _ _) (by simp [Value.oneCell']) ?c3 ?c4 ?c5 ?_)
  case c3 => unfold maxLen; omega
  case c4 => omega
  case c5 => simp; omega
  intro v' w4 hown' hgrow _
  have hb4 : Below base w w4 := ((Below.refl base w).alloc hb _).grown hgrow (by simp; omega) (fun q hq => (hO.lt q hq).1)
  obtain ⟨a1, c1, rfl⟩ := owns_slice hown'
  clear hgrow hO
  go_wp2
  go_ret
  exact ⟨a1, c1, rfl, hb4, hown'⟩

end Go.Proofs.Ytjnobdpjohbdnaa
