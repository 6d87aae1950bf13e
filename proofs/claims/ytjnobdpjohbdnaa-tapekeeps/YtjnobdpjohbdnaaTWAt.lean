/-
  Four bytes as a number: tape.wordAt and the document's fourAt.
-/
import Derived.Test.YtjnobdpjohbdnaaTRec2
namespace Go.Proofs.Ytjnobdpjohbdnaa
open Go.ChangeShapes Go.WideShapes Go.ChangeAt Go.RowKit Go.Deep

/-- the number that four bytes make. -/
def four (d : List UInt8) (i : Nat) : Nat := (d.getD i 0).toNat * 16777216 + (d.getD (i + 1) 0).toNat * 65536 + (d.getD (i + 2) 0).toNat * 256 + (d.getD (i + 3) 0).toNat
theorem four_lt (d : List UInt8) (i : Nat) : four d i < 4294967296 := by
  have h0 := UInt8.toNat_lt (d.getD i 0)
  have h1 := UInt8.toNat_lt (d.getD (i + 1) 0)
  have h2 := UInt8.toNat_lt (d.getD (i + 2) 0)
  have h3 := UInt8.toNat_lt (d.getD (i + 3) 0)
  unfold four
  omega
theorem or_nat {a b k : Nat} (hb : b < 2 ^ k) : (a * 2 ^ k) ||| b = a * 2 ^ k + b := by
  rw [← Nat.shiftLeft_eq, ← Nat.shiftLeft_add_eq_or_of_lt hb]
theorem or_i64 {a b : Nat} (ha : a < 9223372036854775808) (hb : b < 9223372036854775808) : bits BinOp.or IntKind.i64 (a : Int) (b : Int) = ((a ||| b : Nat) : Int) := by
  have hx : a ||| b < 2 ^ 63 := Nat.or_lt_two_pow (by omega) (by omega)
  have h1 : (BitVec.ofInt 64 (a : Int)).toNat = a := by
    rw [BitVec.ofInt_natCast, BitVec.toNat_ofNat]; exact Nat.mod_eq_of_lt (by omega)
  have h2 : (BitVec.ofInt 64 (b : Int)).toNat = b := by
    rw [BitVec.ofInt_natCast, BitVec.toNat_ofNat]; exact Nat.mod_eq_of_lt (by omega)
  show IntKind.i64.wrap ((BitVec.ofInt 64 (a : Int) ||| BitVec.ofInt 64 (b : Int)).toNat : Int) = _
  rw [BitVec.toNat_or, h1, h2, IntWalk.i64_left]
  exact IntWalk.wrap64_in _ (by omega)
theorem or_four {y0 y1 y2 y3 : Nat} (x0 : y0 < 2 ^ 8) (x1 : y1 < 2 ^ 8) (x2 : y2 < 2 ^ 8) (x3 : y3 < 2 ^ 8) : bits BinOp.or IntKind.i64 (bits BinOp.or IntKind.i64 (bits BinOp.or IntKind.i64 ((y0 : Int) * 16777216) ((y1 : Int) * 65536)) ((y2 : Int) * 256)) (y3 : Int) = ((y0 * 16777216 + y1 * 65536 + y2 * 256 + y3 : Nat) : Int) := by
  have e0 : (y0 : Int) * 16777216 = ((y0 * 2 ^ 24 : Nat) : Int) := by omega
  have e1 : (y1 : Int) * 65536 = ((y1 * 65536 : Nat) : Int) := by omega
  have e2 : (y2 : Int) * 256 = ((y2 * 256 : Nat) : Int) := by omega
  rw [e0, e1, e2, or_i64 (by omega) (by omega), or_nat (by omega), show y0 * 2 ^ 24 + y1 * 65536 = (y0 * 256 + y1) * 2 ^ 16 by omega, or_i64 (by omega) (by omega), or_nat (by omega), show (y0 * 256 + y1) * 2 ^ 16 + y2 * 256 = (y0 * 65536 + y1 * 256 + y2) * 2 ^ 8 by omega, or_i64 (by omega) (by omega), or_nat (by omega)]

set_option maxHeartbeats 800000 in
set_option maxRecDepth 20000 in
theorem wordAt_any (ao : Option Addr) (cap : Nat) (d : List UInt8) (w : World) (h4 : 4 ≤ d.length) (hl : d.length ≤ 1048576) (hV : BytesV w (.slice ao d.length cap) d) :
    Calls Try.prog 28 #[.slice ao d.length cap] w fun e w' => e = .returned (.int .i64 (four d 0)) ∧ ∃ q, w' = w.drewN q := by
  obtain ⟨ao', cap', e1, _, hat⟩ := hV
  injection e1 with e1 e2 e3
  subst e1 e3
  clear e2
  obtain ⟨b, off, rfl, _, hba⟩ := hat (by intro h; subst h; simp at h4)
  have c0 := hba 0 (by omega)
  have c1 := hba 1 (by omega)
  have c2 := hba 2 (by omega)
  have c3 := hba 3 (by omega)
  rw [Nat.add_zero] at c0
  unfold four
  simp only [Nat.zero_add]
  have x0 := UInt8.toNat_lt (d.getD 0 0)
  have x1 := UInt8.toNat_lt (d.getD 1 0)
  have x2 := UInt8.toNat_lt (d.getD 2 0)
  have x3 := UInt8.toNat_lt (d.getD 3 0)
  generalize (d.getD 0 0).toNat = y0 at *
  generalize (d.getD 1 0).toNat = y1 at *
  generalize (d.getD 2 0).toNat = y2 at *
  generalize (d.getD 3 0).toNat = y3 at *
  generalize d.length = n at *
  clear hba hat
  have HO := or_four x0 x1 x2 x3
  have HO' : Hid (bits BinOp.or IntKind.i64 (bits BinOp.or IntKind.i64 (bits BinOp.or IntKind.i64 ((y0 : Int) * 16777216) ((y1 : Int) * 65536)) ((y2 : Int) * 256)) (y3 : Int) = ((y0 * 16777216 + y1 * 65536 + y2 * 256 + y3 : Nat) : Int)) := HO
  clear HO
  go_enter Try.func28, Try.ntmps28
  go_wp2_with fail
  go_quiet (fail)
  go_wp2_with fail
  go_ret
  exact ⟨by rw [← HO'.out]; rfl, _, rfl⟩

end Go.Proofs.Ytjnobdpjohbdnaa
