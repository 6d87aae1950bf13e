/-
  The document's RecordsOf.
-/
import Derived.Test.YtjnobdpjohbdnaaTRead
namespace Go.Proofs.Ytjnobdpjohbdnaa
open Go.ChangeShapes Go.WideShapes Go.ChangeAt Go.RowKit Go.Deep

set_option maxRecDepth 20000 in
theorem elemBytes : Try.prog.elem 22 = 5 := by kernel_rfl
theorem sl_mid {b off m cap a n : Nat} (w : World) (h1 : a + 4 * n + 8 ≤ cap) : (Instr.slice 22 (.slice (some ⟨b, off, none⟩) m cap) (some (.int .i64 (a : Int))) (some (.int .i64 ((a : Int) + 4 * (n : Int) + 8))) none).run Try.prog w = .ok (.slice (some ⟨b, off + a, none⟩) (4 * n + 8) (cap - a)) w := by
  obtain ⟨i0, hi, hz0, hz1, hz2⟩ := info_parts infoByte
  rw [run_slice_lh w 22 (some ⟨b, off, none⟩) m cap (by rw [elemBytes]; exact Try.underlying22) .i64 .i64 (a : Int) ((a : Int) + 4 * (n : Int) + 8) (by omega) (by omega) (by omega), elemBytes]
  have e1 : ((a : Int) + 4 * (n : Int) + 8).toNat = a + 4 * n + 8 := by omega
  have e2 : (a : Int).toNat = a := by omega
  have e3 : a + 4 * n + 8 - a = 4 * n + 8 := by omega
  have e4 : ¬ cap = a := by omega
  simp [sizeOf, typeInfo, hi, hz1, sliced, e1, e2, e3, e4, Addr.add, Result.andThen]
theorem recAt_short {D : List UInt8} (h : D.length < 4) : recAt D = none := by rw [recAt, if_pos h]
theorem recAt_big {D : List UInt8} (h : ¬ D.length < 4) (h2 : 4000 < four D 0 ∨ D.length < 4 * four D 0 + 8) : recAt D = none := by rw [recAt, if_neg h, if_pos h2]
theorem recAt_not {D : List UInt8} (h1 : ¬ D.length < 4) (h2 : ¬ (4000 < four D 0 ∨ D.length < 4 * four D 0 + 8)) (h : ¬ (wrC (numsAt D (four D 0)) = 0 ∧ recB (numsAt D (four D 0)) = D.take (4 * four D 0 + 8))) : recAt D = none := by
  cases hr : recAt D with
  | none => rfl
  | some l =>
    refine absurd ?_ h
    have := recAt_some hr
    have e : recAt D = some (numsAt D (four D 0)) := by rw [hr, this.2.2.2.2]
    simpa using (rec_iff h1 h2).2 e
theorem recAt_yes {D : List UInt8} (h1 : ¬ D.length < 4) (h2 : ¬ (4000 < four D 0 ∨ D.length < 4 * four D 0 + 8)) (h : wrC (numsAt D (four D 0)) = 0 ∧ recB (numsAt D (four D 0)) = D.take (4 * four D 0 + 8)) : recAt D = some (numsAt D (four D 0)) :=
  (rec_iff h1 h2).1 (by simpa using h)

end Go.Proofs.Ytjnobdpjohbdnaa
