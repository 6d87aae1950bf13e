/-
  Bytes appended to an own row, be it nil.
-/
import Derived.Test.YtjnobdpjohbdnaaTPre
import Derived.Test.YtjnobdpjohbdnaaTInts
namespace Go.Proofs.Ytjnobdpjohbdnaa
open Go.ChangeShapes Go.WideShapes Go.ChangeAt Go.RowKit Go.Deep

section
variable {P : Program} {w : World}
theorem run_app0 (t ty e : TypeId) (i : TypeInfo) (ht : P.underlying t = some (.slice e)) (hi : P.info? e = some i) (so : Option Addr) (sc : Nat) :
    (Builtin.append_ #[t, t] ty #[.slice none 0 0, .slice so 0 sc]).run P w = .ok (.slice none 0 0) w := by
  cases so with
  | none => simp [Builtin.append_, run_underlying ht, sizeOf, typeInfo, hi, Builtin.lenOf, Builtin.firstCells]
  | some a => simp [Builtin.append_, run_underlying ht, sizeOf, typeInfo, hi, Builtin.lenOf, Builtin.firstCells, loadCells, loadCellsFrom]
theorem step_append_o {ops : Array Oper} {o : Oper} {a : Act} {K : Act → World → Prop} {Q : Exit → Act → World → Prop} {E : Prop} (hgd : o.guard = none) (s x : Operand)
    (ho : o.op = .call { callee := .builtin .append, args := #[s, x], argTypes := #[22, 22] })
    (base n cap : Nat) (vo : Option Addr) (xs : List Value) (hs : a.eval s = .slice vo n cap) (hown : w.ownsRow base 5 1 (.slice vo n cap) n xs) (so : Option Addr) (m c : Nat) (l : List UInt8) (hx : a.eval x = .slice so m c) (hV : BytesV w (.slice so m c) l)
    (hsz : n + m ≤ 4194304) (hbase : base ≤ w.heap.size)
    (h : ∀ vo' cap' w', w'.ownsRow base 5 1 (.slice vo' (n + m) cap') (n + m) (xs ++ bvals l) → w.grownBy w' (Value.slice vo n cap).ownBlock → K (a.put o.dst (.slice vo' (n + m) cap')) w') :
    if Region.wanted o (yielded ops a.tmps) = true then Oper.wp Try.prog o a w K Q else E := by
  have hown' := hown
  rcases hown.2 with ⟨hv, h0⟩ | ⟨g, cap', cur, hv, _⟩
  · injection hv with h1 h2 h3
    subst h1 h2 h3
    obtain rfl : xs = [] := by have := hown.1; simpa using this
    obtain ⟨i0, hi, hz0, hz1, hz2⟩ := info_parts infoByte
    obtain ⟨so', c', e1, ⟨hlc, hnone⟩, hat⟩ := id hV
    injection e1 with e1 e2 e3
    subst e1 e2 e3
    by_cases hl : l = []
    · subst hl
      have hw : Region.wanted o (yielded ops a.tmps) = true := by simp [Region.wanted, hgd]
      rw [if_pos hw]
      have hr := run_app0 (P := Try.prog) (w := w) 22 o.type 5 i0 Try.underlying22 hi so c
      have hx' : a.eval x = .slice so 0 c := hx
      unfold Oper.wp execOp
      simp only [ho, resolve, invoke, builtin, Sem.run_bind, Sem.run_pure, Result.andThen_ok, List.map_toArray, List.map_cons, List.map_nil, hs, hx', hr]
      exact h none 0 w (World.ownsRow_nil _ _ _ _) (World.grownBy.refl _ _)
    · obtain ⟨b, off, rfl, hbl, hba⟩ := hat hl
      exact step_append_lies _ hgd s x 22 ho base 5 i0 _ 1 1 Try.underlying22 hi hz0 hz1 hz2 rfl (by decide) _ 0 [] hs hown' ⟨b, off, none⟩ l.length c (bvals l) hx (by rw [bvals_length]; omega) hba.cells (bvals_one l) (List.length_pos_iff.2 hl) (by unfold maxLen; omega) (by omega) hbase _ rfl fun g' cap' w' h1 h2 _ _ => h _ cap' w' h1 h2
  · injection hv with h1 h2 h3
    subst h1 h3
    exact step_append_b hgd s x ho base g n cap xs hs hown' so m c l hx hV hsz hbase fun g' cap'' w' h1 h2 => h _ cap'' w' h1 h2
end
end Go.Proofs.Ytjnobdpjohbdnaa
