/-
  The document's numbers, keysOf, In.
-/
import Derived.Test.YtncfkpfbjenpjaaUApp
namespace Go.Proofs.Ytncfkpfbjenpjaa
open Go.ChangeShapes Go.WideShapes Go.ChangeAt Go.RowKit Go.Deep

section
variable {W : World}
/-- one more number: 'append(out, x)'. -/
theorem push_i {ops : Array Oper} {rest : List Oper} {o : Oper} {a : Act} {Q : Exit → Act → World → Prop} (y : Int) (hgd : o.guard = none) (s x : Operand)
    (ho : o.op = .call { callee := .builtin .append, args := #[s, x], argTypes := #[22, 22] })
    (base n cap : Nat) (vo : Option Addr) (xs : List Value) (hs : a.eval s = .slice vo n cap) (hown : W.ownsRow base 3 1 (.slice vo n cap) n xs) (hx : a.eval x = .slice (some ⟨W.heap.size, 0, none⟩) 1 1)
    (hsz : (n + 1) * 8 ≤ 140737488355328) (hbase : base ≤ W.heap.size)
    (h : ∀ vo' cap' w', w'.ownsRow base 3 1 (.slice vo' (n + 1) cap') (n + 1) (xs ++ [.int .i64 y]) → Below base W w' → (W.alloc (.cells #[.int .i64 y] 3)).grownBy w' (Value.slice vo n cap).ownBlock → wpList Try.prog ops Q rest (a.put o.dst (.slice vo' (n + 1) cap')) w') : wpList Try.prog ops Q (o :: rest) a (W.alloc (.cells #[.int .i64 y] 3)) := by
  obtain ⟨i0, hi, hz0, hz1, hz2⟩ := info_parts infoInt
  refine wpList_append_own _ hgd s x 22 ho base 3 i0 (.int .i64 0) 1 8 Try.underlying22 hi hz0 hz1 hz2 rfl (by decide) (.slice vo n cap) n xs hs (hown.alloc _) ⟨W.heap.size, 0, none⟩ 1 1 [.int .i64 y] hx rfl (one_cell _ _ _) (by simp [Value.oneCell']) (by unfold maxLen; omega) hsz (Nat.le_trans hbase (by simp)) ?_
  intro v' w4 hown' hgrow _
  obtain ⟨a4, c4, rfl⟩ := owns_slice hown'
  exact h a4 c4 w4 hown' (((Below.refl base W).alloc hbase _).grown hgrow (Nat.le_trans hbase (by simp)) (fun q hq => (hown.lt q hq).1)) hgrow
end
theorem OwnI.len {w : World} {base n cap : Nat} {ao : Option Addr} {l : List Int} (h : OwnI w base (.slice ao n cap) l) : l.length = n := h.v.len
theorem OwnI.shape {w : World} {base : Nat} {v : Value} {l : List Int} (h : OwnI w base v l) : ∃ ao cap, v = .slice ao l.length cap := h.v.shape
theorem OwnI.nil (w : World) (base : Nat) : OwnI w base (.slice none 0 0) [] := World.ownsRow_nil _ _ _ _
theorem OwnI.row {w : World} {base n cap : Nat} {ao : Option Addr} {l : List Int} (h : OwnI w base (.slice ao n cap) l) : w.ownsRow base 3 1 (.slice ao n cap) n (ivals l) := by
  have := h.len
  subst this
  exact h

end Go.Proofs.Ytncfkpfbjenpjaa
