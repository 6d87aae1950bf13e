/-
  The document's StoreCopy, KeyIn, KeysUp.
-/
import Derived.Test.YtncfkpfbjenpjaaURef3
namespace Go.Proofs.Ytncfkpfbjenpjaa
open Go.ChangeShapes Go.WideShapes Go.ChangeAt Go.RowKit Go.Deep

theorem LisO.len {w : World} {base n cap : Nat} {ao : Option Addr} {rs : List (List Int)} (h : LisO w base (.slice ao n cap) rs) : rs.length = n := h.v.len
section
variable {W : World}
/-- one more list: 'append(out, l)'. -/
theorem push_l {ops : Array Oper} {rest : List Oper} {o : Oper} {a : Act} {Q : Exit → Act → World → Prop} (u : Value) (rs : List (List Int)) (l : List Int) (hgd : o.guard = none) (s x : Operand)
    (ho : o.op = .call { callee := .builtin .append, args := #[s, x], argTypes := #[23, 23] })
    (base n cap : Nat) (vo : Option Addr) (hs : a.eval s = .slice vo n cap) (hL : LisO W base (.slice vo n cap) rs) (hu : OwnI W base u l) (hx : a.eval x = .slice (some ⟨W.heap.size, 0, none⟩) 1 1)
    (hsz : (n + 1) * 24 ≤ 140737488355328) (hbase : base ≤ W.heap.size)
    (h : ∀ vo' cap' w', LisO w' base (.slice vo' (n + 1) cap') (rs ++ [l]) → Below base W w' → wpList Try.prog ops Q rest (a.put o.dst (.slice vo' (n + 1) cap')) w') : wpList Try.prog ops Q (o :: rest) a (W.alloc (.cells #[u] 22)) := by
  obtain ⟨i0, hi, hz0, hz1, hz2⟩ := info_parts infoInts
  obtain ⟨us, h1, h2, h3⟩ := id hL
  have hn := hL.len
  subst hn
  obtain ⟨uo, uc, rfl⟩ := hu.shape
  refine wpList_append_own _ hgd s x 23 ho base 22 i0 (.slice none 0 0) 1 24 Try.underlying23 hi hz0 hz1 hz2 rfl (by decide) (.slice vo rs.length cap) rs.length us hs (h1.alloc _) ⟨W.heap.size, 0, none⟩ 1 1 [.slice uo l.length uc] hx rfl (one_cell _ _ _) (by simp [Value.oneCell']) (by unfold maxLen; omega) hsz (Nat.le_trans hbase (by simp)) ?_
  intro v' w4 hown' hgrow _
  obtain ⟨a4, c4, rfl⟩ := owns_slice hown'
  exact h a4 c4 w4 (LisO.snoc (w := W.alloc (.cells #[.slice uo l.length uc] 22)) (h1.alloc _) h2 (fun i hi => (h3 i hi).alloc _) (World.ownsRow.alloc hu _) hown' hgrow) (((Below.refl base W).alloc hbase _).grown hgrow (Nat.le_trans hbase (by simp)) (fun q hq => (h1.lt q hq).1))
end

/-- lists that are copied, in a box. -/
def CpAt (w1 wr : World) (b3 : Nat) (lv : Value) (yo : Option Addr) (yc k : Nat) (rs : List (List Int)) : Prop := Bw wr b3 lv (.slice yo k yc) ∧ LisO wr (b3 + 1) (.slice yo k yc) rs ∧ Below b3 w1 wr
theorem CpAt.later {w1 wr w2 : World} {b3 : Nat} {lv : Value} {yo : Option Addr} {yc k : Nat} {rs : List (List Int)} (h : CpAt w1 wr b3 lv yo yc k rs) (hb : Below wr.heap.size wr w2) : CpAt w1 w2 b3 lv yo yc k rs := by
  have hlt := h.1.1.1
  exact ⟨h.1.later hb, h.2.1.later hb (Nat.le_refl _), h.2.2.trans (hb.mono (by omega))⟩
theorem CpAt.set {w1 wr w2 : World} {b3 : Nat} {lv : Value} {yo : Option Addr} {yc k : Nat} {rs rs' : List (List Int)} (h : CpAt w1 wr b3 lv yo yc k rs) {zo : Option Addr} {zc k' : Nat} (hb : Below (b3 + 1) wr w2) (hL : LisO w2 (b3 + 1) (.slice zo k' zc) rs') : CpAt w1 (w2.setCell ⟨b3, 1, none⟩ (.slice zo k' zc)) b3 lv zo zc k' rs' := by
  obtain ⟨⟨⟨hlt, c0, c1⟩, f0, f1⟩, h2, h3⟩ := h
  have hlt2 : b3 < w2.heap.size := Nat.lt_of_lt_of_le hlt hb.size
  have e0 := (hb.cell (p := ⟨b3, 0, none⟩) (by show b3 < b3 + 1; omega)).trans c0
  have e1 := (hb.cell (p := ⟨b3, 1, none⟩) (by show b3 < b3 + 1; omega)).trans c1
  have g0 := (hb.frozen (p := ⟨b3, 0, none⟩) (by show b3 < b3 + 1; omega)).trans f0
  have g1 := (hb.frozen (p := ⟨b3, 1, none⟩) (by show b3 < b3 + 1; omega)).trans f1
  refine ⟨⟨⟨by simpa using hlt2, by simp [go_sem, e0], by simp [go_sem, e1]⟩, by simp [go_sem, g0], by simp [go_sem, g1]⟩, hL.setCell (by show b3 < b3 + 1; omega) _, ?_⟩
  exact (h3.trans (hb.mono (by omega))).setCell (p := ⟨b3, 1, none⟩) (Nat.le_refl _) _

/-- what StoreCopy answers. -/
def CpPost (w : World) (lo : List Int) (rs : List (List Int)) (e : Ending) (w' : World) : Prop := ∃ xo xc yo yc, e = .returned (.agg #[.slice xo lo.length xc, .slice yo rs.length yc]) ∧ Below w.heap.size w w' ∧ OwnI w' w.heap.size (.slice xo lo.length xc) lo ∧ LisO w' w.heap.size (.slice yo rs.length yc) rs
/-- .. and that no two of its lists share memory. -/
def CpPost2 (w : World) (lo : List Int) (rs : List (List Int)) (e : Ending) (w' : World) : Prop := ∃ xo xc yo yc, e = .returned (.agg #[.slice xo lo.length xc, .slice yo rs.length yc]) ∧ Below w.heap.size w w' ∧ OwnI w' w.heap.size (.slice xo lo.length xc) lo ∧ ∃ B, w.heap.size ≤ B ∧ (∀ g, (Value.slice xo lo.length xc).ownBlock = some g → g < B) ∧ LisO w' B (.slice yo rs.length yc) rs
end Go.Proofs.Ytncfkpfbjenpjaa
