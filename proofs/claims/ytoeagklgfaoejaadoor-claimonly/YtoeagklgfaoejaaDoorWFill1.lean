/-
  The table that word's fill makes, under way.
-/
import Derived.Test.YtoeagklgfaoejaaDoorWFill0
import Derived.Test.YtoeagklgfaoejaaDoorBackBy
namespace Go.Proofs.YtoeagklgfaoejaaDoor
open Go.ChangeShapes Go.WideShapes Go.ChangeAt Go.RowKit Go.Deep Go.Shelf
open Terms

theorem owns_block_eq {w w' : World} {base g cap k : Nat} {e : TypeId} {s n : Nat} {xs : List Value} (h : w.ownsRow base e s (.slice (some ⟨g, 0, none⟩) n cap) k xs) (hh : w'.heap[g]? = w.heap[g]?) : w'.ownsRow base e s (.slice (some ⟨g, 0, none⟩) n cap) k xs := by
  obtain ⟨h1, h2⟩ := h
  refine ⟨h1, ?_⟩
  rcases h2 with ⟨h2, _⟩ | ⟨g', cap', cur, hv, hg, hc, r⟩
  · simp at h2
  · have hgg : g = g' := by simp at hv; exact hv.1
    subst hgg
    exact .inr ⟨g, cap', cur, hv, hg, hh.trans hc, r⟩
theorem Six.block {w w' : World} {b : Nat} {x0 x1 x2 x3 x4 x5 : Value} (h : Six w b x0 x1 x2 x3 x4 x5) (hh : w'.heap[b]? = w.heap[b]?) (hs : w.heap.size ≤ w'.heap.size) : Six w' b x0 x1 x2 x3 x4 x5 :=
  ⟨(World.cell?_of_block (w := w) hh).trans h.k0, (World.frozen?_of_block (w := w) hh).trans h.f0, (World.cell?_of_block (w := w) hh).trans h.k1, (World.frozen?_of_block (w := w) hh).trans h.f1, (World.cell?_of_block (w := w) hh).trans h.k2, (World.frozen?_of_block (w := w) hh).trans h.f2, (World.cell?_of_block (w := w) hh).trans h.k3, (World.frozen?_of_block (w := w) hh).trans h.f3, (World.cell?_of_block (w := w) hh).trans h.k4, (World.frozen?_of_block (w := w) hh).trans h.f4, (World.cell?_of_block (w := w) hh).trans h.k5, (World.frozen?_of_block (w := w) hh).trans h.f5, Nat.lt_of_lt_of_le h.hl hs⟩
theorem row_apart {w : World} {b b' t t' n n' : Nat} {f f' : Nat → Value} (h : w.rowIs b t n f) (h' : w.rowIs b' t' n' f') (ht : t ≠ t') : b ≠ b' := by
  rintro rfl
  obtain ⟨c, h1, _⟩ := h
  obtain ⟨c', h2, _⟩ := h'
  rw [h1] at h2
  simp at h2
  exact ht h2.2
theorem row_kept {w w' : World} {b t n : Nat} {f : Nat → Value} {row : Option Nat} (h : w.rowIs b t n f) (hg : w.grownBy w' row) (hrow : ∀ r, row = some r → ∃ o : Obj, w.heap[r]? = some o ∧ o.isCells = false) : w'.rowIs b t n f := by
  obtain ⟨c, h1, h2⟩ := id h
  exact h.of_block (grownBy_keeps_cells hg hrow h1 rfl)

/-- six stores: all six are there. -/
theorem Six.chain {w : World} {b : Nat} {x0 x1 x2 x3 x4 x5 : Value} (h : Six w b x0 x1 x2 x3 x4 x5) (u0 u1 u2 u3 u4 u5 : Value) : (((((((w.setCell ⟨b, 0, none⟩ u0).setCell ⟨b, 1, none⟩ u1).setCell ⟨b, 2, none⟩ u2).setCell ⟨b, 3, none⟩ u3).setCell ⟨b, 4, none⟩ u4).setCell ⟨b, 5, none⟩ u5)).cell? ⟨b, 0, none⟩ = some u0 ∧ (((((((w.setCell ⟨b, 0, none⟩ u0).setCell ⟨b, 1, none⟩ u1).setCell ⟨b, 2, none⟩ u2).setCell ⟨b, 3, none⟩ u3).setCell ⟨b, 4, none⟩ u4).setCell ⟨b, 5, none⟩ u5)).cell? ⟨b, 1, none⟩ = some u1 ∧ (((((((w.setCell ⟨b, 0, none⟩ u0).setCell ⟨b, 1, none⟩ u1).setCell ⟨b, 2, none⟩ u2).setCell ⟨b, 3, none⟩ u3).setCell ⟨b, 4, none⟩ u4).setCell ⟨b, 5, none⟩ u5)).cell? ⟨b, 2, none⟩ = some u2 ∧ (((((((w.setCell ⟨b, 0, none⟩ u0).setCell ⟨b, 1, none⟩ u1).setCell ⟨b, 2, none⟩ u2).setCell ⟨b, 3, none⟩ u3).setCell ⟨b, 4, none⟩ u4).setCell ⟨b, 5, none⟩ u5)).cell? ⟨b, 3, none⟩ = some u3 ∧ (((((((w.setCell ⟨b, 0, none⟩ u0).setCell ⟨b, 1, none⟩ u1).setCell ⟨b, 2, none⟩ u2).setCell ⟨b, 3, none⟩ u3).setCell ⟨b, 4, none⟩ u4).setCell ⟨b, 5, none⟩ u5)).cell? ⟨b, 4, none⟩ = some u4 ∧ (((((((w.setCell ⟨b, 0, none⟩ u0).setCell ⟨b, 1, none⟩ u1).setCell ⟨b, 2, none⟩ u2).setCell ⟨b, 3, none⟩ u3).setCell ⟨b, 4, none⟩ u4).setCell ⟨b, 5, none⟩ u5)).cell? ⟨b, 5, none⟩ = some u5 := by
  obtain ⟨q0, q1, q2, q3, q4, q5⟩ := h.read u0 u1 u2 u3 u4 u5
  have ho : ∀ (X : World) (i j : Nat) (u : Value), i ≠ j → (X.setCell ⟨b, i, none⟩ u).cell? ⟨b, j, none⟩ = X.cell? ⟨b, j, none⟩ := fun X i j u hij => World.cell?_setCell_other _ _ _ _ (by intro e; injection e with _ e2; exact hij e2)
  refine ⟨?_, ?_, ?_, ?_, ?_, q5⟩
  · rw [ho _ 5 0 _ (by decide), ho _ 4 0 _ (by decide), ho _ 3 0 _ (by decide), ho _ 2 0 _ (by decide), ho _ 1 0 _ (by decide)]; exact q0
  · rw [ho _ 5 1 _ (by decide), ho _ 4 1 _ (by decide), ho _ 3 1 _ (by decide), ho _ 2 1 _ (by decide)]; exact q1
  · rw [ho _ 5 2 _ (by decide), ho _ 4 2 _ (by decide), ho _ 3 2 _ (by decide)]; exact q2
  · rw [ho _ 5 3 _ (by decide), ho _ 4 3 _ (by decide)]; exact q3
  · rw [ho _ 5 4 _ (by decide)]; exact q4
theorem chain_block (w : World) (b z : Nat) (hz : z ≠ b) (u0 u1 u2 u3 u4 u5 : Value) : (((((((w.setCell ⟨b, 0, none⟩ u0).setCell ⟨b, 1, none⟩ u1).setCell ⟨b, 2, none⟩ u2).setCell ⟨b, 3, none⟩ u3).setCell ⟨b, 4, none⟩ u4).setCell ⟨b, 5, none⟩ u5)).heap[z]? = w.heap[z]? := by
  rw [Below.heap_setCell _ _ _ z hz, Below.heap_setCell _ _ _ z hz, Below.heap_setCell _ _ _ z hz, Below.heap_setCell _ _ _ z hz, Below.heap_setCell _ _ _ z hz, Below.heap_setCell _ _ _ z hz]
theorem chain_far (w : World) (b z q : Nat) (hz : z ≠ b) (u0 u1 u2 u3 u4 u5 : Value) : (((((((w.setCell ⟨b, 0, none⟩ u0).setCell ⟨b, 1, none⟩ u1).setCell ⟨b, 2, none⟩ u2).setCell ⟨b, 3, none⟩ u3).setCell ⟨b, 4, none⟩ u4).setCell ⟨b, 5, none⟩ u5)).cell? ⟨z, q, none⟩ = w.cell? ⟨z, q, none⟩ := by
  have h := chain_block w b z hz u0 u1 u2 u3 u4 u5
  simp only [World.cell?, h]
/-- the table when the last k places are filled. -/
structure FiJ (w w3 : World) (b off n cap B : Nat) (aao : Option Addr) (an ac m sn : Nat) (ls : List (List Bool)) (t : Tm) (TB CB ccap RB W0s : Nat) (k : Nat) (W : World) : Prop where
  below : Below w3.heap.size w3 W
  tab : Six W TB (.slice (some ⟨b, off, none⟩) n cap) (.slice (some ⟨B, 0, none⟩) n n) (.slice aao an ac) (.slice (some ⟨CB, 0, none⟩) m ccap) (.int .i64 (sn : Int)) (.slice (some ⟨RB, 0, none⟩) n n)
  lets : ∃ us, W.ownsRow w3.heap.size 39 1 (.slice (some ⟨CB, 0, none⟩) m ccap) us.length us ∧ LetsU w us ls
  rows : ∃ f, W.rowIs RB 39 n f ∧ ∀ q, n - k ≤ q → q < n → ∃ rb, f q = .slice (some ⟨rb, 0, none⟩) m m ∧ W.rowIs rb 4 m (fun j => .bool ((t.sub q).hb (sig ls sn) j))
  size : W0s ≤ W.heap.size
theorem FiJ.later {w w3 : World} {b off n cap B : Nat} {aao : Option Addr} {an ac m sn : Nat} {ls : List (List Bool)} {t : Tm} {TB CB ccap RB W0s : Nat} {k : Nat} {W W' : World} (h : FiJ w w3 b off n cap B aao an ac m sn ls t TB CB ccap RB W0s k W) (hb : Below W.heap.size W W') : FiJ w w3 b off n cap B aao an ac m sn ls t TB CB ccap RB W0s k W' := by
  obtain ⟨us, h1, h2⟩ := h.lets
  obtain ⟨f, h3, h4⟩ := h.rows
  refine ⟨h.below.trans (hb.mono h.below.size), h.tab.below hb h.tab.hl, ⟨us, owns_later h1 hb (Nat.le_refl _), h2⟩, ⟨f, row_later h3 hb, fun q a b => ?_⟩, Nat.le_trans h.size hb.size⟩
  obtain ⟨rb, e1, e2⟩ := h4 q a b
  exact ⟨rb, e1, row_later e2 hb⟩
theorem FiJ.kept {w w3 : World} {b off n cap B : Nat} {aao : Option Addr} {an ac m sn : Nat} {ls : List (List Bool)} {t : Tm} {TB CB ccap RB W0s : Nat} {k base : Nat} {W W' : World} {row : Option Nat} (h : FiJ w w3 b off n cap B aao an ac m sn ls t TB CB ccap RB W0s k W) (hg : W.grownBy W' row) (hr : ∀ r, row = some r → base ≤ r ∧ ∃ o : Obj, W.heap[r]? = some o ∧ o.isCells = false) (h3 : w3.heap.size ≤ base) (hT : TB < base) (hC : CB < base) (hbW : base ≤ W.heap.size) : FiJ w w3 b off n cap B aao an ac m sn ls t TB CB ccap RB W0s k W' := by
  have hb : Below base W W' := (Below.refl _ _).grown hg hbW (fun z e => (hr z e).1)
  obtain ⟨us, h1, h2⟩ := h.lets
  obtain ⟨f, h4, h5⟩ := h.rows
  refine ⟨h.below.trans (hb.mono h3), h.tab.below hb hT, ⟨us, owns_block_eq h1 (hb.block CB hC), h2⟩, ⟨f, row_kept h4 hg (fun r e => (hr r e).2), fun q a b => ?_⟩, Nat.le_trans h.size hb.size⟩
  obtain ⟨rb, e1, e2⟩ := h5 q a b
  exact ⟨rb, e1, row_kept e2 hg (fun r e => (hr r e).2)⟩
/-- one place more. -/
theorem FiJ.put {w w3 : World} {b off n cap B : Nat} {aao : Option Addr} {an ac m sn : Nat} {ls : List (List Bool)} {t : Tm} {TB CB ccap RB W0s : Nat} {k rb : Nat} {W : World} (h : FiJ w w3 b off n cap B aao an ac m sn ls t TB CB ccap RB W0s k W) (hk : k < n) (hTR : TB ≠ RB) (hCR : CB ≠ RB) (hR3 : w3.heap.size ≤ RB) (hrow : W.rowIs rb 4 m (fun j => .bool ((t.sub (n - 1 - k)).hb (sig ls sn) j))) : FiJ w w3 b off n cap B aao an ac m sn ls t TB CB ccap RB W0s (k + 1) (W.setCell ⟨RB, n - 1 - k, none⟩ (.slice (some ⟨rb, 0, none⟩) m m)) := by
  have hb : ∀ z, z ≠ RB → (W.setCell ⟨RB, n - 1 - k, none⟩ (.slice (some ⟨rb, 0, none⟩) m m)).heap[z]? = W.heap[z]? := fun z hz => Below.heap_setCell W _ _ z hz
  have hsz : (W.setCell ⟨RB, n - 1 - k, none⟩ (.slice (some ⟨rb, 0, none⟩) m m)).heap.size = W.heap.size := by simp
  obtain ⟨us, h1, h2⟩ := h.lets
  obtain ⟨f, h4, h5⟩ := h.rows
  refine ⟨h.below.setCell hR3 _, h.tab.block (hb TB hTR) (by omega), ⟨us, owns_block_eq h1 (hb CB hCR), h2⟩, ⟨_, h4.set (n - 1 - k) _, fun q a b => ?_⟩, by rw [hsz]; exact h.size⟩
  by_cases hq : q = n - 1 - k
  · subst hq
    exact ⟨rb, if_pos rfl, hrow.of_block (hb rb (row_apart hrow h4 (by decide)))⟩
  · obtain ⟨r, e1, e2⟩ := h5 q (by omega) b
    exact ⟨r, (if_neg hq).trans e1, e2.of_block (hb r (row_apart e2 h4 (by decide)))⟩
/-- the beginning: the table's box is written. -/
theorem FiJ.start {w w3 : World} {b off n cap B : Nat} {aao : Option Addr} {an ac m sn : Nat} {ls : List (List Bool)} {t : Tm} {TB CB ccap RB W0s : Nat} {Y : World} (hY : Below w3.heap.size w3 Y) (h6 : Six Y TB (.slice none 0 0) (.slice none 0 0) (.slice none 0 0) (.slice none 0 0) (.int .i64 0) (.slice none 0 0)) (hlets : ∃ us, Y.ownsRow w3.heap.size 39 1 (.slice (some ⟨CB, 0, none⟩) m ccap) us.length us ∧ LetsU w us ls) (hrow : Y.rowIs RB 39 n (fun _ => .slice none 0 0)) (h3 : w3.heap.size ≤ TB) (hTR : TB ≠ RB) (hTC : TB ≠ CB) (hz : W0s ≤ Y.heap.size) : FiJ w w3 b off n cap B aao an ac m sn ls t TB CB ccap RB W0s 0 (((((((Y.setCell ⟨TB, 0, none⟩ (.slice (some ⟨b, off, none⟩) n cap)).setCell ⟨TB, 1, none⟩ (.slice (some ⟨B, 0, none⟩) n n)).setCell ⟨TB, 2, none⟩ (.slice aao an ac)).setCell ⟨TB, 3, none⟩ (.slice (some ⟨CB, 0, none⟩) m ccap)).setCell ⟨TB, 4, none⟩ (.int .i64 (sn : Int))).setCell ⟨TB, 5, none⟩ (.slice (some ⟨RB, 0, none⟩) n n))) := by
  have hb : ∀ z, z ≠ TB → (((((((Y.setCell ⟨TB, 0, none⟩ (.slice (some ⟨b, off, none⟩) n cap)).setCell ⟨TB, 1, none⟩ (.slice (some ⟨B, 0, none⟩) n n)).setCell ⟨TB, 2, none⟩ (.slice aao an ac)).setCell ⟨TB, 3, none⟩ (.slice (some ⟨CB, 0, none⟩) m ccap)).setCell ⟨TB, 4, none⟩ (.int .i64 (sn : Int))).setCell ⟨TB, 5, none⟩ (.slice (some ⟨RB, 0, none⟩) n n))).heap[z]? = Y.heap[z]? := fun z hz => by
    rw [Below.heap_setCell _ _ _ z hz, Below.heap_setCell _ _ _ z hz, Below.heap_setCell _ _ _ z hz, Below.heap_setCell _ _ _ z hz, Below.heap_setCell _ _ _ z hz, Below.heap_setCell _ _ _ z hz]
  have hf : ∀ q, (((((((Y.setCell ⟨TB, 0, none⟩ (.slice (some ⟨b, off, none⟩) n cap)).setCell ⟨TB, 1, none⟩ (.slice (some ⟨B, 0, none⟩) n n)).setCell ⟨TB, 2, none⟩ (.slice aao an ac)).setCell ⟨TB, 3, none⟩ (.slice (some ⟨CB, 0, none⟩) m ccap)).setCell ⟨TB, 4, none⟩ (.int .i64 (sn : Int))).setCell ⟨TB, 5, none⟩ (.slice (some ⟨RB, 0, none⟩) n n))).frozen? ⟨TB, q, none⟩ = Y.frozen? ⟨TB, q, none⟩ := fun q => by simp only [World.frozen?_setCell]
  have hsz : (((((((Y.setCell ⟨TB, 0, none⟩ (.slice (some ⟨b, off, none⟩) n cap)).setCell ⟨TB, 1, none⟩ (.slice (some ⟨B, 0, none⟩) n n)).setCell ⟨TB, 2, none⟩ (.slice aao an ac)).setCell ⟨TB, 3, none⟩ (.slice (some ⟨CB, 0, none⟩) m ccap)).setCell ⟨TB, 4, none⟩ (.int .i64 (sn : Int))).setCell ⟨TB, 5, none⟩ (.slice (some ⟨RB, 0, none⟩) n n))).heap.size = Y.heap.size := by simp
  obtain ⟨us, h1, h2⟩ := hlets
  obtain ⟨q0, q1, q2, q3, q4, q5⟩ := h6.read (.slice (some ⟨b, off, none⟩) n cap) (.slice (some ⟨B, 0, none⟩) n n) (.slice aao an ac) (.slice (some ⟨CB, 0, none⟩) m ccap) (.int .i64 (sn : Int)) (.slice (some ⟨RB, 0, none⟩) n n)
  have ho : ∀ (X : World) (i j : Nat) (u : Value), i ≠ j → (X.setCell ⟨TB, i, none⟩ u).cell? ⟨TB, j, none⟩ = X.cell? ⟨TB, j, none⟩ := fun X i j u hij => World.cell?_setCell_other _ _ _ _ (by intro e; injection e with _ e2; exact hij e2)
  refine ⟨(((((hY.setCell h3 _).setCell h3 _).setCell h3 _).setCell h3 _).setCell h3 _).setCell h3 _, ⟨?_, (hf 0).trans h6.f0, ?_, (hf 1).trans h6.f1, ?_, (hf 2).trans h6.f2, ?_, (hf 3).trans h6.f3, ?_, (hf 4).trans h6.f4, q5, (hf 5).trans h6.f5, by rw [hsz]; exact h6.hl⟩, ⟨us, owns_block_eq h1 (hb CB (Ne.symm hTC)), h2⟩, ⟨_, hrow.of_block (hb RB (Ne.symm hTR)), fun q a b => by omega⟩, by rw [hsz]; exact hz⟩
  · rw [ho _ 5 0 _ (by decide), ho _ 4 0 _ (by decide), ho _ 3 0 _ (by decide), ho _ 2 0 _ (by decide), ho _ 1 0 _ (by decide)]; exact q0
  · rw [ho _ 5 1 _ (by decide), ho _ 4 1 _ (by decide), ho _ 3 1 _ (by decide), ho _ 2 1 _ (by decide)]; exact q1
  · rw [ho _ 5 2 _ (by decide), ho _ 4 2 _ (by decide), ho _ 3 2 _ (by decide)]; exact q2
  · rw [ho _ 5 3 _ (by decide), ho _ 4 3 _ (by decide)]; exact q3
  · rw [ho _ 5 4 _ (by decide)]; exact q4
end Go.Proofs.YtoeagklgfaoejaaDoor
