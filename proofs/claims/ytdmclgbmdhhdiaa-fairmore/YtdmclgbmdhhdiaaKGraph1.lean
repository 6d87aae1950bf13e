/-
  The keeping laws' own Graph: one spot more.
-/
import Derived.Test.YtdmclgbmdhhdiaaKGraph0
namespace Go.Proofs.Ytdmclgbmdhhdiaa
open Go.ChangeShapes Go.WideShapes Go.ChangeAt Go.RowKit Go.Deep
open Terms

/-- a graph under way: so many spots, lists of places below n, sets below a power of two. -/
structure KG (n mm : Nat) (g : Gr) (k : Nat) : Prop where
  many : g.many = (mm : Int)
  next : ∀ i, i < k → (g.next.getD i []).length ≤ 6 ∧ ∀ j, j < (g.next.getD i []).length → 0 ≤ (g.next.getD i []).getD j 0 ∧ (g.next.getD i []).getD j 0 < n
  sets : ∀ i, i < k → 0 ≤ g.sets.getD i 0 ∧ g.sets.getD i 0 ≤ 2 ^ mm - 1
theorem KG.snoc {n mm : Nat} {g : Gr} {k : Nat} {x y : Int} {l : List Int} (h : KG n mm g k) (hn : g.next.length = k) (hb : g.sets.length = k) (hl : l.length ≤ 6) (hli : ∀ j, j < l.length → 0 ≤ l.getD j 0 ∧ l.getD j 0 < n) (hy : 0 ≤ y ∧ y ≤ 2 ^ mm - 1) : KG n mm ⟨g.spots ++ [(x, 0)], g.init, g.next ++ [l], g.sets ++ [y], g.many⟩ (k + 1) := by
  refine ⟨h.many, fun i hi => ?_, fun i hi => ?_⟩
  · show ((g.next ++ [l]).getD i []).length ≤ 6 ∧ ∀ j, j < ((g.next ++ [l]).getD i []).length → 0 ≤ ((g.next ++ [l]).getD i []).getD j 0 ∧ ((g.next ++ [l]).getD i []).getD j 0 < n
    by_cases hik : i < k
    · rw [show (g.next ++ [l]).getD i [] = g.next.getD i [] by simp [List.getD_eq_getElem?_getD, List.getElem?_append_left (show i < g.next.length by omega)]]
      exact h.next i hik
    · obtain rfl : i = k := by omega
      rw [show (g.next ++ [l]).getD i [] = l by simp [List.getD_eq_getElem?_getD, ← hn]]
      exact ⟨hl, hli⟩
  · show 0 ≤ (g.sets ++ [y]).getD i 0 ∧ (g.sets ++ [y]).getD i 0 ≤ _
    by_cases hik : i < k
    · rw [show (g.sets ++ [y]).getD i 0 = g.sets.getD i 0 by simp [List.getD_eq_getElem?_getD, List.getElem?_append_left (show i < g.sets.length by omega)]]
      exact h.sets i hik
    · obtain rfl : i = k := by omega
      rw [show (g.sets ++ [y]).getD i 0 = y by simp [List.getD_eq_getElem?_getD, ← hb]]
      exact hy
theorem getD_snocI {l : List Int} {y : Int} {j : Nat} (hj : j < l.length) : (l ++ [y]).getD j 0 = l.getD j 0 := by simp [List.getD_eq_getElem?_getD, List.getElem?_append_left hj]
theorem getD_snocI' {l : List Int} {y : Int} : (l ++ [y]).getD l.length 0 = y := by simp [List.getD_eq_getElem?_getD]
/-- THE GRAPH UNDER WAY. -/
structure KAt (w wr : World) (x0 x1 : Value) (n mm : Nat) (gi : Int) (k : Nat) (sv nv bv : Value) (us : List Value) (g : Gr) : Prop where
  box : KBox wr w.heap.size sv (.int .i64 gi) nv bv (.int .i64 (mm : Int))
  rows : KRows wr (w.heap.size + 3) sv nv bv us g k
  kg : KG n mm g k
  init : g.init = gi
  below : Below w.heap.size w wr
  size : w.heap.size + 3 ≤ wr.heap.size
  b0 : wr.cell? ⟨w.heap.size, 0, none⟩ = some x0
  b1 : wr.cell? ⟨w.heap.size, 1, none⟩ = some x1
def KGr (w wr : World) (x0 x1 : Value) (n mm : Nat) (gi : Int) (k : Nat) : Prop := ∃ (sv nv bv : Value) (us : List Value) (g : Gr), KAt w wr x0 x1 n mm gi k sv nv bv us g
theorem KAt.later {w wr w' : World} {x0 x1 : Value} {n mm : Nat} {gi : Int} {k : Nat} {sv nv bv : Value} {us : List Value} {g : Gr} (h : KAt w wr x0 x1 n mm gi k sv nv bv us g) (hb : Below wr.heap.size wr w') : KAt w w' x0 x1 n mm gi k sv nv bv us g := by
  have hs := h.size
  exact ⟨h.box.below hb (by omega), h.rows.later hb, h.kg, h.init, h.below.trans (hb.mono (by omega)), Nat.le_trans hs hb.size, (hb.cell (p := ⟨w.heap.size, 0, none⟩) (by show w.heap.size < _; omega)).trans h.b0, (hb.cell (p := ⟨w.heap.size, 1, none⟩) (by show w.heap.size < _; omega)).trans h.b1⟩
theorem KAt.shape {w wr : World} {x0 x1 : Value} {n mm : Nat} {gi : Int} {k : Nat} {sv nv bv : Value} {us : List Value} {g : Gr} (h : KAt w wr x0 x1 n mm gi k sv nv bv us g) : ∃ so sc no nc bo bc, sv = .slice so k sc ∧ nv = .slice no k nc ∧ bv = .slice bo k bc := by
  obtain ⟨so, sc, e1⟩ := owns_slice h.rows.spots
  obtain ⟨no, nc, e2⟩ := owns_slice h.rows.next
  obtain ⟨bo, bc, e3⟩ := owns_slice h.rows.sets
  exact ⟨so, sc, no, nc, bo, bc, e1, e2, e3⟩
/-- a world that grew in a row of ours, from w.heap.size + 3 on, keeps what lies lower. -/
theorem KBox.grown {wa w1 : World} {s : Nat} {v0 v1 v2 v3 v4 : Value} {row : Option Nat} (h : KBox wa s v0 v1 v2 v3 v4) (hg : wa.grownBy w1 row) (hs : s + 3 ≤ wa.heap.size) (hr : ∀ k, row = some k → s + 3 ≤ k) : KBox w1 s v0 v1 v2 v3 v4 :=
  h.below (B := s + 3) ((Below.refl _ _).grown hg hs hr) (by omega)
theorem start_at (w : World) (o : Obj) (x0 x1 x2 x3 : Value) (t : TypeId) (n mm : Nat) (gi : Int) (ho : o = .cells #[x0, x1, x2, x3] t) :
    KAt w (((w.alloc o).alloc (.cells #[.slice none 0 0, .int .i64 0, .slice none 0 0, .slice none 0 0, .int .i64 0] 28)).alloc (.cells #[.slice none 0 0, .int .i64 gi, .slice none 0 0, .slice none 0 0, .int .i64 (mm : Int)] 28)) x0 x1 n mm gi 0 (.slice none 0 0) (.slice none 0 0) (.slice none 0 0) [] ⟨[], gi, [], [], (mm : Int)⟩ := by
  subst ho
  refine ⟨by constructor <;> simp [go_sem], ⟨rfl, rfl, rfl, World.ownsRow_nil _ _ _ _, World.ownsRow_nil _ _ _ _, fun j hj => by omega, World.ownsRow_nil _ _ _ _, fun j hj => by omega⟩, ⟨rfl, fun i hi => by omega, fun i hi => by omega⟩, rfl, ?_, by simp, by simp [go_sem], by simp [go_sem]⟩
  exact (((Below.refl _ _).alloc (Nat.le_refl _) _).alloc (by simp) _).alloc (by simp; omega) _

/-- what lies below the rows. -/
structure KLow (w wr : World) (x0 x1 : Value) (mm : Nat) (gi : Int) (sv nv bv : Value) : Prop where
  box : KBox wr w.heap.size sv (.int .i64 gi) nv bv (.int .i64 (mm : Int))
  below : Below w.heap.size w wr
  size : w.heap.size + 3 ≤ wr.heap.size
  b0 : wr.cell? ⟨w.heap.size, 0, none⟩ = some x0
  b1 : wr.cell? ⟨w.heap.size, 1, none⟩ = some x1
theorem KAt.low {w wr : World} {x0 x1 : Value} {n mm : Nat} {gi : Int} {k : Nat} {sv nv bv : Value} {us : List Value} {g : Gr} (h : KAt w wr x0 x1 n mm gi k sv nv bv us g) : KLow w wr x0 x1 mm gi sv nv bv := ⟨h.box, h.below, h.size, h.b0, h.b1⟩
theorem KLow.grow {w wa w1 : World} {x0 x1 : Value} {mm : Nat} {gi : Int} {sv nv bv : Value} {o : Obj} {row : Option Nat} (h : KLow w wa x0 x1 mm gi sv nv bv) (hg : (wa.alloc o).grownBy w1 row) (hr : ∀ k, row = some k → w.heap.size + 3 ≤ k) : KLow w w1 x0 x1 mm gi sv nv bv := by
  have hs := h.size
  have hb : Below (w.heap.size + 3) wa w1 := ((Below.refl _ _).alloc hs o).grown hg (by simp; omega) hr
  exact ⟨h.box.below hb (by omega), h.below.trans (hb.mono (by omega)), Nat.le_trans hs hb.size, (hb.cell (p := ⟨w.heap.size, 0, none⟩) (by show w.heap.size < _; omega)).trans h.b0, (hb.cell (p := ⟨w.heap.size, 1, none⟩) (by show w.heap.size < _; omega)).trans h.b1⟩
theorem KLow.set0 {w wa : World} {x0 x1 : Value} {mm : Nat} {gi : Int} {sv nv bv : Value} (h : KLow w wa x0 x1 mm gi sv nv bv) (u : Value) : KLow w (wa.setCell ⟨w.heap.size + 2, 0, none⟩ u) x0 x1 mm gi u nv bv :=
  ⟨h.box.set0 u, h.below.setCell (by simp) _, by simpa using h.size, by simp [go_sem, h.b0], by simp [go_sem, h.b1]⟩
theorem KLow.set2 {w wa : World} {x0 x1 : Value} {mm : Nat} {gi : Int} {sv nv bv : Value} (h : KLow w wa x0 x1 mm gi sv nv bv) (u : Value) : KLow w (wa.setCell ⟨w.heap.size + 2, 2, none⟩ u) x0 x1 mm gi sv u bv :=
  ⟨h.box.set2 u, h.below.setCell (by simp) _, by simpa using h.size, by simp [go_sem, h.b0], by simp [go_sem, h.b1]⟩
theorem KLow.set3 {w wa : World} {x0 x1 : Value} {mm : Nat} {gi : Int} {sv nv bv : Value} (h : KLow w wa x0 x1 mm gi sv nv bv) (u : Value) : KLow w (wa.setCell ⟨w.heap.size + 2, 3, none⟩ u) x0 x1 mm gi sv nv u :=
  ⟨h.box.set3 u, h.below.setCell (by simp) _, by simpa using h.size, by simp [go_sem, h.b0], by simp [go_sem, h.b1]⟩
theorem KAt.next1 {w wy w1 : World} {x0 x1 : Value} {n mm : Nat} {gi : Int} {k : Nat} {sv nv bv : Value} {us : List Value} {g : Gr} {o1 : Obj} (h : KAt w wy x0 x1 n mm gi k sv nv bv us g) (hg1 : (wy.alloc o1).grownBy w1 sv.ownBlock) (u : Value) (o2 : Obj) : ((w1.setCell ⟨w.heap.size + 2, 0, none⟩ u).alloc o2).ownsRow (w.heap.size + 3) 23 1 nv k us := by
  have ne1 : 36 ≠ 23 := by decide
  exact (owns_low ((h.rows.next.alloc o1).kept hg1 (owns_apart ne1.symm (h.rows.next.alloc o1) (h.rows.spots.alloc o1))) (p := ⟨w.heap.size + 2, 0, none⟩) (by show w.heap.size + 2 < _; omega) u).alloc o2
theorem KAt.sets1 {w wy w1 : World} {x0 x1 : Value} {n mm : Nat} {gi : Int} {k : Nat} {sv nv bv : Value} {us : List Value} {g : Gr} {o1 : Obj} (h : KAt w wy x0 x1 n mm gi k sv nv bv us g) (hg1 : (wy.alloc o1).grownBy w1 sv.ownBlock) (u : Value) (o2 : Obj) : ((w1.setCell ⟨w.heap.size + 2, 0, none⟩ u).alloc o2).ownsRow (w.heap.size + 3) 3 1 bv k (ivals g.sets) := by
  have ne2 : 36 ≠ 3 := by decide
  exact (owns_low ((h.rows.sets.alloc o1).kept hg1 (owns_apart ne2.symm (h.rows.sets.alloc o1) (h.rows.spots.alloc o1))) (p := ⟨w.heap.size + 2, 0, none⟩) (by show w.heap.size + 2 < _; omega) u).alloc o2
theorem KAt.sets2 {w wy w1 w2 : World} {x0 x1 : Value} {n mm : Nat} {gi : Int} {k : Nat} {sv nv bv : Value} {us : List Value} {g : Gr} {o1 o2 : Obj} {u1 : Value} (h : KAt w wy x0 x1 n mm gi k sv nv bv us g) (hg1 : (wy.alloc o1).grownBy w1 sv.ownBlock) (hg2 : ((w1.setCell ⟨w.heap.size + 2, 0, none⟩ u1).alloc o2).grownBy w2 nv.ownBlock) (u : Value) (o3 : Obj) : ((w2.setCell ⟨w.heap.size + 2, 2, none⟩ u).alloc o3).ownsRow (w.heap.size + 3) 3 1 bv k (ivals g.sets) := by
  have ne3 : 23 ≠ 3 := by decide
  exact (owns_low ((h.sets1 hg1 u1 o2).kept hg2 (owns_apart ne3.symm (h.sets1 hg1 u1 o2) (h.next1 hg1 u1 o2))) (p := ⟨w.heap.size + 2, 2, none⟩) (by show w.heap.size + 2 < _; omega) u).alloc o3
/-- the blocks of a row of ours are from the base on. -/
theorem owns_from {w : World} {base : Nat} {e : TypeId} {s n : Nat} {v : Value} {xs : List Value} (h : w.ownsRow base e s v n xs) : ∀ k, v.ownBlock = some k → base ≤ k := fun k hk => (h.lt k hk).1
theorem owns_new {w w' : World} {base base' : Nat} {e e' : TypeId} {s s' n n' : Nat} {v v' : Value} {xs xs' : List Value} (h : w.ownsRow base e s v n xs) (h' : w'.ownsRow base' e' s' v' n' xs') (hb : w'.heap.size ≤ base) : v.ownBlock = none ∨ v.ownBlock ≠ v'.ownBlock := by
  cases hx : v.ownBlock with
  | none => exact .inl rfl
  | some z =>
    refine .inr fun ez => ?_
    have h1 := (h.lt z hx).1
    have h2 := (h'.lt z ez.symm).2
    omega
theorem KAt.step {w wy w1 w2 w3 : World} {x0 x1 : Value} {n mm : Nat} {gi : Int} {k : Nat} {sv nv bv sv' nv' lv : Value} {us : List Value} {g : Gr} {o1 o2 o3 : Obj} {gb cb : Nat} {y : Int} {l : List Int} (h : KAt w wy x0 x1 n mm gi k sv nv bv us g)
    (hl : wy.ownsRow (w.heap.size + 3) 3 1 lv l.length (ivals l)) (hla : lv.ownBlock = none ∨ lv.ownBlock ≠ bv.ownBlock) (hl6 : l.length ≤ 6) (hli : ∀ j, j < l.length → 0 ≤ l.getD j 0 ∧ l.getD j 0 < n) (hy : 0 ≤ y ∧ y ≤ 2 ^ mm - 1)
    (hg1 : (wy.alloc o1).grownBy w1 sv.ownBlock) (ho1 : w1.ownsRow (w.heap.size + 3) 36 2 sv' (k + 1) (flat g.spots ++ [.int .i64 (k : Int), .int .i64 0]))
    (hg2 : ((w1.setCell ⟨w.heap.size + 2, 0, none⟩ sv').alloc o2).grownBy w2 nv.ownBlock) (ho2 : w2.ownsRow (w.heap.size + 3) 23 1 nv' (k + 1) (us ++ [lv]))
    (hg3 : ((w2.setCell ⟨w.heap.size + 2, 2, none⟩ nv').alloc o3).grownBy w3 bv.ownBlock) (ho3 : w3.ownsRow (w.heap.size + 3) 3 1 (.slice (some ⟨gb, 0, none⟩) (k + 1) cb) (k + 1) (ivals g.sets ++ [.int .i64 y])) (hor : bv.ownBlock = some gb ∨ gb = ((w2.setCell ⟨w.heap.size + 2, 2, none⟩ nv').alloc o3).heap.size) :
    KAt w (w3.setCell ⟨w.heap.size + 2, 3, none⟩ (.slice (some ⟨gb, 0, none⟩) (k + 1) cb)) x0 x1 n mm gi (k + 1) sv' nv' (.slice (some ⟨gb, 0, none⟩) (k + 1) cb) (us ++ [lv]) ⟨g.spots ++ [((k : Int), 0)], g.init, g.next ++ [l], g.sets ++ [y], g.many⟩ := by
  have hlo := ((((((h.low).grow hg1 (owns_from h.rows.spots)).set0 sv').grow hg2 (owns_from h.rows.next)).set2 nv').grow hg3 (owns_from h.rows.sets)).set3 (.slice (some ⟨gb, 0, none⟩) (k + 1) cb)
  have hr := h.rows.step (x := (k : Int)) (y := y) hl hla rfl hg1 ho1 (p0 := ⟨w.heap.size + 2, 0, none⟩) (by show w.heap.size + 2 < _; omega) rfl hg2 ho2 (p2 := ⟨w.heap.size + 2, 2, none⟩) (by show w.heap.size + 2 < _; omega) rfl hg3 ho3 hor
  exact ⟨hlo.box, hr.low (p := ⟨w.heap.size + 2, 3, none⟩) (by show w.heap.size + 2 < _; omega) _, h.kg.snoc h.rows.kn h.rows.kb hl6 hli hy, h.init, hlo.below, hlo.size, hlo.b0, hlo.b1⟩
theorem one_newS (w : World) (p : Addr) (v x : Value) (t : TypeId) : ∀ j u, [x][j]? = some u → ((w.setCell p v).alloc (.cells #[x] t)).cell? ((⟨w.heap.size, 0, none⟩ : Addr).add j) = some u := by
  intro j u hj
  match j, hj with
  | 0, hj => simp at hj; subst hj; simp [Addr.add, go_sem]
theorem KAt.done {w wr : World} {x0 x1 : Value} {n mm : Nat} {gi : Int} {k : Nat} {sv nv bv : Value} {us : List Value} {g : Gr} (h : KAt w wr x0 x1 n mm gi k sv nv bv us g) (hk : k = n) (hg : 0 ≤ gi ∧ gi ≤ (n : Int)) (hm : mm ≤ 3) (hn : n ≤ 20) : GOk g ∧ g.spots.length = n ∧ ∀ i, i < g.spots.length → (g.next.getD i []).length ≤ 6 := by
  subst hk
  have hs := h.rows.ks
  have hmany := h.kg.many
  refine ⟨⟨⟨by omega, by rw [hs, h.rows.kn], by rw [hs, h.rows.kb], by rw [h.init]; exact hg.1, by rw [h.init, hs]; exact hg.2, by omega, by omega⟩, fun i hi => ⟨?_, fun j hj => ?_⟩⟩, hs, fun i hi => (h.kg.next i (by omega)).1⟩
  · have := h.kg.sets i (by omega)
    unfold GSet top
    rw [hmany]
    simpa using this
  · have := (h.kg.next i (by omega)).2 j hj
    unfold GNext
    rw [hs]
    exact this
theorem KAt.tower {w wr : World} {x0 x1 : Value} {n mm : Nat} {gi : Int} {k : Nat} {sv nv bv : Value} {us : List Value} {g : Gr} (h : KAt w wr x0 x1 n mm gi k sv nv bv us g) (v0 v1 v2 v3 v4 : Value) : GraphV (((((wr.setCell ⟨w.heap.size + 1, 0, none⟩ v0).setCell ⟨w.heap.size + 1, 1, none⟩ v1).setCell ⟨w.heap.size + 1, 2, none⟩ v2).setCell ⟨w.heap.size + 1, 3, none⟩ v3).setCell ⟨w.heap.size + 1, 4, none⟩ v4) sv nv bv g :=
  (((((h.rows.low (p := ⟨w.heap.size + 1, 0, none⟩) (by show w.heap.size + 1 < _; omega) v0).low (p := ⟨w.heap.size + 1, 1, none⟩) (by show w.heap.size + 1 < _; omega) v1).low (p := ⟨w.heap.size + 1, 2, none⟩) (by show w.heap.size + 1 < _; omega) v2).low (p := ⟨w.heap.size + 1, 3, none⟩) (by show w.heap.size + 1 < _; omega) v3).low (p := ⟨w.heap.size + 1, 4, none⟩) (by show w.heap.size + 1 < _; omega) v4).v
end Go.Proofs.Ytdmclgbmdhhdiaa
