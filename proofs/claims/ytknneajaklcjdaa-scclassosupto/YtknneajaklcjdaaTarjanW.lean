/-
  How the walk that tells the parts of a graph lies in memory.
-/
import Derived.Test.YtknneajaklcjdaaTarjanM
import Derived.Test.YtknneajaklcjdaaFirsts
import Derived.Deep.AppendLies
import Derived.Deep.RegionHeld3
import Derived.Deep.LoopGhost
import Derived.BigRegion
import Derived.Deep.QuietTactic
import Derived.BigQuiet
namespace Go.Proofs.Ytknneajaklcjdaa
open Go.ChangeShapes Go.WideShapes Go.ChangeAt Go.RowKit Go.Deep
open Terms

/-- where all of it lies. -/
structure TA where
  s : Nat
  t : Nat
  b : Nat
  bw : Nat
  bl : Nat
  bg : Nat
  bp : Nat
/-- in blocks of their own. -/
structure TAOk (A : TA) : Prop where
  sb : A.s ≤ A.b
  sw : A.s ≤ A.bw
  sl : A.s ≤ A.bl
  sg : A.s ≤ A.bg
  sp : A.s ≤ A.bp
  tb : A.b < A.t
  tw : A.bw < A.t
  tl : A.bl < A.t
  tg : A.bg < A.t
  tp : A.bp < A.t
  bw : A.b ≠ A.bw
  bl : A.b ≠ A.bl
  bg : A.b ≠ A.bg
  bp : A.b ≠ A.bp
  wl : A.bw ≠ A.bl
  wg : A.bw ≠ A.bg
  wp : A.bw ≠ A.bp
  lg : A.bl ≠ A.bg
  lp : A.bl ≠ A.bp
  gp : A.bg ≠ A.bp
def ApartV (u v : Value) : Prop := ∀ k, u.ownBlock = some k → v.ownBlock ≠ some k
theorem ApartV.symm {u v : Value} (h : ApartV u v) : ApartV v u := fun k h1 h2 => h k h2 h1
def natRow (f : Nat → Nat) : Nat → Value := fun j => .int .i64 (f j : Int)
def intRow (f : Nat → Int) : Nat → Value := fun j => .int .i64 (f j)
theorem natRow_upd (f : Nat → Nat) (i v : Nat) : natRow (upd f i v) = fun j => if j = i then .int .i64 (v : Int) else natRow f j := by
  funext j
  unfold natRow upd
  by_cases h : j = i
  · simp [h]
  · simp [h]
theorem intRow_upd (f : Nat → Int) (i : Nat) (v : Int) : intRow (updI f i v) = fun j => if j = i then .int .i64 v else intRow f j := by
  funext j
  unfold intRow updI
  by_cases h : j = i
  · simp [h]
  · simp [h]
/-- HOW THE WALK LIES. -/
structure TjW (w0 w : World) (A : TA) (nv : Value) (n : Nat) (dv ov : Value) (dl ol : List Nat) (wh lo go : Nat → Nat) (pt : Nat → Int) (met : Nat) : Prop where
  below : Below A.s w0 w
  size : A.t ≤ w.heap.size
  fz : ∀ i, w.frozen? ⟨A.b, i, none⟩ = false
  gn : w.cell? ⟨A.b, 2, none⟩ = some nv
  dn : w.cell? ⟨A.b, 5, none⟩ = some dv
  on : w.cell? ⟨A.b, 6, none⟩ = some ov
  cw : w.cell? ⟨A.b, 7, none⟩ = some (.slice (some ⟨A.bw, 0, none⟩) n n)
  cl : w.cell? ⟨A.b, 8, none⟩ = some (.slice (some ⟨A.bl, 0, none⟩) n n)
  cg : w.cell? ⟨A.b, 9, none⟩ = some (.slice (some ⟨A.bg, 0, none⟩) n n)
  cm : w.cell? ⟨A.b, 10, none⟩ = some (.int .i64 (met : Int))
  cp : w.cell? ⟨A.b, 11, none⟩ = some (.slice (some ⟨A.bp, 0, none⟩) n n)
  rw : w.rowIs A.bw 3 n (natRow wh)
  rl : w.rowIs A.bl 3 n (natRow lo)
  rg : w.rowIs A.bg 3 n (natRow go)
  rp : w.rowIs A.bp 3 n (intRow pt)
  od : w.ownsRow A.t 3 1 dv dl.length (nvals dl)
  oo : w.ownsRow A.t 3 1 ov ol.length (nvals ol)
  ap : ApartV dv ov
section
variable {w0 w : World} {A : TA} {nv : Value} {n : Nat} {dv ov : Value} {dl ol : List Nat} {wh lo go : Nat → Nat} {pt : Nat → Int} {met : Nat}
theorem TjW.drew (h : TjW w0 w A nv n dv ov dl ol wh lo go pt met) : TjW w0 w.drew A nv n dv ov dl ol wh lo go pt met :=
  ⟨h.below.drew, h.size, h.fz, h.gn, h.dn, h.on, h.cw, h.cl, h.cg, h.cm, h.cp, h.rw, h.rl, h.rg, h.rp, h.od, h.oo, h.ap⟩
theorem TjW.drewN (h : TjW w0 w A nv n dv ov dl ol wh lo go pt met) (q : Nat) : TjW w0 (w.drewN q) A nv n dv ov dl ol wh lo go pt met :=
  ⟨⟨h.below.os, h.below.tape, h.below.output, h.below.size, h.below.block⟩, h.size, h.fz, h.gn, h.dn, h.on, h.cw, h.cl, h.cg, h.cm, h.cp, h.rw, h.rl, h.rg, h.rp, h.od, h.oo, h.ap⟩
theorem owns_same {w' : World} {base : Nat} {e : TypeId} {s k : Nat} {v : Value} {xs : List Value} (h : w.ownsRow base e s v k xs) (hb : ∀ g, v.ownBlock = some g → w'.heap[g]? = w.heap[g]?) : w'.ownsRow base e s v k xs := by
  refine ⟨h.1, ?_⟩
  rcases h.2 with h1 | ⟨g, cap, cur, h1, h2, h3, h4⟩
  · exact .inl h1
  · exact .inr ⟨g, cap, cur, h1, h2, (hb g (by rw [h1]; rfl)).trans h3, h4⟩
theorem owns_take {base : Nat} {e : TypeId} {k j : Nat} {ao : Option Addr} {c : Nat} {xs : List Value} (h : w.ownsRow base e 1 (.slice ao k c) k xs) (hj : j ≤ k) : w.ownsRow base e 1 (.slice ao j c) j (xs.take j) := by
  obtain ⟨h0, h1⟩ := h
  refine ⟨by rw [List.length_take]; omega, ?_⟩
  rcases h1 with ⟨h1, h2⟩ | ⟨g, cap, cur, h1, h2, h3, h4, h5, h6, h7⟩
  · injection h1 with e1 e2 e3
    subst e1 e3
    exact .inl ⟨by congr 1; omega, by omega⟩
  · injection h1 with e1 e2 e3
    subst e1 e3
    refine .inr ⟨g, c, cur, rfl, h2, h3, by omega, h5, h6, ?_⟩
    rw [← h7, List.take_take]
    congr 1
    omega
/-- a store into the walk's own box. -/
theorem TjW.box (h : TjW w0 w A nv n dv ov dl ol wh lo go pt met) (hA : TAOk A) (i : Nat) (x : Value) :
    Below A.s w0 (w.setCell ⟨A.b, i, none⟩ x) ∧ A.t ≤ (w.setCell ⟨A.b, i, none⟩ x).heap.size ∧ (∀ j, (w.setCell ⟨A.b, i, none⟩ x).frozen? ⟨A.b, j, none⟩ = false) ∧ (∀ j, j ≠ i → (w.setCell ⟨A.b, i, none⟩ x).cell? ⟨A.b, j, none⟩ = w.cell? ⟨A.b, j, none⟩) ∧
    (w.setCell ⟨A.b, i, none⟩ x).rowIs A.bw 3 n (natRow wh) ∧ (w.setCell ⟨A.b, i, none⟩ x).rowIs A.bl 3 n (natRow lo) ∧ (w.setCell ⟨A.b, i, none⟩ x).rowIs A.bg 3 n (natRow go) ∧ (w.setCell ⟨A.b, i, none⟩ x).rowIs A.bp 3 n (intRow pt) ∧
    (w.setCell ⟨A.b, i, none⟩ x).ownsRow A.t 3 1 dv dl.length (nvals dl) ∧ (w.setCell ⟨A.b, i, none⟩ x).ownsRow A.t 3 1 ov ol.length (nvals ol) := by
  refine ⟨h.below.setCell hA.sb _, by simpa using h.size, fun j => (World.frozen?_setCell _ _ _ _).trans (h.fz j), fun j hj => World.cell?_setCell_other _ _ _ _ (fun e => hj (by injection e with e1 e2 e3; exact e2.symm)), h.rw.setOther (Ne.symm hA.bw) _, h.rl.setOther (Ne.symm hA.bl) _, h.rg.setOther (Ne.symm hA.bg) _, h.rp.setOther (Ne.symm hA.bp) _, ownsRow_setCell_below h.od hA.tb _, ownsRow_setCell_below h.oo hA.tb _⟩
theorem TjW.setMet (h : TjW w0 w A nv n dv ov dl ol wh lo go pt met) (hA : TAOk A) (m : Nat) : TjW w0 (w.setCell ⟨A.b, 10, none⟩ (.int .i64 (m : Int))) A nv n dv ov dl ol wh lo go pt m := by
  obtain ⟨h1, h2, h3, h4, h5, h6, h7, h8, h9, h10⟩ := h.box hA 10 (.int .i64 (m : Int))
  exact ⟨h1, h2, h3, (h4 2 (by decide)).trans h.gn, (h4 5 (by decide)).trans h.dn, (h4 6 (by decide)).trans h.on, (h4 7 (by decide)).trans h.cw, (h4 8 (by decide)).trans h.cl, (h4 9 (by decide)).trans h.cg, World.cell?_setCell_same _ _ _ (u := .int .i64 (met : Int)) h.cm, (h4 11 (by decide)).trans h.cp, h5, h6, h7, h8, h9, h10, h.ap⟩
theorem TjW.setDown (h : TjW w0 w A nv n dv ov dl ol wh lo go pt met) (hA : TAOk A) {dv' : Value} {dl' : List Nat} (ho : w.ownsRow A.t 3 1 dv' dl'.length (nvals dl')) (ha : ApartV dv' ov) : TjW w0 (w.setCell ⟨A.b, 5, none⟩ dv') A nv n dv' ov dl' ol wh lo go pt met := by
  obtain ⟨h1, h2, h3, h4, h5, h6, h7, h8, h9, h10⟩ := h.box hA 5 dv'
  exact ⟨h1, h2, h3, (h4 2 (by decide)).trans h.gn, World.cell?_setCell_same _ _ _ (u := dv) h.dn, (h4 6 (by decide)).trans h.on, (h4 7 (by decide)).trans h.cw, (h4 8 (by decide)).trans h.cl, (h4 9 (by decide)).trans h.cg, (h4 10 (by decide)).trans h.cm, (h4 11 (by decide)).trans h.cp, h5, h6, h7, h8, ownsRow_setCell_below ho hA.tb _, h10, ha⟩
theorem TjW.setOpen (h : TjW w0 w A nv n dv ov dl ol wh lo go pt met) (hA : TAOk A) {ov' : Value} {ol' : List Nat} (ho : w.ownsRow A.t 3 1 ov' ol'.length (nvals ol')) (ha : ApartV dv ov') : TjW w0 (w.setCell ⟨A.b, 6, none⟩ ov') A nv n dv ov' dl ol' wh lo go pt met := by
  obtain ⟨h1, h2, h3, h4, h5, h6, h7, h8, h9, h10⟩ := h.box hA 6 ov'
  exact ⟨h1, h2, h3, (h4 2 (by decide)).trans h.gn, (h4 5 (by decide)).trans h.dn, World.cell?_setCell_same _ _ _ (u := ov) h.on, (h4 7 (by decide)).trans h.cw, (h4 8 (by decide)).trans h.cl, (h4 9 (by decide)).trans h.cg, (h4 10 (by decide)).trans h.cm, (h4 11 (by decide)).trans h.cp, h5, h6, h7, h8, h9, ownsRow_setCell_below ho hA.tb _, ha⟩
/-- a store into one of the rows. -/
theorem TjW.row (h : TjW w0 w A nv n dv ov dl ol wh lo go pt met) {c : Nat} (hs : A.s ≤ c) (ht : c < A.t) (hb : A.b ≠ c) (i : Nat) (x : Value) :
    Below A.s w0 (w.setCell ⟨c, i, none⟩ x) ∧ A.t ≤ (w.setCell ⟨c, i, none⟩ x).heap.size ∧ (∀ j, (w.setCell ⟨c, i, none⟩ x).frozen? ⟨A.b, j, none⟩ = false) ∧ (∀ j, (w.setCell ⟨c, i, none⟩ x).cell? ⟨A.b, j, none⟩ = w.cell? ⟨A.b, j, none⟩) ∧
    (w.setCell ⟨c, i, none⟩ x).ownsRow A.t 3 1 dv dl.length (nvals dl) ∧ (w.setCell ⟨c, i, none⟩ x).ownsRow A.t 3 1 ov ol.length (nvals ol) :=
  ⟨h.below.setCell hs _, by simpa using h.size, fun j => (World.frozen?_setCell _ _ _ _).trans (h.fz j), fun j => World.cell?_setCell_far _ _ _ _ (fun e => hb e.symm), ownsRow_setCell_below h.od ht _, ownsRow_setCell_below h.oo ht _⟩
theorem TjW.setW (h : TjW w0 w A nv n dv ov dl ol wh lo go pt met) (hA : TAOk A) (i v : Nat) : TjW w0 (w.setCell ⟨A.bw, i, none⟩ (.int .i64 (v : Int))) A nv n dv ov dl ol (upd wh i v) lo go pt met := by
  obtain ⟨h1, h2, h3, h4, h5, h6⟩ := h.row hA.sw hA.tw hA.bw i (.int .i64 (v : Int))
  exact ⟨h1, h2, h3, (h4 2).trans h.gn, (h4 5).trans h.dn, (h4 6).trans h.on, (h4 7).trans h.cw, (h4 8).trans h.cl, (h4 9).trans h.cg, (h4 10).trans h.cm, (h4 11).trans h.cp, by rw [natRow_upd]; exact h.rw.set i _, h.rl.setOther (Ne.symm hA.wl) _, h.rg.setOther (Ne.symm hA.wg) _, h.rp.setOther (Ne.symm hA.wp) _, h5, h6, h.ap⟩
theorem TjW.setL (h : TjW w0 w A nv n dv ov dl ol wh lo go pt met) (hA : TAOk A) (i v : Nat) : TjW w0 (w.setCell ⟨A.bl, i, none⟩ (.int .i64 (v : Int))) A nv n dv ov dl ol wh (upd lo i v) go pt met := by
  obtain ⟨h1, h2, h3, h4, h5, h6⟩ := h.row hA.sl hA.tl hA.bl i (.int .i64 (v : Int))
  exact ⟨h1, h2, h3, (h4 2).trans h.gn, (h4 5).trans h.dn, (h4 6).trans h.on, (h4 7).trans h.cw, (h4 8).trans h.cl, (h4 9).trans h.cg, (h4 10).trans h.cm, (h4 11).trans h.cp, h.rw.setOther hA.wl _, by rw [natRow_upd]; exact h.rl.set i _, h.rg.setOther (Ne.symm hA.lg) _, h.rp.setOther (Ne.symm hA.lp) _, h5, h6, h.ap⟩
theorem TjW.setG (h : TjW w0 w A nv n dv ov dl ol wh lo go pt met) (hA : TAOk A) (i v : Nat) : TjW w0 (w.setCell ⟨A.bg, i, none⟩ (.int .i64 (v : Int))) A nv n dv ov dl ol wh lo (upd go i v) pt met := by
  obtain ⟨h1, h2, h3, h4, h5, h6⟩ := h.row hA.sg hA.tg hA.bg i (.int .i64 (v : Int))
  exact ⟨h1, h2, h3, (h4 2).trans h.gn, (h4 5).trans h.dn, (h4 6).trans h.on, (h4 7).trans h.cw, (h4 8).trans h.cl, (h4 9).trans h.cg, (h4 10).trans h.cm, (h4 11).trans h.cp, h.rw.setOther hA.wg _, h.rl.setOther hA.lg _, by rw [natRow_upd]; exact h.rg.set i _, h.rp.setOther (Ne.symm hA.gp) _, h5, h6, h.ap⟩
theorem TjW.setP (h : TjW w0 w A nv n dv ov dl ol wh lo go pt met) (hA : TAOk A) (i : Nat) (v : Int) : TjW w0 (w.setCell ⟨A.bp, i, none⟩ (.int .i64 v)) A nv n dv ov dl ol wh lo go (updI pt i v) met := by
  obtain ⟨h1, h2, h3, h4, h5, h6⟩ := h.row hA.sp hA.tp hA.bp i (.int .i64 v)
  exact ⟨h1, h2, h3, (h4 2).trans h.gn, (h4 5).trans h.dn, (h4 6).trans h.on, (h4 7).trans h.cw, (h4 8).trans h.cl, (h4 9).trans h.cg, (h4 10).trans h.cm, (h4 11).trans h.cp, h.rw.setOther hA.wp _, h.rl.setOther hA.lp _, h.rg.setOther hA.gp _, by rw [intRow_upd]; exact h.rp.set i _, h5, h6, h.ap⟩
/-- memory that another row of its own has grown in. -/
theorem TjW.kept {w2 : World} (h : TjW w0 w A nv n dv ov dl ol wh lo go pt met) (hs : w.heap.size ≤ w2.heap.size) {row : Option Nat} (hr : ∀ k, row = some k → A.t ≤ k) (hk : ∀ i, i < w.heap.size → some i ≠ row → w2.heap[i]? = w.heap[i]?) :
    A.t ≤ w2.heap.size ∧ (∀ i j, i < A.t → w2.cell? ⟨i, j, none⟩ = w.cell? ⟨i, j, none⟩) ∧ (∀ i, w2.frozen? ⟨A.b, i, none⟩ = false ∨ ¬ TAOk A) ∧ (∀ (c : Nat) (f : Nat → Value), c < A.t → w.rowIs c 3 n f → w2.rowIs c 3 n f) := by
  have ht := h.size
  have hkk : ∀ i, i < A.t → w2.heap[i]? = w.heap[i]? := fun i hi => hk i (by omega) (fun e => by have := hr i e.symm; omega)
  refine ⟨by omega, fun i j hi => World.cell?_of_block (a := ⟨i, j, none⟩) (hkk i hi), fun i => ?_, fun c f hc hr => hr.of_block (hkk c hc)⟩
  by_cases hA : TAOk A
  · exact .inl ((World.frozen?_of_block (a := ⟨A.b, i, none⟩) (hkk A.b hA.tb)).trans (h.fz i))
  · exact .inr hA
theorem TjW.grew {w2 : World} {o : Obj} {row : Option Nat} (h : TjW w0 w A nv n dv ov dl ol wh lo go pt met) (hA : TAOk A) (hg : (w.alloc o).grownBy w2 row) (hr : ∀ k, row = some k → A.t ≤ k) (j : Nat) : w2.cell? ⟨A.b, j, none⟩ = w.cell? ⟨A.b, j, none⟩ ∧ w2.frozen? ⟨A.b, j, none⟩ = false := by
  have ht := h.size
  have hsz : w.heap.size ≤ w2.heap.size := by have := hg.size; simp at this; omega
  have hk : ∀ i, i < w.heap.size → some i ≠ row → w2.heap[i]? = w.heap[i]? := fun i hi hne => (hg.block i (by simp; omega) hne).trans (((Below.refl w.heap.size w).alloc (Nat.le_refl _) o).block i hi)
  obtain ⟨k1, k2, k3, k4⟩ := h.kept hsz (row := row) hr hk
  exact ⟨k2 A.b j hA.tb, (k3 j).resolve_right (fun x => x hA)⟩
/-- the way down grows. -/
theorem TjW.pushDown {w2 : World} {o : Obj} {dv' : Value} {p : Nat} (h : TjW w0 w A nv n dv ov dl ol wh lo go pt met) (hA : TAOk A) (hg : (w.alloc o).grownBy w2 dv.ownBlock) (ho : w2.ownsRow A.t 3 1 dv' (dl.length + 1) (nvals dl ++ [.int .i64 (p : Int)])) (ha : ∀ g, dv'.ownBlock = some g → dv.ownBlock = some g ∨ g = (w.alloc o).heap.size) :
    TjW w0 (w2.setCell ⟨A.b, 5, none⟩ dv') A nv n dv' ov (dl ++ [p]) ol wh lo go pt met := by
  have ht := h.size
  have hst := hA.tb
  have hsb := hA.sb
  have hlt := h.od.lt
  have hlo := h.oo.lt
  have hsz : w.heap.size ≤ w2.heap.size := by have := hg.size; simp at this; omega
  have hk : ∀ i, i < w.heap.size → some i ≠ dv.ownBlock → w2.heap[i]? = w.heap[i]? := fun i hi hne => (hg.block i (by simp; omega) hne).trans (((Below.refl w.heap.size w).alloc (Nat.le_refl _) o).block i hi)
  have hb2 : Below A.s w0 w2 := (h.below.alloc (by omega) o).grown hg (by simp; omega) (fun k hk => by have := (hlt k hk).1; omega)
  obtain ⟨k1, k2, k3, k4⟩ := h.kept hsz (row := dv.ownBlock) (fun k hk => (hlt k hk).1) hk
  have hap : ApartV dv' ov := fun g hg1 hg2 => by
    rcases ha g hg1 with h1 | h1
    · exact h.ap g h1 hg2
    · have := (hlo g hg2).2; simp at h1; omega
  have hoo : w2.ownsRow A.t 3 1 ov ol.length (nvals ol) := owns_same h.oo fun g hg1 => hk g (hlo g hg1).2 (fun e => h.ap g e.symm hg1)
  have hod : w2.ownsRow A.t 3 1 dv' (dl ++ [p]).length (nvals (dl ++ [p])) := by
    rw [List.length_append, nvals, List.map_append]; exact ho
  have hfar : ∀ j, j ≠ 5 → (w2.setCell ⟨A.b, 5, none⟩ dv').cell? ⟨A.b, j, none⟩ = w.cell? ⟨A.b, j, none⟩ := fun j hj => (World.cell?_setCell_other _ _ _ _ (fun e => hj (by injection e with e1 e2 e3; exact e2.symm))).trans (k2 A.b j hst)
  have hfz : ∀ i, w2.frozen? ⟨A.b, i, none⟩ = false := fun i => (k3 i).resolve_right (fun x => x hA)
  exact ⟨hb2.setCell hsb _, by simpa using k1, fun i => (World.frozen?_setCell _ _ _ _).trans (hfz i), (hfar 2 (by decide)).trans h.gn, World.cell?_setCell_same _ _ _ (u := dv) ((k2 A.b 5 hst).trans h.dn), (hfar 6 (by decide)).trans h.on, (hfar 7 (by decide)).trans h.cw, (hfar 8 (by decide)).trans h.cl, (hfar 9 (by decide)).trans h.cg, (hfar 10 (by decide)).trans h.cm, (hfar 11 (by decide)).trans h.cp, (k4 _ _ hA.tw h.rw).setOther (Ne.symm hA.bw) _, (k4 _ _ hA.tl h.rl).setOther (Ne.symm hA.bl) _, (k4 _ _ hA.tg h.rg).setOther (Ne.symm hA.bg) _, (k4 _ _ hA.tp h.rp).setOther (Ne.symm hA.bp) _, ownsRow_setCell_below hod hst _, ownsRow_setCell_below hoo hst _, hap⟩
/-- what is open grows. -/
theorem TjW.pushOpen {w2 : World} {o : Obj} {ov' : Value} {p : Nat} (h : TjW w0 w A nv n dv ov dl ol wh lo go pt met) (hA : TAOk A) (hg : (w.alloc o).grownBy w2 ov.ownBlock) (ho : w2.ownsRow A.t 3 1 ov' (ol.length + 1) (nvals ol ++ [.int .i64 (p : Int)])) (ha : ∀ g, ov'.ownBlock = some g → ov.ownBlock = some g ∨ g = (w.alloc o).heap.size) :
    TjW w0 (w2.setCell ⟨A.b, 6, none⟩ ov') A nv n dv ov' dl (ol ++ [p]) wh lo go pt met := by
  have ht := h.size
  have hst := hA.tb
  have hsb := hA.sb
  have hlt := h.oo.lt
  have hlo := h.od.lt
  have hsz : w.heap.size ≤ w2.heap.size := by have := hg.size; simp at this; omega
  have hk : ∀ i, i < w.heap.size → some i ≠ ov.ownBlock → w2.heap[i]? = w.heap[i]? := fun i hi hne => (hg.block i (by simp; omega) hne).trans (((Below.refl w.heap.size w).alloc (Nat.le_refl _) o).block i hi)
  have hb2 : Below A.s w0 w2 := (h.below.alloc (by omega) o).grown hg (by simp; omega) (fun k hk => by have := (hlt k hk).1; omega)
  obtain ⟨k1, k2, k3, k4⟩ := h.kept hsz (row := ov.ownBlock) (fun k hk => (hlt k hk).1) hk
  have hap : ApartV dv ov' := fun g hg1 hg2 => by
    rcases ha g hg2 with h1 | h1
    · exact h.ap g hg1 h1
    · have := (hlo g hg1).2; simp at h1; omega
  have hoo : w2.ownsRow A.t 3 1 dv dl.length (nvals dl) := owns_same h.od fun g hg1 => hk g (hlo g hg1).2 (fun e => h.ap g hg1 e.symm)
  have hod : w2.ownsRow A.t 3 1 ov' (ol ++ [p]).length (nvals (ol ++ [p])) := by
    rw [List.length_append, nvals, List.map_append]; exact ho
  have hfar : ∀ j, j ≠ 6 → (w2.setCell ⟨A.b, 6, none⟩ ov').cell? ⟨A.b, j, none⟩ = w.cell? ⟨A.b, j, none⟩ := fun j hj => (World.cell?_setCell_other _ _ _ _ (fun e => hj (by injection e with e1 e2 e3; exact e2.symm))).trans (k2 A.b j hst)
  have hfz : ∀ i, w2.frozen? ⟨A.b, i, none⟩ = false := fun i => (k3 i).resolve_right (fun x => x hA)
  exact ⟨hb2.setCell hsb _, by simpa using k1, fun i => (World.frozen?_setCell _ _ _ _).trans (hfz i), (hfar 2 (by decide)).trans h.gn, (hfar 5 (by decide)).trans h.dn, World.cell?_setCell_same _ _ _ (u := ov) ((k2 A.b 6 hst).trans h.on), (hfar 7 (by decide)).trans h.cw, (hfar 8 (by decide)).trans h.cl, (hfar 9 (by decide)).trans h.cg, (hfar 10 (by decide)).trans h.cm, (hfar 11 (by decide)).trans h.cp, (k4 _ _ hA.tw h.rw).setOther (Ne.symm hA.bw) _, (k4 _ _ hA.tl h.rl).setOther (Ne.symm hA.bl) _, (k4 _ _ hA.tg h.rg).setOther (Ne.symm hA.bg) _, (k4 _ _ hA.tp h.rp).setOther (Ne.symm hA.bp) _, ownsRow_setCell_below hoo hst _, ownsRow_setCell_below hod hst _, hap⟩
end
end Go.Proofs.Ytknneajaklcjdaa
