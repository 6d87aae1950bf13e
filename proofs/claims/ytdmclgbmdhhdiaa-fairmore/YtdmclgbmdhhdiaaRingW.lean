/-
  How a ring lies while it is made, and when it is torn.
-/
import Derived.Test.YtdmclgbmdhhdiaaRingM
namespace Go.Proofs.Ytdmclgbmdhhdiaa
open Go.ChangeShapes Go.WideShapes Go.ChangeAt Go.RowKit Go.Deep
open Terms

/-- A LIST IS PUT in the place of another. -/
theorem KRows.put {w : World} {base : Nat} {sv bv lv : Value} {us : List Value} {g : Gr} {k nb nc i : Nat} {l : List Int} (h : KRows w base sv (.slice (some ⟨nb, 0, none⟩) k nc) bv us g k) (hi : i < k)
    (hl : w.ownsRow base 3 1 lv l.length (ivals l)) (hla : lv.ownBlock = none ∨ lv.ownBlock ≠ bv.ownBlock) :
    KRows (w.setCell ⟨nb, i, none⟩ lv) base sv (.slice (some ⟨nb, 0, none⟩) k nc) bv (us.set i lv) { g with next := g.next.set i l } k := by
  obtain ⟨hst, hg⟩ := h.next.stored i lv
  have hul : us.length = k := by simpa using h.next.1
  have ne1 : 36 ≠ 23 := by decide
  have ne3 : 3 ≠ 23 := by decide
  have keep : ∀ {v : Value} {n : Nat} {xs : List Value}, w.ownsRow base 3 1 v n xs → (w.setCell ⟨nb, i, none⟩ lv).ownsRow base 3 1 v n xs := fun {v n xs} hv => hv.kept hg (owns_apart ne3 hv h.next)
  refine ⟨h.ks, by show (g.next.set i l).length = k; rw [List.length_set]; exact h.kn, h.kb, h.spots.kept hg (owns_apart ne1 h.spots h.next), hst, fun j hj => ?_, keep h.sets, fun j hj => ?_⟩
  · show (w.setCell ⟨nb, i, none⟩ lv).ownsRow base 3 1 ((us.set i lv).getD j nilV) ((g.next.set i l).getD j []).length (ivals ((g.next.set i l).getD j []))
    by_cases e : j = i
    · subst e
      rw [show (us.set j lv).getD j nilV = lv by simp [List.getD_eq_getElem?_getD, hul, hj], show (g.next.set j l).getD j [] = l by simp [List.getD_eq_getElem?_getD, h.kn, hj]]
      exact keep hl
    · have e' : ¬ i = j := fun x => e x.symm
      rw [show (us.set i lv).getD j nilV = us.getD j nilV by simp [List.getD_eq_getElem?_getD, e'], show (g.next.set i l).getD j [] = g.next.getD j [] by simp [List.getD_eq_getElem?_getD, e']]
      exact keep (h.each j hj)
  · by_cases e : j = i
    · subst e
      rw [show (us.set j lv).getD j nilV = lv by simp [List.getD_eq_getElem?_getD, hul, hj]]
      exact hla
    · have e' : ¬ i = j := fun x => e x.symm
      rw [show (us.set i lv).getD j nilV = us.getD j nilV by simp [List.getD_eq_getElem?_getD, e']]
      exact h.apart j hj
/-- THE RING UNDER WAY. -/
structure RgAt (w wr : World) (k m j : Nat) (sv nv bv : Value) (us : List Value) (g : Gr) : Prop where
  c0 : wr.cell? ⟨w.heap.size, 0, none⟩ = some sv
  c1 : wr.cell? ⟨w.heap.size, 1, none⟩ = some (.int .i64 1)
  c2 : wr.cell? ⟨w.heap.size, 2, none⟩ = some nv
  c3 : wr.cell? ⟨w.heap.size, 3, none⟩ = some bv
  c4 : wr.cell? ⟨w.heap.size, 4, none⟩ = some (.int .i64 (m : Int))
  f0 : wr.frozen? ⟨w.heap.size, 0, none⟩ = false
  f2 : wr.frozen? ⟨w.heap.size, 2, none⟩ = false
  f3 : wr.frozen? ⟨w.heap.size, 3, none⟩ = false
  rows : KRows wr (w.heap.size + 1) sv nv bv us g j
  rg : RG k m g j
  below : Below w.heap.size w wr
  size : w.heap.size + 1 ≤ wr.heap.size
def RgGr (w wr : World) (k m j : Nat) : Prop := ∃ (sv nv bv : Value) (us : List Value) (g : Gr), RgAt w wr k m j sv nv bv us g
theorem RgAt.shape {w wr : World} {k m j : Nat} {sv nv bv : Value} {us : List Value} {g : Gr} (h : RgAt w wr k m j sv nv bv us g) : ∃ so sc no nc bo bc, sv = .slice so j sc ∧ nv = .slice no j nc ∧ bv = .slice bo j bc := by
  obtain ⟨so, sc, e1⟩ := owns_slice h.rows.spots
  obtain ⟨no, nc, e2⟩ := owns_slice h.rows.next
  obtain ⟨bo, bc, e3⟩ := owns_slice h.rows.sets
  exact ⟨so, sc, no, nc, bo, bc, e1, e2, e3⟩
theorem ring_start (w : World) (k m : Nat) : RgAt w (w.alloc (.cells #[.slice none 0 0, .int .i64 1, .slice none 0 0, .slice none 0 0, .int .i64 (m : Int)] 28)) k m 0 (.slice none 0 0) (.slice none 0 0) (.slice none 0 0) [] ⟨[], 1, [], [], (m : Int)⟩ := by
  refine ⟨by simp [go_sem], by simp [go_sem], by simp [go_sem], by simp [go_sem], by simp [go_sem], by simp [go_sem], by simp [go_sem], by simp [go_sem], ⟨rfl, rfl, rfl, World.ownsRow_nil _ _ _ _, World.ownsRow_nil _ _ _ _, fun j hj => by omega, World.ownsRow_nil _ _ _ _, fun j hj => by omega⟩, ⟨rfl, rfl, fun i hi => by omega, fun i hi => by omega⟩, (Below.refl _ _).alloc (Nat.le_refl _) _, by simp⟩
/-- what lies below the rows. -/
structure RgLow (w wr : World) (m : Nat) (sv nv bv : Value) : Prop where
  c0 : wr.cell? ⟨w.heap.size, 0, none⟩ = some sv
  c1 : wr.cell? ⟨w.heap.size, 1, none⟩ = some (.int .i64 1)
  c2 : wr.cell? ⟨w.heap.size, 2, none⟩ = some nv
  c3 : wr.cell? ⟨w.heap.size, 3, none⟩ = some bv
  c4 : wr.cell? ⟨w.heap.size, 4, none⟩ = some (.int .i64 (m : Int))
  f0 : wr.frozen? ⟨w.heap.size, 0, none⟩ = false
  f2 : wr.frozen? ⟨w.heap.size, 2, none⟩ = false
  f3 : wr.frozen? ⟨w.heap.size, 3, none⟩ = false
  below : Below w.heap.size w wr
  size : w.heap.size + 1 ≤ wr.heap.size
theorem RgAt.low {w wr : World} {k m j : Nat} {sv nv bv : Value} {us : List Value} {g : Gr} (h : RgAt w wr k m j sv nv bv us g) : RgLow w wr m sv nv bv := ⟨h.c0, h.c1, h.c2, h.c3, h.c4, h.f0, h.f2, h.f3, h.below, h.size⟩
theorem RgLow.keep {w wr w' : World} {m : Nat} {sv nv bv : Value} (h : RgLow w wr m sv nv bv) (hb : Below (w.heap.size + 1) wr w') : RgLow w w' m sv nv bv := by
  have c : ∀ j, w'.cell? ⟨w.heap.size, j, none⟩ = wr.cell? ⟨w.heap.size, j, none⟩ := fun j => hb.cell (p := ⟨w.heap.size, j, none⟩) (Nat.lt_succ_self _)
  have f : ∀ j, w'.frozen? ⟨w.heap.size, j, none⟩ = wr.frozen? ⟨w.heap.size, j, none⟩ := fun j => hb.frozen (p := ⟨w.heap.size, j, none⟩) (Nat.lt_succ_self _)
  exact ⟨(c 0).trans h.c0, (c 1).trans h.c1, (c 2).trans h.c2, (c 3).trans h.c3, (c 4).trans h.c4, (f 0).trans h.f0, (f 2).trans h.f2, (f 3).trans h.f3, h.below.trans (hb.mono (Nat.le_succ _)), Nat.le_trans h.size hb.size⟩
theorem RgLow.grow {w wa w1 : World} {m : Nat} {sv nv bv : Value} {o : Obj} {row : Option Nat} (h : RgLow w wa m sv nv bv) (hg : (wa.alloc o).grownBy w1 row) (hr : ∀ k, row = some k → w.heap.size + 1 ≤ k) : RgLow w w1 m sv nv bv := by
  have hs := h.size
  exact h.keep (((Below.refl _ _).alloc hs o).grown hg (by simp; omega) hr)
theorem RgLow.alloc {w wa : World} {m : Nat} {sv nv bv : Value} (h : RgLow w wa m sv nv bv) (o : Obj) : RgLow w (wa.alloc o) m sv nv bv := h.keep ((Below.refl _ _).alloc h.size o)
theorem RgLow.set0 {w wa : World} {m : Nat} {sv nv bv : Value} (h : RgLow w wa m sv nv bv) (u : Value) : RgLow w (wa.setCell ⟨w.heap.size, 0, none⟩ u) m u nv bv := by
  refine ⟨?_, ?_, ?_, ?_, ?_, ?_, ?_, ?_, h.below.setCell (by simp) _, by simpa using h.size⟩ <;> simp [go_sem, h.c0, h.c1, h.c2, h.c3, h.c4, h.f0, h.f2, h.f3]
theorem RgLow.set2 {w wa : World} {m : Nat} {sv nv bv : Value} (h : RgLow w wa m sv nv bv) (u : Value) : RgLow w (wa.setCell ⟨w.heap.size, 2, none⟩ u) m sv u bv := by
  refine ⟨?_, ?_, ?_, ?_, ?_, ?_, ?_, ?_, h.below.setCell (by simp) _, by simpa using h.size⟩ <;> simp [go_sem, h.c0, h.c1, h.c2, h.c3, h.c4, h.f0, h.f2, h.f3]
theorem RgLow.set3 {w wa : World} {m : Nat} {sv nv bv : Value} (h : RgLow w wa m sv nv bv) (u : Value) : RgLow w (wa.setCell ⟨w.heap.size, 3, none⟩ u) m sv nv u := by
  refine ⟨?_, ?_, ?_, ?_, ?_, ?_, ?_, ?_, h.below.setCell (by simp) _, by simpa using h.size⟩ <;> simp [go_sem, h.c0, h.c1, h.c2, h.c3, h.c4, h.f0, h.f2, h.f3]
/-- one spot more: the spots grow, then a list is made and the lists grow, then the sets. -/
theorem KRows.step2 {w wa w1 wl wb w2 wc w3 : World} {base : Nat} {sv nv bv sv' nv' lv : Value} {us : List Value} {g : Gr} {k gb cb : Nat} {x y : Int} {l : List Int} {p0 p2 : Addr} {o1 ol o2 o3 : Obj} (h : KRows w base sv nv bv us g k)
    (e1 : wa = w.alloc o1) (hg1 : wa.grownBy w1 sv.ownBlock) (ho1 : w1.ownsRow base 36 2 sv' (k + 1) (flat g.spots ++ [.int .i64 x, .int .i64 0])) (hp0 : p0.block < base)
    (el : wl = (w1.setCell p0 sv').alloc ol) (hl : wl.ownsRow base 3 1 lv l.length (ivals l)) (hla : lv.ownBlock = none ∨ lv.ownBlock ≠ bv.ownBlock)
    (e2 : wb = wl.alloc o2) (hg2 : wb.grownBy w2 nv.ownBlock) (ho2 : w2.ownsRow base 23 1 nv' (k + 1) (us ++ [lv])) (hp2 : p2.block < base)
    (e3 : wc = (w2.setCell p2 nv').alloc o3) (hg3 : wc.grownBy w3 bv.ownBlock) (ho3 : w3.ownsRow base 3 1 (.slice (some ⟨gb, 0, none⟩) (k + 1) cb) (k + 1) (ivals g.sets ++ [.int .i64 y])) (hor : bv.ownBlock = some gb ∨ gb = wc.heap.size) :
    KRows w3 base sv' nv' (.slice (some ⟨gb, 0, none⟩) (k + 1) cb) (us ++ [lv]) ⟨g.spots ++ [(x, 0)], g.init, g.next ++ [l], g.sets ++ [y], g.many⟩ (k + 1) := by
  subst e1 el e2 e3
  have hul : us.length = k := by simpa using h.next.1
  have ne1 : 36 ≠ 23 := by decide
  have ne2 : 36 ≠ 3 := by decide
  have ne3 : 23 ≠ 3 := by decide
  -- behind the spots
  have n1 := (h.next.alloc o1).kept hg1 (owns_apart ne1.symm (h.next.alloc o1) (h.spots.alloc o1))
  have a1 : ∀ j, j < k → w1.ownsRow base 3 1 (us.getD j nilV) (g.next.getD j []).length (ivals (g.next.getD j [])) := fun j hj => ((h.each j hj).alloc o1).kept hg1 (owns_apart ne2.symm ((h.each j hj).alloc o1) (h.spots.alloc o1))
  have b1 := (h.sets.alloc o1).kept hg1 (owns_apart ne2.symm (h.sets.alloc o1) (h.spots.alloc o1))
  -- behind the lists
  have nn := ((owns_low n1 hp0 sv').alloc ol).alloc o2
  have ss := ((owns_low ho1 hp0 sv').alloc ol).alloc o2
  have s2 := ss.kept hg2 (owns_apart ne1 ss nn)
  have aa : ∀ j, j < k → _ := fun j hj => ((owns_low (a1 j hj) hp0 sv').alloc ol).alloc o2
  have a2 : ∀ j, j < k → w2.ownsRow base 3 1 (us.getD j nilV) (g.next.getD j []).length (ivals (g.next.getD j [])) := fun j hj => (aa j hj).kept hg2 (owns_apart ne3.symm (aa j hj) nn)
  have l2 := (hl.alloc o2).kept hg2 (owns_apart ne3.symm (hl.alloc o2) nn)
  have bo2 := ((owns_low b1 hp0 sv').alloc ol).alloc o2
  have b2 := bo2.kept hg2 (owns_apart ne3.symm bo2 nn)
  -- behind the sets
  have bb := (owns_low b2 hp2 nv').alloc o3
  have s3 := ((owns_low s2 hp2 nv').alloc o3).kept hg3 (owns_apart ne2 ((owns_low s2 hp2 nv').alloc o3) bb)
  have n3 := ((owns_low ho2 hp2 nv').alloc o3).kept hg3 (owns_apart ne3 ((owns_low ho2 hp2 nv').alloc o3) bb)
  have a3 : ∀ j, j < k → w3.ownsRow base 3 1 (us.getD j nilV) (g.next.getD j []).length (ivals (g.next.getD j [])) := fun j hj => ((owns_low (a2 j hj) hp2 nv').alloc o3).kept hg3 (h.apart j hj)
  have l3 := ((owns_low l2 hp2 nv').alloc o3).kept hg3 hla
  have big : ∀ (u : Value) (m : Nat) (xs : List Value), ((w2.setCell p2 nv').alloc o3).ownsRow base 3 1 u m xs → (u.ownBlock = none ∨ u.ownBlock ≠ bv.ownBlock) → u.ownBlock = none ∨ u.ownBlock ≠ some gb := fun u m xs hu ha => by
    rcases hor with e | e
    · rw [← e]; exact ha
    · cases hx : u.ownBlock with
      | none => exact .inl rfl
      | some z => exact .inr fun ez => by have := (hu.lt z hx).2; have := Option.some.inj ez; omega
  refine ⟨by simp [h.ks], by simp [h.kn], by simp [h.kb], ?_, n3, fun j hj => ?_, ?_, fun j hj => ?_⟩
  · rw [flat_append]; exact s3
  · by_cases hjk : j < k
    · have e1 : (us ++ [lv]).getD j nilV = us.getD j nilV := by simp [List.getD_eq_getElem?_getD, List.getElem?_append_left (show j < us.length by omega)]
      have e2 : (g.next ++ [l]).getD j [] = g.next.getD j [] := by simp [List.getD_eq_getElem?_getD, List.getElem?_append_left (show j < g.next.length by rw [h.kn]; exact hjk)]
      rw [e1, e2]; exact a3 j hjk
    · obtain rfl : j = k := by omega
      have e1 : (us ++ [lv]).getD j nilV = lv := by simp [List.getD_eq_getElem?_getD, ← hul]
      have e2 : (g.next ++ [l]).getD j [] = l := by simp [List.getD_eq_getElem?_getD, ← h.kn]
      rw [e1, e2]; exact l3
  · have : ivals (g.sets ++ [y]) = ivals g.sets ++ [.int .i64 y] := by simp [ivals]
    rw [this]; exact ho3
  · show _ ∨ _ ≠ some gb
    by_cases hjk : j < k
    · have e1 : (us ++ [lv]).getD j nilV = us.getD j nilV := by simp [List.getD_eq_getElem?_getD, List.getElem?_append_left (show j < us.length by omega)]
      rw [e1]
      exact big _ _ _ ((owns_low (a2 j hjk) hp2 nv').alloc o3) (h.apart j hjk)
    · obtain rfl : j = k := by omega
      have e1 : (us ++ [lv]).getD j nilV = lv := by simp [List.getD_eq_getElem?_getD, ← hul]
      rw [e1]
      exact big _ _ _ ((owns_low l2 hp2 nv').alloc o3) hla
theorem RgAt.next1 {w wy w1 : World} {k m j : Nat} {sv nv bv : Value} {us : List Value} {g : Gr} {o1 : Obj} (h : RgAt w wy k m j sv nv bv us g) (hg1 : (wy.alloc o1).grownBy w1 sv.ownBlock) (u : Value) (ol o2 : Obj) : (((w1.setCell ⟨w.heap.size, 0, none⟩ u).alloc ol).alloc o2).ownsRow (w.heap.size + 1) 23 1 nv j us := by
  have ne1 : 36 ≠ 23 := by decide
  exact ((owns_low ((h.rows.next.alloc o1).kept hg1 (owns_apart ne1.symm (h.rows.next.alloc o1) (h.rows.spots.alloc o1))) (p := ⟨w.heap.size, 0, none⟩) (Nat.lt_succ_self _) u).alloc ol).alloc o2
theorem RgAt.sets1 {w wy w1 : World} {k m j : Nat} {sv nv bv : Value} {us : List Value} {g : Gr} {o1 : Obj} (h : RgAt w wy k m j sv nv bv us g) (hg1 : (wy.alloc o1).grownBy w1 sv.ownBlock) : w1.ownsRow (w.heap.size + 1) 3 1 bv j (ivals g.sets) := by
  have ne2 : 36 ≠ 3 := by decide
  exact (h.rows.sets.alloc o1).kept hg1 (owns_apart ne2.symm (h.rows.sets.alloc o1) (h.rows.spots.alloc o1))
theorem RgAt.sets2 {w wy w1 w2 : World} {k m j : Nat} {sv nv bv : Value} {us : List Value} {g : Gr} {o1 ol o2 : Obj} {u1 : Value} (h : RgAt w wy k m j sv nv bv us g) (hg1 : (wy.alloc o1).grownBy w1 sv.ownBlock) (hg2 : (((w1.setCell ⟨w.heap.size, 0, none⟩ u1).alloc ol).alloc o2).grownBy w2 nv.ownBlock) (u : Value) (o3 : Obj) : ((w2.setCell ⟨w.heap.size, 2, none⟩ u).alloc o3).ownsRow (w.heap.size + 1) 3 1 bv j (ivals g.sets) := by
  have ne3 : 23 ≠ 3 := by decide
  have hs := ((owns_low (h.sets1 hg1) (p := ⟨w.heap.size, 0, none⟩) (Nat.lt_succ_self _) u1).alloc ol).alloc o2
  exact (owns_low (hs.kept hg2 (owns_apart ne3.symm hs (h.next1 hg1 u1 ol o2))) (p := ⟨w.heap.size, 2, none⟩) (Nat.lt_succ_self _) u).alloc o3
theorem RgAt.step {w wy w1 w2 w3 : World} {k m j : Nat} {sv nv bv sv' nv' : Value} {us : List Value} {g : Gr} {o1 o2 o3 : Obj} {gb cb : Nat} {r : Nat} (h : RgAt w wy k m j sv nv bv us g) (hr : r = (j + 1) % k)
    (hg1 : (wy.alloc o1).grownBy w1 sv.ownBlock) (ho1 : w1.ownsRow (w.heap.size + 1) 36 2 sv' (j + 1) (flat g.spots ++ [.int .i64 (j : Int), .int .i64 0]))
    (hg2 : (((w1.setCell ⟨w.heap.size, 0, none⟩ sv').alloc (.cells #[.int .i64 (r : Int)] 3)).alloc o2).grownBy w2 nv.ownBlock) (ho2 : w2.ownsRow (w.heap.size + 1) 23 1 nv' (j + 1) (us ++ [.slice (some ⟨w1.heap.size, 0, none⟩) 1 1]))
    (hg3 : ((w2.setCell ⟨w.heap.size, 2, none⟩ nv').alloc o3).grownBy w3 bv.ownBlock) (ho3 : w3.ownsRow (w.heap.size + 1) 3 1 (.slice (some ⟨gb, 0, none⟩) (j + 1) cb) (j + 1) (ivals g.sets ++ [.int .i64 (rset k m j : Int)])) (hor : bv.ownBlock = some gb ∨ gb = ((w2.setCell ⟨w.heap.size, 2, none⟩ nv').alloc o3).heap.size) :
    RgGr w (w3.setCell ⟨w.heap.size, 3, none⟩ (.slice (some ⟨gb, 0, none⟩) (j + 1) cb)) k m (j + 1) := by
  subst hr
  have l1 := h.low.grow hg1 (owns_from h.rows.spots)
  have hlo := (((((l1.set0 sv').alloc (.cells #[.int .i64 (((j + 1) % k : Nat) : Int)] 3)).grow hg2 (owns_from h.rows.next)).set2 nv').grow hg3 (owns_from h.rows.sets)).set3 (.slice (some ⟨gb, 0, none⟩) (j + 1) cb)
  have hlit : ((w1.setCell ⟨w.heap.size, 0, none⟩ sv').alloc (.cells #[.int .i64 (((j + 1) % k : Nat) : Int)] 3)).ownsRow (w.heap.size + 1) 3 1 (.slice (some ⟨w1.heap.size, 0, none⟩) 1 1) 1 [.int .i64 (((j + 1) % k : Nat) : Int)] := by
    have := World.ownsRow_lit (base := w.heap.size + 1) (e := 3) (size := 1) (w1.setCell ⟨w.heap.size, 0, none⟩ sv') #[.int .i64 (((j + 1) % k : Nat) : Int)] 1 (by simpa using l1.size) (by decide) rfl
    simpa using this
  have hr := h.rows.step2 (x := (j : Int)) (y := (rset k m j : Int)) (l := [(((j + 1) % k : Nat) : Int)]) rfl hg1 ho1 (p0 := ⟨w.heap.size, 0, none⟩) (Nat.lt_succ_self _) rfl hlit (.inr fun e => by
    have hb := h.sets1 hg1
    have := (hb.lt w1.heap.size e.symm).2
    omega) rfl hg2 ho2 (p2 := ⟨w.heap.size, 2, none⟩) (Nat.lt_succ_self _) rfl hg3 ho3 hor
  exact ⟨_, _, _, _, _, hlo.c0, hlo.c1, hlo.c2, hlo.c3, hlo.c4, hlo.f0, hlo.f2, hlo.f3, hr.low (p := ⟨w.heap.size, 3, none⟩) (Nat.lt_succ_self _) _, h.rg.snoc h.rows.kn h.rows.kb, hlo.below, hlo.size⟩
theorem krows_fair {w : World} {base : Nat} {so no bo : Option Addr} {sc nc bc k m : Nat} {us : List Value} {g : Gr} (h : KRows w base (.slice so k sc) (.slice no k nc) (.slice bo k bc) us g k) (hok : GOk g) (hi : g.init = 1) (hm : g.many = (m : Int)) (hr : ∀ i, i < k → (g.next.getD i []).length ≤ 1) :
    Calls Try.prog 5 #[.agg #[.slice so k sc, .int .i64 1, .slice no k nc, .slice bo k bc, .int .i64 (m : Int)]] w fun e w' => e = .returned (.tuple #[.int .i64 (fairV g), .int .i64 (fairC g)]) ∧ Below w.heap.size w w' := by
  have h1 := h.ks
  have h2 := h.kn
  have h3 := h.kb
  have h4 := hok.head.n
  have hh := sfair_ok so no bo sc nc bc g w ⟨by omega, by omega, by omega, fun i hi => by have := hr i (by omega); omega⟩ (by rw [h1, h2, h3]; exact h.v) (gcode_ok hok.head hok.row)
  rw [h1, h2, h3, hi, hm] at hh
  exact hh
theorem RgAt.rgd {w wr : World} {k m : Nat} {sv nv bv : Value} {us : List Value} {g : Gr} (h : RgAt w wr k m k sv nv bv us g) (h1 : 1 ≤ k) (h2 : k ≤ 10) (h3 : m ≤ 3) : Rgd k m g := ⟨h.rg, h.rows.ks, h.rows.kn, h.rows.kb, h1, h2, h3⟩
theorem RgAt.fair {w wr : World} {so no bo : Option Addr} {sc nc bc k m : Nat} {us : List Value} {g : Gr} (h : RgAt w wr k m k (.slice so k sc) (.slice no k nc) (.slice bo k bc) us g) (h1 : 1 ≤ k) (h2 : k ≤ 10) (h3 : m ≤ 3) :
    Calls Try.prog 5 #[.agg #[.slice so k sc, .int .i64 1, .slice no k nc, .slice bo k bc, .int .i64 (m : Int)]] wr fun e w' => e = .returned (.tuple #[.int .i64 0, .int .i64 0]) ∧ Below wr.heap.size wr w' := by
  have hd := h.rgd h1 h2 h3
  have hh := krows_fair h.rows hd.ok h.rg.init h.rg.many (fun i hi => by rw [h.rg.next i hi]; simp)
  rw [hd.fair.1, hd.fair.2] at hh
  exact hh
theorem RgAt.torn {w wr w4 : World} {so bo : Option Addr} {sc nc bc k m nb q : Nat} {us : List Value} {g : Gr} (h : RgAt w wr k m k (.slice so k sc) (.slice (some ⟨nb, 0, none⟩) k nc) (.slice bo k bc) us g) (h1 : 1 ≤ k) (h2 : k ≤ 10) (h3 : m ≤ 3) (hq : q + 1 = k) (hb : Below wr.heap.size wr w4) :
    Calls Try.prog 5 #[.agg #[.slice so k sc, .int .i64 1, .slice (some ⟨nb, 0, none⟩) k nc, .slice bo k bc, .int .i64 (m : Int)]] (w4.setCell ⟨nb, q, none⟩ (.slice none 0 0)) fun e w' => e = .returned (.tuple #[.int .i64 0, .int .i64 11]) ∧ Below (w4.setCell ⟨nb, q, none⟩ (.slice none 0 0)).heap.size (w4.setCell ⟨nb, q, none⟩ (.slice none 0 0)) w' := by
  have hd := h.rgd h1 h2 h3
  have ht := hd.torn
  rw [show k - 1 = q by omega] at ht
  have hr := (h.rows.later hb).put (i := q) (l := []) (by omega) (World.ownsRow_nil _ _ _ _) (.inl rfl)
  have hh := krows_fair hr ht.1 h.rg.init h.rg.many (fun i hi => by
    show ((g.next.set q []).getD i []).length ≤ 1
    by_cases e : i = q
    · subst e; simp [List.getD_eq_getElem?_getD, h.rows.kn, hi]
    · have e' : ¬ q = i := fun x => e x.symm
      rw [show (g.next.set q []).getD i [] = g.next.getD i [] by simp [List.getD_eq_getElem?_getD, e'], h.rg.next i hi]; simp)
  rw [ht.2.1, ht.2.2] at hh
  exact hh
end Go.Proofs.Ytdmclgbmdhhdiaa
