/-
  The laws' own copy of a graph.
-/
import Derived.Test.YtknneajaklcjdaaGOpen
namespace Go.Proofs.Ytknneajaklcjdaa
open Go.ChangeShapes Go.WideShapes Go.ChangeAt Go.RowKit Go.Deep
open Terms

set_option maxRecDepth 20000 in
theorem infoSpot : (Try.prog.info? 60).map (fun i => (i.zero, i.size, i.bytes)) = some (some (.agg #[.int .i64 0, .int .i64 0]), 2, 16) := by kernel_rfl
/-- a row that the call owns holds spots. -/
theorem opsV_of_spots {w : World} {base : Nat} {v : Value} {l : List (Int × Int)} (h : w.ownsRow base 60 2 v l.length (flat l)) : OpsV w v l := by
  rcases h.2 with ⟨rfl, h0⟩ | ⟨g, cap, cur, rfl, hb, hg, hnc, hcm, hcs, htake⟩
  · have : l = [] := by simpa using h0
    subst this
    exact ⟨none, 0, rfl, ⟨by simp, fun _ => ⟨rfl, rfl⟩⟩, fun h => absurd rfl h⟩
  · refine ⟨_, cap, rfl, ⟨hnc, fun h => by simp at h⟩, fun _ => ⟨g, 0, rfl, ?_, fun i hi => ?_⟩⟩
    · exact (Array.getElem?_eq_some_iff.1 hg).1
    · obtain ⟨f0, f1⟩ := flat_get l i hi
      rw [h.cellAt _ (by omega), h.cellAt _ (by omega)]
      simpa using ⟨f0, f1⟩

/-- the box of the argument, and the cell of the result behind it. -/
structure GBox (w : World) (s : Nat) (v0 v1 v2 v3 v4 : Value) : Prop where
  c0 : w.cell? ⟨s, 0, none⟩ = some v0
  c1 : w.cell? ⟨s, 1, none⟩ = some v1
  c2 : w.cell? ⟨s, 2, none⟩ = some v2
  c3 : w.cell? ⟨s, 3, none⟩ = some v3
  c4 : w.cell? ⟨s, 4, none⟩ = some v4
  f0 : w.frozen? ⟨s, 0, none⟩ = false
  f2 : w.frozen? ⟨s, 2, none⟩ = false
  f3 : w.frozen? ⟨s, 3, none⟩ = false
  r0 : w.cell? ⟨s + 1, 0, none⟩ = some (.slice none 0 0)
  r1 : w.cell? ⟨s + 1, 1, none⟩ = some (.int .i64 0)
  r2 : w.cell? ⟨s + 1, 2, none⟩ = some (.slice none 0 0)
  r3 : w.cell? ⟨s + 1, 3, none⟩ = some (.slice none 0 0)
  r4 : w.cell? ⟨s + 1, 4, none⟩ = some (.int .i64 0)
  z0 : w.frozen? ⟨s + 1, 0, none⟩ = false
  z1 : w.frozen? ⟨s + 1, 1, none⟩ = false
  z2 : w.frozen? ⟨s + 1, 2, none⟩ = false
  z3 : w.frozen? ⟨s + 1, 3, none⟩ = false
  z4 : w.frozen? ⟨s + 1, 4, none⟩ = false
theorem GBox.below {w w' : World} {s B : Nat} {v0 v1 v2 v3 v4 : Value} (h : GBox w s v0 v1 v2 v3 v4) (hb : Below B w w') (hB : s + 1 < B) : GBox w' s v0 v1 v2 v3 v4 := by
  have c : ∀ j, w'.cell? ⟨s, j, none⟩ = w.cell? ⟨s, j, none⟩ := fun j => hb.cell (p := ⟨s, j, none⟩) (by show s < B; omega)
  have d : ∀ j, w'.cell? ⟨s + 1, j, none⟩ = w.cell? ⟨s + 1, j, none⟩ := fun j => hb.cell (p := ⟨s + 1, j, none⟩) hB
  have f : ∀ j, w'.frozen? ⟨s, j, none⟩ = w.frozen? ⟨s, j, none⟩ := fun j => hb.frozen (p := ⟨s, j, none⟩) (by show s < B; omega)
  have z : ∀ j, w'.frozen? ⟨s + 1, j, none⟩ = w.frozen? ⟨s + 1, j, none⟩ := fun j => hb.frozen (p := ⟨s + 1, j, none⟩) hB
  exact ⟨(c 0).trans h.c0, (c 1).trans h.c1, (c 2).trans h.c2, (c 3).trans h.c3, (c 4).trans h.c4, (f 0).trans h.f0, (f 2).trans h.f2, (f 3).trans h.f3, (d 0).trans h.r0, (d 1).trans h.r1, (d 2).trans h.r2, (d 3).trans h.r3, (d 4).trans h.r4, (z 0).trans h.z0, (z 1).trans h.z1, (z 2).trans h.z2, (z 3).trans h.z3, (z 4).trans h.z4⟩
theorem GBox.set0 {w : World} {s : Nat} {v0 v1 v2 v3 v4 : Value} (h : GBox w s v0 v1 v2 v3 v4) (u : Value) : GBox (w.setCell ⟨s, 0, none⟩ u) s u v1 v2 v3 v4 := by
  constructor <;> simp [go_sem, h.c0, h.c1, h.c2, h.c3, h.c4, h.f0, h.f2, h.f3, h.r0, h.r1, h.r2, h.r3, h.r4, h.z0, h.z1, h.z2, h.z3, h.z4]
theorem GBox.set2 {w : World} {s : Nat} {v0 v1 v2 v3 v4 : Value} (h : GBox w s v0 v1 v2 v3 v4) (u : Value) : GBox (w.setCell ⟨s, 2, none⟩ u) s v0 v1 u v3 v4 := by
  constructor <;> simp [go_sem, h.c0, h.c1, h.c2, h.c3, h.c4, h.f0, h.f2, h.f3, h.r0, h.r1, h.r2, h.r3, h.r4, h.z0, h.z1, h.z2, h.z3, h.z4]
theorem GBox.set3 {w : World} {s : Nat} {v0 v1 v2 v3 v4 : Value} (h : GBox w s v0 v1 v2 v3 v4) (u : Value) : GBox (w.setCell ⟨s, 3, none⟩ u) s v0 v1 v2 u v4 := by
  constructor <;> simp [go_sem, h.c0, h.c1, h.c2, h.c3, h.c4, h.f0, h.f2, h.f3, h.r0, h.r1, h.r2, h.r3, h.r4, h.z0, h.z1, h.z2, h.z3, h.z4]
/-- THE CONTRACT OF graphs: a copy. -/
def GOwn (w : World) (base : Nat) (sv nv bv : Value) (g : Gr) : Prop := w.ownsRow base 60 2 sv g.spots.length (flat g.spots) ∧ ListsOwn w base nv g.next ∧ w.ownsRow base 3 1 bv g.sets.length (ivals g.sets)
theorem GOwn.v {w : World} {base : Nat} {sv nv bv : Value} {g : Gr} (h : GOwn w base sv nv bv g) : GraphV w sv nv bv g := ⟨opsV_of_spots h.1, h.2.1.listsV, intsV_of_owns h.2.2⟩


/-- the world behind the last stores. -/
theorem tower_below {w w3 : World} (hb : Below w.heap.size w w3) (v0 v1 v2 v3 v4 : Value) : Below w.heap.size w ((((((w3.setCell ⟨w.heap.size, 3, none⟩ v3).setCell ⟨w.heap.size + 1, 0, none⟩ v0).setCell ⟨w.heap.size + 1, 1, none⟩ v1).setCell ⟨w.heap.size + 1, 2, none⟩ v2).setCell ⟨w.heap.size + 1, 3, none⟩ v3).setCell ⟨w.heap.size + 1, 4, none⟩ v4) :=
  (((((hb.setCell (by simp) _).setCell (by simp) _).setCell (by simp) _).setCell (by simp) _).setCell (by simp) _).setCell (by simp) _
theorem tower_owns {w3 : World} {s : Nat} {e : TypeId} {k n : Nat} {v : Value} {xs : List Value} (h : w3.ownsRow (s + 2) e k v n xs) (v0 v1 v2 v3 v4 : Value) : ((((((w3.setCell ⟨s, 3, none⟩ v3).setCell ⟨s + 1, 0, none⟩ v0).setCell ⟨s + 1, 1, none⟩ v1).setCell ⟨s + 1, 2, none⟩ v2).setCell ⟨s + 1, 3, none⟩ v3).setCell ⟨s + 1, 4, none⟩ v4).ownsRow (s + 2) e k v n xs :=
  owns_low (owns_low (owns_low (owns_low (owns_low (owns_low h (p := ⟨s, 3, none⟩) (by show s < _; omega) _) (p := ⟨s + 1, 0, none⟩) (by show s + 1 < _; omega) _) (p := ⟨s + 1, 1, none⟩) (by show s + 1 < _; omega) _) (p := ⟨s + 1, 2, none⟩) (by show s + 1 < _; omega) _) (p := ⟨s + 1, 3, none⟩) (by show s + 1 < _; omega) _) (p := ⟨s + 1, 4, none⟩) (by show s + 1 < _; omega) _
theorem tower_lists {w3 : World} {s : Nat} {v : Value} {ls : List (List Int)} (h : ListsOwn w3 (s + 2) v ls) (v0 v1 v2 v3 v4 : Value) : ListsOwn ((((((w3.setCell ⟨s, 3, none⟩ v3).setCell ⟨s + 1, 0, none⟩ v0).setCell ⟨s + 1, 1, none⟩ v1).setCell ⟨s + 1, 2, none⟩ v2).setCell ⟨s + 1, 3, none⟩ v3).setCell ⟨s + 1, 4, none⟩ v4) (s + 2) v ls := by
  obtain ⟨us, h1, h2⟩ := h
  exact ⟨us, tower_owns h1 v0 v1 v2 v3 v4, fun j hj => tower_owns (h2 j hj) v0 v1 v2 v3 v4⟩
theorem tower_cells {w3 : World} {s : Nat} {u0 u1 u2 u3 u4 : Value} (h : GBox w3 s u0 u1 u2 u3 u4) (v0 v1 v2 v3 v4 : Value) : ((((((w3.setCell ⟨s, 3, none⟩ v3).setCell ⟨s + 1, 0, none⟩ v0).setCell ⟨s + 1, 1, none⟩ v1).setCell ⟨s + 1, 2, none⟩ v2).setCell ⟨s + 1, 3, none⟩ v3).setCell ⟨s + 1, 4, none⟩ v4).cell? ⟨s + 1, 0, none⟩ = some v0 ∧ ((((((w3.setCell ⟨s, 3, none⟩ v3).setCell ⟨s + 1, 0, none⟩ v0).setCell ⟨s + 1, 1, none⟩ v1).setCell ⟨s + 1, 2, none⟩ v2).setCell ⟨s + 1, 3, none⟩ v3).setCell ⟨s + 1, 4, none⟩ v4).cell? ⟨s + 1, 1, none⟩ = some v1 ∧ ((((((w3.setCell ⟨s, 3, none⟩ v3).setCell ⟨s + 1, 0, none⟩ v0).setCell ⟨s + 1, 1, none⟩ v1).setCell ⟨s + 1, 2, none⟩ v2).setCell ⟨s + 1, 3, none⟩ v3).setCell ⟨s + 1, 4, none⟩ v4).cell? ⟨s + 1, 2, none⟩ = some v2 ∧ ((((((w3.setCell ⟨s, 3, none⟩ v3).setCell ⟨s + 1, 0, none⟩ v0).setCell ⟨s + 1, 1, none⟩ v1).setCell ⟨s + 1, 2, none⟩ v2).setCell ⟨s + 1, 3, none⟩ v3).setCell ⟨s + 1, 4, none⟩ v4).cell? ⟨s + 1, 3, none⟩ = some v3 ∧ ((((((w3.setCell ⟨s, 3, none⟩ v3).setCell ⟨s + 1, 0, none⟩ v0).setCell ⟨s + 1, 1, none⟩ v1).setCell ⟨s + 1, 2, none⟩ v2).setCell ⟨s + 1, 3, none⟩ v3).setCell ⟨s + 1, 4, none⟩ v4).cell? ⟨s + 1, 4, none⟩ = some v4 := by
  refine ⟨?_, ?_, ?_, ?_, ?_⟩ <;> simp [go_sem, h.r0, h.r1, h.r2, h.r3, h.r4]

set_option maxHeartbeats 3200000 in
set_option maxRecDepth 20000 in
theorem graphs_any (so no bo : Option Addr) (sc nc bc : Nat) (g : Gr) (w : World) (hz : GrSz g)
    (hV : GraphW w (.slice so g.spots.length sc) (.slice no g.next.length nc) (.slice bo g.sets.length bc) g) :
    Calls Try.prog 6 #[.agg #[.slice so g.spots.length sc, .int .i64 g.init, .slice no g.next.length nc, .slice bo g.sets.length bc, .int .i64 g.many]] w fun e w' => ∃ so' sc' no' nc' bo' bc', e = .returned (.agg #[.slice so' g.spots.length sc', .int .i64 g.init, .slice no' g.next.length nc', .slice bo' g.sets.length bc', .int .i64 g.many]) ∧ Below w.heap.size w w' ∧ Hid (GOwn w' w.heap.size (.slice so' g.spots.length sc') (.slice no' g.next.length nc') (.slice bo' g.sets.length bc') g) := by
  obtain ⟨W0, hW0⟩ : ∃ W0, W0 = ((w.alloc (.cells #[.slice so g.spots.length sc, .int .i64 g.init, .slice no g.next.length nc, .slice bo g.sets.length bc, .int .i64 g.many] 26)).alloc (.cells #[.slice none 0 0, .int .i64 0, .slice none 0 0, .slice none 0 0, .int .i64 0] 26)) := ⟨_, rfl⟩
  have hA : Below w.heap.size w W0 := by rw [hW0]; exact ((Below.refl _ _).alloc (Nat.le_refl _) _).alloc (by simp) _
  have hsz0 : W0.heap.size = w.heap.size + 2 := by rw [hW0]; simp
  have HBx : Hid (GBox W0 w.heap.size (.slice so g.spots.length sc) (.int .i64 g.init) (.slice no g.next.length nc) (.slice bo g.sets.length bc) (.int .i64 g.many)) := by
    show GBox _ _ _ _ _ _ _
    rw [hW0]
    constructor <;> simp [go_sem]
  have HLi : Hid (∀ w1, Below w.heap.size w w1 → w.heap.size + 2 ≤ w1.heap.size → Calls Try.prog 15 #[.slice no g.next.length nc] w1 fun e w' => ∃ xo xc, e = .returned (.slice xo g.next.length xc) ∧ Below w1.heap.size w1 w' ∧ ListsOwn w' (w.heap.size + 2) (.slice xo g.next.length xc) g.next) := fun w1 hb hs => by
    refine (lists_any _ g.next w1 hz.next.1 hz.next.2 (hV.next.below hb)).mono fun e w' ⟨v', h1, h2, h3⟩ => ?_
    obtain ⟨xo, xc, rfl⟩ := h3.listsV.shape
    exact ⟨xo, xc, h1, h2, h3.mono hs⟩
  have HIn : Hid (∀ w1, Below w.heap.size w w1 → w.heap.size + 2 ≤ w1.heap.size → Calls Try.prog 16 #[.slice bo g.sets.length bc] w1 fun e w' => ∃ xo xc, e = .returned (.slice xo g.sets.length xc) ∧ Below w1.heap.size w1 w' ∧ w'.ownsRow (w.heap.size + 2) 3 1 (.slice xo g.sets.length xc) g.sets.length (ivals g.sets)) := fun w1 hb hs => by
    refine (ints_any _ g.sets w1 hz.sets (hV.sets.below hb)).mono fun e w' ⟨v', h1, h2, h3⟩ => ?_
    obtain ⟨xo, xc, rfl⟩ := owns_slice h3
    exact ⟨xo, xc, h1, h2, owns_mono h3 hs⟩
  have hspots := hV.spots
  have hzs := hz.spots
  obtain ⟨spots, hsp⟩ : ∃ spots, spots = g.spots := ⟨_, rfl⟩
  have HSp : Hid (spots = g.spots) := hsp
  rw [← hsp] at hspots hzs hW0 HBx ⊢
  obtain ⟨gi, hgi⟩ : ∃ gi, gi = g.init := ⟨_, rfl⟩
  rw [← hgi] at hW0 HBx ⊢
  obtain ⟨gm, hgm⟩ : ∃ gm, gm = g.many := ⟨_, rfl⟩
  rw [← hgm] at hW0 HBx ⊢
  obtain ⟨nn, hnn⟩ : ∃ nn, nn = g.next.length := ⟨_, rfl⟩
  have HNN : Hid (nn = g.next.length) := hnn
  rw [← hnn] at hW0 HBx HLi ⊢
  obtain ⟨bn, hbn⟩ : ∃ bn, bn = g.sets.length := ⟨_, rfl⟩
  have HBN : Hid (bn = g.sets.length) := hbn
  rw [← hbn] at hW0 HBx HIn ⊢
  clear hV hz hgi hgm hsp hnn hbn
  obtain ⟨ao, cap, hsl, h0, h⟩ := hspots
  injection hsl with e1 e2 e3
  subst e1 e3
  obtain ⟨i0, hi, hz0, hz1, hz2⟩ := info_parts infoSpot
  obtain ⟨sn, hsn⟩ : ∃ sn, sn = spots.length := ⟨_, rfl⟩
  have HSN : Hid (sn = spots.length) := hsn
  have hW0' := hW0
  obtain ⟨b0, b1, b2, b3, b4, f0, f2, f3, r0, r1, r2, r3, r4, z0, z1, z2, z3, z4⟩ := HBx.out
  have hnotin : True := trivial
  by_cases hne : spots = []
  · obtain rfl : sn = 0 := by rw [hsn, hne]; rfl
    have HOw : Hid (∀ w1 : World, w1.ownsRow (w.heap.size + 2) 60 2 (.slice none 0 0) 0 (flat spots)) := fun w1 => by rw [hne]; exact World.ownsRow_nil _ _ _ _
    rw [← hsn] at hzs HBx hW0 b0 ⊢
    obtain ⟨W1, hW1⟩ : ∃ W1, W1 = ((w.alloc (.cells #[.slice none 0 0, .int .i64 gi, .slice no nn nc, .slice bo bn bc, .int .i64 gm] 26)).alloc (.cells #[.slice none 0 0, .int .i64 0, .slice none 0 0, .slice none 0 0, .int .i64 0] 26)) := ⟨_, rfl⟩
    have hbw1 : Below w.heap.size w W1 := by rw [hW1]; exact ((Below.refl _ _).alloc (Nat.le_refl _) _).alloc (by simp) _
    have hs1 : w.heap.size + 2 ≤ W1.heap.size := by rw [hW1]; simp
    have hbx1 : GBox W1 w.heap.size (.slice none 0 0) (.int .i64 gi) (.slice no nn nc) (.slice bo bn bc) (.int .i64 gm) := by
      rw [hW1]
      constructor <;> simp [go_sem]
    have hlis := HLi.out W1 hbw1 hs1
    rw [hW1] at hlis
    clear h h0 hsn hne hnotin hsz0 hA hW0 hW0' HBx b0 b1 b2 b3 b4 f0 f2 f3 r0 r1 r2 r3 r4 z0 z1 z2 z3 z4
    have HW1 : Hid (W1 = ((w.alloc (.cells #[.slice none 0 0, .int .i64 gi, .slice no nn nc, .slice bo bn bc, .int .i64 gm] 26)).alloc (.cells #[.slice none 0 0, .int .i64 0, .slice none 0 0, .slice none 0 0, .int .i64 0] 26))) := hW1
    clear hW1
    rcases so with _ | ad
    all_goals
      go_enter Try.func6, Try.ntmps6
      go_wp2_with (first | (go_at_call 15; refine hlis.mono ?_; rintro e w2 ⟨xo, xc, rfl, hb2, hl2⟩; rw [← HW1.out] at hb2; obtain ⟨p0, p1, p2, p3, p4, p5, p6, p7, p8, p9, p10, p11, p12, p13, p14, p15, p16, p17⟩ := hbx1.below hb2 (by omega); have hbw2 := hbw1.trans (hb2.mono hbw1.size)) | (go_at_call 16; refine (HIn.out _ (hbw2.setCell (Nat.le_refl _) _) (by simpa using Nat.le_trans hs1 hb2.size)).mono ?_; rintro e w3 ⟨yo, yc, rfl, hb3, hl3⟩; obtain ⟨q0, q1, q2, q3, q4, q5, q6, q7, q8, q9, q10, q11, q12, q13, q14, q15, q16, q17⟩ := ((hbx1.below hb2 (by omega)).set2 (.slice xo nn xc)).below hb3 (by simp; have := hb2.size; omega)))
    all_goals
      obtain ⟨x0, x1, x2, x3, x4⟩ := tower_cells (((hbx1.below hb2 (by omega)).set2 (.slice xo nn xc)).below hb3 (by simp; have := hb2.size; omega)) (.slice none 0 0) (.int .i64 gi) (.slice xo nn xc) (.slice yo bn yc) (.int .i64 gm)
      have HOw3 : Hid (GOwn ((((((w3.setCell ⟨w.heap.size, 3, none⟩ (.slice yo bn yc)).setCell ⟨w.heap.size + 1, 0, none⟩ (.slice none 0 0)).setCell ⟨w.heap.size + 1, 1, none⟩ (.int .i64 gi)).setCell ⟨w.heap.size + 1, 2, none⟩ (.slice xo nn xc)).setCell ⟨w.heap.size + 1, 3, none⟩ (.slice yo bn yc)).setCell ⟨w.heap.size + 1, 4, none⟩ (.int .i64 gm)) w.heap.size (.slice none 0 0) (.slice xo nn xc) (.slice yo bn yc) g) :=
        ⟨owns_mono (tower_owns (by rw [← HSp.out, ← HSN.out]; exact HOw.out _) _ _ _ _ _) (by omega), (tower_lists ((hl2.low (p := ⟨w.heap.size, 2, none⟩) (by show w.heap.size < _; omega) (.slice xo nn xc)).later hb3 (Nat.le_refl _)) _ _ _ _ _).mono (by omega), owns_mono (tower_owns (by rw [← HBN.out]; exact hl3) _ _ _ _ _) (by omega)⟩
      have HBe3 : Hid (Below w.heap.size w ((((((w3.setCell ⟨w.heap.size, 3, none⟩ (.slice yo bn yc)).setCell ⟨w.heap.size + 1, 0, none⟩ (.slice none 0 0)).setCell ⟨w.heap.size + 1, 1, none⟩ (.int .i64 gi)).setCell ⟨w.heap.size + 1, 2, none⟩ (.slice xo nn xc)).setCell ⟨w.heap.size + 1, 3, none⟩ (.slice yo bn yc)).setCell ⟨w.heap.size + 1, 4, none⟩ (.int .i64 gm))) := tower_below (Below.trans (hbw2.setCell (Nat.le_refl _) _) (hb3.mono (by simpa using hbw2.size))) _ _ _ _ _
      refine bodyPost_ret (v := .agg #[(.slice none 0 0), .int .i64 gi, .slice xo nn xc, .slice yo bn yc, .int .i64 gm]) ?_ rfl ⟨_, _, _, _, _, _, rfl, HBe3.out, HOw3⟩
      simp only [results, Try.results6]
      simp [go_sem, x0, x1, x2, x3, x4]
  · have hpos : 0 < sn := by
      rw [hsn]
      exact List.length_pos_iff.2 hne
    obtain ⟨ab, aoff, hso, halt, hat⟩ := h hne
    subst hso
    have hcells : ∀ j u, (flat spots)[j]? = some u → W0.cell? ((⟨ab, aoff, none⟩ : Addr).add j) = some u := (hat.below hA halt).cells
    have HFl : (flat spots).length = sn * 2 := by rw [hsn]; exact flat_length spots
    rw [← hsn] at hzs HBx hW0 b0 ⊢
    have h63 : 0 + sn ≤ maxLen := by unfold maxLen; omega
    have hbx0 := HBx.out
    have hone := flat_one spots
    obtain ⟨fl, hfl⟩ : ∃ fl, fl = flat spots := ⟨_, rfl⟩
    have HFq : Hid (fl = flat spots) := hfl
    rw [← hfl] at hcells HFl hone
    clear hfl
    clear h h0 hsn hne hnotin hW0' HBx b0 b1 b2 b3 b4 f0 f2 f3 r0 r1 r2 r3 r4 z0 z1 z2 z3 z4 hat halt
    have HW0 : Hid (W0 = ((w.alloc (.cells #[.slice (some ⟨ab, aoff, none⟩) sn sc, .int .i64 gi, .slice no nn nc, .slice bo bn bc, .int .i64 gm] 26)).alloc (.cells #[.slice none 0 0, .int .i64 0, .slice none 0 0, .slice none 0 0, .int .i64 0] 26))) := hW0
    rw [hW0] at hcells
    have hbase : w.heap.size + 2 ≤ ((w.alloc (.cells #[.slice (some ⟨ab, aoff, none⟩) sn sc, .int .i64 gi, .slice no nn nc, .slice bo bn bc, .int .i64 gm] 26)).alloc (.cells #[.slice none 0 0, .int .i64 0, .slice none 0 0, .slice none 0 0, .int .i64 0] 26)).heap.size := by simp
    have hs16 : (0 + sn) * 16 ≤ 140737488355328 := by omega
    clear hW0
    go_enter Try.func6, Try.ntmps6
    go_wp2_with (first
      | (at_builtin; refine wpList_append_own _ rfl _ _ 22 rfl (w.heap.size + 2) 60 i0 (.agg #[.int .i64 0, .int .i64 0]) 2 16 Try.underlying22 hi hz0 hz1 hz2 rfl (by decide) (.slice none 0 0) 0 [] rfl (World.ownsRow_nil _ _ _ _) ⟨ab, aoff, none⟩ sn sc fl rfl HFl hcells hone h63 hs16 hbase ?_; intro v' w4 hown' hgrow _; rw [← HW0.out] at hgrow; have hg4 : Below W0.heap.size W0 w4 := ((Below.refl _ _).grown hgrow (Nat.le_refl _) (fun q hq => by simp [Value.ownBlock] at hq)); have hown4 : w4.ownsRow (w.heap.size + 2) 60 2 v' sn fl := (by simpa using hown'); obtain ⟨vo, vc, rfl⟩ := owns_slice hown4; have hbx4 := hbx0.below hg4 (by omega); have hbw4 := hA.trans (hg4.mono hA.size); have hs4 := hg4.size; obtain ⟨k0, k1, k2, k3, k4, k5, k6, k7, k8, k9, k10, k11, k12, k13, k14, k15, k16, k17⟩ := hbx4)
      | (go_at_call 15; refine (HLi.out _ (hbw4.setCell (Nat.le_refl _) _) (by simp; omega)).mono ?_; rintro e w2 ⟨xo, xc, rfl, hb2, hl2⟩; have hbw2 := (hbw4.setCell (p := ⟨w.heap.size, 0, none⟩) (Nat.le_refl _) (.slice vo sn vc)).trans (hb2.mono (by simpa using hbw4.size)); obtain ⟨p0, p1, p2, p3, p4, p5, p6, p7, p8, p9, p10, p11, p12, p13, p14, p15, p16, p17⟩ := ((hbx0.below hg4 (by omega)).set0 (.slice vo sn vc)).below hb2 (by simp; omega))
      | (go_at_call 16; refine (HIn.out _ (hbw2.setCell (Nat.le_refl _) _) (by have := hb2.size; simp at this ⊢; omega)).mono ?_; rintro e w3 ⟨yo, yc, rfl, hb3, hl3⟩; obtain ⟨q0, q1, q2, q3, q4, q5, q6, q7, q8, q9, q10, q11, q12, q13, q14, q15, q16, q17⟩ := ((((hbx0.below hg4 (by omega)).set0 (.slice vo sn vc)).below hb2 (by simp; omega)).set2 (.slice xo nn xc)).below hb3 (by have := hb2.size; simp at this ⊢; omega)))
    obtain ⟨x0, x1, x2, x3, x4⟩ := tower_cells (((((hbx0.below hg4 (by omega)).set0 (.slice vo sn vc)).below hb2 (by simp; omega)).set2 (.slice xo nn xc)).below hb3 (by have := hb2.size; simp at this ⊢; omega)) (.slice vo sn vc) (.int .i64 gi) (.slice xo nn xc) (.slice yo bn yc) (.int .i64 gm)
    have HOw3 : Hid (GOwn ((((((w3.setCell ⟨w.heap.size, 3, none⟩ (.slice yo bn yc)).setCell ⟨w.heap.size + 1, 0, none⟩ (.slice vo sn vc)).setCell ⟨w.heap.size + 1, 1, none⟩ (.int .i64 gi)).setCell ⟨w.heap.size + 1, 2, none⟩ (.slice xo nn xc)).setCell ⟨w.heap.size + 1, 3, none⟩ (.slice yo bn yc)).setCell ⟨w.heap.size + 1, 4, none⟩ (.int .i64 gm)) w.heap.size (.slice vo sn vc) (.slice xo nn xc) (.slice yo bn yc) g) :=
      ⟨owns_mono (tower_owns (by rw [← HSp.out, ← HSN.out]; exact (by rw [← HFq.out]; exact owns_later (owns_low (owns_later (owns_low hown4 (p := ⟨w.heap.size, 0, none⟩) (by show w.heap.size < _; omega) (.slice vo sn vc)) hb2 (Nat.le_refl _)) (p := ⟨w.heap.size, 2, none⟩) (by show w.heap.size < _; omega) (.slice xo nn xc)) hb3 (Nat.le_refl _))) _ _ _ _ _) (by omega), (tower_lists ((hl2.low (p := ⟨w.heap.size, 2, none⟩) (by show w.heap.size < _; omega) (.slice xo nn xc)).later hb3 (Nat.le_refl _)) _ _ _ _ _).mono (by omega), owns_mono (tower_owns (by rw [← HBN.out]; exact hl3) _ _ _ _ _) (by omega)⟩
    have HBe3 : Hid (Below w.heap.size w ((((((w3.setCell ⟨w.heap.size, 3, none⟩ (.slice yo bn yc)).setCell ⟨w.heap.size + 1, 0, none⟩ (.slice vo sn vc)).setCell ⟨w.heap.size + 1, 1, none⟩ (.int .i64 gi)).setCell ⟨w.heap.size + 1, 2, none⟩ (.slice xo nn xc)).setCell ⟨w.heap.size + 1, 3, none⟩ (.slice yo bn yc)).setCell ⟨w.heap.size + 1, 4, none⟩ (.int .i64 gm))) := tower_below (Below.trans (hbw2.setCell (Nat.le_refl _) _) (hb3.mono (by simpa using hbw2.size))) _ _ _ _ _
    refine bodyPost_ret (v := .agg #[(.slice vo sn vc), .int .i64 gi, .slice xo nn xc, .slice yo bn yc, .int .i64 gm]) ?_ rfl ⟨_, _, _, _, _, _, rfl, HBe3.out, HOw3⟩
    simp only [results, Try.results6]
    simp [go_sem, x0, x1, x2, x3, x4]
end Go.Proofs.Ytknneajaklcjdaa
