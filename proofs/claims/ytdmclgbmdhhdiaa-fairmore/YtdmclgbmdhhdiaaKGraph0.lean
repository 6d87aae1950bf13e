/-
  The keeping laws' own Graph: how it lies while it is made.
-/
import Derived.Test.YtdmclgbmdhhdiaaGCopy
import Derived.Test.YtdmclgbmdhhdiaaSCheck
import Derived.Test.YtdmclgbmdhhdiaaWOpen
import Derived.Deep.AppendLies
namespace Go.Proofs.Ytdmclgbmdhhdiaa
open Go.ChangeShapes Go.WideShapes Go.ChangeAt Go.RowKit Go.Deep
open Terms

/-- the graph under way, and the cell of the result ahead of it. -/
structure KBox (w : World) (s : Nat) (v0 v1 v2 v3 v4 : Value) : Prop where
  c0 : w.cell? ⟨s + 2, 0, none⟩ = some v0
  c1 : w.cell? ⟨s + 2, 1, none⟩ = some v1
  c2 : w.cell? ⟨s + 2, 2, none⟩ = some v2
  c3 : w.cell? ⟨s + 2, 3, none⟩ = some v3
  c4 : w.cell? ⟨s + 2, 4, none⟩ = some v4
  f0 : w.frozen? ⟨s + 2, 0, none⟩ = false
  f1 : w.frozen? ⟨s + 2, 1, none⟩ = false
  f2 : w.frozen? ⟨s + 2, 2, none⟩ = false
  f3 : w.frozen? ⟨s + 2, 3, none⟩ = false
  r0 : w.cell? ⟨s + 1, 0, none⟩ = some (.slice none 0 0)
  r1 : w.cell? ⟨s + 1, 1, none⟩ = some (.int .i64 0)
  r2 : w.cell? ⟨s + 1, 2, none⟩ = some (.slice none 0 0)
  r3 : w.cell? ⟨s + 1, 3, none⟩ = some (.slice none 0 0)
  r4 : w.cell? ⟨s + 1, 4, none⟩ = some (.int .i64 0)
  z0 : w.frozen? ⟨s + 1, 0, none⟩ = false
  z1 : w.frozen? ⟨s + 1, 1, none⟩ = false
  z2 : w.frozen? ⟨s + 1, 2, none⟩ = false
  z3 : w.frozen? ⟨s + 1, 3, none⟩ = false
  z4 : w.frozen? ⟨s + 1, 4, none⟩ = false
theorem KBox.below {w w' : World} {s B : Nat} {v0 v1 v2 v3 v4 : Value} (h : KBox w s v0 v1 v2 v3 v4) (hb : Below B w w') (hB : s + 2 < B) : KBox w' s v0 v1 v2 v3 v4 := by
  have c : ∀ j, w'.cell? ⟨s + 2, j, none⟩ = w.cell? ⟨s + 2, j, none⟩ := fun j => hb.cell (p := ⟨s + 2, j, none⟩) hB
  have d : ∀ j, w'.cell? ⟨s + 1, j, none⟩ = w.cell? ⟨s + 1, j, none⟩ := fun j => hb.cell (p := ⟨s + 1, j, none⟩) (by show s + 1 < B; omega)
  have f : ∀ j, w'.frozen? ⟨s + 2, j, none⟩ = w.frozen? ⟨s + 2, j, none⟩ := fun j => hb.frozen (p := ⟨s + 2, j, none⟩) hB
  have z : ∀ j, w'.frozen? ⟨s + 1, j, none⟩ = w.frozen? ⟨s + 1, j, none⟩ := fun j => hb.frozen (p := ⟨s + 1, j, none⟩) (by show s + 1 < B; omega)
  exact ⟨(c 0).trans h.c0, (c 1).trans h.c1, (c 2).trans h.c2, (c 3).trans h.c3, (c 4).trans h.c4, (f 0).trans h.f0, (f 1).trans h.f1, (f 2).trans h.f2, (f 3).trans h.f3, (d 0).trans h.r0, (d 1).trans h.r1, (d 2).trans h.r2, (d 3).trans h.r3, (d 4).trans h.r4, (z 0).trans h.z0, (z 1).trans h.z1, (z 2).trans h.z2, (z 3).trans h.z3, (z 4).trans h.z4⟩
theorem KBox.set0 {w : World} {s : Nat} {v0 v1 v2 v3 v4 : Value} (h : KBox w s v0 v1 v2 v3 v4) (u : Value) : KBox (w.setCell ⟨s + 2, 0, none⟩ u) s u v1 v2 v3 v4 := by
  constructor <;> simp [go_sem, h.c0, h.c1, h.c2, h.c3, h.c4, h.f0, h.f1, h.f2, h.f3, h.r0, h.r1, h.r2, h.r3, h.r4, h.z0, h.z1, h.z2, h.z3, h.z4]
theorem KBox.set2 {w : World} {s : Nat} {v0 v1 v2 v3 v4 : Value} (h : KBox w s v0 v1 v2 v3 v4) (u : Value) : KBox (w.setCell ⟨s + 2, 2, none⟩ u) s v0 v1 u v3 v4 := by
  constructor <;> simp [go_sem, h.c0, h.c1, h.c2, h.c3, h.c4, h.f0, h.f1, h.f2, h.f3, h.r0, h.r1, h.r2, h.r3, h.r4, h.z0, h.z1, h.z2, h.z3, h.z4]
theorem KBox.set3 {w : World} {s : Nat} {v0 v1 v2 v3 v4 : Value} (h : KBox w s v0 v1 v2 v3 v4) (u : Value) : KBox (w.setCell ⟨s + 2, 3, none⟩ u) s v0 v1 v2 u v4 := by
  constructor <;> simp [go_sem, h.c0, h.c1, h.c2, h.c3, h.c4, h.f0, h.f1, h.f2, h.f3, h.r0, h.r1, h.r2, h.r3, h.r4, h.z0, h.z1, h.z2, h.z3, h.z4]
theorem KBox.set1 {w : World} {s : Nat} {v0 v1 v2 v3 v4 : Value} (h : KBox w s v0 v1 v2 v3 v4) (u : Value) : KBox (w.setCell ⟨s + 2, 1, none⟩ u) s v0 u v2 v3 v4 := by
  constructor <;> simp [go_sem, h.c0, h.c1, h.c2, h.c3, h.c4, h.f0, h.f1, h.f2, h.f3, h.r0, h.r1, h.r2, h.r3, h.r4, h.z0, h.z1, h.z2, h.z3, h.z4]
theorem ktower_below {w w3 : World} (hb : Below w.heap.size w w3) (v0 v1 v2 v3 v4 : Value) : Below w.heap.size w (((((w3.setCell ⟨w.heap.size + 1, 0, none⟩ v0).setCell ⟨w.heap.size + 1, 1, none⟩ v1).setCell ⟨w.heap.size + 1, 2, none⟩ v2).setCell ⟨w.heap.size + 1, 3, none⟩ v3).setCell ⟨w.heap.size + 1, 4, none⟩ v4) :=
  ((((hb.setCell (by simp) _).setCell (by simp) _).setCell (by simp) _).setCell (by simp) _).setCell (by simp) _
theorem ktower_owns {w3 : World} {s : Nat} {e : TypeId} {k n : Nat} {v : Value} {xs : List Value} (h : w3.ownsRow (s + 3) e k v n xs) (v0 v1 v2 v3 v4 : Value) : (((((w3.setCell ⟨s + 1, 0, none⟩ v0).setCell ⟨s + 1, 1, none⟩ v1).setCell ⟨s + 1, 2, none⟩ v2).setCell ⟨s + 1, 3, none⟩ v3).setCell ⟨s + 1, 4, none⟩ v4).ownsRow (s + 3) e k v n xs :=
  owns_low (owns_low (owns_low (owns_low (owns_low h (p := ⟨s + 1, 0, none⟩) (by show s + 1 < _; omega) _) (p := ⟨s + 1, 1, none⟩) (by show s + 1 < _; omega) _) (p := ⟨s + 1, 2, none⟩) (by show s + 1 < _; omega) _) (p := ⟨s + 1, 3, none⟩) (by show s + 1 < _; omega) _) (p := ⟨s + 1, 4, none⟩) (by show s + 1 < _; omega) _
theorem ktower_cells {w3 : World} {s : Nat} {u0 u1 u2 u3 u4 : Value} (h : KBox w3 s u0 u1 u2 u3 u4) (v0 v1 v2 v3 v4 : Value) : (((((w3.setCell ⟨s + 1, 0, none⟩ v0).setCell ⟨s + 1, 1, none⟩ v1).setCell ⟨s + 1, 2, none⟩ v2).setCell ⟨s + 1, 3, none⟩ v3).setCell ⟨s + 1, 4, none⟩ v4).cell? ⟨s + 1, 0, none⟩ = some v0 ∧ (((((w3.setCell ⟨s + 1, 0, none⟩ v0).setCell ⟨s + 1, 1, none⟩ v1).setCell ⟨s + 1, 2, none⟩ v2).setCell ⟨s + 1, 3, none⟩ v3).setCell ⟨s + 1, 4, none⟩ v4).cell? ⟨s + 1, 1, none⟩ = some v1 ∧ (((((w3.setCell ⟨s + 1, 0, none⟩ v0).setCell ⟨s + 1, 1, none⟩ v1).setCell ⟨s + 1, 2, none⟩ v2).setCell ⟨s + 1, 3, none⟩ v3).setCell ⟨s + 1, 4, none⟩ v4).cell? ⟨s + 1, 2, none⟩ = some v2 ∧ (((((w3.setCell ⟨s + 1, 0, none⟩ v0).setCell ⟨s + 1, 1, none⟩ v1).setCell ⟨s + 1, 2, none⟩ v2).setCell ⟨s + 1, 3, none⟩ v3).setCell ⟨s + 1, 4, none⟩ v4).cell? ⟨s + 1, 3, none⟩ = some v3 ∧ (((((w3.setCell ⟨s + 1, 0, none⟩ v0).setCell ⟨s + 1, 1, none⟩ v1).setCell ⟨s + 1, 2, none⟩ v2).setCell ⟨s + 1, 3, none⟩ v3).setCell ⟨s + 1, 4, none⟩ v4).cell? ⟨s + 1, 4, none⟩ = some v4 := by
  refine ⟨?_, ?_, ?_, ?_, ?_⟩ <;> simp [go_sem, h.r0, h.r1, h.r2, h.r3, h.r4]

/-- the rows of a graph under way: spots, lists, sets; no list shares memory with the sets. -/
structure KRows (w : World) (base : Nat) (sv nv bv : Value) (us : List Value) (g : Gr) (k : Nat) : Prop where
  ks : g.spots.length = k
  kn : g.next.length = k
  kb : g.sets.length = k
  spots : w.ownsRow base 36 2 sv k (flat g.spots)
  next : w.ownsRow base 23 1 nv k us
  each : ∀ j, j < k → w.ownsRow base 3 1 (us.getD j nilV) (g.next.getD j []).length (ivals (g.next.getD j []))
  sets : w.ownsRow base 3 1 bv k (ivals g.sets)
  apart : ∀ j, j < k → (us.getD j nilV).ownBlock = none ∨ (us.getD j nilV).ownBlock ≠ bv.ownBlock
theorem KRows.later {w w' : World} {base : Nat} {sv nv bv : Value} {us : List Value} {g : Gr} {k : Nat} (h : KRows w base sv nv bv us g k) (hb : Below w.heap.size w w') : KRows w' base sv nv bv us g k :=
  ⟨h.ks, h.kn, h.kb, owns_later h.spots hb (Nat.le_refl _), owns_later h.next hb (Nat.le_refl _), fun j hj => owns_later (h.each j hj) hb (Nat.le_refl _), owns_later h.sets hb (Nat.le_refl _), h.apart⟩
theorem KRows.low {w : World} {base : Nat} {sv nv bv : Value} {us : List Value} {g : Gr} {k : Nat} (h : KRows w base sv nv bv us g k) {p : Addr} (hp : p.block < base) (u : Value) : KRows (w.setCell p u) base sv nv bv us g k :=
  ⟨h.ks, h.kn, h.kb, owns_low h.spots hp u, owns_low h.next hp u, fun j hj => owns_low (h.each j hj) hp u, owns_low h.sets hp u, h.apart⟩
theorem KRows.v {w : World} {base : Nat} {sv nv bv : Value} {us : List Value} {g : Gr} {k : Nat} (h : KRows w base sv nv bv us g k) : GraphV w sv nv bv g := by
  have hl : us.length = k := by simpa using h.next.1
  refine ⟨opsV_of_spots (by rw [h.ks]; exact h.spots), listsV_of_owns (us := us) (by rw [hl]; exact h.next) ⟨by rw [hl, h.kn], fun i hi => intsV_of_owns (h.each i (by rw [h.kn] at hi; exact hi))⟩, intsV_of_owns (by rw [h.kb]; exact h.sets)⟩
/-- one spot more: the spots grow, then the lists, then the sets. -/
theorem KRows.step {w wa w1 wb w2 wc w3 : World} {base : Nat} {sv nv bv sv' nv' lv : Value} {us : List Value} {g : Gr} {k gb cb : Nat} {x y : Int} {l : List Int} {p0 p2 : Addr} {o1 o2 o3 : Obj} (h : KRows w base sv nv bv us g k)
    (hl : w.ownsRow base 3 1 lv l.length (ivals l)) (hla : lv.ownBlock = none ∨ lv.ownBlock ≠ bv.ownBlock)
    (e1 : wa = w.alloc o1) (hg1 : wa.grownBy w1 sv.ownBlock) (ho1 : w1.ownsRow base 36 2 sv' (k + 1) (flat g.spots ++ [.int .i64 x, .int .i64 0])) (hp0 : p0.block < base)
    (e2 : wb = (w1.setCell p0 sv').alloc o2) (hg2 : wb.grownBy w2 nv.ownBlock) (ho2 : w2.ownsRow base 23 1 nv' (k + 1) (us ++ [lv])) (hp2 : p2.block < base)
    (e3 : wc = (w2.setCell p2 nv').alloc o3) (hg3 : wc.grownBy w3 bv.ownBlock) (ho3 : w3.ownsRow base 3 1 (.slice (some ⟨gb, 0, none⟩) (k + 1) cb) (k + 1) (ivals g.sets ++ [.int .i64 y])) (hor : bv.ownBlock = some gb ∨ gb = wc.heap.size) :
    KRows w3 base sv' nv' (.slice (some ⟨gb, 0, none⟩) (k + 1) cb) (us ++ [lv]) ⟨g.spots ++ [(x, 0)], g.init, g.next ++ [l], g.sets ++ [y], g.many⟩ (k + 1) := by
  subst e1 e2 e3
  have hul : us.length = k := by simpa using h.next.1
  have ne1 : 36 ≠ 23 := by decide
  have ne2 : 36 ≠ 3 := by decide
  have ne3 : 23 ≠ 3 := by decide
  -- behind the spots
  have n1 := (h.next.alloc o1).kept hg1 (owns_apart ne1.symm (h.next.alloc o1) (h.spots.alloc o1))
  have a1 : ∀ j, j < k → w1.ownsRow base 3 1 (us.getD j nilV) (g.next.getD j []).length (ivals (g.next.getD j [])) := fun j hj => ((h.each j hj).alloc o1).kept hg1 (owns_apart ne2.symm ((h.each j hj).alloc o1) (h.spots.alloc o1))
  have l1 := (hl.alloc o1).kept hg1 (owns_apart ne2.symm (hl.alloc o1) (h.spots.alloc o1))
  have b1 := (h.sets.alloc o1).kept hg1 (owns_apart ne2.symm (h.sets.alloc o1) (h.spots.alloc o1))
  -- behind the lists
  have nn := (owns_low n1 hp0 sv').alloc o2
  have s2 := ((owns_low ho1 hp0 sv').alloc o2).kept hg2 (owns_apart ne1 ((owns_low ho1 hp0 sv').alloc o2) nn)
  have a2 : ∀ j, j < k → w2.ownsRow base 3 1 (us.getD j nilV) (g.next.getD j []).length (ivals (g.next.getD j [])) := fun j hj => ((owns_low (a1 j hj) hp0 sv').alloc o2).kept hg2 (owns_apart ne3.symm ((owns_low (a1 j hj) hp0 sv').alloc o2) nn)
  have l2 := ((owns_low l1 hp0 sv').alloc o2).kept hg2 (owns_apart ne3.symm ((owns_low l1 hp0 sv').alloc o2) nn)
  have b2 := ((owns_low b1 hp0 sv').alloc o2).kept hg2 (owns_apart ne3.symm ((owns_low b1 hp0 sv').alloc o2) nn)
  -- behind the sets
  have bb := (owns_low b2 hp2 nv').alloc o3
  have s3 := ((owns_low s2 hp2 nv').alloc o3).kept hg3 (owns_apart ne2 ((owns_low s2 hp2 nv').alloc o3) bb)
  have n3 := ((owns_low ho2 hp2 nv').alloc o3).kept hg3 (owns_apart ne3 ((owns_low ho2 hp2 nv').alloc o3) bb)
  have a3 : ∀ j, j < k → w3.ownsRow base 3 1 (us.getD j nilV) (g.next.getD j []).length (ivals (g.next.getD j [])) := fun j hj => ((owns_low (a2 j hj) hp2 nv').alloc o3).kept hg3 (h.apart j hj)
  have l3 := ((owns_low l2 hp2 nv').alloc o3).kept hg3 hla
  have big : ∀ (u : Value) (m : Nat) (xs : List Value), ((w2.setCell p2 nv').alloc o3).ownsRow base 3 1 u m xs → (u.ownBlock = none ∨ u.ownBlock ≠ bv.ownBlock) → u.ownBlock = none ∨ u.ownBlock ≠ some gb := fun u m xs hu ha => by
    rcases hor with e | e
    · rw [← e]; exact ha
    · cases hx : u.ownBlock with
      | none => exact .inl rfl
      | some z => exact .inr fun ez => by have := (hu.lt z hx).2; have := Option.some.inj ez; omega
  refine ⟨by simp [h.ks], by simp [h.kn], by simp [h.kb], ?_, n3, fun j hj => ?_, ?_, fun j hj => ?_⟩
  · rw [flat_append]; exact s3
  · by_cases hjk : j < k
    · have e1 : (us ++ [lv]).getD j nilV = us.getD j nilV := by simp [List.getD_eq_getElem?_getD, List.getElem?_append_left (show j < us.length by omega)]
      have e2 : (g.next ++ [l]).getD j [] = g.next.getD j [] := by simp [List.getD_eq_getElem?_getD, List.getElem?_append_left (show j < g.next.length by rw [h.kn]; exact hjk)]
      rw [e1, e2]; exact a3 j hjk
    · obtain rfl : j = k := by omega
      have e1 : (us ++ [lv]).getD j nilV = lv := by simp [List.getD_eq_getElem?_getD, ← hul]
      have e2 : (g.next ++ [l]).getD j [] = l := by simp [List.getD_eq_getElem?_getD, ← h.kn]
      rw [e1, e2]; exact l3
  · have : ivals (g.sets ++ [y]) = ivals g.sets ++ [.int .i64 y] := by simp [ivals]
    rw [this]; exact ho3
  · show _ ∨ _ ≠ some gb
    by_cases hjk : j < k
    · have e1 : (us ++ [lv]).getD j nilV = us.getD j nilV := by simp [List.getD_eq_getElem?_getD, List.getElem?_append_left (show j < us.length by omega)]
      rw [e1]
      exact big _ _ _ ((owns_low (a2 j hjk) hp2 nv').alloc o3) (h.apart j hjk)
    · obtain rfl : j = k := by omega
      have e1 : (us ++ [lv]).getD j nilV = lv := by simp [List.getD_eq_getElem?_getD, ← hul]
      rw [e1]
      exact big _ _ _ ((owns_low l2 hp2 nv').alloc o3) hla
end Go.Proofs.Ytdmclgbmdhhdiaa
