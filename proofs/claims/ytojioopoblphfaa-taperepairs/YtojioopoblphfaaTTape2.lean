/-
  Tapes that are copied, cut and compared.
-/
import Derived.Test.YtojioopoblphfaaTTape
namespace Go.Proofs.Ytojioopoblphfaa
open Go.ChangeShapes Go.WideShapes Go.ChangeAt Go.RowKit Go.Deep

theorem owns_setCell {w : World} {base : Nat} {e : TypeId} {s n : Nat} {v : Value} {xs : List Value} {p : Addr} (h : w.ownsRow base e s v n xs) (hp : p.block < base) (u : Value) : (w.setCell p u).ownsRow base e s v n xs := by
  obtain ⟨h1, h2⟩ := h
  refine ⟨h1, ?_⟩
  rcases h2 with h2 | ⟨g, cap, cur, hv, hg, hh, r⟩
  · exact .inl h2
  · refine .inr ⟨g, cap, cur, hv, hg, ?_, r⟩
    exact (Below.heap_setCell w p u g (by omega)).trans hh

/-- a result's box: two cells of its own. -/
theorem box2 (w : World) (x0 x1 : Value) (t : TypeId) : (w.alloc (.cells #[x0, x1] t)).cell? ⟨w.heap.size, 0, none⟩ = some x0 ∧ (w.alloc (.cells #[x0, x1] t)).cell? ⟨w.heap.size, 1, none⟩ = some x1 ∧ (w.alloc (.cells #[x0, x1] t)).frozen? ⟨w.heap.size, 0, none⟩ = false ∧ (w.alloc (.cells #[x0, x1] t)).frozen? ⟨w.heap.size, 1, none⟩ = false := by
  simp [go_sem]

set_option maxHeartbeats 800000 in
set_option maxRecDepth 20000 in
/-- THE CONTRACT OF tapes: a copy in new memory. -/
theorem tapes_any (ao : Option Addr) (cap : Nat) (l : List UInt8) (s : Int) (w : World) (hl : l.length ≤ 140737488355328) (hV : BytesV w (.slice ao l.length cap) l) :
    Calls Try.prog 12 #[.agg #[.slice ao l.length cap, .int .i64 s]] w fun e w' => ∃ ao' cap', e = .returned (.agg #[.slice ao' l.length cap', .int .i64 s]) ∧ Below w.heap.size w w' ∧ BytesV w' (.slice ao' l.length cap') l := by
  obtain ⟨W0, hW0⟩ : ∃ W0, W0 = ((w.alloc (.cells #[.slice ao l.length cap, .int .i64 s] 27)).alloc (.cells #[.slice none 0 0, .int .i64 0] 27)) := ⟨_, rfl⟩
  have hA : Below w.heap.size w W0 := by rw [hW0]; exact ((Below.refl _ _).alloc (Nat.le_refl _) _).alloc (by simp) _
  have hz : W0.heap.size = w.heap.size + 1 + 1 := by rw [hW0]; simp
  have HSt : Hid (∀ w1, Below W0.heap.size W0 w1 → (w1.cell? ⟨w.heap.size, 0, none⟩ = some (.slice ao l.length cap) ∧ w1.cell? ⟨w.heap.size, 1, none⟩ = some (.int .i64 s)) ∧ w1.cell? ⟨w.heap.size + 1, 0, none⟩ = some (.slice none 0 0) ∧ w1.cell? ⟨w.heap.size + 1, 1, none⟩ = some (.int .i64 0) ∧ w1.frozen? ⟨w.heap.size + 1, 0, none⟩ = false ∧ w1.frozen? ⟨w.heap.size + 1, 1, none⟩ = false) := fun w1 hb => by
    refine ⟨⟨(hb.cell (p := ⟨w.heap.size, 0, none⟩) (by show w.heap.size < _; omega)).trans ?_, (hb.cell (p := ⟨w.heap.size, 1, none⟩) (by show w.heap.size < _; omega)).trans ?_⟩, (hb.cell (p := ⟨w.heap.size + 1, 0, none⟩) (by show w.heap.size + 1 < _; omega)).trans ?_, (hb.cell (p := ⟨w.heap.size + 1, 1, none⟩) (by show w.heap.size + 1 < _; omega)).trans ?_, (hb.frozen (p := ⟨w.heap.size + 1, 0, none⟩) (by show w.heap.size + 1 < _; omega)).trans ?_, (hb.frozen (p := ⟨w.heap.size + 1, 1, none⟩) (by show w.heap.size + 1 < _; omega)).trans ?_⟩ <;> (rw [hW0]; simp [go_sem])
  have HO : Hid (∀ w1, Below W0.heap.size W0 w1 → Calls Try.prog 10 #[.slice ao l.length cap] w1 fun e w' => ∃ ao' cap', e = .returned (.slice ao' l.length cap') ∧ Below w1.heap.size w1 w' ∧ Hid (w'.ownsRow W0.heap.size 5 1 (.slice ao' l.length cap') l.length (bvals l))) := fun w1 hb => by
    refine (octets_any _ l w1 hl (hV.below (hA.trans (hb.mono hA.size)))).mono fun e w' ⟨v', h1, h2, h3⟩ => ?_
    obtain ⟨a1, c1, rfl⟩ := owns_slice h3
    exact ⟨a1, c1, h1, h2, owns_mono h3 hb.size⟩
  have HL : Hid (∀ (W : World) (b : Nat) (v : Value), W.ownsRow b 5 1 v l.length (bvals l) → BytesV W v l) := fun W b v h => bytesV_of_owns h
  have hB0 : Below W0.heap.size W0 W0 := Below.refl _ _
  generalize l.length = n at *
  clear hV
  go_enter Try.func12, Try.ntmps12
  go_wp2_with fail
  rw [← hW0]
  clear hW0
  go_region_held3 (fun w' => w'.cell? ⟨w.heap.size, 0, none⟩ = some (.slice ao n cap) ∧ w'.cell? ⟨w.heap.size, 1, none⟩ = some (.int .i64 s))
    (first | exact (HSt.out _ (by first | exact hB0 | exact hB0.drew | exact hb01)).1 | (obtain ⟨⟨y0, y1⟩, _⟩ := HSt.out _ hb01; exact ⟨by simp [go_sem, y0], by simp [go_sem, y1]⟩))
    (first | (go_at_call 10; refine (HO.out _ hB0.drew).mono ?_; rintro e w1 ⟨a1, c1, rfl, hb1, HO1⟩; have hb01 := hB0.drew.trans (hb1.mono hB0.drew.size); obtain ⟨_, k0, k1, f0, f1⟩ := HSt.out _ hb01))
  have hbw := hA.trans (hb01.mono hA.size)
  have HV3 : Hid (BytesV ((w1.setCell ⟨w.heap.size + 1, 0, none⟩ (.slice a1 n c1)).setCell ⟨w.heap.size + 1, 1, none⟩ (.int .i64 s)) (.slice a1 n c1) l) := HL.out _ _ _ (owns_setCell (owns_setCell HO1.out (by show w.heap.size + 1 < _; omega) _) (by show w.heap.size + 1 < _; omega) _)
  have HBf : Hid (Below w.heap.size w ((w1.setCell ⟨w.heap.size + 1, 0, none⟩ (.slice a1 n c1)).setCell ⟨w.heap.size + 1, 1, none⟩ (.int .i64 s))) := (hbw.setCell (p := ⟨w.heap.size + 1, 0, none⟩) (by simp) _).setCell (p := ⟨w.heap.size + 1, 1, none⟩) (by simp) _
  go_wp2_with fail
  refine bodyPost_ret (v := .agg #[.slice a1 n c1, .int .i64 s]) ?_ rfl ⟨_, _, rfl, HBf.out, HV3.out⟩
  simp [results, Try.results12, go_sem, k0, k1]

set_option maxHeartbeats 800000 in
set_option maxRecDepth 20000 in
/-- THE CONTRACT OF sameTape, where both are the same. -/
theorem sameTape_any (ao bo : Option Addr) (ac bc : Nat) (l : List UInt8) (s : Int) (w : World) (hA : BytesV w (.slice ao l.length ac) l) (hB : BytesV w (.slice bo l.length bc) l) :
    Calls Try.prog 16 #[.agg #[.slice ao l.length ac, .int .i64 s], .agg #[.slice bo l.length bc, .int .i64 s]] w fun e w' => e = .returned (.bool true) ∧ Below w.heap.size w w' := by
  have hbw : ∀ o1 o2, Below w.heap.size w ((w.alloc o1).alloc o2) := fun o1 o2 => ((Below.refl _ _).alloc (Nat.le_refl _) _).alloc (by simp) _
  have hs := fun o1 o2 => sameBytes_any _ _ l l ((w.alloc o1).alloc o2) (hA.below (hbw o1 o2)) (hB.below (hbw o1 o2))
  simp only [decide_true] at hs
  generalize l.length = n at *
  clear hA hB
  go_enter Try.func16, Try.ntmps16
  go_wp2_with (go_at_call 34; refine (hs _ _).mono ?_; rintro e w1 ⟨rfl, rfl⟩)
  go_ret
  exact ⟨rfl, hbw _ _⟩
end Go.Proofs.Ytojioopoblphfaa
