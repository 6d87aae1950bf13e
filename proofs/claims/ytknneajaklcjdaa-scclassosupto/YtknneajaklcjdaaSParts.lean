/-
  The contract of scc.Parts.
-/
import Derived.Test.YtknneajaklcjdaaTjParts
import Derived.Test.YtknneajaklcjdaaSReach
namespace Go.Proofs.Ytknneajaklcjdaa
open Go.ChangeShapes Go.WideShapes Go.ChangeAt Go.RowKit Go.Deep
open Terms

theorem graph_rows {w : World} {g : Gr} {so no bo : Option Addr} {sc nc bc : Nat} (h : GOk g) (hV : GraphV w (.slice so g.spots.length sc) (.slice no g.next.length nc) (.slice bo g.sets.length bc) g) : NextRows w no g.spots.length (nxt g) := fun p hp => by
  obtain ⟨b, off, e, hb, uo, uc, hc, hi⟩ := hV.next.row (i := p) (by rw [h.head.next]; exact hp)
  exact ⟨b, off, e, hb, uo, uc, by rw [nxt_length]; exact hc, row_nats h hp hi⟩
/-- parts that are told rightly. -/
def PartsOk (g : Gr) (pt : Nat → Int) : Prop := ∀ x, x < g.spots.length → PartIs (nxt g) x (pt x)
theorem partsOf_gr (so no bo : Option Addr) (sc nc bc : Nat) (g : Gr) (w : World) (hz : GrLe g) (hV : GraphV w (.slice so g.spots.length sc) (.slice no g.next.length nc) (.slice bo g.sets.length bc) g) (hok : GOk g) :
    Calls Try.prog 18 #[.agg #[.slice so g.spots.length sc, .int .i64 g.init, .slice no g.next.length nc, .slice bo g.sets.length bc, .int .i64 g.many]] w fun e w' => ∃ B, e = .returned (.slice (some ⟨B, 0, none⟩) g.spots.length g.spots.length) ∧ Below w.heap.size w w' ∧ Hid (∃ pt, w.heap.size ≤ B ∧ w'.rowIs B 3 g.spots.length (intRow pt) ∧ PartsOk g pt) := by
  have hn := hok.head.next
  have h := partsOf_any so no bo sc nc g.sets.length bc g.init g.many g.spots.length (nxt g) w hok.head.n (fun i hi k hk => nxt_lt hok hi hk) (fun i hi => by rw [nxt_length]; exact hz.rows i (by rw [hn]; exact hi)) (graph_rows hok hV)
  rw [hn]
  exact h

set_option maxHeartbeats 1600000 in
set_option maxRecDepth 20000 in
theorem sparts_bad (so no bo : Option Addr) (sc nc bc : Nat) (g : Gr) (w : World) (hz : GrLe g) (hV : GraphV w (.slice so g.spots.length sc) (.slice no g.next.length nc) (.slice bo g.sets.length bc) g) (hc : ¬ gcode g = 0) :
    Calls Try.prog 7 #[.agg #[.slice so g.spots.length sc, .int .i64 g.init, .slice no g.next.length nc, .slice bo g.sets.length bc, .int .i64 g.many]] w fun e w' => e = .returned (.tuple #[.slice none 0 0, .int .i64 9]) ∧ Below w.heap.size w w' := by
  have hA : ∀ o, Below w.heap.size w (w.alloc o) := fun o => (Below.refl _ _).alloc (Nat.le_refl _) o
  have hch := fun o => scheck_any so no bo sc nc bc g (w.alloc o) hz.spots hz.next hz.sets hz.rows (hV.below (hA o))
  rw [gcode_nine hc] at hch
  clear hV hz hc
  generalize g.spots.length = sn at *
  generalize g.next.length = nn at *
  generalize g.sets.length = bn at *
  generalize g.init = gi at *
  generalize g.many = gm at *
  go_enter Try.func7, Try.ntmps7
  go_wp2_with (go_at_call 17; refine (hch _).mono ?_; rintro e w1 ⟨rfl, hb1⟩)
  go_ret2
  exact ⟨rfl, (hA _).trans (hb1.mono (hA _).size)⟩

set_option maxHeartbeats 1600000 in
set_option maxRecDepth 20000 in
theorem sparts_ok (so no bo : Option Addr) (sc nc bc : Nat) (g : Gr) (w : World) (hz : GrLe g) (hV : GraphV w (.slice so g.spots.length sc) (.slice no g.next.length nc) (.slice bo g.sets.length bc) g) (hc : gcode g = 0) :
    Calls Try.prog 7 #[.agg #[.slice so g.spots.length sc, .int .i64 g.init, .slice no g.next.length nc, .slice bo g.sets.length bc, .int .i64 g.many]] w fun e w' => ∃ B, e = .returned (.tuple #[.slice (some ⟨B, 0, none⟩) g.spots.length g.spots.length, .int .i64 0]) ∧ Below w.heap.size w w' ∧ Hid (∃ pt, w.heap.size ≤ B ∧ w'.rowIs B 3 g.spots.length (intRow pt) ∧ PartsOk g pt) := by
  have hok := gcode_zero hc
  obtain ⟨W0, hW0⟩ : ∃ W0, W0 = w.alloc (.cells #[.slice so g.spots.length sc, .int .i64 g.init, .slice no g.next.length nc, .slice bo g.sets.length bc, .int .i64 g.many] 26) := ⟨_, rfl⟩
  have hA : Below w.heap.size w W0 := by rw [hW0]; exact (Below.refl _ _).alloc (Nat.le_refl _) _
  have hs0 : w.heap.size < W0.heap.size := by rw [hW0]; simp
  have HD : Hid (∀ w1, Below W0.heap.size W0 w1 → w1.cell? ⟨w.heap.size, 0, none⟩ = some (.slice so g.spots.length sc) ∧ w1.cell? ⟨w.heap.size, 1, none⟩ = some (.int .i64 g.init) ∧ w1.cell? ⟨w.heap.size, 2, none⟩ = some (.slice no g.next.length nc) ∧ w1.cell? ⟨w.heap.size, 3, none⟩ = some (.slice bo g.sets.length bc) ∧ w1.cell? ⟨w.heap.size, 4, none⟩ = some (.int .i64 g.many)) := fun w1 hb => by
    have c : ∀ j, w1.cell? ⟨w.heap.size, j, none⟩ = W0.cell? ⟨w.heap.size, j, none⟩ := fun j => hb.cell (p := ⟨w.heap.size, j, none⟩) hs0
    refine ⟨(c _).trans ?_, (c _).trans ?_, (c _).trans ?_, (c _).trans ?_, (c _).trans ?_⟩ <;> (rw [hW0]; simp [go_sem])
  have hch := scheck_any so no bo sc nc bc g W0 hz.spots hz.next hz.sets hz.rows (hV.below hA)
  rw [hc] at hch
  have HPa : Hid (∀ w1, Below W0.heap.size W0 w1 → Calls Try.prog 18 #[.agg #[.slice so g.spots.length sc, .int .i64 g.init, .slice no g.next.length nc, .slice bo g.sets.length bc, .int .i64 g.many]] w1 fun e w' => ∃ B, e = .returned (.slice (some ⟨B, 0, none⟩) g.spots.length g.spots.length) ∧ Below w1.heap.size w1 w' ∧ Hid (∃ pt, w1.heap.size ≤ B ∧ w'.rowIs B 3 g.spots.length (intRow pt) ∧ PartsOk g pt)) := fun w1 hb => partsOf_gr so no bo sc nc bc g w1 hz ((hV.below hA).below hb) hok
  rw [hW0] at hch
  have HW0 : Hid (W0 = w.alloc (.cells #[.slice so g.spots.length sc, .int .i64 g.init, .slice no g.next.length nc, .slice bo g.sets.length bc, .int .i64 g.many] 26)) := hW0
  clear hV hz hc hok hW0
  generalize PartsOk g = PO at *
  generalize g.spots.length = sn at *
  generalize g.next.length = nn at *
  generalize g.sets.length = bn at *
  generalize g.init = gi at *
  generalize g.many = gm at *
  go_enter Try.func7, Try.ntmps7
  go_wp2_with (first | (go_at_call 17; refine hch.mono ?_; rintro e w1 ⟨rfl, hb1⟩; rw [← HW0.out] at hb1; obtain ⟨a0, a1, a2, a3, a4⟩ := HD.out w1 hb1; have hpa := HPa.out w1 hb1) | (go_at_call 18; refine hpa.mono ?_; rintro e w2 ⟨B, rfl, hb2, HB⟩))
  go_ret2
  refine ⟨_, rfl, hA.trans ((hb1.trans (hb2.mono hb1.size)).mono hA.size), ?_⟩
  obtain ⟨pt, h1, h2, h3⟩ := HB.out
  exact ⟨pt, by have := hb1.size; omega, h2, h3⟩
end Go.Proofs.Ytknneajaklcjdaa
