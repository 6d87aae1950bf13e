/-
  The contract of the document's own ReachedOf.
-/
import Derived.Test.YtknneajaklcjdaaSReach
import Derived.Test.YtknneajaklcjdaaRefGraph
namespace Go.Proofs.Ytknneajaklcjdaa
open Go.ChangeShapes Go.WideShapes Go.ChangeAt Go.RowKit Go.Deep
open Terms

theorem range_snoc (c : Nat) : nvals (List.range (c + 1)) = nvals (List.range c) ++ [.int .i64 (c : Int)] := by simp [nvals, List.range_succ]
theorem natsV_of_owns {w : World} {base : Nat} {v : Value} {l : List Nat} (h : w.ownsRow base 3 1 v l.length (nvals l)) : NatsV w v l := by
  rcases h.2 with ⟨rfl, h0⟩ | ⟨g, cap, cur, rfl, hb, hg, hnc, hcm, hcs, htake⟩
  · have : l = [] := by simpa using h0
    subst this
    exact ⟨none, 0, rfl, fun h => absurd rfl h⟩
  · refine ⟨_, cap, rfl, fun _ => ⟨g, 0, rfl, (Array.getElem?_eq_some_iff.1 hg).1, fun i hi => ?_⟩⟩
    rw [Nat.zero_add, h.cellAt i (by omega)]
    simp [nvals, List.getD_eq_getElem?_getD, hi]
theorem graph_rowsR {w : World} {g : Gr} {so no bo : Option Addr} {sc nc bc : Nat} (h : GOk g) (hV : GraphV w (.slice so g.spots.length sc) (.slice no g.next.length nc) (.slice bo g.sets.length bc) g) : ∀ p, p < g.spots.length → ∃ b off, no = some ⟨b, off, none⟩ ∧ b < w.heap.size ∧ ∃ uo uc, w.cell? ⟨b, off + p, none⟩ = some (.slice uo (nxt g p).length uc) ∧ NatsV w (.slice uo (nxt g p).length uc) (nxt g p) := fun p hp => by
  obtain ⟨b, off, e, hb, uo, uc, h1, h2⟩ := hV.next.row (i := p) (by rw [h.head.next]; exact hp)
  exact ⟨b, off, e, hb, uo, uc, by rw [nxt_length]; exact h1, row_nats h hp h2⟩

set_option maxHeartbeats 1600000 in
set_option maxRecDepth 20000 in
theorem rreached_bad (so no bo : Option Addr) (sc nc bc : Nat) (g : Gr) (w : World) (hz : GrLe g) (hV : GraphV w (.slice so g.spots.length sc) (.slice no g.next.length nc) (.slice bo g.sets.length bc) g) (hc : ¬ gcode g = 0) :
    Calls Try.prog 26 #[.agg #[.slice so g.spots.length sc, .int .i64 g.init, .slice no g.next.length nc, .slice bo g.sets.length bc, .int .i64 g.many]] w fun e w' => e = .returned (.tuple #[.slice none 0 0, .int .i64 9]) ∧ Below w.heap.size w w' := by
  have hA : ∀ o, Below w.heap.size w (w.alloc o) := fun o => (Below.refl _ _).alloc (Nat.le_refl _) o
  have hch := fun o => gfault_any so no bo sc nc bc g (w.alloc o) hz.spots hz.next hz.sets hz.rows (hV.below (hA o))
  rw [gcode_nine hc] at hch
  clear hV hz hc
  generalize g.spots.length = sn at *
  generalize g.next.length = nn at *
  generalize g.sets.length = bn at *
  generalize g.init = gi at *
  generalize g.many = gm at *
  go_enter Try.func26, Try.ntmps26
  go_wp2_with (go_at_call 19; refine (hch _).mono ?_; rintro e w1 ⟨rfl, hb1⟩)
  go_ret2
  exact ⟨rfl, (hA _).trans (hb1.mono (hA _).size)⟩

set_option maxHeartbeats 3200000 in
set_option maxRecDepth 20000 in
theorem rreached_ok (so no bo : Option Addr) (sc nc bc : Nat) (g : Gr) (w : World) (hz : GrLe g) (hV : GraphV w (.slice so g.spots.length sc) (.slice no g.next.length nc) (.slice bo g.sets.length bc) g) (hc : gcode g = 0) :
    Calls Try.prog 26 #[.agg #[.slice so g.spots.length sc, .int .i64 g.init, .slice no g.next.length nc, .slice bo g.sets.length bc, .int .i64 g.many]] w fun e w' => ∃ vo vc, e = .returned (.tuple #[.slice vo g.spots.length vc, .int .i64 0]) ∧ Below w.heap.size w w' ∧ Hid (BoolsV w' (.slice vo g.spots.length vc) (reachL g)) := by
  have hok := gcode_zero hc
  obtain ⟨W0, hW0⟩ : ∃ W0, W0 = w.alloc (.cells #[.slice so g.spots.length sc, .int .i64 g.init, .slice no g.next.length nc, .slice bo g.sets.length bc, .int .i64 g.many] 26) := ⟨_, rfl⟩
  have hA : Below w.heap.size w W0 := by rw [hW0]; exact (Below.refl _ _).alloc (Nat.le_refl _) _
  have hs0 : w.heap.size < W0.heap.size := by rw [hW0]; simp
  have HD : Hid (∀ w1, Below W0.heap.size W0 w1 → Below w.heap.size w w1 ∧ w1.cell? ⟨w.heap.size, 0, none⟩ = some (.slice so g.spots.length sc) ∧ w1.cell? ⟨w.heap.size, 1, none⟩ = some (.int .i64 g.init) ∧ w1.cell? ⟨w.heap.size, 2, none⟩ = some (.slice no g.next.length nc) ∧ w1.cell? ⟨w.heap.size, 3, none⟩ = some (.slice bo g.sets.length bc) ∧ w1.cell? ⟨w.heap.size, 4, none⟩ = some (.int .i64 g.many)) := fun w1 hb => by
    have c : ∀ j, w1.cell? ⟨w.heap.size, j, none⟩ = W0.cell? ⟨w.heap.size, j, none⟩ := fun j => hb.cell (p := ⟨w.heap.size, j, none⟩) hs0
    refine ⟨hA.trans (hb.mono hA.size), (c _).trans ?_, (c _).trans ?_, (c _).trans ?_, (c _).trans ?_, (c _).trans ?_⟩ <;> (rw [hW0]; simp [go_sem])
  have hch := gfault_any so no bo sc nc bc g W0 hz.spots hz.next hz.sets hz.rows (hV.below hA)
  rw [hc] at hch
  obtain ⟨gi, hgi⟩ : ∃ gi : Nat, g.init = gi := ⟨g.init.toNat, by have := hok.head.init0; omega⟩
  have hgn : gi ≤ g.spots.length := by have := hok.head.init1; omega
  have hn := hok.head.n
  have HRl : Hid ((reachL g).length = g.spots.length) := reachB_length _ _ _
  have HRf : Hid (∀ w1 vo vc, Below W0.heap.size W0 w1 → NatsV w1 (.slice vo (List.range gi).length vc) (List.range gi) → Calls Try.prog 21 #[.agg #[.slice so g.spots.length sc, .int .i64 (gi : Int), .slice no g.next.length nc, .slice bo g.sets.length bc, .int .i64 g.many], .slice vo (List.range gi).length vc] w1 fun e w' => ∃ xo xc, e = .returned (.slice xo g.spots.length xc) ∧ Below w1.heap.size w1 w' ∧ Hid (BoolsV w' (.slice xo g.spots.length xc) (reachL g))) := fun w1 vo vc hb hN => by
    refine (reachedFrom_any so no bo vo sc _ nc _ bc vc (gi : Int) g.many g.spots.length (nxt g) (List.range gi) w1 hn (fun i hi k hk => nxt_lt hok hi hk) (fun f hf => by have := List.mem_range.1 hf; omega) (by simp; omega) (fun i hi => by rw [nxt_length]; exact hz.rows i (by rw [hok.head.next]; exact hi)) (graph_rowsR hok ((hV.below hA).below hb)) hok.head.next hN).mono fun e w' ⟨v, h1, h2, h3⟩ => ?_
    have h4 : BoolsV w' v (reachL g) := by
      have := h3.out
      unfold reachL
      rwa [hgi]
    have h5 := h4
    obtain ⟨xo, xc, rfl, _⟩ := h4
    rw [HRl.out] at h1 h5
    exact ⟨xo, xc, h1, h2, h5⟩
  have hlen : (List.range gi).length = gi := List.length_range
  rw [hlen] at HRf
  rw [hgi] at hW0 HD hch ⊢
  generalize reachL g = RL at *
  generalize g.next.length = nn at *
  generalize g.sets.length = bn at *
  generalize g.many = gm at *
  obtain ⟨n, hnn⟩ : ∃ n, n = g.spots.length := ⟨_, rfl⟩
  rw [← hnn] at hW0 HD hch HRf HRl hn hgn ⊢
  clear hV hz hc hok hgi hnn hlen
  have hS : ∀ w1, Below W0.heap.size W0 w1 → w1.cell? ⟨w.heap.size, 0, none⟩ = some (.slice so n sc) ∧ w1.cell? ⟨w.heap.size, 1, none⟩ = some (.int .i64 (gi : Int)) ∧ w1.cell? ⟨w.heap.size, 2, none⟩ = some (.slice no nn nc) ∧ w1.cell? ⟨w.heap.size, 3, none⟩ = some (.slice bo bn bc) ∧ w1.cell? ⟨w.heap.size, 4, none⟩ = some (.int .i64 gm) := fun w1 hb => (HD.out w1 hb).2
  have HS := (show Hid _ from hS)
  have HW0 : Hid (W0 = w.alloc (.cells #[.slice so n sc, .int .i64 (gi : Int), .slice no nn nc, .slice bo bn bc, .int .i64 gm] 26)) := hW0
  rw [hW0] at hch
  clear hW0 hS
  obtain ⟨i0, hi, hz0, hz1, hz2⟩ := info_parts infoInt
  go_enter Try.func26, Try.ntmps26
  go_wp2_with (go_at_call 19; refine hch.mono ?_; rintro e w1 ⟨rfl, hb1⟩; rw [← HW0.out] at hb1)
  clear hch HD HW0
  go_loopw [5, 6] (fun out i wr => ∃ c : Nat, c ≤ gi ∧ i = .int .i64 c ∧ Hid (wr.ownsRow w1.heap.size 3 1 out c (nvals (List.range c))) ∧ Hid (Below w1.heap.size w1 wr)) (fun _ i _ => gi - (intOf i).toNat)
  case atStart => exact ⟨0, Nat.zero_le _, rfl, World.ownsRow_nil _ _ _ _, Below.refl _ _⟩
  case round =>
    obtain ⟨c, hc, rfl, HOwn, HBc⟩ := hrel
    have hbc := HBc.out
    have hb1c := hb1.trans (hbc.mono hb1.size)
    obtain ⟨a0, a1, a2, a3, a4⟩ := HS.out wr hb1c
    have hown := HOwn.out
    have hnb := hown.lt
    obtain ⟨oo, oc, rfl⟩ := owns_slice hown
    by_cases hlc : c < gi
    · have HN := (show Hid _ from range_snoc c)
      have h63 : c + 1 ≤ maxLen := by unfold maxLen; omega
      have hkb : (c + 1) * 8 ≤ 140737488355328 := by omega
      have hown4 := fun o => hown.alloc o
      have hbase : ∀ o, w1.heap.size ≤ (wr.alloc o).heap.size := fun o => by have := hbc.size; simp; omega
      clear HOwn hown
      go_wp2_with (at_builtin; refine wpList_append_own _ rfl (.tmp 18) (.tmp 20) 24 rfl w1.heap.size 3 i0 (.int .i64 0) 1 8 Try.underlying24 hi hz0 hz1 hz2 rfl (by decide) (.slice oo c oc) c _ rfl (hown4 _) ⟨wr.heap.size, 0, none⟩ 1 1 [.int .i64 c] rfl rfl (cell_one_new _ _ _) (by intro u hu; simp at hu; subst hu; rfl) h63 hkb (hbase _) ?_; intro v' w4 hown' hgrow _)
      have hb4 : Below w1.heap.size w1 w4 := (hbc.alloc hbc.size _).grown hgrow (hbase _) (fun z hz => (hnb z hz).1)
      have ho4 : w4.ownsRow w1.heap.size 3 1 v' (c + 1) (nvals (List.range (c + 1))) := by
        rw [HN.out]
        exact hown'
      go_roundw
      case rel => exact ⟨c + 1, hlc, by go_num, ho4, hb4⟩
      case measure => simp [intOf]; omega
    · obtain rfl : c = gi := by omega
      have hnv : NatsV wr (.slice oo c oc) (List.range c) := natsV_of_owns (by simpa using hown)
      have hrf := HRf.out wr oo oc hb1c hnv
      have hbwr := hA.trans (hb1c.mono hA.size)
      clear hown HOwn hnv
      go_wp2_with (go_at_call 21; refine hrf.mono ?_; rintro e w5 ⟨xo, xc, rfl, hb5, HX⟩)
      go_ret2
      exact ⟨_, _, rfl, hbwr.trans (hb5.mono hbwr.size), HX⟩
end Go.Proofs.Ytknneajaklcjdaa
