/-
  The contract of scc.Check.
-/
import Derived.Test.YtknneajaklcjdaaGraphC
namespace Go.Proofs.Ytknneajaklcjdaa
open Go.ChangeShapes Go.WideShapes Go.ChangeAt Go.RowKit Go.Deep
open Terms

set_option maxHeartbeats 800000 in
set_option maxRecDepth 20000 in
theorem allSets_any (so no bo : Option Addr) (sn sc nn nc bn bc : Nat) (g : Gr) (w : World) (h0 : 0 ≤ g.many) (h6 : g.many ≤ 6) :
    Calls Try.prog 34 #[.agg #[.slice so sn sc, .int .i64 g.init, .slice no nn nc, .slice bo bn bc, .int .i64 g.many]] w fun e w' => e = .returned (.int .i64 (top g)) ∧ Below w.heap.size w w' := by
  have hA : ∀ o, Below w.heap.size w (w.alloc o) := fun o => (Below.refl _ _).alloc (Nat.le_refl _) o
  have h7 : g.many = 0 ∨ g.many = 1 ∨ g.many = 2 ∨ g.many = 3 ∨ g.many = 4 ∨ g.many = 5 ∨ g.many = 6 := by omega
  unfold top
  generalize g.init = gi at *
  rcases h7 with h | h | h | h | h | h | h
  all_goals
    rw [h]
    clear h h0 h6
    go_enter Try.func34, Try.ntmps34
    go_wp2
    go_ret
    exact ⟨rfl, hA _⟩

set_option maxHeartbeats 1600000 in
set_option maxRecDepth 20000 in
theorem scheck_head (so no bo : Option Addr) (sc nc bc : Nat) (g : Gr) (w : World) (hh : ¬ GHead g) (hz1 : g.spots.length ≤ 140737488355328) (hz2 : g.next.length ≤ 140737488355328) (_hz3 : g.sets.length ≤ 140737488355328) :
    Calls Try.prog 17 #[.agg #[.slice so g.spots.length sc, .int .i64 g.init, .slice no g.next.length nc, .slice bo g.sets.length bc, .int .i64 g.many]] w fun e w' => e = .returned (.int .i64 (gcode g)) ∧ Below w.heap.size w w' := by
  have hA : ∀ o, Below w.heap.size w (w.alloc o) := fun o => (Below.refl _ _).alloc (Nat.le_refl _) o
  rw [gcode_head hh]
  have h7 : (20000 : Int) < (g.spots.length : Int) ∨ (¬ (20000 : Int) < (g.spots.length : Int) ∧ ¬ (g.next.length : Int) = (g.spots.length : Int)) ∨ (¬ (20000 : Int) < (g.spots.length : Int) ∧ g.next.length = g.spots.length ∧ ¬ (g.sets.length : Int) = (g.spots.length : Int)) ∨ (¬ (20000 : Int) < (g.spots.length : Int) ∧ g.next.length = g.spots.length ∧ g.sets.length = g.spots.length ∧ (g.init < 0 ∨ (¬ g.init < 0 ∧ (g.spots.length : Int) < g.init) ∨ (¬ g.init < 0 ∧ ¬ (g.spots.length : Int) < g.init ∧ g.many < 0) ∨ (¬ g.init < 0 ∧ ¬ (g.spots.length : Int) < g.init ∧ ¬ g.many < 0 ∧ 6 < g.many))) := by
    refine Classical.byContradiction fun hc => hh ⟨?_, ?_, ?_, ?_, ?_, ?_, ?_⟩ <;> omega
  generalize g.spots.length = sn at *
  generalize g.next.length = nn at *
  generalize g.sets.length = bn at *
  generalize g.init = gi at *
  generalize g.many = gm at *
  clear hh
  rcases h7 with h1 | ⟨h1, h2⟩ | ⟨h1, h2, h3⟩ | ⟨h1, h2, h3, h4 | ⟨h4, h5⟩ | ⟨h4, h5, h6⟩ | ⟨h4, h5, h6, h7⟩⟩
  · go_enter Try.func17, Try.ntmps17
    go_wp2
    go_ret
    exact ⟨rfl, hA _⟩
  · have h2' : ¬ (nn : Int) = (sn : Int) := h2
    go_enter Try.func17, Try.ntmps17
    go_wp2
    go_ret
    exact ⟨rfl, hA _⟩
  · subst h2
    go_enter Try.func17, Try.ntmps17
    go_wp2
    go_ret
    exact ⟨rfl, hA _⟩
  all_goals
    subst h2 h3
    go_enter Try.func17, Try.ntmps17
    go_wp2
    go_ret
    exact ⟨rfl, hA _⟩

theorem undrewB {a b : World} (h : Below a.drew.heap.size a.drew b) : Below a.heap.size a b := ⟨h.os, h.tape, h.output, h.size, h.block⟩
theorem ListsV.row {w : World} {no : Option Addr} {nn nc : Nat} {ls : List (List Int)} (h : ListsV w (.slice no nn nc) ls) {i : Nat} (hi : i < ls.length) : ∃ b off, no = some ⟨b, off, none⟩ ∧ b < w.heap.size ∧ ∃ uo uc, w.cell? ⟨b, off + i, none⟩ = some (.slice uo (ls.getD i []).length uc) ∧ IntsV w (.slice uo (ls.getD i []).length uc) (ls.getD i []) := by
  obtain ⟨b, off, e, hlt, u, hc, hu⟩ := h.at hi
  have hu' := hu
  obtain ⟨uo, uc, rfl, _⟩ := hu
  exact ⟨b, off, e, hlt, uo, uc, hc, hu'⟩
theorem IntsV.num {w : World} {bo : Option Addr} {bn bc : Nat} {l : List Int} (h : IntsV w (.slice bo bn bc) l) {i : Nat} (hi : i < l.length) : ∃ b off, bo = some ⟨b, off, none⟩ ∧ b < w.heap.size ∧ w.cell? ⟨b, off + i, none⟩ = some (.int .i64 (l.getD i 0)) := by
  obtain ⟨ao, cap, hv, h⟩ := h
  injection hv with e1 e2 e3
  subst e1
  obtain ⟨b, off, e, hlt, hat⟩ := h (by rintro rfl; simp at hi)
  exact ⟨b, off, e, hlt, hat i hi⟩

set_option maxHeartbeats 3200000 in
set_option maxRecDepth 20000 in
/-- THE CONTRACT OF scc.Check. -/
theorem scheck_any (so no bo : Option Addr) (sc nc bc : Nat) (g : Gr) (w : World) (hz1 : g.spots.length ≤ 140737488355328) (hz2 : g.next.length ≤ 140737488355328) (hz3 : g.sets.length ≤ 140737488355328) (hzn : ∀ i, i < g.next.length → (g.next.getD i []).length ≤ 140737488355328)
    (hV : GraphV w (.slice so g.spots.length sc) (.slice no g.next.length nc) (.slice bo g.sets.length bc) g) :
    Calls Try.prog 17 #[.agg #[.slice so g.spots.length sc, .int .i64 g.init, .slice no g.next.length nc, .slice bo g.sets.length bc, .int .i64 g.many]] w fun e w' => e = .returned (.int .i64 (gcode g)) ∧ Below w.heap.size w w' := by
  by_cases hh0 : ¬ GHead g
  · exact scheck_head so no bo sc nc bc g w hh0 hz1 hz2 hz3
  · have hh := Classical.not_not.1 hh0
    clear hh0
    obtain ⟨W0, hW0⟩ : ∃ W0, W0 = w.alloc (.cells #[.slice so g.spots.length sc, .int .i64 g.init, .slice no g.next.length nc, .slice bo g.sets.length bc, .int .i64 g.many] 26) := ⟨_, rfl⟩
    have hA : Below w.heap.size w W0 := by rw [hW0]; exact (Below.refl _ _).alloc (Nat.le_refl _) _
    have HSt : Hid (∀ w1, Below W0.heap.size W0 w1 → w1.cell? ⟨w.heap.size, 0, none⟩ = some (.slice so g.spots.length sc) ∧ w1.cell? ⟨w.heap.size, 1, none⟩ = some (.int .i64 g.init) ∧ w1.cell? ⟨w.heap.size, 2, none⟩ = some (.slice no g.next.length nc) ∧ w1.cell? ⟨w.heap.size, 3, none⟩ = some (.slice bo g.sets.length bc) ∧ w1.cell? ⟨w.heap.size, 4, none⟩ = some (.int .i64 g.many)) := fun w1 hb => by
      have hz : w.heap.size < W0.heap.size := by rw [hW0]; simp
      refine ⟨(hb.cell (p := ⟨w.heap.size, 0, none⟩) hz).trans ?_, (hb.cell (p := ⟨w.heap.size, 1, none⟩) hz).trans ?_, (hb.cell (p := ⟨w.heap.size, 2, none⟩) hz).trans ?_, (hb.cell (p := ⟨w.heap.size, 3, none⟩) hz).trans ?_, (hb.cell (p := ⟨w.heap.size, 4, none⟩) hz).trans ?_⟩ <;> (rw [hW0]; simp [go_sem])
    have HRow : Hid (∀ i, i < g.spots.length → ¬ GRow g i → gcode g = 9) := fun i hi h => gcode_row hi h
    have HOk : Hid ((∀ i, i < g.spots.length → GRow g i) → gcode g = 0) := gcode_ok hh
    have HV : Hid (∀ w1, Below w.heap.size w w1 → GraphV w1 (.slice so g.spots.length sc) (.slice no g.next.length nc) (.slice bo g.sets.length bc) g) := fun w1 hb => hV.below hb
    have HAll : Hid (∀ w1, Calls Try.prog 34 #[.agg #[.slice so g.spots.length sc, .int .i64 g.init, .slice no g.next.length nc, .slice bo g.sets.length bc, .int .i64 g.many]] w1 fun e w' => e = .returned (.int .i64 (top g)) ∧ Below w1.heap.size w1 w') := fun w1 => allSets_any so no bo _ sc _ nc _ bc g w1 hh.many0 hh.many6
    have h1 : ¬ (20000 : Int) < (g.spots.length : Int) := by have := hh.n; omega
    have h2 := hh.next
    have h3 := hh.sets
    have h4 : ¬ g.init < 0 := by have := hh.init0; omega
    have h5 : ¬ (g.spots.length : Int) < g.init := by have := hh.init1; omega
    have h6 : ¬ g.many < 0 := by have := hh.many0; omega
    have h7 : ¬ 6 < g.many := by have := hh.many6; omega
    have hn20 : g.spots.length ≤ 20000 := hh.n
    have HN : Hid (g.next.length = g.spots.length) := h2
    have HS : Hid (g.sets.length = g.spots.length) := h3
    rw [h2, h3] at HSt HV HAll hW0 ⊢
    have HZ : Hid (∀ i, i < g.spots.length → (g.next.getD i []).length ≤ 140737488355328) := fun i hi => hzn i (by rw [h2]; exact hi)
    have HTop : Hid (0 ≤ top g ∧ top g ≤ 63) := by
      have h8 : g.many.toNat ≤ 6 := by omega
      unfold top
      have : g.many.toNat = 0 ∨ g.many.toNat = 1 ∨ g.many.toNat = 2 ∨ g.many.toNat = 3 ∨ g.many.toNat = 4 ∨ g.many.toNat = 5 ∨ g.many.toNat = 6 := by omega
      rcases this with h | h | h | h | h | h | h <;> rw [h] <;> exact ⟨by decide, by decide⟩
    have HGS : Hid (∀ i, GSet g i ↔ (0 ≤ g.sets.getD i 0 ∧ g.sets.getD i 0 ≤ top g)) := fun i => Iff.rfl
    generalize g.init = gi at *
    generalize g.many = gm at *
    obtain ⟨sn, hsn⟩ : ∃ sn, sn = g.spots.length := ⟨_, rfl⟩
    have HSN : Hid (sn = g.spots.length) := hsn
    rw [← hsn] at HSt HV HAll hW0 HN HS HZ HRow HOk h1 h5 hn20 ⊢
    clear hh h2 h3 hV hz1 hz2 hz3 hzn hsn
    have HW0 : Hid (W0 = w.alloc (.cells #[.slice so sn sc, .int .i64 gi, .slice no sn nc, .slice bo sn bc, .int .i64 gm] 26)) := hW0
    obtain ⟨top, htop⟩ : ∃ t, t = top g := ⟨_, rfl⟩
    rw [← htop] at HAll HTop HGS
    clear htop
    obtain ⟨k0, k1, k2, k3, k4⟩ := HSt.out W0 (Below.refl _ _)
    generalize gcode g = gc at *
    go_enter Try.func17, Try.ntmps17
    go_wp2
    rw [← hW0]
    clear hW0 k0 k1 k2 k3 k4 h1 h4 h5 h6 h7
    go_loopw [46] (fun i wr => ∃ k : Nat, k ≤ sn ∧ i = .int .i64 k ∧ Hid (∀ j, j < k → GRow g j) ∧ Hid (Below W0.heap.size W0 wr)) (fun i _ => sn - (intOf i).toNat)
    case atStart => exact ⟨0, Nat.zero_le _, rfl, fun j hj => absurd hj (Nat.not_lt_zero _), Below.refl _ _⟩
    case round =>
      obtain ⟨k, hk, rfl, HRs, HB⟩ := hrel
      have hbw := hA.trans (HB.out.mono hA.size)
      by_cases hlt : k < sn
      · have hVr := HV.out wr hbw
        obtain ⟨bb, boff, rfl, hbb, hcb⟩ := hVr.sets.num (i := k) (by rw [HS.out]; exact hlt)
        obtain ⟨nb, noff, rfl, hnb, uo, uc, hcn, hui⟩ := hVr.next.row (i := k) (by rw [HN.out]; exact hlt)
        have hzk := HZ.out k hlt
        have hgs := HGS.out k
        have hal := HAll.out wr.drew
        have hS : ∀ w', Below wr.heap.size wr w' → w'.cell? ⟨w.heap.size, 0, none⟩ = some (.slice so sn sc) ∧ w'.cell? ⟨w.heap.size, 1, none⟩ = some (.int .i64 gi) ∧ w'.cell? ⟨w.heap.size, 2, none⟩ = some (.slice (some ⟨nb, noff, none⟩) sn nc) ∧ w'.cell? ⟨w.heap.size, 3, none⟩ = some (.slice (some ⟨bb, boff, none⟩) sn bc) ∧ w'.cell? ⟨w.heap.size, 4, none⟩ = some (.int .i64 gm) ∧ w'.cell? ⟨bb, boff + k, none⟩ = some (.int .i64 (g.sets.getD k 0)) ∧ w'.cell? ⟨nb, noff + k, none⟩ = some (.slice uo (g.next.getD k []).length uc) := fun w' hb => by
          obtain ⟨a0, a1, a2, a3, a4⟩ := HSt.out w' (HB.out.trans (hb.mono HB.out.size))
          exact ⟨a0, a1, a2, a3, a4, (hb.cell (p := ⟨bb, boff + k, none⟩) hbb).trans hcb, (hb.cell (p := ⟨nb, noff + k, none⟩) hnb).trans hcn⟩
        generalize g.sets.getD k 0 = x at *
        have HRn : Hid (¬ GSet g k → gc = 9) := fun h => HRow.out k (by rw [← HSN.out] at *; exact hlt) fun h' => h h'.1
        by_cases hlo : x < 0
        · have HG : Hid (gc = 9) := HRn.out (by rw [hgs]; omega)
          obtain ⟨a0, a1, a2, a3, a4, a5, a6⟩ := hS wr (Below.refl _ _)
          clear hVr hgs hui HRn hal HRow HOk
          go_wp2_with fail
          go_region
          go_wp2_with fail
          go_ret
          rw [HG.out]
          exact ⟨rfl, by first | exact hbw.drew | exact hbw⟩
        · by_cases hhi : top < x
          · have HG : Hid (gc = 9) := HRn.out (by rw [hgs]; omega)
            clear hVr hgs hui HRn HRow HOk
            go_wp2_with fail
            have t0 : decide (x < 0) = false := decide_eq_false (by omega)
            have t1 : decide (top < x) = true := decide_eq_true hhi
            go_region_held3 (fun w' => w'.cell? ⟨w.heap.size, 0, none⟩ = some (.slice so sn sc) ∧ w'.cell? ⟨w.heap.size, 1, none⟩ = some (.int .i64 gi) ∧ w'.cell? ⟨w.heap.size, 2, none⟩ = some (.slice (some ⟨nb, noff, none⟩) sn nc) ∧ w'.cell? ⟨w.heap.size, 3, none⟩ = some (.slice (some ⟨bb, boff, none⟩) sn bc) ∧ w'.cell? ⟨w.heap.size, 4, none⟩ = some (.int .i64 gm) ∧ w'.cell? ⟨bb, boff + k, none⟩ = some (.int .i64 x) ∧ w'.cell? ⟨nb, noff + k, none⟩ = some (.slice uo (g.next.getD k []).length uc)) (exact hS _ (by first | exact (Below.refl _ _).drew | exact Below.refl _ _ | exact undrewB hb4)) ((go_at_call 34; refine hal.mono ?_; rintro e w4 ⟨rfl, hb4⟩))
            go_wp2_with fail
            go_ret
            rw [HG.out]
            exact ⟨rfl, hbw.trans ((undrewB hb4).mono hbw.size)⟩
          · have HGk : Hid (GSet g k) := hgs.2 ⟨by omega, by omega⟩
            have HRk : Hid (∀ j, j < (g.next.getD k []).length → ¬ GNext g k j → gc = 9) := fun j hj h => HRow.out k (by rw [← HSN.out] at *; exact hlt) fun h' => h (h'.2 j hj)
            have HGN : Hid (∀ j, GNext g k j ↔ (0 ≤ (g.next.getD k []).getD j 0 ∧ (g.next.getD k []).getD j 0 < sn)) := fun j => by unfold GNext; rw [HSN.out]
            have HAdd : Hid ((∀ j, j < (g.next.getD k []).length → GNext g k j) → ∀ j, j < k + 1 → GRow g j) := fun h j hj => by
              by_cases hjk : j < k
              · exact HRs.out j hjk
              · obtain rfl : j = k := by omega
                exact ⟨HGk.out, h⟩
            have HUI : Hid (IntsV wr (.slice uo (g.next.getD k []).length uc) (g.next.getD k [])) := hui
            obtain ⟨ln, hln⟩ : ∃ ln, ln = (g.next.getD k []).length := ⟨_, rfl⟩
            have HLN : Hid (ln = (g.next.getD k []).length) := hln
            rw [← hln] at hS HUI hzk HRk HAdd
            clear hVr hgs hui HRn HRow HOk hcn hln
            go_wp2_with fail
            have t0 : decide (x < 0) = false := decide_eq_false (by omega)
            have t1 : decide (top < x) = false := decide_eq_false (by omega)
            go_region_held3 (fun w' => w'.cell? ⟨w.heap.size, 0, none⟩ = some (.slice so sn sc) ∧ w'.cell? ⟨w.heap.size, 1, none⟩ = some (.int .i64 gi) ∧ w'.cell? ⟨w.heap.size, 2, none⟩ = some (.slice (some ⟨nb, noff, none⟩) sn nc) ∧ w'.cell? ⟨w.heap.size, 3, none⟩ = some (.slice (some ⟨bb, boff, none⟩) sn bc) ∧ w'.cell? ⟨w.heap.size, 4, none⟩ = some (.int .i64 gm) ∧ w'.cell? ⟨bb, boff + k, none⟩ = some (.int .i64 x) ∧ w'.cell? ⟨nb, noff + k, none⟩ = some (.slice uo ln uc)) (exact hS _ (by first | exact (Below.refl _ _).drew | exact Below.refl _ _ | exact undrewB hb4)) ((go_at_call 34; refine hal.mono ?_; rintro e w4 ⟨rfl, hb4⟩))
            have hb4' := undrewB hb4
            obtain ⟨a0, a1, a2, a3, a4, a5, a6⟩ := hS w4 hb4'
            have HI4 : Hid (IntsV w4 (.slice uo ln uc) (g.next.getD k [])) := HUI.out.below hb4'
            have HB4 : Hid (Below W0.heap.size W0 w4) := HB.out.trans (hb4'.mono HB.out.size)
            have hbw4 := hbw.trans (hb4'.mono hbw.size)
            clear t0 t1 hS hal hb4 HUI
            go_wp2_with fail
            go_loop [71] (fun i => ∃ q : Nat, q ≤ ln ∧ i = .int .i64 q ∧ Hid (∀ j, j < q → GNext g k j)) (fun i => ln - (intOf i).toNat)
            case atStart => exact ⟨0, Nat.zero_le _, rfl, fun j hj => absurd hj (Nat.not_lt_zero _)⟩
            case round =>
              obtain ⟨q, hq, rfl, HQ⟩ := hrel
              by_cases hlq : q < ln
              · obtain ⟨ub, uoff, rfl, hub, hcu⟩ := HI4.out.num (i := q) (by rw [← HLN.out]; exact hlq)
                have hgn := HGN.out q
                have hrk := HRk.out q hlq
                generalize (g.next.getD k []).getD q 0 = y at *
                by_cases hy0 : y < 0
                · have HG : Hid (gc = 9) := hrk (by rw [hgn]; omega)
                  clear hgn hrk
                  go_wp2_with fail
                  go_ret
                  rw [HG.out]
                  exact ⟨rfl, hbw4⟩
                · by_cases hy1 : (sn : Int) ≤ y
                  · have HG : Hid (gc = 9) := hrk (by rw [hgn]; omega)
                    clear hgn hrk
                    go_wp2_with fail
                    go_ret
                    rw [HG.out]
                    exact ⟨rfl, hbw4⟩
                  · have HQ' : Hid (∀ j, j < q + 1 → GNext g k j) := fun j hj => by
                      by_cases hjk : j < q
                      · exact HQ.out j hjk
                      · obtain rfl : j = q := by omega
                        exact hgn.2 ⟨by omega, by omega⟩
                    clear hgn hrk HQ
                    go_wp2_with fail
                    go_round
                    case rel => exact ⟨q + 1, hlq, by go_num, HQ'⟩
                    case measure => simp [intOf]; omega
              · obtain rfl : q = ln := by omega
                have HN' : Hid (∀ j, j < k + 1 → GRow g j) := HAdd.out HQ.out
                clear HQ
                go_wp2_with fail
                go_roundw
                case rel => exact ⟨k + 1, hlt, by go_num, HN', HB4⟩
                case measure => simp [intOf]; omega
      · obtain rfl : k = sn := by omega
        have HW : Hid (gc = 0) := HOk.out HRs.out
        go_wp2_with fail
        go_ret
        rw [HW.out]
        exact ⟨rfl, hbw⟩
end Go.Proofs.Ytknneajaklcjdaa
