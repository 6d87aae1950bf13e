/-
  The contract of the document's own GraphFault.
-/
import Derived.Test.YtknneajaklcjdaaRefIn
import Derived.Test.YtknneajaklcjdaaSCheck
namespace Go.Proofs.Ytknneajaklcjdaa
open Go.ChangeShapes Go.WideShapes Go.ChangeAt Go.RowKit Go.Deep
open Terms

theorem wrG {x : Int} (h1 : -9223372036854775808 ≤ x) (h2 : x ≤ 9223372036854775807) : IntKind.i64.wrap x = x := by
  rw [IntWalk.i64_left]
  exact IntWalk.wrap64_in x ⟨h1, h2⟩
theorem pow_six {k : Nat} (h : k ≤ 6) : (1 : Int) ≤ 2 ^ k ∧ (2 : Int) ^ k ≤ 64 := by
  have : k = 0 ∨ k = 1 ∨ k = 2 ∨ k = 3 ∨ k = 4 ∨ k = 5 ∨ k = 6 := by omega
  rcases this with rfl | rfl | rfl | rfl | rfl | rfl | rfl <;> decide
theorem in_yes {n low high : Int} (h : low ≤ n ∧ n ≤ high) (w : World) : Calls Try.prog 33 #[.int .i64 n, .int .i64 low, .int .i64 high] w fun e w' => e = .returned (.bool true) ∧ w' = w := by
  have := in_any n low high w
  rwa [decide_eq_true h] at this
theorem in_no {n low high : Int} (h : ¬ (low ≤ n ∧ n ≤ high)) (w : World) : Calls Try.prog 33 #[.int .i64 n, .int .i64 low, .int .i64 high] w fun e w' => e = .returned (.bool false) ∧ w' = w := by
  have := in_any n low high w
  rwa [decide_eq_false h] at this

set_option maxHeartbeats 1600000 in
set_option maxRecDepth 20000 in
theorem gfault_head (so no bo : Option Addr) (sc nc bc : Nat) (g : Gr) (w : World) (hh : ¬ GHead g) (hz1 : g.spots.length ≤ 140737488355328) (hz2 : g.next.length ≤ 140737488355328) (_hz3 : g.sets.length ≤ 140737488355328) :
    Calls Try.prog 19 #[.agg #[.slice so g.spots.length sc, .int .i64 g.init, .slice no g.next.length nc, .slice bo g.sets.length bc, .int .i64 g.many]] w fun e w' => e = .returned (.int .i64 (gcode g)) ∧ Below w.heap.size w w' := by
  have hA : ∀ o, Below w.heap.size w (w.alloc o) := fun o => (Below.refl _ _).alloc (Nat.le_refl _) o
  rw [gcode_head hh]
  have h7 : (20000 : Int) < (g.spots.length : Int) ∨ (¬ (20000 : Int) < (g.spots.length : Int) ∧ ¬ (g.next.length : Int) = (g.spots.length : Int)) ∨ (¬ (20000 : Int) < (g.spots.length : Int) ∧ g.next.length = g.spots.length ∧ ¬ (g.sets.length : Int) = (g.spots.length : Int)) ∨ (¬ (20000 : Int) < (g.spots.length : Int) ∧ g.next.length = g.spots.length ∧ g.sets.length = g.spots.length ∧ (¬ (0 ≤ g.init ∧ g.init ≤ (g.spots.length : Int)) ∨ ((0 ≤ g.init ∧ g.init ≤ (g.spots.length : Int)) ∧ ¬ (0 ≤ g.many ∧ g.many ≤ 6)))) := by
    refine Classical.byContradiction fun hc => hh ⟨?_, ?_, ?_, ?_, ?_, ?_, ?_⟩ <;> omega
  generalize g.spots.length = sn at *
  generalize g.next.length = nn at *
  generalize g.sets.length = bn at *
  generalize g.init = gi at *
  generalize g.many = gm at *
  clear hh
  have hnot : ∀ (x : Bool) (w : World), (Op.unary .not (.bool x)).run Try.prog w = .ok (.bool (!x)) w := fun _ _ => rfl
  rcases h7 with h1 | ⟨h1, h2⟩ | ⟨h1, h2, h3⟩ | ⟨h1, h2, h3, h4 | ⟨h4, h5⟩⟩
  · go_enter Try.func19, Try.ntmps19
    go_wp2
    go_ret
    exact ⟨rfl, hA _⟩
  · go_enter Try.func19, Try.ntmps19
    go_wp2
    go_ret
    exact ⟨rfl, hA _⟩
  · subst h2
    go_enter Try.func19, Try.ntmps19
    go_wp2
    go_ret
    exact ⟨rfl, hA _⟩
  · subst h2 h3
    have hI := fun w => in_no h4 w
    clear h4
    go_enter Try.func19, Try.ntmps19
    go_wp2_with (go_at_call 33; refine (hI _).mono ?_; rintro e w9 ⟨rfl, rfl⟩)
    go_ret
    exact ⟨rfl, hA _⟩
  · subst h2 h3
    have hI := fun w => in_yes h4 w
    have hJ := fun w => in_no h5 w
    clear h4 h5
    go_enter Try.func19, Try.ntmps19
    go_wp2_with (first | (go_at_call_of 33 gi; refine (hI _).mono ?_; rintro e w9 ⟨rfl, rfl⟩) | (go_at_call_of 33 gm; refine (hJ _).mono ?_; rintro e w9 ⟨rfl, rfl⟩))
    go_ret
    exact ⟨rfl, hA _⟩

set_option maxHeartbeats 3200000 in
set_option maxRecDepth 20000 in
/-- THE CONTRACT OF GraphFault. -/
theorem gfault_any (so no bo : Option Addr) (sc nc bc : Nat) (g : Gr) (w : World) (hz1 : g.spots.length ≤ 140737488355328) (hz2 : g.next.length ≤ 140737488355328) (hz3 : g.sets.length ≤ 140737488355328) (hzn : ∀ i, i < g.next.length → (g.next.getD i []).length ≤ 140737488355328)
    (hV : GraphV w (.slice so g.spots.length sc) (.slice no g.next.length nc) (.slice bo g.sets.length bc) g) :
    Calls Try.prog 19 #[.agg #[.slice so g.spots.length sc, .int .i64 g.init, .slice no g.next.length nc, .slice bo g.sets.length bc, .int .i64 g.many]] w fun e w' => e = .returned (.int .i64 (gcode g)) ∧ Below w.heap.size w w' := by
  by_cases hh0 : ¬ GHead g
  · exact gfault_head so no bo sc nc bc g w hh0 hz1 hz2 hz3
  · have hh := Classical.not_not.1 hh0
    clear hh0
    obtain ⟨W0, hW0⟩ : ∃ W0, W0 = w.alloc (.cells #[.slice so g.spots.length sc, .int .i64 g.init, .slice no g.next.length nc, .slice bo g.sets.length bc, .int .i64 g.many] 26) := ⟨_, rfl⟩
    have hA : Below w.heap.size w W0 := by rw [hW0]; exact (Below.refl _ _).alloc (Nat.le_refl _) _
    have hSt : W0.cell? ⟨w.heap.size, 0, none⟩ = some (.slice so g.spots.length sc) ∧ W0.cell? ⟨w.heap.size, 1, none⟩ = some (.int .i64 g.init) ∧ W0.cell? ⟨w.heap.size, 2, none⟩ = some (.slice no g.next.length nc) ∧ W0.cell? ⟨w.heap.size, 3, none⟩ = some (.slice bo g.sets.length bc) ∧ W0.cell? ⟨w.heap.size, 4, none⟩ = some (.int .i64 g.many) := by
      refine ⟨?_, ?_, ?_, ?_, ?_⟩ <;> (rw [hW0]; simp [go_sem])
    have HRow : Hid (∀ i, i < g.spots.length → ¬ GRow g i → gcode g = 9) := fun i hi h => gcode_row hi h
    have HOk : Hid ((∀ i, i < g.spots.length → GRow g i) → gcode g = 0) := gcode_ok hh
    have HV : Hid (GraphV W0 (.slice so g.spots.length sc) (.slice no g.next.length nc) (.slice bo g.sets.length bc) g) := hV.below hA
    have h1 : ¬ (20000 : Int) < (g.spots.length : Int) := by have := hh.n; omega
    have h2 := hh.next
    have h3 := hh.sets
    have hI := fun w => in_yes (show 0 ≤ g.init ∧ g.init ≤ (g.spots.length : Int) from ⟨hh.init0, hh.init1⟩) w
    have hJ := fun w => in_yes (show 0 ≤ g.many ∧ g.many ≤ 6 from ⟨hh.many0, hh.many6⟩) w
    have hn20 : g.spots.length ≤ 20000 := hh.n
    obtain ⟨gm, hgm⟩ : ∃ gm : Nat, g.many = gm := ⟨g.many.toNat, by have := hh.many0; omega⟩
    have hgm6 : gm ≤ 6 := by have := hh.many6; omega
    have HTop : Hid (top g = 2 ^ gm - 1) := by show top g = _; unfold top; rw [hgm]; rfl
    have HN : Hid (g.next.length = g.spots.length) := h2
    have HS : Hid (g.sets.length = g.spots.length) := h3
    rw [h2, h3, hgm] at hSt hW0
    rw [h2, h3] at HV
    rw [h2, h3, hgm]
    rw [hgm] at hJ
    have HZ : Hid (∀ i, i < g.spots.length → (g.next.getD i []).length ≤ 140737488355328) := fun i hi => hzn i (by rw [h2]; exact hi)
    have HGS : Hid (∀ i, GSet g i ↔ (0 ≤ g.sets.getD i 0 ∧ g.sets.getD i 0 ≤ 2 ^ gm - 1)) := fun i => by unfold GSet; rw [HTop.out]
    generalize g.init = gi at *
    obtain ⟨sn, hsn⟩ : ∃ sn, sn = g.spots.length := ⟨_, rfl⟩
    have HSN : Hid (sn = g.spots.length) := hsn
    rw [← hsn] at hSt HV hW0 HN HS HZ HRow HOk h1 hI hn20 ⊢
    clear hh h2 h3 hV hz1 hz2 hz3 hzn hsn hgm
    obtain ⟨k0, k1, k2, k3, k4⟩ := hSt
    generalize gcode g = gc at *
    have hnot : ∀ (x : Bool) (w : World), (Op.unary .not (.bool x)).run Try.prog w = .ok (.bool (!x)) w := fun _ _ => rfl
    go_enter Try.func19, Try.ntmps19
    go_wp2_with (first | (go_at_call_of 33 gi; refine (hI _).mono ?_; rintro e w7 ⟨rfl, rfl⟩) | (go_at_call_of 33 gm; refine (hJ _).mono ?_; rintro e w8 ⟨rfl, rfl⟩))
    rw [← hW0]
    clear hI hJ hW0 k0 k1
    have HP6 : Hid (∀ k : Nat, k ≤ gm → (1 : Int) ≤ 2 ^ k ∧ (2 : Int) ^ k ≤ 64) := fun k hk => pow_six (by omega)
    go_loop [4, 5] (fun p i => ∃ k : Nat, k ≤ gm ∧ i = .int .i64 k ∧ p = .int .i64 (2 ^ k)) (fun _ i => gm - (intOf i).toNat)
    case atStart => exact ⟨0, Nat.zero_le _, rfl, rfl⟩
    case round =>
      obtain ⟨k, hk, rfl, rfl⟩ := hrel
      by_cases hlt : k < gm
      · obtain ⟨p0, p1⟩ := HP6.out k hk
        have HPs : Hid ((2 : Int) ^ (k + 1) = 2 ^ k * 2) := Int.pow_succ _ _
        generalize (2 : Int) ^ k = pk at *
        have hw : IntKind.i64.wrap (pk * 2) = pk * 2 := wrG (by omega) (by omega)
        go_wp2_with fail
        go_round
        case rel => exact ⟨k + 1, hlt, by go_num, by rw [HPs.out]⟩
        case measure => simp [intOf]; omega
      · obtain rfl : k = gm := by omega
        obtain ⟨p0, p1⟩ := HP6.out k hk
        generalize (2 : Int) ^ k = pk at *
        have hw : IntKind.i64.wrap (pk - 1) = pk - 1 := wrG (by omega) (by omega)
        clear HP6 HTop hlt
        go_wp2_with fail
        go_loop [6] (fun i => ∃ q : Nat, q ≤ sn ∧ i = .int .i64 q ∧ Hid (∀ j, j < q → GRow g j)) (fun i => sn - (intOf i).toNat)
        case atStart => exact ⟨0, Nat.zero_le _, rfl, fun j hj => absurd hj (Nat.not_lt_zero _)⟩
        case round =>
          obtain ⟨q, hq, rfl, HRs⟩ := hrel
          by_cases hlt : q < sn
          · obtain ⟨bb, boff, rfl, hbb, hcb⟩ := HV.out.sets.num (i := q) (by rw [HS.out]; exact hlt)
            obtain ⟨nb, noff, rfl, hnb, uo, uc, hcn, hui⟩ := HV.out.next.row (i := q) (by rw [HN.out]; exact hlt)
            have hzk := HZ.out q hlt
            have hgs := HGS.out q
            generalize g.sets.getD q 0 = x at *
            by_cases hx : 0 ≤ x ∧ x ≤ pk - 1
            · have hX := fun w => in_yes hx w
              have HGk : Hid (GSet g q) := hgs.2 hx
              have HRk : Hid (∀ j, j < (g.next.getD q []).length → ¬ GNext g q j → gc = 9) := fun j hj h => HRow.out q hlt fun h' => h (h'.2 j hj)
              have HGN : Hid (∀ j, GNext g q j ↔ (0 ≤ (g.next.getD q []).getD j 0 ∧ (g.next.getD q []).getD j 0 ≤ (sn : Int) - 1)) := fun j => by unfold GNext; rw [HSN.out]; omega
              have HAdd : Hid ((∀ j, j < (g.next.getD q []).length → GNext g q j) → ∀ j, j < q + 1 → GRow g j) := fun h j hj => by
                by_cases hjk : j < q
                · exact HRs.out j hjk
                · obtain rfl : j = q := by omega
                  exact ⟨HGk.out, h⟩
              have HUI : Hid (IntsV W0 (.slice uo (g.next.getD q []).length uc) (g.next.getD q [])) := hui
              obtain ⟨ln, hln⟩ : ∃ ln, ln = (g.next.getD q []).length := ⟨_, rfl⟩
              have HLN : Hid (ln = (g.next.getD q []).length) := hln
              rw [← hln] at hcn HUI hzk HRk HAdd
              clear hgs hui hln hx
              go_wp2_with (go_at_call 33; refine (hX _).mono ?_; rintro e w8 ⟨rfl, rfl⟩)
              go_loop [7] (fun i => ∃ r : Nat, r ≤ ln ∧ i = .int .i64 r ∧ Hid (∀ j, j < r → GNext g q j)) (fun i => ln - (intOf i).toNat)
              case atStart => exact ⟨0, Nat.zero_le _, rfl, fun j hj => absurd hj (Nat.not_lt_zero _)⟩
              case round =>
                obtain ⟨r, hr, rfl, HQ⟩ := hrel
                by_cases hlr : r < ln
                · obtain ⟨ub, uoff, rfl, hub, hcu⟩ := HUI.out.num (i := r) (by rw [← HLN.out]; exact hlr)
                  have hgn := HGN.out r
                  have hrk := HRk.out r hlr
                  generalize (g.next.getD q []).getD r 0 = y at *
                  have hws : IntKind.i64.wrap ((sn : Int) - 1) = (sn : Int) - 1 := wrG (by omega) (by omega)
                  by_cases hy : 0 ≤ y ∧ y ≤ (sn : Int) - 1
                  · have hY := fun w => in_yes hy w
                    have HQ' : Hid (∀ j, j < r + 1 → GNext g q j) := fun j hj => by
                      by_cases hjk : j < r
                      · exact HQ.out j hjk
                      · obtain rfl : j = r := by omega
                        exact hgn.2 hy
                    clear hgn hrk HQ hy hX
                    go_wp2_with (go_at_call 33; refine (hY _).mono ?_; rintro e w8 ⟨rfl, rfl⟩)
                    go_round
                    case rel => exact ⟨r + 1, hlr, by go_num, HQ'⟩
                    case measure => simp [intOf]; omega
                  · have hY := fun w => in_no hy w
                    have HG : Hid (gc = 9) := hrk (by rw [hgn]; exact hy)
                    clear hgn hrk HQ hy hX
                    go_wp2_with (go_at_call 33; refine (hY _).mono ?_; rintro e w8 ⟨rfl, rfl⟩)
                    go_ret
                    rw [HG.out]
                    exact ⟨rfl, hA⟩
                · obtain rfl : r = ln := by omega
                  have HN' : Hid (∀ j, j < q + 1 → GRow g j) := HAdd.out HQ.out
                  clear HQ hX
                  go_wp2_with fail
                  go_round
                  case rel => exact ⟨q + 1, hlt, by go_num, HN'⟩
                  case measure => simp [intOf]; omega
            · have hX := fun w => in_no hx w
              have HG : Hid (gc = 9) := HRow.out q hlt fun h => hx (hgs.1 h.1)
              clear hgs hx hui
              go_wp2_with (go_at_call 33; refine (hX _).mono ?_; rintro e w8 ⟨rfl, rfl⟩)
              go_ret
              rw [HG.out]
              exact ⟨rfl, hA⟩
          · obtain rfl : q = sn := by omega
            have HG : Hid (gc = 0) := HOk.out HRs.out
            go_wp2_with fail
            go_ret
            rw [HG.out]
            exact ⟨rfl, hA⟩
end Go.Proofs.Ytknneajaklcjdaa
