/-
  The contract of the document's own ReachOf.
-/
import Derived.Test.YtbcjhkhndahdhaaDoorReachSM
import Derived.Test.YtbcjhkhndahdhaaDoorStepReach
import Derived.Test.YtbcjhkhndahdhaaDoorRefNext
import Derived.Test.YtbcjhkhndahdhaaDoorRefFirst
namespace Go.Proofs.YtbcjhkhndahdhaaDoor
open Go.ChangeShapes Go.WideShapes Go.ChangeAt Go.RowKit Go.Deep
open Terms Tm

open Classical in
/-- so many of a row are not gone through yet. -/
noncomputable def cntW (B n : Nat) (w : World) : Nat := ((List.range n).filter fun j => decide (w.cell? ⟨B, j, none⟩ ≠ some (.int .i64 2))).length
theorem cntW_row {w : World} {B n : Nat} {st : Nat → Nat} (h : w.rowIs B 3 n (fun j => .int .i64 (st j : Int))) : cntW B n w = cntN st n := by
  unfold cntW cntN
  congr 1
  refine List.filter_congr fun j hj => ?_
  rw [h.cell (List.mem_range.1 hj)]
  by_cases h2 : st j = 2
  · simp [h2]
  · have : ¬ ((st j : Int) = 2) := by omega
    simp [h2, this]
theorem row_upd {w : World} {B n : Nat} {st : Nat → Nat} {v : Nat} (h : w.rowIs B 3 n (fun j => .int .i64 (st j : Int))) (i : Nat) : (w.setCell ⟨B, i, none⟩ (.int .i64 (v : Int))).rowIs B 3 n (fun j => .int .i64 (upd st i v j : Int)) :=
  (h.set i (.int .i64 (v : Int))).congr fun j _ => by
    unfold upd
    by_cases hj : j = i
    · subst hj; simp
    · simp [hj]

theorem owns_lowS {w : World} {base : Nat} {e : TypeId} {s n : Nat} {v : Value} {xs : List Value} (h : w.ownsRow base e s v n xs) {p : Addr} (hp : p.block < base) (u : Value) : (w.setCell p u).ownsRow base e s v n xs := by
  obtain ⟨h1, h2⟩ := h
  refine ⟨h1, ?_⟩
  rcases h2 with h2 | ⟨g, cap, cur, hv, hg, hh, r⟩
  · exact .inl h2
  · exact .inr ⟨g, cap, cur, hv, hg, (Below.heap_setCell w p u g (by omega)).trans hh, r⟩
/-- behind a pass: the marks, and whether there is something new. -/
def OutS (N : Nat) (nx : Int → List Int) (first : Int) (B : Nat) (wr : World) (ag : Bool) : Prop := ∃ st, SInv N nx first st ∧ wr.rowIs B 3 N (fun j => .int .i64 (st j : Int)) ∧ (ag = false → ∀ j, j < N → st j ≠ 1)
/-- in a pass. -/
def PassS (N : Nat) (nx : Int → List Int) (first : Int) (C0 B : Nat) (wr : World) (c : Nat) (ag : Bool) : Prop := ∃ st, SInv N nx first st ∧ wr.rowIs B 3 N (fun j => .int .i64 (st j : Int)) ∧ (ag = false → ∀ j, j < c → st j ≠ 1) ∧ cntN st N ≤ C0 ∧ (ag = true → cntN st N < C0)
/-- at a state. -/
def AtS (N : Nat) (nx : Int → List Int) (first : Int) (C0 B : Nat) (wr : World) (c q : Nat) : Prop := ∃ st, SAt N nx first st c q ∧ wr.rowIs B 3 N (fun j => .int .i64 (st j : Int)) ∧ cntN st N < C0
theorem AtS.later {N : Nat} {nx : Int → List Int} {first : Int} {C0 B : Nat} {wr w' : World} {c q : Nat} (h : AtS N nx first C0 B wr c q) (hb : Below wr.heap.size wr w') : AtS N nx first C0 B w' c q := by
  obtain ⟨st, h1, h2, h3⟩ := h
  exact ⟨st, h1, row_later h2 hb, h3⟩

set_option maxHeartbeats 3200000 in
set_option maxRecDepth 20000 in
/-- THE CONTRACT OF ReachOf. -/
theorem rreach_any (va vr : Value) (m : Mo) (w : World) (hzv : m.vars.length * 40 ≤ 140737488355328) (hV : ModelV w va vr m) :
    Calls Tryd.prog 6 #[.agg #[va, vr]] w fun e w' => ∃ v, e = .returned (.tuple #[v, .int .i64 (mcode m)]) ∧ Below w.heap.size w w' ∧ Hid (IntsV w' v (reachL m)) := by
  have hA : ∀ o, Below w.heap.size w (w.alloc o) := fun o => (Below.refl _ _).alloc (Nat.le_refl _) o
  have hfi := fun o => rfirst_any va vr m (w.alloc o) hzv (hV.below (hA o))
  by_cases hm : mcode m = 0
  · have hcn := fun w' (hb : Below w.heap.size w w') => rcount_any va vr m w' (hV.below hb)
    rw [hm, if_pos rfl] at hfi
    rw [hm, if_pos rfl] at hcn
    obtain ⟨hf0, hf1⟩ := firstC_in hm
    have hN := (mcode_vars hm).prod (j := m.vars.length) (Nat.le_refl _)
    obtain ⟨N, hNe⟩ : ∃ N : Nat, prodTo m.vars m.vars.length = N := ⟨(prodTo m.vars m.vars.length).toNat, by omega⟩
    have HNx : Hid (∀ w' (_ : Below w.heap.size w w') (c : Nat), c < N → Calls Tryd.prog 14 #[.agg #[va, vr], .int .i64 (c : Int)] w' fun e w2 => ∃ v, e = .returned (.tuple #[v, .int .i64 0]) ∧ Below w'.heap.size w' w2 ∧ w2.ownsRow w'.heap.size 3 1 v (nextL m c).length (ivals (nextL m c))) := fun w' hb c hc => by
      have hw : wcode m c = 0 := wcode_yes hm (by rw [hNe]; omega)
      have h := rnext_own va vr m c w' (hV.below hb)
      rw [hw, show nxtL m c = nextL m c by unfold nxtL; rw [if_pos hw]] at h
      exact h
    have HIn : Hid (∀ x y : Int, 0 ≤ x ∧ x < N → y ∈ nextL m x → 0 ≤ y ∧ y < N) := fun x y hx hy => by rw [← hNe] at hx ⊢; exact nextL_in hm hx hy
    have HLe : Hid (∀ c : Nat, c < N → (nextL m c).length ≤ 20) := fun c hc => by
      have hw : wcode m c = 0 := wcode_yes hm (by rw [hNe]; omega)
      have h1 := nxtL_length m c
      rw [show nxtL m c = nextL m c by unfold nxtL; rw [if_pos hw]] at h1
      have h2 := (mcode_rules hm).1
      omega
    have HRes : Hid (reachL m = reachN (nextL m) (firstC m) N) := by show _ = _; unfold reachL; rw [if_pos hm, hNe, Int.toNat_natCast]
    change ∀ o, Calls Tryd.prog 12 #[.agg #[va, vr]] (w.alloc o) fun e w' => e = .returned (.tuple #[.int .i64 (firstC m), .int .i64 0]) ∧ Below (w.alloc o).heap.size (w.alloc o) w' at hfi
    rw [hNe] at hf1 hN hcn
    rw [hm]
    obtain ⟨ao, cap, rfl⟩ := hV.1.shape
    obtain ⟨ro, rc, rfl⟩ := hV.2.shape
    generalize reachL m = RL at *
    obtain ⟨fn, hfn⟩ : ∃ fn : Nat, firstC m = fn := ⟨(firstC m).toNat, by omega⟩
    rw [hfn] at hf0 hf1 hfi HRes
    have hfN : fn < N := by omega
    generalize nextL m = nx at *
    obtain ⟨hN0, hN1⟩ := hN
    have HV : Hid (Hid True) := trivial
    clear hV hm hNe hfn HV hf0 hf1
    generalize m.vars.length = n at *
    generalize m.rules.length = rn at *
    have hmk := run_make_row' (P := Tryd.prog) 26 3 (.int .i64 0) 8 Tryd.underlying26 infoInt rfl .i64 .i64 N (by omega) (by omega)
    go_enter Tryd.func6, Tryd.ntmps6
    go_wp2_with (first | (go_at_call 12; refine (hfi _).mono ?_; rintro e w1 ⟨rfl, hb1⟩; have hbw1 := (hA _).trans (hb1.mono (hA _).size); have k10 : w1.cell? ⟨w.heap.size, 0, none⟩ = some (.slice ao n cap) := (hb1.cell (p := ⟨w.heap.size, 0, none⟩) (by simp)).trans (by simp [go_sem]); have k11 : w1.cell? ⟨w.heap.size, 1, none⟩ = some (.slice ro rn rc) := (hb1.cell (p := ⟨w.heap.size, 1, none⟩) (by simp)).trans (by simp [go_sem]); have hs1 : w.heap.size < w1.heap.size := (by have := hb1.size; simp at this; omega); have hcn1 := hcn w1 hbw1) | (go_at_call 13; refine hcn1.mono ?_; rintro e w2 ⟨rfl, hb2⟩; have hbw2 := hbw1.trans (hb2.mono hbw1.size); have hrow0 := World.rowIs_made w2 (.int .i64 0) N 3; have hcf := hrow0.cell hfN; have hff := hrow0.frozen fn))
    have HK2 : Hid (∀ w', Below w2.heap.size w2 w' → Below w.heap.size w w' ∧ w'.cell? ⟨w.heap.size, 0, none⟩ = some (.slice ao n cap) ∧ w'.cell? ⟨w.heap.size, 1, none⟩ = some (.slice ro rn rc)) := fun w' hb => ⟨hbw2.trans (hb.mono hbw2.size), (hb.cell (p := ⟨w.heap.size, 0, none⟩) (Nat.lt_of_lt_of_le hs1 hb2.size)).trans ((hb2.cell (p := ⟨w.heap.size, 0, none⟩) hs1).trans k10), (hb.cell (p := ⟨w.heap.size, 1, none⟩) (Nat.lt_of_lt_of_le hs1 hb2.size)).trans ((hb2.cell (p := ⟨w.heap.size, 1, none⟩) hs1).trans k11)⟩
    have HI : Hid (OutS N nx (fn : Int) w2.heap.size (w2.alloc (.cells ((madeCells #[.int .i64 0] N).setIfInBounds fn (.int .i64 1)) 3)) true) := by
      have t := row_upd (st := fun _ => 0) (v := 1) (hrow0.congr (g := fun _ => .int .i64 ((0 : Nat) : Int)) fun _ _ => rfl) fn
      rw [World.setCell_alloc_at _ _ _ _ _ (by simp)] at t
      have h1 := SInv.start (N := N) (nx := nx) (first := (fn : Int)) (by omega)
      rw [Int.toNat_natCast] at h1
      exact ⟨_, h1, t, fun h => by simp at h⟩
    have HB : Hid (Below w2.heap.size w2 (w2.alloc (.cells ((madeCells #[.int .i64 0] N).setIfInBounds fn (.int .i64 1)) 3))) := (Below.refl _ _).alloc (Nat.le_refl _) _
    have HAll : Hid (∀ st, SInv N nx (fn : Int) st → (∀ j, j < N → st j ≠ 1) → ∀ i : Nat, (0 < st i ↔ RSt nx (fn : Int) (i : Int))) := fun st h1 h2 i => h1.all ⟨by omega, by omega⟩ HIn.out h2 i
    clear hcn1 hb1 hb2 hcn hfi hrow0 hcf hff k10 k11 hmk hbw1
    go_loopw [9] (fun v wr => ∃ ag : Bool, v = .bool ag ∧ Hid (OutS N nx (fn : Int) w2.heap.size wr ag) ∧ Hid (Below w2.heap.size w2 wr)) (fun v wr => 2 * cntW w2.heap.size N wr + (match v with | .bool true => 1 | _ => 0))
    case atStart => exact ⟨true, rfl, HI, HB⟩
    case round =>
      obtain ⟨ag, rfl, HS, HBr⟩ := hrel
      cases ag with
      | true =>
        obtain ⟨C0, hC0⟩ : ∃ C0, C0 = cntW w2.heap.size N wr := ⟨_, rfl⟩
        have HC0 : Hid (cntW w2.heap.size N wr = C0) := hC0.symm
        have HP0 : Hid (PassS N nx (fn : Int) C0 w2.heap.size wr 0 false) := by
          obtain ⟨st, h1, h2, _⟩ := HS.out
          exact ⟨st, h1, h2, fun _ j hj => by omega, by rw [hC0, cntW_row h2]; exact Nat.le_refl _, fun h => by simp at h⟩
        have HBp : Hid (Below w2.heap.size w2 wr) := HBr.out
        generalize wr = wp at *
        clear hC0 HS HBr
        go_wp2_with fail
        go_loopw [9, 10] (fun v i wr => ∃ (c : Nat) (ag : Bool), c ≤ N ∧ v = .bool ag ∧ i = .int .i64 c ∧ Hid (PassS N nx (fn : Int) C0 w2.heap.size wr c ag) ∧ Hid (Below w2.heap.size w2 wr)) (fun _ i _ => N - (intOf i).toNat)
        case atStart => exact ⟨0, false, Nat.zero_le _, rfl, rfl, HP0, HBp⟩
        case round =>
          obtain ⟨c, ag, hc, rfl, rfl, HS2, HB2⟩ := hrel
          by_cases hlc : c < N
          · obtain ⟨st, h1, h2, h3, h4, h5⟩ := HS2.out
            have hcc := h2.cell hlc
            have hfc := h2.frozen c
            by_cases hone : st c = 1
            · rw [hone] at hcc
              have HSt : Hid (AtS N nx (fn : Int) C0 w2.heap.size (wr.setCell ⟨w2.heap.size, c, none⟩ (.int .i64 2)) c 0) := ⟨_, h1.mark hone, row_upd (v := 2) h2 c, by have := cntN_two (st := st) (i := c) (by omega) hlc; omega⟩
              have HB3 : Hid (Below w2.heap.size w2 (wr.setCell ⟨w2.heap.size, c, none⟩ (.int .i64 2))) := HB2.out.setCell (Nat.le_refl _) _
              obtain ⟨hbw3, kr0, kr1⟩ := HK2.out _ HB3.out
              have hne := HNx.out _ hbw3 c hlc
              have hln20 := HLe.out c hlc
              have HNX : Hid (∀ j, j < (nx (c : Int)).length → 0 ≤ (nx (c : Int)).getD j 0 ∧ (nx (c : Int)).getD j 0 < N) := fun j hj => HIn.out c _ ⟨by omega, by omega⟩ (by rw [List.getD_eq_getElem?_getD, List.getElem?_eq_getElem hj]; exact List.getElem_mem _)
              have hB3 : w2.heap.size < wr.heap.size := h2.lt
              obtain ⟨ln, hln⟩ : ∃ ln, ln = (nx (c : Int)).length := ⟨_, rfl⟩
              have HLN : Hid (ln = (nx (c : Int)).length) := hln
              rw [← hln] at hne hln20 HNX
              have HSt2 : Hid (∀ w4, Below (wr.setCell ⟨w2.heap.size, c, none⟩ (.int .i64 2)).heap.size (wr.setCell ⟨w2.heap.size, c, none⟩ (.int .i64 2)) w4 → AtS N nx (fn : Int) C0 w2.heap.size w4 c 0 ∧ Below w2.heap.size w2 w4) := fun w4 hb => ⟨HSt.out.later hb, HB3.out.trans (hb.mono HB3.out.size)⟩
              clear h1 h2 h3 h4 h5 HS2 hln hone HB2 HB3 HSt
              go_wp2_with (go_at_call 14; refine hne.mono ?_; rintro e w4 ⟨lv, rfl, hb4, ho4⟩; obtain ⟨lo, lc, rfl⟩ := owns_slice ho4)
              obtain ⟨hst4, hbw4⟩ := HSt2.out w4 hb4
              have HI4 : Hid (AtS N nx (fn : Int) C0 w2.heap.size w4 c 0) := hst4
              have HB4 : Hid (Below w2.heap.size w2 w4) := hbw4
              have HO4 : Hid (w4.ownsRow (w2.heap.size + 1) 3 1 (.slice lo ln lc) ln (ivals (nx (c : Int)))) := owns_mono ho4 (by simp; omega)
              clear hst4 hbw4 HSt2 hne hb4 ho4 kr0 kr1
              go_loopw [13] (fun i wr => ∃ q : Nat, q ≤ ln ∧ i = .int .i64 q ∧ Hid (AtS N nx (fn : Int) C0 w2.heap.size wr c q) ∧ Hid (Below w2.heap.size w2 wr) ∧ Hid (wr.ownsRow (w2.heap.size + 1) 3 1 (.slice lo ln lc) ln (ivals (nx (c : Int))))) (fun i _ => ln - (intOf i).toNat)
              case atStart => exact ⟨0, Nat.zero_le _, rfl, HI4, HB4, HO4⟩
              case round =>
                obtain ⟨q, hq, rfl, HQ, HBq, HOq⟩ := hrel
                by_cases hlq : q < ln
                · obtain ⟨hy0, hy1⟩ := HNX.out q hlq
                  have hnvq : ∃ nb, lo = some ⟨nb, 0, none⟩ ∧ wr.cell? ⟨nb, q, none⟩ = some (.int .i64 ((nx (c : Int)).getD q 0)) := by
                    rcases HOq.out.2 with ⟨e, h0⟩ | ⟨nb, cap, cur, e, _⟩
                    · omega
                    · injection e with e1 _ _
                      subst e1
                      refine ⟨nb, rfl, ?_⟩
                      have hql : q < ln * 1 := by omega
                      rw [HOq.out.cellAt q hql]
                      have : q < (nx (c : Int)).length := by rw [← HLN.out]; exact hlq
                      simp [ivals, List.getD_eq_getElem?_getD, this]
                  obtain ⟨nb, rfl, hcy⟩ := hnvq
                  obtain ⟨y, hy⟩ : ∃ y : Nat, (nx (c : Int)).getD q 0 = y := ⟨((nx (c : Int)).getD q 0).toNat, by omega⟩
                  have hyt : ((nx (c : Int)).getD q 0).toNat = y := by omega
                  obtain ⟨st, h1, h2, h3⟩ := HQ.out
                  have hyN : y < N := by omega
                  rw [hy] at hcy
                  by_cases hz : st y = 0
                  · have HN : Hid (AtS N nx (fn : Int) C0 w2.heap.size (wr.setCell ⟨w2.heap.size, y, none⟩ (.int .i64 1)) c (q + 1)) := by
                      have := h1.new (by rw [← HLN.out]; exact hlq) hy0 (by rw [hyt]; exact hz)
                      rw [hyt] at this
                      exact ⟨_, this, row_upd (v := 1) h2 _, by rw [cntN_one (by omega)]; exact h3⟩
                    have HBn : Hid (Below w2.heap.size w2 (wr.setCell ⟨w2.heap.size, y, none⟩ (.int .i64 1))) := HBq.out.setCell (Nat.le_refl _) _
                    have HOn : Hid ((wr.setCell ⟨w2.heap.size, y, none⟩ (.int .i64 1)).ownsRow (w2.heap.size + 1) 3 1 (.slice (some ⟨nb, 0, none⟩) ln lc) ln (ivals (nx (c : Int)))) := owns_lowS HOq.out (by show w2.heap.size < _; omega) _
                    have hcz := h2.cell hyN
                    have hfz := h2.frozen y
                    rw [hz] at hcz
                    clear h1 h2 h3 HQ hz hy hyt hy0 hy1 HOq
                    go_wp2_with fail
                    go_roundw
                    case rel => exact ⟨q + 1, hlq, by go_num, HN, HBn, HOn⟩
                    case measure => simp [intOf]; omega
                  · have HN : Hid (AtS N nx (fn : Int) C0 w2.heap.size wr c (q + 1)) := ⟨st, h1.pass (by rw [hyt]; omega), h2, h3⟩
                    have hcz := h2.cell hyN
                    obtain ⟨sy, hsy⟩ : ∃ sy, sy = st y := ⟨_, rfl⟩
                    rw [← hsy] at hcz hz
                    have hz' : ¬ ((sy : Int) = 0) := by omega
                    clear h1 h2 h3 HQ hsy hz hy hyt hy0 hy1
                    go_wp2_with fail
                    go_roundw
                    case rel => exact ⟨q + 1, hlq, by go_num, HN, HBq, HOq⟩
                    case measure => simp [intOf]; omega
                · obtain rfl : q = ln := by omega
                  have HN : Hid (PassS N nx (fn : Int) C0 w2.heap.size wr (c + 1) true) := by
                    obtain ⟨st, h1, h2, h3⟩ := HQ.out
                    rw [HLN.out] at h1
                    exact ⟨st, h1.done, h2, fun h => by simp at h, Nat.le_of_lt h3, fun _ => h3⟩
                  clear HQ
                  go_wp2_with fail
                  go_roundw
                  case rel => exact ⟨c + 1, true, hlc, by rfl, by go_num, HN, HBq⟩
                  case measure => simp [intOf]; omega
            · have HN : Hid (PassS N nx (fn : Int) C0 w2.heap.size wr (c + 1) ag) := ⟨st, h1, h2, fun ha j hj => by
                by_cases hjc : j < c
                · exact h3 ha j hjc
                · obtain rfl : j = c := by omega
                  exact hone, h4, h5⟩
              obtain ⟨sy, hsy⟩ : ∃ sy, sy = st c := ⟨_, rfl⟩
              rw [← hsy] at hcc hone
              have hz' : ¬ ((sy : Int) = 1) := by omega
              clear h1 h2 h3 h4 h5 HS2 hsy hone
              go_wp2_with fail
              go_roundw
              case rel => exact ⟨c + 1, ag, hlc, by rfl, by go_num, HN, HB2⟩
              case measure => simp [intOf]; omega
          · obtain rfl : c = N := by omega
            have HN : Hid (OutS c nx (fn : Int) w2.heap.size wr ag) := by
              obtain ⟨st, h1, h2, h3, _⟩ := HS2.out
              exact ⟨st, h1, h2, h3⟩
            have HMe : Hid (2 * cntW w2.heap.size c wr + (if ag = true then 1 else 0) < 2 * C0 + 1) := by
              obtain ⟨st, h1, h2, h3, h4, h5⟩ := HS2.out
              show _ < _
              rw [cntW_row h2]
              cases ag with
              | true => have := h5 rfl; simp; omega
              | false => simp; omega
            clear HS2
            go_wp2_with fail
            go_roundw
            case rel => exact ⟨ag, rfl, HN, HB2⟩
            case measure =>
              have h1 := HMe.out
              have h2 := HC0.out
              cases ag <;> simp at h1 ⊢ <;> omega
      | false =>
        obtain ⟨st, h1, h2, h3⟩ := HS.out
        have HRe : Hid (RL = markTo st N) := by show _ = _; rw [HRes.out]; exact (markTo_reach (HAll.out st h1 (h3 rfl))).symm
        have HRow2 : Hid (wr.rowIs w2.heap.size 3 N (fun j => .int .i64 (st j : Int))) := h2
        have hbwr := (HK2.out wr HBr.out).1
        obtain ⟨i0, hi, hz0, hz1, hz2⟩ := info_parts infoInt
        generalize wr = wp at *
        clear h1 h2 h3 HS
        go_wp2_with fail
        go_loopw [14, 15] (fun out i wr => ∃ c : Nat, c ≤ N ∧ i = .int .i64 c ∧ Hid (wr.ownsRow wp.heap.size 3 1 out (markTo st c).length (ivals (markTo st c))) ∧ Hid (Below wp.heap.size wp wr)) (fun _ i _ => N - (intOf i).toNat)
        case atStart => exact ⟨0, Nat.zero_le _, rfl, World.ownsRow_nil _ _ _ _, Below.refl _ _⟩
        case round =>
          obtain ⟨c, hc, rfl, HOwn, HBc⟩ := hrel
          have hbc := HBc.out
          have hrc := row_later HRow2.out hbc
          have hown := HOwn.out
          have hnb := hown.lt
          obtain ⟨oo, oc, rfl⟩ := owns_slice hown
          by_cases hlc : c < N
          · have hcc := hrc.cell hlc
            have HPl : Hid ((markTo st c).length ≤ c) := markTo_length _ _
            clear hrc
            obtain ⟨sy, hsy⟩ : ∃ sy, sy = st c := ⟨_, rfl⟩
            rw [← hsy] at hcc
            by_cases hin : 0 < sy
            · have HN : Hid (markTo st (c + 1) = markTo st c ++ [(c : Int)]) := markTo_yes (by rw [← hsy]; exact hin)
              have hin' : (0 : Int) < (sy : Int) := by omega
              obtain ⟨L, hL⟩ : ∃ L, L = (markTo st c).length := ⟨_, rfl⟩
              have HL : Hid (L = (markTo st c).length) := hL
              rw [← hL] at hown hnb HPl ⊢
              have h63 : L + 1 ≤ maxLen := by have := HPl.out; unfold maxLen; omega
              have hkb : (L + 1) * 8 ≤ 140737488355328 := by have := HPl.out; omega
              have hown4 := fun o => hown.alloc o
              have hbase : ∀ o, wp.heap.size ≤ (wr.alloc o).heap.size := fun o => by have := hbc.size; simp; omega
              clear hL hin HOwn hown hsy
              go_wp2_with (at_builtin; refine wpList_append_own _ rfl (.tmp 84) (.tmp 86) 26 rfl wp.heap.size 3 i0 (.int .i64 0) 1 8 Tryd.underlying26 hi hz0 hz1 hz2 rfl (by decide) (.slice oo L oc) L _ rfl (hown4 _) ⟨wr.heap.size, 0, none⟩ 1 1 [.int .i64 c] rfl rfl (cell_one_new _ _ _) (by intro u hu; simp at hu; subst hu; rfl) h63 hkb (hbase _) ?_; intro v' w4 hown' hgrow _)
              have hb4 : Below wp.heap.size wp w4 := (hbc.alloc hbc.size _).grown hgrow (hbase _) (fun z hz => (hnb z hz).1)
              have ho4 : w4.ownsRow wp.heap.size 3 1 v' (markTo st (c + 1)).length (ivals (markTo st (c + 1))) := by
                rw [HN.out, List.length_append, ← HL.out]
                rw [show ivals (markTo st c ++ [(c : Int)]) = ivals (markTo st c) ++ [.int .i64 c] by simp [ivals]]
                exact hown'
              go_roundw
              case rel => exact ⟨c + 1, hlc, by go_num, ho4, hb4⟩
              case measure => simp [intOf]; omega
            · have HN : Hid (markTo st (c + 1) = markTo st c) := markTo_no (by rw [← hsy]; exact hin)
              have hin' : ¬ (0 : Int) < (sy : Int) := by omega
              clear hin hown hsy
              go_wp2_with fail
              exact ⟨⟨c + 1, hlc, by first | rfl | simp, by rw [HN.out]; exact HOwn.out, hbc⟩, by simp [intOf]; omega⟩
          · obtain rfl : c = N := by omega
            have HI2 : Hid (IntsV wr (.slice oo (markTo st c).length oc) RL) := by
              show IntsV _ _ _
              rw [HRe.out]
              exact intsV_of_owns hown
            clear hown hrc HOwn
            go_wp2_with fail
            go_ret2
            exact ⟨_, rfl, hbwr.trans (hbc.mono hbwr.size), HI2⟩
  · have hRL : reachL m = [] := by unfold reachL; rw [if_neg hm]
    rw [if_neg hm] at hfi
    rw [hRL]
    obtain ⟨ao, cap, rfl⟩ := hV.1.shape
    obtain ⟨ro, rc, rfl⟩ := hV.2.shape
    generalize mcode m = c at *
    generalize m.vars.length = n at *
    generalize m.rules.length = rn at *
    clear hV hRL
    go_enter Tryd.func6, Tryd.ntmps6
    go_wp2_with (go_at_call 12; refine (hfi _).mono ?_; rintro e w1 ⟨rfl, hb1⟩)
    go_ret2
    exact ⟨_, rfl, (hA _).trans (hb1.mono (hA _).size), none, 0, rfl, fun h => absurd rfl h⟩
end Go.Proofs.YtbcjhkhndahdhaaDoor
