/-
  The contract of the document's own reachedFrom.
-/
import Derived.Test.YtknneajaklcjdaaReachM
import Derived.Test.YtknneajaklcjdaaLook0
namespace Go.Proofs.Ytknneajaklcjdaa
open Go.ChangeShapes Go.WideShapes Go.ChangeAt Go.RowKit Go.Deep
open Terms

open Classical in
/-- so many of a row are not gone through yet. -/
noncomputable def cntW (B n : Nat) (w : World) : Nat := ((List.range n).filter fun j => decide (w.cell? ⟨B, j, none⟩ ≠ some (.int .i64 2))).length
theorem cntW_row {w : World} {B n : Nat} {st : Nat → Nat} (h : w.rowIs B 3 n (fun j => .int .i64 (st j : Int))) : cntW B n w = cntN st n := by
  unfold cntW cntN
  congr 1
  refine List.filter_congr fun j hj => ?_
  rw [h.cell (List.mem_range.1 hj)]
  by_cases h2 : st j = 2
  · simp [h2]
  · have : ¬ ((st j : Int) = 2) := by omega
    simp [h2, this]
open Classical in
/-- what is reached from some places. -/
noncomputable def reachB (nx : Nat → List Nat) (fr : List Nat) (n : Nat) : List Bool := (List.range n).map fun j => decide (∃ f ∈ fr, Way nx f j)
theorem row_upd {w : World} {B n : Nat} {st : Nat → Nat} {v : Nat} (h : w.rowIs B 3 n (fun j => .int .i64 (st j : Int))) (i : Nat) : (w.setCell ⟨B, i, none⟩ (.int .i64 (v : Int))).rowIs B 3 n (fun j => .int .i64 (upd st i v j : Int)) :=
  (h.set i (.int .i64 (v : Int))).congr fun j _ => by
    unfold upd
    by_cases hj : j = i
    · subst hj; simp
    · simp [hj]

/-- behind a pass: the marks, and whether there is something new. -/
def OutInv (n : Nat) (nx : Nat → List Nat) (fr : List Nat) (B : Nat) (wr : World) (ag : Bool) : Prop := ∃ st, RInv n nx fr st ∧ wr.rowIs B 3 n (fun j => .int .i64 (st j : Int)) ∧ (ag = false → ∀ j, j < n → st j ≠ 1)
/-- in a pass. -/
def PassInv (n : Nat) (nx : Nat → List Nat) (fr : List Nat) (C0 B : Nat) (wr : World) (c : Nat) (ag : Bool) : Prop := ∃ st, RInv n nx fr st ∧ wr.rowIs B 3 n (fun j => .int .i64 (st j : Int)) ∧ (ag = false → ∀ j, j < c → st j ≠ 1) ∧ cntN st n ≤ C0 ∧ (ag = true → cntN st n < C0)
/-- at a place. -/
def AtInv (n : Nat) (nx : Nat → List Nat) (fr : List Nat) (C0 B : Nat) (wr : World) (c q : Nat) : Prop := ∃ st, RAt n nx fr st c q ∧ wr.rowIs B 3 n (fun j => .int .i64 (st j : Int)) ∧ cntN st n < C0

set_option maxHeartbeats 3200000 in
set_option maxRecDepth 20000 in
/-- THE CONTRACT OF reachedFrom. -/
theorem reachedFrom_any (so no bo po : Option Addr) (sc nn nc bn bc pc : Nat) (gi gm : Int) (n : Nat) (nx : Nat → List Nat) (fr : List Nat) (w : World) (hn : n ≤ 20000) (hnx : ∀ i, i < n → ∀ k ∈ nx i, k < n) (hfr : ∀ f ∈ fr, f < n) (hfl : fr.length ≤ 140737488355328) (hxl : ∀ i, i < n → (nx i).length ≤ 140737488355328)
    (hRow : ∀ p, p < n → ∃ b off, no = some ⟨b, off, none⟩ ∧ b < w.heap.size ∧ ∃ uo uc, w.cell? ⟨b, off + p, none⟩ = some (.slice uo (nx p).length uc) ∧ NatsV w (.slice uo (nx p).length uc) (nx p)) (hnn : nn = n) (hP : NatsV w (.slice po fr.length pc) fr) :
    Calls Try.prog 21 #[.agg #[.slice so n sc, .int .i64 gi, .slice no nn nc, .slice bo bn bc, .int .i64 gm], .slice po fr.length pc] w fun e w' => ∃ v, e = .returned v ∧ Below w.heap.size w w' ∧ Hid (BoolsV w' v (reachB nx fr n)) := by
  subst hnn
  obtain ⟨m, hm⟩ : ∃ m, m = fr.length := ⟨_, rfl⟩
  have HM : Hid (m = fr.length) := hm
  have HP : Hid (NatsV w (.slice po m pc) fr) := by rw [hm]; exact hP
  have HFr : Hid (∀ k, k < m → fr.getD k 0 < nn) := fun k hk => hfr _ (by rw [List.getD_eq_getElem?_getD, List.getElem?_eq_getElem (by omega)]; exact List.getElem_mem _)
  have HTk : Hid (∀ k, k < m → ∀ j, (if j ∈ fr.take (k + 1) then 1 else 0 : Nat) = upd (fun j => if j ∈ fr.take k then 1 else 0) (fr.getD k 0) 1 j) := fun k hk j => by
    have hmem : j ∈ fr.take (k + 1) ↔ j ∈ fr.take k ∨ j = fr.getD k 0 := by
      rw [List.take_succ_eq_append_getElem (by omega), List.getD_eq_getElem?_getD, List.getElem?_eq_getElem (by omega), List.mem_append, List.mem_singleton]
      rfl
    unfold upd
    by_cases hj : j = fr.getD k 0
    · rw [if_pos (hmem.2 (.inr hj)), if_pos hj]
    · rw [if_neg hj]
      show _ = if j ∈ fr.take k then 1 else 0
      by_cases hj2 : j ∈ fr.take k
      · rw [if_pos (hmem.2 (.inl hj2)), if_pos hj2]
      · rw [if_neg (fun h => (hmem.1 h).elim hj2 hj), if_neg hj2]
  have HRow : Hid (∀ p, p < nn → ∃ b off, no = some ⟨b, off, none⟩ ∧ b < w.heap.size ∧ ∃ uo uc, w.cell? ⟨b, off + p, none⟩ = some (.slice uo (nx p).length uc) ∧ NatsV w (.slice uo (nx p).length uc) (nx p)) := hRow
  have HXl : Hid (∀ i, i < nn → (nx i).length ≤ 140737488355328) := hxl
  have HNx : Hid (∀ i, i < nn → ∀ k, k < (nx i).length → (nx i).getD k 0 < nn) := fun i hi k hk => hnx i hi _ (by rw [List.getD_eq_getElem?_getD, List.getElem?_eq_getElem hk]; exact List.getElem_mem _)
  have HAll : Hid (∀ st, RInv nn nx fr st → (∀ j, j < nn → st j ≠ 1) → ∀ i, (0 < st i ↔ ∃ f ∈ fr, Way nx f i)) := fun st h1 h2 i => h1.all hnx hfr h2 i
  have hmk := run_make_row' (P := Try.prog) 24 3 (.int .i64 0) 8 Try.underlying24 infoInt rfl .i64 .i64 nn (by omega) (by omega)
  obtain ⟨W0, hW0⟩ : ∃ W0, W0 = w.alloc (.cells #[.slice so nn sc, .int .i64 gi, .slice no nn nc, .slice bo bn bc, .int .i64 gm] 26) := ⟨_, rfl⟩
  have hrow0 := World.rowIs_made W0 (.int .i64 0) nn 3
  have hs0 : W0.heap.size = w.heap.size + 1 := by rw [hW0]; simp
  have hb0 : Below w.heap.size w W0 := by rw [hW0]; exact (Below.refl _ _).alloc (Nat.le_refl _) _
  have k2 : W0.cell? ⟨w.heap.size, 2, none⟩ = some (.slice no nn nc) := by rw [hW0]; simp [go_sem]
  have HK : Hid (∀ w1, Below (w.heap.size + 1) W0 w1 → Below w.heap.size w w1 ∧ w1.cell? ⟨w.heap.size, 2, none⟩ = some (.slice no nn nc)) := fun w1 hb => ⟨hb0.trans (hb.mono (by omega)), (hb.cell (p := ⟨w.heap.size, 2, none⟩) (by show w.heap.size < _; omega)).trans k2⟩
  rw [hs0] at hrow0
  have HR0 : Hid ((W0.alloc (.cells (madeCells #[.int .i64 0] nn) 3)).rowIs (w.heap.size + 1) 3 nn (fun j => .int .i64 (((if j ∈ fr.take 0 then 1 else 0 : Nat)) : Int))) := hrow0.congr fun j _ => by simp
  have HB0 : Hid (Below (w.heap.size + 1) W0 (W0.alloc (.cells (madeCells #[.int .i64 0] nn) 3))) := (Below.refl _ _).alloc (by omega) _
  have HW0 : Hid (W0 = w.alloc (.cells #[.slice so nn sc, .int .i64 gi, .slice no nn nc, .slice bo bn bc, .int .i64 gm] 26)) := hW0
  rw [← hm] at hfl ⊢
  clear hm hP hRow hxl hnx hfr k2 hs0 hb0 hrow0
  go_enter Try.func21, Try.ntmps21
  go_wp2_with fail
  rw [← hW0]
  clear hW0 hmk
  go_loopw [6] (fun i wr => ∃ k : Nat, k ≤ m ∧ i = .int .i64 k ∧ Hid (wr.rowIs (w.heap.size + 1) 3 nn (fun j => .int .i64 (((if j ∈ fr.take k then 1 else 0 : Nat)) : Int))) ∧ Hid (Below (w.heap.size + 1) W0 wr)) (fun i _ => m - (intOf i).toNat)
  case atStart => exact ⟨0, Nat.zero_le _, rfl, HR0.out, HB0.out⟩
  case round =>
    obtain ⟨k, hk, rfl, HR, HB⟩ := hrel
    obtain ⟨hbw, kr2⟩ := HK.out wr HB.out
    by_cases hlt : k < m
    · obtain ⟨pb, poff, rfl, hpb, hcp0⟩ := HP.out.num (i := k) (by rw [← HM.out]; exact hlt)
      have hcp := (hbw.cell (p := ⟨pb, poff + k, none⟩) hpb).trans hcp0
      have hpn := HFr.out k hlt
      have htk := HTk.out k hlt
      generalize fr.getD k 0 = p at *
      have hce := HR.out.cell hpn
      have hfz := HR.out.frozen p
      have HN : Hid ((wr.setCell ⟨w.heap.size + 1, p, none⟩ (.int .i64 1)).rowIs (w.heap.size + 1) 3 nn (fun j => .int .i64 (((if j ∈ fr.take (k + 1) then 1 else 0 : Nat)) : Int))) := (row_upd (v := 1) HR.out p).congr fun j _ => by rw [htk j]
      have HBn : Hid (Below (w.heap.size + 1) W0 (wr.setCell ⟨w.heap.size + 1, p, none⟩ (.int .i64 1))) := HB.out.setCell (Nat.le_refl _) _
      generalize (if p ∈ fr.take k then 1 else 0 : Nat) = old at *
      clear htk hcp0 HR
      go_wp2_with fail
      go_roundw
      case rel => exact ⟨k + 1, hlt, by go_num, HN, HBn⟩
      case measure => simp [intOf]; omega
    · obtain rfl : k = m := by omega
      have HI : Hid (∃ st, RInv nn nx fr st ∧ wr.rowIs (w.heap.size + 1) 3 nn (fun j => .int .i64 (st j : Int))) := ⟨_, RInv.start, HR.out.congr fun j _ => by rw [List.take_of_length_le (by rw [HM.out]; omega)]⟩
      generalize wr = wo at *
      clear HR HTk HP HFr
      go_wp2_with fail
      go_loopw [7] (fun v wr => ∃ ag : Bool, v = .bool ag ∧ Hid (OutInv nn nx fr (w.heap.size + 1) wr ag) ∧ Hid (Below (w.heap.size + 1) W0 wr)) (fun v wr => 2 * cntW (w.heap.size + 1) nn wr + (match v with | .bool true => 1 | _ => 0))
      case atStart =>
        obtain ⟨st, h1, h2⟩ := HI.out
        exact ⟨true, rfl, ⟨st, h1, h2, fun h => by simp at h⟩, HB.out⟩
      case round =>
        obtain ⟨ag, rfl, HS, HBr⟩ := hrel
        obtain ⟨hbwr, krr⟩ := HK.out wr HBr.out
        cases ag with
        | true =>
          obtain ⟨C0, hC0⟩ : ∃ C0, C0 = cntW (w.heap.size + 1) nn wr := ⟨_, rfl⟩
          have HC0 : Hid (cntW (w.heap.size + 1) nn wr = C0) := hC0.symm
          have HP0 : Hid (PassInv nn nx fr C0 (w.heap.size + 1) wr 0 false) := by
            obtain ⟨st, h1, h2, _⟩ := HS.out
            exact ⟨st, h1, h2, fun _ j hj => by omega, by rw [hC0, cntW_row h2]; exact Nat.le_refl _, fun h => by simp at h⟩
          have HBp : Hid (Below (w.heap.size + 1) W0 wr) := HBr.out
          generalize wr = wp at *
          clear hC0 HS HBr
          go_wp2_with fail
          go_loopw [7, 8] (fun v i wr => ∃ (c : Nat) (ag : Bool), c ≤ nn ∧ v = .bool ag ∧ i = .int .i64 c ∧ Hid (PassInv nn nx fr C0 (w.heap.size + 1) wr c ag) ∧ Hid (Below (w.heap.size + 1) W0 wr)) (fun _ i _ => nn - (intOf i).toNat)
          case atStart => exact ⟨0, false, Nat.zero_le _, rfl, rfl, HP0, HBp⟩
          case round =>
            obtain ⟨c, ag, hc, rfl, rfl, HS2, HB2⟩ := hrel
            obtain ⟨hbw2, kr2⟩ := HK.out wr HB2.out
            by_cases hlc : c < nn
            · obtain ⟨st, h1, h2, h3, h4, h5⟩ := HS2.out
              have hcc := h2.cell hlc
              have hfc := h2.frozen c
              by_cases hone : st c = 1
              · rw [hone] at hcc
                have HSt : Hid (AtInv nn nx fr C0 (w.heap.size + 1) (wr.setCell ⟨w.heap.size + 1, c, none⟩ (.int .i64 2)) c 0) := ⟨_, h1.mark hone, row_upd (v := 2) h2 c, by have := cntN_two (st := st) (i := c) (by omega) hlc; omega⟩
                have HB3 : Hid (Below (w.heap.size + 1) W0 (wr.setCell ⟨w.heap.size + 1, c, none⟩ (.int .i64 2))) := HB2.out.setCell (Nat.le_refl _) _
                obtain ⟨nb, noff, rfl, hnb, uo, uc, hcu0, hnat⟩ := HRow.out c hlc
                have hxl := HXl.out c hlc
                have HNat : Hid (NatsV w (.slice uo (nx c).length uc) (nx c)) := hnat
                have hnx := HNx.out c hlc
                obtain ⟨ln, hln⟩ : ∃ ln, ln = (nx c).length := ⟨_, rfl⟩
                have HLN : Hid (ln = (nx c).length) := hln
                rw [← hln] at hcu0 hxl HNat hnx
                have HNX : Hid (∀ k, k < ln → (nx c).getD k 0 < nn) := hnx
                clear h1 h2 h3 h4 h5 HS2 hnat hnx hln hone HB2
                go_wp2_with fail
                generalize (wr.setCell ⟨w.heap.size + 1, c, none⟩ (.int .i64 2)) = wi at *
                go_loopw [9] (fun i wr => ∃ q : Nat, q ≤ ln ∧ i = .int .i64 q ∧ Hid (AtInv nn nx fr C0 (w.heap.size + 1) wr c q) ∧ Hid (Below (w.heap.size + 1) W0 wr)) (fun i _ => ln - (intOf i).toNat)
                case atStart => exact ⟨0, Nat.zero_le _, rfl, HSt, HB3⟩
                case round =>
                  obtain ⟨q, hq, rfl, HQ, HBq⟩ := hrel
                  obtain ⟨hbwq, krq⟩ := HK.out wr HBq.out
                  have hcu := (hbwq.cell (p := ⟨nb, noff + c, none⟩) hnb).trans hcu0
                  by_cases hlq : q < ln
                  · obtain ⟨ub, uoff, rfl, hub, hcy0⟩ := HNat.out.num (i := q) (by rw [← HLN.out]; exact hlq)
                    have hcy := (hbwq.cell (p := ⟨ub, uoff + q, none⟩) hub).trans hcy0
                    have hyn := HNX.out q hlq
                    obtain ⟨st, h1, h2, h3⟩ := HQ.out
                    by_cases hz : st ((nx c).getD q 0) = 0
                    · have HN : Hid (AtInv nn nx fr C0 (w.heap.size + 1) (wr.setCell ⟨w.heap.size + 1, (nx c).getD q 0, none⟩ (.int .i64 1)) c (q + 1)) := ⟨_, h1.new (by rw [← HLN.out]; exact hlq) hz, row_upd (v := 1) h2 _, by rw [cntN_one (by omega)]; exact h3⟩
                      have HBn : Hid (Below (w.heap.size + 1) W0 (wr.setCell ⟨w.heap.size + 1, (nx c).getD q 0, none⟩ (.int .i64 1))) := HBq.out.setCell (Nat.le_refl _) _
                      have hcz := h2.cell hyn
                      have hfz := h2.frozen ((nx c).getD q 0)
                      rw [hz] at hcz
                      generalize (nx c).getD q 0 = y at *
                      clear h1 h2 h3 HQ hcy0 hz
                      go_wp2_with fail
                      go_roundw
                      case rel => exact ⟨q + 1, hlq, by go_num, HN, HBn⟩
                      case measure => simp [intOf]; omega
                    · have HN : Hid (AtInv nn nx fr C0 (w.heap.size + 1) wr c (q + 1)) := ⟨st, h1.pass (by omega), h2, h3⟩
                      have hcz := h2.cell hyn
                      generalize (nx c).getD q 0 = y at *
                      obtain ⟨sy, hsy⟩ : ∃ sy, sy = st y := ⟨_, rfl⟩
                      rw [← hsy] at hcz hz
                      have hz' : ¬ ((sy : Int) = 0) := by omega
                      clear h1 h2 h3 HQ hcy0 hsy hz
                      go_wp2_with fail
                      go_roundw
                      case rel => exact ⟨q + 1, hlq, by go_num, HN, HBq⟩
                      case measure => simp [intOf]; omega
                  · obtain rfl : q = ln := by omega
                    have HN : Hid (PassInv nn nx fr C0 (w.heap.size + 1) wr (c + 1) true) := by
                      obtain ⟨st, h1, h2, h3⟩ := HQ.out
                      rw [HLN.out] at h1
                      exact ⟨st, h1.done, h2, fun h => by simp at h, Nat.le_of_lt h3, fun _ => h3⟩
                    clear HQ
                    go_wp2_with fail
                    go_roundw
                    case rel => exact ⟨c + 1, true, hlc, by rfl, by go_num, HN, HBq⟩
                    case measure => simp [intOf]; omega
              · have HN : Hid (PassInv nn nx fr C0 (w.heap.size + 1) wr (c + 1) ag) := ⟨st, h1, h2, fun ha j hj => by
                  by_cases hjc : j < c
                  · exact h3 ha j hjc
                  · obtain rfl : j = c := by omega
                    exact hone, h4, h5⟩
                obtain ⟨sy, hsy⟩ : ∃ sy, sy = st c := ⟨_, rfl⟩
                rw [← hsy] at hcc hone
                have hz' : ¬ ((sy : Int) = 1) := by omega
                clear h1 h2 h3 h4 h5 HS2 hsy hone
                go_wp2_with fail
                go_roundw
                case rel => exact ⟨c + 1, ag, hlc, by rfl, by go_num, HN, HB2⟩
                case measure => simp [intOf]; omega
            · obtain rfl : c = nn := by omega
              have HN : Hid (OutInv c nx fr (w.heap.size + 1) wr ag) := by
                obtain ⟨st, h1, h2, h3, _⟩ := HS2.out
                exact ⟨st, h1, h2, h3⟩
              have HMe : Hid (2 * cntW (w.heap.size + 1) c wr + (if ag = true then 1 else 0) < 2 * C0 + 1) := by
                obtain ⟨st, h1, h2, h3, h4, h5⟩ := HS2.out
                show _ < _
                rw [cntW_row h2]
                cases ag with
                | true => have := h5 rfl; simp; omega
                | false => simp; omega
              clear HS2
              go_wp2_with fail
              go_roundw
              case rel => exact ⟨ag, rfl, HN, HB2⟩
              case measure =>
                have h1 := HMe.out
                have h2 := HC0.out
                cases ag <;> simp at h1 ⊢ <;> omega
        | false =>
          obtain ⟨st, h1, h2, h3⟩ := HS.out
          have HRes : Hid (reachB nx fr nn = (List.range nn).map (fun j => decide (0 < st j))) := by
            classical
            show _ = _
            unfold reachB
            refine List.map_congr_left fun j _ => ?_
            have := HAll.out st h1 (h3 rfl) j
            by_cases hj : 0 < st j
            · rw [decide_eq_true hj, decide_eq_true (this.1 hj)]
            · rw [decide_eq_false hj, decide_eq_false (fun x => hj (this.2 x))]
          have HRow2 : Hid (wr.rowIs (w.heap.size + 1) 3 nn (fun j => .int .i64 (st j : Int))) := h2
          obtain ⟨i0, hi, hz0, hz1, hz2⟩ := info_parts infoBool
          generalize wr = wp at *
          clear h1 h2 h3 HS
          go_wp2_with fail
          go_loopw [10, 11] (fun out i wr => ∃ c : Nat, c ≤ nn ∧ i = .int .i64 c ∧ Hid (wr.ownsRow wp.heap.size 4 1 out c (bvals ((List.range c).map (fun j => decide (0 < st j))))) ∧ Hid (Below wp.heap.size wp wr)) (fun _ i _ => nn - (intOf i).toNat)
          case atStart => exact ⟨0, Nat.zero_le _, rfl, World.ownsRow_nil _ _ _ _, Below.refl _ _⟩
          case round =>
            obtain ⟨c, hc, rfl, HOwn, HBc⟩ := hrel
            have hbc := HBc.out
            have hrc := row_later HRow2.out hbc
            have hown := HOwn.out
            have hnb := hown.lt
            obtain ⟨oo, oc, rfl⟩ := owns_slice hown
            by_cases hlc : c < nn
            · have hcc := hrc.cell hlc
              have HN : Hid (bvals ((List.range (c + 1)).map (fun j => decide (0 < st j))) = bvals ((List.range c).map (fun j => decide (0 < st j))) ++ [.bool (decide (0 < st c))]) := by
                show _ = _
                rw [List.range_succ, List.map_append, bvals, List.map_append]
                rfl
              have hdc : decide (0 < (st c : Int)) = decide (0 < st c) := by
                by_cases h : 0 < st c
                · rw [decide_eq_true h, decide_eq_true (by omega)]
                · rw [decide_eq_false h, decide_eq_false (by omega)]
              generalize decide (0 < st c) = bb at *
              generalize (st c : Int) = sv at *
              have h63 : c + 1 ≤ maxLen := by unfold maxLen; omega
              have hkb : (c + 1) * 1 ≤ 140737488355328 := by omega
              have hown4 := fun o => hown.alloc o
              have hbase : ∀ o, wp.heap.size ≤ (wr.alloc o).heap.size := fun o => by have := hbc.size; simp; omega
              clear HOwn hown hrc
              go_wp2_with (at_builtin; (try rw [hdc]); refine wpList_append_own _ rfl (.tmp 81) (.tmp 87) 45 rfl wp.heap.size 4 i0 (.bool false) 1 1 Try.underlying45 hi hz0 hz1 hz2 rfl (by decide) (.slice oo c oc) c _ rfl (hown4 _) ⟨wr.heap.size, 0, none⟩ 1 1 [.bool bb] rfl rfl (cell_one_new _ _ _) (by intro u hu; simp at hu; subst hu; rfl) h63 hkb (hbase _) ?_; intro v' w4 hown' hgrow _)
              have hb4 : Below wp.heap.size wp w4 := (hbc.alloc hbc.size _).grown hgrow (hbase _) (fun z hz => (hnb z hz).1)
              have ho4 : w4.ownsRow wp.heap.size 4 1 v' (c + 1) (bvals ((List.range (c + 1)).map (fun j => decide (0 < st j)))) := by
                rw [HN.out]
                exact hown'
              go_roundw
              case rel => exact ⟨c + 1, hlc, by go_num, ho4, hb4⟩
              case measure => simp [intOf]; omega
            · obtain rfl : c = nn := by omega
              have HI : Hid (BoolsV wr (.slice oo c oc) (reachB nx fr c)) := by
                show BoolsV _ _ _
                rw [HRes.out]
                exact boolsV_of_owns (by simpa using hown)
              clear hown hrc HOwn
              go_wp2_with fail
              go_ret
              exact ⟨_, rfl, hbwr.trans (hbc.mono hbwr.size), HI⟩
end Go.Proofs.Ytknneajaklcjdaa
