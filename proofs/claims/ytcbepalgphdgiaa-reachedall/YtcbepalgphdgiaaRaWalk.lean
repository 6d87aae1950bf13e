/-
  The walk of ReachedAll.
-/
import Derived.Test.YtcbepalgphdgiaaRaM
namespace Go.Proofs.Ytcbepalgphdgiaa
open Go.ChangeShapes Go.WideShapes Go.ChangeAt Go.RowKit Go.Deep
open Terms

set_option maxHeartbeats 3200000 in
set_option maxRecDepth 20000 in
theorem reachedAll_walk (nv bv : Value) (ls : List (List Int)) (bs : List Int) (wi wm : Int) (w : World) (hL : ListsR w nv ls) (hlz0 : ls.length * 24 ≤ 140737488355328) (hS : IntsR w bv bs) (hwi : I64 wi) (hwm : I64 wm) :
    Calls Try.prog 4 #[.agg #[nv, bv, .int .i64 wi, .int .i64 wm]] w fun e w' => e = .returned (.bool true) ∧ Below w.heap.size w w' := by
  have hlz : ls.length ≤ 140737488355328 := by omega
  obtain ⟨no, nc, rfl⟩ : ∃ no nc, nv = .slice no ls.length nc := by obtain ⟨us, a, c, h, _⟩ := hL; exact ⟨a, c, h⟩
  obtain ⟨bo, bc, rfl⟩ : ∃ bo bc, bv = .slice bo bs.length bc := by obtain ⟨a, c, h, _⟩ := hS.v; exact ⟨a, c, h⟩
  obtain ⟨W0, hW0⟩ : ∃ W0, W0 = w.alloc (.cells #[.slice no ls.length nc, .slice bo bs.length bc, .int .i64 wi, .int .i64 wm] 25) := ⟨_, rfl⟩
  have hA : Below w.heap.size w W0 := by rw [hW0]; exact (Below.refl _ _).alloc (Nat.le_refl _) _
  have hgr := graphFn_got no bo nc bc ls bs wi wm W0 (hL.below hA) hlz (hS.below hA) hwi hwm
  generalize ls.length = nl at *
  generalize bs.length = bl at *
  clear hL hS
  subst hW0
  go_enter Try.func4, Try.ntmps4
  go_wp2_with (first
    | (go_at_call 9; refine hgr.mono ?_; rintro e w1 ⟨so1, sc1, no1, nc1, bo1, bc1, n, gi, mm, g, rfl, hb1, hnm, HG⟩; have HNm : Hid (n = min nl 20) := hnm; clear hnm; have hre := (fun o => (HG.out.later ((Below.refl _ _).alloc (Nat.le_refl w1.heap.size) o)).reached); have hn20 := HG.out.small; have hgn := HG.out.first)
    | (go_at_call 14; refine (hre _).mono ?_; rintro e w2 ⟨vo, vc, rfl, hb2, HB2⟩; clear hre; have hmk := run_make_row' (P := Try.prog) 35 4 (.bool false) 1 Try.underlying35 infoBool rfl .i64 .i64 n (by omega) (by omega); have hbb := hb2.mono (show w1.heap.size ≤ _ by simp); have d0 : w2.cell? ⟨w1.heap.size, 0, none⟩ = some (.slice so1 n sc1) := (hb2.cell (p := ⟨w1.heap.size, 0, none⟩) (by simp)).trans (by simp [go_sem]); have d1 : w2.cell? ⟨w1.heap.size, 1, none⟩ = some (.int .i64 (gi : Int)) := (hb2.cell (p := ⟨w1.heap.size, 1, none⟩) (by simp)).trans (by simp [go_sem]); have d2 : w2.cell? ⟨w1.heap.size, 2, none⟩ = some (.slice no1 n nc1) := (hb2.cell (p := ⟨w1.heap.size, 2, none⟩) (by simp)).trans (by simp [go_sem]); have d3 : w2.cell? ⟨w1.heap.size, 3, none⟩ = some (.slice bo1 n bc1) := (hb2.cell (p := ⟨w1.heap.size, 3, none⟩) (by simp)).trans (by simp [go_sem]); have d4 : w2.cell? ⟨w1.heap.size, 4, none⟩ = some (.int .i64 (mm : Int)) := (hb2.cell (p := ⟨w1.heap.size, 4, none⟩) (by simp)).trans (by simp [go_sem])))
  have hb12 : Below w1.heap.size w1 w2 := ((Below.refl _ _).alloc (Nat.le_refl _) _).trans hbb
  have hw12 : w1.heap.size < w2.heap.size := by have := hb2.size; simp at this; omega
  have hw01 : w.heap.size < w1.heap.size := by have := hb1.size; simp at this; omega
  have kn : w2.cell? ⟨w.heap.size, 0, none⟩ = some (.slice no nl nc) := (hb12.cell (p := ⟨w.heap.size, 0, none⟩) hw01).trans ((hb1.cell (p := ⟨w.heap.size, 0, none⟩) (by simp)).trans (by simp [go_sem]))
  have hbw2 : Below w.heap.size w w2 := (hA.trans (hb1.mono hA.size)).trans (hb12.mono (by omega))
  have HK : Hid (∀ w', Below w2.heap.size w2 w' → KGot w' so1 sc1 no1 nc1 bo1 bc1 n gi mm g ∧ BoolsV w' (.slice vo n vc) (reachB (nxt g) (List.range gi) n) ∧ Below w.heap.size w w' ∧ w'.cell? ⟨w1.heap.size, 0, none⟩ = some (.slice so1 n sc1) ∧ w'.cell? ⟨w1.heap.size, 1, none⟩ = some (.int .i64 (gi : Int)) ∧ w'.cell? ⟨w1.heap.size, 2, none⟩ = some (.slice no1 n nc1) ∧ w'.cell? ⟨w1.heap.size, 3, none⟩ = some (.slice bo1 n bc1) ∧ w'.cell? ⟨w1.heap.size, 4, none⟩ = some (.int .i64 (mm : Int)) ∧ w'.cell? ⟨w.heap.size, 0, none⟩ = some (.slice no nl nc)) := fun w' hb => by
    have c : ∀ j, w'.cell? ⟨w1.heap.size, j, none⟩ = w2.cell? ⟨w1.heap.size, j, none⟩ := fun j => hb.cell (p := ⟨w1.heap.size, j, none⟩) hw12
    exact ⟨(HG.out.later hb12).later hb, HB2.out.below hb, hbw2.trans (hb.mono hbw2.size), (c 0).trans d0, (c 1).trans d1, (c 2).trans d2, (c 3).trans d3, (c 4).trans d4, (hb.cell (p := ⟨w.heap.size, 0, none⟩) (by show w.heap.size < _; omega)).trans kn⟩
  have HI : Hid (RaSt w2 (w2.alloc (.cells (madeCells #[.bool false] n) 4)) n (nxt g) 0 0) := raSt_zero w2 n (nxt g)
  clear d0 d1 d2 d3 d4 kn hbb hb12 hbw2 hb2 hmk HG HB2 hb1 hgr
  generalize w2.alloc (.cells (madeCells #[.bool false] n) 4) = W3 at HI ⊢
  go_loopw [7] (fun i wr => ∃ k : Nat, k ≤ gi ∧ i = .int .i64 k ∧ Hid (RaSt w2 wr n (nxt g) k 0)) (fun i _ => gi - (intOf i).toNat)
  case atStart => exact ⟨0, Nat.zero_le _, rfl, HI⟩
  case round =>
    obtain ⟨k, hk, rfl, HR⟩ := hrel
    obtain ⟨hkg, hbo, hbw, c0, c1, c2, c3, c4, kn⟩ := HK.out wr HR.out.1
    have hgi : gi ≤ n := hgn
    by_cases hlt : k < gi
    · have hre := hkg.reaches (fr := k) (by omega)
      have hrs : wr.heap.size ≥ w2.heap.size := HR.out.1.size
      clear hkg hbo kn
      go_wp2_with (go_at_call 13; refine hre.mono ?_; rintro e w3 ⟨rfl, hb3, HR3⟩)
      have HR4 : Hid (RaSt w2 w3 n (nxt g) k 0) := HR.out.later hb3
      have hlt3 : w2.heap.size < wr.heap.size := HR.out.2.lt
      clear hre c0 c1 c2 c3 c4
      generalize wr = wo at *
      go_loopw [9] (fun i wr => ∃ q : Nat, q ≤ n ∧ i = .int .i64 q ∧ Hid (RaSt w2 wr n (nxt g) k q) ∧ Hid (wr.rowIs (wo.heap.size + 1) 4 n (fun j => .bool ((reachB (nxt g) [k] n).getD j false)))) (fun i _ => n - (intOf i).toNat)
      case atStart => exact ⟨0, Nat.zero_le _, rfl, HR4, HR3⟩
      case round =>
        obtain ⟨q, hq, rfl, HQ, HRq⟩ := hrel
        by_cases hlq : q < n
        · have e1 := HQ.out.2.cell hlq
          have e2 := HQ.out.2.frozen q
          have e3 := HRq.out.cell hlq
          have HP : Hid (∀ b, b = (raB (nxt g) k q q || (reachB (nxt g) [k] n).getD q false) → RaSt w2 (wr.setCell ⟨w2.heap.size, q, none⟩ (.bool b)) n (nxt g) k (q + 1)) := fun b hb => HQ.out.put hlq b hb
          have HRr : Hid (∀ v, (wr.setCell ⟨w2.heap.size, q, none⟩ v).rowIs (wo.heap.size + 1) 4 n (fun j => .bool ((reachB (nxt g) [k] n).getD j false))) := fun v => HRq.out.of_block (blk_setCell_other _ _ _ _ (by show wo.heap.size + 1 ≠ w2.heap.size; omega))
          generalize raB (nxt g) k q q = x at *
          generalize (reachB (nxt g) [k] n).getD q false = y at *
          clear HQ HRq
          cases x
          · go_wp2_with fail
            go_roundw
            case rel => exact ⟨q + 1, by omega, by go_num, HP.out _ (by simp), HRr.out _⟩
            case measure => simp [intOf]; omega
          · go_wp2_with fail
            go_roundw
            case rel => exact ⟨q + 1, by omega, by go_num, HP.out _ (by simp), HRr.out _⟩
            case measure => simp [intOf]; omega
        · obtain rfl : q = n := by omega
          go_wp2_with fail
          go_roundw
          case rel => exact ⟨k + 1, by omega, by go_num, HQ.out.next⟩
          case measure => simp [intOf]; omega
    · have HF : Hid (∀ j, j < n → raB (nxt g) k 0 j = (reachB (nxt g) (List.range gi) n).getD j false) := fun j hj => by
        obtain rfl : k = gi := by omega
        exact raB_all hj
      have HBo : Hid (BoolsV wr (.slice vo n vc) (reachB (nxt g) (List.range gi) n)) := hbo
      have hl : (reachB (nxt g) (List.range gi) n).length = n := reachB_length _ _ _
      have HLl : Hid ((reachB (nxt g) (List.range gi) n).length = n) := hl
      clear hkg hbo hl
      go_wp2_with fail
      go_loopw [10] (fun i wz => ∃ q : Nat, q ≤ n ∧ i = .int .i64 q ∧ ∃ d, wz = wr.drewN d) (fun i _ => n - (intOf i).toNat)
      case atStart => exact ⟨0, Nat.zero_le _, rfl, 0, rfl⟩
      case round =>
        obtain ⟨q, hq, rfl, d, rfl⟩ := hrel
        by_cases hlq : q < n
        · have e1 := HR.out.2.cell hlq
          have e0 := HF.out q hlq
          simp only [e0] at e1
          obtain ⟨b, off, rfl, hbb, e2⟩ := BoolsV.num HBo.out (i := q) (by rw [HLl.out]; exact hlq)
          clear e0
          generalize (reachB (nxt g) (List.range gi) n).getD q false = y at *
          go_wp2_with fail
          go_quiet (fail)
          go_wp2_with fail
          go_roundw
          case rel => exact ⟨q + 1, by omega, by go_num, _, rfl⟩
          case measure => simp [intOf]; omega
        · have hbd : ∀ d, Below w.heap.size w (wr.drewN d) := fun d => below_drewN hbw d
          by_cases h0 : 0 < nl
          · have h0' : (0 : Int) < (nl : Int) := by omega
            go_wp2_with fail
            go_ret
            exact ⟨rfl, hbd _⟩
          · obtain rfl : nl = 0 := by omega
            have hck := scheck_head none none none 0 0 0 ⟨[], 1, [], [], 0⟩ (wr.drewN d) (fun h => by have := h.init1; simp at this) (by simp) (by simp) (by simp)
            rw [gcode_head (g := ⟨[], 1, [], [], 0⟩) (fun h => by have := h.init1; simp at this)] at hck
            go_wp2_with (go_at_call 11; refine hck.mono ?_; rintro e w5 ⟨rfl, hb5⟩)
            go_ret
            exact ⟨by first | rfl | simp, (hbd d).trans (hb5.mono (hbd d).size)⟩
end Go.Proofs.Ytcbepalgphdgiaa
