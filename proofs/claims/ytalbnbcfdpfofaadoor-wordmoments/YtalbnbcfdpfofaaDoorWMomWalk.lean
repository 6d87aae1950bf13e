/-
  The walk of the law WordMoments, by what Moments and MomentsOf answer.
-/
import Derived.Test.YtalbnbcfdpfofaaDoorRow
import Derived.Test.YtalbnbcfdpfofaaDoorOpsOf
import Derived.Test.YtalbnbcfdpfofaaDoorLettersOf
import Derived.Deep.RegionHeld3
namespace Go.Proofs.YtalbnbcfdpfofaaDoor
open Go.ChangeShapes Go.WideShapes Go.ChangeAt Go.RowKit Go.Deep
open Terms
set_option maxHeartbeats 1600000 in
set_option maxRecDepth 20000 in
theorem wordMoments_walk0 (v sv lv : Value) (l : List (Int × Int)) (ss ll : List (List Bool)) (props : Int) (w : World) (hlz : l.length * 16 ≤ 140737488355328) (hB : 0 < w.heap.size) (hT : TabAt w) (hV : OpsV w v l) (hzs : LetSz ss) (hzl : LetSz ll) (hS : LettersW w sv ss) (hL : LettersW w lv ll) (r : List Bool) (x : Int) (hrl : r.length ≤ 140737488355328) (hH : ∀ w1 v' sv' lv', 0 < w1.heap.size → TabAt w1 → OpsV w1 v' l → LettersV w1 sv' ss → LettersV w1 lv' ll → Calls Tryd.prog 6 #[v', .agg #[sv', lv'], .int .i64 props] w1 fun e w' => ∃ mo mc, e = .returned (.tuple #[.slice mo r.length mc, .int .i64 x]) ∧ Below w1.heap.size w1 w' ∧ Hid (BoolsV w' (.slice mo r.length mc) r)) (hR : ∀ w1 v' sv' lv', OpsV w1 v' l → LettersV w1 sv' ss → LettersV w1 lv' ll → Calls Tryd.prog 8 #[v', .agg #[sv', lv'], .int .i64 props] w1 fun e w' => ∃ mo mc, e = .returned (.tuple #[.slice mo r.length mc, .int .i64 x]) ∧ Below w1.heap.size w1 w' ∧ Hid (BoolsV w' (.slice mo r.length mc) r)) :
    Calls Tryd.prog 3 #[v, .agg #[sv, lv], .int .i64 props] w fun e w' => e = .returned (.bool true) ∧ Below w.heap.size w w' := by
  obtain ⟨so, sc, rfl⟩ := hS.v.shape
  obtain ⟨lo, lc, rfl⟩ := hL.v.shape
  obtain ⟨W0, hW0⟩ : ∃ W0, W0 = w.alloc (.cells #[.slice so ss.length sc, .slice lo ll.length lc] 25) := ⟨_, rfl⟩
  have hA : Below w.heap.size w W0 := by rw [hW0]; exact (Below.refl _ _).alloc (Nat.le_refl _) _
  have hz0 : W0.heap.size = w.heap.size + 1 := by rw [hW0]; simp
  have d0 : W0.cell? ⟨w.heap.size, 0, none⟩ = some (.slice so ss.length sc) := by rw [hW0]; simp [go_sem]
  have d1 : W0.cell? ⟨w.heap.size, 1, none⟩ = some (.slice lo ll.length lc) := by rw [hW0]; simp [go_sem]
  have HOp : Hid (∀ Y, Below W0.heap.size W0 Y → Calls Tryd.prog 7 #[v] Y fun e w' => ∃ dv, e = .returned dv ∧ Below Y.heap.size Y w' ∧ w'.ownsRow Y.heap.size 48 2 dv l.length (flat l)) := fun Y hb => (ops_any v l Y hlz (hV.below (hA.trans (hb.mono hA.size)))).mono fun e w' ⟨dv, h1, h2, h3⟩ => ⟨dv, h1, h2, h3⟩
  have HWo : Hid (∀ w1, Below W0.heap.size W0 w1 → Calls Tryd.prog 5 #[.agg #[.slice so ss.length sc, .slice lo ll.length lc]] w1 fun e w' => ∃ xo xc yo yc, e = .returned (.agg #[.slice xo ss.length xc, .slice yo ll.length yc]) ∧ Below w1.heap.size w1 w' ∧ Hid (LettersV w' (.slice xo ss.length xc) ss ∧ LettersV w' (.slice yo ll.length yc) ll)) := fun w1 hb' => by
    have hb := hA.trans (hb'.mono hA.size)
    refine (words_any _ _ ss ll w1 hzs hzl (hS.below hb) (hL.below hb)).mono fun e w' ⟨sv', lv', h1, h2, h3⟩ => ?_
    obtain ⟨xo, xc, rfl⟩ := h3.out.1.shape
    obtain ⟨yo, yc, rfl⟩ := h3.out.2.shape
    exact ⟨xo, xc, yo, yc, h1, h2, h3⟩
  have HD : ∀ w1, Below W0.heap.size W0 w1 → w1.cell? ⟨w.heap.size, 0, none⟩ = some (.slice so ss.length sc) ∧ w1.cell? ⟨w.heap.size, 1, none⟩ = some (.slice lo ll.length lc) ∧ Below W0.heap.size W0 w1 := fun w1 hb => ⟨(hb.cell (p := ⟨w.heap.size, 0, none⟩) (by show w.heap.size < _; omega)).trans d0, (hb.cell (p := ⟨w.heap.size, 1, none⟩) (by show w.heap.size < _; omega)).trans d1, hb⟩
  have HM : Hid (∀ w0 w1 w2 v' xo xc yo yc, Below W0.heap.size W0 w1 → w2.ownsRow w0 48 2 v' l.length (flat l) → Below w1.heap.size w1 w2 → LettersV w1 (.slice xo ss.length xc) ss ∧ LettersV w1 (.slice yo ll.length yc) ll → Calls Tryd.prog 6 #[v', .agg #[.slice xo ss.length xc, .slice yo ll.length yc], .int .i64 props] w2 fun e w' => ∃ mo mc, e = .returned (.tuple #[.slice mo r.length mc, .int .i64 x]) ∧ Below w2.heap.size w2 w' ∧ Hid (BoolsV w' (.slice mo r.length mc) r)) := fun w0 w1 w2 v' xo xc yo yc h1 ho h2 hl => by
    have h02 := hA.trans ((h1.trans (h2.mono h1.size)).mono hA.size)
    exact hH w2 v' _ _ (Nat.lt_of_lt_of_le hB h02.size) (hT.below h02 hB) (opsV_of_owns ho) (hl.1.below h2) (hl.2.below h2)
  have HR : Hid (∀ w1, Below W0.heap.size W0 w1 → Calls Tryd.prog 8 #[v, .agg #[.slice so ss.length sc, .slice lo ll.length lc], .int .i64 props] w1 fun e w' => ∃ mo mc, e = .returned (.tuple #[.slice mo r.length mc, .int .i64 x]) ∧ Below w1.heap.size w1 w' ∧ Hid (BoolsV w' (.slice mo r.length mc) r)) := fun w1 hb' => hR w1 _ _ _ (hV.below (hA.trans (hb'.mono hA.size))) (hS.v.below (hA.trans (hb'.mono hA.size))) (hL.v.below (hA.trans (hb'.mono hA.size)))
  have HT2 : Hid (∀ w1 a b, BoolsV w1 a r → BoolsV w1 b r → Calls Tryd.prog 9 #[a, b] w1 fun e w' => e = .returned (.bool true) ∧ Below w1.heap.size w1 w') := fun w1 a b h1 h2 => sameTruths_b a b r w1 hrl h1 h2
  have HLs : Hid (∀ w1 w2 xo xc yo yc, Below W0.heap.size W0 w1 → Below w1.heap.size w1 w2 → LettersV w1 (.slice xo ss.length xc) ss ∧ LettersV w1 (.slice yo ll.length yc) ll → (Calls Tryd.prog 10 #[.slice xo ss.length xc, .slice so ss.length sc] w2 fun e w' => e = .returned (.bool true) ∧ Below w2.heap.size w2 w') ∧ Calls Tryd.prog 10 #[.slice yo ll.length yc, .slice lo ll.length lc] w2 fun e w' => e = .returned (.bool true) ∧ Below w2.heap.size w2 w') := fun w1 w2 xo xc yo yc h1 h2 hl => by
    have h02 := hA.trans ((h1.trans (h2.mono h1.size)).mono hA.size)
    exact ⟨(sameLetters_true _ _ ss w2 hzs (hl.1.below h2) (hS.v.below h02)).mono fun _ _ ⟨he, _, hw⟩ => ⟨he, hw ▸ below_drewN (Below.refl _ _) _⟩, (sameLetters_true _ _ ll w2 hzl (hl.2.below h2) (hL.v.below h02)).mono fun _ _ ⟨he, _, hw⟩ => ⟨he, hw ▸ below_drewN (Below.refl _ _) _⟩⟩
  obtain ⟨vo, vc, rfl, _⟩ := id hV
  have hB0 : Below W0.heap.size W0 W0 := Below.refl _ _
  have hwo := HWo.out W0 hB0
  have hz1 : w.heap.size < W0.heap.size := by omega
  have HD' : Hid (∀ w1, Below W0.heap.size W0 w1 → w1.cell? ⟨w.heap.size, 0, none⟩ = some (.slice so ss.length sc) ∧ w1.cell? ⟨w.heap.size, 1, none⟩ = some (.slice lo ll.length lc) ∧ Below W0.heap.size W0 w1) := HD
  have HA : Hid (Below w.heap.size w W0) := hA
  have HLe : Hid (w.heap.size < W0.heap.size) := hz1
  have hbi : ∀ w1, Below W0.heap.size W0 w1 → Below (w.alloc (.cells #[.slice so ss.length sc, .slice lo ll.length lc] 25)).heap.size (w.alloc (.cells #[.slice so ss.length sc, .slice lo ll.length lc] 25)) w1 := fun w1 h => by rw [← hW0]; exact h
  have HBi : Hid (∀ w1, Below (w.alloc (.cells #[.slice so ss.length sc, .slice lo ll.length lc] 25)).heap.size (w.alloc (.cells #[.slice so ss.length sc, .slice lo ll.length lc] 25)) w1 → Below W0.heap.size W0 w1) := fun w1 h => by rw [hW0]; exact h
  rw [hW0] at hwo
  clear hbi
  generalize ss.length = sn at *
  generalize ll.length = ln at *
  generalize r.length = rn at *
  clear hS hL hzs hzl hz0 hH hR hV hT hlz d0 d1 hW0 hrl HD hA hB0 hz1 HWo
  go_enter Tryd.func3, Tryd.ntmps3
  go_wp2_with (go_at_call 5; refine hwo.mono ?_; rintro e w1 ⟨xo, xc, yo, yc, rfl, hb1, HL⟩)
  have hb01 := HBi.out w1 hb1
  clear hb1 hwo HBi
  obtain ⟨W1, hW1⟩ : ∃ W1, W1 = w1.alloc (.cells #[.slice xo sn xc, .slice yo ln yc] 25) := ⟨_, rfl⟩
  have hA1 : Below w1.heap.size w1 W1 := by rw [hW1]; exact (Below.refl _ _).alloc (Nat.le_refl _) _
  have hz1 : w1.heap.size < W1.heap.size := by rw [hW1]; simp
  have d0 : W1.cell? ⟨w1.heap.size, 0, none⟩ = some (.slice xo sn xc) := by rw [hW1]; simp [go_sem]
  have d1 : W1.cell? ⟨w1.heap.size, 1, none⟩ = some (.slice yo ln yc) := by rw [hW1]; simp [go_sem]
  have HC : ∀ Y, Below W1.heap.size W1 Y → Y.cell? ⟨w1.heap.size, 0, none⟩ = some (.slice xo sn xc) ∧ Y.cell? ⟨w1.heap.size, 1, none⟩ = some (.slice yo ln yc) ∧ Below W1.heap.size W1 Y := fun Y hb => ⟨(hb.cell (p := ⟨w1.heap.size, 0, none⟩) hz1).trans d0, (hb.cell (p := ⟨w1.heap.size, 1, none⟩) hz1).trans d1, hb⟩
  have HC2 : Hid (∀ Y, Below W1.heap.size W1 Y → Below W0.heap.size W0 Y ∧ Below w1.heap.size w1 Y) := fun Y hb => ⟨hb01.trans ((hA1.trans (hb.mono hA1.size)).mono hb01.size), hA1.trans (hb.mono hA1.size)⟩
  have hB1 : Below W1.heap.size W1 W1 := Below.refl _ _
  rw [← hW1]
  clear d0 d1 hW1
  go_region_held3 (fun Y => Y.cell? ⟨w1.heap.size, 0, none⟩ = some (.slice xo sn xc) ∧ Y.cell? ⟨w1.heap.size, 1, none⟩ = some (.slice yo ln yc) ∧ Below W1.heap.size W1 Y)
    (exact HC _ (by first | exact hB1 | exact hB1.drew | exact hb13 | exact hb12))
    (first | (go_at_call 7; refine (HOp.out _ (HC2.out _ hB1.drew).1).mono ?_; rintro e w2 ⟨dv, rfl, hb2, ho2⟩; obtain ⟨dd, dc, rfl⟩ := owns_slice ho2; have hb12 := hB1.drew.trans (hb2.mono hB1.drew.size); have hc1 := HM.out _ w1 w2 _ _ _ _ _ hb01 ho2 (HC2.out _ hb12).2 HL.out) | (go_at_call 6; refine hc1.mono ?_; rintro e w3 ⟨mo, mc, rfl, hb3, HMo⟩; have hb13 := hb12.trans (hb3.mono hb12.size)))
  obtain ⟨q0, q1, _⟩ := HC w3 hb13
  obtain ⟨g0, g1, _⟩ := HD'.out w3 (HC2.out _ hb13).1
  have hr3 := HR.out w3 (HC2.out _ hb13).1
  go_wp2_with (first | (go_at_call 8; refine hr3.mono ?_; rintro e w4 ⟨no, nc, rfl, hb4, HNo⟩; have hb14 := hb13.trans (hb4.mono hb13.size); have hst := HT2.out w4 _ _ (HMo.out.below hb4) HNo.out) | (go_at_call 9; refine hst.mono ?_; rintro e w5 ⟨rfl, hb5⟩; have hb15 := hb14.trans (hb5.mono hb14.size); obtain ⟨m0, m1, _⟩ := HC w5 hb15; obtain ⟨n0, n1, _⟩ := HD'.out w5 (HC2.out _ hb15).1; obtain ⟨hs1, _⟩ := HLs.out w1 w5 _ _ _ _ hb01 (HC2.out _ hb15).2 HL.out) | (go_at_call 10; refine hs1.mono ?_; clear hs1; rintro e w6 ⟨rfl, hb6⟩; have hb16 := hb15.trans (hb6.mono hb15.size); obtain ⟨u0, u1, _⟩ := HC w6 hb16; obtain ⟨t0, t1, _⟩ := HD'.out w6 (HC2.out _ hb16).1; obtain ⟨_, hs2⟩ := HLs.out w1 w6 _ _ _ _ hb01 (HC2.out _ hb16).2 HL.out) | (go_at_call 10; refine hs2.mono ?_; clear hs2; rintro e w7 ⟨rfl, hb7⟩; have hb17 := hb16.trans (hb7.mono hb16.size)))
  go_ret
  have hbw := HA.out.trans ((HC2.out _ hb17).1.mono HA.out.size)
  exact ⟨by first | rfl | simp, hbw⟩
end Go.Proofs.YtalbnbcfdpfofaaDoor
