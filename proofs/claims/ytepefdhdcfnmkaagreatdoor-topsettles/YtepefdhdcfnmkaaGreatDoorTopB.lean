/-
  Joined out of SeWalk, in their order: a claim bears at most so many files.
-/
import Derived.Test.YtepefdhdcfnmkaaGreatDoorTopA
import Derived.Deep.RegionHeld3
import Derived.Deep.QuietTactic
import Derived.BigQuiet
namespace Go.Proofs.YtepefdhdcfnmkaaGreatDoor
open Go.ChangeShapes Go.WideShapes Go.ChangeAt Go.RowKit Go.Deep
open Terms Tm
set_option maxHeartbeats 6400000
set_option maxRecDepth 20000
theorem topSettles_walk (c0 c1 c2 c3 c4 c5 c6 : Value) (a b : Vr) (rules : List Ru) (n : Int) (w : World) (hB : 0 < w.heap.size) (hT : TabAt w) (hG : GV a b) (hnn : I64 n)
  (hmd : ∀ w', Below w.heap.size w w' -> Calls Tryz.prog 17 #[.agg #[c0, c1, c2, c3, c4, c5, c6]] w' fun e w2 => ∃ va vr, e = .returned (.agg #[va, vr]) /\ Below w'.heap.size w' w2 /\ GModelR w2 va vr [a, b] rules) :
  Calls Tryz.prog 7 #[.agg #[c0, c1, c2, c3, c4, c5, c6], .int .i64 n] w fun e w' => e = .returned (.bool true) /\ Below w.heap.size w w' := by
 have hA1 : Below w.heap.size w (w.alloc (.cells #[c0, c1, c2, c3, c4, c5, c6] 25)) := (Below.refl _ _).alloc (Nat.le_refl _) _
 have HD0 : Hid (DBox (w.alloc (.cells #[c0, c1, c2, c3, c4, c5, c6] 25)) w.heap.size c0 c1 c2 c3 c4 c5 c6) := by
  show DBox _ _ _ _ _ _ _ _ _
  refine ⟨?_, ?_, ?_, ?_, ?_, ?_, ?_⟩ <;> simp [go_sem]
 have hM : MdOk w c0 c1 c2 c3 c4 c5 c6 ⟨[a, b], rules⟩ := mdOk hG hmd; have HH : Hid (HoldsOk w c0 c1 c2 c3 c4 c5 c6 ⟨[a, b], rules⟩) := holdsOk hB hT hG hmd; have hwd := world_any c0 c1 c2 c3 c4 c5 c6 a b rules _ (Nat.lt_of_lt_of_le hB hA1.size) (hT.below hA1 hB) hG (fun w' h => hM w' (hA1.trans (h.mono hA1.size)))
 have HF : Hid (mcode ⟨[a, b], rules⟩ = 0 -> WdF ⟨[a, b], rules⟩ (nSt a b)) := fun hm => wdF hm hG
 obtain ⟨h0n, h3n⟩ := pk_range (n := n) (m := 3) (by decide)
 obtain ⟨qn, hqn⟩ : ∃ q : Nat, pk n 3 = (q : Int) := ⟨(pk n 3).toNat, by omega⟩
 have HPkn : Hid (∀ w', Calls Tryz.prog 14 #[.int .i64 n, .int .i64 3] w' fun e w2 => e = .returned (.int .i64 (qn : Int)) /\ w2 = w') := fun w' => by
  have := Picked_is n 3 w' hnn (by decide) (by decide)
  rw [hqn] at this; exact this
 have HNn : Hid (I64 n /\ pk n 3 = (qn : Int) /\ 0 <= pk n 3 /\ pk n 3 < 3) := ⟨hnn, hqn, h0n, h3n⟩; have hln : qn < 3 := by omega
 clear hnn hqn h0n h3n; clear hmd hM hT hG; generalize nSt a b = N at *
 go_enter Tryz.func7, Tryz.ntmps7
 go_upto_region 2 with (first | (go_at_call 8; refine hwd.mono ?_; rintro e w1 ⟨lo, lc, no, nc, rfl, hb1, HW⟩))
 have hbw1 := hA1.trans (hb1.mono hA1.size); have HDb : Hid (DBox w1 w.heap.size c0 c1 c2 c3 c4 c5 c6) := HD0.out.below hb1; clear hwd HD0
 go_cut [9, 10] (fun u v wx => ∃ b1 : Bool, u = .bool b1 /\ v = .bool true /\ Hid (Kp ⟨[a, b], rules⟩ (Tm.un 17 0 (Tm.un 18 0 (Tm.leaf 13 (pk n 3)))) b1 /\ Below w1.heap.size w1 wx))
 case first =>
  rename_i J K' hJ hK'; generalize ha0 : Act.mk _ _ = a0; have hsz : a0.tmps.size = 114 := by rw [<- ha0]; rfl
  have aD : a0.eval (.tmp 2) = .pointer (some ⟨w.heap.size, 0, none⟩) := by rw [<- ha0]; rfl
  have a1 : a0.eval (.tmp 1) = .int .i64 n := by rw [<- ha0]; rfl
  have hDx : ∀ w', Below w1.heap.size w1 w' -> DBox w' w.heap.size c0 c1 c2 c3 c4 c5 c6 := fun w' hb => HDb.out.below hb
  refine wp_anyway (by rfl) [25, 26, 27, 28, 29, 30, 31, 32, 24, 33, 34, 9, 10] 12 (FdP ⟨[a, b], rules⟩ [.same (.agg #[c0, c1, c2, c3, c4, c5, c6]), .same (.int .i64 n), .ops [((13 : Int), pk n 3)], .one [((13 : Int), pk n 3)], .ops (((18 : Int), (0 : Int)) :: [((13 : Int), pk n 3)]), .one (((18 : Int), (0 : Int)) :: [((13 : Int), pk n 3)]), .ops (((17 : Int), (0 : Int)) :: (((18 : Int), (0 : Int)) :: [((13 : Int), pk n 3)])), .held (Tm.un 17 0 (Tm.un 18 0 (Tm.leaf 13 (pk n 3)))), .held (Tm.un 17 0 (Tm.un 18 0 (Tm.leaf 13 (pk n 3)))), .bit (Tm.un 17 0 (Tm.un 18 0 (Tm.leaf 13 (pk n 3)))), .yes, .bit (Tm.un 17 0 (Tm.un 18 0 (Tm.leaf 13 (pk n 3))))]) (by rw [hsz]; rfl) (FdP_stable _ _ _) ?_ ?_
  ·intro i o hi ho q w' hb hq
   have f : ∀ t, [25, 26, 27, 28, 29, 30, 31, 32, 24, 33, 34, 9, 10].contains t = true -> t < 114 -> (frm a0 [25, 26, 27, 28, 29, 30, 31, 32, 24, 33, 34, 9, 10] q).eval (.tmp t) = q t := fun t h1 h2 => frm_in h1 (by rw [hsz]; exact h2)
   have hc : i = 0 \/ i = 1 \/ i = 2 \/ i = 3 \/ i = 4 \/ i = 5 \/ i = 6 \/ i = 7 \/ i = 8 \/ i = 9 \/ i = 10 \/ i = 11 := by omega
   rcases hc with rfl | rfl | rfl | rfl | rfl | rfl | rfl | rfl | rfl | rfl | rfl | rfl
   all_goals obtain rfl := Option.some.inj ho
   ·exact st_load7 rfl ((frm_out rfl).trans aD) (hDx w' hb)
   ·exact st_int rfl ((frm_out rfl).trans a1)
   ·exact st_prop HNn.out.1 rfl ((f 26 rfl (by decide)).trans (hq 1 26 rfl rfl))
   ·exact st_oneV rfl (by rw [(f 27 rfl (by decide))]; exact (hq 2 27 rfl rfl))
   ·exact st_J1 rfl (by rw [(f 28 rfl (by decide))]; exact (hq 3 28 rfl rfl)) (by simp) (by simp)
   ·exact st_oneV rfl (by rw [(f 29 rfl (by decide))]; exact (hq 4 29 rfl rfl))
   ·exact st_J1 rfl (by rw [(f 30 rfl (by decide))]; exact (hq 5 30 rfl rfl)) (by simp) (by simp)
   ·exact st_holds rfl HH.out (hbw1.trans (hb.mono hbw1.size)) ((f 25 rfl (by decide)).trans (hq 0 25 rfl rfl)) (by rw [(f 31 rfl (by decide))]; exact (hq 6 31 rfl rfl)) (FOk.tun (Or.inr (Or.inl rfl)) (FOk.tun (Or.inr (Or.inr rfl)) (FOk.prop HNn.out.2.2.1 HNn.out.2.2.2))) (by simp) (by decide)
   ·exact st_mvh rfl (by rw [(f 32 rfl (by decide))]; exact (hq 7 32 rfl rfl))
   ·exact st_ex0 rfl (by rw [(f 24 rfl (by decide))]; exact (hq 8 24 rfl rfl))
   ·exact st_ex1 rfl (by rw [(f 24 rfl (by decide))]; exact (hq 8 24 rfl rfl))
   ·exact st_asb rfl (by rw [(f 33 rfl (by decide))]; exact (hq 9 33 rfl rfl))
  ·intro q w' hb hq
   have f : ∀ t, [25, 26, 27, 28, 29, 30, 31, 32, 24, 33, 34, 9, 10].contains t = true -> t < 114 -> (frm a0 [25, 26, 27, 28, 29, 30, 31, 32, 24, 33, 34, 9, 10] q).eval (.tmp t) = q t := fun t h1 h2 => frm_in h1 (by rw [hsz]; exact h2)
   have eX := (f 34 rfl (by decide)).trans (hq 10 34 (by decide) rfl)
   obtain ⟨b1, h8, hK8⟩ := hq 11 9 (by decide) rfl
   show wpOps Tryz.prog _ _ [12] _ _
   rw [wpOps_cons]; refine op_atR rfl rfl ?_
   refine op_run (w' := w') (v := .bool true) ?_ ?_
   ·generalize (frm a0 [25, 26, 27, 28, 29, 30, 31, 32, 24, 33, 34, 9, 10] q).eval = ev at eX ⊢
    simp [execOp, eX, go_sem]
   rw [late_put 10 rfl rfl]
   show K' _ _
   refine hK' _ _ ?_
   rw [<- ha0]
   go_meet
   exact ⟨b1, (show setV q 10 (.bool true) 9 = .bool b1 from (setV_other (by decide)).trans h8), setV_same q 10 _, hK8, hb⟩
 case rest =>
  obtain ⟨b1, rfl, rfl, HK1⟩ := hcut; obtain ⟨w5, rfl⟩ : ∃ w5, w5 = wc := ⟨_, rfl⟩
  have hb15 : Below w1.heap.size w1 w5 := HK1.out.2; have hbw5 := hbw1.trans (hb15.mono hbw1.size); have Hmc : Hid (mcode ⟨[a, b], rules⟩ = 0) := (pcode_m (tk_zero HK1.out.1.2).1).1; have HFd := HF.out Hmc.out; obtain ⟨lb, nb, rfl, rfl, hLt, hNx⟩ := wd_rows HFd HW.out; obtain ⟨bn, hbn, hbN⟩ := HFd.beg; have hN1 := HFd.one; have hN16 := HFd.few
  have HKe : Hid (b1 = true ↔ ¬ Lead (nextL ⟨[a, b], rules⟩) (fun _ => True) (BkP ⟨[a, b], rules⟩ (pk n 3)) (bn : Int)) := by
   have := kp_settles HK1.out.1; rw [hbn] at this; exact this
  have HAl : Hid (∀ w', Calls Tryz.prog 16 #[.int .i64 (N : Int)] w' (ToOk w' N (fun _ => true))) := fun w' => all_any N w' hN1 (by omega)
  have HLe : Hid (∀ (w' : World) (ag ac gg gc : Nat) (gf : Nat -> Bool) (P : Int -> Prop), Below w5.heap.size w5 w' -> TrV w' ag N (fun _ => true) -> TrV w' gg N gf -> (∀ c : Nat, c < N -> (gf c = true ↔ P (c : Int))) -> Calls Tryz.prog 15 #[.slice (some ⟨nb, 0, none⟩) N nc, .slice (some ⟨ag, 0, none⟩) N ac, .slice (some ⟨gg, 0, none⟩) N gc] w' (TrOkN w' N (Lead (nextL ⟨[a, b], rules⟩) (fun _ => True) P))) := fun w' ag ac gg gc gf P h hv hg hiff => leads_new _ _ _ N nb nc ag ac gg gc _ gf w' hN1 (by omega) ((hNx.below hb15).below h) hv hg (fun c _ => ⟨fun _ => trivial, fun _ => rfl⟩) hiff HFd.rng HFd.len
  have HLt : Hid (LtV w5 lb N (ltB ⟨[a, b], rules⟩)) := hLt.below hb15; have HNx : Hid (NxV w5 nb N (nextL ⟨[a, b], rules⟩)) := hNx.below hb15; have HRg : Hid (WdF ⟨[a, b], rules⟩ N) := HFd; have hmk := run_make_row' (P := Tryz.prog) 35 4 (.bool false) 1 Tryz.underlying35 infoBool rfl .i64 .i64 N (by omega) (by omega)
  have HJ0 : Hid (BJ w5 w5.heap.size N (gTo (bkB ⟨[a, b], rules⟩ (pk n 3)) 0) (w5.alloc (.cells (madeCells #[.bool false] N) 4))) := by
   show BJ _ _ _ _ _
   rw [gTo_zero]; exact BJ.made (Below.refl _ _)
  rw [hbn]; have hbi1 : ¬ (bn : Int) < 0 := by omega
  have hbi2 : ¬ (N : Int) <= (bn : Int) := by omega
  have hbi3 : (bn : Int) < (N : Int) := by omega
  have hbi4 : ¬ N <= bn := by omega
  clear hbn HK1 HDb HH HW hLt hNx HFd
  go_upto_region 7 with fail
  generalize w5.alloc (.cells (madeCells #[.bool false] N) 4) = W6 at *
  go_loopw [12] (fun i wr => ∃ k : Nat, k <= N /\ i = .int .i64 (k : Int) /\ Hid (BJ w5 w5.heap.size N (gTo (bkB ⟨[a, b], rules⟩ (pk n 3)) k) wr)) (fun i _ => N - (intOf i).toNat)
  case atStart => exact ⟨0, Nat.zero_le _, rfl, HJ0⟩
  case round =>
   obtain ⟨k, hk, rfl, HR⟩ := hrel
   by_cases hkN : k < N
   ·have hki : (k : Int) < (N : Int) := by omega
    have hbm : Below wr.heap.size wr (wr.alloc (.cells (madeCells #[.bool false] N) 4)) := (Below.refl _ _).alloc (Nat.le_refl _) _; have e0 := (BJ.made (N := N) (Below.refl wr.heap.size wr)).cell hkN; have e1 := (BJ.made (N := N) (Below.refl wr.heap.size wr)).frozen k
    have HO : Hid (BJ wr wr.heap.size N (putB (fun _ => false) k true) ((wr.alloc (.cells (madeCells #[.bool false] N) 4)).setCell ⟨wr.heap.size, k, none⟩ (.bool true))) := (BJ.made (Below.refl _ _)).put k true
    have HE1 : Hid (BJ w5 w5.heap.size N (gTo (bkB ⟨[a, b], rules⟩ (pk n 3)) k) ((wr.alloc (.cells (madeCells #[.bool false] N) 4)).setCell ⟨wr.heap.size, k, none⟩ (.bool true))) := (HR.out.later hbm).other HR.out.below.size (Nat.ne_of_lt HR.out.lt) _; have hEl := HR.out.lt
    have HIf : Hid (∀ c : Nat, c < N -> ((putB (fun _ => false) k true) c = true ↔ (fun z => z = (k : Int)) (c : Int))) := fun c _ => by
     unfold putB
     by_cases e : c = k
     ·rw [if_pos e]
      exact ⟨fun _ => by show (c : Int) = k; omega, fun _ => rfl⟩
     ·rw [if_neg e]
      exact ⟨(fun h => by cases h), fun h => absurd (by have h2 : (c : Int) = k := h; omega) e⟩
    go_upto_region 10 with fail
    generalize wr.alloc (.cells (madeCells #[.bool false] N) 4) = Wm at *
    go_upto_region 11 with fail
    generalize Wm.setCell ⟨wr.heap.size, k, none⟩ (.bool true) = Wo at *; have hwo : wr.heap.size <= Wo.heap.size := HO.out.below.size; have hal := HAl.out Wo; clear e0 e1
    go_upto_region 13 with (first
     | (go_at_call 16; refine hal.mono ?_; rintro e w10 ⟨ag, ac, rfl, hb10, HT10⟩; have hle := HLe.out w10 ag ac wr.heap.size N (putB (fun _ => false) k true) (fun z => z = (k : Int)) (HE1.out.later hb10).below HT10.out (fun c hc => (HO.out.later hb10).cell hc) HIf.out)
     | (go_at_call 15; refine hle.mono ?_; rintro e w11 ⟨gg, gc, gf, rfl, hb11, HT11⟩))
    have HE11 : Hid (BJ w5 w5.heap.size N (gTo (bkB ⟨[a, b], rules⟩ (pk n 3)) k) w11) := (HE1.out.later hb10).later hb11
    have hgE : w5.heap.size ≠ gg := by
     have h1 := HT11.out.2.2; have h2 := hb10.size; omega
    have hL5 := HRg.out.len k hkN; obtain ⟨Ln, hLn⟩ : ∃ Ln, ((nextL ⟨[a, b], rules⟩) (k : Int)).length = Ln := ⟨_, rfl⟩
    have HLn : Hid (((nextL ⟨[a, b], rules⟩) (k : Int)).length = Ln) := hLn; rw [hLn] at hL5; clear hal hle hLn; generalize wr = wo at *
    go_loopw [15] (fun i wy => ∃ q : Nat, q <= Ln /\ i = .int .i64 (q : Int) /\ Hid (BJ w5 w5.heap.size N (putB (gTo (bkB ⟨[a, b], rules⟩ (pk n 3)) k) k ((!bitAt ⟨[a, b], rules⟩ propsL (pk n 3) (k : Int)) && anTo gf ((nextL ⟨[a, b], rules⟩) (k : Int)) q)) wy /\ TrV wy gg N gf)) (fun i _ => Ln - (intOf i).toNat)
    case atStart =>
     refine ⟨0, Nat.zero_le _, rfl, ?_, HT11.out.1⟩
     rw [anTo_zero, Bool.and_false, gTo_same]; exact HE11.out
    case round =>
     obtain ⟨q, hq, rfl, HS⟩ := hrel; obtain ⟨vb, vf, vc, n0, n1⟩ := HNx.out.below HS.out.1.below k hkN; have HN1 : Hid (∀ q, q < ((nextL ⟨[a, b], rules⟩) (k : Int)).length -> wr.cell? ⟨vb, vf + q, none⟩ = some (.int .i64 (((nextL ⟨[a, b], rules⟩) (k : Int)).getD q 0))) := n1
     rw [HLn.out] at n0; clear n1
     by_cases hqL : q < Ln
     ·have hqi : (q : Int) < (Ln : Int) := by omega
      have hql : q < ((nextL ⟨[a, b], rules⟩) (k : Int)).length := by rw [HLn.out]; exact hqL
      have n1 := HN1.out q hql
      have hmem : ((nextL ⟨[a, b], rules⟩) (k : Int)).getD q 0 ∈ (nextL ⟨[a, b], rules⟩) (k : Int) := by
       rw [List.getD_eq_getElem?_getD, List.getElem?_eq_getElem hql]
       exact List.getElem_mem _
      obtain ⟨y0, y1⟩ := HRg.out.rng k _ hkN hmem; obtain ⟨yn, hyn⟩ : ∃ yn : Nat, ((nextL ⟨[a, b], rules⟩) (k : Int)).getD q 0 = (yn : Int) := ⟨(((nextL ⟨[a, b], rules⟩) (k : Int)).getD q 0).toNat, by omega⟩
      have HY : Hid (((nextL ⟨[a, b], rules⟩) (k : Int)).getD q 0 = (yn : Int)) := hyn; rw [hyn] at n1 y1; have hyN : yn < N := by omega
      obtain ⟨ub, uf, uc, l0, l1⟩ := HLt.out.below HS.out.1.below k hkN; have l2 := l1 qn hln; have HB0 : Hid (ltB ⟨[a, b], rules⟩ k qn = bitAt ⟨[a, b], rules⟩ propsL (pk n 3) (k : Int)) := lt_bit HNn.out.2.1 k; obtain ⟨p, hp⟩ : ∃ p, ltB ⟨[a, b], rules⟩ k qn = p := ⟨_, rfl⟩
      rw [hp] at l2; have HP : Hid (bitAt ⟨[a, b], rules⟩ propsL (pk n 3) (k : Int) = p) := HB0.out.symm.trans hp; obtain ⟨b0, hb0⟩ : ∃ b0, ((!bitAt ⟨[a, b], rules⟩ propsL (pk n 3) (k : Int)) && anTo gf ((nextL ⟨[a, b], rules⟩) (k : Int)) q) = b0 := ⟨_, rfl⟩
      have HB : Hid (((!bitAt ⟨[a, b], rules⟩ propsL (pk n 3) (k : Int)) && anTo gf ((nextL ⟨[a, b], rules⟩) (k : Int)) q) = b0) := hb0
      have C0 : Hid (∀ w', Below wr.heap.size wr w' -> w'.cell? ⟨w5.heap.size, 0 + k, none⟩ = some (.bool b0) /\ w'.frozen? ⟨w5.heap.size, 0 + k, none⟩ = false) := fun w' hb => by
       have h1 := (HS.out.1.later hb).cell hkN; have h2 : putB (gTo (bkB ⟨[a, b], rules⟩ (pk n 3)) k) k ((!bitAt ⟨[a, b], rules⟩ propsL (pk n 3) (k : Int)) && anTo gf ((nextL ⟨[a, b], rules⟩) (k : Int)) q) k = b0 := by unfold putB; rw [if_pos rfl]; exact hb0
       rw [h2] at h1; rw [Nat.zero_add]; exact ⟨h1, (HS.out.1.later hb).frozen k⟩
      have C1 : Hid (∀ w', Below wr.heap.size wr w' -> w'.cell? ⟨lb, 0 + k, none⟩ = some (.slice (some ⟨ub, uf, none⟩) 3 uc)) := fun w' hb => by rw [Nat.zero_add]; exact cellL hb l0
      have C2 : Hid (∀ w', Below wr.heap.size wr w' -> w'.cell? ⟨ub, uf + qn, none⟩ = some (.bool p)) := fun w' hb => cellL hb l2
      have C3 : Hid (∀ w', Below wr.heap.size wr w' -> w'.cell? ⟨nb, 0 + k, none⟩ = some (.slice (some ⟨vb, vf, none⟩) Ln vc)) := fun w' hb => by rw [Nat.zero_add]; exact cellL hb n0
      have C4 : Hid (∀ w', Below wr.heap.size wr w' -> w'.cell? ⟨vb, vf + q, none⟩ = some (.int .i64 (yn : Int))) := fun w' hb => cellL hb n1
      have C5 : Hid (∀ w', Below wr.heap.size wr w' -> w'.cell? ⟨gg, 0 + yn, none⟩ = some (.bool (gf yn))) := fun w' hb => by rw [Nat.zero_add]; exact cellL hb (HS.out.2 yn hyN)
      clear hql hmem y0 y1 hyn l0 l1 l2 n1 hp hb0 HB0
      go_upto_block 3 with fail
      go_cut [] (fun wx => Hid (∃ wz, Below wr.heap.size wr wz /\ wx = wz.setCell ⟨w5.heap.size, k, none⟩ (.bool (b0 || (!p && gf yn)))))
      case first =>
       go_upto_region 15 with fail
       rename_i J K' hJ hK'; generalize ha0 : Act.mk _ _ = a0; have hsz : a0.tmps.size = 114 := by rw [<- ha0]; rfl
       have a1 : a0.eval (.tmp 1) = .int .i64 n := by rw [<- ha0]; rfl
       have a5 : a0.eval (.tmp 5) = .slice (some ⟨lb, 0, none⟩) N lc := by rw [<- ha0]; rfl
       have a6 : a0.eval (.tmp 6) = .slice (some ⟨nb, 0, none⟩) N nc := by rw [<- ha0]; rfl
       have a11 : a0.eval (.tmp 11) = .slice (some ⟨w5.heap.size, 0, none⟩) N N := by rw [<- ha0]; rfl
       have a12 : a0.eval (.tmp 12) = .int .i64 (k : Int) := by rw [<- ha0]; rfl
       have a14 : a0.eval (.tmp 14) = .slice (some ⟨gg, 0, none⟩) N gc := by rw [<- ha0]; rfl
       have a15 : a0.eval (.tmp 15) = .int .i64 (q : Int) := by rw [<- ha0]; rfl
       refine wp_anywayG (by rfl) [71, 72, 73, 74, 75, 76, 77, 78, 79, 80, 81, 82, 83, 84, 85, 86, 87, 88, 89, 90, 91, 92, 93, 94, 95, 96, 97, 98, 99, 100] 30 (seP (seV (.slice (some ⟨w5.heap.size, 0, none⟩) N N) (.slice (some ⟨lb, 0, none⟩) N lc) (.slice (some ⟨gg, 0, none⟩) N gc) (.slice (some ⟨nb, 0, none⟩) N nc) undef undef (.slice (some ⟨ub, uf, none⟩) 3 uc) (.slice (some ⟨vb, vf, none⟩) Ln vc) w5.heap.size lb ub uf gg nb vb vf k qn q yn n b0 p (gf yn))) (by rw [hsz]; rfl) (seP_stable _ _) ?_ ?_
       ·intro i o hi ho q' w' hb hq
        have f : ∀ t, [71, 72, 73, 74, 75, 76, 77, 78, 79, 80, 81, 82, 83, 84, 85, 86, 87, 88, 89, 90, 91, 92, 93, 94, 95, 96, 97, 98, 99, 100].contains t = true -> t < 114 -> (frm a0 [71, 72, 73, 74, 75, 76, 77, 78, 79, 80, 81, 82, 83, 84, 85, 86, 87, 88, 89, 90, 91, 92, 93, 94, 95, 96, 97, 98, 99, 100] q').eval (.tmp t) = q' t := fun t h1 h2 => frm_in h1 (by rw [hsz]; exact h2)
        have hc : i = 0 \/ i = 1 \/ i = 2 \/ i = 3 \/ i = 4 \/ i = 5 \/ i = 6 \/ i = 7 \/ i = 8 \/ i = 9 \/ i = 10 \/ i = 11 \/ i = 12 \/ i = 13 \/ i = 14 \/ i = 15 \/ i = 16 \/ i = 17 \/ i = 18 \/ i = 19 \/ i = 20 \/ i = 21 \/ i = 22 \/ i = 23 \/ i = 24 \/ i = 25 \/ i = 26 \/ i = 27 \/ i = 28 \/ i = 29 := by omega
        rcases hc with rfl | rfl | rfl | rfl | rfl | rfl | rfl | rfl | rfl | rfl | rfl | rfl | rfl | rfl | rfl | rfl | rfl | rfl | rfl | rfl | rfl | rfl | rfl | rfl | rfl | rfl | rfl | rfl | rfl | rfl
        all_goals obtain rfl := Option.some.inj ho
        ·exact op_plain rfl rfl (op_val (w' := w') (run_moveS rfl ((frm_out rfl).trans a11)) (Below.refl _ _) rfl)
        ·exact op_plain rfl rfl (op_val (w' := w') (run_moveS rfl ((frm_out rfl).trans a12)) (Below.refl _ _) rfl)
        ·exact op_plain rfl rfl (op_val (w' := w') (run_moveS rfl ((frm_out rfl).trans a11)) (Below.refl _ _) rfl)
        ·exact op_plain rfl rfl (op_val (w' := w') (run_moveS rfl ((frm_out rfl).trans a12)) (Below.refl _ _) rfl)
        ·exact op_plain rfl rfl (op_val (w' := w') (run_idxBS rfl ((f 73 rfl (by decide)).trans (hq 2 73 rfl rfl)) ((f 74 rfl (by decide)).trans (hq 3 74 rfl rfl)) hkN) (Below.refl _ _) rfl)
        ·exact op_plain rfl rfl (op_val (w' := w') (run_loadBS rfl ((f 75 rfl (by decide)).trans (hq 4 75 rfl rfl)) (C0.out w' hb).1) (Below.refl _ _) rfl)
        ·exact op_plain rfl rfl (op_val (w' := w') (run_moveS rfl ((f 76 rfl (by decide)).trans (hq 5 76 rfl rfl))) (Below.refl _ _) rfl)
        ·exact op_guard (g := true) (x := b0) rfl rfl rfl ((f 77 rfl (by decide)).trans (hq 6 77 rfl rfl)) (fun hg => op_val (w' := w') (run_moveS rfl ((frm_out rfl).trans a5)) (Below.refl _ _) (cond_yesS hg).symm) (fun hg => ⟨undef, rfl, Below.refl _ _, cond_noS hg⟩)
        ·exact op_guard (g := true) (x := b0) rfl rfl rfl ((f 77 rfl (by decide)).trans (hq 6 77 rfl rfl)) (fun hg => op_val (w' := w') (run_moveS rfl ((frm_out rfl).trans a12)) (Below.refl _ _) (cond_yesS hg).symm) (fun hg => ⟨undef, rfl, Below.refl _ _, cond_noS hg⟩)
        ·exact op_guard (g := true) (x := b0) rfl rfl rfl ((f 77 rfl (by decide)).trans (hq 6 77 rfl rfl)) (fun hg => op_val (w' := w') (run_idxBB rfl (((f 78 rfl (by decide)).trans (hq 7 78 rfl rfl)).trans (cond_yesS hg)) (((f 79 rfl (by decide)).trans (hq 8 79 rfl rfl)).trans (cond_yesS hg)) hkN) (Below.refl _ _) (cond_yesS hg).symm) (fun hg => ⟨undef, rfl, Below.refl _ _, cond_noS hg⟩)
        ·exact op_guard (g := true) (x := b0) rfl rfl rfl ((f 77 rfl (by decide)).trans (hq 6 77 rfl rfl)) (fun hg => op_val (w' := w') (run_loadBB rfl (((f 80 rfl (by decide)).trans (hq 9 80 rfl rfl)).trans (cond_yesS hg)) (C1.out w' hb)) (Below.refl _ _) (cond_yesS hg).symm) (fun hg => ⟨undef, rfl, Below.refl _ _, cond_noS hg⟩)
        ·exact op_guard (g := true) (x := b0) rfl rfl rfl ((f 77 rfl (by decide)).trans (hq 6 77 rfl rfl)) (fun hg => op_val (w' := w') (run_moveS rfl ((frm_out rfl).trans a1)) (Below.refl _ _) (cond_yesS hg).symm) (fun hg => ⟨undef, rfl, Below.refl _ _, cond_noS hg⟩)
        ·exact op_guard (g := true) (x := b0) rfl rfl rfl ((f 77 rfl (by decide)).trans (hq 6 77 rfl rfl)) (fun hg => op_call (run_pkdS rfl (((f 82 rfl (by decide)).trans (hq 11 82 rfl rfl)).trans (cond_yesS hg))) ((HPkn.out w').mono fun e w2 ⟨h1, h2⟩ => ⟨_, h1, (h2 ▸ Below.refl _ _), (cond_yesS hg).symm⟩)) (fun hg => ⟨undef, rfl, Below.refl _ _, cond_noS hg⟩)
        ·exact op_guard (g := true) (x := b0) rfl rfl rfl ((f 77 rfl (by decide)).trans (hq 6 77 rfl rfl)) (fun hg => op_val (w' := w') (run_idxBS rfl (((f 81 rfl (by decide)).trans (hq 10 81 rfl rfl)).trans (cond_yesS hg)) (((f 83 rfl (by decide)).trans (hq 12 83 rfl rfl)).trans (cond_yesS hg)) hln) (Below.refl _ _) (cond_yesS hg).symm) (fun hg => ⟨undef, rfl, Below.refl _ _, cond_noS hg⟩)
        ·exact op_guard (g := true) (x := b0) rfl rfl rfl ((f 77 rfl (by decide)).trans (hq 6 77 rfl rfl)) (fun hg => op_val (w' := w') (run_loadBS rfl (((f 84 rfl (by decide)).trans (hq 13 84 rfl rfl)).trans (cond_yesS hg)) (C2.out w' hb)) (Below.refl _ _) (cond_yesS hg).symm) (fun hg => ⟨undef, rfl, Below.refl _ _, cond_noS hg⟩)
        ·exact op_guard (g := true) (x := b0) rfl rfl rfl ((f 77 rfl (by decide)).trans (hq 6 77 rfl rfl)) (fun hg => op_val (w' := w') (run_notS rfl (((f 85 rfl (by decide)).trans (hq 14 85 rfl rfl)).trans (cond_yesS hg))) (Below.refl _ _) (cond_yesS hg).symm) (fun hg => ⟨undef, rfl, Below.refl _ _, cond_noS hg⟩)
        ·exact op_guard (g := true) (x := b0) rfl rfl rfl ((f 77 rfl (by decide)).trans (hq 6 77 rfl rfl)) (fun hg => op_val (w' := w') (run_moveS rfl (((f 86 rfl (by decide)).trans (hq 15 86 rfl rfl)).trans (cond_yesS hg))) (Below.refl _ _) (cond_yesS hg).symm) (fun hg => ⟨undef, rfl, Below.refl _ _, cond_noS hg⟩)
        ·exact op_guard (g := (true && (b0 == false))) (x := !p) rfl rfl rfl ((f 87 rfl (by decide)).trans (hq 16 87 rfl rfl)) (fun hg => op_val (w' := w') (run_moveS rfl ((frm_out rfl).trans a14)) (Below.refl _ _) (cond_yesS hg).symm) (fun hg => ⟨undef, rfl, Below.refl _ _, cond_noS hg⟩)
        ·exact op_guard (g := (true && (b0 == false))) (x := !p) rfl rfl rfl ((f 87 rfl (by decide)).trans (hq 16 87 rfl rfl)) (fun hg => op_val (w' := w') (run_moveS rfl ((frm_out rfl).trans a6)) (Below.refl _ _) (cond_yesS hg).symm) (fun hg => ⟨undef, rfl, Below.refl _ _, cond_noS hg⟩)
        ·exact op_guard (g := (true && (b0 == false))) (x := !p) rfl rfl rfl ((f 87 rfl (by decide)).trans (hq 16 87 rfl rfl)) (fun hg => op_val (w' := w') (run_moveS rfl ((frm_out rfl).trans a12)) (Below.refl _ _) (cond_yesS hg).symm) (fun hg => ⟨undef, rfl, Below.refl _ _, cond_noS hg⟩)
        ·exact op_guard (g := (true && (b0 == false))) (x := !p) rfl rfl rfl ((f 87 rfl (by decide)).trans (hq 16 87 rfl rfl)) (fun hg => op_val (w' := w') (run_idxII rfl (((f 89 rfl (by decide)).trans (hq 18 89 rfl rfl)).trans (cond_yesS hg)) (((f 90 rfl (by decide)).trans (hq 19 90 rfl rfl)).trans (cond_yesS hg)) hkN) (Below.refl _ _) (cond_yesS hg).symm) (fun hg => ⟨undef, rfl, Below.refl _ _, cond_noS hg⟩)
        ·exact op_guard (g := (true && (b0 == false))) (x := !p) rfl rfl rfl ((f 87 rfl (by decide)).trans (hq 16 87 rfl rfl)) (fun hg => op_val (w' := w') (run_loadII rfl (((f 91 rfl (by decide)).trans (hq 20 91 rfl rfl)).trans (cond_yesS hg)) (C3.out w' hb)) (Below.refl _ _) (cond_yesS hg).symm) (fun hg => ⟨undef, rfl, Below.refl _ _, cond_noS hg⟩)
        ·exact op_guard (g := (true && (b0 == false))) (x := !p) rfl rfl rfl ((f 87 rfl (by decide)).trans (hq 16 87 rfl rfl)) (fun hg => op_val (w' := w') (run_moveS rfl ((frm_out rfl).trans a15)) (Below.refl _ _) (cond_yesS hg).symm) (fun hg => ⟨undef, rfl, Below.refl _ _, cond_noS hg⟩)
        ·exact op_guard (g := (true && (b0 == false))) (x := !p) rfl rfl rfl ((f 87 rfl (by decide)).trans (hq 16 87 rfl rfl)) (fun hg => op_val (w' := w') (run_idxIS rfl (((f 92 rfl (by decide)).trans (hq 21 92 rfl rfl)).trans (cond_yesS hg)) (((f 93 rfl (by decide)).trans (hq 22 93 rfl rfl)).trans (cond_yesS hg)) hqL) (Below.refl _ _) (cond_yesS hg).symm) (fun hg => ⟨undef, rfl, Below.refl _ _, cond_noS hg⟩)
        ·exact op_guard (g := (true && (b0 == false))) (x := !p) rfl rfl rfl ((f 87 rfl (by decide)).trans (hq 16 87 rfl rfl)) (fun hg => op_val (w' := w') (run_loadIS rfl (((f 94 rfl (by decide)).trans (hq 23 94 rfl rfl)).trans (cond_yesS hg)) (C4.out w' hb)) (Below.refl _ _) (cond_yesS hg).symm) (fun hg => ⟨undef, rfl, Below.refl _ _, cond_noS hg⟩)
        ·exact op_guard (g := (true && (b0 == false))) (x := !p) rfl rfl rfl ((f 87 rfl (by decide)).trans (hq 16 87 rfl rfl)) (fun hg => op_val (w' := w') (run_idxBS rfl (((f 88 rfl (by decide)).trans (hq 17 88 rfl rfl)).trans (cond_yesS hg)) (((f 95 rfl (by decide)).trans (hq 24 95 rfl rfl)).trans (cond_yesS hg)) hyN) (Below.refl _ _) (cond_yesS hg).symm) (fun hg => ⟨undef, rfl, Below.refl _ _, cond_noS hg⟩)
        ·exact op_guard (g := (true && (b0 == false))) (x := !p) rfl rfl rfl ((f 87 rfl (by decide)).trans (hq 16 87 rfl rfl)) (fun hg => op_val (w' := w') (run_loadBS rfl (((f 96 rfl (by decide)).trans (hq 25 96 rfl rfl)).trans (cond_yesS hg)) (C5.out w' hb)) (Below.refl _ _) (cond_yesS hg).symm) (fun hg => ⟨undef, rfl, Below.refl _ _, cond_noS hg⟩)
        ·exact op_guard (g := true) (x := b0) rfl rfl rfl ((f 77 rfl (by decide)).trans (hq 6 77 rfl rfl)) (fun hg => op_val (w' := w') (run_pickS rfl (((f 87 rfl (by decide)).trans (hq 16 87 rfl rfl)).trans (cond_yesS hg)) (by rw [((f 97 rfl (by decide)).trans (hq 26 97 rfl rfl))]; exact se_pk27 hg)) (Below.refl _ _) (cond_yesS hg).symm) (fun hg => ⟨undef, rfl, Below.refl _ _, cond_noS hg⟩)
        ·exact op_plain rfl rfl (op_val (w' := w') (run_pickS rfl ((f 77 rfl (by decide)).trans (hq 6 77 rfl rfl)) (by rw [((f 98 rfl (by decide)).trans (hq 27 98 rfl rfl))]; exact se_pk28)) (Below.refl _ _) rfl)
        ·exact op_plain rfl rfl (op_val (w' := w') (run_idxBS rfl ((f 71 rfl (by decide)).trans (hq 0 71 rfl rfl)) ((f 72 rfl (by decide)).trans (hq 1 72 rfl rfl)) hkN) (Below.refl _ _) rfl)
       ·intro q' w' hb hq
        have f : ∀ t, [71, 72, 73, 74, 75, 76, 77, 78, 79, 80, 81, 82, 83, 84, 85, 86, 87, 88, 89, 90, 91, 92, 93, 94, 95, 96, 97, 98, 99, 100].contains t = true -> t < 114 -> (frm a0 [71, 72, 73, 74, 75, 76, 77, 78, 79, 80, 81, 82, 83, 84, 85, 86, 87, 88, 89, 90, 91, 92, 93, 94, 95, 96, 97, 98, 99, 100] q').eval (.tmp t) = q' t := fun t h1 h2 => frm_in h1 (by rw [hsz]; exact h2)
        show wpOps Tryz.prog _ _ [30] _ _
        rw [wpOps_cons]; refine op_atR rfl rfl ?_
        refine op_skip (w' := w'.setCell ⟨w5.heap.size, 0 + k, none⟩ (.bool (b0 || (!p && gf yn)))) rfl (run_storeS rfl ((f 100 rfl (by decide)).trans (hq 29 100 (by decide) rfl)) ((f 99 rfl (by decide)).trans (hq 28 99 (by decide) rfl)) (C0.out w' hb).1 (C0.out w' hb).2) ?_
        show K' _ _
        refine hK' _ _ ?_
        rw [<- ha0]
        go_meet
        exact ⟨w', hb, by rw [Nat.zero_add]⟩
      case rest =>
       obtain ⟨wz, hbz, hwc⟩ := hcut.out
       have HF9 : Hid (BJ w5 w5.heap.size N (putB (gTo (bkB ⟨[a, b], rules⟩ (pk n 3)) k) k ((!bitAt ⟨[a, b], rules⟩ propsL (pk n 3) (k : Int)) && anTo gf ((nextL ⟨[a, b], rules⟩) (k : Int)) (q + 1))) wc /\ TrV wc gg N gf) := by
        have h1 := (HS.out.1.later hbz).put k (b0 || (!p && gf yn))
        have h2 : putB (putB (gTo (bkB ⟨[a, b], rules⟩ (pk n 3)) k) k ((!bitAt ⟨[a, b], rules⟩ propsL (pk n 3) (k : Int)) && anTo gf ((nextL ⟨[a, b], rules⟩) (k : Int)) q)) k (b0 || (!p && gf yn)) = putB (gTo (bkB ⟨[a, b], rules⟩ (pk n 3)) k) k ((!bitAt ⟨[a, b], rules⟩ propsL (pk n 3) (k : Int)) && anTo gf ((nextL ⟨[a, b], rules⟩) (k : Int)) (q + 1)) := by
         rw [anTo_succ, HY.out, <- HB.out, HP.out]
         funext j
         unfold putB
         split
         ·cases p <;> simp
         ·rfl
        rw [h2, <- hwc] at h1; refine ⟨h1, fun c hc => ?_⟩
        rw [hwc]; exact (World.cell?_setCell_other _ _ _ _ (by intro e; injection e with e _ _; first | exact hgE e | exact hgE e.symm)).trans (cellL hbz (HS.out.2 c hc))
       clear hcut hbz hwc
       go_wp2_with fail
       go_roundw
       case rel => exact ⟨q + 1, by omega, by go_num, HF9.out⟩
       case measure => simp [intOf]; omega
     ·obtain rfl : q = Ln := by omega
      have HF8 : Hid (BJ w5 w5.heap.size N (gTo (bkB ⟨[a, b], rules⟩ (pk n 3)) (k + 1)) wr) := by
       have h1 := HS.out.1
       have h2 : ((!bitAt ⟨[a, b], rules⟩ propsL (pk n 3) (k : Int)) && anTo gf ((nextL ⟨[a, b], rules⟩) (k : Int)) q) = (bkB ⟨[a, b], rules⟩ (pk n 3)) k := by
        have h3 := bk_end (m := ⟨[a, b], rules⟩) (u := pk n 3) (k := k) (gf := gf) (N := N) (fun y hy => HRg.out.rng k y hkN hy) HT11.out.2.1
        rw [HLn.out] at h3; exact h3
       rw [h2, gTo_put] at h1; exact h1
      go_wp2_with fail
      go_roundw
      case rel => exact ⟨k + 1, by omega, by go_num, HF8⟩
      case measure => simp [intOf]; omega
   ·obtain rfl : k = N := by omega
    have HTb : Hid (TrV wr w5.heap.size k (bkB ⟨[a, b], rules⟩ (pk n 3))) := fun c hc => by rw [HR.out.cell hc, gTo_all hc]
    have hb5r : Below w5.heap.size w5 wr := HR.out.below; have hal := HAl.out wr; clear HR
    go_upto_region 17 with (first
     | (go_at_call 16; refine hal.mono ?_; rintro e w10 ⟨ag, ac, rfl, hb10, HT10⟩; have hle := HLe.out w10 ag ac w5.heap.size k (bkB ⟨[a, b], rules⟩ (pk n 3)) (BkP ⟨[a, b], rules⟩ (pk n 3)) (hb5r.trans (hb10.mono hb5r.size)) HT10.out (HTb.out.below hb10) (fun c _ => bkB_iff))
     | (go_at_call 15; refine hle.mono ?_; rintro e w11 ⟨gg, gc, gf, rfl, hb11, HT11⟩))
    have hb511 := (hb5r.trans (hb10.mono hb5r.size)).trans (hb11.mono (hb5r.trans (hb10.mono hb5r.size)).size); have hbF := hbw5.trans (hb511.mono hbw5.size); have d0 := HT11.out.1 bn hbN; have hiff := HKe.out.trans (not_congr (HT11.out.2.1 bn hbN).symm); clear hal hle
    cases hgf : gf bn with
    | true =>
     rw [hgf] at d0 hiff
     obtain rfl : b1 = false := by
      cases b1 with
      | false => rfl
      | true => exact absurd rfl (hiff.1 rfl)
     go_wp2_with fail
     go_ret
     exact ⟨by first | rfl | simp, hbF⟩
    | false =>
     rw [hgf] at d0 hiff; obtain rfl : b1 = true := hiff.2 (by decide)
     go_wp2_with fail
     go_ret
     exact ⟨by first | rfl | simp, hbF⟩
end Go.Proofs.YtepefdhdcfnmkaaGreatDoor
