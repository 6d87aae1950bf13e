/-
  Joined out of UnWalk, in their order: a claim bears at most so many files.
-/
import Derived.Test.YtepefdhdcfnmkaaGreatDoorTopA
import Derived.Deep.QuietTactic
import Derived.BigQuiet
namespace Go.Proofs.YtepefdhdcfnmkaaGreatDoor
open Go.ChangeShapes Go.WideShapes Go.ChangeAt Go.RowKit Go.Deep
open Terms Tm
set_option maxHeartbeats 6400000
set_option maxRecDepth 20000
theorem topUntil_walk (c0 c1 c2 c3 c4 c5 c6 : Value) (a b : Vr) (rules : List Ru) (n p : Int) (w : World) (hB : 0 < w.heap.size) (hT : TabAt w) (hG : GV a b) (hnn : I64 n) (hnp : I64 p)
  (hmd : ∀ w', Below w.heap.size w w' -> Calls Tryz.prog 17 #[.agg #[c0, c1, c2, c3, c4, c5, c6]] w' fun e w2 => ∃ va vr, e = .returned (.agg #[va, vr]) /\ Below w'.heap.size w' w2 /\ GModelR w2 va vr [a, b] rules) :
  Calls Tryz.prog 4 #[.agg #[c0, c1, c2, c3, c4, c5, c6], .int .i64 n, .int .i64 p] w fun e w' => e = .returned (.bool true) /\ Below w.heap.size w w' := by
 have hA1 : Below w.heap.size w (w.alloc (.cells #[c0, c1, c2, c3, c4, c5, c6] 25)) := (Below.refl _ _).alloc (Nat.le_refl _) _
 have HD0 : Hid (DBox (w.alloc (.cells #[c0, c1, c2, c3, c4, c5, c6] 25)) w.heap.size c0 c1 c2 c3 c4 c5 c6) := by
  show DBox _ _ _ _ _ _ _ _ _
  refine ⟨?_, ?_, ?_, ?_, ?_, ?_, ?_⟩ <;> simp [go_sem]
 have hM : MdOk w c0 c1 c2 c3 c4 c5 c6 ⟨[a, b], rules⟩ := mdOk hG hmd; have HH : Hid (HoldsOk w c0 c1 c2 c3 c4 c5 c6 ⟨[a, b], rules⟩) := holdsOk hB hT hG hmd; have hwd := world_any c0 c1 c2 c3 c4 c5 c6 a b rules _ (Nat.lt_of_lt_of_le hB hA1.size) (hT.below hA1 hB) hG (fun w' h => hM w' (hA1.trans (h.mono hA1.size)))
 have HF : Hid (mcode ⟨[a, b], rules⟩ = 0 -> WdF ⟨[a, b], rules⟩ (nSt a b)) := fun hm => wdF hm hG
 obtain ⟨h0n, h3n⟩ := pk_range (n := n) (m := 3) (by decide)
 obtain ⟨qn, hqn⟩ : ∃ q : Nat, pk n 3 = (q : Int) := ⟨(pk n 3).toNat, by omega⟩
 have HPkn : Hid (∀ w', Calls Tryz.prog 14 #[.int .i64 n, .int .i64 3] w' fun e w2 => e = .returned (.int .i64 (qn : Int)) /\ w2 = w') := fun w' => by
  have := Picked_is n 3 w' hnn (by decide) (by decide)
  rw [hqn] at this; exact this
 have HNn : Hid (I64 n /\ pk n 3 = (qn : Int) /\ 0 <= pk n 3 /\ pk n 3 < 3) := ⟨hnn, hqn, h0n, h3n⟩; have hln : qn < 3 := by omega
 clear hnn hqn h0n h3n; obtain ⟨h0p, h3p⟩ := pk_range (n := p) (m := 3) (by decide)
 obtain ⟨qp, hqp⟩ : ∃ q : Nat, pk p 3 = (q : Int) := ⟨(pk p 3).toNat, by omega⟩
 have HPkp : Hid (∀ w', Calls Tryz.prog 14 #[.int .i64 p, .int .i64 3] w' fun e w2 => e = .returned (.int .i64 (qp : Int)) /\ w2 = w') := fun w' => by
  have := Picked_is p 3 w' hnp (by decide) (by decide)
  rw [hqp] at this; exact this
 have HNp : Hid (I64 p /\ pk p 3 = (qp : Int) /\ 0 <= pk p 3 /\ pk p 3 < 3) := ⟨hnp, hqp, h0p, h3p⟩; have hlp : qp < 3 := by omega
 clear hnp hqp h0p h3p; clear hmd hM hT hG; generalize nSt a b = N at *
 go_enter Tryz.func4, Tryz.ntmps4
 go_upto_region 2 with (first | (go_at_call 8; refine hwd.mono ?_; rintro e w1 ⟨lo, lc, no, nc, rfl, hb1, HW⟩))
 have hbw1 := hA1.trans (hb1.mono hA1.size); have HDb : Hid (DBox w1 w.heap.size c0 c1 c2 c3 c4 c5 c6) := HD0.out.below hb1; clear hwd HD0
 go_cut [11, 12] (fun u v wx => ∃ b1 : Bool, u = .bool b1 /\ v = .bool true /\ Hid (Kp ⟨[a, b], rules⟩ (Tm.bi 15 0 (Tm.leaf 13 (pk n 3)) (Tm.leaf 13 (pk p 3))) b1 /\ Below w1.heap.size w1 wx))
 case first =>
  rename_i J K' hJ hK'; generalize ha0 : Act.mk _ _ = a0; have hsz : a0.tmps.size = 112 := by rw [<- ha0]; rfl
  have aD : a0.eval (.tmp 3) = .pointer (some ⟨w.heap.size, 0, none⟩) := by rw [<- ha0]; rfl
  have a1 : a0.eval (.tmp 1) = .int .i64 n := by rw [<- ha0]; rfl
  have a2 : a0.eval (.tmp 2) = .int .i64 p := by rw [<- ha0]; rfl
  have hDx : ∀ w', Below w1.heap.size w1 w' -> DBox w' w.heap.size c0 c1 c2 c3 c4 c5 c6 := fun w' hb => HDb.out.below hb
  refine wp_anyway (by rfl) [28, 29, 30, 31, 32, 33, 34, 35, 27, 36, 37, 11, 12] 12 (FdP ⟨[a, b], rules⟩ [.same (.agg #[c0, c1, c2, c3, c4, c5, c6]), .same (.int .i64 n), .ops [((13 : Int), pk n 3)], .same (.int .i64 p), .ops [((13 : Int), pk p 3)], .two [((13 : Int), pk n 3)] [((13 : Int), pk p 3)], .ops (((15 : Int), (0 : Int)) :: ([((13 : Int), pk n 3)] ++ [((13 : Int), pk p 3)])), .held (Tm.bi 15 0 (Tm.leaf 13 (pk n 3)) (Tm.leaf 13 (pk p 3))), .held (Tm.bi 15 0 (Tm.leaf 13 (pk n 3)) (Tm.leaf 13 (pk p 3))), .bit (Tm.bi 15 0 (Tm.leaf 13 (pk n 3)) (Tm.leaf 13 (pk p 3))), .yes, .bit (Tm.bi 15 0 (Tm.leaf 13 (pk n 3)) (Tm.leaf 13 (pk p 3)))]) (by rw [hsz]; rfl) (FdP_stable _ _ _) ?_ ?_
  ·intro i o hi ho q w' hb hq
   have f : ∀ t, [28, 29, 30, 31, 32, 33, 34, 35, 27, 36, 37, 11, 12].contains t = true -> t < 112 -> (frm a0 [28, 29, 30, 31, 32, 33, 34, 35, 27, 36, 37, 11, 12] q).eval (.tmp t) = q t := fun t h1 h2 => frm_in h1 (by rw [hsz]; exact h2)
   have hc : i = 0 \/ i = 1 \/ i = 2 \/ i = 3 \/ i = 4 \/ i = 5 \/ i = 6 \/ i = 7 \/ i = 8 \/ i = 9 \/ i = 10 \/ i = 11 := by omega
   rcases hc with rfl | rfl | rfl | rfl | rfl | rfl | rfl | rfl | rfl | rfl | rfl | rfl
   all_goals obtain rfl := Option.some.inj ho
   ·exact st_load7 rfl ((frm_out rfl).trans aD) (hDx w' hb)
   ·exact st_int rfl ((frm_out rfl).trans a1)
   ·exact st_prop HNn.out.1 rfl ((f 29 rfl (by decide)).trans (hq 1 29 rfl rfl))
   ·exact st_int rfl ((frm_out rfl).trans a2)
   ·exact st_prop HNp.out.1 rfl ((f 31 rfl (by decide)).trans (hq 3 31 rfl rfl))
   ·exact st_two rfl rfl rfl (by rw [(f 30 rfl (by decide))]; exact (hq 2 30 rfl rfl)) (by rw [(f 32 rfl (by decide))]; exact (hq 4 32 rfl rfl))
   ·exact st_J2 rfl (by rw [(f 33 rfl (by decide))]; exact (hq 5 33 rfl rfl)) (by simp) (by simp) (by simp) (by simp)
   ·exact st_holds rfl HH.out (hbw1.trans (hb.mono hbw1.size)) ((f 28 rfl (by decide)).trans (hq 0 28 rfl rfl)) (by rw [(f 34 rfl (by decide))]; exact (hq 6 34 rfl rfl)) (FOk.tbi (by decide) (by decide) (FOk.prop HNn.out.2.2.1 HNn.out.2.2.2) (FOk.prop HNp.out.2.2.1 HNp.out.2.2.2)) (by simp) (by decide)
   ·exact st_mvh rfl (by rw [(f 35 rfl (by decide))]; exact (hq 7 35 rfl rfl))
   ·exact st_ex0 rfl (by rw [(f 27 rfl (by decide))]; exact (hq 8 27 rfl rfl))
   ·exact st_ex1 rfl (by rw [(f 27 rfl (by decide))]; exact (hq 8 27 rfl rfl))
   ·exact st_asb rfl (by rw [(f 36 rfl (by decide))]; exact (hq 9 36 rfl rfl))
  ·intro q w' hb hq
   have f : ∀ t, [28, 29, 30, 31, 32, 33, 34, 35, 27, 36, 37, 11, 12].contains t = true -> t < 112 -> (frm a0 [28, 29, 30, 31, 32, 33, 34, 35, 27, 36, 37, 11, 12] q).eval (.tmp t) = q t := fun t h1 h2 => frm_in h1 (by rw [hsz]; exact h2)
   have eX := (f 37 rfl (by decide)).trans (hq 10 37 (by decide) rfl)
   obtain ⟨b1, h8, hK8⟩ := hq 11 11 (by decide) rfl
   show wpOps Tryz.prog _ _ [12] _ _
   rw [wpOps_cons]; refine op_atR rfl rfl ?_
   refine op_run (w' := w') (v := .bool true) ?_ ?_
   ·generalize (frm a0 [28, 29, 30, 31, 32, 33, 34, 35, 27, 36, 37, 11, 12] q).eval = ev at eX ⊢
    simp [execOp, eX, go_sem]
   rw [late_put 12 rfl rfl]
   show K' _ _
   refine hK' _ _ ?_
   rw [<- ha0]
   go_meet
   exact ⟨b1, (show setV q 12 (.bool true) 11 = .bool b1 from (setV_other (by decide)).trans h8), setV_same q 12 _, hK8, hb⟩
 case rest =>
  obtain ⟨b1, rfl, rfl, HK1⟩ := hcut; obtain ⟨w5, rfl⟩ : ∃ w5, w5 = wc := ⟨_, rfl⟩
  have hb15 : Below w1.heap.size w1 w5 := HK1.out.2; have hbw5 := hbw1.trans (hb15.mono hbw1.size); have Hmc : Hid (mcode ⟨[a, b], rules⟩ = 0) := (pcode_m (tk_zero HK1.out.1.2).1).1; have HFd := HF.out Hmc.out; obtain ⟨lb, nb, rfl, rfl, hLt, hNx⟩ := wd_rows HFd HW.out; obtain ⟨bn, hbn, hbN⟩ := HFd.beg; have hN1 := HFd.one; have hN16 := HFd.few
  have HKe : Hid (b1 = true ↔ ¬ Lead (nextL ⟨[a, b], rules⟩) (fun x => bitAt ⟨[a, b], rules⟩ propsL (pk p 3) x = false /\ bitAt ⟨[a, b], rules⟩ propsL (pk n 3) x = true) (fun x => bitAt ⟨[a, b], rules⟩ propsL (pk p 3) x = false /\ bitAt ⟨[a, b], rules⟩ propsL (pk n 3) x = false) (bn : Int) /\ ¬ Stay (nextL ⟨[a, b], rules⟩) (fun x => bitAt ⟨[a, b], rules⟩ propsL (pk p 3) x = false /\ bitAt ⟨[a, b], rules⟩ propsL (pk n 3) x = true) (bn : Int)) := by
   have := kp_until HK1.out.1; rw [hbn] at this; exact this
  have hco := column_any lb lc N qp false (ltB ⟨[a, b], rules⟩) w5 hN1 (by omega) hlp (hLt.below hb15)
  have HCn : Hid (∀ w', Below w5.heap.size w5 w' -> Calls Tryz.prog 13 #[.slice (some ⟨lb, 0, none⟩) N lc, .int .i64 (qn : Int), .bool true] w' (ToOk w' N (fun c => ltB ⟨[a, b], rules⟩ c qn == true))) := fun w' h => column_any lb lc N qn true (ltB ⟨[a, b], rules⟩) w' hN1 (by omega) hln ((hLt.below hb15).below h)
  have HA : ∀ c : Nat, c < N -> ((fun c => (ltB ⟨[a, b], rules⟩ c qp == false) && (ltB ⟨[a, b], rules⟩ c qn == true)) c = true ↔ (fun x => bitAt ⟨[a, b], rules⟩ propsL (pk p 3) x = false /\ bitAt ⟨[a, b], rules⟩ propsL (pk n 3) x = true) (c : Int)) := fun c _ => by
   simp only []; rw [lt_bit HNp.out.2.1, lt_bit HNn.out.2.1]
   cases bitAt ⟨[a, b], rules⟩ propsL (pk p 3) (c : Int) <;> cases bitAt ⟨[a, b], rules⟩ propsL (pk n 3) (c : Int) <;> simp
  have HW1 : ∀ c : Nat, c < N -> ((fun c => (ltB ⟨[a, b], rules⟩ c qp == false) && !(ltB ⟨[a, b], rules⟩ c qn == true)) c = true ↔ (fun x => bitAt ⟨[a, b], rules⟩ propsL (pk p 3) x = false /\ bitAt ⟨[a, b], rules⟩ propsL (pk n 3) x = false) (c : Int)) := fun c _ => by
   simp only []; rw [lt_bit HNp.out.2.1, lt_bit HNn.out.2.1]
   cases bitAt ⟨[a, b], rules⟩ propsL (pk p 3) (c : Int) <;> cases bitAt ⟨[a, b], rules⟩ propsL (pk n 3) (c : Int) <;> simp
  have HLe : Hid (∀ (w' : World) (ag ac gg gc : Nat), Below w5.heap.size w5 w' -> TrV w' ag N (fun c => (ltB ⟨[a, b], rules⟩ c qp == false) && (ltB ⟨[a, b], rules⟩ c qn == true)) -> TrV w' gg N (fun c => (ltB ⟨[a, b], rules⟩ c qp == false) && !(ltB ⟨[a, b], rules⟩ c qn == true)) -> Calls Tryz.prog 15 #[.slice (some ⟨nb, 0, none⟩) N nc, .slice (some ⟨ag, 0, none⟩) N ac, .slice (some ⟨gg, 0, none⟩) N gc] w' (TrOk w' N (Lead (nextL ⟨[a, b], rules⟩) (fun x => bitAt ⟨[a, b], rules⟩ propsL (pk p 3) x = false /\ bitAt ⟨[a, b], rules⟩ propsL (pk n 3) x = true) (fun x => bitAt ⟨[a, b], rules⟩ propsL (pk p 3) x = false /\ bitAt ⟨[a, b], rules⟩ propsL (pk n 3) x = false)))) := fun w' ag ac gg gc h hv hg => leads_any _ _ _ N nb nc ag ac gg gc _ _ w' hN1 (by omega) ((hNx.below hb15).below h) hv hg HA HW1 HFd.rng HFd.len
  have HGr : Hid (∀ (w' : World) (g cap : Nat), Below w5.heap.size w5 w' -> TrV w' g N (fun c => (ltB ⟨[a, b], rules⟩ c qp == false) && (ltB ⟨[a, b], rules⟩ c qn == true)) -> Calls Tryz.prog 12 #[.slice (some ⟨nb, 0, none⟩) N nc, .slice (some ⟨g, 0, none⟩) N cap] w' (TrOk w' N (Stay (nextL ⟨[a, b], rules⟩) (fun x => bitAt ⟨[a, b], rules⟩ propsL (pk p 3) x = false /\ bitAt ⟨[a, b], rules⟩ propsL (pk n 3) x = true)))) := fun w' g cap h hv => grows_any _ _ N nb nc g cap _ w' hN1 (by omega) ((hNx.below hb15).below h) hv HA HFd.rng HFd.len
  have hpk := HPkp.out w5; have hmk := run_make_row' (P := Tryz.prog) 35 4 (.bool false) 1 Tryz.underlying35 infoBool rfl .i64 .i64 N (by omega) (by omega)
  clear HA HW1; rw [hbn]; have hbi1 : ¬ (bn : Int) < 0 := by omega
  have hbi2 : ¬ (N : Int) <= (bn : Int) := by omega
  have hbi3 : (bn : Int) < (N : Int) := by omega
  have hbi4 : ¬ N <= bn := by omega
  clear hbn HK1 HDb HH HW hLt hNx
  go_upto_region 6 with (first
   | (go_at_call 14; refine hpk.mono ?_; rintro e w6 ⟨rfl, rfl⟩)
   | (go_at_call 13; refine hco.mono ?_; rintro e w7 ⟨wb, wc0, rfl, hb7, HT7⟩))
  have hpk2 := HPkn.out w7; have hco2 := HCn.out w7 hb7; clear hpk hco
  go_upto_region 7 with (first
   | (go_at_call 14; refine hpk2.mono ?_; rintro e w8 ⟨rfl, rfl⟩)
   | (go_at_call 13; refine hco2.mono ?_; rintro e w9 ⟨fb, fc0, rfl, hb9, HT9⟩))
  have hb59 := hb7.trans (hb9.mono hb7.size); have HTw : Hid (TrV w9 wb N (fun c => ltB ⟨[a, b], rules⟩ c qp == false)) := HT7.out.below hb9
  clear hpk2 hco2; have hbX : Below w9.heap.size w9 (w9.alloc (.cells (madeCells #[.bool false] N) 4)) := (Below.refl _ _).alloc (Nat.le_refl _) _
  have HJe : Hid (BJ w9 w9.heap.size N (gTo (fun c => (ltB ⟨[a, b], rules⟩ c qp == false) && !(ltB ⟨[a, b], rules⟩ c qn == true)) 0) ((w9.alloc (.cells (madeCells #[.bool false] N) 4)).alloc (.cells (madeCells #[.bool false] N) 4))) := by
   show BJ _ _ _ _ _
   rw [gTo_zero]; exact (BJ.made (Below.refl _ _)).later ((Below.refl _ _).alloc (Nat.le_refl _) _)
  have HJf : Hid (BJ w9 (w9.heap.size + 1) N (gTo (fun c => (ltB ⟨[a, b], rules⟩ c qp == false) && (ltB ⟨[a, b], rules⟩ c qn == true)) 0) ((w9.alloc (.cells (madeCells #[.bool false] N) 4)).alloc (.cells (madeCells #[.bool false] N) 4))) := by
   show BJ _ _ _ _ _
   rw [gTo_zero]; have := BJ.made (N := N) hbX; simpa using this
  go_upto_region 10 with fail
  generalize (w9.alloc (.cells (madeCells #[.bool false] N) 4)).alloc (.cells (madeCells #[.bool false] N) 4) = W11 at *
  go_loopw [17] (fun i wr => ∃ k : Nat, k <= N /\ i = .int .i64 (k : Int) /\ Hid (BJ w9 w9.heap.size N (gTo (fun c => (ltB ⟨[a, b], rules⟩ c qp == false) && !(ltB ⟨[a, b], rules⟩ c qn == true)) k) wr /\ BJ w9 (w9.heap.size + 1) N (gTo (fun c => (ltB ⟨[a, b], rules⟩ c qp == false) && (ltB ⟨[a, b], rules⟩ c qn == true)) k) wr)) (fun i _ => N - (intOf i).toNat)
  case atStart => exact ⟨0, Nat.zero_le _, rfl, HJe.out, HJf.out⟩
  case round =>
   obtain ⟨k, hk, rfl, HR⟩ := hrel
   by_cases hkN : k < N
   ·have hki : (k : Int) < (N : Int) := by omega
    have d0 := HTw.out.below HR.out.1.below k hkN; have d1 := HT9.out.below HR.out.1.below k hkN; have e0 := HR.out.1.cell hkN; have e1 := HR.out.1.frozen k
    have HP1 : Hid (∀ v, (fun c => (ltB ⟨[a, b], rules⟩ c qp == false) && !(ltB ⟨[a, b], rules⟩ c qn == true)) k = v -> BJ w9 w9.heap.size N (gTo (fun c => (ltB ⟨[a, b], rules⟩ c qp == false) && !(ltB ⟨[a, b], rules⟩ c qn == true)) (k + 1)) (wr.setCell ⟨w9.heap.size, k, none⟩ (.bool v)) /\ BJ w9 (w9.heap.size + 1) N (gTo (fun c => (ltB ⟨[a, b], rules⟩ c qp == false) && (ltB ⟨[a, b], rules⟩ c qn == true)) k) (wr.setCell ⟨w9.heap.size, k, none⟩ (.bool v))) := fun v hv => by
     have := HR.out.1.put k v; rw [<- hv, gTo_put, hv] at this; exact ⟨this, HR.out.2.other (Nat.le_refl _) (by omega) _⟩
    have HP2 : Hid (∀ wx v, BJ w9 w9.heap.size N (gTo (fun c => (ltB ⟨[a, b], rules⟩ c qp == false) && !(ltB ⟨[a, b], rules⟩ c qn == true)) (k + 1)) wx /\ BJ w9 (w9.heap.size + 1) N (gTo (fun c => (ltB ⟨[a, b], rules⟩ c qp == false) && (ltB ⟨[a, b], rules⟩ c qn == true)) k) wx -> (fun c => (ltB ⟨[a, b], rules⟩ c qp == false) && (ltB ⟨[a, b], rules⟩ c qn == true)) k = v -> BJ w9 w9.heap.size N (gTo (fun c => (ltB ⟨[a, b], rules⟩ c qp == false) && !(ltB ⟨[a, b], rules⟩ c qn == true)) (k + 1)) (wx.setCell ⟨w9.heap.size + 1, k, none⟩ (.bool v)) /\ BJ w9 (w9.heap.size + 1) N (gTo (fun c => (ltB ⟨[a, b], rules⟩ c qp == false) && (ltB ⟨[a, b], rules⟩ c qn == true)) (k + 1)) (wx.setCell ⟨w9.heap.size + 1, k, none⟩ (.bool v))) := fun wx v hx hv => by
     have := hx.2.put k v; rw [<- hv, gTo_put, hv] at this; exact ⟨hx.1.other (Nat.le_succ _) (by omega) _, this⟩
    clear HR
    cases hwv : (ltB ⟨[a, b], rules⟩ k qp == false) <;> cases hfv : (ltB ⟨[a, b], rules⟩ k qn == true)
    ·simp only [hwv] at d0
     simp only [hfv] at d1
     go_upto_region 13 with fail
     have HQ : Hid (BJ w9 w9.heap.size N (gTo (fun c => (ltB ⟨[a, b], rules⟩ c qp == false) && !(ltB ⟨[a, b], rules⟩ c qn == true)) (k + 1)) (wr.setCell ⟨w9.heap.size, k, none⟩ (.bool false)) /\ BJ w9 (w9.heap.size + 1) N (gTo (fun c => (ltB ⟨[a, b], rules⟩ c qp == false) && (ltB ⟨[a, b], rules⟩ c qn == true)) k) (wr.setCell ⟨w9.heap.size, k, none⟩ (.bool false))) := HP1.out false (by simp only []; rw [hwv, hfv]; rfl)
     clear d0 d1 e0 e1; generalize wr.setCell ⟨w9.heap.size, k, none⟩ (.bool false) = wx at *; have d0 := HTw.out.below HQ.out.1.below k hkN; have d1 := HT9.out.below HQ.out.1.below k hkN; simp only [hwv] at d0; simp only [hfv] at d1; have e0 := HQ.out.2.cell hkN; have e1 := HQ.out.2.frozen k
     go_wp2_with fail
     go_roundw
     case rel => exact ⟨k + 1, by omega, by go_num, HP2.out wx false HQ.out (by simp only []; rw [hwv, hfv]; rfl)⟩
     case measure => simp [intOf]; omega
    ·simp only [hwv] at d0
     simp only [hfv] at d1
     go_upto_region 13 with fail
     have HQ : Hid (BJ w9 w9.heap.size N (gTo (fun c => (ltB ⟨[a, b], rules⟩ c qp == false) && !(ltB ⟨[a, b], rules⟩ c qn == true)) (k + 1)) (wr.setCell ⟨w9.heap.size, k, none⟩ (.bool false)) /\ BJ w9 (w9.heap.size + 1) N (gTo (fun c => (ltB ⟨[a, b], rules⟩ c qp == false) && (ltB ⟨[a, b], rules⟩ c qn == true)) k) (wr.setCell ⟨w9.heap.size, k, none⟩ (.bool false))) := HP1.out false (by simp only []; rw [hwv, hfv]; rfl)
     clear d0 d1 e0 e1; generalize wr.setCell ⟨w9.heap.size, k, none⟩ (.bool false) = wx at *; have d0 := HTw.out.below HQ.out.1.below k hkN; have d1 := HT9.out.below HQ.out.1.below k hkN; simp only [hwv] at d0; simp only [hfv] at d1; have e0 := HQ.out.2.cell hkN; have e1 := HQ.out.2.frozen k
     go_wp2_with fail
     go_roundw
     case rel => exact ⟨k + 1, by omega, by go_num, HP2.out wx false HQ.out (by simp only []; rw [hwv, hfv]; rfl)⟩
     case measure => simp [intOf]; omega
    ·simp only [hwv] at d0
     simp only [hfv] at d1
     go_upto_region 13 with fail
     have HQ : Hid (BJ w9 w9.heap.size N (gTo (fun c => (ltB ⟨[a, b], rules⟩ c qp == false) && !(ltB ⟨[a, b], rules⟩ c qn == true)) (k + 1)) (wr.setCell ⟨w9.heap.size, k, none⟩ (.bool true)) /\ BJ w9 (w9.heap.size + 1) N (gTo (fun c => (ltB ⟨[a, b], rules⟩ c qp == false) && (ltB ⟨[a, b], rules⟩ c qn == true)) k) (wr.setCell ⟨w9.heap.size, k, none⟩ (.bool true))) := HP1.out true (by simp only []; rw [hwv, hfv]; rfl)
     clear d0 d1 e0 e1; generalize wr.setCell ⟨w9.heap.size, k, none⟩ (.bool true) = wx at *; have d0 := HTw.out.below HQ.out.1.below k hkN; have d1 := HT9.out.below HQ.out.1.below k hkN; simp only [hwv] at d0; simp only [hfv] at d1; have e0 := HQ.out.2.cell hkN; have e1 := HQ.out.2.frozen k
     go_wp2_with fail
     go_roundw
     case rel => exact ⟨k + 1, by omega, by go_num, HP2.out wx false HQ.out (by simp only []; rw [hwv, hfv]; rfl)⟩
     case measure => simp [intOf]; omega
    ·simp only [hwv] at d0
     simp only [hfv] at d1
     go_upto_region 13 with fail
     have HQ : Hid (BJ w9 w9.heap.size N (gTo (fun c => (ltB ⟨[a, b], rules⟩ c qp == false) && !(ltB ⟨[a, b], rules⟩ c qn == true)) (k + 1)) (wr.setCell ⟨w9.heap.size, k, none⟩ (.bool false)) /\ BJ w9 (w9.heap.size + 1) N (gTo (fun c => (ltB ⟨[a, b], rules⟩ c qp == false) && (ltB ⟨[a, b], rules⟩ c qn == true)) k) (wr.setCell ⟨w9.heap.size, k, none⟩ (.bool false))) := HP1.out false (by simp only []; rw [hwv, hfv]; rfl)
     clear d0 d1 e0 e1; generalize wr.setCell ⟨w9.heap.size, k, none⟩ (.bool false) = wx at *; have d0 := HTw.out.below HQ.out.1.below k hkN; have d1 := HT9.out.below HQ.out.1.below k hkN; simp only [hwv] at d0; simp only [hfv] at d1; have e0 := HQ.out.2.cell hkN; have e1 := HQ.out.2.frozen k
     go_wp2_with fail
     go_roundw
     case rel => exact ⟨k + 1, by omega, by go_num, HP2.out wx true HQ.out (by simp only []; rw [hwv, hfv]; rfl)⟩
     case measure => simp [intOf]; omega
   ·obtain rfl : k = N := by omega
    have hb9r : Below w9.heap.size w9 wr := HR.out.1.below; have hb5r := hb59.trans (hb9r.mono hb59.size); have HTe : Hid (TrV wr w9.heap.size k (fun c => (ltB ⟨[a, b], rules⟩ c qp == false) && !(ltB ⟨[a, b], rules⟩ c qn == true))) := fun c hc => by rw [HR.out.1.cell hc, gTo_all hc]
    have HTf : Hid (TrV wr (w9.heap.size + 1) k (fun c => (ltB ⟨[a, b], rules⟩ c qp == false) && (ltB ⟨[a, b], rules⟩ c qn == true))) := fun c hc => by rw [HR.out.2.cell hc, gTo_all hc]
    have hle := HLe.out wr (w9.heap.size + 1) k w9.heap.size k hb5r HTf.out HTe.out; clear HR
    go_upto_region 15 with (go_at_call 15; refine hle.mono ?_; rintro e w12 ⟨gg, gc, gf, rfl, hb12, HT12⟩)
    have hb512 := hb5r.trans (hb12.mono hb5r.size); have hgr := HGr.out w12 (w9.heap.size + 1) k hb512 (HTf.out.below hb12); clear hle
    go_upto_region 16 with (go_at_call 12; refine hgr.mono ?_; rintro e w13 ⟨sg, sc, sf, rfl, hb13, HT13⟩)
    have hb513 := hb512.trans (hb13.mono hb512.size); have hbF := hbw5.trans (hb513.mono hbw5.size); have d0 := HT12.out.1.below hb13 bn hbN; have d1 := HT13.out.1 bn hbN; have hiff := HKe.out.trans (and_congr (not_congr (HT12.out.2 bn hbN).symm) (not_congr (HT13.out.2 bn hbN).symm)); clear hgr
    cases hgf : gf bn <;> cases hsf : sf bn
    ·rw [hgf] at d0 hiff
     rw [hsf] at d1 hiff; obtain rfl : b1 = true := hiff.2 ⟨by decide, by decide⟩
     go_wp2_with fail
     go_ret
     exact ⟨by first | rfl | simp, hbF⟩
    all_goals
     rw [hgf] at d0 hiff; rw [hsf] at d1 hiff
     obtain rfl : b1 = false := by
      cases b1 with
      | false => rfl
      | true => exact absurd (hiff.1 rfl) (by simp)
     clear hiff hgf hsf HKe HT12 HT13
     go_wp2_with fail
     go_ret
     exact ⟨by first | rfl | simp, hbF⟩
end Go.Proofs.YtepefdhdcfnmkaaGreatDoor
