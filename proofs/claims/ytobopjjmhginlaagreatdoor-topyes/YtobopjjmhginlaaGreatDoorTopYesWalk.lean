import Derived.Test.YtobopjjmhginlaaGreatDoorTopOps
import Derived.Deep.Cut
import Derived.Deep.CutBlock
import Derived.Deep.CutRange
import Derived.Deep.DeepCutAuto
namespace Go.Proofs.YtobopjjmhginlaaGreatDoor
open Go.ChangeShapes Go.WideShapes Go.ChangeAt Go.RowKit Go.Deep
open Terms Tm
set_option maxHeartbeats 6400000
set_option maxRecDepth 20000
theorem topYes_walk (c0 c1 c2 c3 c4 c5 c6 : Value) (m : Mo) (w : World) (hH : HoldsOk w c0 c1 c2 c3 c4 c5 c6 m) :
    Calls Tryz.prog 3 #[.agg #[c0, c1, c2, c3, c4, c5, c6]] w fun e w' => e = .returned (.bool true) /\ Below w.heap.size w w' := by
  have hA : Below w.heap.size w (w.alloc (.cells #[c0, c1, c2, c3, c4, c5, c6] 25)) := (Below.refl _ _).alloc (Nat.le_refl _) _
  have HD0 : Hid (DBox (w.alloc (.cells #[c0, c1, c2, c3, c4, c5, c6] 25)) w.heap.size c0 c1 c2 c3 c4 c5 c6) := by
    show DBox _ _ _ _ _ _ _ _ _
    refine ⟨?_, ?_, ?_, ?_, ?_, ?_, ?_⟩ <;> simp [go_sem]
  have HH : Hid (HoldsOk w c0 c1 c2 c3 c4 c5 c6 m) := hH; clear hH
  go_enter Tryz.func3, Tryz.ntmps3
  go_upto_region 1 with fail
  generalize (w.alloc (.cells #[c0, c1, c2, c3, c4, c5, c6] 25)) = W0 at *; have hbW := hA; have HDb := HD0; have HB0 : Hid (Below W0.heap.size W0 W0) := Below.refl _ _
  go_cut [3, 4] (fun u v wx => ∃ b : Bool, u = .bool b /\ v = .bool true /\ Hid (Kp m (Tm.leaf 11 0) b /\ Below W0.heap.size W0 wx))
  case first =>
    rename_i J K' hJ hK'; generalize ha0 : Act.mk _ _ = a0; have hsz : a0.tmps.size = 32 := by rw [<- ha0]; rfl
    have aD : a0.eval (.tmp 1) = .pointer (some ⟨w.heap.size, 0, none⟩) := by rw [<- ha0]; rfl
    have hbw : Below w.heap.size w W0 := hbW.trans (HB0.out.mono hbW.size); have hDx : ∀ w', Below W0.heap.size W0 w' -> DBox w' w.heap.size c0 c1 c2 c3 c4 c5 c6 := fun w' hb => HDb.out.below (HB0.out.trans (hb.mono HB0.out.size))
    refine wp_inorder [8, 9, 10, 11, 7, 12, 13, 3, 4] 8 (FdP m [.same (.agg #[c0, c1, c2, c3, c4, c5, c6]), .same (.agg #[.int .i64 11, .int .i64 0]), .ops [((11 : Int), (0 : Int))], .held (Tm.leaf 11 0), .held (Tm.leaf 11 0), .bit (Tm.leaf 11 0), .yes, .bit (Tm.leaf 11 0)]) (by rw [hsz]; rfl) (FdP_stable _ _ _) ?_ ?_
    · intro i o hi ho q w' hb hq
      have f : ∀ t, [8, 9, 10, 11, 7, 12, 13, 3, 4].contains t = true -> t < 32 -> (frm a0 [8, 9, 10, 11, 7, 12, 13, 3, 4] q).eval (.tmp t) = q t := fun t h1 h2 => frm_in h1 (by rw [hsz]; exact h2)
      have hc : i = 0 \/ i = 1 \/ i = 2 \/ i = 3 \/ i = 4 \/ i = 5 \/ i = 6 \/ i = 7 := by omega
      rcases hc with rfl | rfl | rfl | rfl | rfl | rfl | rfl | rfl
      all_goals obtain rfl := Option.some.inj ho
      · exact st_load7 rfl ((frm_out rfl).trans aD) (hDx w' hb)
      · exact st_opl rfl
      · exact st_lit rfl ((f 9 rfl (by decide)).trans (hq 1 9 rfl rfl))
      · exact st_holds rfl HH.out (hbw.trans (hb.mono hbw.size)) ((f 8 rfl (by decide)).trans (hq 0 8 rfl rfl)) (by rw [(f 10 rfl (by decide))]; exact (hq 2 10 rfl rfl)) FOk.yes (by decide) (by omega)
      · exact st_mvh rfl (by rw [(f 11 rfl (by decide))]; exact (hq 3 11 rfl rfl))
      · exact st_ex0 rfl (by rw [(f 7 rfl (by decide))]; exact (hq 4 7 rfl rfl))
      · exact st_ex1 rfl (by rw [(f 7 rfl (by decide))]; exact (hq 4 7 rfl rfl))
      · exact st_asb rfl (by rw [(f 12 rfl (by decide))]; exact (hq 5 12 rfl rfl))
    · intro q w' hb hq
      have f : ∀ t, [8, 9, 10, 11, 7, 12, 13, 3, 4].contains t = true -> t < 32 -> (frm a0 [8, 9, 10, 11, 7, 12, 13, 3, 4] q).eval (.tmp t) = q t := fun t h1 h2 => frm_in h1 (by rw [hsz]; exact h2)
      have eX := (f 13 rfl (by decide)).trans (hq 6 13 (by decide) rfl)
      obtain ⟨b, h8, hK8⟩ := hq 7 3 (by decide) rfl
      show wpOps Tryz.prog _ _ [8] _ _
      rw [wpOps_cons]; refine op_atR rfl rfl ?_
      refine op_run (w' := w') (v := .bool true) ?_ ?_
      · generalize (frm a0 [8, 9, 10, 11, 7, 12, 13, 3, 4] q).eval = ev at eX ⊢
        simp [execOp, eX, go_sem]
      rw [late_put 4 rfl rfl]
      show K' _ _
      refine hK' _ _ ?_
      rw [<- ha0]
      go_meet
      exact ⟨b, (show setV q 4 (.bool true) 3 = .bool b from (setV_other (by decide)).trans h8), setV_same q 4 _, hK8, HB0.out.trans (hb.mono HB0.out.size)⟩
  case rest =>
    obtain ⟨b1, rfl, rfl, HK1⟩ := hcut; obtain ⟨V1, rfl⟩ : ∃ w4, w4 = wc := ⟨_, rfl⟩
    have HB1 : Hid (Below W0.heap.size W0 V1) := HK1.out.2
    go_upto_region 2 with fail
    go_cut [5, 6] (fun u v wx => ∃ b : Bool, u = .bool b /\ v = .bool true /\ Hid (Kp m (Tm.leaf 12 0) b /\ Below W0.heap.size W0 wx))
    case first =>
      rename_i J K' hJ hK'; generalize ha0 : Act.mk _ _ = a0; have hsz : a0.tmps.size = 32 := by rw [<- ha0]; rfl
      have aD : a0.eval (.tmp 1) = .pointer (some ⟨w.heap.size, 0, none⟩) := by rw [<- ha0]; rfl
      have hbw : Below w.heap.size w V1 := hbW.trans (HB1.out.mono hbW.size); have hDx : ∀ w', Below V1.heap.size V1 w' -> DBox w' w.heap.size c0 c1 c2 c3 c4 c5 c6 := fun w' hb => HDb.out.below (HB1.out.trans (hb.mono HB1.out.size))
      refine wp_inorder [15, 16, 17, 18, 14, 19, 20, 5, 6] 8 (FdP m [.same (.agg #[c0, c1, c2, c3, c4, c5, c6]), .same (.agg #[.int .i64 12, .int .i64 0]), .ops [((12 : Int), (0 : Int))], .held (Tm.leaf 12 0), .held (Tm.leaf 12 0), .bit (Tm.leaf 12 0), .yes, .bit (Tm.leaf 12 0)]) (by rw [hsz]; rfl) (FdP_stable _ _ _) ?_ ?_
      · intro i o hi ho q w' hb hq
        have f : ∀ t, [15, 16, 17, 18, 14, 19, 20, 5, 6].contains t = true -> t < 32 -> (frm a0 [15, 16, 17, 18, 14, 19, 20, 5, 6] q).eval (.tmp t) = q t := fun t h1 h2 => frm_in h1 (by rw [hsz]; exact h2)
        have hc : i = 0 \/ i = 1 \/ i = 2 \/ i = 3 \/ i = 4 \/ i = 5 \/ i = 6 \/ i = 7 := by omega
        rcases hc with rfl | rfl | rfl | rfl | rfl | rfl | rfl | rfl
        all_goals obtain rfl := Option.some.inj ho
        · exact st_load7 rfl ((frm_out rfl).trans aD) (hDx w' hb)
        · exact st_opl rfl
        · exact st_lit rfl ((f 16 rfl (by decide)).trans (hq 1 16 rfl rfl))
        · exact st_holds rfl HH.out (hbw.trans (hb.mono hbw.size)) ((f 15 rfl (by decide)).trans (hq 0 15 rfl rfl)) (by rw [(f 17 rfl (by decide))]; exact (hq 2 17 rfl rfl)) FOk.no (by decide) (by omega)
        · exact st_mvh rfl (by rw [(f 18 rfl (by decide))]; exact (hq 3 18 rfl rfl))
        · exact st_ex0 rfl (by rw [(f 14 rfl (by decide))]; exact (hq 4 14 rfl rfl))
        · exact st_ex1 rfl (by rw [(f 14 rfl (by decide))]; exact (hq 4 14 rfl rfl))
        · exact st_asb rfl (by rw [(f 19 rfl (by decide))]; exact (hq 5 19 rfl rfl))
      · intro q w' hb hq
        have f : ∀ t, [15, 16, 17, 18, 14, 19, 20, 5, 6].contains t = true -> t < 32 -> (frm a0 [15, 16, 17, 18, 14, 19, 20, 5, 6] q).eval (.tmp t) = q t := fun t h1 h2 => frm_in h1 (by rw [hsz]; exact h2)
        have eX := (f 20 rfl (by decide)).trans (hq 6 20 (by decide) rfl)
        obtain ⟨b, h8, hK8⟩ := hq 7 5 (by decide) rfl
        show wpOps Tryz.prog _ _ [8] _ _
        rw [wpOps_cons]; refine op_atR rfl rfl ?_
        refine op_run (w' := w') (v := .bool true) ?_ ?_
        · generalize (frm a0 [15, 16, 17, 18, 14, 19, 20, 5, 6] q).eval = ev at eX ⊢
          simp [execOp, eX, go_sem]
        rw [late_put 6 rfl rfl]
        show K' _ _
        refine hK' _ _ ?_
        rw [<- ha0]
        go_meet
        exact ⟨b, (show setV q 6 (.bool true) 5 = .bool b from (setV_other (by decide)).trans h8), setV_same q 6 _, hK8, HB1.out.trans (hb.mono HB1.out.size)⟩
    case rest =>
      obtain ⟨b2, rfl, rfl, HK2⟩ := hcut; obtain ⟨V2, rfl⟩ : ∃ w4, w4 = wc := ⟨_, rfl⟩
      have HB2 : Hid (Below W0.heap.size W0 V2) := HK2.out.2; have hbF : Below w.heap.size w V2 := hbW.trans (HB2.out.mono hbW.size); obtain rfl := kp_yes HK1.out.1; obtain rfl := kp_no HK2.out.1
      go_wp2_with fail
      go_ret
      exact ⟨by first | rfl | simp, hbF⟩
end Go.Proofs.YtobopjjmhginlaaGreatDoor
