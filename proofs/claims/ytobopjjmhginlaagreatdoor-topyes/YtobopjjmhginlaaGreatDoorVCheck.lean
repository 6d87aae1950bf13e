import Derived.Test.YtobopjjmhginlaaGreatDoorPEx
import Derived.Test.YtobopjjmhginlaaGreatDoorExGr
import Derived.Test.YtobopjjmhginlaaGreatDoorSLasso
import Derived.Test.YtobopjjmhginlaaGreatDoorVcStates
import Derived.Test.YtobopjjmhginlaaGreatDoorAnyway
import Derived.Test.YtobopjjmhginlaaGreatDoorAnyOps
namespace Go.Proofs.YtobopjjmhginlaaGreatDoor
open Go.ChangeShapes Go.WideShapes Go.ChangeAt Go.RowKit Go.Deep Go.Maps
open Terms Tm
set_option maxHeartbeats 6400000
set_option maxRecDepth 20000
section
variable {m : Mo} {ps : List (List (Int × Int))} {l : List (Int × Int)} {K : Nat}
theorem exGr_le (hk : tkcode m ps l = 0) (h : ExDone m ps l K) : GrLe (exGr m ps l K) := by
  have e1 : (exGr m ps l K).spots.length = K := h.1; have e2 : (exGr m ps l K).next.length = K := xpN_len K; have e3 : (exGr m ps l K).sets.length = K := xpT_len K; have hm0 := (pcode_m (tk_zero hk).1).1; have h6 := (lcode_zero (tk_zero hk).2).2.2.2.2; refine ⟨by rw [e1]; have := h.2.1; omega, by rw [e2]; have := h.2.1; omega, by rw [e3]; have := h.2.1; omega, fun i hi => ?_⟩
  rw [e2] at hi
  show ((xpN m ps l K).getD i []).length <= _
  rw [(xpN_row h hi).1]
  have hin : (xpP m ps l K).getD i (0, 0) ∈ xpP m ps l K := by
    have hl : i < (xpP m ps l K).length := by rw [h.1]; exact hi
    rw [List.getD_eq_getElem?_getD, List.getElem?_eq_getElem hl]
    exact List.getElem_mem _
  have := behL_len (ps := ps) (l := l) (c := ((xpP m ps l K).getD i (0, 0)).2) hm0 (h.2.2.2 _ hin).1 h6
  show (behL _ _ _ _ _).length <= _
  omega
noncomputable def stL (m : Mo) (ps : List (List (Int × Int))) (l : List (Int × Int)) (K : Nat) (x : List Nat) : List Int := (List.range x.length).map fun (j : Nat) => ((xpP m ps l K).getD (x.getD j 0) (0, 0)).1
def VdAns (w : World) (m : Mo) (ps : List (List (Int × Int))) (l : List (Int × Int)) (e : Ending) (w' : World) : Prop :=
  (tkcode m ps l = 0 /\ (∃ K, ExDone m ps l K /\ fairC (exGr m ps l K) = 11) /\ e = .returned (.tuple #[.agg #[.bool true, .slice none 0 0, .slice none 0 0], .int .i64 0]) /\ Below w.heap.size w w') \/
  (tkcode m ps l = 0 /\ ∃ K st lp A B, ExDone m ps l K /\ LassoOk (exGr m ps l K) st lp /\ st.length <= 20000 /\ lp.length <= 2000000 /\ e = .returned (.tuple #[.agg #[.bool false, .slice (some ⟨A, 0, none⟩) st.length st.length, .slice (some ⟨B, 0, none⟩) lp.length lp.length], .int .i64 0]) /\ Below w.heap.size w w' /\ Hid (IntsV w' (.slice (some ⟨A, 0, none⟩) st.length st.length) (stL m ps l K st) /\ IntsV w' (.slice (some ⟨B, 0, none⟩) lp.length lp.length) (stL m ps l K lp))) \/
  (tkcode m ps l = 0 /\ ExFull m ps l /\ e = .returned (.tuple #[.agg #[.bool false, .slice none 0 0, .slice none 0 0], .int .i64 12]) /\ Below w.heap.size w w') \/
  (tkcode m ps l ≠ 0 /\ e = .returned (.tuple #[.agg #[.bool false, .slice none 0 0, .slice none 0 0], .int .i64 (tkcode m ps l)]) /\ Below w.heap.size w w')
end
def vcP (g f0 f1 : Value) (G : Nat) (st lp : List Int) (ns np : Nat) : Nat -> Value -> World -> Prop
  | 0, v, _ => v = g
  | 1, v, _ => v = .pointer (some ⟨G, 0, none⟩)
  | 2, v, _ => v = f0
  | 3, v, w => ∃ R, v = .slice (some ⟨R, 0, none⟩) ns ns /\ IntsV w v st
  | 4, v, _ => v = g
  | 5, v, _ => v = .pointer (some ⟨G, 1, none⟩)
  | 6, v, _ => v = f1
  | 7, v, w => ∃ R, v = .slice (some ⟨R, 0, none⟩) np np /\ IntsV w v lp
  | 8, v, w => ∃ A B, v = .agg #[.slice (some ⟨A, 0, none⟩) ns ns, .slice (some ⟨B, 0, none⟩) np np] /\ IntsV w (.slice (some ⟨A, 0, none⟩) ns ns) st /\ IntsV w (.slice (some ⟨B, 0, none⟩) np np) lp
  | 9, v, w => ∃ A B, v = .agg #[.bool false, .slice (some ⟨A, 0, none⟩) ns ns, .slice (some ⟨B, 0, none⟩) np np] /\ IntsV w (.slice (some ⟨A, 0, none⟩) ns ns) st /\ IntsV w (.slice (some ⟨B, 0, none⟩) np np) lp
  | _, _, _ => True
theorem vc_lt : ∀ i, i < 10 -> i = 0 \/ i = 1 \/ i = 2 \/ i = 3 \/ i = 4 \/ i = 5 \/ i = 6 \/ i = 7 \/ i = 8 \/ i = 9 := by intro i hi; omega
theorem vcP_stable (g f0 f1 : Value) (G : Nat) (st lp : List Int) (ns np : Nat) (i : Nat) (v : Value) (w w' : World) (hi : i < 10) (h : vcP g f0 f1 G st lp ns np i v w) (hb : Below w.heap.size w w') : vcP g f0 f1 G st lp ns np i v w' := by
  rcases vc_lt i hi with rfl | rfl | rfl | rfl | rfl | rfl | rfl | rfl | rfl | rfl
  · exact h
  · exact h
  · exact h
  · obtain ⟨R, h1, h2⟩ := h; exact ⟨R, h1, h2.below hb⟩
  · exact h
  · exact h
  · exact h
  · obtain ⟨R, h1, h2⟩ := h; exact ⟨R, h1, h2.below hb⟩
  · obtain ⟨A, B, h1, h2, h3⟩ := h; exact ⟨A, B, h1, h2.below hb, h3.below hb⟩
  · obtain ⟨A, B, h1, h2, h3⟩ := h; exact ⟨A, B, h1, h2.below hb, h3.below hb⟩
theorem IntsV.setBool {w : World} {v : Value} {l : List Int} {p : Addr} {b : Bool} (h : IntsV w v l) (hc : w.cell? p = some (.bool b)) (u : Value) : IntsV (w.setCell p u) v l := by
  obtain ⟨ao, cap, rfl, h⟩ := h; refine ⟨ao, cap, rfl, fun hne => ?_⟩
  obtain ⟨c, off, rfl, hlt, hat⟩ := h hne; refine ⟨c, off, rfl, by simpa using hlt, fun j hj => ?_⟩
  have h1 := hat j hj
  have hne2 : (⟨c, off + j, none⟩ : Addr) ≠ p := by
    intro e; rw [e, hc] at h1; simp at h1
  rw [World.cell?_setCell_other _ _ _ _ hne2.symm]
  exact h1
theorem boxed {w : World} {v : Value} {x : List Int} {R : Nat} {b : Bool} {a1 a2 : Option Addr} {n1 n2 c1 c2 : Nat} (h : IntsV w v x) (k0 : w.cell? ⟨R, 0, none⟩ = some (.bool b)) (k1 : w.cell? ⟨R, 1, none⟩ = some (.slice a1 n1 c1)) (k2 : w.cell? ⟨R, 2, none⟩ = some (.slice a2 n2 c2)) (u0 u1 u2 : Value) : IntsV (((w.setCell ⟨R, 0, none⟩ u0).setCell ⟨R, 1, none⟩ u1).setCell ⟨R, 2, none⟩ u2) v x := by
  have h0 := h.setBool k0 u0; have h1 := h0.setBox (p := ⟨R, 1, none⟩) ((World.cell?_setCell_other _ _ _ _ (by simp)).trans k1) u1
  exact h1.setBox (p := ⟨R, 2, none⟩) ((World.cell?_setCell_other _ _ _ _ (by simp)).trans ((World.cell?_setCell_other _ _ _ _ (by simp)).trans k2)) u2
def laB (sv lv : Value) : Obj := .cells #[sv, lv] 39 (0, 0)
theorem laB_cells {w : World} {X : Nat} {sv lv : Value} (hb : w.heap[X]? = some (laB sv lv)) : w.cell? ⟨X, 0, none⟩ = some sv /\ w.cell? ⟨X, 1, none⟩ = some lv := by
  unfold laB at hb; refine ⟨?_, ?_⟩ <;> simp [World.cell?, hb]
theorem vcheck_bad (va vr pv fv : Value) (m : Mo) (ps : List (List (Int × Int))) (l : List (Int × Int)) (w : World) (hV : TaskV w va vr pv fv m ps l) (c : Int) (hc : c ≠ 0) (hex : ∀ w', Below w.heap.size w w' -> Calls Tryz.prog 16 #[.agg #[va, vr, pv, fv]] w' fun e w2 => e = .returned (.tuple #[.agg #[.slice none 0 0, .int .i64 0, .slice none 0 0, .slice none 0 0, .int .i64 0], .int .i64 c]) /\ Below w'.heap.size w' w2) :
    Calls Tryz.prog 12 #[.agg #[va, vr, pv, fv]] w fun e w' => e = .returned (.tuple #[.agg #[.bool false, .slice none 0 0, .slice none 0 0], .int .i64 c]) /\ Below w.heap.size w w' := by
  obtain ⟨ao, ac, rfl⟩ := hV.mo.1.shape; obtain ⟨ro, rc, rfl⟩ := hV.mo.2.shape; obtain ⟨po, pc, rfl⟩ := hV.ps.shape; obtain ⟨fo, fc, rfl, _⟩ := id hV.fo; clear hV; generalize m.vars.length = vn at *; generalize m.rules.length = rn at *; generalize ps.length = pn at *; generalize l.length = fn at *
  obtain ⟨W1, hW1⟩ : ∃ W1, W1 = (w.alloc (.cells #[.slice ao vn ac, .slice ro rn rc, .slice po pn pc, .slice fo fn fc] 51)).alloc (.cells #[.bool false, .slice none 0 0, .slice none 0 0] 41) := ⟨_, rfl⟩
  have hb1 : Below w.heap.size w W1 := by rw [hW1]; exact ((Below.refl _ _).alloc (Nat.le_refl _) _).alloc (by simp) _
  have hz1 : W1.heap.size = w.heap.size + 2 := by rw [hW1]; simp
  have he := hex W1 hb1
  have HBx : Hid (∀ w', Below W1.heap.size W1 w' -> (w'.cell? ⟨w.heap.size + 1, 0, none⟩ = some (.bool false) /\ w'.cell? ⟨w.heap.size + 1, 1, none⟩ = some (.slice none 0 0) /\ w'.cell? ⟨w.heap.size + 1, 2, none⟩ = some (.slice none 0 0)) /\ (w'.frozen? ⟨w.heap.size + 1, 0, none⟩ = false /\ w'.frozen? ⟨w.heap.size + 1, 1, none⟩ = false /\ w'.frozen? ⟨w.heap.size + 1, 2, none⟩ = false)) := fun w' h => by
    have hlt : w.heap.size + 1 < W1.heap.size := by omega
    refine ⟨⟨?_, ?_, ?_⟩, ?_, ?_, ?_⟩
    · exact (h.cell (p := ⟨w.heap.size + 1, 0, none⟩) hlt).trans (by rw [hW1]; simp [go_sem])
    · exact (h.cell (p := ⟨w.heap.size + 1, 1, none⟩) hlt).trans (by rw [hW1]; simp [go_sem])
    · exact (h.cell (p := ⟨w.heap.size + 1, 2, none⟩) hlt).trans (by rw [hW1]; simp [go_sem])
    · exact (h.frozen (p := ⟨w.heap.size + 1, 0, none⟩) hlt).trans (by rw [hW1]; simp [go_sem])
    · exact (h.frozen (p := ⟨w.heap.size + 1, 1, none⟩) hlt).trans (by rw [hW1]; simp [go_sem])
    · exact (h.frozen (p := ⟨w.heap.size + 1, 2, none⟩) hlt).trans (by rw [hW1]; simp [go_sem])
  have HW1 := (show Hid (W1 = _) from hW1)
  clear hW1 hex
  go_enter Tryz.func12, Tryz.ntmps12
  go_upto_region 2 with (go_at_call 16; rw [<- HW1.out]; refine he.mono ?_; rintro e w2 ⟨rfl, hb2⟩)
  have hbA : Below w2.heap.size w2 (w2.alloc (.cells #[.slice none 0 0, .int .i64 0, .slice none 0 0, .slice none 0 0, .int .i64 0] 60)) := (Below.refl _ _).alloc (Nat.le_refl _) _; have hb3 := hb2.trans (hbA.mono hb2.size); generalize w2.alloc (.cells #[.slice none 0 0, .int .i64 0, .slice none 0 0, .slice none 0 0, .int .i64 0] 60) = W3 at *; obtain ⟨⟨r0, r1, r2⟩, f0, f1, f2⟩ := HBx.out W3 hb3
  have hbw3 := hb1.trans (hb3.mono hb1.size); have hcb : ¬ c = 0 := hc; clear HBx HW1 he
  go_wp2_with fail
  refine bodyPost_ret (v := .tuple #[.agg #[.bool false, .slice none 0 0, .slice none 0 0], .int .i64 c]) ?_ rfl ⟨rfl, ?_⟩
  · simp only [results, Tryz.results12]
    simp [go_sem, r0, r1, r2]
  · exact ((hbw3.setCell (p := ⟨w.heap.size + 1, 0, none⟩) (by show w.heap.size <= w.heap.size + 1; omega) _).setCell (p := ⟨w.heap.size + 1, 1, none⟩) (by show w.heap.size <= w.heap.size + 1; omega) _).setCell (p := ⟨w.heap.size + 1, 2, none⟩) (by show w.heap.size <= w.heap.size + 1; omega) _
theorem vcheck_ok (va vr pv fv : Value) (m : Mo) (ps : List (List (Int × Int))) (l : List (Int × Int)) (w : World) (hB : 0 < w.heap.size) (hT : TabAt w) (hV : TaskV w va vr pv fv m ps l) (hk : tkcode m ps l = 0) (hnf : ¬ ExFull m ps l) :
    Calls Tryz.prog 12 #[.agg #[va, vr, pv, fv]] w (VdAns w m ps l) := by
  obtain ⟨ao, ac, rfl⟩ := hV.mo.1.shape; obtain ⟨ro, rc, rfl⟩ := hV.mo.2.shape; obtain ⟨po, pc, rfl⟩ := hV.ps.shape; obtain ⟨fo, fc, rfl, _⟩ := id hV.fo; obtain ⟨W1, hW1⟩ : ∃ W1, W1 = (w.alloc (.cells #[.slice ao m.vars.length ac, .slice ro m.rules.length rc, .slice po ps.length pc, .slice fo l.length fc] 51)).alloc (.cells #[.bool false, .slice none 0 0, .slice none 0 0] 41) := ⟨_, rfl⟩
  have hb1 : Below w.heap.size w W1 := by rw [hW1]; exact ((Below.refl _ _).alloc (Nat.le_refl _) _).alloc (by simp) _
  have hz1 : W1.heap.size = w.heap.size + 2 := by rw [hW1]; simp
  have hex : Calls Tryz.prog 16 #[.agg #[.slice ao m.vars.length ac, .slice ro m.rules.length rc, .slice po ps.length pc, .slice fo l.length fc]] W1 fun e w2 => ∃ K so sc no nc xo xc, e = .returned (.tuple #[.agg #[.slice so K sc, .int .i64 ((begL m ps l).length : Nat), .slice no K nc, .slice xo K xc, .int .i64 ((aheadL l).length : Nat)], .int .i64 0]) /\ Below W1.heap.size W1 w2 /\ K <= 20000 /\ Hid (ExDone m ps l K /\ GraphV w2 (.slice so K sc) (.slice no K nc) (.slice xo K xc) (exGr m ps l K)) := by
    refine (explore_any _ _ _ _ m ps l W1 (Nat.lt_of_lt_of_le hB hb1.size) (hT.below hb1 hB) (hV.below hb1)).mono fun e w2 hx => ?_
    rcases hx with ⟨_, K, hD, sv, nv, tv, e1, h2, HG⟩ | ⟨_, hf, _, _⟩ | ⟨h1, _, _⟩
    · have hGr := HG.out.graph
      obtain ⟨so, sc, rfl⟩ := HG.out.1.shape; obtain ⟨us, n1, _⟩ := HG.out.2.1; obtain ⟨no, nc, rfl⟩ := owns_slice n1; obtain ⟨xo, xc, rfl⟩ := owns_slice HG.out.2.2; rw [hD.1, xpN_len, xpT_len] at e1 hGr; exact ⟨K, so, sc, no, nc, xo, xc, e1, h2, hD.2.1, hD, hGr⟩
    · exact absurd hf hnf
    · exact absurd hk h1
  have HBx : Hid (∀ w', Below W1.heap.size W1 w' -> (w'.cell? ⟨w.heap.size + 1, 0, none⟩ = some (.bool false) /\ w'.cell? ⟨w.heap.size + 1, 1, none⟩ = some (.slice none 0 0) /\ w'.cell? ⟨w.heap.size + 1, 2, none⟩ = some (.slice none 0 0)) /\ (w'.frozen? ⟨w.heap.size + 1, 0, none⟩ = false /\ w'.frozen? ⟨w.heap.size + 1, 1, none⟩ = false /\ w'.frozen? ⟨w.heap.size + 1, 2, none⟩ = false)) := fun w' h => by
    have hlt : w.heap.size + 1 < W1.heap.size := by omega
    refine ⟨⟨?_, ?_, ?_⟩, ?_, ?_, ?_⟩
    · exact (h.cell (p := ⟨w.heap.size + 1, 0, none⟩) hlt).trans (by rw [hW1]; simp [go_sem])
    · exact (h.cell (p := ⟨w.heap.size + 1, 1, none⟩) hlt).trans (by rw [hW1]; simp [go_sem])
    · exact (h.cell (p := ⟨w.heap.size + 1, 2, none⟩) hlt).trans (by rw [hW1]; simp [go_sem])
    · exact (h.frozen (p := ⟨w.heap.size + 1, 0, none⟩) hlt).trans (by rw [hW1]; simp [go_sem])
    · exact (h.frozen (p := ⟨w.heap.size + 1, 1, none⟩) hlt).trans (by rw [hW1]; simp [go_sem])
    · exact (h.frozen (p := ⟨w.heap.size + 1, 2, none⟩) hlt).trans (by rw [hW1]; simp [go_sem])
  have HLa : Hid (∀ (w' : World) (so no xo : Option Addr) (sc nc xc K : Nat), ExDone m ps l K -> GraphV w' (.slice so K sc) (.slice no K nc) (.slice xo K xc) (exGr m ps l K) -> Calls Tryz.prog 17 #[.agg #[.slice so K sc, .int .i64 ((begL m ps l).length : Nat), .slice no K nc, .slice xo K xc, .int .i64 ((aheadL l).length : Nat)]] w' fun e w2 => ∃ t0 tn tc uo un uc c, e = .returned (.tuple #[.agg #[.slice t0 tn tc, .slice uo un uc], .int .i64 c]) /\ Below w'.heap.size w' w2 /\ Hid (LassoV (exGr m ps l K) w2 (.agg #[.slice t0 tn tc, .slice uo un uc]) c)) := fun w' so no xo sc nc xc K hD hGr => by
    have hok := exGr_ok hk hD; have hc0 : gcode (exGr m ps l K) = 0 := gcode_ok hok.head hok.row; have e1 : (exGr m ps l K).spots.length = K := hD.1; have e2 : (exGr m ps l K).next.length = K := xpN_len K; have e3 : (exGr m ps l K).sets.length = K := xpT_len K; have h := slasso_ok so no xo sc nc xc (exGr m ps l K) w' (exGr_le hk hD) (by rw [e1, e2, e3]; exact hGr) hc0
    rw [e1, e2, e3] at h; refine h.mono fun e w2 ⟨v, c, g1, g2, g3⟩ => ?_
    rcases id g3.out with ⟨_, _, rfl⟩ | ⟨_, _, t0, tc, uo, uc, st, lp, rfl, _⟩
    · exact ⟨_, _, _, _, _, _, c, g1, g2, g3⟩
    · exact ⟨_, _, _, _, _, _, c, g1, g2, g3⟩
  have HSt : Hid (∀ (w' : World) (so no xo po : Option Addr) (sc nc xc pc K : Nat) (x : List Nat), ExDone m ps l K -> OpsV w' (.slice so K sc) (xpP m ps l K) -> NatsV w' (.slice po x.length pc) x -> (∀ y ∈ x, y < K) -> x.length <= 2000000 -> Calls Tryz.prog 18 #[.agg #[.slice so K sc, .int .i64 ((begL m ps l).length : Nat), .slice no K nc, .slice xo K xc, .int .i64 ((aheadL l).length : Nat)], .slice po x.length pc] w' fun e w2 => ∃ R, e = .returned (.slice (some ⟨R, 0, none⟩) x.length x.length) /\ Below w'.heap.size w' w2 /\ Hid (IntsV w2 (.slice (some ⟨R, 0, none⟩) x.length x.length) (stL m ps l K x))) := fun w' so no xo po sc nc xc pc K x hD hO hN hlt hz => by
    have h := statesAt_any so no xo po sc K nc K xc pc ((begL m ps l).length : Nat) ((aheadL l).length : Nat) (xpP m ps l K) x w' (by rw [hD.1]; exact hO) hN (fun i hi => by
      rw [hD.1]; refine hlt _ ?_
      rw [List.getD_eq_getElem?_getD, List.getElem?_eq_getElem hi]
      exact List.getElem_mem _) hz (by rw [hD.1]; exact hD.2.1)
    rw [hD.1] at h; exact h
  have HTk : Hid (tkcode m ps l = 0) := hk; have HW1 := (show Hid (W1 = _) from hW1)
  clear hW1 hV hT hk hnf; unfold VdAns; generalize hbl : (begL m ps l).length = bn at *; generalize hal : (aheadL l).length = an at *; generalize m.vars.length = vn at *; generalize m.rules.length = rn at *; generalize ps.length = pn at *; generalize l.length = fn at *; clear hbl hal
  go_enter Tryz.func12, Tryz.ntmps12
  go_upto_region 2 with (go_at_call 16; rw [<- HW1.out]; refine hex.mono ?_; rintro e w2 ⟨K, so, sc, no, nc, xo, xc, rfl, hb2, hK, HD⟩)
  have hbA : Below w2.heap.size w2 (w2.alloc (.cells #[.slice so K sc, .int .i64 (bn : Nat), .slice no K nc, .slice xo K xc, .int .i64 (an : Nat)] 60)) := (Below.refl _ _).alloc (Nat.le_refl _) _
  have hbg : (w2.alloc (.cells #[.slice so K sc, .int .i64 (bn : Nat), .slice no K nc, .slice xo K xc, .int .i64 (an : Nat)] 60)).heap[w2.heap.size]? = some (grB (.slice so K sc) (.slice no K nc) (.slice xo K xc) (bn : Nat) (an : Nat)) := (MapKept.heap_alloc w2 _).1; have hb3 := hb2.trans (hbA.mono hb2.size)
  have HG3 : Hid (GraphV (w2.alloc (.cells #[.slice so K sc, .int .i64 (bn : Nat), .slice no K nc, .slice xo K xc, .int .i64 (an : Nat)] 60)) (.slice so K sc) (.slice no K nc) (.slice xo K xc) (exGr m ps l K)) := HD.out.2.below hbA; have HDn : Hid (ExDone m ps l K) := HD.out.1; have hXw : W1.heap.size <= w2.heap.size := hb2.size
  generalize w2.alloc (.cells #[.slice so K sc, .int .i64 (bn : Nat), .slice no K nc, .slice xo K xc, .int .i64 (an : Nat)] 60) = W3 at *; generalize w2.heap.size = X at *; have hla := HLa.out W3 so no xo sc nc xc K HDn.out HG3.out; obtain ⟨g0, g1, g2, g3, g4⟩ := grB_cells hbg
  have HGb : Hid (W3.heap[X]? = some (grB (.slice so K sc) (.slice no K nc) (.slice xo K xc) (bn : Nat) (an : Nat))) := hbg; clear HD hex HLa hbA hbg HW1
  go_upto_region 5 with (go_at_call 17; refine hla.mono ?_; rintro e w4 ⟨t0, tn, tc, uo, un, uc, c, rfl, hb4, HL⟩)
  have hbB : Below w4.heap.size w4 (w4.alloc (.cells #[.slice t0 tn tc, .slice uo un uc] 39)) := (Below.refl _ _).alloc (Nat.le_refl _) _; have hbl5 : (w4.alloc (.cells #[.slice t0 tn tc, .slice uo un uc] 39)).heap[w4.heap.size]? = some (laB (.slice t0 tn tc) (.slice uo un uc)) := (MapKept.heap_alloc w4 _).1; have hb35 := hb4.trans (hbB.mono hb4.size); have hb5 := hb3.trans (hb35.mono hb3.size)
  have hbw5 := hb1.trans (hb5.mono hb1.size); obtain ⟨⟨r0, r1, r2⟩, f0, f1, f2⟩ := HBx.out _ hb5; clear hla g0 g1 g2 g3 g4
  rcases HL.out with ⟨rfl, hfc, hv⟩ | ⟨rfl, hfc, t0', tc', uo', uc', st, lp, hv, hst, hlp, hLo, hN1, hN2⟩
  · generalize w4.alloc (.cells #[.slice t0 tn tc, .slice uo un uc] 39) = W5 at *
    have HR : Hid (∃ K, ExDone m ps l K /\ fairC (exGr m ps l K) = 11) := ⟨K, HDn.out, hfc⟩
    clear hfc hv HL HBx HSt HDn HG3 HGb hbl5
    go_wp2_with fail
    refine bodyPost_ret (v := .tuple #[.agg #[.bool true, .slice none 0 0, .slice none 0 0], .int .i64 0]) ?_ rfl (.inl ⟨HTk.out, HR.out, rfl, ?_⟩)
    · simp only [results, Tryz.results12]
      simp [go_sem, r0, r1, r2]
    · exact ((hbw5.setCell (p := ⟨w.heap.size + 1, 0, none⟩) (by show w.heap.size <= w.heap.size + 1; omega) _).setCell (p := ⟨w.heap.size + 1, 1, none⟩) (by show w.heap.size <= w.heap.size + 1; omega) _).setCell (p := ⟨w.heap.size + 1, 2, none⟩) (by show w.heap.size <= w.heap.size + 1; omega) _
  · simp only [Value.agg.injEq, Array.mk.injEq, List.cons.injEq, Value.slice.injEq, and_true] at hv
    obtain ⟨⟨rfl, rfl, rfl⟩, rfl, rfl, rfl⟩ := hv
    have hlo1 : ∀ y ∈ st, y < K := fun y hy => by
      have := hLo.lt y (List.mem_append.2 (.inl hy)); rw [show (exGr m ps l K).spots.length = K from HDn.out.1] at this
      exact this
    have hlo2 : ∀ y ∈ lp, y < K := fun y hy => by
      have := hLo.lt y (List.mem_append.2 (.inr hy)); rw [show (exGr m ps l K).spots.length = K from HDn.out.1] at this
      exact this
    have hN1b := hN1.below hbB; have hN2b := hN2.below hbB
    have HRw : Hid (∀ w', Below (w4.alloc (.cells #[.slice t0 st.length tc, .slice uo lp.length uc] 39)).heap.size (w4.alloc (.cells #[.slice t0 st.length tc, .slice uo lp.length uc] 39)) w' -> ((w'.cell? ⟨X, 0, none⟩ = some (.slice so K sc) /\ w'.cell? ⟨X, 1, none⟩ = some (.int .i64 (bn : Nat)) /\ w'.cell? ⟨X, 2, none⟩ = some (.slice no K nc) /\ w'.cell? ⟨X, 3, none⟩ = some (.slice xo K xc) /\ w'.cell? ⟨X, 4, none⟩ = some (.int .i64 (an : Nat))) /\ (w'.cell? ⟨w4.heap.size, 0, none⟩ = some (.slice t0 st.length tc) /\ w'.cell? ⟨w4.heap.size, 1, none⟩ = some (.slice uo lp.length uc))) /\ (Calls Tryz.prog 18 #[.agg #[.slice so K sc, .int .i64 (bn : Nat), .slice no K nc, .slice xo K xc, .int .i64 (an : Nat)], .slice t0 st.length tc] w' fun e w2 => ∃ R, e = .returned (.slice (some ⟨R, 0, none⟩) st.length st.length) /\ Below w'.heap.size w' w2 /\ Hid (IntsV w2 (.slice (some ⟨R, 0, none⟩) st.length st.length) (stL m ps l K st))) /\ (Calls Tryz.prog 18 #[.agg #[.slice so K sc, .int .i64 (bn : Nat), .slice no K nc, .slice xo K xc, .int .i64 (an : Nat)], .slice uo lp.length uc] w' fun e w2 => ∃ R, e = .returned (.slice (some ⟨R, 0, none⟩) lp.length lp.length) /\ Below w'.heap.size w' w2 /\ Hid (IntsV w2 (.slice (some ⟨R, 0, none⟩) lp.length lp.length) (stL m ps l K lp))) /\ Below W1.heap.size W1 w') := fun w' h => by
      have h3 := hb35.trans (h.mono hb35.size); have hbx := (h3.block X (Array.getElem?_eq_some_iff.1 HGb.out).1).trans HGb.out
      have hbl := (h.block w4.heap.size (Array.getElem?_eq_some_iff.1 hbl5).1).trans hbl5
      have hsp := HG3.out.spots.below h3; exact ⟨⟨grB_cells hbx, laB_cells hbl⟩, HSt.out w' so no xo t0 sc nc xc tc K st HDn.out hsp (hN1b.below h) hlo1 (by omega), HSt.out w' so no xo uo sc nc xc uc K lp HDn.out hsp (hN2b.below h) hlo2 (by omega), hb5.trans (h.mono hb5.size)⟩
    have HLo : Hid (LassoOk (exGr m ps l K) st lp) := hLo; have HSz : Hid (st.length <= 20000 /\ lp.length <= 2000000) := ⟨hst, hlp⟩; clear hN1 hN2 hN1b hN2b hlo1 hlo2 HL hbl5 HG3 HGb HSt hb35 hbB hLo hfc hst hlp; generalize w4.alloc (.cells #[.slice t0 st.length tc, .slice uo lp.length uc] 39) = W5 at *; generalize w4.heap.size = L5 at *; obtain ⟨ns, hns⟩ : ∃ n, st.length = n := ⟨_, rfl⟩
    obtain ⟨np, hnp⟩ : ∃ n, lp.length = n := ⟨_, rfl⟩
    obtain ⟨xs, hxs⟩ : ∃ x, stL m ps l K st = x := ⟨_, rfl⟩
    obtain ⟨xp, hxp⟩ : ∃ x, stL m ps l K lp = x := ⟨_, rfl⟩
    have HN : Hid ((st.length = ns /\ lp.length = np) /\ stL m ps l K st = xs /\ stL m ps l K lp = xp) := ⟨⟨hns, hnp⟩, hxs, hxp⟩; rw [hns, hnp, hxs, hxp] at HRw; rw [hns, hnp]; clear hns hnp hxs hxp
    go_upto_region 9 with fail
    go_cut [3] (fun u wx => u = .int .i64 0 /\ ∃ A B, Hid (IntsV wx (.slice (some ⟨A, 0, none⟩) ns ns) xs /\ IntsV wx (.slice (some ⟨B, 0, none⟩) np np) xp /\ Below w.heap.size w wx) /\ wx.cell? ⟨w.heap.size + 1, 0, none⟩ = some (.bool false) /\ wx.cell? ⟨w.heap.size + 1, 1, none⟩ = some (.slice (some ⟨A, 0, none⟩) ns ns) /\ wx.cell? ⟨w.heap.size + 1, 2, none⟩ = some (.slice (some ⟨B, 0, none⟩) np np))
    case first =>
      rename_i J K' hJ hK'; generalize ha0 : Act.mk _ _ = a0; have hsz : a0.tmps.size = 38 := by rw [<- ha0]; rfl
      have a4 : a0.eval (.tmp 4) = .pointer (some ⟨X, 0, none⟩) := by rw [<- ha0]; rfl
      have a6 : a0.eval (.tmp 6) = .pointer (some ⟨L5, 0, none⟩) := by rw [<- ha0]; rfl
      have a2 : a0.eval (.tmp 2) = .pointer (some ⟨w.heap.size + 1, 0, none⟩) := by rw [<- ha0]; rfl
      refine wp_anyway (by rfl) [28, 29, 30, 31, 32, 33, 34, 35, 36, 37, 3] 10 (vcP (.agg #[.slice so K sc, .int .i64 (bn : Nat), .slice no K nc, .slice xo K xc, .int .i64 (an : Nat)]) (.slice t0 ns tc) (.slice uo np uc) L5 xs xp ns np) (by rw [hsz]; rfl) (vcP_stable _ _ _ _ _ _ _ _) ?_ ?_
      · intro i o hi ho q w' hb hq
        have f : ∀ t, [28, 29, 30, 31, 32, 33, 34, 35, 36, 37, 3].contains t = true -> t < 38 -> (frm a0 [28, 29, 30, 31, 32, 33, 34, 35, 36, 37, 3] q).eval (.tmp t) = q t := fun t h1 h2 => frm_in h1 (by rw [hsz]; exact h2)
        have e4 : (frm a0 [28, 29, 30, 31, 32, 33, 34, 35, 36, 37, 3] q).eval (.tmp 4) = .pointer (some ⟨X, 0, none⟩) := (frm_out rfl).trans a4; have e6 : (frm a0 [28, 29, 30, 31, 32, 33, 34, 35, 36, 37, 3] q).eval (.tmp 6) = .pointer (some ⟨L5, 0, none⟩) := (frm_out rfl).trans a6; obtain ⟨⟨⟨x0, x1, x2, x3, x4⟩, y0, y1⟩, hs1, hs2, _⟩ := HRw.out w' hb
        obtain ⟨ev, hev⟩ : ∃ ev, ev = (frm a0 [28, 29, 30, 31, 32, 33, 34, 35, 36, 37, 3] q).eval := ⟨_, rfl⟩
        have evf : ∀ n, ev (.func n) = .func (.func n) #[] #[] := fun n => by rw [hev]; rfl
        rw [<- hev] at f e4 e6
        rcases vc_lt i hi with rfl | rfl | rfl | rfl | rfl | rfl | rfl | rfl | rfl | rfl
        all_goals obtain rfl := Option.some.inj ho
        · refine op_val (w' := w') ?_ (Below.refl _ _) rfl
          rw [<- hev]; simp [execOp, e4, go_sem, x0, x1, x2, x3, x4]
        · refine op_val (w' := w') ?_ (Below.refl _ _) rfl
          rw [<- hev]; simp [execOp, e6, go_sem]
        · have e29 := (f 29 rfl (by decide)).trans (hq 1 29 rfl rfl)
          refine op_val (w' := w') ?_ (Below.refl _ _) rfl
          rw [<- hev]; simp [execOp, e29, go_sem, y0]
        · have e28 := (f 28 rfl (by decide)).trans (hq 0 28 rfl rfl)
          have e30 := (f 30 rfl (by decide)).trans (hq 2 30 rfl rfl)
          refine op_call (f := 18) (args := #[.agg #[.slice so K sc, .int .i64 (bn : Nat), .slice no K nc, .slice xo K xc, .int .i64 (an : Nat)], .slice t0 ns tc]) ?_ (hs1.mono ?_)
          · rw [<- hev]; simp [execOp, e28, e30, evf, go_sem]
          · rintro e w2 ⟨R, rfl, h2, h3⟩
            exact ⟨_, rfl, h2, R, rfl, h3.out⟩
        · refine op_val (w' := w') ?_ (Below.refl _ _) rfl
          rw [<- hev]; simp [execOp, e4, go_sem, x0, x1, x2, x3, x4]
        · refine op_val (w' := w') ?_ (Below.refl _ _) rfl
          rw [<- hev]; simp [execOp, e6, go_sem]
        · have e33 := (f 33 rfl (by decide)).trans (hq 5 33 rfl rfl)
          refine op_val (w' := w') ?_ (Below.refl _ _) rfl
          rw [<- hev]; simp [execOp, e33, go_sem, y1]
        · have e32 := (f 32 rfl (by decide)).trans (hq 4 32 rfl rfl)
          have e34 := (f 34 rfl (by decide)).trans (hq 6 34 rfl rfl)
          refine op_call (f := 18) (args := #[.agg #[.slice so K sc, .int .i64 (bn : Nat), .slice no K nc, .slice xo K xc, .int .i64 (an : Nat)], .slice uo np uc]) ?_ (hs2.mono ?_)
          · rw [<- hev]; simp [execOp, e32, e34, evf, go_sem]
          · rintro e w2 ⟨R, rfl, h2, h3⟩
            exact ⟨_, rfl, h2, R, rfl, h3.out⟩
        · obtain ⟨A, hA, hA2⟩ := hq 3 31 rfl rfl
          obtain ⟨B, hB', hB2⟩ := hq 7 35 rfl rfl; have e31 := (f 31 rfl (by decide)).trans hA
          have e35 := (f 35 rfl (by decide)).trans hB'
          refine op_val (w' := w') (v := .agg #[.slice (some ⟨A, 0, none⟩) ns ns, .slice (some ⟨B, 0, none⟩) np np]) ?_ (Below.refl _ _) ⟨A, B, rfl, by rw [<- hA]; exact hA2, by rw [<- hB']; exact hB2⟩
          rw [<- hev]; simp [execOp, e31, e35, go_sem]
        · obtain ⟨A, B, hA, hA2, hB2⟩ := hq 8 36 rfl rfl
          have e36 := (f 36 rfl (by decide)).trans hA
          refine op_val (w' := w') (v := .agg #[.bool false, .slice (some ⟨A, 0, none⟩) ns ns, .slice (some ⟨B, 0, none⟩) np np]) ?_ (Below.refl _ _) ⟨A, B, rfl, hA2, hB2⟩
          rw [<- hev]; simp [execOp, e36, go_sem]
      · intro q w' hb hq
        have f : ∀ q t, [28, 29, 30, 31, 32, 33, 34, 35, 36, 37, 3].contains t = true -> t < 38 -> (frm a0 [28, 29, 30, 31, 32, 33, 34, 35, 36, 37, 3] q).eval (.tmp t) = q t := fun q t h1 h2 => frm_in h1 (by rw [hsz]; exact h2)
        obtain ⟨A, B, h37, hA2, hB2⟩ := hq 9 37 (by decide) rfl
        have e37 := (f q 37 rfl (by decide)).trans h37
        have e2 : (frm a0 [28, 29, 30, 31, 32, 33, 34, 35, 36, 37, 3] q).eval (.tmp 2) = .pointer (some ⟨w.heap.size + 1, 0, none⟩) := (frm_out rfl).trans a2; obtain ⟨_, _, _, hbW⟩ := HRw.out w' hb; obtain ⟨⟨k0, k1, k2⟩, l0, l1, l2⟩ := HBx.out w' hbW
        show wpOps Tryz.prog _ _ [10, 11] _ _
        rw [wpOps_cons]; refine op_atR rfl rfl ?_
        refine op_skip (w' := ((w'.setCell ⟨w.heap.size + 1, 0, none⟩ (.bool false)).setCell ⟨w.heap.size + 1, 1, none⟩ (.slice (some ⟨A, 0, none⟩) ns ns)).setCell ⟨w.heap.size + 1, 2, none⟩ (.slice (some ⟨B, 0, none⟩) np np)) rfl ?_ ?_
        · generalize (frm a0 [28, 29, 30, 31, 32, 33, 34, 35, 36, 37, 3] q).eval = ev at e37 e2 ⊢
          simp [execOp, e2, e37, go_sem, k0, k1, k2, l0, l1, l2]
        rw [wpOps_cons]; refine op_atR rfl rfl ?_
        refine op_run (w' := ((w'.setCell ⟨w.heap.size + 1, 0, none⟩ (.bool false)).setCell ⟨w.heap.size + 1, 1, none⟩ (.slice (some ⟨A, 0, none⟩) ns ns)).setCell ⟨w.heap.size + 1, 2, none⟩ (.slice (some ⟨B, 0, none⟩) np np)) (v := .int .i64 0) ?_ ?_
        · have evc : ∀ v, (frm a0 [28, 29, 30, 31, 32, 33, 34, 35, 36, 37, 3] q).eval (.const v) = v := fun v => rfl
          generalize (frm a0 [28, 29, 30, 31, 32, 33, 34, 35, 36, 37, 3] q).eval = ev at evc ⊢; simp [execOp, evc, go_sem]
        rw [late_put 3 rfl rfl]
        show K' _ _
        refine hK' _ _ ?_
        rw [<- ha0]
        go_meet
        have hbF := hb1.trans (hbW.mono hb1.size); have n0 : ∀ A', IntsV w' A' xs -> IntsV (((w'.setCell ⟨w.heap.size + 1, 0, none⟩ (.bool false)).setCell ⟨w.heap.size + 1, 1, none⟩ (.slice (some ⟨A, 0, none⟩) ns ns)).setCell ⟨w.heap.size + 1, 2, none⟩ (.slice (some ⟨B, 0, none⟩) np np)) A' xs := fun A' h => boxed h k0 k1 k2 _ _ _
        have n1 : ∀ A', IntsV w' A' xp -> IntsV (((w'.setCell ⟨w.heap.size + 1, 0, none⟩ (.bool false)).setCell ⟨w.heap.size + 1, 1, none⟩ (.slice (some ⟨A, 0, none⟩) ns ns)).setCell ⟨w.heap.size + 1, 2, none⟩ (.slice (some ⟨B, 0, none⟩) np np)) A' xp := fun A' h => boxed h k0 k1 k2 _ _ _
        refine ⟨setV_same q 3 _, A, B, ⟨n0 _ hA2, n1 _ hB2, ((hbF.setCell (p := ⟨w.heap.size + 1, 0, none⟩) (by show w.heap.size <= w.heap.size + 1; omega) _).setCell (p := ⟨w.heap.size + 1, 1, none⟩) (by show w.heap.size <= w.heap.size + 1; omega) _).setCell (p := ⟨w.heap.size + 1, 2, none⟩) (by show w.heap.size <= w.heap.size + 1; omega) _⟩, ?_, ?_, ?_⟩
        · rw [World.cell?_setCell_other _ _ _ _ (by simp), World.cell?_setCell_other _ _ _ _ (by simp)]
          exact World.cell?_setCell_same _ _ _ k0
        · rw [World.cell?_setCell_other _ _ _ _ (by simp)]
          refine World.cell?_setCell_same _ _ _ (u := .slice none 0 0) ?_
          rw [World.cell?_setCell_other _ _ _ _ (by simp)]
          exact k1
        · refine World.cell?_setCell_same _ _ _ (u := .slice none 0 0) ?_
          rw [World.cell?_setCell_other _ _ _ _ (by simp), World.cell?_setCell_other _ _ _ _ (by simp)]
          exact k2
    case rest =>
      obtain ⟨rfl, A, B, HE, z0, z1, z2⟩ := hcut
      go_wp2_with fail
      obtain ⟨⟨hn1, hn2⟩, hx1, hx2⟩ := HN.out; refine bodyPost_ret (v := .tuple #[.agg #[.bool false, .slice (some ⟨A, 0, none⟩) ns ns, .slice (some ⟨B, 0, none⟩) np np], .int .i64 0]) ?_ rfl (.inr (.inl ⟨HTk.out, K, st, lp, A, B, HDn.out, HLo.out, HSz.out.1, HSz.out.2, by rw [hn1, hn2], HE.out.2.2, by rw [hn1, hn2, hx1, hx2]; exact ⟨HE.out.1, HE.out.2.1⟩⟩))
      simp only [results, Tryz.results12]; simp [go_sem, z0, z1, z2]
theorem vcheck_any (va vr pv fv : Value) (m : Mo) (ps : List (List (Int × Int))) (l : List (Int × Int)) (w : World) (hB : 0 < w.heap.size) (hT : TabAt w) (hV : TaskV w va vr pv fv m ps l) :
    Calls Tryz.prog 12 #[.agg #[va, vr, pv, fv]] w (VdAns w m ps l) := by
  by_cases hk : tkcode m ps l = 0
  · by_cases hf : ExFull m ps l
    · refine (vcheck_bad va vr pv fv m ps l w hV 12 (by decide) fun w' h => (explore_any va vr pv fv m ps l w' (Nat.lt_of_lt_of_le hB h.size) (hT.below h hB) (hV.below h)).mono fun e w2 hx => ?_).mono fun e w2 ⟨h1, h2⟩ => .inr (.inr (.inl ⟨hk, hf, h1, h2⟩))
      rcases hx with ⟨_, K, hD, _⟩ | ⟨_, _, h1, h2⟩ | ⟨h1, _, _⟩
      · exact absurd hf (ex_not_both hD)
      · exact ⟨h1, h2⟩
      · exact absurd hk h1
    · exact vcheck_ok va vr pv fv m ps l w hB hT hV hk hf
  · refine (vcheck_bad va vr pv fv m ps l w hV (tkcode m ps l) hk fun w' h => (explore_any va vr pv fv m ps l w' (Nat.lt_of_lt_of_le hB h.size) (hT.below h hB) (hV.below h)).mono fun e w2 hx => ?_).mono fun e w2 ⟨h1, h2⟩ => .inr (.inr (.inr ⟨hk, h1, h2⟩))
    rcases hx with ⟨h0, _⟩ | ⟨h0, _⟩ | ⟨_, h1, h2⟩
    · exact absurd h0 hk
    · exact absurd h0 hk
    · exact ⟨h1, h2⟩
end Go.Proofs.YtobopjjmhginlaaGreatDoor
