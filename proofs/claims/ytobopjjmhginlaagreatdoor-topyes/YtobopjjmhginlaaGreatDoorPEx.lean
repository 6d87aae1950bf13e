import Derived.Test.YtobopjjmhginlaaGreatDoorPEx0
namespace Go.Proofs.YtobopjjmhginlaaGreatDoor
open Go.ChangeShapes Go.WideShapes Go.ChangeAt Go.RowKit Go.Deep Go.Maps
open Terms Tm
set_option maxHeartbeats 6400000
set_option maxRecDepth 20000
theorem explore_bad (va vr pv fv : Value) (m : Mo) (ps : List (List (Int × Int))) (l : List (Int × Int)) (w : World) (hB : 0 < w.heap.size) (hT : TabAt w) (hV : TaskV w va vr pv fv m ps l) (hk : tkcode m ps l ≠ 0) :
    Calls Tryz.prog 16 #[.agg #[va, vr, pv, fv]] w (ExAns w m ps l) := by
  unfold ExAns; obtain ⟨ao, ac, rfl⟩ := hV.mo.1.shape; obtain ⟨ro, rc, rfl⟩ := hV.mo.2.shape; obtain ⟨po, pc, rfl⟩ := hV.ps.shape; obtain ⟨fo, fc, rfl, _⟩ := id hV.fo
  obtain ⟨W0, hW0⟩ : ∃ W0, W0 = (w.alloc (.cells #[.slice ao m.vars.length ac, .slice ro m.rules.length rc, .slice po ps.length pc, .slice fo l.length fc] 51)).alloc (.cells #[.slice none 0 0, .int .i64 0, .slice none 0 0, .slice none 0 0, .int .i64 0] 60) := ⟨_, rfl⟩
  have hbW : Below w.heap.size w W0 := by rw [hW0]; exact ((Below.refl _ _).alloc (Nat.le_refl _) _).alloc (by simp) _
  have hzW : W0.heap.size = w.heap.size + 2 := by rw [hW0]; simp
  have hX0 : W0.heap[w.heap.size + 1]? = some (grB (.slice none 0 0) (.slice none 0 0) (.slice none 0 0) 0 0) := by
    rw [hW0]; have := (MapKept.heap_alloc (w.alloc (.cells #[.slice ao m.vars.length ac, .slice ro m.rules.length rc, .slice po ps.length pc, .slice fo l.length fc] 51)) (.cells #[.slice none 0 0, .int .i64 0, .slice none 0 0, .slice none 0 0, .int .i64 0] 60)).1; rw [World.size_alloc] at this; exact this
  have hsv := surveyOf_bad _ _ _ _ m ps l W0 (Nat.lt_of_lt_of_le hB hbW.size) (hT.below hbW hB) (hV.below hbW) hk
  have HFin : Hid (∀ w1, Below W0.heap.size W0 w1 -> (w1.cell? ⟨w.heap.size + 1, 0, none⟩ = some (.slice none 0 0) /\ w1.cell? ⟨w.heap.size + 1, 1, none⟩ = some (.int .i64 0) /\ w1.cell? ⟨w.heap.size + 1, 2, none⟩ = some (.slice none 0 0) /\ w1.cell? ⟨w.heap.size + 1, 3, none⟩ = some (.slice none 0 0) /\ w1.cell? ⟨w.heap.size + 1, 4, none⟩ = some (.int .i64 0)) /\ (∀ i, w1.frozen? ⟨w.heap.size + 1, i, none⟩ = false) /\ Below w.heap.size w w1) := fun w1 h => by
    have hb := (h.block (w.heap.size + 1) (by omega)).trans hX0
    exact ⟨grB_cells hb, grB_free hb, hbW.trans (h.mono hbW.size)⟩
  have HK : Hid (tkcode m ps l ≠ 0) := hk; generalize tkcode m ps l = tc at *; generalize m.vars.length = vn at *; generalize m.rules.length = rn at *; generalize ps.length = pn at *; generalize l.length = fn at *; clear hV hT
  go_enter Tryz.func16, Tryz.ntmps16
  go_wp2_with (first | (go_at_call 24; rw [<- hW0]; refine hsv.mono ?_; rintro e w1 ⟨rfl, hb1⟩; obtain ⟨⟨x0, x1, x2, x3, x4⟩, xf, hbw⟩ := HFin.out w1 hb1; have f0 := xf 0; have f1 := xf 1; have f2 := xf 2; have f3 := xf 3; have f4 := xf 4))
  have hbF : Below w.heap.size w (((((w1.setCell ⟨w.heap.size + 1, 0, none⟩ (.slice none 0 0)).setCell ⟨w.heap.size + 1, 1, none⟩ (.int .i64 0)).setCell ⟨w.heap.size + 1, 2, none⟩ (.slice none 0 0)).setCell ⟨w.heap.size + 1, 3, none⟩ (.slice none 0 0)).setCell ⟨w.heap.size + 1, 4, none⟩ (.int .i64 0)) := hbw.trans ((chg_box w1 (w.heap.size + 1) _ _ _ _ _).below (fun i e => by omega) (by have := hbw.size; omega))
  refine bodyPost_ret (v := .tuple #[.agg #[.slice none 0 0, .int .i64 0, .slice none 0 0, .slice none 0 0, .int .i64 0], .int .i64 tc]) ?_ rfl (.inr (.inr ⟨HK.out, rfl, hbF⟩))
  simp [results, Tryz.results16, go_sem, x0, x1, x2, x3, x4]
theorem ex_start (W0 w1 w2 : World) (n : Nat) (va vr pv fv : Value) (m : Mo) (ps : List (List (Int × Int))) (l : List (Int × Int)) (ho : Option Addr) (hc : Nat) (so : Option Addr) (sc : Nat) (hk : tkcode m ps l = 0) (hb1 : Below W0.heap.size W0 w1) (hn : W0.heap.size <= n) (hs : SurvAt w1 (n + 2) va vr pv fv (.slice ho (aheadL l).length hc) n (n + 1)) (hor : w1.ownsRow W0.heap.size 3 1 (.slice ho (aheadL l).length hc) (aheadL l).length (ivals (aheadL l))) (hm : w1.heap[n]? = some (.map #[] 0) /\ w1.heap[n + 1]? = some (.map #[] 0)) (hb2 : Below w1.heap.size w1 w2) (hsp : SpO w2 w1.heap.size (.slice so (begL m ps l).length sc) (begL m ps l)) :
    Calls Tryz.prog 26 #[.pointer (some ⟨w2.heap.size + 1, 0, none⟩), .slice so (begL m ps l).length sc] ((w2.alloc (.map #[] 0)).alloc (.cells #[.slice none 0 0, .int .i64 ((begL m ps l).length : Nat), .slice none 0 0, .slice none 0 0, .int .i64 ((aheadL l).length : Nat), .map (some w2.heap.size)] 83)) fun e w3 => ∃ v sv, e = .returned v /\ Hid (ExW W0 w3 w2.heap.size (w2.heap.size + 1) w2.heap.size (n + 2) n (n + 1) (0 * 300001) va vr pv fv m ps l ho hc (xpP m ps l 0) (xpN m ps l 0) (xpT m ps l 0) ((begL m ps l).length : Nat) ((aheadL l).length : Nat) sv (.slice none 0 0) (.slice none 0 0)) := by
  have hbl := begL_len hk; have hv1 : SvOk (fun _ => True) W0 w1 (n + 2) n (n + 1) 0 va vr pv fv m ps l ho hc := SvOk.made (Below.refl _ _) hb1 hn hs hor hm.1 hm.2
  have hv2 := hv1.below hb2; have hl1 := hv2.box.lt; have hl2 : n < w2.heap.size := by omega
  obtain ⟨WA, hWA⟩ : ∃ WA, WA = (w2.alloc (.map #[] 0)).alloc (.cells #[.slice none 0 0, .int .i64 ((begL m ps l).length : Nat), .slice none 0 0, .slice none 0 0, .int .i64 ((aheadL l).length : Nat), .map (some w2.heap.size)] 83) := ⟨_, rfl⟩
  have hbA : Below w2.heap.size w2 WA := by rw [hWA]; exact ((Below.refl _ _).alloc (Nat.le_refl _) _).alloc (by simp) _
  have hmA : WA.heap[w2.heap.size]? = some (.map #[] 0) := by
    rw [hWA, Below.heap_alloc _ _ _ (by simp)]
    exact (MapKept.heap_alloc w2 _).1
  have hxA : WA.heap[w2.heap.size + 1]? = some (atB (.slice none 0 0) (.slice none 0 0) (.slice none 0 0) ((begL m ps l).length : Nat) ((aheadL l).length : Nat) w2.heap.size) := by
    rw [hWA]; have := (MapKept.heap_alloc (w2.alloc (.map #[] 0)) (.cells #[.slice none 0 0, .int .i64 ((begL m ps l).length : Nat), .slice none 0 0, .slice none 0 0, .int .i64 ((aheadL l).length : Nat), .map (some w2.heap.size)] 83)).1; rw [World.size_alloc] at this; exact this
  have hX : ExW W0 WA w2.heap.size (w2.heap.size + 1) w2.heap.size (n + 2) n (n + 1) (0 * 300001) va vr pv fv m ps l ho hc [] (xpN m ps l 0) (xpT m ps l 0) ((begL m ps l).length : Nat) ((aheadL l).length : Nat) (.slice none 0 0) (.slice none 0 0) (.slice none 0 0) := by
    refine ⟨((hv2.re (Pz' := offT (.slice none 0 0)) (fun _ _ _ e => by simp [Value.ownBlock] at e) (fun _ _ e => by simp [Value.ownBlock] at e)).below hbA).mono (by omega), ⟨hxA, by omega, Nat.le_refl _, LiesAt.new hmA, SpO.nil _ _, ⟨[], World.ownsRow_nil _ _ _ _, rfl, fun i hi => by simp [xpN] at hi⟩, World.ownsRow_nil _ _ _ _⟩, ?_, ?_, ?_, ?_⟩
    · have := hv2.bel.size; omega
    · omega
    · omega
    · omega
  have hsv := (hsp.later hbA (Nat.le_refl _)).v; have hIs : ∀ j, j < (begL m ps l).length -> I64s ((begL m ps l).getD j (0, 0)) := fun j hj => spot_I64 hk (begL_spot hk (by rw [List.getD_eq_getElem?_getD, List.getElem?_eq_getElem hj]; exact List.getElem_mem _))
  have hsep : ∀ a, so = some a -> ¬ atZ (w2.heap.size + 1) w2.heap.size (.slice none 0 0) a.block := fun a e z => by
    have hlt : a.block < w2.heap.size := by
      rcases hsp.2 with ⟨h0, _⟩ | ⟨g, cap, cur, h1, _, h3, _⟩
      · rw [e] at h0; simp at h0
      · rw [e] at h1
        injection h1 with h1 _ _
        injection h1 with h1
        subst h1; exact (Array.getElem?_eq_some_iff.1 h3).1
    rcases z with z | z | z
    · omega
    · omega
    · simp [Value.ownBlock] at z
  rw [<- hWA]; refine (places_any WA w2.heap.size (w2.heap.size + 1) w2.heap.size [] _ _ _ _ _ _ _ _ so sc hX.tl hsv hsep hIs (by simp; omega)).mono fun e w3 ⟨h1, sv', h2, h3, h4, h5, h6⟩ => ?_
  exact ⟨_, sv', h1, hX.put h5 h2⟩
theorem ex_round (W0 wr : World) (base A lm B bs bl k : Nat) (va vr pv fv : Value) (m : Mo) (ps : List (List (Int × Int))) (l : List (Int × Int)) (ho : Option Addr) (hc : Nat) (init many : Int) (sv nv tv : Value) (hB : 0 < W0.heap.size) (hT : TabAt W0) (hV : TaskV W0 va vr pv fv m ps l) (hk : tkcode m ps l = 0) (hX : ExW W0 wr base A lm B bs bl (k * 300001) va vr pv fv m ps l ho hc (xpP m ps l k) (xpN m ps l k) (xpT m ps l k) init many sv nv tv) (hlt : k < (xpP m ps l k).length) (hz : (xpP m ps l k).length <= 20000) (hsp : ∀ p ∈ xpP m ps l k, spOk m l p) :
    Calls Tryz.prog 27 #[.pointer (some ⟨A, 0, none⟩), .pointer (some ⟨B, 0, none⟩), .agg #[.int .i64 (xpAt m ps l k).1, .int .i64 (xpAt m ps l k).2]] wr fun e w' => e = .returned (.int .i64 (if 20000 < (xpP m ps l (k + 1)).length then 12 else 0)) /\ ∃ sv nv tv, Hid (ExW W0 w' base A lm B bs bl ((k + 1) * 300001) va vr pv fv m ps l ho hc (xpP m ps l (k + 1)) (xpN m ps l (k + 1)) (xpT m ps l (k + 1)) init many sv nv tv) := by
  obtain ⟨h1, d, h2, h3⟩ := hsp _ (xpAt_mem hlt); have hgo := goThrough_any W0 wr base A lm B bs bl (k * 300001) va vr pv fv m ps l ho hc (xpP m ps l k) (xpN m ps l k) (xpT m ps l k) init many sv nv tv (xpAt m ps l k).1 d hB hT hV hk hX (by omega) h1 h2 hz (by rw [xpN_len]; omega) (by rw [xpT_len]; omega)
  unfold GoPost at hgo; rw [<- h3] at hgo; refine hgo.mono fun e w' ⟨g1, sv', nv', tv', g2⟩ => ⟨g1, sv', nv', tv', ?_⟩
  have e1 : (k + 1) * 300001 = k * 300001 + 300001 := by omega
  rw [e1]; exact g2
theorem explore_ok (va vr pv fv : Value) (m : Mo) (ps : List (List (Int × Int))) (l : List (Int × Int)) (w : World) (hB : 0 < w.heap.size) (hT : TabAt w) (hV : TaskV w va vr pv fv m ps l) (hk : tkcode m ps l = 0) :
    Calls Tryz.prog 16 #[.agg #[va, vr, pv, fv]] w (ExAns w m ps l) := by
  unfold ExAns; obtain ⟨ao, ac, rfl⟩ := hV.mo.1.shape; obtain ⟨ro, rc, rfl⟩ := hV.mo.2.shape; obtain ⟨po, pc, rfl⟩ := hV.ps.shape; obtain ⟨fo, fc, rfl, _⟩ := id hV.fo
  obtain ⟨W0, hW0⟩ : ∃ W0, W0 = (w.alloc (.cells #[.slice ao m.vars.length ac, .slice ro m.rules.length rc, .slice po ps.length pc, .slice fo l.length fc] 51)).alloc (.cells #[.slice none 0 0, .int .i64 0, .slice none 0 0, .slice none 0 0, .int .i64 0] 60) := ⟨_, rfl⟩
  have hbW : Below w.heap.size w W0 := by rw [hW0]; exact ((Below.refl _ _).alloc (Nat.le_refl _) _).alloc (by simp) _
  have hzW : W0.heap.size = w.heap.size + 2 := by rw [hW0]; simp
  have hX0 : W0.heap[w.heap.size + 1]? = some (grB (.slice none 0 0) (.slice none 0 0) (.slice none 0 0) 0 0) := by
    rw [hW0]; have := (MapKept.heap_alloc (w.alloc (.cells #[.slice ao m.vars.length ac, .slice ro m.rules.length rc, .slice po ps.length pc, .slice fo l.length fc] 51)) (.cells #[.slice none 0 0, .int .i64 0, .slice none 0 0, .slice none 0 0, .int .i64 0] 60)).1; rw [World.size_alloc] at this; exact this
  have hB0 : 0 < W0.heap.size := Nat.lt_of_lt_of_le hB hbW.size; have hT0 := hT.below hbW hB; have hV0 := hV.below hbW; have hsv := surveyOf_ok _ _ _ _ m ps l W0 hB0 hT0 hV0 hk
  have HFin : Hid (∀ w1, Below W0.heap.size W0 w1 -> (w1.cell? ⟨w.heap.size + 1, 0, none⟩ = some (.slice none 0 0) /\ w1.cell? ⟨w.heap.size + 1, 1, none⟩ = some (.int .i64 0) /\ w1.cell? ⟨w.heap.size + 1, 2, none⟩ = some (.slice none 0 0) /\ w1.cell? ⟨w.heap.size + 1, 3, none⟩ = some (.slice none 0 0) /\ w1.cell? ⟨w.heap.size + 1, 4, none⟩ = some (.int .i64 0)) /\ (∀ i, w1.frozen? ⟨w.heap.size + 1, i, none⟩ = false) /\ TyB w1 (w.heap.size + 1) 60 /\ Below w.heap.size w w1) := fun w1 h => by
    have hb := (h.block (w.heap.size + 1) (by omega)).trans hX0
    exact ⟨grB_cells hb, grB_free hb, ⟨_, _, hb⟩, hbW.trans (h.mono hbW.size)⟩
  have HBe : Hid (∀ (w1 : World) (B bs bl : Nat) (ho : Option Addr) (hcp : Nat), Below W0.heap.size W0 w1 -> SurvAt w1 B (.slice ao m.vars.length ac) (.slice ro m.rules.length rc) (.slice po ps.length pc) (.slice fo l.length fc) (.slice ho (aheadL l).length hcp) bs bl -> Calls Tryz.prog 25 #[.pointer (some ⟨B, 0, none⟩)] w1 fun e w' => ∃ so sc, e = .returned (.tuple #[.slice so (begL m ps l).length sc, .int .i64 0]) /\ Below w1.heap.size w1 w' /\ Hid (SpO w' w1.heap.size (.slice so (begL m ps l).length sc) (begL m ps l))) := fun w1 B bs bl ho hcp h hs => begin_any B _ _ _ _ m ps l ho hcp bs bl w1 (Nat.lt_of_lt_of_le hB0 h.size) (hT0.below h hB0) (hV0.below h) hk hs
  have HSt := (show Hid _ from fun (w1 w2 : World) (n : Nat) (ho : Option Addr) (hc : Nat) (so : Option Addr) (sc : Nat) => ex_start W0 w1 w2 n (.slice ao m.vars.length ac) (.slice ro m.rules.length rc) (.slice po ps.length pc) (.slice fo l.length fc) m ps l ho hc so sc hk)
  have HRd := (show Hid _ from fun (wr : World) (base A lm B bs bl k : Nat) (ho : Option Addr) (hc : Nat) (sv nv tv : Value) => ex_round W0 wr base A lm B bs bl k (.slice ao m.vars.length ac) (.slice ro m.rules.length rc) (.slice po ps.length pc) (.slice fo l.length fc) m ps l ho hc ((begL m ps l).length : Nat) ((aheadL l).length : Nat) sv nv tv hB0 hT0 hV0 hk)
  have HP0 : Hid ((∀ p ∈ xpP m ps l 0, spOk m l p) /\ (xpP m ps l 0).length <= 20000) := ⟨xpP_zero hk, by
    have h1 := (plTo_length (begL m ps l) []).2; have h2 := begL_len hk; have e : xpP m ps l 0 = plTo [] (begL m ps l) := rfl; rw [e]; simp at h1
    omega⟩
  have HPn : Hid (∀ k, k < (xpP m ps l k).length -> (∀ p ∈ xpP m ps l k, spOk m l p) -> ∀ p ∈ xpP m ps l (k + 1), spOk m l p) := fun k h1 h2 => xpP_next hk h1 h2
  have HK : Hid (tkcode m ps l = 0) := hk; have hbn := begL_len hk; have han := (lcode_zero (tk_zero hk).2).2.2.2.2; unfold SurvPost at hsv; clear hV hT hV0 hT0 hk; generalize hbl : (begL m ps l).length = bn at *; generalize hal : (aheadL l).length = an at *; generalize m.vars.length = vn at *; generalize m.rules.length = rn at *; generalize ps.length = pn at *; generalize l.length = fn at *
  have hmm := @run_makeMap Tryz.prog
  go_enter Tryz.func16, Tryz.ntmps16
  go_upto_region 8 with (first | (go_at_call 24; rw [<- hW0]; refine hsv.mono ?_; rintro e w1 ⟨n, ho, hcp, rfl, hb1, hn1, _, HS, HO, HM⟩; have hbe := HBe.out w1 _ _ _ _ _ hb1 HS.out) | (go_at_call 25; refine hbe.mono ?_; rintro e w2 ⟨so, sc, rfl, hb2, HSp⟩; have hst := HSt.out w1 w2 n ho hcp so sc hb1 hn1 HS.out HO.out HM.out hb2 HSp.out; have x4 := (HS.out.later hb2).c4))
  go_wp2_with (first | (go_at_call 26; refine hst.mono ?_; rintro e w3 ⟨v3, sv3, rfl, HX3⟩))
  generalize hA : w2.heap.size + 1 = A at *; generalize hlm : w2.heap.size = lm at *; generalize hBn : n + 2 = B at *; generalize hbs : n + 1 = bl at *; clear hst hsv hbe HSt HBe HS HO HM HSp x4 hb1 hb2 hmm hlm
  go_loopw [8] (fun i wr => ∃ k pk : Nat, i = .int .i64 k /\ k <= pk /\ pk <= 20000 /\ Hid ((xpP m ps l k).length = pk /\ (∀ p ∈ xpP m ps l k, spOk m l p) /\ ∀ j, j < k -> j < (xpP m ps l j).length) /\ ∃ vo vc nv tv, Hid (ExW W0 wr lm A lm B n bl (k * 300001) (.slice ao vn ac) (.slice ro rn rc) (.slice po pn pc) (.slice fo fn fc) m ps l ho hcp (xpP m ps l k) (xpN m ps l k) (xpT m ps l k) (bn : Nat) (an : Nat) (.slice vo pk vc) nv tv)) (fun i _ => 20001 - (intOf i).toNat)
  case atStart =>
    obtain ⟨vo, vc, e⟩ := HX3.out.tl.sp.shape; refine ⟨0, (xpP m ps l 0).length, rfl, Nat.zero_le _, HP0.out.2, ⟨rfl, HP0.out.1, fun j hj => by omega⟩, vo, vc, .slice none 0 0, .slice none 0 0, ?_⟩
    rw [<- e]; exact HX3.out
  case round =>
    obtain ⟨k, pk, rfl, hkp, hpk, HK2, vo, vc, nv, tv, HX⟩ := hrel; obtain ⟨a0, a1, a2, a3, a4, a5⟩ := atB_cells HX.out.tl.box
    by_cases hlt : k < pk
    · have hki : (k : Int) < (pk : Int) := by omega
      have hlt2 : k < (xpP m ps l k).length := by rw [HK2.out.1]; exact hlt
      obtain ⟨b, off, rfl, _, c0, c1⟩ := HX.out.tl.sp.v.get hlt2; have hrd := HRd.out wr lm A lm B n bl k ho hcp _ nv tv HX.out hlt2 (by rw [HK2.out.1]; exact hpk) HK2.out.2.1
      have HKn : Hid ((∀ p ∈ xpP m ps l (k + 1), spOk m l p) /\ ∀ j, j < k + 1 -> j < (xpP m ps l j).length) := ⟨HPn.out k hlt2 HK2.out.2.1, fun j hj => by
        by_cases h : j < k
        · exact HK2.out.2.2 j h
        · obtain rfl : j = k := by omega
          exact hlt2⟩
      have e1 : (xpP m ps l k).getD k (0, 0) = xpAt m ps l k := rfl; rw [e1] at c0 c1; clear e1 HX HRd hlt2; generalize xpAt m ps l k = s at *; obtain ⟨x, y⟩ := s; simp only at c0 c1 hrd
      by_cases hfull : 20000 < (xpP m ps l (k + 1)).length
      · rw [if_pos hfull] at hrd
        have HFu : Hid (ExFull m ps l) := ⟨k, fun j hj => HKn.out.2 j (by omega), hfull⟩
        clear hfull HKn HK2
        go_wp2_with (first | (go_at_call 27; refine hrd.mono ?_; rintro e w4 ⟨rfl, sv4, nv4, tv4, HX4⟩; obtain ⟨⟨x0, x1, x2, x3, x4⟩, xf, _, hbw⟩ := HFin.out w4 HX4.out.su.bel; have f0 := xf 0; have f1 := xf 1; have f2 := xf 2; have f3 := xf 3; have f4 := xf 4))
        have hbF : Below w.heap.size w (((((w4.setCell ⟨w.heap.size + 1, 0, none⟩ (.slice none 0 0)).setCell ⟨w.heap.size + 1, 1, none⟩ (.int .i64 0)).setCell ⟨w.heap.size + 1, 2, none⟩ (.slice none 0 0)).setCell ⟨w.heap.size + 1, 3, none⟩ (.slice none 0 0)).setCell ⟨w.heap.size + 1, 4, none⟩ (.int .i64 0)) := hbw.trans ((chg_box w4 (w.heap.size + 1) _ _ _ _ _).below (fun i e => by omega) (by have := hbw.size; omega))
        refine bodyPost_ret (v := .tuple #[.agg #[.slice none 0 0, .int .i64 0, .slice none 0 0, .slice none 0 0, .int .i64 0], .int .i64 12]) ?_ rfl (.inr (.inl ⟨HK.out, HFu.out, rfl, hbF⟩))
        simp [results, Tryz.results16, go_sem, x0, x1, x2, x3, x4]
      · rw [if_neg hfull] at hrd
        have HLe : Hid ((xpP m ps l (k + 1)).length <= 20000 /\ pk <= (xpP m ps l (k + 1)).length) := ⟨by omega, by
          rw [<- HK2.out.1]
          exact (exS_pre (begL m ps l) (xpBh m ps l) k).length_le⟩
        clear hfull HK2
        go_wp2_with (first | (go_at_call 27; refine hrd.mono ?_; rintro e w4 ⟨rfl, sv4, nv4, tv4, HX4⟩))
        go_roundw
        case rel =>
          obtain ⟨vo4, vc4, e⟩ := HX4.out.tl.sp.shape; refine ⟨k + 1, (xpP m ps l (k + 1)).length, by go_num, by have := HLe.out.2; omega, HLe.out.1, ⟨rfl, HKn.out⟩, vo4, vc4, nv4, tv4, ?_⟩
          rw [<- e]; exact HX4.out
        case measure => simp [intOf]; omega
    · obtain rfl : k = pk := by omega
      obtain ⟨⟨x0, x1, x2, x3, x4⟩, xf, hty, hbw⟩ := HFin.out wr HX.out.su.bel; have f0 := xf 0; have f1 := xf 1; have f2 := xf 2; have f3 := xf 3; have f4 := xf 4; have HDn : Hid (ExDone m ps l k) := ⟨HK2.out.1, hpk, HK2.out.2.2, HK2.out.2.1⟩
      have HG : Hid (GrX wr w.heap.size m ps l k (.slice vo k vc) nv tv) := by
        have hle : w.heap.size <= lm := by have := HX.out.lo.1; have := hbW.size; omega
        exact ⟨owns_mono HX.out.tl.sp hle, HX.out.tl.nx.mono hle, owns_mono HX.out.tl.st hle⟩
      obtain ⟨no, nn, nc, rfl⟩ : ∃ no nn nc, nv = .slice no nn nc := by
        obtain ⟨us, h1, _⟩ := HX.out.tl.nx; obtain ⟨x, y, e⟩ := owns_slice h1; exact ⟨_, _, _, e⟩
      obtain ⟨xo, xn, xc, rfl⟩ : ∃ xo xn xc, tv = .slice xo xn xc := by
        obtain ⟨x, y, e⟩ := owns_slice HX.out.tl.st; exact ⟨_, _, _, e⟩
      have HBF : Hid (∀ w8, Chg (fun i => i = w.heap.size + 1) wr w8 -> Below w.heap.size w w8 /\ GrX w8 w.heap.size m ps l k (.slice vo k vc) (.slice no nn nc) (.slice xo xn xc)) := fun w8 h => ⟨hbw.trans (h.below (fun i e => by omega) (by have := hbw.size; omega)), HG.out.chg h hty⟩
      clear HX HK2 HRd HG hty
      go_wp2_with fail
      obtain ⟨r1, r2⟩ := HBF.out _ (chg_box wr (w.heap.size + 1) _ _ _ _ _); refine bodyPost_ret (v := .tuple #[.agg #[.slice vo k vc, .int .i64 (bn : Nat), .slice no nn nc, .slice xo xn xc, .int .i64 (an : Nat)], .int .i64 0]) ?_ rfl (.inl ⟨HK.out, k, HDn.out, _, _, _, rfl, r1, r2⟩)
      simp [results, Tryz.results16, go_sem, x0, x1, x2, x3, x4]
theorem explore_any (va vr pv fv : Value) (m : Mo) (ps : List (List (Int × Int))) (l : List (Int × Int)) (w : World) (hB : 0 < w.heap.size) (hT : TabAt w) (hV : TaskV w va vr pv fv m ps l) :
    Calls Tryz.prog 16 #[.agg #[va, vr, pv, fv]] w (ExAns w m ps l) := by
  by_cases hk : tkcode m ps l = 0
  · exact explore_ok va vr pv fv m ps l w hB hT hV hk
  · exact explore_bad va vr pv fv m ps l w hB hT hV hk
end Go.Proofs.YtobopjjmhginlaaGreatDoor
