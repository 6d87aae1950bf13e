/-
  Joined out of PEx, EyWalk, in their order: a claim bears at most so many files.
-/
import Derived.Test.YtafbnmiipfkohaaGreatDoorLateE
import Derived.Test.YtafbnmiipfkohaaGreatDoorLateA
/-
  The contract of product.Explore.
-/
namespace Go.Proofs.YtafbnmiipfkohaaGreatDoor
open Go.ChangeShapes Go.WideShapes Go.ChangeAt Go.RowKit Go.Deep Go.Maps
open Terms Tm

set_option maxHeartbeats 1600000 in
set_option maxRecDepth 20000 in
theorem explore_bad (va vr pv fv : Value) (m : Mo) (ps : List (List (Int × Int))) (l : List (Int × Int)) (w : World) (hB : 0 < w.heap.size) (hT : TabAt w) (hV : TaskV w va vr pv fv m ps l) (hk : tkcode m ps l ≠ 0) :
    Calls Tryz.prog 13 #[.agg #[va, vr, pv, fv]] w (ExAns w m ps l) := by
  unfold ExAns
  obtain ⟨ao, ac, rfl⟩ := hV.mo.1.shape
  obtain ⟨ro, rc, rfl⟩ := hV.mo.2.shape
  obtain ⟨po, pc, rfl⟩ := hV.ps.shape
  obtain ⟨fo, fc, rfl, _⟩ := id hV.fo
  obtain ⟨W0, hW0⟩ : ∃ W0, W0 = (w.alloc (.cells #[.slice ao m.vars.length ac, .slice ro m.rules.length rc, .slice po ps.length pc, .slice fo l.length fc] 34)).alloc (.cells #[.slice none 0 0, .int .i64 0, .slice none 0 0, .slice none 0 0, .int .i64 0] 53) := ⟨_, rfl⟩
  have hbW : Below w.heap.size w W0 := by rw [hW0]; exact ((Below.refl _ _).alloc (Nat.le_refl _) _).alloc (by simp) _
  have hzW : W0.heap.size = w.heap.size + 2 := by rw [hW0]; simp
  have hX0 : W0.heap[w.heap.size + 1]? = some (grB (.slice none 0 0) (.slice none 0 0) (.slice none 0 0) 0 0) := by
    rw [hW0]
    have := (MapKept.heap_alloc (w.alloc (.cells #[.slice ao m.vars.length ac, .slice ro m.rules.length rc, .slice po ps.length pc, .slice fo l.length fc] 34)) (.cells #[.slice none 0 0, .int .i64 0, .slice none 0 0, .slice none 0 0, .int .i64 0] 53)).1
    rw [World.size_alloc] at this
    exact this
  have hsv := surveyOf_bad _ _ _ _ m ps l W0 (Nat.lt_of_lt_of_le hB hbW.size) (hT.below hbW hB) (hV.below hbW) hk
  have HFin : Hid (∀ w1, Below W0.heap.size W0 w1 → (w1.cell? ⟨w.heap.size + 1, 0, none⟩ = some (.slice none 0 0) ∧ w1.cell? ⟨w.heap.size + 1, 1, none⟩ = some (.int .i64 0) ∧ w1.cell? ⟨w.heap.size + 1, 2, none⟩ = some (.slice none 0 0) ∧ w1.cell? ⟨w.heap.size + 1, 3, none⟩ = some (.slice none 0 0) ∧ w1.cell? ⟨w.heap.size + 1, 4, none⟩ = some (.int .i64 0)) ∧ (∀ i, w1.frozen? ⟨w.heap.size + 1, i, none⟩ = false) ∧ Below w.heap.size w w1) := fun w1 h => by
    have hb := (h.block (w.heap.size + 1) (by omega)).trans hX0
    exact ⟨grB_cells hb, grB_free hb, hbW.trans (h.mono hbW.size)⟩
  have HK : Hid (tkcode m ps l ≠ 0) := hk
  generalize tkcode m ps l = tc at *
  generalize m.vars.length = vn at *
  generalize m.rules.length = rn at *
  generalize ps.length = pn at *
  generalize l.length = fn at *
  clear hV hT
  go_enter Tryz.func13, Tryz.ntmps13
  go_wp2_with (first | (go_at_call 24; rw [← hW0]; refine hsv.mono ?_; rintro e w1 ⟨rfl, hb1⟩; obtain ⟨⟨x0, x1, x2, x3, x4⟩, xf, hbw⟩ := HFin.out w1 hb1; have f0 := xf 0; have f1 := xf 1; have f2 := xf 2; have f3 := xf 3; have f4 := xf 4))
  have hbF : Below w.heap.size w (((((w1.setCell ⟨w.heap.size + 1, 0, none⟩ (.slice none 0 0)).setCell ⟨w.heap.size + 1, 1, none⟩ (.int .i64 0)).setCell ⟨w.heap.size + 1, 2, none⟩ (.slice none 0 0)).setCell ⟨w.heap.size + 1, 3, none⟩ (.slice none 0 0)).setCell ⟨w.heap.size + 1, 4, none⟩ (.int .i64 0)) := hbw.trans ((chg_box w1 (w.heap.size + 1) _ _ _ _ _).below (fun i e => by omega) (by have := hbw.size; omega))
  refine bodyPost_ret (v := .tuple #[.agg #[.slice none 0 0, .int .i64 0, .slice none 0 0, .slice none 0 0, .int .i64 0], .int .i64 tc]) ?_ rfl (.inr (.inr ⟨HK.out, rfl, hbF⟩))
  simp [results, Tryz.results13, go_sem, x0, x1, x2, x3, x4]

set_option maxHeartbeats 1600000 in
set_option maxRecDepth 20000 in
/-- the atlas is made, and holds where runs begin. -/
theorem ex_start (W0 w1 w2 : World) (n : Nat) (va vr pv fv : Value) (m : Mo) (ps : List (List (Int × Int))) (l : List (Int × Int)) (ho : Option Addr) (hc : Nat) (so : Option Addr) (sc : Nat) (hk : tkcode m ps l = 0) (hb1 : Below W0.heap.size W0 w1) (hn : W0.heap.size ≤ n) (hs : SurvAt w1 (n + 2) va vr pv fv (.slice ho (aheadL l).length hc) n (n + 1)) (hor : w1.ownsRow W0.heap.size 3 1 (.slice ho (aheadL l).length hc) (aheadL l).length (ivals (aheadL l))) (hm : w1.heap[n]? = some (.map #[] 0) ∧ w1.heap[n + 1]? = some (.map #[] 0)) (hb2 : Below w1.heap.size w1 w2) (hsp : SpO w2 w1.heap.size (.slice so (begL m ps l).length sc) (begL m ps l)) :
    Calls Tryz.prog 28 #[.pointer (some ⟨w2.heap.size + 1, 0, none⟩), .slice so (begL m ps l).length sc] ((w2.alloc (.map #[] 0)).alloc (.cells #[.slice none 0 0, .int .i64 ((begL m ps l).length : Nat), .slice none 0 0, .slice none 0 0, .int .i64 ((aheadL l).length : Nat), .map (some w2.heap.size)] 82)) fun e w3 => ∃ v sv, e = .returned v ∧ Hid (ExW W0 w3 w2.heap.size (w2.heap.size + 1) w2.heap.size (n + 2) n (n + 1) (0 * 300001) va vr pv fv m ps l ho hc (xpP m ps l 0) (xpN m ps l 0) (xpT m ps l 0) ((begL m ps l).length : Nat) ((aheadL l).length : Nat) sv (.slice none 0 0) (.slice none 0 0)) := by
  have hbl := begL_len hk
  have hv1 : SvOk (fun _ => True) W0 w1 (n + 2) n (n + 1) 0 va vr pv fv m ps l ho hc := SvOk.made (Below.refl _ _) hb1 hn hs hor hm.1 hm.2
  have hv2 := hv1.below hb2
  have hl1 := hv2.box.lt
  have hl2 : n < w2.heap.size := by omega
  obtain ⟨WA, hWA⟩ : ∃ WA, WA = (w2.alloc (.map #[] 0)).alloc (.cells #[.slice none 0 0, .int .i64 ((begL m ps l).length : Nat), .slice none 0 0, .slice none 0 0, .int .i64 ((aheadL l).length : Nat), .map (some w2.heap.size)] 82) := ⟨_, rfl⟩
  have hbA : Below w2.heap.size w2 WA := by rw [hWA]; exact ((Below.refl _ _).alloc (Nat.le_refl _) _).alloc (by simp) _
  have hmA : WA.heap[w2.heap.size]? = some (.map #[] 0) := by
    rw [hWA, Below.heap_alloc _ _ _ (by simp)]
    exact (MapKept.heap_alloc w2 _).1
  have hxA : WA.heap[w2.heap.size + 1]? = some (atB (.slice none 0 0) (.slice none 0 0) (.slice none 0 0) ((begL m ps l).length : Nat) ((aheadL l).length : Nat) w2.heap.size) := by
    rw [hWA]
    have := (MapKept.heap_alloc (w2.alloc (.map #[] 0)) (.cells #[.slice none 0 0, .int .i64 ((begL m ps l).length : Nat), .slice none 0 0, .slice none 0 0, .int .i64 ((aheadL l).length : Nat), .map (some w2.heap.size)] 82)).1
    rw [World.size_alloc] at this
    exact this
  have hX : ExW W0 WA w2.heap.size (w2.heap.size + 1) w2.heap.size (n + 2) n (n + 1) (0 * 300001) va vr pv fv m ps l ho hc [] (xpN m ps l 0) (xpT m ps l 0) ((begL m ps l).length : Nat) ((aheadL l).length : Nat) (.slice none 0 0) (.slice none 0 0) (.slice none 0 0) := by
    refine ⟨((hv2.re (Pz' := offT (.slice none 0 0)) (fun _ _ _ e => by simp [Value.ownBlock] at e) (fun _ _ e => by simp [Value.ownBlock] at e)).below hbA).mono (by omega), ⟨hxA, by omega, Nat.le_refl _, LiesAt.new hmA, SpO.nil _ _, ⟨[], World.ownsRow_nil _ _ _ _, rfl, fun i hi => by simp [xpN] at hi⟩, World.ownsRow_nil _ _ _ _⟩, ?_, ?_, ?_, ?_⟩
    · have := hv2.bel.size; omega
    · omega
    · omega
    · omega
  have hsv := (hsp.later hbA (Nat.le_refl _)).v
  have hIs : ∀ j, j < (begL m ps l).length → I64s ((begL m ps l).getD j (0, 0)) := fun j hj => spot_I64 hk (begL_spot hk (by rw [List.getD_eq_getElem?_getD, List.getElem?_eq_getElem hj]; exact List.getElem_mem _))
  have hsep : ∀ a, so = some a → ¬ atZ (w2.heap.size + 1) w2.heap.size (.slice none 0 0) a.block := fun a e z => by
    have hlt : a.block < w2.heap.size := by
      rcases hsp.2 with ⟨h0, _⟩ | ⟨g, cap, cur, h1, _, h3, _⟩
      · rw [e] at h0; simp at h0
      · rw [e] at h1
        injection h1 with h1 _ _
        injection h1 with h1
        subst h1
        exact (Array.getElem?_eq_some_iff.1 h3).1
    rcases z with z | z | z
    · omega
    · omega
    · simp [Value.ownBlock] at z
  rw [← hWA]
  refine (places_any WA w2.heap.size (w2.heap.size + 1) w2.heap.size [] _ _ _ _ _ _ _ _ so sc hX.tl hsv hsep hIs (by simp; omega)).mono fun e w3 ⟨h1, sv', h2, h3, h4, h5, h6⟩ => ?_
  exact ⟨_, sv', h1, hX.put h5 h2⟩

set_option maxHeartbeats 1600000 in
set_option maxRecDepth 20000 in
/-- a round. -/
theorem ex_round (W0 wr : World) (base A lm B bs bl k : Nat) (va vr pv fv : Value) (m : Mo) (ps : List (List (Int × Int))) (l : List (Int × Int)) (ho : Option Addr) (hc : Nat) (init many : Int) (sv nv tv : Value) (hB : 0 < W0.heap.size) (hT : TabAt W0) (hV : TaskV W0 va vr pv fv m ps l) (hk : tkcode m ps l = 0) (hX : ExW W0 wr base A lm B bs bl (k * 300001) va vr pv fv m ps l ho hc (xpP m ps l k) (xpN m ps l k) (xpT m ps l k) init many sv nv tv) (hlt : k < (xpP m ps l k).length) (hz : (xpP m ps l k).length ≤ 20000) (hsp : ∀ p ∈ xpP m ps l k, spOk m l p) :
    Calls Tryz.prog 29 #[.pointer (some ⟨A, 0, none⟩), .pointer (some ⟨B, 0, none⟩), .agg #[.int .i64 (xpAt m ps l k).1, .int .i64 (xpAt m ps l k).2]] wr fun e w' => e = .returned (.int .i64 (if 20000 < (xpP m ps l (k + 1)).length then 12 else 0)) ∧ ∃ sv nv tv, Hid (ExW W0 w' base A lm B bs bl ((k + 1) * 300001) va vr pv fv m ps l ho hc (xpP m ps l (k + 1)) (xpN m ps l (k + 1)) (xpT m ps l (k + 1)) init many sv nv tv) := by
  obtain ⟨h1, d, h2, h3⟩ := hsp _ (xpAt_mem hlt)
  have hgo := goThrough_any W0 wr base A lm B bs bl (k * 300001) va vr pv fv m ps l ho hc (xpP m ps l k) (xpN m ps l k) (xpT m ps l k) init many sv nv tv (xpAt m ps l k).1 d hB hT hV hk hX (by omega) h1 h2 hz (by rw [xpN_len]; omega) (by rw [xpT_len]; omega)
  unfold GoPost at hgo
  rw [← h3] at hgo
  refine hgo.mono fun e w' ⟨g1, sv', nv', tv', g2⟩ => ⟨g1, sv', nv', tv', ?_⟩
  have e1 : (k + 1) * 300001 = k * 300001 + 300001 := by omega
  rw [e1]
  exact g2

set_option maxHeartbeats 3200000 in
set_option maxRecDepth 20000 in
theorem explore_ok (va vr pv fv : Value) (m : Mo) (ps : List (List (Int × Int))) (l : List (Int × Int)) (w : World) (hB : 0 < w.heap.size) (hT : TabAt w) (hV : TaskV w va vr pv fv m ps l) (hk : tkcode m ps l = 0) :
    Calls Tryz.prog 13 #[.agg #[va, vr, pv, fv]] w (ExAns w m ps l) := by
  unfold ExAns
  obtain ⟨ao, ac, rfl⟩ := hV.mo.1.shape
  obtain ⟨ro, rc, rfl⟩ := hV.mo.2.shape
  obtain ⟨po, pc, rfl⟩ := hV.ps.shape
  obtain ⟨fo, fc, rfl, _⟩ := id hV.fo
  obtain ⟨W0, hW0⟩ : ∃ W0, W0 = (w.alloc (.cells #[.slice ao m.vars.length ac, .slice ro m.rules.length rc, .slice po ps.length pc, .slice fo l.length fc] 34)).alloc (.cells #[.slice none 0 0, .int .i64 0, .slice none 0 0, .slice none 0 0, .int .i64 0] 53) := ⟨_, rfl⟩
  have hbW : Below w.heap.size w W0 := by rw [hW0]; exact ((Below.refl _ _).alloc (Nat.le_refl _) _).alloc (by simp) _
  have hzW : W0.heap.size = w.heap.size + 2 := by rw [hW0]; simp
  have hX0 : W0.heap[w.heap.size + 1]? = some (grB (.slice none 0 0) (.slice none 0 0) (.slice none 0 0) 0 0) := by
    rw [hW0]
    have := (MapKept.heap_alloc (w.alloc (.cells #[.slice ao m.vars.length ac, .slice ro m.rules.length rc, .slice po ps.length pc, .slice fo l.length fc] 34)) (.cells #[.slice none 0 0, .int .i64 0, .slice none 0 0, .slice none 0 0, .int .i64 0] 53)).1
    rw [World.size_alloc] at this
    exact this
  have hB0 : 0 < W0.heap.size := Nat.lt_of_lt_of_le hB hbW.size
  have hT0 := hT.below hbW hB
  have hV0 := hV.below hbW
  have hsv := surveyOf_ok _ _ _ _ m ps l W0 hB0 hT0 hV0 hk
  have HFin : Hid (∀ w1, Below W0.heap.size W0 w1 → (w1.cell? ⟨w.heap.size + 1, 0, none⟩ = some (.slice none 0 0) ∧ w1.cell? ⟨w.heap.size + 1, 1, none⟩ = some (.int .i64 0) ∧ w1.cell? ⟨w.heap.size + 1, 2, none⟩ = some (.slice none 0 0) ∧ w1.cell? ⟨w.heap.size + 1, 3, none⟩ = some (.slice none 0 0) ∧ w1.cell? ⟨w.heap.size + 1, 4, none⟩ = some (.int .i64 0)) ∧ (∀ i, w1.frozen? ⟨w.heap.size + 1, i, none⟩ = false) ∧ TyB w1 (w.heap.size + 1) 53 ∧ Below w.heap.size w w1) := fun w1 h => by
    have hb := (h.block (w.heap.size + 1) (by omega)).trans hX0
    exact ⟨grB_cells hb, grB_free hb, ⟨_, _, hb⟩, hbW.trans (h.mono hbW.size)⟩
  have HBe : Hid (∀ (w1 : World) (B bs bl : Nat) (ho : Option Addr) (hcp : Nat), Below W0.heap.size W0 w1 → SurvAt w1 B (.slice ao m.vars.length ac) (.slice ro m.rules.length rc) (.slice po ps.length pc) (.slice fo l.length fc) (.slice ho (aheadL l).length hcp) bs bl → Calls Tryz.prog 27 #[.pointer (some ⟨B, 0, none⟩)] w1 fun e w' => ∃ so sc, e = .returned (.tuple #[.slice so (begL m ps l).length sc, .int .i64 0]) ∧ Below w1.heap.size w1 w' ∧ Hid (SpO w' w1.heap.size (.slice so (begL m ps l).length sc) (begL m ps l))) := fun w1 B bs bl ho hcp h hs => begin_any B _ _ _ _ m ps l ho hcp bs bl w1 (Nat.lt_of_lt_of_le hB0 h.size) (hT0.below h hB0) (hV0.below h) hk hs
  have HSt := (show Hid _ from fun (w1 w2 : World) (n : Nat) (ho : Option Addr) (hc : Nat) (so : Option Addr) (sc : Nat) => ex_start W0 w1 w2 n (.slice ao m.vars.length ac) (.slice ro m.rules.length rc) (.slice po ps.length pc) (.slice fo l.length fc) m ps l ho hc so sc hk)
  have HRd := (show Hid _ from fun (wr : World) (base A lm B bs bl k : Nat) (ho : Option Addr) (hc : Nat) (sv nv tv : Value) => ex_round W0 wr base A lm B bs bl k (.slice ao m.vars.length ac) (.slice ro m.rules.length rc) (.slice po ps.length pc) (.slice fo l.length fc) m ps l ho hc ((begL m ps l).length : Nat) ((aheadL l).length : Nat) sv nv tv hB0 hT0 hV0 hk)
  have HP0 : Hid ((∀ p ∈ xpP m ps l 0, spOk m l p) ∧ (xpP m ps l 0).length ≤ 20000) := ⟨xpP_zero hk, by
    have h1 := (plTo_length (begL m ps l) []).2
    have h2 := begL_len hk
    have e : xpP m ps l 0 = plTo [] (begL m ps l) := rfl
    rw [e]
    simp at h1
    omega⟩
  have HPn : Hid (∀ k, k < (xpP m ps l k).length → (∀ p ∈ xpP m ps l k, spOk m l p) → ∀ p ∈ xpP m ps l (k + 1), spOk m l p) := fun k h1 h2 => xpP_next hk h1 h2
  have HK : Hid (tkcode m ps l = 0) := hk
  have hbn := begL_len hk
  have han := (lcode_zero (tk_zero hk).2).2.2.2.2
  unfold SurvPost at hsv
  clear hV hT hV0 hT0 hk
  generalize hbl : (begL m ps l).length = bn at *
  generalize hal : (aheadL l).length = an at *
  generalize m.vars.length = vn at *
  generalize m.rules.length = rn at *
  generalize ps.length = pn at *
  generalize l.length = fn at *
  have hmm := @run_makeMap Tryz.prog
  go_enter Tryz.func13, Tryz.ntmps13
  go_upto_region 8 with (first | (go_at_call 24; rw [← hW0]; refine hsv.mono ?_; rintro e w1 ⟨n, ho, hcp, rfl, hb1, hn1, _, HS, HO, HM⟩; have hbe := HBe.out w1 _ _ _ _ _ hb1 HS.out) | (go_at_call 27; refine hbe.mono ?_; rintro e w2 ⟨so, sc, rfl, hb2, HSp⟩; have hst := HSt.out w1 w2 n ho hcp so sc hb1 hn1 HS.out HO.out HM.out hb2 HSp.out; have x4 := (HS.out.later hb2).c4))
  go_wp2_with (first | (go_at_call 28; refine hst.mono ?_; rintro e w3 ⟨v3, sv3, rfl, HX3⟩))
  generalize hA : w2.heap.size + 1 = A at *
  generalize hlm : w2.heap.size = lm at *
  generalize hBn : n + 2 = B at *
  generalize hbs : n + 1 = bl at *
  clear hst hsv hbe HSt HBe HS HO HM HSp x4 hb1 hb2 hmm hlm
  go_loopw [8] (fun i wr => ∃ k pk : Nat, i = .int .i64 k ∧ k ≤ pk ∧ pk ≤ 20000 ∧ Hid ((xpP m ps l k).length = pk ∧ (∀ p ∈ xpP m ps l k, spOk m l p) ∧ ∀ j, j < k → j < (xpP m ps l j).length) ∧ ∃ vo vc nv tv, Hid (ExW W0 wr lm A lm B n bl (k * 300001) (.slice ao vn ac) (.slice ro rn rc) (.slice po pn pc) (.slice fo fn fc) m ps l ho hcp (xpP m ps l k) (xpN m ps l k) (xpT m ps l k) (bn : Nat) (an : Nat) (.slice vo pk vc) nv tv)) (fun i _ => 20001 - (intOf i).toNat)
  case atStart =>
    obtain ⟨vo, vc, e⟩ := HX3.out.tl.sp.shape
    refine ⟨0, (xpP m ps l 0).length, rfl, Nat.zero_le _, HP0.out.2, ⟨rfl, HP0.out.1, fun j hj => by omega⟩, vo, vc, .slice none 0 0, .slice none 0 0, ?_⟩
    rw [← e]
    exact HX3.out
  case round =>
    obtain ⟨k, pk, rfl, hkp, hpk, HK2, vo, vc, nv, tv, HX⟩ := hrel
    obtain ⟨a0, a1, a2, a3, a4, a5⟩ := atB_cells HX.out.tl.box
    by_cases hlt : k < pk
    · have hki : (k : Int) < (pk : Int) := by omega
      have hlt2 : k < (xpP m ps l k).length := by rw [HK2.out.1]; exact hlt
      obtain ⟨b, off, rfl, _, c0, c1⟩ := HX.out.tl.sp.v.get hlt2
      have hrd := HRd.out wr lm A lm B n bl k ho hcp _ nv tv HX.out hlt2 (by rw [HK2.out.1]; exact hpk) HK2.out.2.1
      have HKn : Hid ((∀ p ∈ xpP m ps l (k + 1), spOk m l p) ∧ ∀ j, j < k + 1 → j < (xpP m ps l j).length) := ⟨HPn.out k hlt2 HK2.out.2.1, fun j hj => by
        by_cases h : j < k
        · exact HK2.out.2.2 j h
        · obtain rfl : j = k := by omega
          exact hlt2⟩
      have e1 : (xpP m ps l k).getD k (0, 0) = xpAt m ps l k := rfl
      rw [e1] at c0 c1
      clear e1 HX HRd hlt2
      generalize xpAt m ps l k = s at *
      obtain ⟨x, y⟩ := s
      simp only at c0 c1 hrd
      by_cases hfull : 20000 < (xpP m ps l (k + 1)).length
      · rw [if_pos hfull] at hrd
        have HFu : Hid (ExFull m ps l) := ⟨k, fun j hj => HKn.out.2 j (by omega), hfull⟩
        clear hfull HKn HK2
        go_wp2_with (first | (go_at_call 29; refine hrd.mono ?_; rintro e w4 ⟨rfl, sv4, nv4, tv4, HX4⟩; obtain ⟨⟨x0, x1, x2, x3, x4⟩, xf, _, hbw⟩ := HFin.out w4 HX4.out.su.bel; have f0 := xf 0; have f1 := xf 1; have f2 := xf 2; have f3 := xf 3; have f4 := xf 4))
        have hbF : Below w.heap.size w (((((w4.setCell ⟨w.heap.size + 1, 0, none⟩ (.slice none 0 0)).setCell ⟨w.heap.size + 1, 1, none⟩ (.int .i64 0)).setCell ⟨w.heap.size + 1, 2, none⟩ (.slice none 0 0)).setCell ⟨w.heap.size + 1, 3, none⟩ (.slice none 0 0)).setCell ⟨w.heap.size + 1, 4, none⟩ (.int .i64 0)) := hbw.trans ((chg_box w4 (w.heap.size + 1) _ _ _ _ _).below (fun i e => by omega) (by have := hbw.size; omega))
        refine bodyPost_ret (v := .tuple #[.agg #[.slice none 0 0, .int .i64 0, .slice none 0 0, .slice none 0 0, .int .i64 0], .int .i64 12]) ?_ rfl (.inr (.inl ⟨HK.out, HFu.out, rfl, hbF⟩))
        simp [results, Tryz.results13, go_sem, x0, x1, x2, x3, x4]
      · rw [if_neg hfull] at hrd
        have HLe : Hid ((xpP m ps l (k + 1)).length ≤ 20000 ∧ pk ≤ (xpP m ps l (k + 1)).length) := ⟨by omega, by
          rw [← HK2.out.1]
          exact (exS_pre (begL m ps l) (xpBh m ps l) k).length_le⟩
        clear hfull HK2
        go_wp2_with (first | (go_at_call 29; refine hrd.mono ?_; rintro e w4 ⟨rfl, sv4, nv4, tv4, HX4⟩))
        go_roundw
        case rel =>
          obtain ⟨vo4, vc4, e⟩ := HX4.out.tl.sp.shape
          refine ⟨k + 1, (xpP m ps l (k + 1)).length, by go_num, by have := HLe.out.2; omega, HLe.out.1, ⟨rfl, HKn.out⟩, vo4, vc4, nv4, tv4, ?_⟩
          rw [← e]
          exact HX4.out
        case measure => simp [intOf]; omega
    · obtain rfl : k = pk := by omega
      obtain ⟨⟨x0, x1, x2, x3, x4⟩, xf, hty, hbw⟩ := HFin.out wr HX.out.su.bel
      have f0 := xf 0
      have f1 := xf 1
      have f2 := xf 2
      have f3 := xf 3
      have f4 := xf 4
      have HDn : Hid (ExDone m ps l k) := ⟨HK2.out.1, hpk, HK2.out.2.2, HK2.out.2.1⟩
      have HG : Hid (GrX wr w.heap.size m ps l k (.slice vo k vc) nv tv) := by
        have hle : w.heap.size ≤ lm := by have := HX.out.lo.1; have := hbW.size; omega
        exact ⟨owns_mono HX.out.tl.sp hle, HX.out.tl.nx.mono hle, owns_mono HX.out.tl.st hle⟩
      obtain ⟨no, nn, nc, rfl⟩ : ∃ no nn nc, nv = .slice no nn nc := by
        obtain ⟨us, h1, _⟩ := HX.out.tl.nx
        obtain ⟨x, y, e⟩ := owns_slice h1
        exact ⟨_, _, _, e⟩
      obtain ⟨xo, xn, xc, rfl⟩ : ∃ xo xn xc, tv = .slice xo xn xc := by
        obtain ⟨x, y, e⟩ := owns_slice HX.out.tl.st
        exact ⟨_, _, _, e⟩
      have HBF : Hid (∀ w8, Chg (fun i => i = w.heap.size + 1) wr w8 → Below w.heap.size w w8 ∧ GrX w8 w.heap.size m ps l k (.slice vo k vc) (.slice no nn nc) (.slice xo xn xc)) := fun w8 h => ⟨hbw.trans (h.below (fun i e => by omega) (by have := hbw.size; omega)), HG.out.chg h hty⟩
      clear HX HK2 HRd HG hty
      go_wp2_with fail
      obtain ⟨r1, r2⟩ := HBF.out _ (chg_box wr (w.heap.size + 1) _ _ _ _ _)
      refine bodyPost_ret (v := .tuple #[.agg #[.slice vo k vc, .int .i64 (bn : Nat), .slice no nn nc, .slice xo xn xc, .int .i64 (an : Nat)], .int .i64 0]) ?_ rfl (.inl ⟨HK.out, k, HDn.out, _, _, _, rfl, r1, r2⟩)
      simp [results, Tryz.results13, go_sem, x0, x1, x2, x3, x4]
set_option maxRecDepth 20000 in
/-- THE CONTRACT OF product.Explore. -/
theorem explore_any (va vr pv fv : Value) (m : Mo) (ps : List (List (Int × Int))) (l : List (Int × Int)) (w : World) (hB : 0 < w.heap.size) (hT : TabAt w) (hV : TaskV w va vr pv fv m ps l) :
    Calls Tryz.prog 13 #[.agg #[va, vr, pv, fv]] w (ExAns w m ps l) := by
  by_cases hk : tkcode m ps l = 0
  · exact explore_ok va vr pv fv m ps l w hB hT hV hk
  · exact explore_bad va vr pv fv m ps l w hB hT hV hk
end Go.Proofs.YtafbnmiipfkohaaGreatDoor

/-
  The walk of the law ExploreYes.
-/
namespace Go.Proofs.YtafbnmiipfkohaaGreatDoor
open Go.ChangeShapes Go.WideShapes Go.ChangeAt Go.RowKit Go.Deep Go.Maps
open Terms Tm

/-- the box of a task. -/
def tkB (va vr pv fv : Value) : Obj := .cells #[va, vr, pv, fv] 34 (0, 0)
set_option maxRecDepth 20000 in
theorem tkB_cells {w : World} {X : Nat} {va vr pv fv : Value} (hb : w.heap[X]? = some (tkB va vr pv fv)) : w.cell? ⟨X, 0, none⟩ = some va ∧ w.cell? ⟨X, 1, none⟩ = some vr ∧ w.cell? ⟨X, 2, none⟩ = some pv ∧ w.cell? ⟨X, 3, none⟩ = some fv := by
  unfold tkB at hb
  refine ⟨?_, ?_, ?_, ?_⟩ <;> simp [World.cell?, hb]
set_option maxRecDepth 20000 in
theorem tkB_free {w : World} {X : Nat} {va vr pv fv : Value} (hb : w.heap[X]? = some (tkB va vr pv fv)) (i : Nat) : w.frozen? ⟨X, i, none⟩ = false := by
  unfold tkB at hb
  simp [World.frozen?, hb]
set_option maxRecDepth 20000 in
theorem tkB_set {w : World} {X : Nat} {va vr pv fv : Value} (hb : w.heap[X]? = some (tkB va vr pv fv)) (v : Value) : (w.setCell ⟨X, 3, none⟩ v).heap[X]? = some (tkB va vr pv v) := by
  unfold tkB at *
  simp [World.setCell, Array.getElem?_modify, hb]
/-- a task in a box, with another formula. -/
structure TkAt (w1 wx : World) (X : Nat) (va vr pv : Value) (fo : Option Addr) (fn fc : Nat) (m : Mo) (l : List (Int × Int)) : Prop where
  bel : Below w1.heap.size w1 wx
  box : wx.heap[X]? = some (tkB va vr pv (.slice fo fn fc))
  tk : TaskV wx va vr pv (.slice fo fn fc) m propsL l
  hX : w1.heap.size ≤ X
section
variable {w1 wx w' : World} {X : Nat} {va vr pv : Value} {fo : Option Addr} {fn fc : Nat} {m : Mo} {l : List (Int × Int)}
set_option maxRecDepth 20000 in
theorem TkAt.below (h : TkAt w1 wx X va vr pv fo fn fc m l) (hb : Below wx.heap.size wx w') : TkAt w1 w' X va vr pv fo fn fc m l := by
  have hlt : X < wx.heap.size := (Array.getElem?_eq_some_iff.1 h.box).1
  exact ⟨h.bel.trans (hb.mono h.bel.size), (hb.block X hlt).trans h.box, h.tk.below hb, h.hX⟩
set_option maxRecDepth 20000 in
/-- another formula is laid there. -/
theorem TkAt.set {ko : Option Addr} {kn kc : Nat} {l' : List (Int × Int)} (h : TkAt w1 wx X va vr pv fo fn fc m l) (h0 : TaskV w1 va vr pv (.slice fo fn fc) m propsL l ∨ ∃ fv l0, TaskV w1 va vr pv fv m propsL l0) (hO : OpsV wx (.slice ko kn kc) l') : TkAt w1 (wx.setCell ⟨X, 3, none⟩ (.slice ko kn kc)) X va vr pv ko kn kc m l' := by
  have hb : Below w1.heap.size w1 (wx.setCell ⟨X, 3, none⟩ (.slice ko kn kc)) := h.bel.setCell (p := ⟨X, 3, none⟩) h.hX _
  have hO2 := OpsV.setBox hO (tkB_cells h.box).2.2.2 (.slice ko kn kc)
  have hT : ∃ fv l0, TaskV w1 va vr pv fv m propsL l0 := by
    rcases h0 with h0 | h0
    · exact ⟨_, _, h0⟩
    · exact h0
  obtain ⟨fv, l0, hT⟩ := hT
  have hT2 := hT.below hb
  exact ⟨hb, tkB_set h.box _, ⟨hT2.mo, hT2.ps, hO2⟩, h.hX⟩
end

set_option maxHeartbeats 6400000 in
set_option maxRecDepth 20000 in
theorem exploreYes_walk (c0 c1 c2 c3 c4 c5 c6 : Value) (a b : Vr) (rawv : Value) (rs : List (Int × Int)) (w : World) (hB : 0 < w.heap.size) (hT : TabAt w) (hG : GV a b) (hR : Raws w w.heap.size rawv rs)
    (hmd : ∀ w', Below w.heap.size w w' → Calls Tryz.prog 18 #[.agg #[c0, c1, c2, c3, c4, c5, c6]] w' fun e w2 => ∃ va vr, e = .returned (.agg #[va, vr]) ∧ Below w'.heap.size w' w2 ∧ GModel w2 va vr [a, b]) :
    Calls Tryz.prog 4 #[.agg #[c0, c1, c2, c3, c4, c5, c6], rawv] w fun e w' => e = .returned (.bool true) ∧ Below w.heap.size w w' := by
  have hA1 : Below w.heap.size w (w.alloc (.cells #[c0, c1, c2, c3, c4, c5, c6] 25)) := (Below.refl _ _).alloc (Nat.le_refl _) _
  have htk := taskFn_any c0 c1 c2 c3 c4 c5 c6 a b rawv rs 0 _ hG (by decide) (hR.up hA1) (fun w' h => hmd w' (hA1.trans (h.mono hA1.size)))
  have hspan : 1 ≤ vspan a * vspan b ∧ vspan a * vspan b ≤ 16 := by
    have h1 : 1 ≤ vspan a ∧ vspan a ≤ 4 := by have := hG.a2; have := hG.a3; unfold vspan; omega
    have h2 : 1 ≤ vspan b ∧ vspan b ≤ 4 := by have := hG.b2; have := hG.b3; unfold vspan; omega
    obtain ⟨x1, x2⟩ := h1
    obtain ⟨y1, y2⟩ := h2
    generalize vspan a = x at *
    generalize vspan b = y at *
    rcases (show x = 1 ∨ x = 2 ∨ x = 3 ∨ x = 4 by omega) with rfl | rfl | rfl | rfl <;> omega
  obtain ⟨ra, rn0, rc0, hra⟩ : ∃ a n c, rawv = .slice a n c := by obtain ⟨⟨a, c, h, _⟩, _, _⟩ := hR; exact ⟨_, _, _, h⟩
  subst hra
  -- the two explorings
  have HE1 : Hid (∀ (w' : World) (va vr pv fv : Value) (m : Mo) (l : List (Int × Int)), Below w.heap.size w w' → KTaskOk m l 0 → l.length ≤ 17 → l ≠ [] → TaskV w' va vr pv fv m propsL (yesF l) → Calls Tryz.prog 13 #[.agg #[va, vr, pv, fv]] w' fun e w2 => ∃ so sc no nn nc xo xn xc, e = .returned (.tuple #[.agg #[.slice so 0 sc, .int .i64 0, .slice no nn nc, .slice xo xn xc, .int .i64 0], .int .i64 0]) ∧ Below w'.heap.size w' w2) := fun w' va vr pv fv m l h hk hl hne hv => by
    have hk2 := (yes_ok hk hl).code
    refine (explore_any va vr pv fv m propsL (yesF l) w' (Nat.lt_of_lt_of_le hB h.size) (hT.below h hB) hv).mono fun e w2 hx => ?_
    have h0 : xpP m propsL (yesF l) 0 = [] := by
      show plTo [] (begL m propsL (yesF l)) = []
      rw [yes_beg hk hl hne]
      rfl
    rcases hx with ⟨_, K, ⟨d1, d2, d3, d4⟩, sv, nv, tv, e1, h2, HG⟩ | ⟨_, ⟨k, f1, _⟩, _, _⟩ | ⟨h1, _, _⟩
    · have hK : K = 0 := by
        rcases Nat.eq_zero_or_pos K with h | h
        · exact h
        · have := d3 0 h
          rw [h0] at this
          simp at this
      subst hK
      obtain ⟨so, sc, rfl⟩ := HG.out.1.shape
      rw [h0] at e1
      rw [yes_beg hk hl hne, (ba_ahead (yes_ok hk hl)).1] at e1
      obtain ⟨us, n1, _⟩ := HG.out.2.1
      obtain ⟨no, nc, rfl⟩ := owns_slice n1
      obtain ⟨xo, xc, rfl⟩ := owns_slice HG.out.2.2
      exact ⟨so, sc, _, _, _, _, _, _, e1, h2⟩
    · have := f1 0 (Nat.zero_le _)
      rw [h0] at this
      simp at this
    · exact absurd hk2 h1
  have HE2 : Hid (∀ (w' : World) (va vr pv fv : Value) (m : Mo) (l : List (Int × Int)), Below w.heap.size w w' → KTaskOk m l 0 → m.vars = [a, b] → l.length ≤ 17 → l ≠ [] → TaskV w' va vr pv fv m propsL ((10, 0) :: yesF l) → Calls Tryz.prog 13 #[.agg #[va, vr, pv, fv]] w' fun e w2 => ∃ so sn sc no nn nc xo xn xc, e = .returned (.tuple #[.agg #[.slice so sn sc, .int .i64 1, .slice no nn nc, .slice xo xn xc, .int .i64 0], .int .i64 0]) ∧ Below w'.heap.size w' w2 ∧ 1 ≤ sn) := fun w' va vr pv fv m l h hk hvars hl hne hv => by
    have hko := (yes_ok hk hl).not (by simp [yesF]; omega)
    have hk2 := hko.code
    refine (explore_any va vr pv fv m propsL ((10, 0) :: yesF l) w' (Nat.lt_of_lt_of_le hB h.size) (hT.below h hB) hv).mono fun e w2 hx => ?_
    have h0 : xpP m propsL ((10, 0) :: yesF l) 0 = [(begC m, 0)] := by
      show plTo [] (begL m propsL ((10, 0) :: yesF l)) = _
      rw [no_beg hk hl hne]
      rfl
    rcases hx with ⟨_, K, ⟨d1, d2, d3, d4⟩, sv, nv, tv, e1, h2, HG⟩ | ⟨_, hf, _, _⟩ | ⟨h1, _, _⟩
    · obtain ⟨so, sc, rfl⟩ := HG.out.1.shape
      have hle : 1 ≤ (xpP m propsL ((10, 0) :: yesF l) K).length := by
        have := (exS_le (begL m propsL ((10, 0) :: yesF l)) (xpBh m propsL ((10, 0) :: yesF l)) (Nat.zero_le K)).length_le
        have e0 : exS (begL m propsL ((10, 0) :: yesF l)) (xpBh m propsL ((10, 0) :: yesF l)) 0 = [(begC m, 0)] := h0
        rw [e0] at this
        exact this
      rw [no_beg hk hl hne, (ba_ahead (yes_ok hk hl)).2] at e1
      obtain ⟨us, n1, _⟩ := HG.out.2.1
      obtain ⟨no, nc, rfl⟩ := owns_slice n1
      obtain ⟨xo, xc, rfl⟩ := owns_slice HG.out.2.2
      exact ⟨so, _, sc, _, _, _, _, _, _, e1, h2, hle⟩
    · refine absurd hf (xp_few (P := (vspan a * vspan b).toNat) hk2 ?_ ?_)
      · rw [hvars]
        show prodTo [a, b] 2 = _
        rw [prod_two]
        omega
      · rw [(ba_ahead (yes_ok hk hl)).2]
        omega
    · exact absurd hk2 h1
  have HJ1 : Hid (∀ (w' : World) (g : Nat) (fo : Option Addr) (fn fc : Nat) (l : List (Int × Int)), w'.cell? ⟨g, 0, none⟩ = some (.slice fo fn fc) → OpsV w' (.slice fo fn fc) l → l.length = fn → l ≠ [] → fn ≤ 60 → Calls Tryz.prog 12 #[.int .i64 10, .slice (some ⟨g, 0, none⟩) 1 1] w' fun e w2 => ∃ jo jc, e = .returned (.slice jo (fn + 1) jc) ∧ Below w'.heap.size w' w2 ∧ Hid (OpsV w2 (.slice jo (fn + 1) jc) ((10, 0) :: l))) := fun w' g fo fn fc l h0 h1 h2 h3 h4 =>
    (joined1 10 g (.slice fo fn fc) l w' h0 (by omega) h3 h1).mono fun e w2 ⟨x, c, g1, g2, g3⟩ => by
      rw [List.length_cons, h2] at g1 g3
      exact ⟨x, c, g1, g2, g3⟩
  have HJ2 : Hid (∀ (w' : World) (g : Nat) (fo jo : Option Addr) (fn fc jc : Nat) (l : List (Int × Int)), w'.cell? ⟨g, 0, none⟩ = some (.slice fo fn fc) → w'.cell? ⟨g, 1, none⟩ = some (.slice jo (fn + 1) jc) → OpsV w' (.slice fo fn fc) l → OpsV w' (.slice jo (fn + 1) jc) ((10, 0) :: l) → l.length = fn → l ≠ [] → fn ≤ 17 → Calls Tryz.prog 12 #[.int .i64 9, .slice (some ⟨g, 0, none⟩) 2 2] w' fun e w2 => ∃ ko kc, e = .returned (.slice ko (fn + (fn + 1) + 1) kc) ∧ Below w'.heap.size w' w2 ∧ Hid (OpsV w2 (.slice ko (fn + (fn + 1) + 1) kc) (yesF l))) := fun w' g fo jo fn fc jc l h0 h0' h1 h1' h2 h3 h4 =>
    (joined2 9 g (.slice fo fn fc) (.slice jo (fn + 1) jc) l ((10, 0) :: l) w' h0 h0' (by omega) (by simp; omega) h3 (by simp) h1 h1').mono fun e w2 ⟨x, c, g1, g2, g3⟩ => by
      rw [List.length_cons, List.length_append, List.length_cons, h2] at g1 g3
      exact ⟨x, c, g1, g2, g3⟩
  clear hmd hR hT hspan
  have tk1 := True.intro
  have tk2 := True.intro
  go_enter Tryz.func4, Tryz.ntmps4
  go_upto_region 2 with (first | (go_at_call 6; refine htk.mono ?_; rintro e w1 ⟨ao, ac, ro, rn, rc, pb, fo, fn, fc, m, l, mm, rfl, hb1, HV, HK, hmm, hfn⟩))
  have hbw1 := hA1.trans (hb1.mono hA1.size)
  obtain rfl : mm = 0 := by omega
  obtain ⟨hok, hvars, hfl, hne⟩ := HK.out
  have HT0 : Hid (TkAt w1 (w1.alloc (.cells #[.slice ao 2 ac, .slice ro rn rc, .slice (some ⟨pb, 0, none⟩) 3 3, .slice fo fn fc] 34)) w1.heap.size (.slice ao 2 ac) (.slice ro rn rc) (.slice (some ⟨pb, 0, none⟩) 3 3) fo fn fc m l) := by
    have hb : Below w1.heap.size w1 (w1.alloc (.cells #[.slice ao 2 ac, .slice ro rn rc, .slice (some ⟨pb, 0, none⟩) 3 3, .slice fo fn fc] 34)) := (Below.refl _ _).alloc (Nat.le_refl _) _
    exact ⟨hb, (MapKept.heap_alloc w1 _).1, HV.out.below hb, Nat.le_refl _⟩
  have HTs : Hid (∃ fv l0, TaskV w1 (.slice ao 2 ac) (.slice ro rn rc) (.slice (some ⟨pb, 0, none⟩) 3 3) fv m propsL l0) := ⟨_, _, HV.out⟩
  have HE1' : Hid (∀ (w' : World) (fo : Option Addr) (fn fc : Nat), TkAt w1 w' w1.heap.size (.slice ao 2 ac) (.slice ro rn rc) (.slice (some ⟨pb, 0, none⟩) 3 3) fo fn fc m (yesF l) → Calls Tryz.prog 13 #[.agg #[.slice ao 2 ac, .slice ro rn rc, .slice (some ⟨pb, 0, none⟩) 3 3, .slice fo fn fc]] w' fun e w2 => ∃ so sc no nn nc xo xn xc, e = .returned (.tuple #[.agg #[.slice so 0 sc, .int .i64 0, .slice no nn nc, .slice xo xn xc, .int .i64 0], .int .i64 0]) ∧ Below w'.heap.size w' w2) := fun w' fo2 fn2 fc2 h => HE1.out w' _ _ _ _ m l (hbw1.trans (h.bel.mono hbw1.size)) hok (by omega) hne h.tk
  have HE2' : Hid (∀ (w' : World) (fo : Option Addr) (fn fc : Nat), TkAt w1 w' w1.heap.size (.slice ao 2 ac) (.slice ro rn rc) (.slice (some ⟨pb, 0, none⟩) 3 3) fo fn fc m ((10, 0) :: yesF l) → Calls Tryz.prog 13 #[.agg #[.slice ao 2 ac, .slice ro rn rc, .slice (some ⟨pb, 0, none⟩) 3 3, .slice fo fn fc]] w' fun e w2 => ∃ so sn sc no nn nc xo xn xc, e = .returned (.tuple #[.agg #[.slice so sn sc, .int .i64 1, .slice no nn nc, .slice xo xn xc, .int .i64 0], .int .i64 0]) ∧ Below w'.heap.size w' w2 ∧ 1 ≤ sn) := fun w' fo2 fn2 fc2 h => HE2.out w' _ _ _ _ m l (hbw1.trans (h.bel.mono hbw1.size)) hok hvars (by omega) hne h.tk
  have HLn : Hid (l.length = fn ∧ l ≠ []) := ⟨hfl, hne⟩
  have HYl : Hid ((yesF l).length = fn + (fn + 1) + 1 ∧ yesF l ≠ []) := ⟨by rw [← hfl]; simp [yesF], by simp [yesF]⟩
  clear HE1 HE2 HK hok hvars hfl hne HV htk hb1 hG
  generalize w1.alloc (.cells #[.slice ao 2 ac, .slice ro rn rc, .slice (some ⟨pb, 0, none⟩) 3 3, .slice fo fn fc] 34) = W1 at *
  have hx3 := (tkB_cells HT0.out.box).2.2.2
  have hbA : Below W1.heap.size W1 (W1.drew.alloc (.cells #[.slice fo fn fc] 32)) := ((Below.refl _ _).drew).alloc (Nat.le_refl _) _
  have hx3A := (tkB_cells (HT0.out.below hbA).box).2.2.2
  have hj1 := HJ1.out (W1.drew.alloc (.cells #[.slice fo fn fc] 32)) W1.heap.size fo fn fc l (by simp [go_sem]) (HT0.out.below hbA).tk.fo HLn.out.1 HLn.out.2 (by omega)
  have HJ2' : Hid (∀ (w2 : World) (jo : Option Addr) (jc : Nat), Below (W1.drew.alloc (.cells #[.slice fo fn fc] 32)).heap.size (W1.drew.alloc (.cells #[.slice fo fn fc] 32)) w2 → OpsV w2 (.slice jo (fn + 1) jc) ((10, 0) :: l) → w2.cell? ⟨w1.heap.size, 3, none⟩ = some (.slice fo fn fc) ∧ Calls Tryz.prog 12 #[.int .i64 9, .slice (some ⟨w2.heap.size, 0, none⟩) 2 2] (w2.alloc (.cells #[.slice fo fn fc, .slice jo (fn + 1) jc] 32)) fun e w3 => ∃ ko kc, e = .returned (.slice ko (fn + (fn + 1) + 1) kc) ∧ (w3.cell? ⟨w1.heap.size, 3, none⟩ = some (.slice fo fn fc) ∧ w3.frozen? ⟨w1.heap.size, 3, none⟩ = false) ∧ Hid (TkAt w1 (w3.setCell ⟨w1.heap.size, 3, none⟩ (.slice ko (fn + (fn + 1) + 1) kc)) w1.heap.size (.slice ao 2 ac) (.slice ro rn rc) (.slice (some ⟨pb, 0, none⟩) 3 3) ko (fn + (fn + 1) + 1) kc m (yesF l))) := fun w2 jo jc hb hO => by
    have t2 := (HT0.out.below hbA).below hb
    have hbB : Below w2.heap.size w2 (w2.alloc (.cells #[.slice fo fn fc, .slice jo (fn + 1) jc] 32)) := (Below.refl _ _).alloc (Nat.le_refl _) _
    have t3 := t2.below hbB
    refine ⟨(tkB_cells t2.box).2.2.2, (HJ2.out _ w2.heap.size fo jo fn fc jc l (by simp [go_sem]) (by simp [go_sem]) t3.tk.fo (hO.below hbB) HLn.out.1 HLn.out.2 (by omega)).mono fun e w3 ⟨ko, kc, g1, g2, g3⟩ => ?_⟩
    have t4 := t3.below g2
    exact ⟨ko, kc, g1, ⟨(tkB_cells t4.box).2.2.2, tkB_free t4.box 3⟩, t4.set (.inr HTs.out) g3.out⟩
  generalize hWA : W1.drew.alloc (.cells #[.slice fo fn fc] 32) = WA at *
  clear HJ2 hbA
  go_cut [] (fun wx => ∃ ko kn kc, kn ≤ 40 ∧ Hid (TkAt w1 wx w1.heap.size (.slice ao 2 ac) (.slice ro rn rc) (.slice (some ⟨pb, 0, none⟩) 3 3) ko kn kc m (yesF l) ∧ (yesF l).length = kn))
  case first =>
    go_region_law (first
      | (clear tk1; go_simp; go_at_call 12; refine hj1.mono ?_; rintro e w2 ⟨jo, jc, rfl, hb2, HO2⟩; obtain ⟨x2, hj2⟩ := HJ2'.out w2 jo jc hb2 HO2.out)
      | (clear tk2; go_simp; go_at_call 12; refine hj2.mono ?_; rintro e w3 ⟨ko, kc, rfl, ⟨y0, y1⟩, HT3⟩))
    all_goals go_wp2_with fail
    all_goals go_meet
    all_goals exact ⟨_, _, _, by omega, HT3.out, HYl.out.1⟩
  case rest =>
    obtain ⟨ko, kn, kc, hkn, HT4⟩ := hcut
    clear HT0 hj1 HJ2' hx3 hx3A hWA
    obtain ⟨x0, x1, x2, x3⟩ := tkB_cells HT4.out.1.box
    have he1 := HE1'.out wc ko kn kc HT4.out.1
    have HR4 : Hid (∀ (w5 : World) (so no xo : Option Addr) (sc nn nc xn xc : Nat), Below wc.heap.size wc w5 → (w5.alloc (.cells #[.slice so 0 sc, .int .i64 0, .slice no nn nc, .slice xo xn xc, .int .i64 0] 53)).cell? ⟨w1.heap.size, 3, none⟩ = some (.slice ko kn kc) ∧ Calls Tryz.prog 12 #[.int .i64 10, .slice (some ⟨w5.heap.size + 1, 0, none⟩) 1 1] ((w5.alloc (.cells #[.slice so 0 sc, .int .i64 0, .slice no nn nc, .slice xo xn xc, .int .i64 0] 53)).alloc (.cells #[.slice ko kn kc] 32)) fun e w8 => ∃ jo jc, e = .returned (.slice jo (kn + 1) jc) ∧ (w8.cell? ⟨w1.heap.size, 3, none⟩ = some (.slice ko kn kc) ∧ w8.frozen? ⟨w1.heap.size, 3, none⟩ = false) ∧ Hid (∀ w9, w9 = w8.setCell ⟨w1.heap.size, 3, none⟩ (.slice jo (kn + 1) jc) → (w9.cell? ⟨w1.heap.size, 0, none⟩ = some (.slice ao 2 ac) ∧ w9.cell? ⟨w1.heap.size, 1, none⟩ = some (.slice ro rn rc) ∧ w9.cell? ⟨w1.heap.size, 2, none⟩ = some (.slice (some ⟨pb, 0, none⟩) 3 3) ∧ w9.cell? ⟨w1.heap.size, 3, none⟩ = some (.slice jo (kn + 1) jc)) ∧ Calls Tryz.prog 13 #[.agg #[.slice ao 2 ac, .slice ro rn rc, .slice (some ⟨pb, 0, none⟩) 3 3, .slice jo (kn + 1) jc]] w9 fun e w10 => ∃ so2 sn2 sc2 no2 nn2 nc2 xo2 xn2 xc2, e = .returned (.tuple #[.agg #[.slice so2 sn2 sc2, .int .i64 1, .slice no2 nn2 nc2, .slice xo2 xn2 xc2, .int .i64 0], .int .i64 0]) ∧ 1 ≤ sn2 ∧ (w10.cell? ⟨w5.heap.size, 0, none⟩ = some (.slice so 0 sc) ∧ w10.cell? ⟨w5.heap.size, 1, none⟩ = some (.int .i64 0)) ∧ Below w.heap.size w w10)) := fun w5 so no xo sc nn nc xn xc hb => by
      have t5 := HT4.out.1.below hb
      have hb6 : Below w5.heap.size w5 (w5.alloc (.cells #[.slice so 0 sc, .int .i64 0, .slice no nn nc, .slice xo xn xc, .int .i64 0] 53)) := (Below.refl _ _).alloc (Nat.le_refl _) _
      have t6 := t5.below hb6
      have hb7 : Below (w5.alloc (.cells #[.slice so 0 sc, .int .i64 0, .slice no nn nc, .slice xo xn xc, .int .i64 0] 53)).heap.size (w5.alloc (.cells #[.slice so 0 sc, .int .i64 0, .slice no nn nc, .slice xo xn xc, .int .i64 0] 53)) ((w5.alloc (.cells #[.slice so 0 sc, .int .i64 0, .slice no nn nc, .slice xo xn xc, .int .i64 0] 53)).alloc (.cells #[.slice ko kn kc] 32)) := (Below.refl _ _).alloc (Nat.le_refl _) _
      have t7 := t6.below hb7
      have hXlt : w1.heap.size < w5.heap.size := (Array.getElem?_eq_some_iff.1 t5.box).1
      refine ⟨(tkB_cells t6.box).2.2.2, (HJ1.out _ (w5.heap.size + 1) ko kn kc (yesF l) (by simp [go_sem]) t7.tk.fo HT4.out.2 HYl.out.2 (by omega)).mono fun e w8 ⟨jo, jc, g1, g2, g3⟩ => ?_⟩
      have t8 := t7.below g2
      refine ⟨jo, jc, g1, ⟨(tkB_cells t8.box).2.2.2, tkB_free t8.box 3⟩, fun w9 e9 => ?_⟩
      have t9 : TkAt w1 w9 w1.heap.size (.slice ao 2 ac) (.slice ro rn rc) (.slice (some ⟨pb, 0, none⟩) 3 3) jo (kn + 1) jc m ((10, 0) :: yesF l) := by rw [e9]; exact t8.set (.inr HTs.out) g3.out
      have hg : w9.cell? ⟨w5.heap.size, 0, none⟩ = some (.slice so 0 sc) ∧ w9.cell? ⟨w5.heap.size, 1, none⟩ = some (.int .i64 0) := by
        have hb8 := hb7.trans (g2.mono hb7.size)
        have hz6 : (w5.alloc (.cells #[.slice so 0 sc, .int .i64 0, .slice no nn nc, .slice xo xn xc, .int .i64 0] 53)).heap.size = w5.heap.size + 1 := by simp
        have p0 : w8.cell? ⟨w5.heap.size, 0, none⟩ = some (.slice so 0 sc) := (hb8.cell (p := ⟨w5.heap.size, 0, none⟩) (by show w5.heap.size < _; omega)).trans (by simp [go_sem])
        have p1 : w8.cell? ⟨w5.heap.size, 1, none⟩ = some (.int .i64 0) := (hb8.cell (p := ⟨w5.heap.size, 1, none⟩) (by show w5.heap.size < _; omega)).trans (by simp [go_sem])
        rw [e9]
        exact ⟨(World.cell?_setCell_other _ _ _ _ (by intro e; injection e with e _ _; omega)).trans p0, (World.cell?_setCell_other _ _ _ _ (by intro e; injection e with e _ _; omega)).trans p1⟩
      refine ⟨tkB_cells t9.box, (HE2'.out w9 jo (kn + 1) jc t9).mono fun e w10 ⟨so2, sn2, sc2, no2, nn2, nc2, xo2, xn2, xc2, k1, k2, k3⟩ => ?_⟩
      have hbw9 := hbw1.trans (t9.bel.mono hbw1.size)
      exact ⟨so2, sn2, sc2, no2, nn2, nc2, xo2, xn2, xc2, k1, k3, ⟨(k2.cell (p := ⟨w5.heap.size, 0, none⟩) (World.block_lt_of_cell? _ _ hg.1)).trans hg.1, (k2.cell (p := ⟨w5.heap.size, 1, none⟩) (World.block_lt_of_cell? _ _ hg.2)).trans hg.2⟩, hbw9.trans (k2.mono hbw9.size)⟩
    clear HT4 HE1' HE2' HJ1 HTs HLn HYl
    have tk3 := True.intro
    have tk4 := True.intro
    go_wp2_with (first
      | (clear tk3; go_at_call 13; refine he1.mono ?_; rintro e w5 ⟨so, sc, no, nn, nc, xo, xn, xc, rfl, hb5⟩; obtain ⟨y3, hj4⟩ := HR4.out w5 so no xo sc nn nc xn xc hb5)
      | (go_at_call 12; refine hj4.mono ?_; rintro e w8 ⟨jo, jc, rfl, ⟨z0, z1⟩, HR5⟩; obtain ⟨⟨u0, u1, u2, u3⟩, he2⟩ := HR5.out _ rfl)
      | (clear tk4; go_at_call 13; refine he2.mono ?_; rintro e w10 ⟨so2, sn2, sc2, no2, nn2, nc2, xo2, xn2, xc2, rfl, hsn, ⟨v0, v1⟩, hbF⟩; have hsi : (1 : Int) ≤ (sn2 : Int) := (by omega); have v0' := fun (o : Obj) => (((Below.refl w10.heap.size w10).alloc (Nat.le_refl _) o).cell (p := ⟨w5.heap.size, 0, none⟩) (World.block_lt_of_cell? _ _ v0)).trans v0; have v1' := fun (o : Obj) => (((Below.refl w10.heap.size w10).alloc (Nat.le_refl _) o).cell (p := ⟨w5.heap.size, 1, none⟩) (World.block_lt_of_cell? _ _ v1)).trans v1; clear v0 v1))
    go_ret
    exact ⟨by first | rfl | simp [hsi], hbF.alloc hbF.size _⟩
end Go.Proofs.YtafbnmiipfkohaaGreatDoor
