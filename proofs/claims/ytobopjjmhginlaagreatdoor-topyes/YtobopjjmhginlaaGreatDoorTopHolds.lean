import Derived.Test.YtobopjjmhginlaaGreatDoorKTask
import Derived.Test.YtobopjjmhginlaaGreatDoorEyM
import Derived.Test.YtobopjjmhginlaaGreatDoorVCheck
import Derived.Test.YtobopjjmhginlaaGreatDoorVdM5
import Derived.Test.YtobopjjmhginlaaGreatDoorJoined2
namespace Go.Proofs.YtobopjjmhginlaaGreatDoor
open Go.ChangeShapes Go.WideShapes Go.ChangeAt Go.RowKit Go.Deep
open Terms Tm
set_option maxHeartbeats 6400000
set_option maxRecDepth 20000
theorem PropsFn_any (w : World) : Calls Tryz.prog 20 #[] w fun e w2 => ∃ pb, e = .returned (.slice (some ⟨pb, 0, none⟩) 3 3) /\ Below w.heap.size w w2 /\ Hid (TermsV w2 (.slice (some ⟨pb, 0, none⟩) 3 3) propsL) := by
  have hp := propsFn_any w
  go_enter Tryz.func20, Tryz.ntmps20
  go_wp2_with (go_at_call 38; refine hp.mono ?_; rintro e w2 ⟨pb, rfl, hb, hP⟩)
  go_ret
  exact ⟨pb, rfl, hb, hP⟩
theorem Joined1 (kind : Int) (g : Nat) (lv : Value) (l : List (Int × Int)) (w : World) (hc : w.cell? ⟨g, 0, none⟩ = some lv) (hl : l.length <= 60) (hne : l ≠ []) (hV : OpsV w lv l) :
    Calls Tryz.prog 11 #[.int .i64 kind, .slice (some ⟨g, 0, none⟩) 1 1] w fun e w' => ∃ a c, e = .returned (.slice a ((kind, 0) :: l).length c) /\ Below w.heap.size w w' /\ OpsV w' (.slice a ((kind, 0) :: l).length c) ((kind, 0) :: l) := by
  have hp := joined1 kind g lv l w hc hl hne hV; generalize hn : ((kind, 0) :: l : List (Int × Int)).length = n at *; clear hn hV hl
  go_enter Tryz.func11, Tryz.ntmps11
  go_wp2_with (go_at_call 15; refine hp.mono ?_; rintro e w2 ⟨a, c, rfl, hb, hP⟩)
  go_ret
  exact ⟨a, c, rfl, hb, hP⟩
theorem Joined2 (kind : Int) (g : Nat) (lv mv : Value) (l m : List (Int × Int)) (w : World) (hc : w.cell? ⟨g, 0, none⟩ = some lv) (hd : w.cell? ⟨g, 1, none⟩ = some mv) (hl : l.length <= 60) (hm : m.length <= 60) (hne : l ≠ []) (hne2 : m ≠ []) (hV : OpsV w lv l) (hM : OpsV w mv m) :
    Calls Tryz.prog 11 #[.int .i64 kind, .slice (some ⟨g, 0, none⟩) 2 2] w fun e w' => ∃ a c, e = .returned (.slice a ((kind, 0) :: (l ++ m)).length c) /\ Below w.heap.size w w' /\ OpsV w' (.slice a ((kind, 0) :: (l ++ m)).length c) ((kind, 0) :: (l ++ m)) := by
  have hp := joined2 kind g lv mv l m w hc hd hl hm hne hne2 hV hM; generalize hn : ((kind, 0) :: (l ++ m) : List (Int × Int)).length = n at *; clear hn hV hl hm hM
  go_enter Tryz.func11, Tryz.ntmps11
  go_wp2_with (go_at_call 15; refine hp.mono ?_; rintro e w2 ⟨a, c, rfl, hb, hP⟩)
  go_ret
  exact ⟨a, c, rfl, hb, hP⟩
def MdOk (w : World) (c0 c1 c2 c3 c4 c5 c6 : Value) (m : Mo) : Prop := ∀ w', Below w.heap.size w w' -> Calls Tryz.prog 19 #[.agg #[c0, c1, c2, c3, c4, c5, c6]] w' fun e w2 => ∃ ao ac ro rn rc, e = .returned (.agg #[.slice ao 2 ac, .slice ro rn rc]) /\ Below w'.heap.size w' w2 /\ Hid (ModelV w2 (.slice ao 2 ac) (.slice ro rn rc) m /\ mcode m = 0 /\ ∀ j, j < m.rules.length -> (m.rules.getD j ru0).guard ≠ [])
theorem mdOk {w : World} {c0 c1 c2 c3 c4 c5 c6 : Value} {a b : Vr} {rules : List Ru} (hG : GV a b) (h : ∀ w', Below w.heap.size w w' -> Calls Tryz.prog 19 #[.agg #[c0, c1, c2, c3, c4, c5, c6]] w' fun e w2 => ∃ va vr, e = .returned (.agg #[va, vr]) /\ Below w'.heap.size w' w2 /\ GModelR w2 va vr [a, b] rules) : MdOk w c0 c1 c2 c3 c4 c5 c6 ⟨[a, b], rules⟩ := fun w' hb => (h w' hb).mono fun e w2 ⟨va, vr, h1, h2, h3⟩ => by
  obtain ⟨ao, ac, ro, rn, rc, rfl, rfl, _⟩ := h3.gm.shape; obtain ⟨g1, g2, g3⟩ := h3; exact ⟨ao, ac, ro, rn, rc, h1, h2, g1, hG.mcode (by omega) g3, fun j hj => rcode_guard (g3 j hj)⟩
theorem ttask_any (c0 c1 c2 c3 c4 c5 c6 : Value) (m : Mo) (fo : Option Addr) (fn fc : Nat) (l : List (Int × Int)) (w : World) (hM : MdOk w c0 c1 c2 c3 c4 c5 c6 m) (hO : OpsV w (.slice fo fn fc) l) :
    Calls Tryz.prog 13 #[.agg #[c0, c1, c2, c3, c4, c5, c6], .slice fo fn fc] w fun e w' => ∃ ao ac ro rn rc pb, e = .returned (.agg #[.slice ao 2 ac, .slice ro rn rc, .slice (some ⟨pb, 0, none⟩) 3 3, .slice fo fn fc]) /\ Below w.heap.size w w' /\ Hid (TaskV w' (.slice ao 2 ac) (.slice ro rn rc) (.slice (some ⟨pb, 0, none⟩) 3 3) (.slice fo fn fc) m propsL l /\ mcode m = 0) := by
  obtain ⟨W1, hW1⟩ : ∃ W1, W1 = (w.alloc (.cells #[c0, c1, c2, c3, c4, c5, c6] 25)).alloc (.cells #[.slice none 0 0, .slice none 0 0, .slice none 0 0, .slice none 0 0] 51) := ⟨_, rfl⟩
  have hb1 : Below w.heap.size w W1 := by rw [hW1]; exact ((Below.refl _ _).alloc (Nat.le_refl _) _).alloc (by simp) _
  have HBx : Hid (∀ w', Below (w.heap.size + 2) W1 w' -> (w'.cell? ⟨w.heap.size + 1, 0, none⟩ = some (.slice none 0 0) /\ w'.cell? ⟨w.heap.size + 1, 1, none⟩ = some (.slice none 0 0) /\ w'.cell? ⟨w.heap.size + 1, 2, none⟩ = some (.slice none 0 0) /\ w'.cell? ⟨w.heap.size + 1, 3, none⟩ = some (.slice none 0 0)) /\ (w'.frozen? ⟨w.heap.size + 1, 0, none⟩ = false /\ w'.frozen? ⟨w.heap.size + 1, 1, none⟩ = false /\ w'.frozen? ⟨w.heap.size + 1, 2, none⟩ = false /\ w'.frozen? ⟨w.heap.size + 1, 3, none⟩ = false)) := fun w' h => by
    have hlt : w.heap.size + 1 < w.heap.size + 2 := by omega
    refine ⟨⟨?_, ?_, ?_, ?_⟩, ?_, ?_, ?_, ?_⟩
    · exact (h.cell (p := ⟨w.heap.size + 1, 0, none⟩) hlt).trans (by rw [hW1]; simp [go_sem])
    · exact (h.cell (p := ⟨w.heap.size + 1, 1, none⟩) hlt).trans (by rw [hW1]; simp [go_sem])
    · exact (h.cell (p := ⟨w.heap.size + 1, 2, none⟩) hlt).trans (by rw [hW1]; simp [go_sem])
    · exact (h.cell (p := ⟨w.heap.size + 1, 3, none⟩) hlt).trans (by rw [hW1]; simp [go_sem])
    · exact (h.frozen (p := ⟨w.heap.size + 1, 0, none⟩) hlt).trans (by rw [hW1]; simp [go_sem])
    · exact (h.frozen (p := ⟨w.heap.size + 1, 1, none⟩) hlt).trans (by rw [hW1]; simp [go_sem])
    · exact (h.frozen (p := ⟨w.heap.size + 1, 2, none⟩) hlt).trans (by rw [hW1]; simp [go_sem])
    · exact (h.frozen (p := ⟨w.heap.size + 1, 3, none⟩) hlt).trans (by rw [hW1]; simp [go_sem])
  have hz1 : W1.heap.size = w.heap.size + 2 := by rw [hW1]; simp
  have hmo := hM W1 hb1; have HO : Hid (OpsV w (.slice fo fn fc) l) := hO; clear hM hO; subst hW1
  go_enter Tryz.func13, Tryz.ntmps13
  go_wp2_with (first
    | (go_at_call 19; refine hmo.mono ?_; rintro e w2 ⟨ao, ac, ro, rn, rc, rfl, hb2, HM⟩; have hbw2 := hb1.trans (hb2.mono hb1.size); have hpr := PropsFn_any w2)
    | (go_at_call 20; refine hpr.mono ?_; rintro e w3 ⟨pb, rfl, hb3, HP⟩; have hbw3 := hbw2.trans (hb3.mono hbw2.size); have hb24 := hb2.trans (hb3.mono hb2.size); obtain ⟨⟨k0, k1, k2, k3⟩, g0, g1, g2, g3⟩ := HBx.out w3 (hb24.mono (by omega))))
  have hn : NilTo (w.heap.size + 1) w3 ((((w3.setCell ⟨w.heap.size + 1, 0, none⟩ (.slice ao 2 ac)).setCell ⟨w.heap.size + 1, 1, none⟩ (.slice ro rn rc)).setCell ⟨w.heap.size + 1, 2, none⟩ (.slice (some ⟨pb, 0, none⟩) 3 3)).setCell ⟨w.heap.size + 1, 3, none⟩ (.slice fo fn fc)) := by
    refine ⟨by simp, fun i v hv => ?_, fun b hb => ?_⟩
    · have hblk := (hb24.mono (show w.heap.size + 2 <= _ by omega)).block (w.heap.size + 1) (by omega)
      have hx : ((w.alloc (.cells #[c0, c1, c2, c3, c4, c5, c6] 25)).alloc (.cells #[.slice none 0 0, .slice none 0 0, .slice none 0 0, .slice none 0 0] 51)).cell? ⟨w.heap.size + 1, i, none⟩ = some v := by rw [<- hv]; exact (World.cell?_of_block hblk).symm
      have hy := (MapKept.heap_alloc (w.alloc (.cells #[c0, c1, c2, c3, c4, c5, c6] 25)) (.cells #[.slice none 0 0, .slice none 0 0, .slice none 0 0, .slice none 0 0] 51)).1; rw [World.size_alloc] at hy; simp only [World.cell?, hy] at hx
      have hi : i < 4 := by
        rcases Nat.lt_or_ge i 4 with h | h
        · exact h
        · simp [Array.getElem?_eq_none (show (#[Value.slice none 0 0, .slice none 0 0, .slice none 0 0, .slice none 0 0] : Array Value).size <= i from h)] at hx
      rcases (show i = 0 \/ i = 1 \/ i = 2 \/ i = 3 by omega) with rfl | rfl | rfl | rfl <;> simpa using hx.symm
    · rw [RowKit.Below.heap_setCell _ _ _ _ hb, RowKit.Below.heap_setCell _ _ _ _ hb, RowKit.Below.heap_setCell _ _ _ _ hb, RowKit.Below.heap_setCell _ _ _ _ hb]
  obtain ⟨m1, m2, m4⟩ := HM.out
  refine bodyPost_ret (v := .agg #[.slice ao 2 ac, .slice ro rn rc, .slice (some ⟨pb, 0, none⟩) 3 3, .slice fo fn fc]) ?_ rfl ⟨ao, ac, ro, rn, rc, pb, rfl, (((hbw3.setCell (p := ⟨w.heap.size + 1, 0, none⟩) (by simp) _).setCell (p := ⟨w.heap.size + 1, 1, none⟩) (by simp) _).setCell (p := ⟨w.heap.size + 1, 2, none⟩) (by simp) _).setCell (p := ⟨w.heap.size + 1, 3, none⟩) (by simp) _, ⟨⟨(m1.1.below hb3).nilTo hn, (m1.2.below hb3).nilTo m4 hn⟩, HP.out.nilTo (fun j hj => ?_) hn, (HO.out.below hbw3).nilTo hn⟩, m2⟩
  · simp [results, Tryz.results13, go_sem, k0, k1, k2, k3]
  · have hj3 : j < 3 := hj
    rcases (show j = 0 \/ j = 1 \/ j = 2 by omega) with rfl | rfl | rfl <;> simp [propsL]
def Kp (m : Mo) (T : Tm) (b : Bool) : Prop := (b = true ↔ AllKeep m propsL T) /\ tkcode m propsL [(11, 0)] = 0
theorem few_spots {m : Mo} {a b : Vr} {l : List (Int × Int)} {mm : Nat} (hG : GV a b) (hk : KTaskOk m l mm) (hvars : m.vars = [a, b]) : ¬ ExFull m propsL l := by
  have hspan : 1 <= vspan a * vspan b /\ vspan a * vspan b <= 16 := by
    have h1 : 1 <= vspan a /\ vspan a <= 4 := by have := hG.a2; have := hG.a3; unfold vspan; omega
    have h2 : 1 <= vspan b /\ vspan b <= 4 := by have := hG.b2; have := hG.b3; unfold vspan; omega
    obtain ⟨x1, x2⟩ := h1; obtain ⟨y1, y2⟩ := h2; generalize vspan a = x at *; generalize vspan b = y at *
    rcases (show x = 1 \/ x = 2 \/ x = 3 \/ x = 4 by omega) with rfl | rfl | rfl | rfl <;> omega
  have hah : (aheadL l).length = mm := by obtain ⟨T, hT⟩ := hk.fo; exact hT.ahead
  refine xp_few (P := (vspan a * vspan b).toNat) hk.code ?_ ?_
  · rw [hvars]
    show prodTo [a, b] 2 = _
    rw [prod_two]; omega
  · rw [hah]
    have : 2 ^ mm <= 2 ^ 6 := Nat.pow_le_pow_right (by decide) hk.many
    have h3 : (vspan a * vspan b).toNat * 2 ^ mm <= 16 * 64 := Nat.mul_le_mul (by omega) (by omega)
    omega
theorem vcheck_keep (va vr pv fv : Value) (m : Mo) (a b : Vr) (l : List (Int × Int)) (T : Tm) (mm : Nat) (w : World) (hB : 0 < w.heap.size) (hT : TabAt w) (hV : TaskV w va vr pv fv m propsL l) (hG : GV a b) (hvars : m.vars = [a, b]) (hmc : mcode m = 0) (hF : FOk mm l T) (hl : l.length <= 59) (hmm : mm <= 6) :
    Calls Tryz.prog 12 #[.agg #[va, vr, pv, fv]] w fun e w' => ∃ bb so sn sc lo ln lc, e = .returned (.tuple #[.agg #[.bool bb, .slice so sn sc, .slice lo ln lc], .int .i64 0]) /\ Below w.heap.size w w' /\ Hid (Kp m T bb) := by
  have hv2 : m.vars.length = 2 := by rw [hvars]; rfl
  have hK : KTaskOk m l mm := ⟨hmc, hv2, ⟨T, hF⟩, hl, hmm⟩; have hk0 : tkcode m propsL [(11, 0)] = 0 := (KTaskOk.mk hmc hv2 ⟨_, FOk.yes⟩ (by decide) (by decide) : KTaskOk m [(11, 0)] 0).code
  have hgv := good_vals hF; have hz := hF.ends (by omega)
  refine (vcheck_any va vr pv fv m propsL l w hB hT hV).mono fun e w' hx => ?_
  rcases hx with ⟨hk, ⟨K, hD, hfc⟩, h1, h2⟩ | ⟨hk, K, st, lp, A, B, hD, hL, _, _, h1, h2, _⟩ | ⟨hk, hf, _, _⟩ | ⟨hk, _, _⟩
  · exact ⟨true, _, _, _, _, _, _, h1, h2, ⟨fun _ => keep_of_none hF.wf hF.ops hz hgv.1 hgv.2 hk hD (by rw [hfc]; decide), fun _ => rfl⟩, hk0⟩
  · exact ⟨false, _, _, _, _, _, _, h1, h2, ⟨fun h => (by cases h), fun h => absurd h (not_keep hF.wf hF.ops hz hgv.1 hgv.2 hk hD hL)⟩, hk0⟩
  · exact absurd hf (few_spots hG hK hvars)
  · exact absurd hK.code hk
theorem tholds_any (c0 c1 c2 c3 c4 c5 c6 : Value) (m : Mo) (a b : Vr) (fv : Value) (l : List (Int × Int)) (T : Tm) (mm : Nat) (w : World) (hB : 0 < w.heap.size) (hT : TabAt w) (hG : GV a b) (hvars : m.vars = [a, b]) (hM : MdOk w c0 c1 c2 c3 c4 c5 c6 m) (hO : OpsV w fv l) (hF : FOk mm l T) (hl : l.length <= 59) (hmm : mm <= 6) :
    Calls Tryz.prog 9 #[.agg #[c0, c1, c2, c3, c4, c5, c6], fv] w fun e w' => ∃ bb, e = .returned (.tuple #[.bool bb, .bool true]) /\ Below w.heap.size w w' /\ Hid (Kp m T bb) := by
  obtain ⟨fo, fc, rfl, _⟩ := id hO; have hA1 : Below w.heap.size w (w.alloc (.cells #[c0, c1, c2, c3, c4, c5, c6] 25)) := (Below.refl _ _).alloc (Nat.le_refl _) _; have htk := ttask_any c0 c1 c2 c3 c4 c5 c6 m fo l.length fc l _ (fun w' h => hM w' (hA1.trans (h.mono hA1.size))) (hO.below hA1)
  have HVc : Hid (∀ (w' : World) (va vr pv fv : Value), Below w.heap.size w w' -> TaskV w' va vr pv fv m propsL l -> mcode m = 0 -> Calls Tryz.prog 12 #[.agg #[va, vr, pv, fv]] w' fun e w2 => ∃ bb so sn sc lo ln lc, e = .returned (.tuple #[.agg #[.bool bb, .slice so sn sc, .slice lo ln lc], .int .i64 0]) /\ Below w'.heap.size w' w2 /\ Hid (Kp m T bb)) := fun w' va vr pv fv h hv hmc => vcheck_keep va vr pv fv m a b l T mm w' (Nat.lt_of_lt_of_le hB h.size) (hT.below h hB) hv hG hvars hmc hF hl hmm
  clear hM hO hF hT; generalize l.length = fn at *
  go_enter Tryz.func9, Tryz.ntmps9
  go_wp2_with (first
    | (go_at_call 13; refine htk.mono ?_; rintro e w1 ⟨ao, ac, ro, rn, rc, pb, rfl, hb1, HV⟩; have hbw1 := hA1.trans (hb1.mono hA1.size); have hvc := HVc.out w1 _ _ _ _ hbw1 HV.out.1 HV.out.2)
    | (go_at_call 12; refine hvc.mono ?_; rintro e w2 ⟨bb, so, sn, sc, lo, ln, lc, rfl, hb2, HK⟩))
  refine bodyPost_ret (v := .tuple #[.bool bb, .bool true]) ?_ rfl ⟨bb, rfl, (hbw1.trans (hb2.mono hbw1.size)).alloc (Nat.le_trans hbw1.size hb2.size) _, HK⟩
  simp [results, Tryz.results9, go_sem]
def HoldsOk (w : World) (c0 c1 c2 c3 c4 c5 c6 : Value) (m : Mo) : Prop := ∀ (w' : World) (fv : Value) (l : List (Int × Int)) (T : Tm) (mm : Nat), Below w.heap.size w w' -> OpsV w' fv l -> FOk mm l T -> l.length <= 59 -> mm <= 6 -> Calls Tryz.prog 9 #[.agg #[c0, c1, c2, c3, c4, c5, c6], fv] w' fun e w2 => ∃ bb, e = .returned (.tuple #[.bool bb, .bool true]) /\ Below w'.heap.size w' w2 /\ Hid (Kp m T bb)
theorem holdsOk {w : World} {c0 c1 c2 c3 c4 c5 c6 : Value} {a b : Vr} {rules : List Ru} (hB : 0 < w.heap.size) (hT : TabAt w) (hG : GV a b) (h : ∀ w', Below w.heap.size w w' -> Calls Tryz.prog 19 #[.agg #[c0, c1, c2, c3, c4, c5, c6]] w' fun e w2 => ∃ va vr, e = .returned (.agg #[va, vr]) /\ Below w'.heap.size w' w2 /\ GModelR w2 va vr [a, b] rules) : HoldsOk w c0 c1 c2 c3 c4 c5 c6 ⟨[a, b], rules⟩ := fun w' fv l T mm hb hO hF hl hmm =>
  tholds_any c0 c1 c2 c3 c4 c5 c6 ⟨[a, b], rules⟩ a b fv l T mm w' (Nat.lt_of_lt_of_le hB hb.size) (hT.below hb hB) hG rfl (fun w2 h2 => mdOk hG h w2 (hb.trans (h2.mono hb.size))) hO hF hl hmm
end Go.Proofs.YtobopjjmhginlaaGreatDoor
