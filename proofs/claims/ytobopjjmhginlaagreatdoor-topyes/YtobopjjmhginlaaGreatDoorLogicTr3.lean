import Derived.Test.YtobopjjmhginlaaGreatDoorLogicTru2
namespace Go.Proofs.YtobopjjmhginlaaGreatDoor
open Go.ChangeShapes Go.WideShapes Go.ChangeAt Go.RowKit Go.Deep
open Terms
set_option maxHeartbeats 6400000
set_option maxRecDepth 20000
def WholeAt (w : World) (v : Value) (B : Nat) (av : Value) (l : List (Int × Int)) : Prop :=
  ∃ b off cap, v = .slice (some ⟨b, off, none⟩) l.length cap /\ b < w.heap.size /\ OpsAt w b off l /\ w.rowIs B 3 l.length (fun q => .int .i64 (endAt (l.map Prod.fst) q)) /\ IntsV w av (aheadL l)
theorem WholeAt.below {w w' : World} {v : Value} {B : Nat} {av : Value} {l : List (Int × Int)} (h : WholeAt w v B av l) (hb : Below w.heap.size w w') : WholeAt w' v B av l := by
  obtain ⟨b, off, cap, h1, h2, h3, h4, h5⟩ := h; exact ⟨b, off, cap, h1, Nat.lt_of_lt_of_le h2 hb.size, h3.below hb h2, row_later h4 hb, h5.below hb⟩
def ClaimNo (l : List (Int × Int)) (claim : Int) : Prop := claim < 0 \/ 2 ^ (aheadL l).length <= claim
def MethPost (l : List (Int × Int)) (letter : List Bool) (claim : Int) (w : World) (e : Ending) (w' : World) : Prop :=
  Below w.heap.size w w' /\ (ClaimNo l claim -> e = .returned (.tuple #[.slice none 0 0, .int .i64 2])) /\ (¬ ClaimNo l claim -> ∃ bH, e = .returned (.tuple #[.slice (some ⟨bH, 0, none⟩) l.length l.length, .int .i64 0]) /\ w'.rowIs bH 4 l.length (fun j => .bool (tru l letter claim j)))
theorem meth_any (v : Value) (B : Nat) (av lv : Value) (l : List (Int × Int)) (letter : List Bool) (claim : Int) (w : World) (hc : lcode letter.length l = 0) (hV : WholeAt w v B av l) (hL : BoolsV w lv letter) :
    Calls Tryz.prog 64 #[.agg #[v, .slice (some ⟨B, 0, none⟩) l.length l.length, av], lv, .int .i64 claim] w (MethPost l letter claim w) := by
  obtain ⟨hp0, hp6, hz, hlf, h6⟩ := lcode_zero hc; obtain ⟨hne, h60⟩ := ends_ne hz; rw [List.length_map] at h60; obtain ⟨b, off, cap, rfl, hbl, hat, hrow, hav⟩ := hV; obtain ⟨aao, ac, rfl, ha⟩ := id hav; obtain ⟨lo, lc, rfl, hl⟩ := id hL
  by_cases hcl : ClaimNo l claim
  · exact (truths_out _ _ _ _ aao _ ac claim lo _ lc (some ⟨b, off, none⟩) (some ⟨B, 0, none⟩) l.length cap l.length l.length rfl rfl rfl rfl h6 w hcl).mono fun e w' ⟨h1, h2⟩ => ⟨h2, fun _ => h1, fun h => absurd hcl h⟩
  · have h0n : 0 < l.length := by
      cases l with
      | nil => exact absurd rfl hne
      | cons _ _ => simp
    refine (truths_in b off cap l.length B aao _ ac lo _ lc l letter claim w h0n h60 rfl hz hat hbl hrow rfl hav h6 rfl hL hlf (by unfold ClaimNo at hcl; omega) (by unfold ClaimNo at hcl; omega)).mono fun e w' ⟨bH, h1, h2, h3, _⟩ => ⟨h2, fun h => absurd h hcl, fun _ => ⟨bH, h1, h3.out⟩⟩
noncomputable def tcode (l : List (Int × Int)) (letter : List Bool) (claim : Int) : Int := by classical exact if lcode letter.length l = 0 then (if ClaimNo l claim then 2 else 0) else lcode letter.length l
noncomputable def truL (l : List (Int × Int)) (letter : List Bool) (claim : Int) : List Bool := if tcode l letter claim = 0 then (List.range l.length).map (tru l letter claim) else []
theorem tcode_bad {l : List (Int × Int)} {letter : List Bool} {claim : Int} (h : lcode letter.length l ≠ 0) : tcode l letter claim = lcode letter.length l := by unfold tcode; rw [if_neg h]
theorem tcode_no {l : List (Int × Int)} {letter : List Bool} {claim : Int} (h : lcode letter.length l = 0) (h2 : ClaimNo l claim) : tcode l letter claim = 2 := by unfold tcode; rw [if_pos h, if_pos h2]
theorem tcode_ok {l : List (Int × Int)} {letter : List Bool} {claim : Int} (h : lcode letter.length l = 0) (h2 : ¬ ClaimNo l claim) : tcode l letter claim = 0 := by unfold tcode; rw [if_pos h, if_neg h2]
theorem boolsV_tru {w : World} {bH : Nat} {l : List (Int × Int)} {letter : List Bool} {claim : Int} (h : w.rowIs bH 4 l.length (fun j => .bool (tru l letter claim j))) : BoolsV w (.slice (some ⟨bH, 0, none⟩) l.length l.length) ((List.range l.length).map (tru l letter claim)) := by
  have h2 := boolsV_of_row (w := w) (B := bH) (l := (List.range l.length).map (tru l letter claim)) (by
    rw [List.length_map, List.length_range]
    exact h.congr fun j hj => by simp [List.getD_eq_getElem?_getD, hj])
  rwa [List.length_map, List.length_range] at h2
theorem lread2 (v : Value) (l : List (Int × Int)) (props : Int) (w : World) (hB : 0 < w.heap.size) (hT : TabAt w) (hV : OpsV w v l) :
    Calls Tryz.prog 58 #[v, .int .i64 props] w fun e w' => Below w.heap.size w w' /\ (lcode props l ≠ 0 -> e = .returned (.tuple #[.agg #[.slice none 0 0, .slice none 0 0, .slice none 0 0], .int .i64 (lcode props l)])) /\ (lcode props l = 0 -> ∃ B aao ac, e = .returned (.tuple #[.agg #[v, .slice (some ⟨B, 0, none⟩) l.length l.length, .slice aao (aheadL l).length ac], .int .i64 0]) /\ Hid (WholeAt w' v B (.slice aao (aheadL l).length ac) l)) := by
  refine (lread_any v l props w hB hT hV).mono fun e w' ⟨h1, h2, h3⟩ => ⟨h1, h2, fun hz => ?_⟩
  obtain ⟨B, av, _, he, hrow, ho⟩ := h3 hz; obtain ⟨aao, ac, rfl⟩ := owns_slice ho; obtain ⟨_, _, hze, _, _⟩ := lcode_zero hz; obtain ⟨hne, _⟩ := ends_ne hze
  obtain ⟨b, off, hat⟩ : ∃ b off, (∃ cap, v = .slice (some ⟨b, off, none⟩) l.length cap) /\ b < w'.heap.size /\ OpsAt w' b off l := by
    obtain ⟨ao, cap, rfl, _, h⟩ := hV.below h1; obtain ⟨b, off, rfl, hlt, hat⟩ := h (by rintro rfl; exact hne rfl)
    exact ⟨b, off, ⟨cap, rfl⟩, hlt, hat⟩
  obtain ⟨⟨cap, hv⟩, hlt, hat⟩ := hat; exact ⟨B, aao, ac, he, b, off, cap, hv, hlt, hat, hrow, intsV_of_owns ho⟩
theorem ltruths_any (v lv : Value) (l : List (Int × Int)) (letter : List Bool) (claim : Int) (w : World) (hB : 0 < w.heap.size) (hT : TabAt w) (hV : OpsV w v l) (hL : BoolsV w lv letter) :
    Calls Tryz.prog 44 #[v, lv, .int .i64 claim] w fun e w' => ∃ v', e = .returned (.tuple #[v', .int .i64 (tcode l letter claim)]) /\ Below w.heap.size w w' /\ BoolsV w' v' (truL l letter claim) := by
  have hrd := lread2 v l letter.length w hB hT hV; obtain ⟨lo, lc, rfl, hl⟩ := id hL; obtain ⟨oo, oc, rfl, _⟩ := id hV
  by_cases hc : lcode letter.length l = 0
  · have HM : Hid (∀ w1 B aao ac, Below w.heap.size w w1 -> WholeAt w1 (.slice oo l.length oc) B (.slice aao (aheadL l).length ac) l -> ∀ o, Calls Tryz.prog 64 #[.agg #[.slice oo l.length oc, .slice (some ⟨B, 0, none⟩) l.length l.length, .slice aao (aheadL l).length ac], .slice lo letter.length lc, .int .i64 claim] (w1.alloc o) fun e w' => ∃ ro rn rc, e = .returned (.tuple #[.slice ro rn rc, .int .i64 (tcode l letter claim)]) /\ Below w1.heap.size w1 w' /\ Hid (BoolsV w' (.slice ro rn rc) (truL l letter claim))) := fun w1 B aao ac hb hW o => by
      have hA : Below w1.heap.size w1 (w1.alloc o) := (Below.refl _ _).alloc (Nat.le_refl _) o; refine (meth_any _ B _ _ l letter claim (w1.alloc o) hc (hW.below hA) ((hL.below hb).below hA)).mono fun e w' ⟨h1, h2, h3⟩ => ?_
      have h1' := hA.trans (h1.mono hA.size)
      by_cases hn : ClaimNo l claim
      · exact ⟨none, 0, 0, by rw [tcode_no hc hn]; exact h2 hn, h1', by show BoolsV _ _ _; unfold truL; rw [tcode_no hc hn]; exact ⟨none, 0, rfl, fun h => absurd rfl h⟩⟩
      · obtain ⟨bH, he, hr⟩ := h3 hn
        exact ⟨_, _, _, by rw [tcode_ok hc hn]; exact he, h1', by show BoolsV _ _ _; unfold truL; rw [tcode_ok hc hn]; exact boolsV_tru hr⟩
    have hrd2 : Calls Tryz.prog 58 #[.slice oo l.length oc, .int .i64 (letter.length : Int)] w fun e w' => Below w.heap.size w w' /\ ∃ B aao ac, e = .returned (.tuple #[.agg #[.slice oo l.length oc, .slice (some ⟨B, 0, none⟩) l.length l.length, .slice aao (aheadL l).length ac], .int .i64 0]) /\ Hid (WholeAt w' (.slice oo l.length oc) B (.slice aao (aheadL l).length ac) l) := hrd.mono fun e w' ⟨h1, _, h3⟩ => ⟨h1, h3 hc⟩
    generalize tcode l letter claim = x at *; generalize truL l letter claim = res at *; generalize (aheadL l).length = an at *; generalize letter.length = ln at *; generalize l.length = n at *; clear hrd hT hV hL hl hc
    go_enter Tryz.func44, Tryz.ntmps44
    go_wp2_with (first | (go_at_call 58; refine hrd2.mono ?_; rintro e w1 ⟨hb1, B, aao, ac, rfl, HW⟩; have hme := HM.out w1 B aao ac hb1 HW.out) | (go_at_call 64; refine (hme _).mono ?_; rintro e w2 ⟨ro, rn, rc, rfl, hb2, HR⟩))
    go_ret2
    exact ⟨_, rfl, hb1.trans (hb2.mono hb1.size), HR.out⟩
  · have hrd2 : Calls Tryz.prog 58 #[.slice oo l.length oc, .int .i64 (letter.length : Int)] w fun e w' => Below w.heap.size w w' /\ e = .returned (.tuple #[.agg #[.slice none 0 0, .slice none 0 0, .slice none 0 0], .int .i64 (lcode letter.length l)]) := hrd.mono fun e w' ⟨h1, h2, _⟩ => ⟨h1, h2 hc⟩
    have HX : Hid (tcode l letter claim = lcode letter.length l /\ truL l letter claim = []) := ⟨tcode_bad hc, by unfold truL; rw [if_neg (by rw [tcode_bad hc]; exact hc)]⟩
    rw [HX.out.1, HX.out.2]; generalize lcode letter.length l = x at *; generalize letter.length = ln at *; generalize l.length = n at *; clear hrd hT hV hL hl HX
    go_enter Tryz.func44, Tryz.ntmps44
    go_wp2_with (go_at_call 58; refine hrd2.mono ?_; rintro e w1 ⟨hb1, rfl⟩)
    go_ret2
    exact ⟨_, rfl, by first | exact hb1 | exact hb1.alloc hb1.size _, none, 0, rfl, fun h => absurd rfl h⟩
end Go.Proofs.YtobopjjmhginlaaGreatDoor
