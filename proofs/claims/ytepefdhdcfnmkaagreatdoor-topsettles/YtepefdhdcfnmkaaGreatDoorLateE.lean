/-
  Joined out of PGo, PBhd, PEx0, EyM, PEx, WClm, ClaimM, ClaimM2, ClaimM3, ClaimM4, ClaimN, ClaimL, ClaimS, LawOps, GrS, StepReach, GrB, GrW, ClW, LeW, in their order: a claim bears at most so many files.
-/
import Derived.Test.YtepefdhdcfnmkaaGreatDoorLateD
import Derived.Test.YtepefdhdcfnmkaaGreatDoorLateC
import Derived.Test.YtepefdhdcfnmkaaGreatDoorLateB
import Derived.Test.YtepefdhdcfnmkaaGreatDoorLateA
import Derived.Test.YtepefdhdcfnmkaaGreatDoorMem
import Derived.Test.YtepefdhdcfnmkaaGreatDoorMFirst
import Derived.Maps.OwnSet
import Derived.Test.YtepefdhdcfnmkaaGreatDoorCodes
import Derived.Test.YtepefdhdcfnmkaaGreatDoorBools
import Derived.Deep.AppendLies
import Derived.Deep.RegionHeld3
import Derived.Deep.Cut
import Derived.Deep.CutBlock
import Derived.Deep.CutRange
import Derived.Deep.DeepCutAuto
namespace Go.Proofs.YtepefdhdcfnmkaaGreatDoor
open Go.ChangeShapes Go.WideShapes Go.ChangeAt Go.RowKit Go.Deep Go.Maps
open Terms Tm
set_option maxHeartbeats 6400000
set_option maxRecDepth 20000
theorem infoIL : (Tryz.prog.info? 43).map (fun i => (i.zero, i.size, i.bytes)) = some (some (.slice none 0 0), 1, 24) := by kernel_rfl
theorem xfo_mem {l : List (Int × Int)} {x : List Bool} {c : Int} {y : List Bool} {st : Int} {p : Int × Int} : ∀ k, p ∈ foTo l x c y st k -> p.1 = st /\ ∃ d : Nat, d < k /\ p.2 = (d : Int) /\ folR l x c y (d : Int) = true
 | 0, h => by simp [foTo] at h
 | k + 1, h => by
  rw [foTo] at h
  split at h
  ·next hf =>
   rw [List.mem_append, List.mem_singleton] at h
   rcases h with h | rfl
   ·obtain ⟨h1, d, h2, h3⟩ := xfo_mem k h
    exact ⟨h1, d, by omega, h3⟩
   ·exact ⟨rfl, k, by omega, rfl, hf⟩
  ·obtain ⟨h1, d, h2, h3⟩ := xfo_mem k h
   exact ⟨h1, d, by omega, h3⟩
theorem xbe_mem {m : Mo} {ps : List (List (Int × Int))} {l : List (Int × Int)} {code c : Int} {p : Int × Int} : ∀ i, i <= (nextL m code).length -> p ∈ behTo m ps l code c i -> p.1 ∈ nextL m code /\ ∃ d : Nat, d < 2 ^ (aheadL l).length /\ p.2 = (d : Int) /\ folR l (letL m ps code) c (letL m ps p.1) (d : Int) = true
 | 0, _, h => by simp [behTo] at h
 | i + 1, hi, h => by
  rw [behTo, List.mem_append] at h
  rcases h with h | h
  ·exact xbe_mem i (by omega) h
  ·obtain ⟨h1, d, h2, h3, h4⟩ := xfo_mem _ h
   refine ⟨?_, d, h2, h3, by rw [h1]; exact h4⟩
   rw [h1, List.getD_eq_getElem?_getD, List.getElem?_eq_getElem (by omega)]
   exact List.getElem_mem _
theorem behL_spot {m : Mo} {ps : List (List (Int × Int))} {l : List (Int × Int)} {code c : Int} (hm : mcode m = 0) (hcr : 0 <= code /\ code < prodTo m.vars m.vars.length) {p : Int × Int} (h : p ∈ behL m ps l code c) : (0 <= p.1 /\ p.1 < prodTo m.vars m.vars.length) /\ ∃ d : Nat, d < 2 ^ (aheadL l).length /\ p.2 = (d : Int) := by
 obtain ⟨h1, d, h2, h3, _⟩ := xbe_mem _ (Nat.le_refl _) h; exact ⟨nextL_st hm hcr h1, d, h2, h3⟩
theorem behL_len {m : Mo} {ps : List (List (Int × Int))} {l : List (Int × Int)} {code c : Int} (hm : mcode m = 0) (hcr : 0 <= code /\ code < prodTo m.vars m.vars.length) (h6 : (aheadL l).length <= 6) : (behL m ps l code c).length <= 262144 := by
 have h1 := behTo_len (m := m) (ps := ps) (l := l) (Nat.pow_le_pow_right (show 0 < 2 by decide) h6) code c (nextL m code).length
 have h2 := nextL_len hm hcr; unfold behL; omega
theorem spot_I64 {m : Mo} {ps : List (List (Int × Int))} {l : List (Int × Int)} (hk : tkcode m ps l = 0) {p : Int × Int} (h : (0 <= p.1 /\ p.1 < prodTo m.vars m.vars.length) /\ ∃ d : Nat, d < 2 ^ (aheadL l).length /\ p.2 = (d : Int)) : I64s p := by
 obtain ⟨hp0, hl0⟩ := tk_zero hk; obtain ⟨hm0, _⟩ := pcode_m hp0; obtain ⟨_, _, _, _, h6⟩ := lcode_zero hl0; have hpr := ((mcode_vars hm0).prod (Nat.le_refl m.vars.length)).2; have hN64 : 2 ^ (aheadL l).length <= 64 := Nat.pow_le_pow_right (show 0 < 2 by decide) h6
 obtain ⟨h1, d, h2, h3⟩ := h; unfold I64s; omega
def GoPost (w0 : World) (base A lm B bs bl n : Nat) (va vr pv fv : Value) (m : Mo) (ps : List (List (Int × Int))) (l : List (Int × Int)) (ho : Option Addr) (hc : Nat) (S : List (Int × Int)) (N : List (List Int)) (T : List Int) (init many : Int) (code : Int) (c : Nat) (e : Ending) (w' : World) : Prop :=
 e = .returned (.int .i64 (if 20000 < (plTo S (behL m ps l code (c : Int))).length then 12 else 0)) /\ ∃ sv nv tv, Hid (ExW w0 w' base A lm B bs bl (n + 300001) va vr pv fv m ps l ho hc (plTo S (behL m ps l code (c : Int))) (N ++ [plIx S (behL m ps l code (c : Int))]) (T ++ [metN l (letL m ps code) (c : Int)]) init many sv nv tv)
theorem goThrough_any (w0 w : World) (base A lm B bs bl n : Nat) (va vr pv fv : Value) (m : Mo) (ps : List (List (Int × Int))) (l : List (Int × Int)) (ho : Option Addr) (hc : Nat) (S : List (Int × Int)) (N : List (List Int)) (T : List Int) (init many : Int) (sv nv tv : Value) (code : Int) (c : Nat) (hB : 0 < w0.heap.size) (hT : TabAt w0) (hV : TaskV w0 va vr pv fv m ps l) (hk : tkcode m ps l = 0) (hX : ExW w0 w base A lm B bs bl n va vr pv fv m ps l ho hc S N T init many sv nv tv) (hn : n + 600000 < 1000000000000) (hcr : 0 <= code /\ code < prodTo m.vars m.vars.length) (hcN : c < 2 ^ (aheadL l).length) (hzS : S.length <= 20000) (hzN : N.length <= 20000) (hzT : T.length <= 20000) :
  Calls Tryz.prog 51 #[.pointer (some ⟨A, 0, none⟩), .pointer (some ⟨B, 0, none⟩), .agg #[.int .i64 code, .int .i64 (c : Int)]] w (GoPost w0 base A lm B bs bl n va vr pv fv m ps l ho hc S N T init many code c) := by
 obtain ⟨hp0, hl0⟩ := tk_zero hk; obtain ⟨hm0, _⟩ := pcode_m hp0; obtain ⟨_, _, _, _, h6⟩ := lcode_zero hl0; have hpr := ((mcode_vars hm0).prod (Nat.le_refl m.vars.length)).2; have hI : -9223372036854775808 <= code /\ code <= 9223372036854775807 := by omega
 have hbl := behL_len (ps := ps) (c := (c : Int)) hm0 hcr h6; have hIs : ∀ j, j < (behL m ps l code (c : Int)).length -> I64s ((behL m ps l code (c : Int)).getD j (0, 0)) := fun j hj => spot_I64 hk (behL_spot hm0 hcr (c := (c : Int)) (ps := ps) (by rw [List.getD_eq_getElem?_getD, List.getElem?_eq_getElem hj]; exact List.getElem_mem _))
 have hw0 := wcode_yes hm0 hcr; obtain ⟨W1, hW1⟩ : ∃ W1, W1 = w.alloc (.cells #[.int .i64 code, .int .i64 (c : Int)] 121) := ⟨_, rfl⟩
 have hb1 : Below w.heap.size w W1 := by rw [hW1]; exact (Below.refl _ _).alloc (Nat.le_refl _) _
 have hs1 : W1.cell? ⟨w.heap.size, 0, none⟩ = some (.int .i64 code) /\ W1.cell? ⟨w.heap.size, 1, none⟩ = some (.int .i64 (c : Int)) := by rw [hW1]; constructor <;> simp [go_sem]
 have hX1 := hX.below hb1
 have hbe : Calls Tryz.prog 73 #[.pointer (some ⟨B, 0, none⟩), .agg #[.int .i64 code, .int .i64 (c : Int)]] W1 fun e w2 => ∃ so sc, e = .returned (.tuple #[.slice so (behL m ps l code (c : Int)).length sc, .int .i64 0]) /\ (w2.cell? ⟨w.heap.size, 0, none⟩ = some (.int .i64 code) /\ w2.cell? ⟨w.heap.size, 1, none⟩ = some (.int .i64 (c : Int))) /\ Hid (ExW w0 w2 base A lm B bs bl (n + 300000) va vr pv fv m ps l ho hc S N T init many sv nv tv /\ SpO w2 W1.heap.size (.slice so (behL m ps l code (c : Int)).length sc) (behL m ps l code (c : Int))) :=
  (behind_in w0 W1 B bs bl n va vr pv fv m ps l ho hc code c hI hB hT hV hk hX1.su (by omega) hcr hcN).mono fun e w2 ⟨h1, h2, h3⟩ => by
   rcases h3 with ⟨_, so, sc, h4, h5⟩ | ⟨h4, _⟩
   ·exact ⟨so, sc, h4, ⟨h1.cell hX1.su.two hs1.1, h1.cell hX1.su.two hs1.2⟩, hX1.call h1 h2.out, h5.out⟩
   ·exact absurd hw0 h4
 have HMe : Hid (∀ w2, ExW w0 w2 base A lm B bs bl (n + 300000) va vr pv fv m ps l ho hc S N T init many sv nv tv -> Calls Tryz.prog 74 #[.pointer (some ⟨B, 0, none⟩), .agg #[.int .i64 code, .int .i64 (c : Int)]] w2 fun e w3 => e = .returned (.tuple #[.int .i64 (metN l (letL m ps code) (c : Int)), .int .i64 0]) /\ Hid (ExW w0 w3 base A lm B bs bl (n + 300001) va vr pv fv m ps l ho hc S N T init many sv nv tv /\ ∀ so sc, SpO w2 W1.heap.size (.slice so (behL m ps l code (c : Int)).length sc) (behL m ps l code (c : Int)) -> SpO w3 W1.heap.size (.slice so (behL m ps l code (c : Int)).length sc) (behL m ps l code (c : Int)))) := fun w2 hx =>
  (meets_in w0 w2 B bs bl (n + 300000) va vr pv fv m ps l ho hc code c hI hB hT hV hk hx.su (by omega) hcr hcN).mono fun e w3 ⟨h1, h2, h3⟩ => ⟨h1, hx.call h2 h3.out, fun so sc h => h.sk h2 hx.su.two⟩
 have HPl : Hid (∀ w3 so sc, ExW w0 w3 base A lm B bs bl (n + 300001) va vr pv fv m ps l ho hc S N T init many sv nv tv -> SpO w3 W1.heap.size (.slice so (behL m ps l code (c : Int)).length sc) (behL m ps l code (c : Int)) -> Calls Tryz.prog 50 #[.pointer (some ⟨A, 0, none⟩), .slice so (behL m ps l code (c : Int)).length sc] w3.drew fun e w4 => e = .returned (.slice (some ⟨w3.heap.size, 0, none⟩) (behL m ps l code (c : Int)).length (behL m ps l code (c : Int)).length) /\ ∃ us sv', w4.cell? ⟨A, 2, none⟩ = some nv /\ (w4.alloc (.cells #[.slice (some ⟨w3.heap.size, 0, none⟩) (behL m ps l code (c : Int)).length (behL m ps l code (c : Int)).length] 43)).cell? ⟨A, 2, none⟩ = some nv /\ (w4.alloc (.cells #[.slice (some ⟨w3.heap.size, 0, none⟩) (behL m ps l code (c : Int)).length (behL m ps l code (c : Int)).length] 43)).ownsRow base 43 1 nv N.length us /\ base <= (w4.alloc (.cells #[.slice (some ⟨w3.heap.size, 0, none⟩) (behL m ps l code (c : Int)).length (behL m ps l code (c : Int)).length] 43)).heap.size /\ Hid (∀ g cap w9, World.ownsRow w9 base 43 1 (.slice (some ⟨g, 0, none⟩) (N.length + 1) cap) (N.length + 1) (us ++ [.slice (some ⟨w3.heap.size, 0, none⟩) (behL m ps l code (c : Int)).length (behL m ps l code (c : Int)).length]) -> (w4.alloc (.cells #[.slice (some ⟨w3.heap.size, 0, none⟩) (behL m ps l code (c : Int)).length (behL m ps l code (c : Int)).length] 43)).grownBy w9 nv.ownBlock -> (w9.cell? ⟨A, 2, none⟩ = some nv /\ w9.frozen? ⟨A, 2, none⟩ = false) /\ ExW w0 (w9.setCell ⟨A, 2, none⟩ (.slice (some ⟨g, 0, none⟩) (N.length + 1) cap)) base A lm B bs bl (n + 300001) va vr pv fv m ps l ho hc (plTo S (behL m ps l code (c : Int))) (N ++ [plIx S (behL m ps l code (c : Int))]) T init many sv' (.slice (some ⟨g, 0, none⟩) (N.length + 1) cap) tv)) := fun w3 so sc hx hsp => by
  have hbd : Below w3.heap.size w3 w3.drew := (Below.refl _ _).drew; have hx3 := hx.below hbd; have hsp3 := hsp.later hbd (Nat.le_refl _)
  have hsep : ∀ a, so = some a -> ¬ atZ A lm sv a.block := fun a e z => by
   have hge := owns_ge hsp a _ _ (by rw [e])
   rcases z with z | z | z
   ·have := hX1.tl.lt; omega
   ·have := hX1.tl.lies.lt; omega
   ·have := (owns_ty hX1.tl.sp z).2.lt; omega
  refine (places_any w3.drew base A lm S N T init many sv nv tv _ so sc hx3.tl hsp3.v hsep hIs (by omega)).mono fun e w4 ⟨h1, sv', h2, h3, h4, h5, h6⟩ => ?_
  have hx4 := hx3.put h5 h2; have hba : Below w4.heap.size w4 (w4.alloc (.cells #[.slice (some ⟨w3.heap.size, 0, none⟩) (behL m ps l code (c : Int)).length (behL m ps l code (c : Int)).length] 43)) := (Below.refl _ _).alloc (Nat.le_refl _) _; have hx5 := hx4.below hba; obtain ⟨us, hus⟩ := id hx5.tl.nx; have hbs3 : base <= w3.heap.size := hx.tl.base_le
  refine ⟨h1, us, sv', (atB_cells hx4.tl.box).2.2.1, (atB_cells hx5.tl.box).2.2.1, hus.1, hx5.tl.base_le, fun g cap w9 g1 g2 => ⟨?_, ?_⟩⟩
  ·have hbx : w9.heap[A]? = some (atB sv' nv tv init many lm) := (g2.block A hx5.tl.lt fun e => by have := hx5.tl.ty.eq (owns_ty hus.1 e.symm).2; exact absurd this (by decide)).trans hx5.tl.box
   exact ⟨(atB_cells hbx).2.2.1, atB_free hbx 2⟩
  ·have e : (behL m ps l code (c : Int)).length = (plIx S (behL m ps l code (c : Int))).length := (plIx_len _ _).symm
   have hr5 := h3.below hba; have ht5 := h4.below hba; have hr6 : IntsV (w4.alloc (.cells #[.slice (some ⟨w3.heap.size, 0, none⟩) (behL m ps l code (c : Int)).length (behL m ps l code (c : Int)).length] 43)) (.slice (some ⟨w3.heap.size, 0, none⟩) (plIx S (behL m ps l code (c : Int))).length (behL m ps l code (c : Int)).length) (plIx S (behL m ps l code (c : Int))) := by rw [<- e]; exact hr5
   have ht6 : RowTy (w4.alloc (.cells #[.slice (some ⟨w3.heap.size, 0, none⟩) (behL m ps l code (c : Int)).length (behL m ps l code (c : Int)).length] 43)) (.slice (some ⟨w3.heap.size, 0, none⟩) (plIx S (behL m ps l code (c : Int))).length (behL m ps l code (c : Int)).length) 3 := by rw [<- e]; exact ht5
   refine hx5.appN hus hr6 ht6 (fun a ea => ?_) g2 (by rw [<- e]; exact g1)
   injection ea with ea
   subst ea; refine ⟨fun e2 => ?_, hbs3⟩
   have := (owns_ty hx.tl.st e2).2.lt; simp only at this
   omega
 clear hX hX1 hT hV hk hp0 hl0 hm0 hIs hw0; unfold GoPost; generalize behL m ps l code (c : Int) = beh at *; generalize metN l (letL m ps code) (c : Int) = mt at *; have HPn : Hid (∀ w' sv nv tv N T n, ExW w0 w' base A lm B bs bl n va vr pv fv m ps l ho hc (plTo S beh) N T init many sv nv tv -> ∃ vo vc, sv = .slice vo (plTo S beh).length vc) := fun w' sv nv tv N T n h => h.tl.sp.shape
 have hpn : (plTo S beh).length <= 300000 := by have := (plTo_length beh S).2; omega
 generalize plTo S beh = PS at *; generalize plIx S beh = PI at *; generalize hbn : beh.length = bn at *; have HTs : Hid (∀ w' sv nv n S N, ExW w0 w' base A lm B bs bl n va vr pv fv m ps l ho hc S N T init many sv nv tv -> ∃ xo xc, tv = .slice xo T.length xc) := fun w' sv nv n S N h => owns_slice h.tl.st
 have HNs : Hid (∀ w', ExW w0 w' base A lm B bs bl (n + 300000) va vr pv fv m ps l ho hc S N T init many sv nv tv -> ∃ xo xc, nv = .slice xo N.length xc) := fun w' h => by
  obtain ⟨us, h1, _⟩ := h.tl.nx; exact owns_slice h1
 obtain ⟨i0, hi, hz0, hz1, hz2⟩ := info_parts infoIL; obtain ⟨j0, hj, jz0, jz1, jz2⟩ := info_parts infoInt
 go_enter Tryz.func51, Tryz.ntmps51
 go_upto_region 7 with (first | (go_at_call 73; rw [<- hW1]; refine hbe.mono ?_; rintro e w2 ⟨so, sc, rfl, ⟨b0, b1⟩, HX2⟩; have hme := HMe.out w2 HX2.out.1) | (go_at_call 74; refine hme.mono ?_; rintro e w3 ⟨rfl, HX3⟩))
 have hpl := HPl.out w3 so sc HX3.out.1 (HX3.out.2 so sc HX2.out.2); have a2 : w3.cell? ⟨A, 2, none⟩ = some nv := (atB_cells HX3.out.1.tl.box).2.2.1; obtain ⟨no, nc, rfl⟩ := HNs.out w2 HX2.out.1; clear hbe hme HMe HPl HX2 HX3 HNs hs1 b0 b1
 go_cut [] (fun wx => ∃ sv' nv', Hid (ExW w0 wx base A lm B bs bl (n + 300001) va vr pv fv m ps l ho hc PS (N ++ [PI]) T init many sv' nv' tv))
 case first =>
  go_region_law (first
   | (refine step_append_lies _ (by rfl) (.tmp 33) (.tmp 37) 27 (by rfl) base 43 i0 _ 1 24 Tryz.underlying27 hi hz0 hz1 hz2 (by rfl) (by decide) (.slice no N.length nc) N.length us (by rfl) hown4 ⟨w4.heap.size, 0, none⟩ 1 1 [.slice (some ⟨w3.heap.size, 0, none⟩) bn bn] (by rfl) (by rfl) (cell_one_new _ _ _) (by intro u hu; simp at hu; subst hu; rfl) (by decide) (by unfold maxLen; omega) (by omega) hba4 _ rfl ?_; intro g9 cap9 w9 hown hgrow hat hlt9; obtain ⟨⟨z0, zf⟩, hx9⟩ := HN4.out g9 cap9 w9 hown hgrow; have HX9 := (show Hid _ from hx9); clear hx9 hown hgrow hat)
   | (go_simp; go_at_call 50; refine hpl.mono ?_; rintro e w4 ⟨rfl, us, sv4, y0, y1, hown4, hba4, HN4⟩))
  all_goals go_wp2_with fail
  all_goals go_meet
  all_goals exact ⟨_, _, HX9⟩
 case rest =>
  obtain ⟨sv5, nv5, HX5⟩ := hcut; obtain ⟨xo, xc, rfl⟩ := HTs.out wc sv5 nv5 _ PS _ HX5.out; obtain ⟨vo5, vc5, rfl⟩ := HPn.out wc _ _ _ _ _ _ HX5.out; have hba : Below wc.heap.size wc (wc.alloc (.cells #[.int .i64 mt] 3)) := (Below.refl _ _).alloc (Nat.le_refl _) _; have hx6 := HX5.out.below hba
  have hown6 : World.ownsRow (wc.alloc (.cells #[.int .i64 mt] 3)) base 3 1 (.slice xo T.length xc) T.length (ivals T) := hx6.tl.st; have hbs6 := hx6.tl.base_le; have a3 : wc.cell? ⟨A, 3, none⟩ = some (.slice xo T.length xc) := (atB_cells HX5.out.tl.box).2.2.2.1
  have HT6 : Hid (∀ g cap w9, World.ownsRow w9 base 3 1 (.slice (some ⟨g, 0, none⟩) (T.length + 1) cap) (T.length + 1) (ivals T ++ [.int .i64 mt]) -> (wc.alloc (.cells #[.int .i64 mt] 3)).grownBy w9 (Value.slice xo T.length xc).ownBlock -> ((Value.slice xo T.length xc).ownBlock = some g \/ g = (wc.alloc (.cells #[.int .i64 mt] 3)).heap.size) -> (w9.cell? ⟨A, 3, none⟩ = some (.slice xo T.length xc) /\ w9.frozen? ⟨A, 3, none⟩ = false) /\ (w9.setCell ⟨A, 3, none⟩ (.slice (some ⟨g, 0, none⟩) (T.length + 1) cap)).cell? ⟨A, 0, none⟩ = some (.slice vo5 PS.length vc5) /\ Hid (ExW w0 (w9.setCell ⟨A, 3, none⟩ (.slice (some ⟨g, 0, none⟩) (T.length + 1) cap)) base A lm B bs bl (n + 300001) va vr pv fv m ps l ho hc PS (N ++ [PI]) (T ++ [mt]) init many (.slice vo5 PS.length vc5) nv5 (.slice (some ⟨g, 0, none⟩) (T.length + 1) cap))) := fun g cap w9 h1 h2 h3 => by
   have hbx : w9.heap[A]? = some (atB (.slice vo5 PS.length vc5) nv5 (.slice xo T.length xc) init many lm) := (h2.block A hx6.tl.lt fun e => by have := hx6.tl.ty.eq (owns_ty hx6.tl.st e.symm).2; exact absurd this (by decide)).trans hx6.tl.box
   have hxx := hx6.appT h2 h1 (by
    rcases h3 with h | h
    ·exact .inl (by rw [h]; rfl)
    ·exact .inr ⟨g, rfl, by omega⟩)
   exact ⟨⟨(atB_cells hbx).2.2.2.1, atB_free hbx 3⟩, (atB_cells hxx.tl.box).1, hxx⟩
  clear hx6 HX5 HTs HPn
  by_cases hfull : 20000 < PS.length
  ·have hfi : (20000 : Int) < (PS.length : Int) := by omega
   go_wp2_with (first | (at_builtin; refine wpList_append_lies _ rfl (.tmp 47) (.tmp 49) 43 rfl base 3 j0 _ 1 8 Tryz.underlying43 hj jz0 jz1 jz2 rfl (by decide) (.slice xo T.length xc) T.length (ivals T) rfl hown6 ⟨wc.heap.size, 0, none⟩ 1 1 [.int .i64 mt] rfl rfl (cell_one_new _ _ _) (by intro u hu; simp at hu; subst hu; rfl) (by decide) (by unfold maxLen; omega) (by omega) hbs6 _ rfl ?_; intro g9 cap9 w9 hown hgrow hat hlt9; obtain ⟨⟨z0, zf⟩, z1, HX9⟩ := HT6.out g9 cap9 w9 hown hgrow hat; clear hown hgrow hat))
   go_ret
   exact ⟨by first | rfl | simp [hfull], _, _, _, HX9⟩
  ·have hfi : ¬ (20000 : Int) < (PS.length : Int) := by omega
   go_wp2_with (first | (at_builtin; refine wpList_append_lies _ rfl (.tmp 47) (.tmp 49) 43 rfl base 3 j0 _ 1 8 Tryz.underlying43 hj jz0 jz1 jz2 rfl (by decide) (.slice xo T.length xc) T.length (ivals T) rfl hown6 ⟨wc.heap.size, 0, none⟩ 1 1 [.int .i64 mt] rfl rfl (cell_one_new _ _ _) (by intro u hu; simp at hu; subst hu; rfl) (by decide) (by unfold maxLen; omega) (by omega) hbs6 _ rfl ?_; intro g9 cap9 w9 hown hgrow hat hlt9; obtain ⟨⟨z0, zf⟩, z1, HX9⟩ := HT6.out g9 cap9 w9 hown hgrow hat; clear hown hgrow hat))
   go_ret
   exact ⟨by first | rfl | simp [hfull], _, _, _, HX9⟩
variable {Pz : Nat -> Prop}
theorem SvOk.made {w0 w w' : World} {n : Nat} {va vr pv fv : Value} {m : Mo} {ps : List (List (Int × Int))} {l : List (Int × Int)} {ho : Option Addr} {hc : Nat} (hb : Below w0.heap.size w0 w) (hb2 : Below w.heap.size w w') (hn : w.heap.size <= n) (hs : SurvAt w' (n + 2) va vr pv fv (.slice ho (aheadL l).length hc) n (n + 1))
  (ho' : w'.ownsRow w.heap.size 3 1 (.slice ho (aheadL l).length hc) (aheadL l).length (ivals (aheadL l))) (h1 : w'.heap[n]? = some (.map #[] 0)) (h2 : w'.heap[n + 1]? = some (.map #[] 0)) : SvOk (fun _ => True) w0 w' (n + 2) n (n + 1) 0 va vr pv fv m ps l ho hc := by
 have := hb.size; exact ⟨hs, hb.trans (hb2.mono hb.size), by omega, by omega, by omega, intsV_of_owns ho', RowTy.owns ho', fun _ _ => trivial, fun _ _ => trivial, ⟨_, MapIs.new _ h1, fun kl v h => by simp at h⟩, ⟨_, MapIs.new _ h2, fun kl v h => by simp at h⟩⟩
end Go.Proofs.YtepefdhdcfnmkaaGreatDoor
namespace Go.Proofs.YtepefdhdcfnmkaaGreatDoor
open Go.ChangeShapes Go.WideShapes Go.ChangeAt Go.RowKit Go.Deep Go.Maps
open Terms Tm
set_option maxHeartbeats 6400000
set_option maxRecDepth 20000
def spOk (m : Mo) (l : List (Int × Int)) (p : Int × Int) : Prop := (0 <= p.1 /\ p.1 < prodTo m.vars m.vars.length) /\ ∃ d : Nat, d < 2 ^ (aheadL l).length /\ p.2 = (d : Int)
noncomputable def xpBh (m : Mo) (ps : List (List (Int × Int))) (l : List (Int × Int)) (p : Int × Int) : List (Int × Int) := behL m ps l p.1 p.2
noncomputable def xpP (m : Mo) (ps : List (List (Int × Int))) (l : List (Int × Int)) (k : Nat) : List (Int × Int) := exS (begL m ps l) (xpBh m ps l) k
noncomputable def xpAt (m : Mo) (ps : List (List (Int × Int))) (l : List (Int × Int)) (k : Nat) : Int × Int := (xpP m ps l k).getD k (0, 0)
noncomputable def xpN (m : Mo) (ps : List (List (Int × Int))) (l : List (Int × Int)) : Nat -> List (List Int)
 | 0 => []
 | k + 1 => xpN m ps l k ++ [plIx (xpP m ps l k) (xpBh m ps l (xpAt m ps l k))]
noncomputable def xpT (m : Mo) (ps : List (List (Int × Int))) (l : List (Int × Int)) : Nat -> List Int
 | 0 => []
 | k + 1 => xpT m ps l k ++ [metN l (letL m ps (xpAt m ps l k).1) (xpAt m ps l k).2]
section
variable {m : Mo} {ps : List (List (Int × Int))} {l : List (Int × Int)}
theorem xpP_succ (k : Nat) : xpP m ps l (k + 1) = plTo (xpP m ps l k) (xpBh m ps l (xpAt m ps l k)) := rfl
theorem xpN_len : ∀ k, (xpN m ps l k).length = k
 | 0 => rfl
 | k + 1 => by rw [xpN, List.length_append, xpN_len k]; rfl
theorem xpT_len : ∀ k, (xpT m ps l k).length = k
 | 0 => rfl
 | k + 1 => by rw [xpT, List.length_append, xpT_len k]; rfl
theorem xbg_mem {p : Int × Int} : ∀ k, p ∈ begTo m ps l k -> p.1 = begC m /\ ∃ d : Nat, d < k /\ p.2 = (d : Int) /\ tru l (letL m ps (begC m)) (d : Int) 0 ≠ true
 | 0, h => by simp [begTo] at h
 | k + 1, h => by
  rw [begTo] at h
  split at h
  ·obtain ⟨h1, d, h2, h3⟩ := xbg_mem k h
   exact ⟨h1, d, by omega, h3⟩
  ·next hf =>
   rw [List.mem_append, List.mem_singleton] at h
   rcases h with h | rfl
   ·obtain ⟨h1, d, h2, h3⟩ := xbg_mem k h
    exact ⟨h1, d, by omega, h3⟩
   ·exact ⟨rfl, k, by omega, rfl, hf⟩
theorem begL_spot (hk : tkcode m ps l = 0) {p : Int × Int} (h : p ∈ begL m ps l) : spOk m l p := by
 obtain ⟨h1, d, h2, h3, _⟩ := xbg_mem _ h; exact ⟨by rw [h1]; exact tk_beg hk, d, h2, h3⟩
theorem xpBh_spot (hk : tkcode m ps l = 0) {s p : Int × Int} (hs : spOk m l s) (h : p ∈ xpBh m ps l s) : spOk m l p := behL_spot (pcode_m (tk_zero hk).1).1 hs.1 h
theorem xpP_zero (hk : tkcode m ps l = 0) : ∀ p ∈ xpP m ps l 0, spOk m l p := fun p hp => by
 rcases (plTo_iff _ _ _).1 hp with h | h
 ·exact absurd h List.not_mem_nil
 ·exact begL_spot hk h
theorem xpAt_mem {k : Nat} (h : k < (xpP m ps l k).length) : xpAt m ps l k ∈ xpP m ps l k := by
 unfold xpAt; rw [List.getD_eq_getElem?_getD, List.getElem?_eq_getElem h]
 exact List.getElem_mem _
theorem xpP_next (hk : tkcode m ps l = 0) {k : Nat} (hl : k < (xpP m ps l k).length) (h : ∀ p ∈ xpP m ps l k, spOk m l p) : ∀ p ∈ xpP m ps l (k + 1), spOk m l p := fun p hp => by
 rw [xpP_succ] at hp
 rcases (plTo_iff _ _ _).1 hp with h1 | h1
 ·exact h p h1
 ·exact xpBh_spot hk (h _ (xpAt_mem hl)) h1
end
def ExDone (m : Mo) (ps : List (List (Int × Int))) (l : List (Int × Int)) (K : Nat) : Prop := (xpP m ps l K).length = K /\ K <= 20000 /\ (∀ j, j < K -> j < (xpP m ps l j).length) /\ ∀ p ∈ xpP m ps l K, spOk m l p
def ExFull (m : Mo) (ps : List (List (Int × Int))) (l : List (Int × Int)) : Prop := ∃ k, (∀ j, j <= k -> j < (xpP m ps l j).length) /\ 20000 < (xpP m ps l (k + 1)).length
def GrX (w : World) (base : Nat) (m : Mo) (ps : List (List (Int × Int))) (l : List (Int × Int)) (K : Nat) (sv nv tv : Value) : Prop := SpO w base sv (xpP m ps l K) /\ LsAt w base nv tv (xpN m ps l K) /\ w.ownsRow base 3 1 tv (xpT m ps l K).length (ivals (xpT m ps l K))
def ExAns (w : World) (m : Mo) (ps : List (List (Int × Int))) (l : List (Int × Int)) (e : Ending) (w' : World) : Prop :=
 (tkcode m ps l = 0 /\ ∃ K, ExDone m ps l K /\ ∃ sv nv tv, e = .returned (.tuple #[.agg #[sv, .int .i64 ((begL m ps l).length : Nat), nv, tv, .int .i64 ((aheadL l).length : Nat)], .int .i64 0]) /\ Below w.heap.size w w' /\ Hid (GrX w' w.heap.size m ps l K sv nv tv)) \/
 (tkcode m ps l = 0 /\ ExFull m ps l /\ e = .returned (.tuple #[.agg #[.slice none 0 0, .int .i64 0, .slice none 0 0, .slice none 0 0, .int .i64 0], .int .i64 12]) /\ Below w.heap.size w w') \/
 (tkcode m ps l ≠ 0 /\ e = .returned (.tuple #[.agg #[.slice none 0 0, .int .i64 0, .slice none 0 0, .slice none 0 0, .int .i64 0], .int .i64 (tkcode m ps l)]) /\ Below w.heap.size w w')
theorem ex_not_both {m : Mo} {ps : List (List (Int × Int))} {l : List (Int × Int)} {K : Nat} (h : ExDone m ps l K) : ¬ ExFull m ps l := by
 rintro ⟨k, h1, h2⟩
 obtain ⟨d1, d2, _, _⟩ := h
 by_cases hk : k + 1 <= K
 ·have := (exS_le (begL m ps l) (xpBh m ps l) hk).length_le
  unfold xpP at h2 d1; omega
 ·have := h1 K (by omega)
  omega
def grB (sv nv tv : Value) (init many : Int) : Obj := .cells #[sv, .int .i64 init, nv, tv, .int .i64 many] 89 (0, 0)
section
variable {w w' : World} {X : Nat} {sv nv tv : Value} {init many : Int}
theorem grB_cells (hb : w.heap[X]? = some (grB sv nv tv init many)) : w.cell? ⟨X, 0, none⟩ = some sv /\ w.cell? ⟨X, 1, none⟩ = some (.int .i64 init) /\ w.cell? ⟨X, 2, none⟩ = some nv /\ w.cell? ⟨X, 3, none⟩ = some tv /\ w.cell? ⟨X, 4, none⟩ = some (.int .i64 many) := by
 unfold grB at hb; refine ⟨?_, ?_, ?_, ?_, ?_⟩ <;> simp [World.cell?, hb]
theorem grB_free (hb : w.heap[X]? = some (grB sv nv tv init many)) (i : Nat) : w.frozen? ⟨X, i, none⟩ = false := by
 unfold grB at hb; simp [World.frozen?, hb]
theorem chg_box (w : World) (X : Nat) (a b c d e : Value) : Chg (fun i => i = X) w (((((w.setCell ⟨X, 0, none⟩ a).setCell ⟨X, 1, none⟩ b).setCell ⟨X, 2, none⟩ c).setCell ⟨X, 3, none⟩ d).setCell ⟨X, 4, none⟩ e) :=
 (((((Chg.setCell w ⟨X, 0, none⟩ a).trans (Chg.setCell _ ⟨X, 1, none⟩ b)).trans (Chg.setCell _ ⟨X, 2, none⟩ c)).trans (Chg.setCell _ ⟨X, 3, none⟩ d)).trans (Chg.setCell _ ⟨X, 4, none⟩ e))
theorem GrX.chg {base K : Nat} {m : Mo} {ps : List (List (Int × Int))} {l : List (Int × Int)} (h : GrX w base m ps l K sv nv tv) (hs : Chg (fun i => i = X) w w') (ht : TyB w X 89) : GrX w' base m ps l K sv nv tv := by
 obtain ⟨h1, h2, h3⟩ := h; obtain ⟨us, n1, _⟩ := id h2; have hno : ∀ g t, TyB w g t -> t ≠ 89 -> g ≠ X := fun g t hg hn e => hn (hg.eq (e ▸ ht))
 exact ⟨owns_chg h1 hs (fun g e => hno g _ (owns_ty h1 e).2 (by decide)), h2.chg hs (fun i z => ⟨fun e => hno i _ (owns_ty n1 e).2 (by decide) z, fun _ _ _ _ _ hi => hno i _ hi (by decide) z⟩), owns_chg h3 hs (fun g e => hno g _ (owns_ty h3 e).2 (by decide))⟩
theorem LsAt.mono {base base' : Nat} {N : List (List Int)} (h : LsAt w base nv tv N) (hb : base' <= base) : LsAt w base' nv tv N := by
 obtain ⟨us, h1, h2, h3⟩ := h; refine ⟨us, owns_mono h1 hb, h2, fun i hi => ?_⟩
 obtain ⟨ao, c, e1, e2, e3, e4⟩ := h3 i hi; exact ⟨ao, c, e1, e2, e3, fun a e => ⟨(e4 a e).1, Nat.le_trans hb (e4 a e).2⟩⟩
end
end Go.Proofs.YtepefdhdcfnmkaaGreatDoor
namespace Go.Proofs.YtepefdhdcfnmkaaGreatDoor
open Go.ChangeShapes Go.WideShapes Go.ChangeAt Go.RowKit Go.Deep
open Terms Tm
set_option maxHeartbeats 6400000
set_option maxRecDepth 20000
section
variable {m : Mo} {l : List (Int × Int)}
end
theorem xp_bound {m : Mo} {ps : List (List (Int × Int))} {l : List (Int × Int)} {k P : Nat} (hP : prodTo m.vars m.vars.length = (P : Nat)) (hs : ∀ p ∈ xpP m ps l k, spOk m l p) : (xpP m ps l k).length <= P * 2 ^ (aheadL l).length := by
 have hnd : (xpP m ps l k).Nodup := exS_nodup _ _ k
 have hcode : ∀ p ∈ xpP m ps l k, 0 <= p.1 * ((2 ^ (aheadL l).length : Nat) : Int) + p.2 /\ p.1 * ((2 ^ (aheadL l).length : Nat) : Int) + p.2 < ((P * 2 ^ (aheadL l).length : Nat) : Int) := fun p hp => by
  obtain ⟨⟨h1, h2⟩, d, h3, h4⟩ := hs p hp; generalize 2 ^ (aheadL l).length = N at *; have h5 : p.1 * (N : Int) <= ((P : Int) - 1) * N := Int.mul_le_mul_of_nonneg_right (by omega) (by omega)
  have h6 : 0 <= p.1 * (N : Int) := Int.mul_nonneg h1 (by omega)
  have h7 : ((P : Int) - 1) * (N : Int) = (P : Int) * N - N := by rw [Int.sub_mul]; omega
  have h8 : ((P * N : Nat) : Int) = (P : Int) * N := by push_cast; rfl
  omega
 have hnd2 : ((xpP m ps l k).map fun p => p.1 * ((2 ^ (aheadL l).length : Nat) : Int) + p.2).Nodup := by
  refine List.Pairwise.map _ (fun a b hab => hab) ?_
  refine List.Pairwise.imp_of_mem ?_ hnd
  intro a b ha hb hne e; obtain ⟨_, d, h3, h4⟩ := hs a ha; obtain ⟨_, d', h3', h4'⟩ := hs b hb; generalize 2 ^ (aheadL l).length = N at *; have hN : (0 : Int) < N := by omega
  have e1 : a.2 = b.2 := by
   rw [h4, h4']; have r1 : ((d : Int) + a.1 * N) % (N : Int) = (d : Int) := by rw [Int.add_mul_emod_self_right]; exact Int.emod_eq_of_lt (by omega) (by omega)
   have r2 : ((d' : Int) + b.1 * N) % (N : Int) = (d' : Int) := by rw [Int.add_mul_emod_self_right]; exact Int.emod_eq_of_lt (by omega) (by omega)
   have e' : (d : Int) + a.1 * N = (d' : Int) + b.1 * N := by rw [h4, h4'] at e; omega
   rw [<- r1, <- r2, e']
  have e2 : a.1 * (N : Int) = b.1 * N := by omega
  exact hne (Prod.ext (Int.eq_of_mul_eq_mul_right (by omega) e2) e1)
 have := nodup_length (N := P * 2 ^ (aheadL l).length) hnd2 (fun y hy => by
  obtain ⟨p, hp, rfl⟩ := List.mem_map.1 hy
  exact hcode p hp)
 rw [List.length_map] at this; exact this
theorem xp_few {m : Mo} {ps : List (List (Int × Int))} {l : List (Int × Int)} {P : Nat} (hk : tkcode m ps l = 0) (hP : prodTo m.vars m.vars.length = (P : Nat)) (hz : P * 2 ^ (aheadL l).length <= 20000) : ¬ ExFull m ps l := by
 rintro ⟨k, h1, h2⟩
 have hs : ∀ j, j <= k + 1 -> ∀ p ∈ xpP m ps l j, spOk m l p := fun j => by
  induction j with
  | zero => exact fun _ => xpP_zero hk
  | succ j ih => exact fun hj => xpP_next hk (h1 j (by omega)) (ih (by omega))
 have := xp_bound hP (hs (k + 1) (Nat.le_refl _)); omega
end Go.Proofs.YtepefdhdcfnmkaaGreatDoor
namespace Go.Proofs.YtepefdhdcfnmkaaGreatDoor
open Go.ChangeShapes Go.WideShapes Go.ChangeAt Go.RowKit Go.Deep Go.Maps
open Terms Tm
set_option maxHeartbeats 6400000
set_option maxRecDepth 20000
theorem explore_bad (va vr pv fv : Value) (m : Mo) (ps : List (List (Int × Int))) (l : List (Int × Int)) (w : World) (hB : 0 < w.heap.size) (hT : TabAt w) (hV : TaskV w va vr pv fv m ps l) (hk : tkcode m ps l ≠ 0) :
  Calls Tryz.prog 33 #[.agg #[va, vr, pv, fv]] w (ExAns w m ps l) := by
 unfold ExAns; obtain ⟨ao, ac, rfl⟩ := hV.mo.1.shape; obtain ⟨ro, rc, rfl⟩ := hV.mo.2.shape; obtain ⟨po, pc, rfl⟩ := hV.ps.shape; obtain ⟨fo, fc, rfl, _⟩ := id hV.fo
 obtain ⟨W0, hW0⟩ : ∃ W0, W0 = (w.alloc (.cells #[.slice ao m.vars.length ac, .slice ro m.rules.length rc, .slice po ps.length pc, .slice fo l.length fc] 64)).alloc (.cells #[.slice none 0 0, .int .i64 0, .slice none 0 0, .slice none 0 0, .int .i64 0] 89) := ⟨_, rfl⟩
 have hbW : Below w.heap.size w W0 := by rw [hW0]; exact ((Below.refl _ _).alloc (Nat.le_refl _) _).alloc (by simp) _
 have hzW : W0.heap.size = w.heap.size + 2 := by rw [hW0]; simp
 have hX0 : W0.heap[w.heap.size + 1]? = some (grB (.slice none 0 0) (.slice none 0 0) (.slice none 0 0) 0 0) := by
  rw [hW0]; have := (MapKept.heap_alloc (w.alloc (.cells #[.slice ao m.vars.length ac, .slice ro m.rules.length rc, .slice po ps.length pc, .slice fo l.length fc] 64)) (.cells #[.slice none 0 0, .int .i64 0, .slice none 0 0, .slice none 0 0, .int .i64 0] 89)).1; rw [World.size_alloc] at this; exact this
 have hsv := surveyOf_bad _ _ _ _ m ps l W0 (Nat.lt_of_lt_of_le hB hbW.size) (hT.below hbW hB) (hV.below hbW) hk
 have HFin : Hid (∀ w1, Below W0.heap.size W0 w1 -> (w1.cell? ⟨w.heap.size + 1, 0, none⟩ = some (.slice none 0 0) /\ w1.cell? ⟨w.heap.size + 1, 1, none⟩ = some (.int .i64 0) /\ w1.cell? ⟨w.heap.size + 1, 2, none⟩ = some (.slice none 0 0) /\ w1.cell? ⟨w.heap.size + 1, 3, none⟩ = some (.slice none 0 0) /\ w1.cell? ⟨w.heap.size + 1, 4, none⟩ = some (.int .i64 0)) /\ (∀ i, w1.frozen? ⟨w.heap.size + 1, i, none⟩ = false) /\ Below w.heap.size w w1) := fun w1 h => by
  have hb := (h.block (w.heap.size + 1) (by omega)).trans hX0
  exact ⟨grB_cells hb, grB_free hb, hbW.trans (h.mono hbW.size)⟩
 have HK : Hid (tkcode m ps l ≠ 0) := hk; generalize tkcode m ps l = tc at *; generalize m.vars.length = vn at *; generalize m.rules.length = rn at *; generalize ps.length = pn at *; generalize l.length = fn at *; clear hV hT
 go_enter Tryz.func33, Tryz.ntmps33
 go_wp2_with (first | (go_at_call 48; rw [<- hW0]; refine hsv.mono ?_; rintro e w1 ⟨rfl, hb1⟩; obtain ⟨⟨x0, x1, x2, x3, x4⟩, xf, hbw⟩ := HFin.out w1 hb1; have f0 := xf 0; have f1 := xf 1; have f2 := xf 2; have f3 := xf 3; have f4 := xf 4))
 have hbF : Below w.heap.size w (((((w1.setCell ⟨w.heap.size + 1, 0, none⟩ (.slice none 0 0)).setCell ⟨w.heap.size + 1, 1, none⟩ (.int .i64 0)).setCell ⟨w.heap.size + 1, 2, none⟩ (.slice none 0 0)).setCell ⟨w.heap.size + 1, 3, none⟩ (.slice none 0 0)).setCell ⟨w.heap.size + 1, 4, none⟩ (.int .i64 0)) := hbw.trans ((chg_box w1 (w.heap.size + 1) _ _ _ _ _).below (fun i e => by omega) (by have := hbw.size; omega))
 refine bodyPost_ret (v := .tuple #[.agg #[.slice none 0 0, .int .i64 0, .slice none 0 0, .slice none 0 0, .int .i64 0], .int .i64 tc]) ?_ rfl (.inr (.inr ⟨HK.out, rfl, hbF⟩))
 simp [results, Tryz.results33, go_sem, x0, x1, x2, x3, x4]
theorem ex_start (W0 w1 w2 : World) (n : Nat) (va vr pv fv : Value) (m : Mo) (ps : List (List (Int × Int))) (l : List (Int × Int)) (ho : Option Addr) (hc : Nat) (so : Option Addr) (sc : Nat) (hk : tkcode m ps l = 0) (hb1 : Below W0.heap.size W0 w1) (hn : W0.heap.size <= n) (hs : SurvAt w1 (n + 2) va vr pv fv (.slice ho (aheadL l).length hc) n (n + 1)) (hor : w1.ownsRow W0.heap.size 3 1 (.slice ho (aheadL l).length hc) (aheadL l).length (ivals (aheadL l))) (hm : w1.heap[n]? = some (.map #[] 0) /\ w1.heap[n + 1]? = some (.map #[] 0)) (hb2 : Below w1.heap.size w1 w2) (hsp : SpO w2 w1.heap.size (.slice so (begL m ps l).length sc) (begL m ps l)) :
  Calls Tryz.prog 50 #[.pointer (some ⟨w2.heap.size + 1, 0, none⟩), .slice so (begL m ps l).length sc] ((w2.alloc (.map #[] 0)).alloc (.cells #[.slice none 0 0, .int .i64 ((begL m ps l).length : Nat), .slice none 0 0, .slice none 0 0, .int .i64 ((aheadL l).length : Nat), .map (some w2.heap.size)] 117)) fun e w3 => ∃ v sv, e = .returned v /\ Hid (ExW W0 w3 w2.heap.size (w2.heap.size + 1) w2.heap.size (n + 2) n (n + 1) (0 * 300001) va vr pv fv m ps l ho hc (xpP m ps l 0) (xpN m ps l 0) (xpT m ps l 0) ((begL m ps l).length : Nat) ((aheadL l).length : Nat) sv (.slice none 0 0) (.slice none 0 0)) := by
 have hbl := begL_len hk; have hv1 : SvOk (fun _ => True) W0 w1 (n + 2) n (n + 1) 0 va vr pv fv m ps l ho hc := SvOk.made (Below.refl _ _) hb1 hn hs hor hm.1 hm.2
 have hv2 := hv1.below hb2; have hl1 := hv2.box.lt; have hl2 : n < w2.heap.size := by omega
 obtain ⟨WA, hWA⟩ : ∃ WA, WA = (w2.alloc (.map #[] 0)).alloc (.cells #[.slice none 0 0, .int .i64 ((begL m ps l).length : Nat), .slice none 0 0, .slice none 0 0, .int .i64 ((aheadL l).length : Nat), .map (some w2.heap.size)] 117) := ⟨_, rfl⟩
 have hbA : Below w2.heap.size w2 WA := by rw [hWA]; exact ((Below.refl _ _).alloc (Nat.le_refl _) _).alloc (by simp) _
 have hmA : WA.heap[w2.heap.size]? = some (.map #[] 0) := by
  rw [hWA, Below.heap_alloc _ _ _ (by simp)]
  exact (MapKept.heap_alloc w2 _).1
 have hxA : WA.heap[w2.heap.size + 1]? = some (atB (.slice none 0 0) (.slice none 0 0) (.slice none 0 0) ((begL m ps l).length : Nat) ((aheadL l).length : Nat) w2.heap.size) := by
  rw [hWA]; have := (MapKept.heap_alloc (w2.alloc (.map #[] 0)) (.cells #[.slice none 0 0, .int .i64 ((begL m ps l).length : Nat), .slice none 0 0, .slice none 0 0, .int .i64 ((aheadL l).length : Nat), .map (some w2.heap.size)] 117)).1; rw [World.size_alloc] at this; exact this
 have hX : ExW W0 WA w2.heap.size (w2.heap.size + 1) w2.heap.size (n + 2) n (n + 1) (0 * 300001) va vr pv fv m ps l ho hc [] (xpN m ps l 0) (xpT m ps l 0) ((begL m ps l).length : Nat) ((aheadL l).length : Nat) (.slice none 0 0) (.slice none 0 0) (.slice none 0 0) := by
  refine ⟨((hv2.re (Pz' := offT (.slice none 0 0)) (fun _ _ _ e => by simp [Value.ownBlock] at e) (fun _ _ e => by simp [Value.ownBlock] at e)).below hbA).mono (by omega), ⟨hxA, by omega, Nat.le_refl _, LiesAt.new hmA, SpO.nil _ _, ⟨[], World.ownsRow_nil _ _ _ _, rfl, fun i hi => by simp [xpN] at hi⟩, World.ownsRow_nil _ _ _ _⟩, ?_, ?_, ?_, ?_⟩
  ·have := hv2.bel.size; omega
  ·omega
  ·omega
  ·omega
 have hsv := (hsp.later hbA (Nat.le_refl _)).v; have hIs : ∀ j, j < (begL m ps l).length -> I64s ((begL m ps l).getD j (0, 0)) := fun j hj => spot_I64 hk (begL_spot hk (by rw [List.getD_eq_getElem?_getD, List.getElem?_eq_getElem hj]; exact List.getElem_mem _))
 have hsep : ∀ a, so = some a -> ¬ atZ (w2.heap.size + 1) w2.heap.size (.slice none 0 0) a.block := fun a e z => by
  have hlt : a.block < w2.heap.size := by
   rcases hsp.2 with ⟨h0, _⟩ | ⟨g, cap, cur, h1, _, h3, _⟩
   ·rw [e] at h0; simp at h0
   ·rw [e] at h1
    injection h1 with h1 _ _
    injection h1 with h1
    subst h1; exact (Array.getElem?_eq_some_iff.1 h3).1
  rcases z with z | z | z
  ·omega
  ·omega
  ·simp [Value.ownBlock] at z
 rw [<- hWA]; refine (places_any WA w2.heap.size (w2.heap.size + 1) w2.heap.size [] _ _ _ _ _ _ _ _ so sc hX.tl hsv hsep hIs (by simp; omega)).mono fun e w3 ⟨h1, sv', h2, h3, h4, h5, h6⟩ => ?_
 exact ⟨_, sv', h1, hX.put h5 h2⟩
theorem ex_round (W0 wr : World) (base A lm B bs bl k : Nat) (va vr pv fv : Value) (m : Mo) (ps : List (List (Int × Int))) (l : List (Int × Int)) (ho : Option Addr) (hc : Nat) (init many : Int) (sv nv tv : Value) (hB : 0 < W0.heap.size) (hT : TabAt W0) (hV : TaskV W0 va vr pv fv m ps l) (hk : tkcode m ps l = 0) (hX : ExW W0 wr base A lm B bs bl (k * 300001) va vr pv fv m ps l ho hc (xpP m ps l k) (xpN m ps l k) (xpT m ps l k) init many sv nv tv) (hlt : k < (xpP m ps l k).length) (hz : (xpP m ps l k).length <= 20000) (hsp : ∀ p ∈ xpP m ps l k, spOk m l p) :
  Calls Tryz.prog 51 #[.pointer (some ⟨A, 0, none⟩), .pointer (some ⟨B, 0, none⟩), .agg #[.int .i64 (xpAt m ps l k).1, .int .i64 (xpAt m ps l k).2]] wr fun e w' => e = .returned (.int .i64 (if 20000 < (xpP m ps l (k + 1)).length then 12 else 0)) /\ ∃ sv nv tv, Hid (ExW W0 w' base A lm B bs bl ((k + 1) * 300001) va vr pv fv m ps l ho hc (xpP m ps l (k + 1)) (xpN m ps l (k + 1)) (xpT m ps l (k + 1)) init many sv nv tv) := by
 obtain ⟨h1, d, h2, h3⟩ := hsp _ (xpAt_mem hlt); have hgo := goThrough_any W0 wr base A lm B bs bl (k * 300001) va vr pv fv m ps l ho hc (xpP m ps l k) (xpN m ps l k) (xpT m ps l k) init many sv nv tv (xpAt m ps l k).1 d hB hT hV hk hX (by omega) h1 h2 hz (by rw [xpN_len]; omega) (by rw [xpT_len]; omega)
 unfold GoPost at hgo; rw [<- h3] at hgo; refine hgo.mono fun e w' ⟨g1, sv', nv', tv', g2⟩ => ⟨g1, sv', nv', tv', ?_⟩
 have e1 : (k + 1) * 300001 = k * 300001 + 300001 := by omega
 rw [e1]; exact g2
theorem explore_ok (va vr pv fv : Value) (m : Mo) (ps : List (List (Int × Int))) (l : List (Int × Int)) (w : World) (hB : 0 < w.heap.size) (hT : TabAt w) (hV : TaskV w va vr pv fv m ps l) (hk : tkcode m ps l = 0) :
  Calls Tryz.prog 33 #[.agg #[va, vr, pv, fv]] w (ExAns w m ps l) := by
 unfold ExAns; obtain ⟨ao, ac, rfl⟩ := hV.mo.1.shape; obtain ⟨ro, rc, rfl⟩ := hV.mo.2.shape; obtain ⟨po, pc, rfl⟩ := hV.ps.shape; obtain ⟨fo, fc, rfl, _⟩ := id hV.fo
 obtain ⟨W0, hW0⟩ : ∃ W0, W0 = (w.alloc (.cells #[.slice ao m.vars.length ac, .slice ro m.rules.length rc, .slice po ps.length pc, .slice fo l.length fc] 64)).alloc (.cells #[.slice none 0 0, .int .i64 0, .slice none 0 0, .slice none 0 0, .int .i64 0] 89) := ⟨_, rfl⟩
 have hbW : Below w.heap.size w W0 := by rw [hW0]; exact ((Below.refl _ _).alloc (Nat.le_refl _) _).alloc (by simp) _
 have hzW : W0.heap.size = w.heap.size + 2 := by rw [hW0]; simp
 have hX0 : W0.heap[w.heap.size + 1]? = some (grB (.slice none 0 0) (.slice none 0 0) (.slice none 0 0) 0 0) := by
  rw [hW0]; have := (MapKept.heap_alloc (w.alloc (.cells #[.slice ao m.vars.length ac, .slice ro m.rules.length rc, .slice po ps.length pc, .slice fo l.length fc] 64)) (.cells #[.slice none 0 0, .int .i64 0, .slice none 0 0, .slice none 0 0, .int .i64 0] 89)).1; rw [World.size_alloc] at this; exact this
 have hB0 : 0 < W0.heap.size := Nat.lt_of_lt_of_le hB hbW.size; have hT0 := hT.below hbW hB; have hV0 := hV.below hbW; have hsv := surveyOf_ok _ _ _ _ m ps l W0 hB0 hT0 hV0 hk
 have HFin : Hid (∀ w1, Below W0.heap.size W0 w1 -> (w1.cell? ⟨w.heap.size + 1, 0, none⟩ = some (.slice none 0 0) /\ w1.cell? ⟨w.heap.size + 1, 1, none⟩ = some (.int .i64 0) /\ w1.cell? ⟨w.heap.size + 1, 2, none⟩ = some (.slice none 0 0) /\ w1.cell? ⟨w.heap.size + 1, 3, none⟩ = some (.slice none 0 0) /\ w1.cell? ⟨w.heap.size + 1, 4, none⟩ = some (.int .i64 0)) /\ (∀ i, w1.frozen? ⟨w.heap.size + 1, i, none⟩ = false) /\ TyB w1 (w.heap.size + 1) 89 /\ Below w.heap.size w w1) := fun w1 h => by
  have hb := (h.block (w.heap.size + 1) (by omega)).trans hX0
  exact ⟨grB_cells hb, grB_free hb, ⟨_, _, hb⟩, hbW.trans (h.mono hbW.size)⟩
 have HBe : Hid (∀ (w1 : World) (B bs bl : Nat) (ho : Option Addr) (hcp : Nat), Below W0.heap.size W0 w1 -> SurvAt w1 B (.slice ao m.vars.length ac) (.slice ro m.rules.length rc) (.slice po ps.length pc) (.slice fo l.length fc) (.slice ho (aheadL l).length hcp) bs bl -> Calls Tryz.prog 49 #[.pointer (some ⟨B, 0, none⟩)] w1 fun e w' => ∃ so sc, e = .returned (.tuple #[.slice so (begL m ps l).length sc, .int .i64 0]) /\ Below w1.heap.size w1 w' /\ Hid (SpO w' w1.heap.size (.slice so (begL m ps l).length sc) (begL m ps l))) := fun w1 B bs bl ho hcp h hs => begin_any B _ _ _ _ m ps l ho hcp bs bl w1 (Nat.lt_of_lt_of_le hB0 h.size) (hT0.below h hB0) (hV0.below h) hk hs
 have HSt := (show Hid _ from fun (w1 w2 : World) (n : Nat) (ho : Option Addr) (hc : Nat) (so : Option Addr) (sc : Nat) => ex_start W0 w1 w2 n (.slice ao m.vars.length ac) (.slice ro m.rules.length rc) (.slice po ps.length pc) (.slice fo l.length fc) m ps l ho hc so sc hk)
 have HRd := (show Hid _ from fun (wr : World) (base A lm B bs bl k : Nat) (ho : Option Addr) (hc : Nat) (sv nv tv : Value) => ex_round W0 wr base A lm B bs bl k (.slice ao m.vars.length ac) (.slice ro m.rules.length rc) (.slice po ps.length pc) (.slice fo l.length fc) m ps l ho hc ((begL m ps l).length : Nat) ((aheadL l).length : Nat) sv nv tv hB0 hT0 hV0 hk)
 have HP0 : Hid ((∀ p ∈ xpP m ps l 0, spOk m l p) /\ (xpP m ps l 0).length <= 20000) := ⟨xpP_zero hk, by
  have h1 := (plTo_length (begL m ps l) []).2; have h2 := begL_len hk; have e : xpP m ps l 0 = plTo [] (begL m ps l) := rfl; rw [e]; simp at h1
  omega⟩
 have HPn : Hid (∀ k, k < (xpP m ps l k).length -> (∀ p ∈ xpP m ps l k, spOk m l p) -> ∀ p ∈ xpP m ps l (k + 1), spOk m l p) := fun k h1 h2 => xpP_next hk h1 h2
 have HK : Hid (tkcode m ps l = 0) := hk; have hbn := begL_len hk; have han := (lcode_zero (tk_zero hk).2).2.2.2.2; unfold SurvPost at hsv; clear hV hT hV0 hT0 hk; generalize hbl : (begL m ps l).length = bn at *; generalize hal : (aheadL l).length = an at *; generalize m.vars.length = vn at *; generalize m.rules.length = rn at *; generalize ps.length = pn at *; generalize l.length = fn at *
 have hmm := @run_makeMap Tryz.prog
 go_enter Tryz.func33, Tryz.ntmps33
 go_upto_region 8 with (first | (go_at_call 48; rw [<- hW0]; refine hsv.mono ?_; rintro e w1 ⟨n, ho, hcp, rfl, hb1, hn1, _, HS, HO, HM⟩; have hbe := HBe.out w1 _ _ _ _ _ hb1 HS.out) | (go_at_call 49; refine hbe.mono ?_; rintro e w2 ⟨so, sc, rfl, hb2, HSp⟩; have hst := HSt.out w1 w2 n ho hcp so sc hb1 hn1 HS.out HO.out HM.out hb2 HSp.out; have x4 := (HS.out.later hb2).c4))
 go_wp2_with (first | (go_at_call 50; refine hst.mono ?_; rintro e w3 ⟨v3, sv3, rfl, HX3⟩))
 generalize hA : w2.heap.size + 1 = A at *; generalize hlm : w2.heap.size = lm at *; generalize hBn : n + 2 = B at *; generalize hbs : n + 1 = bl at *; clear hst hsv hbe HSt HBe HS HO HM HSp x4 hb1 hb2 hmm hlm
 go_loopw [8] (fun i wr => ∃ k pk : Nat, i = .int .i64 k /\ k <= pk /\ pk <= 20000 /\ Hid ((xpP m ps l k).length = pk /\ (∀ p ∈ xpP m ps l k, spOk m l p) /\ ∀ j, j < k -> j < (xpP m ps l j).length) /\ ∃ vo vc nv tv, Hid (ExW W0 wr lm A lm B n bl (k * 300001) (.slice ao vn ac) (.slice ro rn rc) (.slice po pn pc) (.slice fo fn fc) m ps l ho hcp (xpP m ps l k) (xpN m ps l k) (xpT m ps l k) (bn : Nat) (an : Nat) (.slice vo pk vc) nv tv)) (fun i _ => 20001 - (intOf i).toNat)
 case atStart =>
  obtain ⟨vo, vc, e⟩ := HX3.out.tl.sp.shape; refine ⟨0, (xpP m ps l 0).length, rfl, Nat.zero_le _, HP0.out.2, ⟨rfl, HP0.out.1, fun j hj => by omega⟩, vo, vc, .slice none 0 0, .slice none 0 0, ?_⟩
  rw [<- e]; exact HX3.out
 case round =>
  obtain ⟨k, pk, rfl, hkp, hpk, HK2, vo, vc, nv, tv, HX⟩ := hrel; obtain ⟨a0, a1, a2, a3, a4, a5⟩ := atB_cells HX.out.tl.box
  by_cases hlt : k < pk
  ·have hki : (k : Int) < (pk : Int) := by omega
   have hlt2 : k < (xpP m ps l k).length := by rw [HK2.out.1]; exact hlt
   obtain ⟨b, off, rfl, _, c0, c1⟩ := HX.out.tl.sp.v.get hlt2; have hrd := HRd.out wr lm A lm B n bl k ho hcp _ nv tv HX.out hlt2 (by rw [HK2.out.1]; exact hpk) HK2.out.2.1
   have HKn : Hid ((∀ p ∈ xpP m ps l (k + 1), spOk m l p) /\ ∀ j, j < k + 1 -> j < (xpP m ps l j).length) := ⟨HPn.out k hlt2 HK2.out.2.1, fun j hj => by
    by_cases h : j < k
    ·exact HK2.out.2.2 j h
    ·obtain rfl : j = k := by omega
     exact hlt2⟩
   have e1 : (xpP m ps l k).getD k (0, 0) = xpAt m ps l k := rfl; rw [e1] at c0 c1; clear e1 HX HRd hlt2; generalize xpAt m ps l k = s at *; obtain ⟨x, y⟩ := s; simp only at c0 c1 hrd
   by_cases hfull : 20000 < (xpP m ps l (k + 1)).length
   ·rw [if_pos hfull] at hrd
    have HFu : Hid (ExFull m ps l) := ⟨k, fun j hj => HKn.out.2 j (by omega), hfull⟩
    clear hfull HKn HK2
    go_wp2_with (first | (go_at_call 51; refine hrd.mono ?_; rintro e w4 ⟨rfl, sv4, nv4, tv4, HX4⟩; obtain ⟨⟨x0, x1, x2, x3, x4⟩, xf, _, hbw⟩ := HFin.out w4 HX4.out.su.bel; have f0 := xf 0; have f1 := xf 1; have f2 := xf 2; have f3 := xf 3; have f4 := xf 4))
    have hbF : Below w.heap.size w (((((w4.setCell ⟨w.heap.size + 1, 0, none⟩ (.slice none 0 0)).setCell ⟨w.heap.size + 1, 1, none⟩ (.int .i64 0)).setCell ⟨w.heap.size + 1, 2, none⟩ (.slice none 0 0)).setCell ⟨w.heap.size + 1, 3, none⟩ (.slice none 0 0)).setCell ⟨w.heap.size + 1, 4, none⟩ (.int .i64 0)) := hbw.trans ((chg_box w4 (w.heap.size + 1) _ _ _ _ _).below (fun i e => by omega) (by have := hbw.size; omega))
    refine bodyPost_ret (v := .tuple #[.agg #[.slice none 0 0, .int .i64 0, .slice none 0 0, .slice none 0 0, .int .i64 0], .int .i64 12]) ?_ rfl (.inr (.inl ⟨HK.out, HFu.out, rfl, hbF⟩))
    simp [results, Tryz.results33, go_sem, x0, x1, x2, x3, x4]
   ·rw [if_neg hfull] at hrd
    have HLe : Hid ((xpP m ps l (k + 1)).length <= 20000 /\ pk <= (xpP m ps l (k + 1)).length) := ⟨by omega, by
     rw [<- HK2.out.1]
     exact (exS_pre (begL m ps l) (xpBh m ps l) k).length_le⟩
    clear hfull HK2
    go_wp2_with (first | (go_at_call 51; refine hrd.mono ?_; rintro e w4 ⟨rfl, sv4, nv4, tv4, HX4⟩))
    go_roundw
    case rel =>
     obtain ⟨vo4, vc4, e⟩ := HX4.out.tl.sp.shape; refine ⟨k + 1, (xpP m ps l (k + 1)).length, by go_num, by have := HLe.out.2; omega, HLe.out.1, ⟨rfl, HKn.out⟩, vo4, vc4, nv4, tv4, ?_⟩
     rw [<- e]; exact HX4.out
    case measure => simp [intOf]; omega
  ·obtain rfl : k = pk := by omega
   obtain ⟨⟨x0, x1, x2, x3, x4⟩, xf, hty, hbw⟩ := HFin.out wr HX.out.su.bel; have f0 := xf 0; have f1 := xf 1; have f2 := xf 2; have f3 := xf 3; have f4 := xf 4; have HDn : Hid (ExDone m ps l k) := ⟨HK2.out.1, hpk, HK2.out.2.2, HK2.out.2.1⟩
   have HG : Hid (GrX wr w.heap.size m ps l k (.slice vo k vc) nv tv) := by
    have hle : w.heap.size <= lm := by have := HX.out.lo.1; have := hbW.size; omega
    exact ⟨owns_mono HX.out.tl.sp hle, HX.out.tl.nx.mono hle, owns_mono HX.out.tl.st hle⟩
   obtain ⟨no, nn, nc, rfl⟩ : ∃ no nn nc, nv = .slice no nn nc := by
    obtain ⟨us, h1, _⟩ := HX.out.tl.nx; obtain ⟨x, y, e⟩ := owns_slice h1; exact ⟨_, _, _, e⟩
   obtain ⟨xo, xn, xc, rfl⟩ : ∃ xo xn xc, tv = .slice xo xn xc := by
    obtain ⟨x, y, e⟩ := owns_slice HX.out.tl.st; exact ⟨_, _, _, e⟩
   have HBF : Hid (∀ w8, Chg (fun i => i = w.heap.size + 1) wr w8 -> Below w.heap.size w w8 /\ GrX w8 w.heap.size m ps l k (.slice vo k vc) (.slice no nn nc) (.slice xo xn xc)) := fun w8 h => ⟨hbw.trans (h.below (fun i e => by omega) (by have := hbw.size; omega)), HG.out.chg h hty⟩
   clear HX HK2 HRd HG hty
   go_wp2_with fail
   obtain ⟨r1, r2⟩ := HBF.out _ (chg_box wr (w.heap.size + 1) _ _ _ _ _); refine bodyPost_ret (v := .tuple #[.agg #[.slice vo k vc, .int .i64 (bn : Nat), .slice no nn nc, .slice xo xn xc, .int .i64 (an : Nat)], .int .i64 0]) ?_ rfl (.inl ⟨HK.out, k, HDn.out, _, _, _, rfl, r1, r2⟩)
   simp [results, Tryz.results33, go_sem, x0, x1, x2, x3, x4]
theorem explore_any (va vr pv fv : Value) (m : Mo) (ps : List (List (Int × Int))) (l : List (Int × Int)) (w : World) (hB : 0 < w.heap.size) (hT : TabAt w) (hV : TaskV w va vr pv fv m ps l) :
  Calls Tryz.prog 33 #[.agg #[va, vr, pv, fv]] w (ExAns w m ps l) := by
 by_cases hk : tkcode m ps l = 0
 ·exact explore_ok va vr pv fv m ps l w hB hT hV hk
 ·exact explore_bad va vr pv fv m ps l w hB hT hV hk
end Go.Proofs.YtepefdhdcfnmkaaGreatDoor
namespace Go.Proofs.YtepefdhdcfnmkaaGreatDoor
open Go.ChangeShapes Go.WideShapes Go.ChangeAt Go.RowKit Go.Deep
open Terms
set_option maxHeartbeats 6400000
set_option maxRecDepth 20000
def clmTo (a : List Int) (h : Nat -> Nat -> Bool) (j : Nat) : Nat -> Int
 | 0 => 0
 | k + 1 => clmTo a h j k + if h (a.getD k 0).toNat j = true then 2 ^ k else 0
theorem clmTo_bounds (a : List Int) (h : Nat -> Nat -> Bool) (j : Nat) : ∀ k, 0 <= clmTo a h j k /\ clmTo a h j k < 2 ^ k := by
 intro k
 induction k with
 | zero => simp [clmTo]
 | succ k ih =>
  have h2 : (0 : Int) < 2 ^ k := Int.pow_pos (by decide)
  simp only [clmTo]; rw [Int.pow_succ]
  split <;> omega
end Go.Proofs.YtepefdhdcfnmkaaGreatDoor
namespace Go.Proofs.YtepefdhdcfnmkaaGreatDoor
open Terms
set_option maxHeartbeats 6400000
set_option maxRecDepth 20000
theorem bit_clm (a : List Int) (h : Nat -> Nat -> Bool) (j : Nat) : ∀ n k, k < n -> bitB (clmTo a h j n) k = h (a.getD k 0).toNat j := by
 intro n
 induction n with
 | zero => intro k hk; omega
 | succ n ih =>
  intro k hk; obtain ⟨b0, b1⟩ := clmTo_bounds a h j n; have hp : (0 : Int) < 2 ^ k := Int.pow_pos (by decide)
  by_cases e : k = n
  ·subst e
   have e1 : clmTo a h j (k + 1) = clmTo a h j k + if h (a.getD k 0).toNat j = true then 2 ^ k else 0 := rfl
   by_cases hb : h (a.getD k 0).toNat j = true
   ·rw [if_pos hb] at e1
    have : (clmTo a h j k + 2 ^ k) / 2 ^ k = 1 := by
     rw [show clmTo a h j k + 2 ^ k = clmTo a h j k + 1 * 2 ^ k by omega, Int.add_mul_ediv_right _ _ (by omega), Int.ediv_eq_zero_of_lt b0 b1]
     rfl
    rw [hb, e1]; unfold bitB; rw [this]; rfl
   ·rw [if_neg hb, Int.add_zero] at e1
    rw [e1, Bool.eq_false_iff.2 hb]; unfold bitB; rw [Int.ediv_eq_zero_of_lt b0 b1]; rfl
  ·have hkn : k < n := by omega
   rw [<- ih k hkn]; have e1 : clmTo a h j (n + 1) = clmTo a h j n + if h (a.getD n 0).toNat j = true then 2 ^ n else 0 := rfl
   by_cases hb : h (a.getD n 0).toNat j = true
   ·rw [if_pos hb] at e1
    obtain ⟨d, hd⟩ : ∃ d, n = k + 1 + d := ⟨n - (k + 1), by omega⟩
    have e2 : (2 : Int) ^ n = (2 * 2 ^ d) * 2 ^ k := by rw [hd, Int.pow_add, Int.pow_succ]; simp [Int.mul_comm, Int.mul_left_comm, Int.mul_assoc]
    have e3 : clmTo a h j (n + 1) / 2 ^ k % 2 = clmTo a h j n / 2 ^ k % 2 := by
     rw [e1, e2, Int.add_mul_ediv_right _ _ (by omega)]
     omega
    unfold bitB; rw [e3]
   ·rw [if_neg hb, Int.add_zero] at e1
    rw [e1]
theorem op_at {T : Tm} {l : List (Int × Int)} (ho : T.ops = l) {q : Nat} (hq : q < T.size) : l.getD q (0, 0) = ((T.sub q).kind, (T.sub q).val) := by
 obtain ⟨r, hr⟩ := Tm.sub_drop T q hq; rw [ho] at hr; have h0 : l.getD q (0, 0) = (l.drop q).getD 0 (0, 0) := by simp [List.getD_eq_getElem?_getD]
 rw [h0, hr, <- Tm.ops_head (T.sub q) (0, 0)]; have hne := Tm.ops_ne (T.sub q)
 cases hx : (T.sub q).ops with
 | nil => exact absurd hx hne
 | cons x s => simp
theorem sub_one {T : Tm} {q : Nat} {k v : Int} {a : Tm} (hq : q < T.size) (e : T.sub q = .un k v a) : T.sub (q + 1) = a := by
 have := Tm.sub_sub T q 1 hq (by rw [e]; have := a.size_pos; simp [Tm.size]; omega)
 rw [this, e]; exact Tm.sub_zero a
theorem sub_fst {T : Tm} {q : Nat} {k v : Int} {a b : Tm} (hq : q < T.size) (e : T.sub q = .bi k v a b) : T.sub (q + 1) = a := by
 have ha := a.size_pos; have := Tm.sub_sub T q 1 hq (by rw [e]; simp [Tm.size]; omega)
 rw [this, e]
 show (if 0 < a.size then a.sub 0 else b.sub (0 - a.size)) = a
 rw [if_pos (by omega), Tm.sub_zero]
theorem sub_snd {T : Tm} (hw : T.Wf) {l : List (Int × Int)} (ho : T.ops = l) {q : Nat} {k v : Int} {a b : Tm} (hq : q < T.size) (e : T.sub q = .bi k v a b) : T.sub (sec l q) = b := by
 have ha := a.size_pos; have hb := b.size_pos; have hf := Tm.sub_fits T hq; rw [e] at hf; simp only [Tm.size] at hf; have h1 := (Tm.end_at hw (q := q + 1) (by omega)).1
 rw [ho, sub_fst hq e] at h1; have hs : sec l q = q + (1 + a.size) := by unfold sec; rw [h1]; omega
 rw [hs, Tm.sub_sub T q (1 + a.size) hq (by rw [e]; simp only [Tm.size]; omega), e, show 1 + a.size = a.size + 1 by omega]
 show (if a.size < a.size then a.sub a.size else b.sub (a.size - a.size)) = b
 rw [if_neg (by omega), Nat.sub_self, Tm.sub_zero]
theorem line_tru {T : Tm} (hw : T.Wf) {l : List (Int × Int)} (ho : T.ops = l) (hz : endsCode (l.map Prod.fst) = 0) (σ : Nat -> Nat -> Bool) (letter : List Bool) (i : Nat) (hl : ∀ v : Int, 0 <= v -> letter.getD v.toNat false = σ i v.toNat) (hv : ∀ q, q < l.length -> (l.getD q (0, 0)).1 = 13 -> 0 <= (l.getD q (0, 0)).2) (h8 : ∀ q, q < l.length -> 8 <= (l.getD q (0, 0)).1) :
  ∀ d p, l.length <= p + d -> p < l.length -> tru l letter (clmTo (aheadL l) (fun q => (T.sub q).hb σ) i (aheadL l).length) p = (T.sub p).hb σ i := by
 have hsz : T.size = l.length := by rw [<- Tm.ops_length, ho]
 intro d
 induction d with
 | zero => intro p h1 h2; omega
 | succ d ih =>
  intro p h1 h2; have hq : p < T.size := by omega
  have hop := op_at ho hq; obtain ⟨q1, q2⟩ := part_in hz h2
  cases hb : lookB (l.getD p (0, 0)).1 with
  | true =>
   rw [tru_look h2 hb]
   have hlt : (aheadTo l p).length < (aheadL l).length := by
    have := aheadTo_mono l (p := p + 1) (n := l.length) (by omega)
    rw [aheadTo_yes hb, List.length_append] at this; exact this
   rw [bit_clm _ _ _ _ _ hlt]; obtain ⟨p', e1, e2, e3, e4⟩ := aheadTo_get l l.length (aheadTo l p).length hlt; have e1' : (aheadL l).getD (aheadTo l p).length 0 = (p' : Int) := e1; rw [e1']
   have : p' = p := by
    rcases Nat.lt_trichotomy p' p with h | h | h
    ·have := aheadTo_mono l (p := p' + 1) (n := p) (by omega)
     rw [aheadTo_yes e3, List.length_append] at this; simp at this; omega
    ·exact h
    ·have := aheadTo_mono l (p := p + 1) (n := p') (by omega)
     rw [aheadTo_yes hb, List.length_append] at this; simp at this; omega
   rw [this]; rfl
  | false =>
   rw [tru_mk h2 hb (fun h => (q2 h).1)]
   have hwf := Tm.sub_wf hw p; rw [hop] at hb q1 q2 ⊢; have hvp := hv p h2; rw [hop] at hvp
   cases hT : T.sub p with
   | leaf k v =>
    rw [hT] at hb hvp hwf; simp only [Tm.kind, Tm.val] at hb hvp ⊢; unfold mkB
    by_cases k13 : k = 13
    ·subst k13
     rw [if_pos rfl, Tm.hb_prop]; exact hl v (hvp rfl)
    ·by_cases k11 : k = 11
     ·subst k11
      rw [Tm.hb_yes]; rfl
     ·rw [Tm.hb_no _ _ _ k13 k11]
      have hpn : pn k = 0 := hwf.2; have k8 : k ≠ 8 := fun e => by rw [e] at hpn; exact absurd hpn (by decide)
      have k9 : k ≠ 9 := fun e => by rw [e] at hpn; exact absurd hpn (by decide)
      have k10 : k ≠ 10 := fun e => by rw [e] at hpn; exact absurd hpn (by decide)
      simp [k13, k11, k8, k9, k10]
   | un k v a =>
    have hs1 := sub_one hq hT; rw [hT] at hb hwf q1; simp only [Tm.kind, Tm.val] at hb q1 ⊢; have hpn : pn k = 1 := hwf.2.1; have hok : okK k = true := hwf.1
    have hk : k = 10 := by
     have h14 : ¬ (14 <= k /\ k <= 18) := by simpa [lookB] using hb
     unfold pn at hpn
     split at hpn
     ·omega
     ·split at hpn <;> omega
    subst hk; rw [ih (p + 1) (by omega) (q1 (by rw [hpn]; exact Nat.le_refl _)), hs1, Tm.hb_not]
    rfl
   | bi k v a b =>
    have hs1 := sub_fst hq hT; have hs2 := sub_snd hw ho hq hT; have h8p := h8 p h2; rw [hop, hT] at h8p; rw [hT] at hb hwf q1 q2; simp only [Tm.kind, Tm.val] at hb q1 q2 ⊢; have hpn : pn k = 2 := hwf.2.1; rw [ih (p + 1) (by omega) (q1 (by omega)), ih (sec l p) (by have := (q2 hpn).1; omega) (q2 hpn).2, hs1, hs2]
    simp only [Tm.kind] at h8p
    have hk : k = 8 \/ k = 9 := by
     have h14 : ¬ (14 <= k /\ k <= 18) := by simpa [lookB] using hb
     unfold pn at hpn
     split at hpn
     ·omega
     ·split at hpn <;> omega
    rcases hk with rfl | rfl
    ·rw [Tm.hb_and]; rfl
    ·rw [Tm.hb_or]; rfl
theorem kind_cases {k : Int} (h : lookB k = true) : k = 14 \/ k = 15 \/ k = 16 \/ k = 17 \/ k = 18 := by
 have : 14 <= k /\ k <= 18 := by simpa [lookB] using h
 omega
theorem look_parts {T : Tm} (hw : T.Wf) {l : List (Int × Int)} (ho : T.ops = l) {p : Nat} (hp : p < l.length) (hb : lookB (l.getD p (0, 0)).1 = true) :
  (∃ k v a, (k = 14 \/ k = 17 \/ k = 18) /\ (l.getD p (0, 0)).1 = k /\ T.sub p = .un k v a /\ T.sub (p + 1) = a) \/ (∃ k v a b, (k = 15 \/ k = 16) /\ (l.getD p (0, 0)).1 = k /\ T.sub p = .bi k v a b /\ T.sub (p + 1) = a /\ T.sub (sec l p) = b) := by
 have hsz : T.size = l.length := by rw [<- Tm.ops_length, ho]
 have hq : p < T.size := by omega
 have hop := op_at ho hq; have hwf := Tm.sub_wf hw p; have hk := kind_cases hb; rw [hop] at hk ⊢
 cases hT : T.sub p with
 | leaf k v =>
  rw [hT] at hk hwf; have hpn : pn k = 0 := hwf.2; simp only [Tm.kind] at hk
  exfalso
  rcases hk with rfl | rfl | rfl | rfl | rfl <;> exact absurd hpn (by decide)
 | un k v a =>
  have h1 := sub_one hq hT; rw [hT] at hk hwf; have hpn : pn k = 1 := hwf.2.1; simp only [Tm.kind] at hk ⊢
  left
  refine ⟨k, v, a, ?_, rfl, rfl, h1⟩
  rcases hk with rfl | rfl | rfl | rfl | rfl
  ·exact .inl rfl
  ·exact absurd hpn (by decide)
  ·exact absurd hpn (by decide)
  ·exact .inr (.inl rfl)
  ·exact .inr (.inr rfl)
 | bi k v a b =>
  have h1 := sub_fst hq hT; have h2 := sub_snd hw ho hq hT; rw [hT] at hk hwf; have hpn : pn k = 2 := hwf.2.1; simp only [Tm.kind] at hk ⊢
  right
  refine ⟨k, v, a, b, ?_, rfl, rfl, h1, h2⟩
  rcases hk with rfl | rfl | rfl | rfl | rfl
  ·exact absurd hpn (by decide)
  ·exact .inl rfl
  ·exact .inr rfl
  ·exact absurd hpn (by decide)
  ·exact absurd hpn (by decide)
theorem line_come {T : Tm} (hw : T.Wf) {l : List (Int × Int)} (ho : T.ops = l) (σ : Nat -> Nat -> Bool) {p : Nat} (hp : p < l.length) (hb : lookB (l.getD p (0, 0)).1 = true) (i : Nat) :
  (T.sub p).hb σ i = comeB (l.getD p (0, 0)).1 ((T.sub (p + 1)).hb σ i) ((T.sub (sec l p)).hb σ i) ((T.sub p).hb σ (i + 1)) ((T.sub (p + 1)).hb σ (i + 1)) := by
 rcases look_parts hw ho hp hb with ⟨k, v, a, hk, e1, e2, e3⟩ | ⟨k, v, a, b, hk, e1, e2, e3, e4⟩
 ·rw [e1, e2, e3]
  rcases hk with rfl | rfl | rfl
  ·rw [Tm.hb_next]; rfl
  ·rw [Tm.hb_fin, untB_step, <- Tm.hb_fin σ v]; simp [comeB]
  ·rw [Tm.hb_glob, untB_step, <- Tm.hb_glob σ v]; simp [comeB]
 ·rw [e1, e2, e3, e4]
  rcases hk with rfl | rfl
  ·rw [Tm.hb_until, untB_step, <- Tm.hb_until σ v]; rfl
  ·rw [Tm.hb_rel, untB_step, <- Tm.hb_rel σ v]
   show (_ || _) = (_ && (_ || _))
   cases Tm.hb σ a i <;> cases Tm.hb σ b i <;> simp
theorem line_meets {T : Tm} (hw : T.Wf) {l : List (Int × Int)} (ho : T.ops = l) {ls : List (List Bool)} {s : Nat} (hs : s < ls.length) {p : Nat} (hp : p < l.length) (hb : lookB (l.getD p (0, 0)).1 = true) :
  ∃ i, s <= i /\ i < ls.length /\ waitB (l.getD p (0, 0)).1 ((T.sub p).hb (sig ls s) i) ((T.sub (p + 1)).hb (sig ls s) i) ((T.sub (sec l p)).hb (sig ls s) i) = false := by
 refine Classical.byContradiction fun hno => ?_
 have hall : ∀ i, s <= i -> waitB (l.getD p (0, 0)).1 ((T.sub p).hb (sig ls s) i) ((T.sub (p + 1)).hb (sig ls s) i) ((T.sub (sec l p)).hb (sig ls s) i) = true := fun i hi => by
  have hm : s <= moAt s ls.length i /\ moAt s ls.length i < ls.length := ⟨by unfold moAt; split <;> omega, moAt_lt hs⟩
  refine Classical.byContradiction fun hf => hno ⟨moAt s ls.length i, hm.1, hm.2, ?_⟩
  rw [hb_mo hs, hb_mo hs, hb_mo hs]; exact Bool.eq_false_iff.2 hf
 rcases look_parts hw ho hp hb with ⟨k, v, a, hk, e1, e2, e3⟩ | ⟨k, v, a, b, hk, e1, e2, e3, e4⟩
 ·rw [e1, e2, e3] at hall
  rcases hk with rfl | rfl | rfl
  ·exact absurd (hall s (Nat.le_refl _)) (by simp [waitB])
  ·have h1 : ∀ i, s <= i -> Tm.hb (sig ls s) (.un 17 v a) i = true /\ Tm.hb (sig ls s) a i = false := fun i hi => by simpa [waitB] using hall i hi
   have h0 := (h1 s (Nat.le_refl _)).1; rw [Tm.hb_fin, untB_iff] at h0
   rcases h0 with ⟨j, hj, hu, _⟩ | ⟨hd, _⟩
   ·rw [(h1 j hj).2] at hu; cases hu
   ·cases hd
  ·have h1 : ∀ i, s <= i -> Tm.hb (sig ls s) (.un 18 v a) i = false /\ Tm.hb (sig ls s) a i = true := fun i hi => by simpa [waitB] using hall i hi
   have h0 := (h1 s (Nat.le_refl _)).1
   have : Tm.hb (sig ls s) (.un 18 v a) s = true := by
    rw [Tm.hb_glob, untB_iff]; exact .inr ⟨rfl, fun m hm => (h1 m hm).2⟩
   rw [this] at h0; cases h0
 ·rw [e1, e2, e3, e4] at hall
  rcases hk with rfl | rfl
  ·have h1 : ∀ i, s <= i -> Tm.hb (sig ls s) (.bi 15 v a b) i = true /\ Tm.hb (sig ls s) b i = false := fun i hi => by simpa [waitB] using hall i hi
   have h0 := (h1 s (Nat.le_refl _)).1; rw [Tm.hb_until, untB_iff] at h0
   rcases h0 with ⟨j, hj, hu, _⟩ | ⟨hd, _⟩
   ·rw [(h1 j hj).2] at hu; cases hu
   ·cases hd
  ·have h1 : ∀ i, s <= i -> Tm.hb (sig ls s) (.bi 16 v a b) i = false /\ Tm.hb (sig ls s) b i = true := fun i hi => by simpa [waitB] using hall i hi
   have h0 := (h1 s (Nat.le_refl _)).1
   have : Tm.hb (sig ls s) (.bi 16 v a b) s = true := by
    rw [Tm.hb_rel, untB_iff]; exact .inr ⟨rfl, fun m hm => (h1 m hm).2⟩
   rw [this] at h0; cases h0
theorem const_from {t : Nat -> Bool} {i j : Nat} (h : ∀ m, i <= m -> m < j -> t m = t (m + 1)) : ∀ m, i <= m -> m <= j -> t i = t m := by
 intro m
 induction m with
 | zero => intro h1 _; rw [Nat.le_zero.1 h1]
 | succ m ih =>
  intro h1 h2
  by_cases e : i = m + 1
  ·rw [e]
  ·rw [ih (by omega) (by omega), h m (by omega) (by omega)]
theorem unt_unique {u v t : Nat -> Bool} (d : Bool) (hst : ∀ i, t i = (u i || (v i && t (i + 1)))) (i : Nat) : t i = untB u v d i \/ ∀ m, i <= m -> u m = false /\ v m = true /\ t m = !d := by
  by_cases hex : ∃ j, i <= j /\ (u j = true \/ v j = false)
  · left
    obtain ⟨j0, h0, h1⟩ := hex; obtain ⟨j, hj, hp, hless⟩ := Tm.least (P := fun j => u j = true \/ v j = false) i j0 h0 h1
    have hmid : ∀ m, i <= m -> m < j -> u m = false /\ v m = true := fun m a b => by
      have := hless m a b
      constructor
      · exact Bool.eq_false_iff.2 fun e => this (.inl e)
      · exact Classical.byContradiction fun e => this (.inr (Bool.eq_false_iff.2 e))
    have h1 := const_from (t := t) (i := i) (j := j) (fun m a b => by have := hmid m a b; rw [hst m, this.1, this.2]; simp) j hj (Nat.le_refl _)
    have h2 := const_from (t := untB u v d) (i := i) (j := j) (fun m a b => by have := hmid m a b; rw [untB_step u v d m, this.1, this.2]; simp) j hj (Nat.le_refl _)
    rw [h1, h2, hst j, untB_step]
    rcases hp with h | h
    · rw [h]; simp
    · rw [h]; simp
  · have hall : ∀ m, i <= m -> u m = false /\ v m = true := fun m hm => by
      constructor
      · exact Bool.eq_false_iff.2 fun e => hex ⟨m, hm, .inl e⟩
      · exact Classical.byContradiction fun e => hex ⟨m, hm, .inr (Bool.eq_false_iff.2 e)⟩
    have hc : ∀ m, i <= m -> t i = t m := fun m hm => const_from (t := t) (i := i) (j := m) (fun k a _ => by have := hall k a; rw [hst k, this.1, this.2]; simp) m hm (Nat.le_refl _)
    by_cases e : t i = d
    · left
      rw [e, unt_stuck (u := u) (v := v) (d := d) hall]
    · right
      intro m hm; refine ⟨(hall m hm).1, (hall m hm).2, ?_⟩
      rw [<- hc m hm]; generalize t i = x at e
      cases d <;> cases x <;> first | rfl | exact absurd rfl e
theorem line_only {T : Tm} (hw : T.Wf) {l : List (Int × Int)} (ho : T.ops = l) (hz : endsCode (l.map Prod.fst) = 0) {ls : List (List Bool)} {s : Nat} (hs : s < ls.length) (t : Nat -> Nat -> Bool)
  (hper : ∀ i p, t (moAt s ls.length i) p = t i p)
  (hmk : ∀ i p, p < l.length -> lookB (l.getD p (0, 0)).1 = false -> (1 <= pn (l.getD p (0, 0)).1 -> t i (p + 1) = (T.sub (p + 1)).hb (sig ls s) i) -> (pn (l.getD p (0, 0)).1 = 2 -> t i (sec l p) = (T.sub (sec l p)).hb (sig ls s) i) -> t i p = (T.sub p).hb (sig ls s) i)
  (hfol : ∀ i p, p < l.length -> lookB (l.getD p (0, 0)).1 = true -> t i p = comeB (l.getD p (0, 0)).1 (t i (p + 1)) (t i (sec l p)) (t (i + 1) p) (t (i + 1) (p + 1)))
  (hmet : ∀ p, p < l.length -> lookB (l.getD p (0, 0)).1 = true -> ∃ i, s <= i /\ i < ls.length /\ waitB (l.getD p (0, 0)).1 (t i p) (t i (p + 1)) (t i (sec l p)) = false) :
  ∀ d p, l.length <= p + d -> p < l.length -> ∀ i, t i p = (T.sub p).hb (sig ls s) i := by
 intro d
 induction d with
 | zero => intro p h1 h2; omega
 | succ d ih =>
  intro p h1 h2 i; obtain ⟨q1, q2⟩ := part_in hz h2
  cases hb : lookB (l.getD p (0, 0)).1 with
  | false => exact hmk i p h2 hb (fun h => ih (p + 1) (by omega) (q1 h) i) (fun h => ih (sec l p) (by have := (q2 h).1; omega) (q2 h).2 i)
  | true =>
   have hnw : ∀ c, (∀ m, c <= m -> waitB (l.getD p (0, 0)).1 (t m p) (t m (p + 1)) (t m (sec l p)) = true) -> False := fun c hall => by
    obtain ⟨i0, a1, a2, a3⟩ := hmet p h2 hb
    have hj : moAt s ls.length (i0 + c * (ls.length - s)) = i0 := by
     unfold moAt
     split
     ·rename_i hlt
      have : c * (ls.length - s) = 0 := by
       rcases Nat.eq_zero_or_pos c with h | h
       ·rw [h, Nat.zero_mul]
       ·have : ls.length - s <= c * (ls.length - s) := Nat.le_mul_of_pos_left _ h
        omega
      omega
     ·rw [show i0 + c * (ls.length - s) - s = (i0 - s) + c * (ls.length - s) by omega, Nat.add_mul_mod_self_right, Nat.mod_eq_of_lt (by omega)]
      omega
    have hle : c <= i0 + c * (ls.length - s) := by
     have : c * 1 <= c * (ls.length - s) := Nat.mul_le_mul_left _ (by omega)
     omega
    have := hall _ hle; rw [<- hper (i0 + c * (ls.length - s)) p, <- hper (i0 + c * (ls.length - s)) (p + 1), <- hper (i0 + c * (ls.length - s)) (sec l p), hj, a3] at this
    cases this
   rcases look_parts hw ho h2 hb with ⟨k, v, a, hk, e1, e2, e3⟩ | ⟨k, v, a, b, hk, e1, e2, e3, e4⟩
   ·have hp1 : p + 1 < l.length := q1 (by rw [e1]; rcases hk with rfl | rfl | rfl <;> decide)
    have ha : ∀ i, t i (p + 1) = Tm.hb (sig ls s) a i := fun i => by rw [ih (p + 1) (by omega) hp1 i, e3]
    have hf := fun i => hfol i p h2 hb
    rw [e1] at hnw; rw [e2]
    rcases hk with rfl | rfl | rfl
    ·have := hf i
     rw [e1] at this; rw [this, Tm.hb_next, <- ha]; rfl
    ·rw [Tm.hb_fin]
     rcases unt_unique (u := Tm.hb (sig ls s) a) (v := fun _ => true) (t := fun i => t i p) false (fun i => by show t i p = _; rw [hf i, e1, ha]; rfl) i with h | h
     ·exact h
     ·exact (hnw i fun m hm => by have := h m hm; rw [ha, this.1, this.2.2]; rfl).elim
    ·rw [Tm.hb_glob]
     rcases unt_unique (u := fun _ => false) (v := Tm.hb (sig ls s) a) (t := fun i => t i p) true (fun i => by show t i p = _; rw [hf i, e1, ha]; simp [comeB]) i with h | h
     ·exact h
     ·exact (hnw i fun m hm => by have := h m hm; rw [ha, this.2.1, this.2.2]; rfl).elim
   ·have hp2 : pn (l.getD p (0, 0)).1 = 2 := by rw [e1]; rcases hk with rfl | rfl <;> rfl
    have hp1 : p + 1 < l.length := q1 (by omega)
    have ha : ∀ i, t i (p + 1) = Tm.hb (sig ls s) a i := fun i => by rw [ih (p + 1) (by omega) hp1 i, e3]
    have hbb : ∀ i, t i (sec l p) = Tm.hb (sig ls s) b i := fun i => by rw [ih (sec l p) (by have := (q2 hp2).1; omega) (q2 hp2).2 i, e4]
    have hf := fun i => hfol i p h2 hb
    rw [e1] at hnw; rw [e2]
    rcases hk with rfl | rfl
    ·rw [Tm.hb_until]
     rcases unt_unique (u := Tm.hb (sig ls s) b) (v := Tm.hb (sig ls s) a) (t := fun i => t i p) false (fun i => by show t i p = _; rw [hf i, e1, ha, hbb]; rfl) i with h | h
     ·exact h
     ·exact (hnw i fun m hm => by have := h m hm; rw [hbb, this.1, this.2.2]; cases t m (p + 1) <;> rfl).elim
    ·rw [Tm.hb_rel]
     rcases unt_unique (u := fun j => Tm.hb (sig ls s) a j && Tm.hb (sig ls s) b j) (v := Tm.hb (sig ls s) b) (t := fun i => t i p) true (fun i => by show t i p = _; rw [hf i, e1, ha, hbb]; show (_ && (_ || _)) = (_ || _); cases Tm.hb (sig ls s) a i <;> cases Tm.hb (sig ls s) b i <;> simp) i with h | h
     ·exact h
     ·exact (hnw i fun m hm => by have := h m hm; rw [hbb, this.2.1, this.2.2]; cases t m (p + 1) <;> rfl).elim
theorem mk_hb {T : Tm} (hw : T.Wf) {l : List (Int × Int)} (ho : T.ops = l) (σ : Nat -> Nat -> Bool) (letter : List Bool) (i : Nat) (hl : ∀ v : Int, 0 <= v -> letter.getD v.toNat false = σ i v.toNat) (hv : ∀ q, q < l.length -> (l.getD q (0, 0)).1 = 13 -> 0 <= (l.getD q (0, 0)).2) (h8 : ∀ q, q < l.length -> 8 <= (l.getD q (0, 0)).1) {p : Nat} (h2 : p < l.length) (hb : lookB (l.getD p (0, 0)).1 = false) {x y : Bool} (hx1 : 1 <= pn (l.getD p (0, 0)).1 -> x = (T.sub (p + 1)).hb σ i) (hx2 : pn (l.getD p (0, 0)).1 = 2 -> y = (T.sub (sec l p)).hb σ i) : mkB (l.getD p (0, 0)) letter x y = (T.sub p).hb σ i := by
 have hsz : T.size = l.length := by rw [<- Tm.ops_length, ho]
 have hq : p < T.size := by omega
 have hop := op_at ho hq; have hwf := Tm.sub_wf hw p; rw [hop] at hb hx1 hx2 ⊢; have hvp := hv p h2; rw [hop] at hvp
 cases hT : T.sub p with
 | leaf k v =>
  rw [hT] at hb hvp hwf; simp only [Tm.kind, Tm.val] at hb hvp ⊢; unfold mkB
  by_cases k13 : k = 13
  ·subst k13
   rw [if_pos rfl, Tm.hb_prop]; exact hl v (hvp rfl)
  ·by_cases k11 : k = 11
   ·subst k11
    rw [Tm.hb_yes]; rfl
   ·rw [Tm.hb_no _ _ _ k13 k11]
    have hpn : pn k = 0 := hwf.2; have k8 : k ≠ 8 := fun e => by rw [e] at hpn; exact absurd hpn (by decide)
    have k9 : k ≠ 9 := fun e => by rw [e] at hpn; exact absurd hpn (by decide)
    have k10 : k ≠ 10 := fun e => by rw [e] at hpn; exact absurd hpn (by decide)
    simp [k13, k11, k8, k9, k10]
 | un k v a =>
  have hs1 := sub_one hq hT; rw [hT] at hb hwf hx1; simp only [Tm.kind, Tm.val] at hb hx1 ⊢; have hpn : pn k = 1 := hwf.2.1; have hok : okK k = true := hwf.1
  have hk : k = 10 := by
   have h14 : ¬ (14 <= k /\ k <= 18) := by simpa [lookB] using hb
   unfold pn at hpn
   split at hpn
   ·omega
   ·split at hpn <;> omega
  subst hk; rw [hx1 (by rw [hpn]; exact Nat.le_refl _), hs1, Tm.hb_not]
  rfl
 | bi k v a b =>
  have hs1 := sub_fst hq hT; have hs2 := sub_snd hw ho hq hT; have h8p := h8 p h2; rw [hop, hT] at h8p; rw [hT] at hb hwf hx1 hx2; simp only [Tm.kind, Tm.val] at hb hx1 hx2 ⊢; have hpn : pn k = 2 := hwf.2.1; rw [hx1 (by omega), hx2 hpn, hs1, hs2]
  simp only [Tm.kind] at h8p
  have hk : k = 8 \/ k = 9 := by
   have h14 : ¬ (14 <= k /\ k <= 18) := by simpa [lookB] using hb
   unfold pn at hpn
   split at hpn
   ·omega
   ·split at hpn <;> omega
  rcases hk with rfl | rfl
  ·rw [Tm.hb_and]; rfl
  ·rw [Tm.hb_or]; rfl
theorem bits_eq : ∀ (n : Nat) (x y : Int), 0 <= x -> x < 2 ^ n -> 0 <= y -> y < 2 ^ n -> (∀ k, k < n -> bitB x k = bitB y k) -> x = y := by
 intro n
 induction n with
 | zero => intro x y a b c d _; simp at b d; omega
 | succ n ih =>
  intro x y a b c d h; rw [Int.pow_succ] at b d; have h0 : bitB x 0 = bitB y 0 := h 0 (by omega)
  have e0 : x % 2 = y % 2 := by
   unfold bitB at h0; simp only [Int.pow_zero, Int.ediv_one] at h0; have hx : x % 2 = 0 \/ x % 2 = 1 := by omega
   have hy : y % 2 = 0 \/ y % 2 = 1 := by omega
   rcases hx with hx | hx <;> rcases hy with hy | hy
   ·rw [hx, hy]
   ·rw [hx, hy] at h0; simp at h0
   ·rw [hx, hy] at h0; simp at h0
   ·rw [hx, hy]
  have hh : x / 2 = y / 2 := ih (x / 2) (y / 2) (by omega) (by omega) (by omega) (by omega) fun k hk => by
   have := h (k + 1) (by omega)
   unfold bitB at this ⊢; rw [Int.pow_succ, Int.mul_comm, <- Int.ediv_ediv_of_nonneg (by decide), <- Int.ediv_ediv_of_nonneg (by decide)] at this
   exact this
  omega
theorem claims_only {T : Tm} (hw : T.Wf) {l : List (Int × Int)} (ho : T.ops = l) (hz : endsCode (l.map Prod.fst) = 0) (hv : ∀ q, q < l.length -> (l.getD q (0, 0)).1 = 13 -> 0 <= (l.getD q (0, 0)).2) (h8 : ∀ q, q < l.length -> 8 <= (l.getD q (0, 0)).1) {ls : List (List Bool)} {s : Nat} (hs : s < ls.length) (mine : Nat -> Int)
  (hm : ∀ i, i < ls.length -> 0 <= mine i /\ mine i < 2 ^ (aheadL l).length)
  (hfol : ∀ i, i < ls.length -> ∀ p, p < l.length -> lookB (l.getD p (0, 0)).1 = true -> tru l (ls.getD i []) (mine i) p = comeB (l.getD p (0, 0)).1 (tru l (ls.getD i []) (mine i) (p + 1)) (tru l (ls.getD i []) (mine i) (sec l p)) (tru l (ls.getD (moAt s ls.length (i + 1)) []) (mine (moAt s ls.length (i + 1))) p) (tru l (ls.getD (moAt s ls.length (i + 1)) []) (mine (moAt s ls.length (i + 1))) (p + 1)))
  (hmet : ∀ p, p < l.length -> lookB (l.getD p (0, 0)).1 = true -> ∃ i, s <= i /\ i < ls.length /\ waitB (l.getD p (0, 0)).1 (tru l (ls.getD i []) (mine i) p) (tru l (ls.getD i []) (mine i) (p + 1)) (tru l (ls.getD i []) (mine i) (sec l p)) = false) :
  ∀ i, i < ls.length -> mine i = clmTo (aheadL l) (fun q => (T.sub q).hb (sig ls s)) i (aheadL l).length := by
 have hmm : ∀ i, moAt s ls.length (moAt s ls.length i) = moAt s ls.length i := fun i => moAt_low (moAt_lt hs)
 have key := line_only hw ho hz hs (fun i p => tru l (ls.getD (moAt s ls.length i) []) (mine (moAt s ls.length i)) p)
  (fun i p => by simp only [hmm])
  (fun i p h2 hb hx1 hx2 => by
   obtain ⟨_, q2⟩ := part_in hz h2
   show tru _ _ _ _ = _
   rw [tru_mk h2 hb (fun h => (q2 h).1)]
   exact mk_hb hw ho (sig ls s) _ i (fun v _ => rfl) hv h8 h2 hb hx1 hx2)
  (fun i p h2 hb => by
   have := hfol (moAt s ls.length i) (moAt_lt hs) p h2 hb
   have e : moAt s ls.length (moAt s ls.length i + 1) = moAt s ls.length (i + 1) := by
    unfold moAt
    by_cases h : i < ls.length
    ·rw [if_pos h]
    ·rw [if_neg h, if_neg (show ¬ i + 1 < ls.length by omega)]
     have hL : 0 < ls.length - s := by omega
     have hr := Nat.mod_lt (i - s) hL; have e1 : i + 1 - s = (i - s) + 1 := by omega
     rw [e1, <- Nat.mod_add_mod]
     by_cases h3 : s + (i - s) % (ls.length - s) + 1 < ls.length
     ·rw [if_pos h3, Nat.mod_eq_of_lt (show (i - s) % (ls.length - s) + 1 < ls.length - s by omega)]; omega
     ·rw [if_neg h3, show s + (i - s) % (ls.length - s) + 1 - s = (i - s) % (ls.length - s) + 1 by omega]
   rw [e] at this
   exact this)
  (fun p h2 hb => by
   obtain ⟨i, a1, a2, a3⟩ := hmet p h2 hb
   exact ⟨i, a1, a2, by simp only [moAt_low a2]; exact a3⟩)
 intro i hi; obtain ⟨c0, c1⟩ := clmTo_bounds (aheadL l) (fun q => (T.sub q).hb (sig ls s)) i (aheadL l).length
 refine bits_eq _ _ _ (hm i hi).1 (hm i hi).2 c0 c1 fun k hk => ?_
 rw [bit_clm _ _ _ _ _ hk]; obtain ⟨p, e1, e2, e3, e4⟩ := aheadTo_get l l.length k hk; have e1' : (aheadL l).getD k 0 = (p : Int) := e1; have := key l.length p (by omega) e2 i
 simp only [moAt_low hi] at this; rw [tru_look e2 e3, e4] at this; rw [this, e1']; rfl
theorem claims_tru {T : Tm} (hw : T.Wf) {l : List (Int × Int)} (ho : T.ops = l) (hz : endsCode (l.map Prod.fst) = 0) (hv : ∀ q, q < l.length -> (l.getD q (0, 0)).1 = 13 -> 0 <= (l.getD q (0, 0)).2) (h8 : ∀ q, q < l.length -> 8 <= (l.getD q (0, 0)).1) {ls : List (List Bool)} {s : Nat} {i : Nat} (hi : i < ls.length) {p : Nat} (hp : p < l.length) :
  tru l (ls.getD i []) (clmTo (aheadL l) (fun q => (T.sub q).hb (sig ls s)) i (aheadL l).length) p = (T.sub p).hb (sig ls s) i :=
 line_tru hw ho hz (sig ls s) _ i (fun v _ => by unfold sig; rw [moAt_low hi]) hv h8 l.length p (by omega) hp
theorem claims_fit {T : Tm} (hw : T.Wf) {l : List (Int × Int)} (ho : T.ops = l) (hz : endsCode (l.map Prod.fst) = 0) (hv : ∀ q, q < l.length -> (l.getD q (0, 0)).1 = 13 -> 0 <= (l.getD q (0, 0)).2) (h8 : ∀ q, q < l.length -> 8 <= (l.getD q (0, 0)).1) {ls : List (List Bool)} {s : Nat} (hs : s < ls.length) (mine : Nat -> Int)
  (hm : ∀ i, i < ls.length -> mine i = clmTo (aheadL l) (fun q => (T.sub q).hb (sig ls s)) i (aheadL l).length) :
  (∀ i, i < ls.length -> ∀ p, p < l.length -> lookB (l.getD p (0, 0)).1 = true -> tru l (ls.getD i []) (mine i) p = comeB (l.getD p (0, 0)).1 (tru l (ls.getD i []) (mine i) (p + 1)) (tru l (ls.getD i []) (mine i) (sec l p)) (tru l (ls.getD (moAt s ls.length (i + 1)) []) (mine (moAt s ls.length (i + 1))) p) (tru l (ls.getD (moAt s ls.length (i + 1)) []) (mine (moAt s ls.length (i + 1))) (p + 1))) /\
  ∀ p, p < l.length -> lookB (l.getD p (0, 0)).1 = true -> ∃ i, s <= i /\ i < ls.length /\ waitB (l.getD p (0, 0)).1 (tru l (ls.getD i []) (mine i) p) (tru l (ls.getD i []) (mine i) (p + 1)) (tru l (ls.getD i []) (mine i) (sec l p)) = false := by
 have two : ∀ p, p < l.length -> lookB (l.getD p (0, 0)).1 = true -> p + 1 < l.length /\ ((l.getD p (0, 0)).1 = 15 \/ (l.getD p (0, 0)).1 = 16 -> sec l p < l.length) := fun p hp hb => by
  obtain ⟨q1, q2⟩ := part_in hz hp; have hk := kind_cases hb; generalize (l.getD p (0, 0)).1 = k at *; refine ⟨q1 (by rcases hk with rfl | rfl | rfl | rfl | rfl <;> decide), fun h => (q2 (by rcases h with rfl | rfl <;> rfl)).2⟩
 have sec_free : ∀ k (x y y' z nx : Bool), lookB k = true -> (k = 15 \/ k = 16 -> y = y') -> comeB k x y z nx = comeB k x y' z nx := fun k x y y' z nx hb h => by
  rcases kind_cases hb with rfl | rfl | rfl | rfl | rfl
  ·rfl
  ·rw [h (.inl rfl)]
  ·rw [h (.inr rfl)]
  ·rfl
  ·rfl
 have sec_free2 : ∀ k (a x y y' : Bool), lookB k = true -> (k = 15 \/ k = 16 -> y = y') -> waitB k a x y = waitB k a x y' := fun k a x y y' hb h => by
  rcases kind_cases hb with rfl | rfl | rfl | rfl | rfl
  ·rfl
  ·rw [h (.inl rfl)]
  ·rw [h (.inr rfl)]
  ·rfl
  ·rfl
 refine ⟨fun i hi p hp hb => ?_, fun p hp hb => ?_⟩
 ·obtain ⟨p1, p2⟩ := two p hp hb
  have hj := moAt_lt (s := s) (n := ls.length) (i := i + 1) hs; rw [hm i hi, hm _ hj, claims_tru hw ho hz hv h8 hi hp, claims_tru hw ho hz hv h8 hi p1, claims_tru hw ho hz hv h8 hj hp, claims_tru hw ho hz hv h8 hj p1, hb_mo hs, hb_mo hs]; rw [sec_free _ _ _ ((T.sub (sec l p)).hb (sig ls s) i) _ _ hb (fun h => claims_tru hw ho hz hv h8 hi (p2 h))]
  exact line_come hw ho (sig ls s) hp hb i
 ·obtain ⟨p1, p2⟩ := two p hp hb
  obtain ⟨i, a1, a2, a3⟩ := line_meets hw ho hs hp hb; refine ⟨i, a1, a2, ?_⟩
  rw [hm i a2, claims_tru hw ho hz hv h8 a2 hp, claims_tru hw ho hz hv h8 a2 p1, sec_free2 _ _ _ _ ((T.sub (sec l p)).hb (sig ls s) i) hb (fun h => claims_tru hw ho hz hv h8 a2 (p2 h))]
  exact a3
end Go.Proofs.YtepefdhdcfnmkaaGreatDoor
namespace Go.Proofs.YtepefdhdcfnmkaaGreatDoor
open Go.ChangeShapes Go.WideShapes Go.ChangeAt Go.RowKit Go.Deep
open Terms
set_option maxHeartbeats 6400000
set_option maxRecDepth 20000
theorem met_clm (l : List (Int × Int)) (h : Nat -> Bool) : ∀ k, metTo l h k = clmTo (aheadL l) (fun q _ => !waitAt l h q) 0 k := by
 intro k
 induction k with
 | zero => simp [metTo, clmTo]
 | succ k ih =>
  simp only [metTo, clmTo, ih]
  by_cases hw : waitAt l h ((aheadL l).getD k 0).toNat = true
  ·rw [if_pos hw, if_neg (by rw [hw]; decide)]
  ·rw [if_neg hw, if_pos (by rw [Bool.not_eq_true'] ; exact Bool.eq_false_iff.2 hw)]
theorem met_bit (l : List (Int × Int)) (h : Nat -> Bool) {n j : Nat} (hj : j < n) : bitB (metTo l h n) j = !waitAt l h ((aheadL l).getD j 0).toNat := by
 rw [met_clm, bit_clm _ _ _ _ _ hj]
theorem good_at {m : Nat} {x : List (Int × Int)} {T : Tm} (hF : FOk m x T) {q : Nat} (hq : q < x.length) : lopErr 3 (x.getD q (0, 0)) = 0 := hF.good _ (by rw [List.getD_eq_getElem?_getD, List.getElem?_eq_getElem hq, Option.getD_some]; exact List.getElem_mem hq)
theorem good_vals {m : Nat} {x : List (Int × Int)} {T : Tm} (hF : FOk m x T) : (∀ q, q < x.length -> (x.getD q (0, 0)).1 = 13 -> 0 <= (x.getD q (0, 0)).2) /\ ∀ q, q < x.length -> 8 <= (x.getD q (0, 0)).1 := by
 refine ⟨fun q hq h13 => ?_, fun q hq => ?_⟩
 ·have := good_at hF hq
  generalize x.getD q (0, 0) = o at *; unfold lopErr at this; obtain ⟨k, v⟩ := o; simp only at h13
  subst h13; simp at this ⊢
  omega
 ·have := good_at hF hq
  generalize x.getD q (0, 0) = o at *; unfold lopErr at this; obtain ⟨k, v⟩ := o; simp only at this ⊢
  by_cases h : k < 8
  ·exfalso
   revert this
   simp
   omega
  ·omega
theorem ahead_mono (l : List (Int × Int)) : ∀ (d n : Nat), ∃ r, aheadTo l (n + d) = aheadTo l n ++ r := by
 intro d
 induction d with
 | zero => intro n; exact ⟨[], by simp⟩
 | succ d ih =>
  intro n; obtain ⟨r, h⟩ := ih n; rw [show n + (d + 1) = (n + d) + 1 by omega]
  simp only [aheadTo]
  split
  ·exact ⟨r ++ [((n + d : Nat) : Int)], by rw [h, List.append_assoc]⟩
  ·exact ⟨r, by rw [List.append_nil]; exact h⟩
theorem ahead_at {l : List (Int × Int)} {p : Nat} (hp : p < l.length) (hb : lookB (l.getD p (0, 0)).1 = true) : (aheadTo l p).length < (aheadL l).length /\ (aheadL l).getD (aheadTo l p).length 0 = (p : Int) := by
 obtain ⟨r, h⟩ := ahead_mono l (l.length - (p + 1)) (p + 1); rw [show p + 1 + (l.length - (p + 1)) = l.length by omega] at h
 have h1 : aheadTo l (p + 1) = aheadTo l p ++ [(p : Int)] := by simp only [aheadTo]; rw [if_pos hb]
 unfold aheadL; rw [h, h1]; refine ⟨by simp, ?_⟩
 simp [List.getD_eq_getElem?_getD]
def One (w : World) (v : Value) (l : List (Int × Int)) : Prop := ∃ g lv, v = .slice (some ⟨g, 0, none⟩) 1 1 /\ w.cell? ⟨g, 0, none⟩ = some lv /\ OpsV w lv l
def Two (w : World) (v : Value) (l m : List (Int × Int)) : Prop := ∃ g lv mv, v = .slice (some ⟨g, 0, none⟩) 2 2 /\ w.cell? ⟨g, 0, none⟩ = some lv /\ w.cell? ⟨g, 1, none⟩ = some mv /\ OpsV w lv l /\ OpsV w mv m
theorem cell_later {w w' : World} (hb : Below w.heap.size w w') {p : Addr} {x : Value} (h : w.cell? p = some x) : w'.cell? p = some x := (hb.cell (World.block_lt_of_cell? w p h)).trans h
theorem One.below {w w' : World} {v : Value} {l : List (Int × Int)} (h : One w v l) (hb : Below w.heap.size w w') : One w' v l := by
 obtain ⟨g, lv, h1, h2, h3⟩ := h; exact ⟨g, lv, h1, cell_later hb h2, h3.below hb⟩
theorem Two.below {w w' : World} {v : Value} {l m : List (Int × Int)} (h : Two w v l m) (hb : Below w.heap.size w w') : Two w' v l m := by
 obtain ⟨g, lv, mv, h1, h2, h3, h4, h5⟩ := h; exact ⟨g, lv, mv, h1, cell_later hb h2, cell_later hb h3, h4.below hb, h5.below hb⟩
section
variable {o : Oper} {a : Act} {w : World} {Q : Exit -> Act -> World -> Prop}
theorem st_one {s : Nat} {lv : Value} {l : List (Int × Int)} (hop : o.op = .buildSlice 62 1 #[(0, .tmp s)]) (he : a.eval (.tmp s) = lv) (hV : OpsV w lv l) : Oper.wp Tryz.prog o a w (fun a' w' => ∃ v', a' = a.put o.dst v' /\ Below w.heap.size w w' /\ One w' v' l) Q := by
 obtain ⟨ao, c, rfl, _⟩ := id hV; have hA : Below w.heap.size w (w.alloc (.cells #[.slice ao l.length c] 32)) := (Below.refl _ _).alloc (Nat.le_refl _) _; refine op_val (w' := w.alloc (.cells #[.slice ao l.length c] 32)) (v := .slice (some ⟨w.heap.size, 0, none⟩) 1 1) (post := fun v' w' => One w' v' l) ?_ hA ⟨_, _, rfl, by simp [go_sem], hV.below hA⟩
 generalize a.eval = ev at he ⊢; simp [execOp, hop, he, go_sem]
end
end Go.Proofs.YtepefdhdcfnmkaaGreatDoor
namespace Go.Proofs.YtepefdhdcfnmkaaGreatDoor
set_option maxHeartbeats 6400000
set_option maxRecDepth 20000
inductive Lead (nx : Int -> List Int) (A W : Int -> Prop) : Int -> Prop where
 | here {x : Int} : W x -> Lead nx A W x
 | step {x y : Int} : A x -> y ∈ nx x -> Lead nx A W y -> Lead nx A W x
def Stay (nx : Int -> List Int) (A : Int -> Prop) (x : Int) : Prop := ∃ S : Int -> Prop, S x /\ ∀ y, S y -> A y /\ ∃ z, z ∈ nx y /\ S z
section
variable {nx : Int -> List Int} {A W : Int -> Prop}
theorem way_lead : ∀ (k : Nat) (f : Nat -> Int), (∀ i, i < k -> f (i + 1) ∈ nx (f i) /\ A (f i)) -> W (f k) -> Lead nx A W (f 0)
 | 0, _, _, h => .here h
 | k + 1, f, h, hw => .step (h 0 (Nat.succ_pos _)).2 (h 0 (Nat.succ_pos _)).1 (way_lead k (fun i => f (i + 1)) (fun i hi => h (i + 1) (by omega)) hw)
theorem lead_way {x : Int} (h : Lead nx A W x) : ∃ (k : Nat) (f : Nat -> Int), f 0 = x /\ (∀ i, i < k -> f (i + 1) ∈ nx (f i) /\ A (f i)) /\ W (f k) := by
 induction h with
 | @here x hx => exact ⟨0, fun _ => x, rfl, fun i hi => absurd hi (Nat.not_lt_zero _), hx⟩
 | @step x y ha hy _ ih =>
  obtain ⟨k, f, h0, h1, h2⟩ := ih; refine ⟨k + 1, fun i => if i = 0 then x else f (i - 1), rfl, fun i hi => ?_, ?_⟩
  ·by_cases h : i = 0
   ·subst h
    refine ⟨?_, ha⟩
    show f 0 ∈ nx x
    rw [h0]; exact hy
   ·have h3 := h1 (i - 1) (by omega)
    show (if i + 1 = 0 then x else f (i + 1 - 1)) ∈ nx (if i = 0 then x else f (i - 1)) /\ A (if i = 0 then x else f (i - 1))
    rw [if_neg h, if_neg (by omega : ¬ i + 1 = 0), show i + 1 - 1 = i - 1 + 1 by omega]
    exact h3
  ·show W (if k + 1 = 0 then x else f (k + 1 - 1))
   rw [if_neg (by omega)]
   exact h2
end
def cnT (f : Nat -> Bool) : Nat -> Nat
 | 0 => 0
 | n + 1 => cnT f n + (if f n then 1 else 0)
def putB (f : Nat -> Bool) (c : Nat) (b : Bool) : Nat -> Bool := fun j => if j = c then b else f j
section
variable {f g : Nat -> Bool} {N c : Nat}
theorem cnT_congr (h : ∀ j, j < N -> f j = g j) : cnT f N = cnT g N := by
 induction N with
 | zero => rfl
 | succ N ih =>
  show cnT f N + _ = cnT g N + _
  rw [ih (fun j hj => h j (by omega)), h N (Nat.lt_succ_self _)]
theorem cnT_le : cnT f N <= N := by
 induction N with
 | zero => exact Nat.le_refl _
 | succ N ih =>
  show cnT f N + _ <= N + 1
  split <;> omega
theorem cnT_drop (hc : c < N) (h : f c = true) : cnT (putB f c false) N + 1 = cnT f N := by
 induction N with
 | zero => omega
 | succ N ih =>
  show cnT (putB f c false) N + (if putB f c false N then 1 else 0) + 1 = cnT f N + (if f N then 1 else 0)
  by_cases e : c = N
  ·subst e
   have h1 : cnT (putB f c false) c = cnT f c := cnT_congr fun j hj => if_neg (by omega)
   have h2 : putB f c false c = false := if_pos rfl; rw [h1, h2, h]
   simp
  ·have h2 : putB f c false N = f N := if_neg (by omega)
   rw [h2, <- ih (by omega)]
   omega
theorem cnT_add (hc : c < N) (h : f c = false) : cnT (putB f c true) N = cnT f N + 1 := by
 induction N with
 | zero => omega
 | succ N ih =>
  show cnT (putB f c true) N + (if putB f c true N then 1 else 0) = cnT f N + (if f N then 1 else 0) + 1
  by_cases e : c = N
  ·subst e
   have h1 : cnT (putB f c true) c = cnT f c := cnT_congr fun j hj => if_neg (by omega)
   have h2 : putB f c true c = true := if_pos rfl; rw [h1, h2, h]
   simp
  ·have h2 : putB f c true N = f N := if_neg (by omega)
   rw [h2, ih (by omega)]
   omega
end
structure GIn (nx : Int -> List Int) (A : Int -> Prop) (N : Nat) (f : Nat -> Bool) : Prop where
 sub : ∀ c : Nat, c < N -> f c = true -> A (c : Int)
 sup : ∀ c : Nat, c < N -> Stay nx A (c : Int) -> f c = true
structure LIn (nx : Int -> List Int) (A W : Int -> Prop) (N : Nat) (f : Nat -> Bool) : Prop where
 sup : ∀ c : Nat, c < N -> W (c : Int) -> f c = true
 sub : ∀ c : Nat, c < N -> f c = true -> Lead nx A W (c : Int)
section
variable {nx : Int -> List Int} {A W : Int -> Prop} {N c : Nat} {f : Nat -> Bool}
theorem GIn.drop (hn : ∀ (x : Nat) (y : Int), x < N -> y ∈ nx (x : Int) -> 0 <= y /\ y < (N : Int)) (h : GIn nx A N f) (hc : c < N) (hno : ∀ y, y ∈ nx (c : Int) -> f y.toNat = false) : GIn nx A N (putB f c false) := by
 refine ⟨fun q hq hb => h.sub q hq ?_, fun q hq hs => ?_⟩
 ·unfold putB at hb
  split at hb
  ·cases hb
  ·exact hb
 ·unfold putB
  split
  ·next e =>
   subst e; obtain ⟨S, h1, h2⟩ := hs; obtain ⟨z, hz, hz2⟩ := (h2 _ h1).2; obtain ⟨z0, z1⟩ := hn _ _ hc hz; have := h.sup z.toNat (by omega) ⟨S, by rw [show ((z.toNat : Nat) : Int) = z by omega]; exact hz2, h2⟩
   rw [hno z hz] at this; exact this
  ·exact h.sup q hq hs
theorem LIn.put (h : LIn nx A W N f) (hA : A (c : Int)) {y : Int} (hy : y ∈ nx (c : Int)) (h0 : 0 <= y) (hyN : y < (N : Int)) (hb : f y.toNat = true) : LIn nx A W N (putB f c true) := by
 have hl := h.sub y.toNat (by omega) hb
 rw [show ((y.toNat : Nat) : Int) = y by omega] at hl
 refine ⟨fun q hq hw => ?_, fun q hq hb2 => ?_⟩
 ·unfold putB
  split
  ·rfl
  ·exact h.sup q hq hw
 ·unfold putB at hb2
  split at hb2
  ·next e => subst e; exact .step hA hy hl
  ·exact h.sub q hq hb2
theorem LIn.done (hn : ∀ (x : Nat) (y : Int), x < N -> y ∈ nx (x : Int) -> 0 <= y /\ y < (N : Int)) (h : LIn nx A W N f) (hd : ∀ c : Nat, c < N -> f c = false -> A (c : Int) -> ∀ y, y ∈ nx (c : Int) -> f y.toNat = false) (hc : c < N) : f c = true ↔ Lead nx A W (c : Int) := by
 refine ⟨h.sub c hc, fun hl => ?_⟩
 have : ∀ x, Lead nx A W x -> 0 <= x -> x < (N : Int) -> f x.toNat = true := fun x hx => by
  induction hx with
  | @here x hw => exact fun h0 h1 => h.sup x.toNat (by omega) (by rw [show ((x.toNat : Nat) : Int) = x by omega]; exact hw)
  | @step x y ha hy _ ih =>
   intro h0 h1; have ex : ((x.toNat : Nat) : Int) = x := by omega
   have hy' : y ∈ nx ((x.toNat : Nat) : Int) := by rw [ex]; exact hy
   obtain ⟨y0, y1⟩ := hn _ _ (by omega) hy'
   cases hb : f x.toNat with
   | true => rfl
   | false =>
    have := hd x.toNat (by omega) hb (by rw [ex]; exact ha) y hy'
    rw [ih y0 y1] at this
    cases this
 have := this _ hl (by omega) (by omega)
 rw [show ((c : Int)).toNat = c by omega] at this
 exact this
end
end Go.Proofs.YtepefdhdcfnmkaaGreatDoor
namespace Go.Proofs.YtepefdhdcfnmkaaGreatDoor
open Go.ChangeShapes Go.WideShapes Go.ChangeAt Go.RowKit Go.Deep Go.Maps
open Terms Tm
set_option maxHeartbeats 6400000
set_option maxRecDepth 20000
theorem nextL_in {m : Mo} (hm : mcode m = 0) {x : Int} (hx : 0 <= x /\ x < prodTo m.vars m.vars.length) {y : Int} (hy : y ∈ nextL m x) : 0 <= y /\ y < prodTo m.vars m.vars.length := by
 have h1 := ((upL_spec _).2 y).1 hy; unfold rawL at h1
 split at h1
 ·simp at h1; subst h1; exact hx
 ·obtain ⟨j, _, e⟩ := (rawTo_mem (Nat.le_refl _) y).1 h1
  exact ruleDo_state (mcode_vars hm) e
end Go.Proofs.YtepefdhdcfnmkaaGreatDoor
namespace Go.Proofs.YtepefdhdcfnmkaaGreatDoor
open Go.ChangeShapes Go.WideShapes Go.ChangeAt Go.RowKit Go.Deep
open Terms
set_option maxHeartbeats 6400000
set_option maxRecDepth 20000
structure BJ (T : World) (mb nm : Nat) (f : Nat -> Bool) (W : World) : Prop where
 below : Below T.heap.size T W
 base : T.heap.size <= mb
 row : ∃ n g, nm <= n /\ W.rowIs mb 4 n g /\ ∀ j, j < nm -> g j = .bool (f j)
section
variable {T W W' : World} {mb nm : Nat} {f g : Nat -> Bool}
theorem BJ.lt (s : BJ T mb nm f W) : mb < W.heap.size := by
 obtain ⟨n, g, _, h, _⟩ := s.row; exact h.lt
theorem BJ.cell (s : BJ T mb nm f W) {j : Nat} (hj : j < nm) : W.cell? ⟨mb, j, none⟩ = some (.bool (f j)) := by
 obtain ⟨n, g, hn, h, hg⟩ := s.row; rw [h.cell (show j < n by omega), hg j hj]
theorem BJ.frozen (s : BJ T mb nm f W) (j : Nat) : W.frozen? ⟨mb, j, none⟩ = false := by
 obtain ⟨n, g, _, h, _⟩ := s.row; exact h.frozen j
theorem BJ.put (s : BJ T mb nm f W) (p : Nat) (x : Bool) : BJ T mb nm (putB f p x) (W.setCell ⟨mb, p, none⟩ (.bool x)) := by
 obtain ⟨n, r, hn, h, hr⟩ := s.row; refine ⟨s.below.setCell s.base _, s.base, n, _, hn, h.set p (.bool x), fun j hj => ?_⟩
 unfold putB
 by_cases e : j = p
 ·rw [if_pos e, if_pos e]
 ·rw [if_neg e, if_neg e, hr j hj]
theorem BJ.later (s : BJ T mb nm f W) (hb : Below W.heap.size W W') : BJ T mb nm f W' := by
 obtain ⟨n, r, hn, h, hr⟩ := s.row; exact ⟨s.below.trans (hb.mono s.below.size), s.base, n, r, hn, row_later h hb, hr⟩
theorem BJ.start {g cap : Nat} (hb : Below T.heap.size T W) (ho : W.ownsRow T.heap.size 4 1 (.slice (some ⟨g, 0, none⟩) nm cap) nm ((List.range nm).map fun j => .bool (f j))) : BJ T g nm f W := by
 obtain ⟨hl, h⟩ := ho
 rcases h with ⟨h, _⟩ | ⟨g', cap', cur, hv, hg, hh, hn, _, hs, ht⟩
 ·cases h
 ·injection hv with q1 q2 q3
  injection Option.some.inj q1 with q1 _
  subst q1; refine ⟨hb, hg, cap', fun j => cur[j]?.getD undef, by omega, ⟨cur, hh, by omega, fun i hi => ?_⟩, fun j hj => ?_⟩
  ·have h8 : i < cur.size := by omega
   simp [h8]
  ·have h9 : (cur.toList.take (nm * 1))[j]? = some (.bool (f j)) := by
    rw [ht]; simp [hj]
   rw [List.getElem?_take_of_lt (by omega), Array.getElem?_toList] at h9
   simp [h9]
end
def TrV (w : World) (b N : Nat) (f : Nat -> Bool) : Prop := ∀ c, c < N -> w.cell? ⟨b, c, none⟩ = some (.bool (f c))
def NxV (w : World) (nb N : Nat) (nx : Int -> List Int) : Prop := ∀ c : Nat, c < N -> ∃ ub uf uc, w.cell? ⟨nb, c, none⟩ = some (.slice (some ⟨ub, uf, none⟩) (nx (c : Int)).length uc) /\ ∀ q, q < (nx (c : Int)).length -> w.cell? ⟨ub, uf + q, none⟩ = some (.int .i64 ((nx (c : Int)).getD q 0))
section
variable {w w' : World} {b N : Nat} {f : Nat -> Bool} {nx : Int -> List Int}
theorem cellL {p : Addr} {x : Value} (hb : Below w.heap.size w w') (h : w.cell? p = some x) : w'.cell? p = some x := (hb.cell (World.block_lt_of_cell? w p h)).trans h
theorem TrV.below (h : TrV w b N f) (hb : Below w.heap.size w w') : TrV w' b N f := fun c hc => cellL hb (h c hc)
theorem NxV.below (h : NxV w b N nx) (hb : Below w.heap.size w w') : NxV w' b N nx := fun c hc => by
 obtain ⟨ub, uf, uc, h1, h2⟩ := h c hc; exact ⟨ub, uf, uc, cellL hb h1, fun q hq => cellL hb (h2 q hq)⟩
theorem TrV.list (h : TrV w b N f) : ∀ (j : Nat) (u : Value), ((List.range N).map fun j => Value.bool (f j))[j]? = some u -> w.cell? ((⟨b, 0, none⟩ : Addr).add j) = some u := fun j u hj => by
 by_cases hjN : j < N
 ·simp [hjN] at hj
  subst hj; have := h j hjN; have e : (⟨b, 0, none⟩ : Addr).add j = ⟨b, j, none⟩ := by unfold Addr.add; split <;> simp_all
  rw [e]; exact this
 ·simp [hjN] at hj
end
def rdB (w : World) (g j : Nat) : Bool := match w.cell? ⟨g, j, none⟩ with
 | some (.bool b) => b
 | _ => false
def bTr : Value -> Nat
 | .bool true => 1
 | _ => 0
theorem BJ.rd {T W : World} {g N : Nat} {f : Nat -> Bool} (h : BJ T g N f W) : cnT (rdB W g) N = cnT f N := cnT_congr fun j hj => by
 unfold rdB; rw [h.cell hj]
def LtV (w : World) (lb N : Nat) (lt : Nat -> Nat -> Bool) : Prop := ∀ c : Nat, c < N -> ∃ ub uf uc, w.cell? ⟨lb, c, none⟩ = some (.slice (some ⟨ub, uf, none⟩) 3 uc) /\ ∀ q, q < 3 -> w.cell? ⟨ub, uf + q, none⟩ = some (.bool (lt c q))
theorem LtV.below {w w' : World} {lb N : Nat} {lt : Nat -> Nat -> Bool} (h : LtV w lb N lt) (hb : Below w.heap.size w w') : LtV w' lb N lt := fun c hc => by
 obtain ⟨ub, uf, uc, h1, h2⟩ := h c hc; exact ⟨ub, uf, uc, cellL hb h1, fun q hq => cellL hb (h2 q hq)⟩
def ToOk (w : World) (N : Nat) (f : Nat -> Bool) (e : Ending) (w' : World) : Prop := ∃ g cap, e = .returned (.slice (some ⟨g, 0, none⟩) N cap) /\ Below w.heap.size w w' /\ Hid (TrV w' g N f)
theorem BJ.made {T W : World} {N : Nat} (hb : Below T.heap.size T W) : BJ T W.heap.size N (fun _ => false) (W.alloc (.cells (madeCells #[.bool false] N) 4)) :=
 ⟨hb.alloc hb.size _, hb.size, N, _, Nat.le_refl _, World.rowIs_made W (.bool false) N 4, fun _ _ => rfl⟩
theorem all_any (N : Nat) (w : World) (hN1 : 1 <= N) (hN : N <= 5000) :
  Calls Tryz.prog 16 #[.int .i64 (N : Int)] w (ToOk w N (fun _ => true)) := by
 have hmk := run_make_row' (P := Tryz.prog) 35 4 (.bool false) 1 Tryz.underlying35 infoBool rfl .i64 .i64 N (by omega) (by omega)
 have HJ0 : Hid (BJ w w.heap.size N (fun _ => false) (w.alloc (.cells (madeCells #[.bool false] N) 4))) := BJ.made (Below.refl _ _)
 go_enter Tryz.func16, Tryz.ntmps16
 go_upto_region 3 with fail
 generalize w.alloc (.cells (madeCells #[.bool false] N) 4) = W1 at *
 go_loopw [4] (fun i wr => ∃ k : Nat, k <= N /\ i = .int .i64 (k : Int) /\ Hid (BJ w w.heap.size N (fun j => decide (j < k)) wr)) (fun i _ => N - (intOf i).toNat)
 case atStart => exact ⟨0, Nat.zero_le _, rfl, by
  show BJ _ _ _ _ _
  have := HJ0.out
  simpa using this⟩
 case round =>
  obtain ⟨k, hk, rfl, HR⟩ := hrel
  by_cases hkN : k < N
  ·have hki : (k : Int) < (N : Int) := by omega
   have d0 := HR.out.cell hkN; have hfr := HR.out.frozen k
   go_wp2_with fail
   go_roundw
   case rel =>
    refine ⟨k + 1, by omega, by go_num, ?_⟩
    have h := HR.out.put k true
    have e : putB (fun j => decide (j < k)) k true = fun j => decide (j < k + 1) := by
     funext j
     unfold putB
     split
     ·next e => subst e; simp
     ·next e => exact decide_eq_decide.2 (by omega)
    rw [e] at h; exact h
   case measure => simp [intOf]; omega
  ·obtain rfl : k = N := by omega
   go_wp2_with fail
   refine bodyPost_ret (v := .slice (some ⟨w.heap.size, 0, none⟩) k k) ?_ rfl ⟨w.heap.size, k, rfl, HR.out.below, fun c hc => by
    rw [HR.out.cell hc]
    simp [hc]⟩
   simp [results, Tryz.results16, go_sem]
theorem putB_again {f : Nat -> Bool} {c : Nat} {b : Bool} : putB (putB f c b) c b = putB f c b := by
 funext j
 unfold putB
 split <;> rfl
def TrOkN (w : World) (N : Nat) (P : Int -> Prop) (e : Ending) (w' : World) : Prop := ∃ g cap f, e = .returned (.slice (some ⟨g, 0, none⟩) N cap) /\ Below w.heap.size w w' /\ Hid (TrV w' g N f /\ (∀ c : Nat, c < N -> (f c = true ↔ P (c : Int))) /\ w.heap.size <= g)
theorem leads_new (nx : Int -> List Int) (A W : Int -> Prop) (N nb nc ab ac wb wc0 : Nat) (al wt : Nat -> Bool) (w : World) (hN1 : 1 <= N) (hN : N <= 5000) (hNx : NxV w nb N nx) (hAl : TrV w ab N al) (hWt : TrV w wb N wt) (hA : ∀ c : Nat, c < N -> (al c = true ↔ A (c : Int))) (hW : ∀ c : Nat, c < N -> (wt c = true ↔ W (c : Int))) (hn : ∀ (x : Nat) (y : Int), x < N -> y ∈ nx (x : Int) -> 0 <= y /\ y < (N : Int)) (hl : ∀ x : Nat, x < N -> (nx (x : Int)).length <= 5000) :
  Calls Tryz.prog 15 #[.slice (some ⟨nb, 0, none⟩) N nc, .slice (some ⟨ab, 0, none⟩) N ac, .slice (some ⟨wb, 0, none⟩) N wc0] w (TrOkN w N (Lead nx A W)) := by
 obtain ⟨i0, hi, hz0, hz1, hz2⟩ := info_parts infoBool; have hrow : w.ownsRow w.heap.size 4 1 (.slice none 0 0) 0 [] := World.ownsRow_nil _ _ _ _; have hcells := hWt.list; have HG0 : Hid (LIn nx A W N wt) := ⟨fun c hc hb => (hW c hc).2 hb, fun c hc hb => .here ((hW c hc).1 hb)⟩
 have HNx : Hid (NxV w nb N nx) := hNx; have HA : Hid (TrV w ab N al /\ ∀ c : Nat, c < N -> (al c = true ↔ A (c : Int))) := ⟨hAl, hA⟩
 have HN : Hid ((∀ (x : Nat) (y : Int), x < N -> y ∈ nx (x : Int) -> 0 <= y /\ y < (N : Int)) /\ ∀ x : Nat, x < N -> (nx (x : Int)).length <= 5000) := ⟨hn, hl⟩
 clear hNx hn hl hA hAl hW hWt
 go_enter Tryz.func15, Tryz.ntmps15
 go_wp2_with (at_builtin; refine wpList_append_lies _ rfl (.const (.slice none 0 0)) (.tmp 11) 35 rfl w.heap.size 4 i0 _ 1 1 Tryz.underlying35 hi hz0 hz1 hz2 rfl (by decide) (.slice none 0 0) 0 [] rfl hrow ⟨wb, 0, none⟩ N wc0 ((List.range N).map fun j => .bool (wt j)) rfl (by simp) hcells (by intro u hu; obtain ⟨j, _, rfl⟩ := List.mem_map.1 hu; rfl) (by omega) (by unfold maxLen; omega) (by omega) (Nat.le_refl _) w.heap.size rfl ?_; intro g6 cp6 w6 ho6 hg6 hat6 hgl6)
 rw [Nat.zero_add, List.nil_append] at ho6; have hb6 : Below w.heap.size w w6 := (Below.refl _ _).grown hg6 (Nat.le_refl _) (fun z hz => (hrow.lt z hz).1)
 have HJ0 : Hid (BJ w g6 N wt w6) := BJ.start hb6 ho6; clear hcells hrow hg6 hat6 hgl6 ho6
 go_loopw [8] (fun u wr => ∃ (ag : Bool) (f : Nat -> Bool), u = .bool ag /\ Hid (BJ w g6 N f wr /\ LIn nx A W N f /\ (ag = false -> ∀ c : Nat, c < N -> f c = false -> A (c : Int) -> ∀ y, y ∈ nx (c : Int) -> f y.toNat = false))) (fun u wr => 2 * (N - cnT (rdB wr g6) N) + bTr u)
 case atStart => exact ⟨true, wt, rfl, HJ0.out, HG0.out, fun h => by cases h⟩
 case round =>
  obtain ⟨ag, f0, rfl, HR⟩ := hrel
  cases ag with
  | false =>
   go_wp2_with fail
   refine bodyPost_ret (v := .slice (some ⟨g6, 0, none⟩) N cp6) ?_ rfl ⟨g6, cp6, f0, rfl, HR.out.1.below, fun c hc => HR.out.1.cell hc, fun c hc => HR.out.2.1.done HN.out.1 (HR.out.2.2 (by first | rfl | trivial)) hc, HR.out.1.base⟩
   simp [results, Tryz.results15, go_sem]
  | true =>
   have HM0 : Hid (cnT (rdB wr g6) N = cnT f0 N) := HR.out.1.rd; have HR0 : Hid (BJ w g6 N f0 wr /\ LIn nx A W N f0) := ⟨HR.out.1, HR.out.2.1⟩; clear HR
   go_upto_region 6 with fail
   go_loopw [8, 9] (fun u i wx => ∃ (ag : Bool) (f : Nat -> Bool) (c : Nat), c <= N /\ u = .bool ag /\ i = .int .i64 (c : Int) /\ Hid (BJ w g6 N f wx /\ LIn nx A W N f /\ (ag = false -> (f = f0 /\ ∀ q : Nat, q < c -> f q = false -> A (q : Int) -> ∀ y, y ∈ nx (q : Int) -> f y.toNat = false)) /\ (ag = true -> cnT f0 N < cnT f N))) (fun _ i _ => N - (intOf i).toNat)
   case atStart => exact ⟨false, f0, 0, Nat.zero_le _, rfl, rfl, HR0.out.1, HR0.out.2, fun _ => ⟨rfl, fun q hq => absurd hq (Nat.not_lt_zero _)⟩, fun h => by cases h⟩
   case round =>
    obtain ⟨ag, f, c, hc, rfl, rfl, HR⟩ := hrel
    by_cases hcN : c < N
    ·have hci : (c : Int) < (N : Int) := by omega
     have d0 := HR.out.1.cell hcN; have d1 := HA.out.1.below HR.out.1.below c hcN; have HAc : Hid (al c = true ↔ A (c : Int)) := HA.out.2 c hcN
     cases hfc : f c with
     | true =>
      rw [hfc] at d0
      go_wp2_with fail
      go_roundw
      case rel => exact ⟨ag, f, c + 1, by omega, rfl, by go_num, HR.out.1, HR.out.2.1, fun h => ⟨(HR.out.2.2.1 h).1, fun q hq hb => by
       by_cases e : q = c
       ·subst e; rw [hfc] at hb; cases hb
       ·exact (HR.out.2.2.1 h).2 q (by omega) hb⟩, HR.out.2.2.2⟩
      case measure => simp [intOf]; omega
     | false =>
      rw [hfc] at d0
      cases hac : al c with
      | false =>
       rw [hac] at d1
       go_wp2_with fail
       go_roundw
       case rel => exact ⟨ag, f, c + 1, by omega, rfl, by go_num, HR.out.1, HR.out.2.1, fun h => ⟨(HR.out.2.2.1 h).1, fun q hq hb ha => by
        by_cases e : q = c
        ·subst e
         have := HAc.out.2 ha; rw [hac] at this
         cases this
        ·exact (HR.out.2.2.1 h).2 q (by omega) hb ha⟩, HR.out.2.2.2⟩
       case measure => simp [intOf]; omega
      | true =>
       rw [hac] at d1; have HAt : Hid (A (c : Int)) := HAc.out.1 hac; have hL5 := HN.out.2 c hcN; obtain ⟨Ln, hLn⟩ : ∃ Ln, (nx (c : Int)).length = Ln := ⟨_, rfl⟩
       have HLn : Hid ((nx (c : Int)).length = Ln) := hLn; rw [hLn] at hL5; have HRc : Hid (BJ w g6 N f wr) := HR.out.1; clear hLn
       go_upto_region 10 with fail
       clear d1 d0
       go_loopw [8, 10] (fun u i wx => ∃ (a3 : Bool) (f3 : Nat -> Bool) (k : Nat), k <= Ln /\ u = .bool a3 /\ i = .int .i64 (k : Int) /\ Hid (BJ w g6 N f3 wx /\ LIn nx A W N f3 /\ ((a3 = ag /\ f3 = f /\ ∀ q, q < k -> f ((nx (c : Int)).getD q 0).toNat = false) \/ (a3 = true /\ f3 = putB f c true)))) (fun _ i _ => Ln - (intOf i).toNat)
       case atStart => exact ⟨ag, f, 0, Nat.zero_le _, rfl, rfl, HR.out.1, HR.out.2.1, .inl ⟨rfl, rfl, fun q hq => absurd hq (Nat.not_lt_zero _)⟩⟩
       case round =>
        obtain ⟨a3, f3, k, hk, rfl, rfl, HS⟩ := hrel; obtain ⟨ub, uf, uc, n0, n1⟩ := HNx.out.below HS.out.1.below c hcN; have HN1 : Hid (∀ q, q < (nx (c : Int)).length -> wr.cell? ⟨ub, uf + q, none⟩ = some (.int .i64 ((nx (c : Int)).getD q 0))) := n1
        rw [HLn.out] at n0; clear n1
        by_cases hkL : k < Ln
        ·have hki : (k : Int) < (Ln : Int) := by omega
         have hkl : k < (nx (c : Int)).length := by rw [HLn.out]; exact hkL
         have n1 := HN1.out k hkl
         have hmem : (nx (c : Int)).getD k 0 ∈ nx (c : Int) := by
          rw [List.getD_eq_getElem?_getD, List.getElem?_eq_getElem hkl]
          exact List.getElem_mem _
         have HMem : Hid ((nx (c : Int)).getD k 0 ∈ nx (c : Int)) := hmem; obtain ⟨y0, y1⟩ := HN.out.1 c _ hcN hmem; obtain ⟨yn, hyn⟩ : ∃ yn : Nat, (nx (c : Int)).getD k 0 = (yn : Int) := ⟨((nx (c : Int)).getD k 0).toNat, by omega⟩
         have HY : Hid ((nx (c : Int)).getD k 0 = (yn : Int)) := hyn; rw [hyn] at n1 y1; have hyN : yn < N := by omega
         have d1 := HS.out.1.cell hyN; have hfr := HS.out.1.frozen c; have d2 := HS.out.1.cell hcN; clear hmem y0 y1 hyn hkl
         cases hfy : f3 yn with
         | true =>
          rw [hfy] at d1
          go_wp2_with fail
          go_roundw
          case rel =>
           refine ⟨true, putB f3 c true, k + 1, by omega, rfl, by go_num, HS.out.1.put c true, HS.out.2.1.put HAt.out HMem.out (by rw [HY.out]; omega) (by rw [HY.out]; omega) (by rw [HY.out, show ((yn : Int)).toNat = yn by omega]; exact hfy), .inr ⟨rfl, ?_⟩⟩
           rcases HS.out.2.2 with ⟨_, h2, _⟩ | ⟨_, h2⟩
           ·rw [h2]
           ·rw [h2, putB_again]
          case measure => simp [intOf]; omega
         | false =>
          rw [hfy] at d1
          go_wp2_with fail
          go_roundw
          case rel =>
           refine ⟨a3, f3, k + 1, by omega, rfl, by go_num, HS.out.1, HS.out.2.1, ?_⟩
           rcases HS.out.2.2 with ⟨h1, h2, h3⟩ | h2
           ·refine .inl ⟨h1, h2, fun q hq => ?_⟩
            by_cases e : q = k
            ·subst e
             rw [HY.out, show ((yn : Int)).toNat = yn by omega, <- h2]
             exact hfy
            ·exact h3 q (by omega)
           ·exact .inr h2
          case measure => simp [intOf]; omega
        ·obtain rfl : k = Ln := by omega
         go_wp2_with fail
         go_roundw
         case rel =>
          refine ⟨a3, f3, c + 1, by omega, rfl, by go_num, HS.out.1, HS.out.2.1, ?_, ?_⟩
          ·rcases HS.out.2.2 with ⟨h1, h2, h3⟩ | ⟨h1, _⟩
           ·intro h
            have h4 := HR.out.2.2.1 (h1 ▸ h); refine ⟨h2.trans h4.1, fun q hq hb ha y hy => ?_⟩
            rw [h2] at hb ⊢
            by_cases e : q = c
            ·subst e
             obtain ⟨p, hp, e2⟩ := List.mem_iff_getElem.1 hy; have h5 := h3 p (by rw [<- HLn.out]; exact hp)
             rw [List.getD_eq_getElem?_getD, List.getElem?_eq_getElem hp] at h5
             rw [<- e2]; exact h5
            ·exact h4.2 q (by omega) hb ha y hy
           ·intro h
            rw [h1] at h
            cases h
          ·rcases HS.out.2.2 with ⟨h1, h2, _⟩ | ⟨_, h2⟩
           ·intro h
            rw [h2]; exact HR.out.2.2.2 (h1 ▸ h)
           ·intro _
            rw [h2, cnT_add hcN hfc]
            cases ag with
            | false => have h6 := (HR.out.2.2.1 rfl).1; rw [h6]; omega
            | true => have h6 := HR.out.2.2.2 rfl; omega
         case measure => simp [intOf]; omega
    ·obtain rfl : c = N := by omega
     go_wp2_with fail
     go_roundw
     case rel => exact ⟨ag, f, rfl, HR.out.1, HR.out.2.1, fun h => (HR.out.2.2.1 h).2⟩
     case measure =>
      have h1 := HR.out.1.rd; have h2 := HM0.out; have h4 : cnT f c <= c := cnT_le
      cases ag with
      | false =>
       have h3 := (HR.out.2.2.1 rfl).1; subst h3; simp [bTr]
       omega
      | true =>
       have h3 := HR.out.2.2.2 rfl; simp [bTr]
       omega
end Go.Proofs.YtepefdhdcfnmkaaGreatDoor
