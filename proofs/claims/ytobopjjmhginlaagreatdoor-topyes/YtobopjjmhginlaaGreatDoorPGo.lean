import Derived.Test.YtobopjjmhginlaaGreatDoorPGo0
namespace Go.Proofs.YtobopjjmhginlaaGreatDoor
open Go.ChangeShapes Go.WideShapes Go.ChangeAt Go.RowKit Go.Deep Go.Maps
open Terms Tm
set_option maxHeartbeats 6400000
set_option maxRecDepth 20000
theorem infoIL : (Tryz.prog.info? 37).map (fun i => (i.zero, i.size, i.bytes)) = some (some (.slice none 0 0), 1, 24) := by kernel_rfl
theorem xfo_mem {l : List (Int × Int)} {x : List Bool} {c : Int} {y : List Bool} {st : Int} {p : Int × Int} : ∀ k, p ∈ foTo l x c y st k -> p.1 = st /\ ∃ d : Nat, d < k /\ p.2 = (d : Int) /\ folR l x c y (d : Int) = true
  | 0, h => by simp [foTo] at h
  | k + 1, h => by
    rw [foTo] at h
    split at h
    · next hf =>
      rw [List.mem_append, List.mem_singleton] at h
      rcases h with h | rfl
      · obtain ⟨h1, d, h2, h3⟩ := xfo_mem k h
        exact ⟨h1, d, by omega, h3⟩
      · exact ⟨rfl, k, by omega, rfl, hf⟩
    · obtain ⟨h1, d, h2, h3⟩ := xfo_mem k h
      exact ⟨h1, d, by omega, h3⟩
theorem xbe_mem {m : Mo} {ps : List (List (Int × Int))} {l : List (Int × Int)} {code c : Int} {p : Int × Int} : ∀ i, i <= (nextL m code).length -> p ∈ behTo m ps l code c i -> p.1 ∈ nextL m code /\ ∃ d : Nat, d < 2 ^ (aheadL l).length /\ p.2 = (d : Int) /\ folR l (letL m ps code) c (letL m ps p.1) (d : Int) = true
  | 0, _, h => by simp [behTo] at h
  | i + 1, hi, h => by
    rw [behTo, List.mem_append] at h
    rcases h with h | h
    · exact xbe_mem i (by omega) h
    · obtain ⟨h1, d, h2, h3, h4⟩ := xfo_mem _ h
      refine ⟨?_, d, h2, h3, by rw [h1]; exact h4⟩
      rw [h1, List.getD_eq_getElem?_getD, List.getElem?_eq_getElem (by omega)]
      exact List.getElem_mem _
theorem behL_spot {m : Mo} {ps : List (List (Int × Int))} {l : List (Int × Int)} {code c : Int} (hm : mcode m = 0) (hcr : 0 <= code /\ code < prodTo m.vars m.vars.length) {p : Int × Int} (h : p ∈ behL m ps l code c) : (0 <= p.1 /\ p.1 < prodTo m.vars m.vars.length) /\ ∃ d : Nat, d < 2 ^ (aheadL l).length /\ p.2 = (d : Int) := by
  obtain ⟨h1, d, h2, h3, _⟩ := xbe_mem _ (Nat.le_refl _) h; exact ⟨nextL_st hm hcr h1, d, h2, h3⟩
theorem behL_len {m : Mo} {ps : List (List (Int × Int))} {l : List (Int × Int)} {code c : Int} (hm : mcode m = 0) (hcr : 0 <= code /\ code < prodTo m.vars m.vars.length) (h6 : (aheadL l).length <= 6) : (behL m ps l code c).length <= 262144 := by
  have h1 := behTo_len (m := m) (ps := ps) (l := l) (Nat.pow_le_pow_right (show 0 < 2 by decide) h6) code c (nextL m code).length
  have h2 := nextL_len hm hcr; unfold behL; omega
theorem spot_I64 {m : Mo} {ps : List (List (Int × Int))} {l : List (Int × Int)} (hk : tkcode m ps l = 0) {p : Int × Int} (h : (0 <= p.1 /\ p.1 < prodTo m.vars m.vars.length) /\ ∃ d : Nat, d < 2 ^ (aheadL l).length /\ p.2 = (d : Int)) : I64s p := by
  obtain ⟨hp0, hl0⟩ := tk_zero hk; obtain ⟨hm0, _⟩ := pcode_m hp0; obtain ⟨_, _, _, _, h6⟩ := lcode_zero hl0; have hpr := ((mcode_vars hm0).prod (Nat.le_refl m.vars.length)).2; have hN64 : 2 ^ (aheadL l).length <= 64 := Nat.pow_le_pow_right (show 0 < 2 by decide) h6
  obtain ⟨h1, d, h2, h3⟩ := h; unfold I64s; omega
def GoPost (w0 : World) (base A lm B bs bl n : Nat) (va vr pv fv : Value) (m : Mo) (ps : List (List (Int × Int))) (l : List (Int × Int)) (ho : Option Addr) (hc : Nat) (S : List (Int × Int)) (N : List (List Int)) (T : List Int) (init many : Int) (code : Int) (c : Nat) (e : Ending) (w' : World) : Prop :=
  e = .returned (.int .i64 (if 20000 < (plTo S (behL m ps l code (c : Int))).length then 12 else 0)) /\ ∃ sv nv tv, Hid (ExW w0 w' base A lm B bs bl (n + 300001) va vr pv fv m ps l ho hc (plTo S (behL m ps l code (c : Int))) (N ++ [plIx S (behL m ps l code (c : Int))]) (T ++ [metN l (letL m ps code) (c : Int)]) init many sv nv tv)
theorem goThrough_any (w0 w : World) (base A lm B bs bl n : Nat) (va vr pv fv : Value) (m : Mo) (ps : List (List (Int × Int))) (l : List (Int × Int)) (ho : Option Addr) (hc : Nat) (S : List (Int × Int)) (N : List (List Int)) (T : List Int) (init many : Int) (sv nv tv : Value) (code : Int) (c : Nat) (hB : 0 < w0.heap.size) (hT : TabAt w0) (hV : TaskV w0 va vr pv fv m ps l) (hk : tkcode m ps l = 0) (hX : ExW w0 w base A lm B bs bl n va vr pv fv m ps l ho hc S N T init many sv nv tv) (hn : n + 600000 < 1000000000000) (hcr : 0 <= code /\ code < prodTo m.vars m.vars.length) (hcN : c < 2 ^ (aheadL l).length) (hzS : S.length <= 20000) (hzN : N.length <= 20000) (hzT : T.length <= 20000) :
    Calls Tryz.prog 27 #[.pointer (some ⟨A, 0, none⟩), .pointer (some ⟨B, 0, none⟩), .agg #[.int .i64 code, .int .i64 (c : Int)]] w (GoPost w0 base A lm B bs bl n va vr pv fv m ps l ho hc S N T init many code c) := by
  obtain ⟨hp0, hl0⟩ := tk_zero hk; obtain ⟨hm0, _⟩ := pcode_m hp0; obtain ⟨_, _, _, _, h6⟩ := lcode_zero hl0; have hpr := ((mcode_vars hm0).prod (Nat.le_refl m.vars.length)).2; have hI : -9223372036854775808 <= code /\ code <= 9223372036854775807 := by omega
  have hbl := behL_len (ps := ps) (c := (c : Int)) hm0 hcr h6; have hIs : ∀ j, j < (behL m ps l code (c : Int)).length -> I64s ((behL m ps l code (c : Int)).getD j (0, 0)) := fun j hj => spot_I64 hk (behL_spot hm0 hcr (c := (c : Int)) (ps := ps) (by rw [List.getD_eq_getElem?_getD, List.getElem?_eq_getElem hj]; exact List.getElem_mem _))
  have hw0 := wcode_yes hm0 hcr; obtain ⟨W1, hW1⟩ : ∃ W1, W1 = w.alloc (.cells #[.int .i64 code, .int .i64 (c : Int)] 87) := ⟨_, rfl⟩
  have hb1 : Below w.heap.size w W1 := by rw [hW1]; exact (Below.refl _ _).alloc (Nat.le_refl _) _
  have hs1 : W1.cell? ⟨w.heap.size, 0, none⟩ = some (.int .i64 code) /\ W1.cell? ⟨w.heap.size, 1, none⟩ = some (.int .i64 (c : Int)) := by rw [hW1]; constructor <;> simp [go_sem]
  have hX1 := hX.below hb1
  have hbe : Calls Tryz.prog 45 #[.pointer (some ⟨B, 0, none⟩), .agg #[.int .i64 code, .int .i64 (c : Int)]] W1 fun e w2 => ∃ so sc, e = .returned (.tuple #[.slice so (behL m ps l code (c : Int)).length sc, .int .i64 0]) /\ (w2.cell? ⟨w.heap.size, 0, none⟩ = some (.int .i64 code) /\ w2.cell? ⟨w.heap.size, 1, none⟩ = some (.int .i64 (c : Int))) /\ Hid (ExW w0 w2 base A lm B bs bl (n + 300000) va vr pv fv m ps l ho hc S N T init many sv nv tv /\ SpO w2 W1.heap.size (.slice so (behL m ps l code (c : Int)).length sc) (behL m ps l code (c : Int))) :=
    (behind_in w0 W1 B bs bl n va vr pv fv m ps l ho hc code c hI hB hT hV hk hX1.su (by omega) hcr hcN).mono fun e w2 ⟨h1, h2, h3⟩ => by
      rcases h3 with ⟨_, so, sc, h4, h5⟩ | ⟨h4, _⟩
      · exact ⟨so, sc, h4, ⟨h1.cell hX1.su.two hs1.1, h1.cell hX1.su.two hs1.2⟩, hX1.call h1 h2.out, h5.out⟩
      · exact absurd hw0 h4
  have HMe : Hid (∀ w2, ExW w0 w2 base A lm B bs bl (n + 300000) va vr pv fv m ps l ho hc S N T init many sv nv tv -> Calls Tryz.prog 46 #[.pointer (some ⟨B, 0, none⟩), .agg #[.int .i64 code, .int .i64 (c : Int)]] w2 fun e w3 => e = .returned (.tuple #[.int .i64 (metN l (letL m ps code) (c : Int)), .int .i64 0]) /\ Hid (ExW w0 w3 base A lm B bs bl (n + 300001) va vr pv fv m ps l ho hc S N T init many sv nv tv /\ ∀ so sc, SpO w2 W1.heap.size (.slice so (behL m ps l code (c : Int)).length sc) (behL m ps l code (c : Int)) -> SpO w3 W1.heap.size (.slice so (behL m ps l code (c : Int)).length sc) (behL m ps l code (c : Int)))) := fun w2 hx =>
    (meets_in w0 w2 B bs bl (n + 300000) va vr pv fv m ps l ho hc code c hI hB hT hV hk hx.su (by omega) hcr hcN).mono fun e w3 ⟨h1, h2, h3⟩ => ⟨h1, hx.call h2 h3.out, fun so sc h => h.sk h2 hx.su.two⟩
  have HPl : Hid (∀ w3 so sc, ExW w0 w3 base A lm B bs bl (n + 300001) va vr pv fv m ps l ho hc S N T init many sv nv tv -> SpO w3 W1.heap.size (.slice so (behL m ps l code (c : Int)).length sc) (behL m ps l code (c : Int)) -> Calls Tryz.prog 26 #[.pointer (some ⟨A, 0, none⟩), .slice so (behL m ps l code (c : Int)).length sc] w3.drew fun e w4 => e = .returned (.slice (some ⟨w3.heap.size, 0, none⟩) (behL m ps l code (c : Int)).length (behL m ps l code (c : Int)).length) /\ ∃ us sv', w4.cell? ⟨A, 2, none⟩ = some nv /\ (w4.alloc (.cells #[.slice (some ⟨w3.heap.size, 0, none⟩) (behL m ps l code (c : Int)).length (behL m ps l code (c : Int)).length] 37)).cell? ⟨A, 2, none⟩ = some nv /\ (w4.alloc (.cells #[.slice (some ⟨w3.heap.size, 0, none⟩) (behL m ps l code (c : Int)).length (behL m ps l code (c : Int)).length] 37)).ownsRow base 37 1 nv N.length us /\ base <= (w4.alloc (.cells #[.slice (some ⟨w3.heap.size, 0, none⟩) (behL m ps l code (c : Int)).length (behL m ps l code (c : Int)).length] 37)).heap.size /\ Hid (∀ g cap w9, World.ownsRow w9 base 37 1 (.slice (some ⟨g, 0, none⟩) (N.length + 1) cap) (N.length + 1) (us ++ [.slice (some ⟨w3.heap.size, 0, none⟩) (behL m ps l code (c : Int)).length (behL m ps l code (c : Int)).length]) -> (w4.alloc (.cells #[.slice (some ⟨w3.heap.size, 0, none⟩) (behL m ps l code (c : Int)).length (behL m ps l code (c : Int)).length] 37)).grownBy w9 nv.ownBlock -> (w9.cell? ⟨A, 2, none⟩ = some nv /\ w9.frozen? ⟨A, 2, none⟩ = false) /\ ExW w0 (w9.setCell ⟨A, 2, none⟩ (.slice (some ⟨g, 0, none⟩) (N.length + 1) cap)) base A lm B bs bl (n + 300001) va vr pv fv m ps l ho hc (plTo S (behL m ps l code (c : Int))) (N ++ [plIx S (behL m ps l code (c : Int))]) T init many sv' (.slice (some ⟨g, 0, none⟩) (N.length + 1) cap) tv)) := fun w3 so sc hx hsp => by
    have hbd : Below w3.heap.size w3 w3.drew := (Below.refl _ _).drew; have hx3 := hx.below hbd; have hsp3 := hsp.later hbd (Nat.le_refl _)
    have hsep : ∀ a, so = some a -> ¬ atZ A lm sv a.block := fun a e z => by
      have hge := owns_ge hsp a _ _ (by rw [e])
      rcases z with z | z | z
      · have := hX1.tl.lt; omega
      · have := hX1.tl.lies.lt; omega
      · have := (owns_ty hX1.tl.sp z).2.lt; omega
    refine (places_any w3.drew base A lm S N T init many sv nv tv _ so sc hx3.tl hsp3.v hsep hIs (by omega)).mono fun e w4 ⟨h1, sv', h2, h3, h4, h5, h6⟩ => ?_
    have hx4 := hx3.put h5 h2; have hba : Below w4.heap.size w4 (w4.alloc (.cells #[.slice (some ⟨w3.heap.size, 0, none⟩) (behL m ps l code (c : Int)).length (behL m ps l code (c : Int)).length] 37)) := (Below.refl _ _).alloc (Nat.le_refl _) _; have hx5 := hx4.below hba; obtain ⟨us, hus⟩ := id hx5.tl.nx; have hbs3 : base <= w3.heap.size := hx.tl.base_le
    refine ⟨h1, us, sv', (atB_cells hx4.tl.box).2.2.1, (atB_cells hx5.tl.box).2.2.1, hus.1, hx5.tl.base_le, fun g cap w9 g1 g2 => ⟨?_, ?_⟩⟩
    · have hbx : w9.heap[A]? = some (atB sv' nv tv init many lm) := (g2.block A hx5.tl.lt fun e => by have := hx5.tl.ty.eq (owns_ty hus.1 e.symm).2; exact absurd this (by decide)).trans hx5.tl.box
      exact ⟨(atB_cells hbx).2.2.1, atB_free hbx 2⟩
    · have e : (behL m ps l code (c : Int)).length = (plIx S (behL m ps l code (c : Int))).length := (plIx_len _ _).symm
      have hr5 := h3.below hba; have ht5 := h4.below hba; have hr6 : IntsV (w4.alloc (.cells #[.slice (some ⟨w3.heap.size, 0, none⟩) (behL m ps l code (c : Int)).length (behL m ps l code (c : Int)).length] 37)) (.slice (some ⟨w3.heap.size, 0, none⟩) (plIx S (behL m ps l code (c : Int))).length (behL m ps l code (c : Int)).length) (plIx S (behL m ps l code (c : Int))) := by rw [<- e]; exact hr5
      have ht6 : RowTy (w4.alloc (.cells #[.slice (some ⟨w3.heap.size, 0, none⟩) (behL m ps l code (c : Int)).length (behL m ps l code (c : Int)).length] 37)) (.slice (some ⟨w3.heap.size, 0, none⟩) (plIx S (behL m ps l code (c : Int))).length (behL m ps l code (c : Int)).length) 3 := by rw [<- e]; exact ht5
      refine hx5.appN hus hr6 ht6 (fun a ea => ?_) g2 (by rw [<- e]; exact g1)
      injection ea with ea
      subst ea; refine ⟨fun e2 => ?_, hbs3⟩
      have := (owns_ty hx.tl.st e2).2.lt; simp only at this
      omega
  clear hX hX1 hT hV hk hp0 hl0 hm0 hIs hw0; unfold GoPost; generalize behL m ps l code (c : Int) = beh at *; generalize metN l (letL m ps code) (c : Int) = mt at *; have HPn : Hid (∀ w' sv nv tv N T n, ExW w0 w' base A lm B bs bl n va vr pv fv m ps l ho hc (plTo S beh) N T init many sv nv tv -> ∃ vo vc, sv = .slice vo (plTo S beh).length vc) := fun w' sv nv tv N T n h => h.tl.sp.shape
  have hpn : (plTo S beh).length <= 300000 := by have := (plTo_length beh S).2; omega
  generalize plTo S beh = PS at *; generalize plIx S beh = PI at *; generalize hbn : beh.length = bn at *; have HTs : Hid (∀ w' sv nv n S N, ExW w0 w' base A lm B bs bl n va vr pv fv m ps l ho hc S N T init many sv nv tv -> ∃ xo xc, tv = .slice xo T.length xc) := fun w' sv nv n S N h => owns_slice h.tl.st
  have HNs : Hid (∀ w', ExW w0 w' base A lm B bs bl (n + 300000) va vr pv fv m ps l ho hc S N T init many sv nv tv -> ∃ xo xc, nv = .slice xo N.length xc) := fun w' h => by
    obtain ⟨us, h1, _⟩ := h.tl.nx; exact owns_slice h1
  obtain ⟨i0, hi, hz0, hz1, hz2⟩ := info_parts infoIL; obtain ⟨j0, hj, jz0, jz1, jz2⟩ := info_parts infoInt
  go_enter Tryz.func27, Tryz.ntmps27
  go_upto_region 7 with (first | (go_at_call 45; rw [<- hW1]; refine hbe.mono ?_; rintro e w2 ⟨so, sc, rfl, ⟨b0, b1⟩, HX2⟩; have hme := HMe.out w2 HX2.out.1) | (go_at_call 46; refine hme.mono ?_; rintro e w3 ⟨rfl, HX3⟩))
  have hpl := HPl.out w3 so sc HX3.out.1 (HX3.out.2 so sc HX2.out.2); have a2 : w3.cell? ⟨A, 2, none⟩ = some nv := (atB_cells HX3.out.1.tl.box).2.2.1; obtain ⟨no, nc, rfl⟩ := HNs.out w2 HX2.out.1; clear hbe hme HMe HPl HX2 HX3 HNs hs1 b0 b1
  go_cut [] (fun wx => ∃ sv' nv', Hid (ExW w0 wx base A lm B bs bl (n + 300001) va vr pv fv m ps l ho hc PS (N ++ [PI]) T init many sv' nv' tv))
  case first =>
    go_region_law (first
      | (refine step_append_lies _ (by rfl) (.tmp 33) (.tmp 37) 58 (by rfl) base 37 i0 _ 1 24 Tryz.underlying58 hi hz0 hz1 hz2 (by rfl) (by decide) (.slice no N.length nc) N.length us (by rfl) hown4 ⟨w4.heap.size, 0, none⟩ 1 1 [.slice (some ⟨w3.heap.size, 0, none⟩) bn bn] (by rfl) (by rfl) (cell_one_new _ _ _) (by intro u hu; simp at hu; subst hu; rfl) (by decide) (by unfold maxLen; omega) (by omega) hba4 _ rfl ?_; intro g9 cap9 w9 hown hgrow hat hlt9; obtain ⟨⟨z0, zf⟩, hx9⟩ := HN4.out g9 cap9 w9 hown hgrow; have HX9 := (show Hid _ from hx9); clear hx9 hown hgrow hat)
      | (go_simp; go_at_call 26; refine hpl.mono ?_; rintro e w4 ⟨rfl, us, sv4, y0, y1, hown4, hba4, HN4⟩))
    all_goals go_wp2_with fail
    all_goals go_meet
    all_goals exact ⟨_, _, HX9⟩
  case rest =>
    obtain ⟨sv5, nv5, HX5⟩ := hcut; obtain ⟨xo, xc, rfl⟩ := HTs.out wc sv5 nv5 _ PS _ HX5.out; obtain ⟨vo5, vc5, rfl⟩ := HPn.out wc _ _ _ _ _ _ HX5.out; have hba : Below wc.heap.size wc (wc.alloc (.cells #[.int .i64 mt] 3)) := (Below.refl _ _).alloc (Nat.le_refl _) _; have hx6 := HX5.out.below hba
    have hown6 : World.ownsRow (wc.alloc (.cells #[.int .i64 mt] 3)) base 3 1 (.slice xo T.length xc) T.length (ivals T) := hx6.tl.st; have hbs6 := hx6.tl.base_le; have a3 : wc.cell? ⟨A, 3, none⟩ = some (.slice xo T.length xc) := (atB_cells HX5.out.tl.box).2.2.2.1
    have HT6 : Hid (∀ g cap w9, World.ownsRow w9 base 3 1 (.slice (some ⟨g, 0, none⟩) (T.length + 1) cap) (T.length + 1) (ivals T ++ [.int .i64 mt]) -> (wc.alloc (.cells #[.int .i64 mt] 3)).grownBy w9 (Value.slice xo T.length xc).ownBlock -> ((Value.slice xo T.length xc).ownBlock = some g \/ g = (wc.alloc (.cells #[.int .i64 mt] 3)).heap.size) -> (w9.cell? ⟨A, 3, none⟩ = some (.slice xo T.length xc) /\ w9.frozen? ⟨A, 3, none⟩ = false) /\ (w9.setCell ⟨A, 3, none⟩ (.slice (some ⟨g, 0, none⟩) (T.length + 1) cap)).cell? ⟨A, 0, none⟩ = some (.slice vo5 PS.length vc5) /\ Hid (ExW w0 (w9.setCell ⟨A, 3, none⟩ (.slice (some ⟨g, 0, none⟩) (T.length + 1) cap)) base A lm B bs bl (n + 300001) va vr pv fv m ps l ho hc PS (N ++ [PI]) (T ++ [mt]) init many (.slice vo5 PS.length vc5) nv5 (.slice (some ⟨g, 0, none⟩) (T.length + 1) cap))) := fun g cap w9 h1 h2 h3 => by
      have hbx : w9.heap[A]? = some (atB (.slice vo5 PS.length vc5) nv5 (.slice xo T.length xc) init many lm) := (h2.block A hx6.tl.lt fun e => by have := hx6.tl.ty.eq (owns_ty hx6.tl.st e.symm).2; exact absurd this (by decide)).trans hx6.tl.box
      have hxx := hx6.appT h2 h1 (by
        rcases h3 with h | h
        · exact .inl (by rw [h]; rfl)
        · exact .inr ⟨g, rfl, by omega⟩)
      exact ⟨⟨(atB_cells hbx).2.2.2.1, atB_free hbx 3⟩, (atB_cells hxx.tl.box).1, hxx⟩
    clear hx6 HX5 HTs HPn
    by_cases hfull : 20000 < PS.length
    · have hfi : (20000 : Int) < (PS.length : Int) := by omega
      go_wp2_with (first | (at_builtin; refine wpList_append_lies _ rfl (.tmp 47) (.tmp 49) 37 rfl base 3 j0 _ 1 8 Tryz.underlying37 hj jz0 jz1 jz2 rfl (by decide) (.slice xo T.length xc) T.length (ivals T) rfl hown6 ⟨wc.heap.size, 0, none⟩ 1 1 [.int .i64 mt] rfl rfl (cell_one_new _ _ _) (by intro u hu; simp at hu; subst hu; rfl) (by decide) (by unfold maxLen; omega) (by omega) hbs6 _ rfl ?_; intro g9 cap9 w9 hown hgrow hat hlt9; obtain ⟨⟨z0, zf⟩, z1, HX9⟩ := HT6.out g9 cap9 w9 hown hgrow hat; clear hown hgrow hat))
      go_ret
      exact ⟨by first | rfl | simp [hfull], _, _, _, HX9⟩
    · have hfi : ¬ (20000 : Int) < (PS.length : Int) := by omega
      go_wp2_with (first | (at_builtin; refine wpList_append_lies _ rfl (.tmp 47) (.tmp 49) 37 rfl base 3 j0 _ 1 8 Tryz.underlying37 hj jz0 jz1 jz2 rfl (by decide) (.slice xo T.length xc) T.length (ivals T) rfl hown6 ⟨wc.heap.size, 0, none⟩ 1 1 [.int .i64 mt] rfl rfl (cell_one_new _ _ _) (by intro u hu; simp at hu; subst hu; rfl) (by decide) (by unfold maxLen; omega) (by omega) hbs6 _ rfl ?_; intro g9 cap9 w9 hown hgrow hat hlt9; obtain ⟨⟨z0, zf⟩, z1, HX9⟩ := HT6.out g9 cap9 w9 hown hgrow hat; clear hown hgrow hat))
      go_ret
      exact ⟨by first | rfl | simp [hfull], _, _, _, HX9⟩
end Go.Proofs.YtobopjjmhginlaaGreatDoor
