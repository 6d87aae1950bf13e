/-
  The contract of step.Reach.
-/
import Derived.Test.YtbcjhkhndahdhaaDoorStepReach
import Derived.Deep.AppendLies
namespace Go.Proofs.YtbcjhkhndahdhaaDoor
open Go.ChangeShapes Go.WideShapes Go.ChangeAt Go.RowKit Go.Deep Go.Maps
open Terms Tm

/-- in the round of a state: the next states lie apart from the list and the map. -/
def MIn (nx : Int → List Int) (first : Int) (N b : Nat) (w1 wr : World) (v : Value) (p : Nat) (x : Int) (nl : List Int) (q bs h4 : Nat) (nv : Value) : Prop :=
  MetAt nx first N b w1 wr v p x nl q ∧ (∃ g cap n, v = .slice (some ⟨g, 0, none⟩) n cap ∧ (g < bs ∨ h4 ≤ g)) ∧ wr.ownsRow bs 3 1 nv nl.length (ivals nl) ∧ h4 ≤ wr.heap.size ∧ (∀ k, nv.ownBlock = some k → k < h4) ∧ b < bs
set_option maxRecDepth 20000 in
theorem MIn.put {nx : Int → List Int} {first : Int} {N b : Nat} {w1 wr : World} {p : Nat} {x : Int} {nl : List Int} {q bs h4 : Nat} {nv : Value} {R : List Int} {g2 gc2 : Nat} {D : DataW Unit} (hpR : p < R.length) (hRx : R.getD p 0 = x) (hin : ∀ j, j < q → nl.getD j 0 ∈ R) (hM : Met nx first N b w1 wr (.slice (some ⟨g2, 0, none⟩) R.length gc2) R p)
    (hyN : 0 ≤ nl.getD q 0 ∧ nl.getD q 0 < N) (hyr : RSt nx first (nl.getD q 0)) (hyR : ¬ nl.getD q 0 ∈ R) (hhas : ∀ y : Int, 0 ≤ y ∧ y ≤ 5000 → Maps.has D (.int .i64 y) = decide (y ∈ R)) (hown : wr.ownsMap Tryd.prog 3 (plainElem Tryd.prog 3) b R.length D) (hg2 : g2 < bs ∨ h4 ≤ g2)
    (how : wr.ownsRow bs 3 1 nv nl.length (ivals nl)) (hh4 : h4 ≤ wr.heap.size) (hnvl : ∀ k, nv.ownBlock = some k → k < h4) (hbs : b < bs) (hb1 : w1.heap.size = b) {w5 w6 : World} {o : Obj} {g6 c6 : Nat} (h1 : w5.ownsMap Tryd.prog 3 (plainElem Tryd.prog 3) b (R.length + 1) (D.put (.int .i64 (nl.getD q 0)) (.lit (.int .i64 (R.length : Int))))) (h2 : wr.grownBy w5 (some b)) (h3 : (w5.alloc o).grownBy w6 (some g2))
    (h4o : w6.ownsRow (b + 1) 3 1 (.slice (some ⟨g6, 0, none⟩) (R.length + 1) c6) (R.length + 1) (ivals R ++ [.int .i64 (nl.getD q 0)])) (h5 : g2 = g6 ∨ g6 = (w5.alloc o).heap.size) : MIn nx first N b w1 w6 (.slice (some ⟨g6, 0, none⟩) (R.length + 1) c6) p x nl (q + 1) bs h4 nv := by
  have hs2 := h2.size
  have hs3 := h3.size
  simp only [World.size_alloc] at hs3
  have hlt := hM.own.lt g2 rfl
  have hgr : Below b wr w6 := by
    have e1 : Below b wr w5 := (Below.refl _ _).grown h2 (by have := hlt.1; have := hlt.2; omega) (fun k hk => by rw [← Option.some.inj hk]; exact Nat.le_refl _)
    exact (e1.alloc (by have := hlt.1; have := hlt.2; omega) o).grown h3 (by simp; have := hlt.1; have := hlt.2; omega) (fun k hk => by rw [← Option.some.inj hk]; have := hlt.1; omega)
  refine ⟨⟨R ++ [nl.getD q 0], by simp; omega, ?_, fun j hj => ?_, ?_, ?_, fun z hz => ?_, fun i hi y hy => ?_, ?_, by simp, ?_, ?_⟩, ⟨g6, c6, _, rfl, ?_⟩, ?_, by omega, hnvl, hbs⟩
  · rw [List.getD_eq_getElem?_getD, List.getElem?_append_left hpR, ← List.getD_eq_getElem?_getD]; exact hRx
  · by_cases hjq : j < q
    · exact List.mem_append.2 (.inl (hin j hjq))
    · obtain rfl : j = q := by omega
      simp
  · rw [List.nodup_append]
    refine ⟨hM.nodup, by simp, fun a ha c hc => ?_⟩
    rw [List.mem_singleton] at hc
    subst hc
    exact fun e => hyR (e ▸ ha)
  · exact List.mem_append.2 (.inl hM.fst)
  · rcases List.mem_append.1 hz with hz | hz
    · exact hM.all z hz
    · simp at hz; subst hz; exact ⟨hyN, hyr⟩
  · have hil : i < R.length := by omega
    rw [List.getD_eq_getElem?_getD, List.getElem?_append_left hil, ← List.getD_eq_getElem?_getD] at hy
    exact List.mem_append.2 (.inl (hM.closed i hi y hy))
  · have : ivals (R ++ [nl.getD q 0]) = ivals R ++ [.int .i64 (nl.getD q 0)] := by simp [ivals]
    rw [this, List.length_append]
    exact h4o
  · have hm6 : w6.ownsMap Tryd.prog 3 (plainElem Tryd.prog 3) b (R.length + 1) (D.put (.int .i64 (nl.getD q 0)) (.lit (.int .i64 (R.length : Int)))) := by
      have hb5 : Below w5.heap.size w5 (w5.alloc o) := (Below.refl _ _).alloc (Nat.le_refl _) o
      have := h1.kept (row := none) ⟨hb5.os, hb5.tape, hb5.output, hb5.size, fun i hi _ => hb5.block i hi⟩ (by simp)
      exact this.kept h3 (fun e => by have := Option.some.inj e; omega)
    exact MetIs.put hown hhas hm6
  · exact hM.bel.trans (hgr.mono (by omega))
  · rcases h5 with rfl | h5
    · exact hg2
    · right; rw [h5]; simp; omega
  · have hnv : ∀ k, nv.ownBlock = some k → bs ≤ k ∧ k < h4 := fun k hk => ⟨(how.lt k hk).1, hnvl k hk⟩
    have e1 := how.kept h2 (by cases hx : nv.ownBlock with | none => exact .inl rfl | some k => exact .inr (fun e => by have := hnv k hx; have := Option.some.inj e; omega))
    exact (e1.alloc o).kept h3 (by cases hx : nv.ownBlock with | none => exact .inl rfl | some k => exact .inr (fun e => by have := hnv k hx; have := Option.some.inj e; omega))
set_option maxHeartbeats 3200000 in
set_option maxRecDepth 20000 in
theorem reach_loop (va vr : Value) (m : Mo) (w : World) (hB : 0 < w.heap.size) (hT : TabAt w) (hV : ModelV w va vr m) (hm : mcode m = 0) :
    Calls Tryd.prog 4 #[.agg #[va, vr]] w fun e w' => ∃ v, e = .returned (.tuple #[v, .int .i64 0]) ∧ Below w.heap.size w w' ∧ IntsV w' v (reachN (nextL m) (firstC m) (prodTo m.vars m.vars.length).toNat) := by
  have hA : ∀ o, Below w.heap.size w (w.alloc o) := fun o => (Below.refl _ _).alloc (Nat.le_refl _) o
  have hfi : ∀ o, Calls Tryd.prog 8 #[.agg #[va, vr]] (w.alloc o) fun e w' => e = .returned (.tuple #[.int .i64 (firstC m), .int .i64 0]) ∧ Below (w.alloc o).heap.size (w.alloc o) w' := fun o => by
    have h := mfirst_any va vr m (w.alloc o) (Nat.lt_of_lt_of_le hB (hA o).size) (hT.below (hA o) hB) (hV.below (hA o))
    rw [hm, if_pos rfl] at h
    exact h
  obtain ⟨hf0, hf1⟩ := firstC_in hm
  have hN := (mcode_vars hm).prod (j := m.vars.length) (Nat.le_refl _)
  obtain ⟨N, hNe⟩ : ∃ N : Nat, prodTo m.vars m.vars.length = N := ⟨(prodTo m.vars m.vars.length).toNat, by omega⟩
  have HNx : Hid (∀ w' (_ : Below w.heap.size w w') (c : Int), 0 ≤ c ∧ c < N → Calls Tryd.prog 9 #[.agg #[va, vr], .int .i64 c] w' fun e w2 => ∃ v, e = .returned (.tuple #[v, .int .i64 0]) ∧ Below w'.heap.size w' w2 ∧ IntsV w2 v (nextL m c) ∧ w2.ownsRow w'.heap.size 3 1 v (nextL m c).length (ivals (nextL m c))) := fun w' hb c hc => by
    have hw : wcode m c = 0 := wcode_yes hm (by rw [hNe]; exact hc)
    have h := nextOf_own va vr m c w' (Nat.lt_of_lt_of_le hB hb.size) (hT.below hb hB) (hV.below hb) hm
    rw [hw, show nxtL m c = nextL m c by unfold nxtL; rw [if_pos hw]] at h
    exact h
  have HIn : Hid (∀ x y : Int, 0 ≤ x ∧ x < N → y ∈ nextL m x → 0 ≤ y ∧ y < N) := fun x y hx hy => by rw [← hNe] at hx ⊢; exact nextL_in hm hx hy
  have HLe : Hid (∀ x : Int, 0 ≤ x ∧ x < N → (nextL m x).length ≤ 20) := fun x hx => by
    have hw : wcode m x = 0 := wcode_yes hm (by rw [hNe]; exact hx)
    have h1 := nxtL_length m x
    rw [show nxtL m x = nextL m x by unfold nxtL; rw [if_pos hw]] at h1
    have h2 := (mcode_rules hm).1
    omega
  rw [hNe] at hf1 hN ⊢
  rw [Int.toNat_natCast]
  obtain ⟨ao, cap, rfl⟩ := hV.1.shape
  obtain ⟨ro, rc, rfl⟩ := hV.2.shape
  generalize firstC m = first at *
  generalize nextL m = nx at *
  obtain ⟨hN0, hN1⟩ := hN
  clear hV hT hm hNe
  generalize m.vars.length = n at *
  generalize m.rules.length = rn at *
  have hmm := @run_makeMap Tryd.prog
  obtain ⟨i0, hi, hz0, hz1, hz2⟩ := info_parts infoInt
  have hlen : first ≤ 5000 := by omega
  go_enter Tryd.func4, Tryd.ntmps4
  go_wp2_with (first | (go_at_call 8; refine (hfi _).mono ?_; rintro e w1 ⟨rfl, hb1⟩; have h0 := World.ownsMap_made w1 Tryd.prog 3 (plainElem (H := Unit) Tryd.prog 3)) | (refine wpList_insert_own _ rfl _ _ _ 35 rfl 3 3 keyInt Tryd.underlying35 (plainElem Tryd.prog 3) w1.heap.size 0 _ rfl h0 (by unfold maxLen; omega) _ _ _ rfl rfl (keyS first ⟨hf0, hlen⟩) _ [] (plainElem_int Tryd.underlying3 (by decide)) ?_; intro w2 hm2 hg2))
  have hb2 : Below w1.heap.size w1 w2 := ((Below.refl _ _).alloc (Nat.le_refl _) _).grown hg2 (by simp) (fun z hz => by rw [← Option.some.inj hz]; exact Nat.le_refl _)
  have hs2 : w1.heap.size + 1 ≤ w2.heap.size := by have := hg2.size; simp at this; omega
  have hA2 : ∀ o, Below w2.heap.size w2 (w2.alloc o) := fun o => (Below.refl _ _).alloc (Nat.le_refl _) o
  have hbw1 := (hA _).trans (hb1.mono (hA _).size)
  have hs1 : w.heap.size < w1.heap.size := by have := hb1.size; simp at this; omega
  have k10 : w1.cell? ⟨w.heap.size, 0, none⟩ = some (.slice ao n cap) := (hb1.cell (p := ⟨w.heap.size, 0, none⟩) (by simp)).trans (by simp [go_sem])
  have k11 : w1.cell? ⟨w.heap.size, 1, none⟩ = some (.slice ro rn rc) := (hb1.cell (p := ⟨w.heap.size, 1, none⟩) (by simp)).trans (by simp [go_sem])
  have HK1 : Hid (∀ w', Below w1.heap.size w1 w' → w'.cell? ⟨w.heap.size, 0, none⟩ = some (.slice ao n cap) ∧ w'.cell? ⟨w.heap.size, 1, none⟩ = some (.slice ro rn rc)) := fun w' hb => ⟨(hb.cell (p := ⟨w.heap.size, 0, none⟩) hs1).trans k10, (hb.cell (p := ⟨w.heap.size, 1, none⟩) hs1).trans k11⟩
  have HB1 : Hid (Below w.heap.size w w1) := hbw1
  have HM0 : Hid (Met nx first N w1.heap.size w1 (w2.alloc (.cells #[.int .i64 first] 3)) (.slice (some ⟨w2.heap.size, 0, none⟩) 1 1) [first] 0) := ⟨by simp, by simp, fun x hx => by simp at hx; subst hx; exact ⟨⟨hf0, hf1⟩, .first⟩, fun i hi => by omega, World.ownsRow_lit w2 #[.int .i64 first] 1 hs2 (by decide) rfl, by simp, (MetIs.put (l := []) h0 (fun y _ => by simp [Maps.has]) hm2).below (hA2 _), hb2.trans ((hA2 _).mono hb2.size)⟩
  clear hmm hfi hb1 h0 hm2 hg2 hb2 hbw1 k10 k11 hA2
  go_loopw [7, 8] (fun v i wr => ∃ p : Nat, p ≤ N ∧ i = .int .i64 p ∧ Hid (MetTo nx first N w1.heap.size w1 wr v p)) (fun _ i _ => N - (intOf i).toNat)
  case atStart => exact ⟨0, Nat.zero_le _, rfl, [first], by simp, HM0.out⟩
  case round =>
    obtain ⟨p, hp, rfl, HM⟩ := hrel
    obtain ⟨R, hpR, hM⟩ := HM.out
    obtain ⟨g, gc, rfl, hg, hgl⟩ := hM.form
    have hRN := hM.length
    have hbw := HB1.out.trans (hM.bel.mono HB1.out.size)
    obtain ⟨kr0, kr1⟩ := HK1.out wr hM.bel
    obtain ⟨L, hL⟩ : ∃ L, L = R.length := ⟨_, rfl⟩
    have HL : Hid (L = R.length) := hL
    have HMe : Hid (Met nx first N w1.heap.size w1 wr (.slice (some ⟨g, 0, none⟩) L gc) R p) := by rw [hL]; exact hM
    rw [← hL] at hpR hRN ⊢
    by_cases hlt : p < L
    · have hp' : p < R.length := by rw [← HL.out]; exact hlt
      have hc : wr.cell? ⟨g, p, none⟩ = some (.int .i64 (R.getD p 0)) := by
        have := hM.own.cellAt p (by omega)
        rw [this]
        simp [ivals, List.getD_eq_getElem?_getD, hp']
      have hxin := (hM.all (R.getD p 0) (by rw [show R.getD p 0 = R[p] by simp [List.getD_eq_getElem?_getD, hp']]; exact List.getElem_mem _)).1
      have hne := HNx.out wr.drew hbw.drew (R.getD p 0) hxin
      have HX : Hid (∀ w4, Below wr.heap.size wr w4 → MetAt nx first N w1.heap.size w1 w4 (.slice (some ⟨g, 0, none⟩) L gc) p (R.getD p 0) (nx (R.getD p 0)) 0) := fun w4 hb => ⟨R, hp', rfl, fun j hj => by omega, HMe.out.below hb⟩
      generalize R.getD p 0 = x at hc hxin hne HX
      clear hM hL hpR HM hp' HMe
      have hS : ∀ w', Below wr.heap.size wr w' → w'.cell? ⟨w.heap.size, 0, none⟩ = some (.slice ao n cap) ∧ w'.cell? ⟨w.heap.size, 1, none⟩ = some (.slice ro rn rc) ∧ w'.cell? ⟨g, p, none⟩ = some (.int .i64 x) := fun w' hb => ⟨(hb.cell (p := ⟨w.heap.size, 0, none⟩) (World.block_lt_of_cell? wr _ kr0)).trans kr0, (hb.cell (p := ⟨w.heap.size, 1, none⟩) (World.block_lt_of_cell? wr _ kr1)).trans kr1, (hb.cell (p := ⟨g, p, none⟩) hgl).trans hc⟩
      go_wp2_with fail
      go_region_held3 (fun w' => w'.cell? ⟨w.heap.size, 0, none⟩ = some (.slice ao n cap) ∧ w'.cell? ⟨w.heap.size, 1, none⟩ = some (.slice ro rn rc) ∧ w'.cell? ⟨g, p, none⟩ = some (.int .i64 x)) (exact hS _ (by first | exact (Below.refl _ _).drew | exact undrewB hb4 | exact Below.refl _ _)) (first | (go_at_call 9; refine hne.mono ?_; rintro e w4 ⟨nv, rfl, hb4, hI4, ho4⟩; obtain ⟨no, nc, rfl⟩ := hI4.shape))
      have hb4' := undrewB hb4
      obtain ⟨nn, hnn⟩ : ∃ nn, nn = (nx x).length := ⟨_, rfl⟩
      have HNN : Hid (nn = (nx x).length) := hnn
      have HO4 : Hid (w4.ownsRow wr.heap.size 3 1 (.slice no nn nc) nn (ivals (nx x))) := by rw [hnn]; exact ho4
      have HNxi : Hid (∀ j, j < nn → (0 ≤ (nx x).getD j 0 ∧ (nx x).getD j 0 < N) ∧ (nx x).getD j 0 ∈ nx x) := fun j hj => by
        have hm : (nx x).getD j 0 ∈ nx x := by rw [List.getD_eq_getElem?_getD, List.getElem?_eq_getElem (by rw [← hnn]; exact hj)]; exact List.getElem_mem _
        exact ⟨HIn.out x _ hxin hm, hm⟩
      have hrow : g < wr.heap.size := hgl
      have HX4 : Hid (MetAt nx first N w1.heap.size w1 w4 (.slice (some ⟨g, 0, none⟩) L gc) p x (nx x) 0) := HX.out w4 hb4'
      rw [← hnn]
      have hbs : w1.heap.size < wr.heap.size := by
        obtain ⟨R', _, _, _, hM'⟩ := HX.out wr (Below.refl _ _)
        obtain ⟨D', h1', _⟩ := hM'.met
        exact World.ownsMap.lt h1'
      have HI0 : Hid (MIn nx first N w1.heap.size w1 w4 (.slice (some ⟨g, 0, none⟩) L gc) p x (nx x) 0 wr.heap.size w4.heap.size (.slice no nn nc)) := ⟨HX4.out, ⟨g, gc, L, rfl, .inl hgl⟩, by rw [← hnn]; exact HO4.out, Nat.le_refl _, fun k hk => (HO4.out.lt k hk).2, hbs⟩
      have hbs4 := hb4'.size
      have hnn20 : nn ≤ 20 := by rw [hnn]; exact HLe.out x hxin
      clear hnn hI4 ho4 hS hne HX kr0 kr1 hc hb4 hrow HO4 HX4
      go_wp2_with fail
      generalize wr.heap.size = bs at *
      generalize wr = wo at *
      go_loopw [7, 48] (fun v i wr => ∃ q : Nat, q ≤ nn ∧ i = .int .i64 q ∧ Hid (MIn nx first N w1.heap.size w1 wr v p x (nx x) q bs w4.heap.size (.slice no nn nc))) (fun _ i _ => nn - (intOf i).toNat)
      case atStart => exact ⟨0, Nat.zero_le _, rfl, HI0⟩
      case round =>
        obtain ⟨q, hq, rfl, HQ⟩ := hrel
        obtain ⟨⟨R, hpR, hRx, hin, hM⟩, ⟨g2, gc2, n2, rfl, hg2⟩, how, hh4, hnvl, hbs2⟩ := HQ.out
        have hn2 : n2 = R.length := by
          obtain ⟨ga, ca, e1, _⟩ := hM.form
          injection e1 with _ e2 _
        subst hn2
        have hRN := hM.length
        by_cases hlq : q < nn
        · obtain ⟨⟨hy0, hy1⟩, hymem⟩ := HNxi.out q hlq
          have hnvq : ∃ nb, no = some ⟨nb, 0, none⟩ ∧ wr.cell? ⟨nb, q, none⟩ = some (.int .i64 ((nx x).getD q 0)) := by
            rcases how.2 with ⟨e, h0⟩ | ⟨nb, cap, cur, e, _⟩
            · have := HNN.out; omega
            · injection e with e1 _ _
              subst e1
              refine ⟨nb, rfl, ?_⟩
              have how' : wr.ownsRow bs 3 1 (.slice (some ⟨nb, 0, none⟩) (nx x).length nc) (nx x).length (ivals (nx x)) := by rw [HNN.out] at how; exact how
              have hql : q < (nx x).length * 1 := by have := HNN.out; omega
              rw [how'.cellAt q hql]
              have : q < (nx x).length := by rw [← HNN.out]; exact hlq
              simp [ivals, List.getD_eq_getElem?_getD, this]
          obtain ⟨nb, rfl, hcy⟩ := hnvq
          have HMi := hin
          obtain ⟨D, hown, hhas⟩ := hM.met
          have hk1 := keyS ((nx x).getD q 0) ⟨hy0, by omega⟩
          have hh := hhas ((nx x).getD q 0) ⟨hy0, by omega⟩
          by_cases hyR : (nx x).getD q 0 ∈ R
          · have HN : Hid (MIn nx first N w1.heap.size w1 wr (.slice (some ⟨g2, 0, none⟩) R.length gc2) p x (nx x) (q + 1) bs w4.heap.size (.slice (some ⟨nb, 0, none⟩) nn nc)) := ⟨⟨R, hpR, hRx, fun j hj => by
                by_cases hjq : j < q
                · exact hin j hjq
                · obtain rfl : j = q := by omega
                  exact hyR, hM⟩, ⟨g2, gc2, _, rfl, hg2⟩, how, hh4, hnvl, hbs2⟩
            rw [decide_eq_true hyR] at hh
            generalize (nx x).getD q 0 = y at *
            generalize R.length = L2 at *
            clear HQ hin hM hhas HMi how hRx hyR hymem
            go_wp2_with (at_lookup; refine wpList_lookup_own_ok_int _ rfl _ _ 35 rfl 3 3 .i64 keyInt Tryd.underlying35 Tryd.underlying3 (zeroInt _) w1.heap.size _ D rfl hown _ _ rfl hk1 ?_; intro c hat hwc; rw [hh]; clear hat hwc)
            go_roundw
            case rel => exact ⟨q + 1, hlq, by go_num, HN⟩
            case measure => simp [intOf]; omega
          · rw [decide_eq_false hyR] at hh
            have hyr : RSt nx first ((nx x).getD q 0) := RSt.next (hM.all x (by rw [← hRx, List.getD_eq_getElem?_getD, List.getElem?_eq_getElem hpR]; exact List.getElem_mem _)).2 hymem
            have HN : Hid (∀ (w5 w6 : World) (o : Obj) (g6 c6 : Nat), w5.ownsMap Tryd.prog 3 (plainElem Tryd.prog 3) w1.heap.size (R.length + 1) (D.put (.int .i64 ((nx x).getD q 0)) (.lit (.int .i64 (R.length : Int)))) → wr.grownBy w5 (some w1.heap.size) → (w5.alloc o).grownBy w6 (some g2) → w6.ownsRow (w1.heap.size + 1) 3 1 (.slice (some ⟨g6, 0, none⟩) (R.length + 1) c6) (R.length + 1) (ivals R ++ [.int .i64 ((nx x).getD q 0)]) → (g2 = g6 ∨ g6 = (w5.alloc o).heap.size) → MIn nx first N w1.heap.size w1 w6 (.slice (some ⟨g6, 0, none⟩) (R.length + 1) c6) p x (nx x) (q + 1) bs w4.heap.size (.slice (some ⟨nb, 0, none⟩) nn nc)) := fun w5 w6 o g6 c6 h1 h2 h3 h4 h5 => MIn.put hpR hRx hin hM ⟨hy0, hy1⟩ hyr hyR hhas hown hg2 how hh4 hnvl hbs2 rfl h1 h2 h3 h4 h5
            have hownL := hM.own
            have hlt2 := hownL.lt
            generalize (nx x).getD q 0 = y at *
            obtain ⟨L2, hL2⟩ : ∃ L2, L2 = R.length := ⟨_, rfl⟩
            rw [← hL2] at HN hown hownL hRN hlt2 ⊢
            have hkm : L2 < maxLen := by unfold maxLen; omega
            have h63 : L2 + 1 ≤ maxLen := by unfold maxLen; omega
            have hkb : (L2 + 1) * 8 ≤ 140737488355328 := by omega
            have hwf : (Lit.int .i64 (L2 : Int)).wf = true := WalkArith.wf_i64 (by omega)
            have hszr : w1.heap.size + 1 ≤ wr.heap.size := by omega
            clear HQ hin hM hhas HMi how hRx hyR hymem hyr hL2
            go_wp2_with (first
              | (at_lookup; refine wpList_lookup_own_ok_int _ rfl _ _ 35 rfl 3 3 .i64 keyInt Tryd.underlying35 Tryd.underlying3 (zeroInt _) w1.heap.size _ D rfl hown _ _ rfl hk1 ?_; intro c hat hwc; rw [hh]; clear hat hwc)
              | (at_mapUpdate; refine wpList_mapUpdate_own _ rfl _ _ _ 35 rfl 3 3 keyInt Tryd.underlying35 _ w1.heap.size L2 D rfl hown hkm _ _ _ rfl rfl hk1 _ [] (plainElem_int Tryd.underlying3 hwf) ?_; intro w5 hown5 hg5; have how5 := fun o => (hownL.kept hg5 (.inr (fun e => by have := (hlt2 w1.heap.size e).1; omega))).alloc o; have hsz5 := hg5.size; have hbase : ∀ o, w1.heap.size + 1 ≤ (w5.alloc o).heap.size := (fun o => by simp; omega))
              | (at_builtin; refine wpList_append_lies _ rfl (.tmp 64) (.tmp 66) 26 rfl (w1.heap.size + 1) 3 i0 (.int .i64 0) 1 8 Tryd.underlying26 hi hz0 hz1 hz2 rfl (by decide) (.slice (some ⟨g2, 0, none⟩) L2 gc2) L2 _ rfl (how5 _) ⟨w5.heap.size, 0, none⟩ 1 1 [.int .i64 y] rfl rfl (cell_one_new _ _ _) (by intro u hu; simp at hu; subst hu; rfl) (by decide) h63 hkb (hbase _) _ rfl ?_; intro g6 c6 w6 hown6 hg6 hor6 hlt6))
            have HN6 : Hid (MIn nx first N w1.heap.size w1 w6 (.slice (some ⟨g6, 0, none⟩) (L2 + 1) c6) p x (nx x) (q + 1) bs w4.heap.size (.slice (some ⟨nb, 0, none⟩) nn nc)) := HN.out w5 w6 _ g6 c6 hown5 hg5 hg6 hown6 (by rcases hor6 with h | h; exact .inl (by simpa [Value.ownBlock] using h); exact .inr h)
            go_roundw
            case rel => exact ⟨q + 1, hlq, by go_num, HN6⟩
            case measure => simp [intOf]; omega
        · obtain rfl : q = nn := by omega
          have HN : Hid (MetTo nx first N w1.heap.size w1 wr (.slice (some ⟨g2, 0, none⟩) R.length gc2) (p + 1)) := ⟨R, hpR, hM.nodup, hM.fst, hM.all, fun i hi => by
            by_cases hip : i < p
            · exact hM.closed i hip
            · obtain rfl : i = p := by omega
              intro y hy
              rw [hRx] at hy
              obtain ⟨j, hj, rfl⟩ := List.getElem_of_mem hy
              have := hin j (by rw [HNN.out]; exact hj)
              rwa [List.getD_eq_getElem?_getD, List.getElem?_eq_getElem hj] at this, hM.own, hM.ne, hM.met, hM.bel⟩
          have hpN : p + 1 ≤ N := by omega
          generalize R.length = L2 at *
          clear HQ hin hM how hRx
          go_wp2_with fail
          go_roundw
          case rel => exact ⟨p + 1, hpN, by go_num, HN⟩
          case measure => simp [intOf]; omega
    · have hpl : p = L := by omega
      subst hpl
      have HRes : Hid (R.mergeSort leB = reachN nx first N) := by
        refine rise_eq (sorted_rise hM.nodup) (reachN_rise _ _ _) fun y => ?_
        rw [reachN_mem, (List.mergeSort_perm R leB).mem_iff]
        have hc := closed_reach (nx := nx) (l := R) hM.fst (fun x hx => (hM.all x hx).2) (fun x hx y hy => by
          obtain ⟨i, hi, rfl⟩ := List.getElem_of_mem hx
          exact hM.closed i (by rw [HL.out]; exact hi) y (by rw [List.getD_eq_getElem?_getD, List.getElem?_eq_getElem hi]; exact hy))
        rw [hc y]
        exact ⟨fun h => ⟨h.in ⟨hf0, hf1⟩ HIn.out, h⟩, fun h => h.2⟩
      have hown := HMe.out.own
      have hso := sort_own g gc (w1.heap.size + 1) R wr (by rw [← HL.out]; omega) (by rw [HL.out] at hown; exact hown)
      rw [← HL.out] at hso
      clear hM HMe HM hown hL
      go_wp2_with (go_at_call 10; refine hso.mono ?_; rintro e w6 ⟨rfl, hgr6, ho6⟩)
      go_ret2
      refine ⟨_, rfl, ?_, ?_⟩
      · exact hbw.grown hgr6 hbw.size (fun z hz => by rw [← Option.some.inj hz]; have := HB1.out.size; omega)
      · rw [← HRes.out]
        exact intsV_of_owns (by rw [List.length_mergeSort, ← HL.out]; exact ho6)
end Go.Proofs.YtbcjhkhndahdhaaDoor
