/-
  Joined out of ModelsOwn, TasksOf, LassoOpen, States, CodeRes, ValRes, Pairs, At, At2, At3, At4, Eval, Steps, ShelfSort, SortOwn, Nexts, MCount, MCode, MFirst, VrM, in their order: a claim bears at most so many files.
-/
import Derived.Test.YtnicbkkkecfdpaaGreatDoorModelsOf
import Derived.Test.YtnicbkkkecfdpaaGreatDoorPCheck
import Derived.Test.YtnicbkkkecfdpaaGreatDoorModelOpen
import Derived.Test.YtnicbkkkecfdpaaGreatDoorIntsOf
import Derived.Test.YtnicbkkkecfdpaaGreatDoorModels
import Derived.Deep.OwnRows
import Derived.Test.YtnicbkkkecfdpaaGreatDoorMem
import Derived.Test.YtnicbkkkecfdpaaGreatDoorTrees
import Derived.Maps.Own
import Derived.Deep.RegionHeld3
import Derived.Deep.DrawnRows
import Derived.Deep.RegionHeld2
import Derived.Test.YtnicbkkkecfdpaaGreatDoorExpr3
import Derived.Shelf.Sort.Plain
import Derived.Ground.Names2Prog
import Derived.Shelf.Slices.CompactI
import Derived.Shelf.Slices.SearchI
import Derived.Shelf.Slices.In.SortNone
import Derived.Sort.OwnSortedInts
import Derived.Lib.OwnBridge
import Derived.Lib.RowBridge
import Derived.Test.YtnicbkkkecfdpaaGreatDoorMCheck2
/-
  The laws' own copy of a model lies in memory of its own.
-/
namespace Go.Proofs.YtnicbkkkecfdpaaGreatDoor
open Go.ChangeShapes Go.WideShapes Go.ChangeAt Go.RowKit Go.Deep
open Terms Tm

/-- a model in memory of the call's own. -/
def ModelOwn (w : World) (base : Nat) (va vr : Value) (m : Mo) : Prop := ∃ b1 b2, base ≤ b1 ∧ base ≤ b2 ∧ w.ownsRow b1 76 4 va m.vars.length (vflat m.vars) ∧ RulesOwn w b2 vr m.rules
set_option maxRecDepth 20000 in
theorem ModelOwn.modelV {w : World} {base : Nat} {va vr : Value} {m : Mo} (h : ModelOwn w base va vr m) : ModelV w va vr m := by
  obtain ⟨b1, b2, _, _, h1, h2⟩ := h
  exact ⟨varsV_of_owns h1, h2.rulesV⟩
set_option maxRecDepth 20000 in
theorem ModelOwn.low {w : World} {base : Nat} {va vr : Value} {m : Mo} (h : ModelOwn w base va vr m) {b o : Nat} (hb : b < base) (u : Value) : ModelOwn (w.setCell ⟨b, o, none⟩ u) base va vr m := by
  obtain ⟨b1, b2, k1, k2, h1, h2⟩ := h
  exact ⟨b1, b2, k1, k2, owns_setCell h1 (by omega) u, h2.setCell (by omega) u⟩
set_option maxRecDepth 20000 in
theorem ModelOwn.later {w w' : World} {base : Nat} {va vr : Value} {m : Mo} (h : ModelOwn w base va vr m) (hb : Below w.heap.size w w') : ModelOwn w' base va vr m := by
  obtain ⟨b1, b2, k1, k2, h1, h2⟩ := h
  exact ⟨b1, b2, k1, k2, owns_later h1 hb (Nat.le_refl _), h2.later hb (Nat.le_refl _)⟩
set_option maxRecDepth 20000 in
theorem ModelOwn.down {w : World} {base base' : Nat} {va vr : Value} {m : Mo} (h : ModelOwn w base va vr m) (hb : base' ≤ base) : ModelOwn w base' va vr m := by
  obtain ⟨b1, b2, k1, k2, h1, h2⟩ := h
  exact ⟨b1, b2, by omega, by omega, h1, h2⟩

set_option maxRecDepth 20000 in
set_option maxHeartbeats 6400000 in
theorem models_own (va vr : Value) (m : Mo) (w : World) (hsz : MoSz m) (hV : ModelV w va vr m) :
    Calls Tryz.prog 12 #[.agg #[va, vr]] w fun e w' => ∃ va' vr', e = .returned (.agg #[va', vr']) ∧ Below w.heap.size w w' ∧ ModelOwn w' (w.heap.size + 2) va' vr' m := by
  obtain ⟨hsv, hsr, hsz⟩ := hsz
  obtain ⟨⟨ao, cap, rfl, hcap, hvat⟩, hR⟩ := hV
  obtain ⟨ro, rc, rfl⟩ := hR.shape
  obtain ⟨vs, l⟩ := m
  simp only at *
  have HR : Hid (RulesV w (.slice ro l.length rc) l) := hR
  have HSZ := (show Hid _ from hsz)
  obtain ⟨n, hn⟩ : ∃ n, n = l.length := ⟨_, rfl⟩
  have HN : Hid (n = l.length) := hn
  rw [← hn] at hsr HR ⊢
  have hA : ∀ o o', Below w.heap.size w ((w.alloc o).alloc o') := fun o o' => ((Below.refl _ _).alloc (Nat.le_refl _) o).alloc (by simp) o'
  have hnews : ∀ o o' ad, ao = some ad → ∀ j u, (vflat vs)[j]? = some u → ((w.alloc o).alloc o').cell? (ad.add j) = some u := fun o o' ad had j u hj => by
    have hlt : 0 < vs.length := by
      rcases Nat.eq_zero_or_pos vs.length with h0 | h0
      · have := (List.getElem?_eq_some_iff.1 hj).1; rw [vflat_length] at this; omega
      · exact h0
    obtain ⟨b, off, e, hb, hat⟩ := hvat hlt
    rw [had] at e
    obtain rfl := Option.some.inj e
    exact vflat_cells (fun i hi => (hat i hi).below (hA o o') hb) j u hj
  have HNews := (show Hid _ from hnews)
  have HOwn : Hid (∀ (w' : World) (base : Nat) (v : Value), w'.ownsRow base 76 4 v vs.length (vflat vs) → VarsV w' v vs) := fun w' base v h => varsV_of_owns h
  obtain ⟨iv, hiv, hv0, hv1, hv2⟩ := info_parts infoVar
  obtain ⟨is, his, hsa0, hsa1, hsa2⟩ := info_parts infoSet
  obtain ⟨ir, hir, hr0, hr1, hr2⟩ := info_parts infoRule
  have hvl := vflat_length vs
  have hvo := vflat_one vs
  generalize hcl : vflat vs = cells at *
  have HCL : Hid (vflat vs = cells) := hcl
  clear hcl
  obtain ⟨vn, hvn⟩ : ∃ vn, vn = vs.length := ⟨_, rfl⟩
  have HVN : Hid (vn = vs.length) := hvn
  rw [← hvn] at hsv hcap hvl HOwn ⊢
  clear hR hn hnews hvat hsz hvn
  go_enter Tryz.func12, Tryz.ntmps12
  go_wp2_with (at_builtin; refine wpList_copy rfl _ _ 22 rfl (w.heap.size + 2) 76 iv _ 4 40 Tryz.underlying22 hiv hv0 hv1 hv2 rfl (by decide) rfl ao vn cap cells rfl hcap.2 hvl (HNews.out _ _) hvo ?c3 hsv ?c5 ?_)
  case c3 => unfold maxLen; omega
  case c5 => simp
  intro va' w1 hown1 hgrow1
  obtain ⟨va1, vc1, rfl⟩ := owns_slice hown1
  have hb01 : Below (w.heap.size + 2) ((w.alloc (.cells #[.slice ao vn cap, .slice ro n rc] 25)).alloc (.cells #[.slice none 0 0, .slice none 0 0] 25)) w1 := (Below.refl _ _).grown hgrow1 (by simp) (fun q hq => by cases hq)
  have hs1 : w.heap.size + 2 ≤ w1.heap.size := by have := hb01.size; simp at this; omega
  have hb1 : Below w.heap.size w w1 := (hA _ _).trans (hb01.mono (by omega))
  have HBx : Hid (∀ wr, Below w1.heap.size w1 wr → wr.cell? ⟨w.heap.size, 1, none⟩ = some (.slice ro n rc) ∧ wr.cell? ⟨w.heap.size + 1, 0, none⟩ = some (.slice none 0 0) ∧ wr.cell? ⟨w.heap.size + 1, 1, none⟩ = some (.slice none 0 0) ∧ wr.frozen? ⟨w.heap.size + 1, 0, none⟩ = false ∧ wr.frozen? ⟨w.heap.size + 1, 1, none⟩ = false) := fun wr hb => by
    refine ⟨?_, ?_, ?_, ?_, ?_⟩
    · rw [hb.cell (p := ⟨w.heap.size, 1, none⟩) (by simp only; omega), hb01.cell (p := ⟨w.heap.size, 1, none⟩) (by simp)]; simp [go_sem]
    · rw [hb.cell (p := ⟨w.heap.size + 1, 0, none⟩) (by simp only; omega), hb01.cell (p := ⟨w.heap.size + 1, 0, none⟩) (by simp)]; simp [go_sem]
    · rw [hb.cell (p := ⟨w.heap.size + 1, 1, none⟩) (by simp only; omega), hb01.cell (p := ⟨w.heap.size + 1, 1, none⟩) (by simp)]; simp [go_sem]
    · rw [hb.frozen (p := ⟨w.heap.size + 1, 0, none⟩) (by simp only; omega), hb01.frozen (p := ⟨w.heap.size + 1, 0, none⟩) (by simp)]; simp [go_sem]
    · rw [hb.frozen (p := ⟨w.heap.size + 1, 1, none⟩) (by simp only; omega), hb01.frozen (p := ⟨w.heap.size + 1, 1, none⟩) (by simp)]; simp [go_sem]
  have HO1 : Hid (w1.ownsRow (w.heap.size + 2) 76 4 (.slice va1 vn vc1) vn cells) := hown1
  have HB1 : Hid (Below w.heap.size w w1) := hb1
  clear hgrow1 hown1 hb01 hA HNews hvl hvo hiv hv0 hv1 hv2 hcap hb1
  go_wp2
  go_loopw [4] (fun i wr => ∃ (k : Nat) (vR : Value), k ≤ n ∧ i = .int .i64 k ∧ Hid (RulesCur w1 wr (.slice va1 vn vc1) vR (l.take k))) (fun i _ => n - (intOf i).toNat)
  case atStart => exact ⟨0, .slice none 0 0, Nat.zero_le _, rfl, by simp [go_sem], by simp [go_sem], by simp [go_sem], RulesOwn.nil _ _, (Below.refl _ _).alloc (Nat.le_refl _) _, by simp⟩
  case round =>
    obtain ⟨k, vR, hk, rfl, HC⟩ := hrel
    obtain ⟨e0, e1, ef, hro, hbel, hlt1⟩ := HC.out
    have HRO := (show Hid _ from hro)
    have HBel := (show Hid _ from hbel)
    have hbw := HB1.out.trans (hbel.mono HB1.out.size)
    obtain ⟨cB, cr0, cr1, fr0, fr1⟩ := HBx.out wr hbel
    by_cases hlt : k < n
    · obtain ⟨b, off, rfl, hblt, hat⟩ := HR.out.at (i := k) (by rw [← HN.out]; exact hlt)
      obtain ⟨⟨u, c0', hO⟩, sv, c1', hS⟩ := hat
      have hrsz := HSZ.out k (by rw [← HN.out]; exact hlt)
      have HTk := (show Hid _ from take_snocR l (q := k) (by rw [← HN.out]; exact hlt))
      generalize l.getD k ru0 = r at *
      obtain ⟨gd, ss⟩ := r
      obtain ⟨hgz, hsz2, hsz3⟩ := hrsz
      simp only at hO hS hgz hsz2 hsz3
      obtain ⟨ua, uc, rfl⟩ := hO.shape
      obtain ⟨sa, sc, rfl⟩ := hS.shape
      have c0 := (hbw.cell (p := ⟨b, off + k * 2, none⟩) hblt).trans c0'
      have hops := ops_any _ gd wr hgz (hO.below hbw)
      have HS : Hid (SetsV w (.slice sa ss.length sc) ss) := hS
      have HSz3 := (show Hid _ from hsz3)
      obtain ⟨gn, hgn⟩ : ∃ gn, gn = gd.length := ⟨_, rfl⟩
      have HGN : Hid (gn = gd.length) := hgn
      rw [← hgn] at hgz c0 c0' hops
      clear hgn
      obtain ⟨sn, hsn⟩ : ∃ sn, sn = ss.length := ⟨_, rfl⟩
      have HSN : Hid (sn = ss.length) := hsn
      rw [← hsn] at hsz2 HS c1'
      clear hO hS hsn hsz3 hbel hro
      go_wp2_with (go_at_call 14; refine hops.mono ?_; rintro e w2 ⟨gv, rfl, hb2, ho2⟩; obtain ⟨ga, gc, rfl⟩ := owns_slice ho2)
      generalize wr = wo at *
      have hwo : w.heap.size < wo.heap.size := by omega
      have HB2 : Hid (Below wo.heap.size wo w2) := hb2
      have HO2 := (show Hid _ from ho2)
      have HBw : Hid (Below w.heap.size w wo) := hbw
      clear hops hb2 ho2 hbw
      go_loopw [6] (fun i wr => ∃ (q : Nat) (vS : Value), q ≤ sn ∧ i = .int .i64 q ∧ Hid (RuleCur w2 wr (.slice ga gn gc) vS (ss.take q))) (fun i _ => sn - (intOf i).toNat)
      case atStart => exact ⟨0, .slice none 0 0, Nat.zero_le _, rfl, by simp [go_sem], by simp [go_sem], by simp [go_sem], SetsOwn.nil _ _, (Below.refl _ _).alloc (Nat.le_refl _) _, by simp⟩
      case round =>
        obtain ⟨q, vS, hq, rfl, HC2⟩ := hrel
        obtain ⟨d0, d1, df, hso, hbel2, hlt2⟩ := HC2.out
        have hbo2 : Below wo.heap.size wo wr := HB2.out.trans (hbel2.mono HB2.out.size)
        have hbw2 : Below w.heap.size w wr := HBw.out.trans (hbo2.mono HBw.out.size)
        have cB2 := (hbo2.cell (p := ⟨w.heap.size, 1, none⟩) hwo).trans cB
        have c12 := (hbw2.cell (p := ⟨b, off + k * 2 + 1, none⟩) hblt).trans c1'
        by_cases hqs : q < sn
        · obtain ⟨sb, soff, rfl, hsb, hsat⟩ := HS.out.at (i := q) (by rw [← HSN.out]; exact hqs)
          obtain ⟨f0', uu, f1', hOu⟩ := hsat
          have hvz := HSz3.out q (by rw [← HSN.out]; exact hqs)
          have HTq := (show Hid _ from take_snocS ss (q := q) (by rw [← HSN.out]; exact hqs))
          generalize ss.getD q st0 = x at *
          obtain ⟨y, val⟩ := x
          simp only [StSz] at f0' hOu hvz
          obtain ⟨ua2, uc2, rfl⟩ := hOu.shape
          have f0 := (hbw2.cell (p := ⟨sb, soff + q * 2, none⟩) hsb).trans f0'
          have f1 := (hbw2.cell (p := ⟨sb, soff + q * 2 + 1, none⟩) hsb).trans f1'
          have hops2 := fun o => ops_any _ val ((wr.alloc o).drew) hvz (hOu.below (hbw2.alloc hbw2.size o).drew)
          obtain ⟨us, hus, hts⟩ := hso
          have hlq : (ss.take q).length = q := by rw [List.length_take, ← HSN.out]; omega
          have HUS := (show Hid _ from hus)
          have HTS := (show Hid _ from hts)
          rw [hlq] at hus
          obtain ⟨vl, hvl⟩ : ∃ vl, vl = val.length := ⟨_, rfl⟩
          have HVL : Hid (vl = val.length) := hvl
          rw [← hvl] at f1 hops2 hvz
          have HLQ : Hid ((ss.take q).length = q) := hlq
          have h63 : q + 1 ≤ maxLen := by unfold maxLen; omega
          have hby : (q + 1) * 32 ≤ 140737488355328 := by omega
          clear hOu f0' f1' hts hbel2 hbo2 hbw2 hlq hvl HC e0 e1 ef HRO HBel cr0 cr1 fr0 fr1 HR HBx HSZ HO1 HOwn HS HSz3 HO2 HB2 HBw cB c0 c0' c1' HB1 hir hr0 hr1 hr2 hgz
          go_wp2_with fail
          clear cB2 c12 f0 f1
          go_region_law (first
              | (refine step_append_lies _ (by rfl) (.tmp 48) (.tmp 55) 60 (by rfl) (w2.heap.size + 1) 64 is _ 2 32 Tryz.underlying60 his hsa0 hsa1 hsa2 (by rfl) (by decide) vS q us (by rfl) (hus3 _) ⟨w3.heap.size, 0, none⟩ 1 1 [.int .i64 y, .slice a3 vl c3] (by rfl) (by rfl) (two_new _ _ _ _) (by intro u hu; simp at hu; rcases hu with rfl | rfl <;> rfl) (by decide) h63 hby (hbase3 _) (w3.heap.size + 1) (by simp) ?_; intro g cp w4 ho4 hg4 hat4 hl4; obtain ⟨g0, g1, gf⟩ := HC2.out.at4 HUS.out hb3 hg4)
              | (go_simp; go_at_call 14; refine (hops2 _).mono ?_; rintro e w3 ⟨v3, rfl, hb3, ho3⟩; obtain ⟨a3, c3, rfl⟩ := owns_slice ho3; obtain ⟨p0, p1, pf, psz, hbw3⟩ := HC2.out.at3 hb3; obtain ⟨⟨hk3, hk3'⟩, hk3a, hkk, hus3, hbase3⟩ := sb_facts hus hlt2 hb3))
          all_goals
            have hst : RuleCur w2 (w4.setCell ⟨w2.heap.size, 1, none⟩ (.slice (some ⟨g, 0, none⟩) (q + 1) cp)) (.slice ga gn gc) (.slice (some ⟨g, 0, none⟩) (q + 1) cp) (ss.take (q + 1)) := by
              rw [HTq.out]
              exact RuleCur.step (x := ⟨y, val⟩) HC2.out HUS.out HTS.out hb3 (by rw [← HVL.out]; exact ho3) hg4 (by rw [HLQ.out]; exact ho4)
            have HST := (show Hid _ from hst)
            clear hst ho4 hg4 ho3 hb3 hus3 hbase3 hkk hk3a HUS HTS HC2 hus
            go_wp2_with fail
            go_roundw
            case rel => exact ⟨q + 1, _, hqs, by go_num, HST.out⟩
            case measure => simp [intOf]; omega
        · have hqe : q = sn := by omega
          have hso' : SetsOwn wr (w2.heap.size + 1) vS ss := by rwa [List.take_of_length_le (by rw [← HSN.out]; omega)] at hso
          obtain ⟨sa3, sc3, hvs⟩ : ∃ a c, vS = .slice a sn c := by
            obtain ⟨us, h1, _⟩ := hso'
            rw [← HSN.out] at h1
            exact owns_slice h1
          subst hvs
          have e1' := (hbo2.cell (p := ⟨w1.heap.size, 1, none⟩) hlt1).trans e1
          have ef' := (hbo2.frozen (p := ⟨w1.heap.size, 1, none⟩) hlt1).trans ef
          have hgu : wr.ownsRow (w1.heap.size + 1) 92 2 (.slice ga gn gc) gd.length (flat gd) := by
            have := HO2.out
            rw [HGN.out] at this
            have := owns_mono (owns_later this hbel2 (Nat.le_refl _)) (show w1.heap.size + 1 ≤ wo.heap.size from hlt1)
            rwa [← HGN.out] at this ⊢
          have hsu : SetsOwn wr (w1.heap.size + 1) (.slice sa3 sn sc3) ss := hso'.mono (by have := HB2.out.size; omega)
          obtain ⟨us, hus, hts⟩ := HRO.out
          have HUS := (show Hid _ from hus)
          have HTS := (show Hid _ from hts)
          have hlk : (l.take k).length = k := by rw [List.length_take, ← HN.out]; omega
          have HLK : Hid ((l.take k).length = k) := hlk
          rw [hlk] at hus
          have hus2 := owns_later hus hbo2 (Nat.le_refl _)
          have HGU := (show Hid _ from hgu)
          have HSU := (show Hid _ from hsu)
          have HBO : Hid (Below wo.heap.size wo wr) := hbo2
          have h63 : k + 1 ≤ maxLen := by unfold maxLen; omega
          have hby : (k + 1) * 48 ≤ 140737488355328 := by omega
          have hbase : ∀ o, w1.heap.size + 1 ≤ (wr.alloc o).heap.size := fun o => by have := hbo2.size; simp; omega
          have hus3 := fun o => hus2.alloc o
          clear hso hso' hgu hsu hts hlk hus hus2 hbel2 hbw2 hbo2 HC2 HO2 HB2 HBw HO1 HOwn HBx HR HS HSz3 HSZ HB1 c0 c0' c1' cB cr0 cr1 fr0 fr1 e0 e1 ef
          go_wp2_with (at_builtin; refine wpList_append_lies _ rfl (.tmp 59) (.tmp 61) 23 rfl (w1.heap.size + 1) 62 ir _ 2 48 Tryz.underlying23 hir hr0 hr1 hr2 rfl (by decide) vR k us rfl (hus3 _) ⟨wr.heap.size, 0, none⟩ 1 1 [.slice ga gn gc, .slice sa3 sn sc3] rfl rfl (two_new _ _ _ _) (by intro u hu; simp at hu; rcases hu with rfl | rfl <;> rfl) (by decide) h63 hby (hbase _) (wr.heap.size + 1) (by simp) ?_; intro g cp w4 ho4 hg4 hat4 hl4; obtain ⟨g0, g1, gf⟩ := HC.out.at4 HUS.out HBO.out hg4)
          have hst : RulesCur w1 (w4.setCell ⟨w1.heap.size, 1, none⟩ (.slice (some ⟨g, 0, none⟩) (k + 1) cp)) (.slice va1 vn vc1) (.slice (some ⟨g, 0, none⟩) (k + 1) cp) (l.take (k + 1)) := by
            rw [HTk.out]
            exact RulesCur.step (x := ⟨gd, ss⟩) HC.out HUS.out HTS.out HBO.out HGU.out HSU.out hg4 (by rw [HLK.out]; exact ho4)
          have HST := (show Hid _ from hst)
          clear hst
          go_roundw
          case rel => exact ⟨k + 1, _, hlt, by go_num, HST.out⟩
          case measure => simp [intOf]; omega
    · have hkn : k = n := by omega
      obtain ⟨ra, rcap, hvr⟩ : ∃ ra rcap, vR = .slice ra n rcap := by
        obtain ⟨us, h1, _⟩ := hro
        obtain ⟨a, c, rfl⟩ := owns_slice h1
        exact ⟨a, c, by rw [List.length_take, ← HN.out, hkn, Nat.min_self]⟩
      subst hvr
      have hfin : ModelOwn ((wr.setCell ⟨w.heap.size + 1, 0, none⟩ (.slice va1 vn vc1)).setCell ⟨w.heap.size + 1, 1, none⟩ (.slice ra n rcap)) (w.heap.size + 2) (.slice va1 vn vc1) (.slice ra n rcap) ⟨vs, l⟩ := by
        refine ⟨w.heap.size + 2, w1.heap.size + 1, Nat.le_refl _, by omega, ?_, ?_⟩
        · show World.ownsRow _ _ _ _ _ vs.length (vflat vs)
          rw [HCL.out, ← HVN.out]
          exact owns_setCell (owns_setCell (owns_later HO1.out hbel (Nat.le_refl _)) (by omega) _) (by omega) _
        · have := (hro.setCell (b := w.heap.size + 1) (o := 0) (by omega) (.slice va1 vn vc1)).setCell (b := w.heap.size + 1) (o := 1) (by omega) (.slice ra n rcap)
          rwa [List.take_of_length_le (by rw [← HN.out]; omega)] at this
      have HFin := (show Hid _ from hfin)
      clear hfin hro HC HRO
      go_wp2
      refine bodyPost_ret (v := .agg #[.slice va1 vn vc1, .slice ra n rcap]) (by simp [results, Tryz.results12, go_sem, cr0, cr1]) rfl ⟨_, _, rfl, ?_, HFin.out⟩
      exact (hbw.setCell (by simp) _).setCell (by simp) _
end Go.Proofs.YtnicbkkkecfdpaaGreatDoor

/-
  The laws' own copy of a task, and whether two are the same.
-/
namespace Go.Proofs.YtnicbkkkecfdpaaGreatDoor
open Go.ChangeShapes Go.WideShapes Go.ChangeAt Go.RowKit Go.Deep
open Terms Tm

set_option maxRecDepth 20000 in
theorem TermsOwn.low {w : World} {base : Nat} {v : Value} {ts : List (List (Int × Int))} (h : TermsOwn w base v ts) {b o : Nat} (hb : b < base) (u : Value) : TermsOwn (w.setCell ⟨b, o, none⟩ u) base v ts := by
  obtain ⟨us, h1, h2⟩ := h
  exact ⟨us, owns_setCell h1 hb u, fun j hj => owns_setCell (h2 j hj) hb u⟩
/-- no list of a task is too long. -/
structure TkSz (m : Mo) (ps : List (List (Int × Int))) (l : List (Int × Int)) : Prop where
  mo : MoSz m
  p1 : ps.length * 24 ≤ 140737488355328
  p2 : ∀ i, i < ps.length → (ps.getD i []).length * 16 ≤ 140737488355328
  fo : l.length * 16 ≤ 140737488355328

set_option maxHeartbeats 1600000 in
set_option maxRecDepth 20000 in
/-- THE CONTRACT OF tasks: a copy. -/
theorem tasks_any (va vr pv fv : Value) (m : Mo) (ps : List (List (Int × Int))) (l : List (Int × Int)) (w : World) (hZ : TkSz m ps l) (hV : TaskV w va vr pv fv m ps l) :
    Calls Tryz.prog 5 #[.agg #[va, vr, pv, fv]] w fun e w' => ∃ ao vn ac ro rn rc po pn pc fo fn fc, e = .returned (.agg #[.slice ao vn ac, .slice ro rn rc, .slice po pn pc, .slice fo fn fc]) ∧ Below w.heap.size w w' ∧ Hid (TaskV w' (.slice ao vn ac) (.slice ro rn rc) (.slice po pn pc) (.slice fo fn fc) m ps l) := by
  obtain ⟨ao, ac, rfl⟩ := hV.mo.1.shape
  obtain ⟨ro, rc, rfl⟩ := hV.mo.2.shape
  obtain ⟨po, pc, rfl⟩ := hV.ps.shape
  obtain ⟨fo, fc, rfl, _⟩ := id hV.fo
  obtain ⟨W0, hW0⟩ : ∃ W0, W0 = ((w.alloc (.cells #[.slice ao m.vars.length ac, .slice ro m.rules.length rc, .slice po ps.length pc, .slice fo l.length fc] 29)).alloc (.cells #[.slice none 0 0, .slice none 0 0, .slice none 0 0, .slice none 0 0] 29)) := ⟨_, rfl⟩
  have hA : Below w.heap.size w W0 := by rw [hW0]; exact ((Below.refl _ _).alloc (Nat.le_refl _) _).alloc (by simp) _
  have hz : W0.heap.size = w.heap.size + 1 + 1 := by rw [hW0]; simp
  have HSt : Hid (∀ w1, Below W0.heap.size W0 w1 → (w1.cell? ⟨w.heap.size, 0, none⟩ = some (.slice ao m.vars.length ac) ∧ w1.cell? ⟨w.heap.size, 1, none⟩ = some (.slice ro m.rules.length rc) ∧ w1.cell? ⟨w.heap.size, 2, none⟩ = some (.slice po ps.length pc) ∧ w1.cell? ⟨w.heap.size, 3, none⟩ = some (.slice fo l.length fc)) ∧ ∀ i, i < 4 → w1.cell? ⟨w.heap.size + 1, i, none⟩ = some (.slice none 0 0) ∧ w1.frozen? ⟨w.heap.size + 1, i, none⟩ = false) := fun w1 hb => by
    refine ⟨⟨(hb.cell (p := ⟨w.heap.size, 0, none⟩) (by show w.heap.size < _; omega)).trans ?_, (hb.cell (p := ⟨w.heap.size, 1, none⟩) (by show w.heap.size < _; omega)).trans ?_, (hb.cell (p := ⟨w.heap.size, 2, none⟩) (by show w.heap.size < _; omega)).trans ?_, (hb.cell (p := ⟨w.heap.size, 3, none⟩) (by show w.heap.size < _; omega)).trans ?_⟩, fun i hi => ⟨(hb.cell (p := ⟨w.heap.size + 1, i, none⟩) (by show w.heap.size + 1 < _; omega)).trans ?_, (hb.frozen (p := ⟨w.heap.size + 1, i, none⟩) (by show w.heap.size + 1 < _; omega)).trans ?_⟩⟩
    · rw [hW0]; simp [go_sem]
    · rw [hW0]; simp [go_sem]
    · rw [hW0]; simp [go_sem]
    · rw [hW0]; simp [go_sem]
    · have : i = 0 ∨ i = 1 ∨ i = 2 ∨ i = 3 := by omega
      rcases this with rfl | rfl | rfl | rfl <;> (rw [hW0]; simp [go_sem])
    · have : i = 0 ∨ i = 1 ∨ i = 2 ∨ i = 3 := by omega
      rcases this with rfl | rfl | rfl | rfl <;> (rw [hW0]; simp [go_sem])
  have HM : Hid (∀ w1, Below W0.heap.size W0 w1 → Calls Tryz.prog 12 #[.agg #[.slice ao m.vars.length ac, .slice ro m.rules.length rc]] w1 fun e w' => ∃ ao vn ac ro rn rc, e = .returned (.agg #[.slice ao vn ac, .slice ro rn rc]) ∧ Below w1.heap.size w1 w' ∧ Hid (ModelOwn w' W0.heap.size (.slice ao vn ac) (.slice ro rn rc) m)) := fun w1 hb => by
    refine (models_own _ _ m w1 hZ.mo (hV.mo.below (hA.trans (hb.mono hA.size)))).mono fun e w' ⟨va', vr', h1, h2, h3⟩ => ?_
    obtain ⟨a1, c1, rfl⟩ := h3.modelV.1.shape
    obtain ⟨a2, c2, rfl⟩ := h3.modelV.2.shape
    exact ⟨a1, _, c1, a2, _, c2, h1, h2, h3.down (by have := hb.size; omega)⟩
  have HP : Hid (∀ w1, Below W0.heap.size W0 w1 → Calls Tryz.prog 13 #[.slice po ps.length pc] w1 fun e w' => ∃ po pn pc, e = .returned (.slice po pn pc) ∧ Below w1.heap.size w1 w' ∧ Hid (TermsOwn w' w1.heap.size (.slice po pn pc) ps)) := fun w1 hb => by
    refine (terms_any _ ps w1 hZ.p1 hZ.p2 (hV.ps.below (hA.trans (hb.mono hA.size)))).mono fun e w' ⟨v', h1, h2, h3⟩ => ?_
    obtain ⟨a1, c1, rfl⟩ := h3.termsV.shape
    exact ⟨a1, _, c1, h1, h2, h3⟩
  have HF : Hid (∀ w1, Below W0.heap.size W0 w1 → Calls Tryz.prog 14 #[.slice fo l.length fc] w1 fun e w' => ∃ fo fc, e = .returned (.slice fo l.length fc) ∧ Below w1.heap.size w1 w' ∧ Hid (w'.ownsRow w1.heap.size 92 2 (.slice fo l.length fc) l.length (flat l))) := fun w1 hb => by
    refine (ops_any _ l w1 hZ.fo (hV.fo.below (hA.trans (hb.mono hA.size)))).mono fun e w' ⟨v', h1, h2, h3⟩ => ?_
    obtain ⟨a1, c1, rfl⟩ := owns_slice h3
    exact ⟨a1, c1, h1, h2, h3⟩
  have hB0 : Below W0.heap.size W0 W0 := Below.refl _ _
  have HW0 := (show Hid _ from hW0)
  have HLl : Hid (∀ (W : World) (b : Nat) (v : Value), W.ownsRow b 92 2 v l.length (flat l) → OpsV W v l) := fun W b v h => opsV_of_owns h
  generalize m.vars.length = vn at *
  generalize m.rules.length = rn at *
  generalize ps.length = pn at *
  generalize l.length = fn at *
  clear hV hZ
  go_enter Tryz.func5, Tryz.ntmps5
  go_wp2_with fail
  rw [← hW0]
  clear hW0
  go_region_held3 (fun w' => w'.cell? ⟨w.heap.size, 0, none⟩ = some (.slice ao vn ac) ∧ w'.cell? ⟨w.heap.size, 1, none⟩ = some (.slice ro rn rc) ∧ w'.cell? ⟨w.heap.size, 2, none⟩ = some (.slice po pn pc) ∧ w'.cell? ⟨w.heap.size, 3, none⟩ = some (.slice fo fn fc))
    (first | exact (HSt.out _ (by first | exact hB0 | exact hB0.drew | exact hb03 | exact hb02 | exact hb01)).1 | (obtain ⟨⟨y0, y1, y2, y3⟩, _⟩ := HSt.out _ hb03; exact ⟨by simp [go_sem, y0], by simp [go_sem, y1], by simp [go_sem, y2], by simp [go_sem, y3]⟩))
    (first | (go_at_call 12; refine (HM.out _ hB0.drew).mono ?_; rintro e w1 ⟨a1, n1, c1, a2, n2, c2, rfl, hb1, HO1⟩; have hb01 := hB0.drew.trans (hb1.mono hB0.drew.size)) | (go_at_call 13; refine (HP.out _ hb01).mono ?_; rintro e w2 ⟨a3, n3, c3, rfl, hb2, HO2⟩; have hb02 := hb01.trans (hb2.mono hb01.size)) | (go_at_call 14; refine (HF.out _ hb02).mono ?_; rintro e w3 ⟨a4, c4, rfl, hb3, HO3⟩; have hb03 := hb02.trans (hb3.mono hb02.size); have g0 := (HSt.out _ hb03).2 0 (by omega); have g1 := (HSt.out _ hb03).2 1 (by omega); have g2 := (HSt.out _ hb03).2 2 (by omega); have g3 := (HSt.out _ hb03).2 3 (by omega); have k0 := g0.1; have k1 := g1.1; have k2 := g2.1; have k3 := g3.1; have f0 := g0.2; have f1 := g1.2; have f2 := g2.2; have f3 := g3.2))
  have hs1 := hb01.size
  have hs2 := hb02.size
  have hbw := hA.trans (hb03.mono hA.size)
  have hb13 := hb2.trans (hb3.mono hb2.size)
  have HV3 : Hid (TaskV ((((w3.setCell ⟨w.heap.size + 1, 0, none⟩ (.slice a1 n1 c1)).setCell ⟨w.heap.size + 1, 1, none⟩ (.slice a2 n2 c2)).setCell ⟨w.heap.size + 1, 2, none⟩ (.slice a3 n3 c3)).setCell ⟨w.heap.size + 1, 3, none⟩ (.slice a4 fn c4)) (.slice a1 n1 c1) (.slice a2 n2 c2) (.slice a3 n3 c3) (.slice a4 fn c4) m ps l) := by
    refine ⟨((((HO1.out.later hb13).low (by omega) _).low (by omega) _).low (by omega) _ |>.low (by omega) _).modelV, ((((HO2.out.later hb3 (Nat.le_refl _)).low (by omega) _).low (by omega) _).low (by omega) _ |>.low (by omega) _).termsV, HLl.out _ w2.heap.size _ (owns_setCell (owns_setCell (owns_setCell (owns_setCell HO3.out (by omega) _) (by omega) _) (by omega) _) (by omega) _)⟩
  have HBf : Hid (Below w.heap.size w ((((w3.setCell ⟨w.heap.size + 1, 0, none⟩ (.slice a1 n1 c1)).setCell ⟨w.heap.size + 1, 1, none⟩ (.slice a2 n2 c2)).setCell ⟨w.heap.size + 1, 2, none⟩ (.slice a3 n3 c3)).setCell ⟨w.heap.size + 1, 3, none⟩ (.slice a4 fn c4))) := (((hbw.setCell (p := ⟨w.heap.size + 1, 0, none⟩) (by simp) _).setCell (p := ⟨w.heap.size + 1, 1, none⟩) (by simp) _).setCell (p := ⟨w.heap.size + 1, 2, none⟩) (by simp) _).setCell (p := ⟨w.heap.size + 1, 3, none⟩) (by simp) _
  go_wp2_with fail
  refine bodyPost_ret (v := .agg #[.slice a1 n1 c1, .slice a2 n2 c2, .slice a3 n3 c3, .slice a4 fn c4]) ?_ rfl ⟨_, _, _, _, _, _, _, _, _, _, _, _, rfl, HBf.out, HV3⟩
  simp [results, Tryz.results5, go_sem, k0, k1, k2, k3]

end Go.Proofs.YtnicbkkkecfdpaaGreatDoor

/-
  A lasso of numbers that came in.
-/
namespace Go.Proofs.YtnicbkkkecfdpaaGreatDoor
open Go.ChangeShapes Go.WideShapes Go.ChangeAt Go.RowKit Go.Deep Go.Joins
open Terms Tm

section
variable {H : Type} {enc : TypeId × Value → H} {W : World}
set_option maxRecDepth 20000 in
theorem bulk_one (d : DataW H) : 1 ≤ Rows.uptoBulk d := by
  cases d with
  | lit l => cases l <;> simp [Rows.uptoBulk]
  | nil => simp [Rows.uptoBulk]
  | ptr d => simp [Rows.uptoBulk]
  | slice elems spare => simp [Rows.uptoBulk]
  | agg parts => simp [Rows.uptoBulk]
  | iface t d => simp [Rows.uptoBulk]
  | map entries => simp [Rows.uptoBulk]
  | held h => simp [Rows.uptoBulk]
set_option maxRecDepth 20000 in
theorem bulk_len (l : List (DataW H)) : l.length ≤ Rows.uptoBulkAll l := by
  induction l with
  | nil => simp [Rows.uptoBulkAll]
  | cons x r ih => have := bulk_one x; simp only [Rows.uptoBulkAll, List.length_cons]; omega
set_option maxRecDepth 20000 in
theorem bytesIntV : Tryz.prog.bytesOf 3 = 8 := by kernel_rfl
set_option maxRecDepth 20000 in
theorem cellsIntV : Tryz.prog.cellsOf 3 = 1 := by kernel_rfl
set_option maxRecDepth 20000 in
theorem cellsLasso : Tryz.prog.cellsOf 32 = 2 := by kernel_rfl
set_option maxRecDepth 20000 in
theorem open_ints_cV {fuel : Nat} {v : Value} {d : DataW H} {p : List MemPlace} (hf : DataW.trod enc Tryz.prog W 0 (fun _ => true) true fuel 30 [v] = some (d, p)) (hw : LightD 30 d) : ∃ l, IntsW W v l ∧ l.length * 8 ≤ 140737488355328 ∧ l.length ≤ Rows.uptoBulk d := by
  rcases open_slice1 Tryz.underlying30 cellsIntV hf with ⟨hcs, hx⟩ | ⟨a, len, cap, m, n, V, D, Pl, hcs, _, hl, hm, hmm, hx, hcell⟩
  · simp at hcs
    subst hcs
    exact ⟨[], ⟨none, 0, rfl, fun _ => ⟨rfl, rfl⟩, fun h => absurd rfl h⟩, by simp, by simp⟩
  · simp at hcs
    subst hcs
    simp at hmm
    subst hmm
    rw [(Prod.mk.inj hx).1] at hw
    have hs := (hw.slice Tryz.underlying30).1
    rw [bytesIntV] at hs
    simp only [List.length_map, List.length_range, reachBytes] at hs
    refine ⟨(List.range len).map fun i => intOf (V i), ⟨some a, m, by simp, fun h => by simp at h, fun hne => ?_⟩, by simp; omega, ?_⟩
    rotate_left
    · rw [(Prod.mk.inj hx).1]
      have h9 := bulk_len ((List.range len).map D)
      simp only [List.length_map, List.length_range] at h9 ⊢
      simp only [Rows.uptoBulk]
      omega
    have hpos : 0 < len := by
      rcases Nat.eq_zero_or_pos len with h0 | h0
      · subst h0; simp at hne
      · exact h0
    obtain ⟨b, off, spot⟩ := a
    have hspot : spot = none := by simpa [Addr.add] using World.cell?_spot (hcell 0 (by omega)).1
    subst hspot
    refine ⟨b, off, rfl, ?_, fun i hi => ?_⟩
    · have := World.block_lt_of_cell? W _ (hcell 0 (by omega)).1
      simpa [Addr.add] using this
    · simp only [List.length_map, List.length_range] at hi
      obtain ⟨c0, t0⟩ := hcell i (by omega)
      rw [add_plain] at c0
      obtain ⟨x0, e0, _, _⟩ := DataW.trod_int Tryz.underlying3 t0
      simp at e0
      rw [c0, getD_range _ 0 hi, e0]
      rfl
set_option maxRecDepth 20000 in
/-- A LASSO THAT CAME IN. -/
theorem open_lasso {base : Nat} {v : Value} {d : DataW H} {p : List MemPlace} {ts : List TypeId} {ds : List (DataW H)} {j : Nat}
    (hv : Value.okWide Tryz.prog W .any base 32 v) (h : DataW.Trod enc Tryz.prog W 0 (fun _ => true) true 32 v d p)
    (hsz : (DataW.weightsEach Tryz.prog ts ds).all (· ≤ reachBytes) = true) (ht : ts[j]? = some 32) (hd : ds[j]? = some d) : ∃ sv lv ss ll, v = .agg #[sv, lv] ∧ IntsW W sv ss ∧ IntsW W lv ll ∧ ss.length * 8 ≤ 140737488355328 ∧ ll.length * 8 ≤ 140737488355328 ∧ ss.length + ll.length ≤ Rows.uptoBulk d := by
  obtain ⟨va, vr, y0, y1, n, rfl, rfl, _, h0, h1⟩ := open_agg2 Tryz.underlying32 (by kernel_rfl) cellsLasso hv h
  have hw : LightD 32 (.agg [y0.1, y1.1]) := fun n hn => by
    have := List.all_eq_true.1 hsz _ (DataW.weights_mem_each ht hd n hn)
    simpa using this
  obtain ⟨w0, w1⟩ := hw.agg2 Tryz.underlying32
  obtain ⟨l, h2, h3, h6⟩ := open_ints_cV h0 w0
  obtain ⟨r, h4, h5, h7⟩ := open_ints_cV h1 w1
  refine ⟨va, vr, l, r, rfl, h2, h4, h3, h5, ?_⟩
  simp only [Rows.uptoBulk, Rows.uptoBulkAll]
  omega
end
end Go.Proofs.YtnicbkkkecfdpaaGreatDoor

/-
  Plain mathematics of states and their codes. Nothing of the program is named here.
-/
namespace Go.Proofs.YtnicbkkkecfdpaaGreatDoor
open Terms Tm

set_option maxRecDepth 20000 in
theorem wr64 {x : Int} (h1 : -9223372036854775808 ≤ x) (h2 : x ≤ 9223372036854775807) : IntKind.i64.wrap x = x := by
  rw [IntWalk.i64_left]
  exact IntWalk.wrap64_in x ⟨h1, h2⟩
/-- the product of so many spans from a place on. -/
def prodSeg (l : List Vr) (a : Nat) : Nat → Int
  | 0 => 1
  | c + 1 => prodSeg l a c * vspan (l.getD (a + c) vr0)
set_option maxRecDepth 20000 in
theorem prodSeg_zero (l : List Vr) (i : Nat) : prodSeg l 0 i = prodTo l i := by
  induction i with
  | zero => rfl
  | succ i ih => simp only [prodSeg, prodTo, ih, Nat.zero_add]
set_option maxRecDepth 20000 in
theorem prodSeg_first (l : List Vr) (a c : Nat) : prodSeg l a (c + 1) = vspan (l.getD a vr0) * prodSeg l (a + 1) c := by
  induction c with
  | zero => simp [prodSeg]
  | succ c ih =>
    rw [prodSeg, ih, prodSeg, Int.mul_assoc, show a + (c + 1) = a + 1 + c by omega]
set_option maxRecDepth 20000 in
theorem prodTo_seg (l : List Vr) (a c : Nat) : prodTo l a * prodSeg l a c = prodTo l (a + c) := by
  induction c with
  | zero => simp [prodSeg]
  | succ c ih =>
    rw [prodSeg, ← Int.mul_assoc, ih]
    rfl
/-- what the variables from a place on make. -/
def segP (l : List Vr) (i : Nat) : Int := prodSeg l i (l.length - i)
set_option maxRecDepth 20000 in
theorem segP_step {l : List Vr} {i : Nat} (h : i < l.length) : segP l i = vspan (l.getD i vr0) * segP l (i + 1) := by
  unfold segP
  rw [show l.length - i = (l.length - (i + 1)) + 1 by omega, prodSeg_first]
set_option maxRecDepth 20000 in
theorem segP_end (l : List Vr) : segP l l.length = 1 := by simp [segP, prodSeg]
set_option maxRecDepth 20000 in
theorem segP_zero (l : List Vr) : segP l 0 = prodTo l l.length := by simp [segP, prodSeg_zero]
set_option maxRecDepth 20000 in
theorem prodSeg_pos {l : List Vr} (h : VarsOk l) {a c : Nat} (hc : a + c ≤ l.length) : 1 ≤ prodSeg l a c := by
  induction c with
  | zero => simp [prodSeg]
  | succ c ih =>
    have h1 := ih (by omega)
    have h2 := (h.at (j := a + c) (by omega)).1
    have := Int.mul_le_mul h1 h2 (by omega) (by omega)
    simpa [prodSeg] using this
set_option maxRecDepth 20000 in
theorem prodSeg_le {l : List Vr} (h : VarsOk l) {a c : Nat} (hc : a + c ≤ l.length) : prodSeg l a c ≤ 4096 := by
  have h1 := h.prod (j := a + c) hc
  have h2 := h.prod (j := a) (by omega)
  have h3 := prodSeg_pos h hc
  rw [← prodTo_seg] at h1
  have := Int.mul_le_mul h2.1 (Int.le_refl (prodSeg l a c)) (by omega) (by omega)
  omega
set_option maxRecDepth 20000 in
theorem segP_bounds {l : List Vr} (h : VarsOk l) {i : Nat} (hi : i ≤ l.length) : 1 ≤ segP l i ∧ segP l i ≤ 4096 := ⟨prodSeg_pos h (by omega), prodSeg_le h (by omega)⟩

/-! ### codes of values -/

def dig (l : List Vr) (vals : List Int) (i : Nat) : Int := vals.getD i 0 - (l.getD i vr0).lo
def inB (l : List Vr) (vals : List Int) (i : Nat) : Prop := (l.getD i vr0).lo ≤ vals.getD i 0 ∧ vals.getD i 0 ≤ (l.getD i vr0).hi
def codeTo (l : List Vr) (vals : List Int) : Nat → Int
  | 0 => 0
  | k + 1 => codeTo l vals k * vspan (l.getD k vr0) + dig l vals k
def sumTo (l : List Vr) (vals : List Int) : Nat → Int
  | 0 => 0
  | k + 1 => sumTo l vals k + dig l vals k * segP l (k + 1)
set_option maxRecDepth 20000 in
theorem dig_bounds {l : List Vr} {vals : List Int} (h : VarsOk l) {i : Nat} (hi : i < l.length) (hb : inB l vals i) : 0 ≤ dig l vals i ∧ dig l vals i < vspan (l.getD i vr0) ∧ dig l vals i ≤ 63 := by
  have := h.at hi
  unfold inB at hb
  unfold dig
  unfold vspan at *
  omega
set_option maxRecDepth 20000 in
theorem code_bounds {l : List Vr} {vals : List Int} (h : VarsOk l) {k : Nat} (hk : k ≤ l.length) (hb : ∀ i, i < k → inB l vals i) : 0 ≤ codeTo l vals k ∧ codeTo l vals k < prodTo l k := by
  induction k with
  | zero => simp [codeTo, prodTo]
  | succ k ih =>
    obtain ⟨h1, h2⟩ := ih (by omega) (fun i hi => hb i (by omega))
    obtain ⟨h3, h4, _⟩ := dig_bounds h (by omega) (hb k (by omega))
    have h5 := (h.at (j := k) (by omega)).1
    simp only [codeTo, prodTo]
    have h6 : 0 ≤ codeTo l vals k * vspan (l.getD k vr0) := Int.mul_nonneg h1 (by omega)
    have h7 : (codeTo l vals k + 1) * vspan (l.getD k vr0) ≤ prodTo l k * vspan (l.getD k vr0) := Int.mul_le_mul_of_nonneg_right (by omega) (by omega)
    rw [Int.add_mul, Int.one_mul] at h7
    omega
set_option maxRecDepth 20000 in
theorem sum_code {l : List Vr} {vals : List Int} {k : Nat} (hk : k ≤ l.length) : sumTo l vals k = codeTo l vals k * segP l k := by
  induction k with
  | zero => simp [sumTo, codeTo]
  | succ k ih =>
    simp only [sumTo, codeTo]
    rw [ih (by omega), segP_step (by omega), Int.add_mul, Int.mul_assoc]
set_option maxRecDepth 20000 in
theorem sum_all (l : List Vr) (vals : List Int) : sumTo l vals l.length = codeTo l vals l.length := by
  rw [sum_code (Nat.le_refl _), segP_end, Int.mul_one]
set_option maxRecDepth 20000 in
theorem sum_bounds {l : List Vr} {vals : List Int} (h : VarsOk l) {k : Nat} (hk : k ≤ l.length) (hb : ∀ i, i < k → inB l vals i) : 0 ≤ sumTo l vals k ∧ sumTo l vals k ≤ 4096 := by
  obtain ⟨h1, h2⟩ := code_bounds h hk hb
  obtain ⟨h3, h4⟩ := segP_bounds h hk
  have h5 := h.prod (j := l.length) (Nat.le_refl _)
  have h6 : prodTo l k * segP l k = prodTo l l.length := by unfold segP; rw [prodTo_seg, show k + (l.length - k) = l.length by omega]
  rw [sum_code hk]
  refine ⟨Int.mul_nonneg h1 (by omega), ?_⟩
  have h7 : codeTo l vals k * segP l k ≤ prodTo l k * segP l k := Int.mul_le_mul_of_nonneg_right (by omega) (by omega)
  omega

/-! ### values of codes -/

def valAt (l : List Vr) (code : Int) (i : Nat) : Int := (l.getD i vr0).lo + (code / segP l (i + 1)) % vspan (l.getD i vr0)
set_option maxRecDepth 20000 in
theorem quo_step {l : List Vr} (h : VarsOk l) (code : Int) {i : Nat} (hi : i < l.length) : code / segP l (i + 1) / vspan (l.getD i vr0) = code / segP l i := by
  have h1 := (segP_bounds h (i := i + 1) (by omega)).1
  rw [segP_step hi, Int.ediv_ediv_of_nonneg (by omega), Int.mul_comm]
set_option maxRecDepth 20000 in
theorem mod_div (x s p : Int) (hp : 0 < p) : (x % (s * p)) / p = (x / p) % s := by
  rw [Int.emod_def x (s * p), Int.emod_def (x / p) s, Int.ediv_ediv_of_nonneg (by omega), Int.mul_comm s p, Int.mul_assoc]
  rw [Int.sub_mul_ediv_left _ _ (by omega)]
set_option maxRecDepth 20000 in
theorem valAt_ref {l : List Vr} (h : VarsOk l) (code : Int) {i : Nat} (hi : i < l.length) : (l.getD i vr0).lo + (code % segP l i) / segP l (i + 1) = valAt l code i := by
  have h1 := (segP_bounds h (i := i + 1) (by omega)).1
  rw [segP_step hi, mod_div _ _ _ (by omega)]
  rfl
set_option maxRecDepth 20000 in
theorem mod_step {l : List Vr} (code : Int) {i : Nat} (hi : i < l.length) : (code % segP l i) % segP l (i + 1) = code % segP l (i + 1) := by
  rw [segP_step hi, Int.mul_comm, Int.emod_emod_of_dvd]
  exact ⟨_, rfl⟩
set_option maxRecDepth 20000 in
theorem valAt_in {l : List Vr} (h : VarsOk l) (code : Int) {i : Nat} (hi : i < l.length) : (l.getD i vr0).lo ≤ valAt l code i ∧ valAt l code i ≤ (l.getD i vr0).hi := by
  have h1 := (h.at hi).1
  have h2 := Int.emod_nonneg (code / segP l (i + 1)) (show vspan (l.getD i vr0) ≠ 0 by omega)
  have h3 := Int.emod_lt_of_pos (code / segP l (i + 1)) (show 0 < vspan (l.getD i vr0) by omega)
  unfold valAt
  unfold vspan at *
  omega
def valsL (l : List Vr) (code : Int) : List Int := (List.range l.length).map (valAt l code)
def initsL (l : List Vr) : List Int := l.map Vr.ini
set_option maxRecDepth 20000 in
theorem inits_in {l : List Vr} (h : VarsOk l) : ∀ i, i < l.length → inB l (initsL l) i := by
  intro i hi
  have := h.at hi
  unfold inB initsL
  rw [show (l.map Vr.ini).getD i 0 = (l.getD i vr0).ini by simp [List.getD_eq_getElem?_getD, hi]]
  omega
end Go.Proofs.YtnicbkkkecfdpaaGreatDoor

/-
  What Code answers; slices of numbers at a place.
-/
namespace Go.Proofs.YtnicbkkkecfdpaaGreatDoor
open Go.ChangeShapes Go.WideShapes Go.ChangeAt Go.RowKit Go.Deep
open Terms Tm

set_option maxRecDepth 20000 in
theorem IntsV.shape {w : World} {v : Value} {l : List Int} (h : IntsV w v l) : ∃ ao cap, v = .slice ao l.length cap := by
  obtain ⟨ao, cap, h1, _⟩ := h
  exact ⟨ao, cap, h1⟩
set_option maxRecDepth 20000 in
theorem IntsV.at {w : World} {ao : Option Addr} {cap n : Nat} {l : List Int} (h : IntsV w (.slice ao n cap) l) {i : Nat} (hi : i < l.length) : ∃ b off, ao = some ⟨b, off, none⟩ ∧ b < w.heap.size ∧ w.cell? ⟨b, off + i, none⟩ = some (.int .i64 (l.getD i 0)) := by
  obtain ⟨ao', cap', h1, h3⟩ := h
  injection h1 with e1 e2 e3
  subst e1
  obtain ⟨b, off, e, hb, hh⟩ := h3 (by intro h; subst h; simp at hi)
  exact ⟨b, off, e, hb, hh i hi⟩

open Classical in
/-- with what Code refuses. -/
noncomputable def ccode (m : Mo) (vals : List Int) : Int := if mcode m = 0 then (if vals.length = m.vars.length ∧ ∀ i, i < m.vars.length → inB m.vars vals i then 0 else 9) else mcode m
noncomputable def cval (m : Mo) (vals : List Int) : Int := if ccode m vals = 0 then codeTo m.vars vals m.vars.length else 0
set_option maxRecDepth 20000 in
theorem ccode_bad {m : Mo} {vals : List Int} (h : mcode m ≠ 0) : ccode m vals = mcode m := by unfold ccode; rw [if_neg h]
set_option maxRecDepth 20000 in
theorem ccode_no {m : Mo} {vals : List Int} (h : mcode m = 0) (h2 : ¬ (vals.length = m.vars.length ∧ ∀ i, i < m.vars.length → inB m.vars vals i)) : ccode m vals = 9 := by unfold ccode; rw [if_pos h, if_neg h2]
set_option maxRecDepth 20000 in
theorem ccode_yes {m : Mo} {vals : List Int} (h : mcode m = 0) (h2 : vals.length = m.vars.length ∧ ∀ i, i < m.vars.length → inB m.vars vals i) : ccode m vals = 0 := by unfold ccode; rw [if_pos h, if_pos h2]

end Go.Proofs.YtnicbkkkecfdpaaGreatDoor

/-
  What Values answers.
-/
namespace Go.Proofs.YtnicbkkkecfdpaaGreatDoor
open Go.ChangeShapes Go.WideShapes Go.ChangeAt Go.RowKit Go.Deep
open Terms Tm

/-- with what Values refuses. -/
noncomputable def wcode (m : Mo) (code : Int) : Int := if mcode m = 0 then (if 0 ≤ code ∧ code < prodTo m.vars m.vars.length then 0 else 9) else mcode m
set_option maxRecDepth 20000 in
theorem wcode_bad {m : Mo} {code : Int} (h : mcode m ≠ 0) : wcode m code = mcode m := by unfold wcode; rw [if_neg h]
set_option maxRecDepth 20000 in
theorem wcode_no {m : Mo} {code : Int} (h : mcode m = 0) (h2 : ¬ (0 ≤ code ∧ code < prodTo m.vars m.vars.length)) : wcode m code = 9 := by unfold wcode; rw [if_pos h, if_neg h2]
set_option maxRecDepth 20000 in
theorem wcode_yes {m : Mo} {code : Int} (h : mcode m = 0) (h2 : 0 ≤ code ∧ code < prodTo m.vars m.vars.length) : wcode m code = 0 := by unfold wcode; rw [if_pos h, if_pos h2]


set_option maxRecDepth 20000 in
theorem intsV_of_row {w : World} {B n : Nat} {f : Nat → Int} (h : w.rowIs B 3 n (fun j => .int .i64 (f j))) : IntsV w (.slice (some ⟨B, 0, none⟩) n n) ((List.range n).map f) := by
  refine ⟨some ⟨B, 0, none⟩, n, by simp, fun _ => ⟨B, 0, rfl, h.lt, fun i hi => ?_⟩⟩
  simp only [List.length_map, List.length_range] at hi
  rw [Nat.zero_add, h.cell hi]
  simp [List.getD_eq_getElem?_getD, hi]
/-- what Values answers. -/
noncomputable def wvals (m : Mo) (code : Int) : List Int := if wcode m code = 0 then valsL m.vars code else []
end Go.Proofs.YtnicbkkkecfdpaaGreatDoor

/-
  The contracts of package expr's pairMakers, of the functions that it hands out, and of tooGreat and truth.
-/
namespace Go.Proofs.YtnicbkkkecfdpaaGreatDoor
open Go.ChangeShapes Go.WideShapes Go.ChangeAt Go.RowKit Go.Deep Go.Maps
open Terms Tm

set_option maxRecDepth 20000 in
theorem tooGreat_any (x : Int) (w : World) :
    Calls Tryz.prog 92 #[.int .i64 x] w fun e w' => e = .returned (.bool (decide (¬ (-1000000 ≤ x ∧ x ≤ 1000000)))) ∧ w' = w := by
  by_cases h1 : x < -1000000
  · rw [show decide (¬ (-1000000 ≤ x ∧ x ≤ 1000000)) = true by simp; omega]
    go_enter Tryz.func92, Tryz.ntmps92
    go_wp2
    all_goals go_ret
    all_goals exact ⟨rfl, rfl⟩
  · by_cases h2 : 1000000 < x
    · rw [show decide (¬ (-1000000 ≤ x ∧ x ≤ 1000000)) = true by simp; omega]
      go_enter Tryz.func92, Tryz.ntmps92
      go_wp2
      all_goals go_ret
      all_goals exact ⟨rfl, rfl⟩
    · rw [show decide (¬ (-1000000 ≤ x ∧ x ≤ 1000000)) = false by simp; omega]
      go_enter Tryz.func92, Tryz.ntmps92
      go_wp2
      all_goals go_ret
      all_goals exact ⟨rfl, rfl⟩

set_option maxRecDepth 20000 in
theorem truth_fn (c : Bool) (w : World) :
    Calls Tryz.prog 130 #[.bool c] w fun e w' => e = .returned (.int .i64 (if c = true then 1 else 0)) ∧ w' = w := by
  cases c
  all_goals
    go_enter Tryz.func130, Tryz.ntmps130
    go_wp2
    all_goals go_ret
    all_goals exact ⟨rfl, rfl⟩

/-- which function stands at a kind. -/
def pairFn (k : Int) : Nat := if k = 3 then 126 else if k = 4 then 127 else if k = 5 then 128 else if k = 6 then 129 else if k = 7 then 131 else if k = 8 then 132 else 133

set_option maxRecDepth 20000 in
theorem abs_le {x : Int} (h : -1000000 ≤ x ∧ x ≤ 1000000) : x.natAbs ≤ 1000000 := by omega
set_option maxRecDepth 20000 in
theorem mul_le {x y : Int} (hx : -1000000 ≤ x ∧ x ≤ 1000000) (hy : -1000000 ≤ y ∧ y ≤ 1000000) : -1000000000000 ≤ x * y ∧ x * y ≤ 1000000000000 := by
  have h := Nat.mul_le_mul (abs_le hx) (abs_le hy)
  rw [← Int.natAbs_mul] at h
  omega
set_option maxHeartbeats 800000 in
set_option maxRecDepth 20000 in
theorem pair_any (k x y : Int) (w : World) (h3 : 3 ≤ k) (h9 : k ≤ 9) (hx : -1000000 ≤ x ∧ x ≤ 1000000) (hy : -1000000 ≤ y ∧ y ≤ 1000000) (ht : 8 ≤ k → (x = 0 ∨ x = 1) ∧ (y = 0 ∨ y = 1)) :
    Calls Tryz.prog (pairFn k) #[.int .i64 x, .int .i64 y] w fun e w' => e = .returned (.int .i64 (bin k x y)) ∧ w' = w := by
  have hk : k = 3 ∨ k = 4 ∨ k = 5 ∨ k = 6 ∨ k = 7 ∨ k = 8 ∨ k = 9 := by omega
  have hm := mul_le hx hy
  obtain ⟨hm1, hm2⟩ := hm
  obtain ⟨hx1, hx2⟩ := hx
  obtain ⟨hy1, hy2⟩ := hy
  clear h3 h9
  rcases hk with rfl | rfl | rfl | rfl | rfl | rfl | rfl
  · show Calls Tryz.prog 126 _ _ _
    clear ht
    go_enter Tryz.func126, Tryz.ntmps126
    go_wp2
    go_ret
    exact ⟨rfl, rfl⟩
  · show Calls Tryz.prog 127 _ _ _
    clear ht
    go_enter Tryz.func127, Tryz.ntmps127
    go_wp2
    go_ret
    exact ⟨rfl, rfl⟩
  · show Calls Tryz.prog 128 _ _ _
    clear ht
    go_enter Tryz.func128, Tryz.ntmps128
    go_wp2
    go_ret
    exact ⟨rfl, rfl⟩
  · show Calls Tryz.prog 129 _ _ _
    clear ht
    have htr := fun w => truth_fn (x == y) w
    have hb : bin 6 x y = if (x == y) = true then 1 else 0 := by simp [bin]
    rw [← hb] at htr
    generalize bin 6 x y = z at htr ⊢
    clear hb
    go_enter Tryz.func129, Tryz.ntmps129
    go_wp2_with (go_at_call 130; refine (htr _).mono ?_; rintro e w1 ⟨rfl, rfl⟩)
    go_ret
    exact ⟨rfl, rfl⟩
  · show Calls Tryz.prog 131 _ _ _
    clear ht
    by_cases hc : x < y
    · have htr := fun w => truth_fn true w
      have hb : bin 7 x y = 1 := by simp [bin, hc]
      rw [hb]
      clear hb
      go_enter Tryz.func131, Tryz.ntmps131
      go_wp2_with (go_at_call 130; refine (htr _).mono ?_; rintro e w1 ⟨rfl, rfl⟩)
      go_ret
      exact ⟨rfl, rfl⟩
    · have htr := fun w => truth_fn false w
      have hb : bin 7 x y = 0 := by simp [bin, hc]
      rw [hb]
      clear hb
      go_enter Tryz.func131, Tryz.ntmps131
      go_wp2_with (go_at_call 130; refine (htr _).mono ?_; rintro e w1 ⟨rfl, rfl⟩)
      go_ret
      exact ⟨rfl, rfl⟩
  · show Calls Tryz.prog 132 _ _ _
    obtain ⟨ha, hb⟩ := ht (by decide)
    clear ht hm1 hm2 hx1 hx2 hy1 hy2
    rcases ha with rfl | rfl <;> rcases hb with rfl | rfl
    all_goals
      go_enter Tryz.func132, Tryz.ntmps132
      go_wp2
      go_ret
      exact ⟨rfl, rfl⟩
  · show Calls Tryz.prog 133 _ _ _
    obtain ⟨ha, hb⟩ := ht (by decide)
    clear ht hm1 hm2 hx1 hx2 hy1 hy2
    rcases ha with rfl | rfl <;> rcases hb with rfl | rfl
    all_goals
      go_enter Tryz.func133, Tryz.ntmps133
      go_wp2
      go_ret
      exact ⟨rfl, rfl⟩

/-! ### the map of functions -/

/-- how a function without what it captured reads: by its number. -/
def fnElem : Value → Option (DataW Unit × List MemPlace)
  | .func (.func f) first cap => if first = #[] ∧ cap = #[] then some (.lit (.int .i64 f), []) else none
  | .nilFunc => some (.nil, [])
  | _ => none
set_option maxRecDepth 20000 in
theorem fnElem_inv {v : Value} {f : Nat} {ps : List MemPlace} (h : fnElem v = some (.lit (.int .i64 f), ps)) : v = .func (.func f) #[] #[] := by
  unfold fnElem at h
  split at h
  · split at h
    · rename_i hc
      obtain ⟨rfl, rfl⟩ := hc
      simp at h
      rw [Int.ofNat.inj h.1]
    · simp at h
  · simp at h
  · simp at h
set_option maxRecDepth 20000 in
/-- a function of the program is put into a map of the call's own. -/
theorem wpList_insert_own {H : Type} {P : Program} (w : World) {ops : Array Oper} {rest : List Oper} {o : Oper} {a : Act} {Q : Exit → Act → World → Prop}
    (hg : o.guard = none) (m x v : Operand) (t : TypeId) (hop : o.op = Op.insert t m x v)
    (k e : TypeId) (K : Keyed P k) (ht : P.underlying t = some (.map k e)) (R : Value → Option (DataW H × List MemPlace)) (b n : Nat) (D : DataW H)
    (hm : a.eval m = .map (some b)) (hown : w.ownsMap P k R b n D) (hn : n < maxLen) (key val : Value) (kl : Lit) (hx : a.eval x = key) (hv : a.eval v = val) (hkey : keyOf P k key = some kl)
    (d : DataW H) (ps : List MemPlace) (hval : R val = some (d, ps))
    (hK : ∀ w', w'.ownsMap P k R b (n + 1) (D.put kl d) → w.grownBy w' (some b) → wpList P ops Q rest (a.put o.dst undef) w') :
    wpList P ops Q (o :: rest) a w := by
  refine wpList_plain hg fun K' hK' => ?_
  obtain ⟨w', hrun, r1, r2⟩ := hown.update K ht hn hkey hval
  unfold Oper.wp
  simp [execOp, hop, hm, hx, hv, hrun, Result.andThen]
  exact hK' _ _ (hK w' r1 r2)

def pairD : Nat → DataW Unit
  | 0 => .map []
  | n + 1 => (pairD n).put (.int .i64 ((n : Int) + 3)) (.lit (.int .i64 (pairFn ((n : Int) + 3))))
def PairsAt (w : World) (M : Nat) : Prop := w.ownsMap Tryz.prog 3 fnElem M 7 (pairD 7)
set_option maxRecDepth 20000 in
theorem PairsAt.later {w w' : World} {M : Nat} (h : PairsAt w M) (hb : Below w.heap.size w w') : PairsAt w' M := by
  have hlt := World.ownsMap.lt h
  obtain ⟨es, clock, h1, h2⟩ := h
  exact ⟨es, clock, (hb.block M hlt).trans h1, h2⟩
set_option maxRecDepth 20000 in
theorem keyInt : Keyed Tryz.prog 3 := int_keyed Tryz.underlying3
set_option maxRecDepth 20000 in
theorem key3 (k : Int) (h : 3 ≤ k ∧ k ≤ 9) : keyOf Tryz.prog 3 (.int .i64 k) = some (.int .i64 k) := keyOf_int_mk Tryz.underlying3 (WalkArith.wf_i64 (by omega))
set_option maxRecDepth 20000 in
theorem PairsAt.look {w : World} {M : Nat} (h : PairsAt w M) {k : Int} (h3 : 3 ≤ k) (h9 : k ≤ 9) :
    (Instr.lookup 128 (.map (some M)) (.int .i64 k) false).run Tryz.prog w = .ok (.func (.func (pairFn k)) #[] #[]) w := by
  obtain ⟨v, ps, hrun, hv⟩ := World.ownsMap.lookup h keyInt Tryz.underlying128 (z := .nilFunc) (by kernel_rfl) (zd := .nil) (zp := []) rfl (key3 k ⟨h3, h9⟩)
  have hat : (pairD 7).atKey (.int .i64 k) .nil = .lit (.int .i64 (pairFn k)) := by
    have hk : k = 3 ∨ k = 4 ∨ k = 5 ∨ k = 6 ∨ k = 7 ∨ k = 8 ∨ k = 9 := by omega
    rcases hk with rfl | rfl | rfl | rfl | rfl | rfl | rfl <;> rfl
  rw [hat] at hv
  rw [hrun, fnElem_inv hv]

set_option maxHeartbeats 1600000 in
set_option maxRecDepth 20000 in
/-- THE CONTRACT OF pairMakers. -/
theorem pairMakers_any (w : World) :
    Calls Tryz.prog 93 #[] w fun e w' => ∃ M, w.heap.size ≤ M ∧ e = .returned (.map (some M)) ∧ PairsAt w' M ∧ Below w.heap.size w w' := by
  have hmm := @run_makeMap Tryz.prog
  have h0 := World.ownsMap_made w Tryz.prog 3 fnElem
  go_enter Tryz.func93, Tryz.ntmps93
  go_wp2_with (first
    | (refine wpList_insert_own _ rfl _ _ _ 128 rfl 3 146 keyInt Tryz.underlying128 fnElem w.heap.size 6 _ rfl h6 (by unfold maxLen; omega) _ _ _ rfl rfl (key3 9 (by omega)) _ [] rfl ?_; intro w7 h7 g7)
    | (refine wpList_insert_own _ rfl _ _ _ 128 rfl 3 146 keyInt Tryz.underlying128 fnElem w.heap.size 5 _ rfl h5 (by unfold maxLen; omega) _ _ _ rfl rfl (key3 8 (by omega)) _ [] rfl ?_; intro w6 h6 g6)
    | (refine wpList_insert_own _ rfl _ _ _ 128 rfl 3 146 keyInt Tryz.underlying128 fnElem w.heap.size 4 _ rfl h4 (by unfold maxLen; omega) _ _ _ rfl rfl (key3 7 (by omega)) _ [] rfl ?_; intro w5 h5 g5)
    | (refine wpList_insert_own _ rfl _ _ _ 128 rfl 3 146 keyInt Tryz.underlying128 fnElem w.heap.size 3 _ rfl h3 (by unfold maxLen; omega) _ _ _ rfl rfl (key3 6 (by omega)) _ [] rfl ?_; intro w4 h4 g4)
    | (refine wpList_insert_own _ rfl _ _ _ 128 rfl 3 146 keyInt Tryz.underlying128 fnElem w.heap.size 2 _ rfl h2 (by unfold maxLen; omega) _ _ _ rfl rfl (key3 5 (by omega)) _ [] rfl ?_; intro w3 h3 g3)
    | (refine wpList_insert_own _ rfl _ _ _ 128 rfl 3 146 keyInt Tryz.underlying128 fnElem w.heap.size 1 _ rfl h1 (by unfold maxLen; omega) _ _ _ rfl rfl (key3 4 (by omega)) _ [] rfl ?_; intro w2 h2 g2)
    | (refine wpList_insert_own _ rfl _ _ _ 128 rfl 3 146 keyInt Tryz.underlying128 fnElem w.heap.size 0 _ rfl h0 (by unfold maxLen; omega) _ _ _ rfl rfl (key3 3 (by omega)) _ [] rfl ?_; intro w1 h1 g1))
  go_ret
  have hb0 : Below w.heap.size w (w.alloc (.map #[] 0)) := (Below.refl _ _).alloc (Nat.le_refl _) _
  have hb : ∀ {x y : World}, Below w.heap.size w x → x.grownBy y (some w.heap.size) → Below w.heap.size w y := fun h g => h.grown g h.size (fun j hj => by cases hj; exact Nat.le_refl _)
  exact ⟨w.heap.size, Nat.le_refl _, rfl, h7, hb (hb (hb (hb (hb (hb (hb hb0 g1) g2) g3) g4) g5) g6) g7⟩
end Go.Proofs.YtnicbkkkecfdpaaGreatDoor

/-
  The contract of package expr's (work).at.
-/
namespace Go.Proofs.YtnicbkkkecfdpaaGreatDoor
open Go.ChangeShapes Go.WideShapes Go.ChangeAt Go.RowKit Go.Deep
open Terms Tm

/-- what the work leans on: ops, their ends, the values, the functions. -/
structure WorkAt (w : World) (b off B : Nat) (eao : Option Addr) (M : Nat) (t : Tm) (env : List Int) : Prop where
  ob : b < w.heap.size
  ops : OpsAt w b off t.ops
  ends : w.rowIs B 3 t.size (fun q => .int .i64 (endAt (t.ops.map Prod.fst) q))
  env : ∀ i, i < env.length → ∃ eb eoff, eao = some ⟨eb, eoff, none⟩ ∧ eb < w.heap.size ∧ w.cell? ⟨eb, eoff + i, none⟩ = some (.int .i64 (env.getD i 0))
  pairs : PairsAt w M
set_option maxRecDepth 20000 in
theorem WorkAt.later {w w' : World} {b off B : Nat} {eao : Option Addr} {M : Nat} {t : Tm} {env : List Int} (h : WorkAt w b off B eao M t env) (hb : Below w.heap.size w w') : WorkAt w' b off B eao M t env := by
  obtain ⟨h1, h2, h3, h4, h5⟩ := h
  refine ⟨Nat.lt_of_lt_of_le h1 hb.size, h2.below hb h1, h3.of_block (hb.block B h3.lt), fun i hi => ?_, h5.later hb⟩
  obtain ⟨eb, eoff, e1, e2, e3⟩ := h4 i hi
  exact ⟨eb, eoff, e1, Nat.lt_of_lt_of_le e2 hb.size, (hb.cell (p := ⟨eb, eoff + i, none⟩) e2).trans e3⟩

/-- what the work on a tree leaves: a number, or it has given up. -/
def AtPost (r : Option Int) (w : World) (e : Ending) (w' : World) : Prop :=
  Below w.heap.size w w' ∧ match r with
    | some x => e = .returned (.int .i64 x)
    | none => e = .panicked [{ v := .iface 33 (.int .i64 8), recovered := false }]


abbrev workV (b off n cap B : Nat) (eao : Option Addr) (en ecap M : Nat) : Value := .agg #[.slice (some ⟨b, off, none⟩) n cap, .slice (some ⟨B, 0, none⟩) n n, .slice eao en ecap, .map (some M)]

set_option maxRecDepth 20000 in
set_option maxHeartbeats 400000 in
theorem at_num (b off n cap B : Nat) (eao : Option Addr) (en ecap M place : Nat) (x : Int) (w : World) (hob : b < w.heap.size) (hp : place < n) (c0 : w.cell? ⟨b, off + place * 2, none⟩ = some (.int .i64 1)) (c1 : w.cell? ⟨b, off + place * 2 + 1, none⟩ = some (.int .i64 x)) :
    Calls Tryz.prog 94 #[workV b off n cap B eao en ecap M, .int .i64 place] w (AtPost (some x) w) := by
  have hne : ¬ b = w.heap.size := by omega
  go_enter Tryz.func94, Tryz.ntmps94
  go_wp2_with fail
  go_ret
  exact ⟨((Below.refl _ _).alloc (Nat.le_refl _) _).alloc (by simp) _, rfl⟩
set_option maxRecDepth 20000 in
set_option maxHeartbeats 400000 in
theorem at_var (b off n cap B eb eoff en ecap M place j : Nat) (x : Int) (w : World) (hob : b < w.heap.size) (hp : place < n) (hj : j < en) (c0 : w.cell? ⟨b, off + place * 2, none⟩ = some (.int .i64 2)) (c1 : w.cell? ⟨b, off + place * 2 + 1, none⟩ = some (.int .i64 j)) (hbl : eb < w.heap.size) (c2 : w.cell? ⟨eb, eoff + j, none⟩ = some (.int .i64 x)) :
    Calls Tryz.prog 94 #[workV b off n cap B (some ⟨eb, eoff, none⟩) en ecap M, .int .i64 place] w (AtPost (some x) w) := by
  have hne : ¬ b = w.heap.size := by omega
  go_enter Tryz.func94, Tryz.ntmps94
  go_wp2_with fail
  go_ret
  exact ⟨((Below.refl _ _).alloc (Nat.le_refl _) _).alloc (by simp) _, rfl⟩
set_option maxRecDepth 20000 in
set_option maxHeartbeats 400000 in
theorem at_lit (b off n cap B : Nat) (eao : Option Addr) (en ecap M place : Nat) (k : Int) (hk : k = 11 ∨ k = 12) (w : World) (hob : b < w.heap.size) (hp : place < n) (c0 : w.cell? ⟨b, off + place * 2, none⟩ = some (.int .i64 k)) (c1 : w.cell? ⟨b, off + place * 2 + 1, none⟩ = some (.int .i64 0)) :
    Calls Tryz.prog 94 #[workV b off n cap B eao en ecap M, .int .i64 place] w (AtPost (some (if k = 11 then 1 else 0)) w) := by
  rcases hk with rfl | rfl
  · rw [if_pos rfl]
    have hne : ¬ b = w.heap.size := by omega
    go_enter Tryz.func94, Tryz.ntmps94
    go_wp2_with fail
    go_ret
    exact ⟨((Below.refl _ _).alloc (Nat.le_refl _) _).alloc (by simp) _, rfl⟩
  · rw [if_neg (by decide)]
    have hne : ¬ b = w.heap.size := by omega
    go_enter Tryz.func94, Tryz.ntmps94
    go_wp2_with fail
    go_ret
    exact ⟨((Below.refl _ _).alloc (Nat.le_refl _) _).alloc (by simp) _, rfl⟩
set_option maxRecDepth 20000 in
set_option maxHeartbeats 400000 in
theorem at_not (b off n cap B : Nat) (eao : Option Addr) (en ecap M place : Nat) (r : Option Int) (w : World) (hob : b < w.heap.size) (hp : place < n) (h60 : n ≤ 60) (c0 : w.cell? ⟨b, off + place * 2, none⟩ = some (.int .i64 10)) (c1 : w.cell? ⟨b, off + place * 2 + 1, none⟩ = some (.int .i64 0))
    (hr : ∀ x, r = some x → -1000000 ≤ x ∧ x ≤ 1000000)
    (hrec : ∀ w', Below w.heap.size w w' → Calls Tryz.prog 94 #[workV b off n cap B eao en ecap M, .int .i64 ((place : Int) + 1)] w' (AtPost r w')) :
    Calls Tryz.prog 94 #[workV b off n cap B eao en ecap M, .int .i64 place] w (AtPost (r.map (1 - ·)) w) := by
  have hne : ¬ b = w.heap.size := by omega
  have hb2 : Below w.heap.size w ((w.alloc (.cells #[.slice (some ⟨b, off, none⟩) n cap, .slice (some ⟨B, 0, none⟩) n n, .slice eao en ecap, .map (some M)] 131)).alloc (.cells #[.int .i64 10, .int .i64 0] 92)) := ((Below.refl _ _).alloc (Nat.le_refl _) _).alloc (by simp) _
  have hrec' := hrec _ hb2
  have HB2 := (show Hid _ from hb2)
  clear hrec hb2
  cases r with
  | none =>
    go_enter Tryz.func94, Tryz.ntmps94
    go_wp2_with (go_at_call 94; refine hrec'.mono ?_; rintro e w1 ⟨hb1, rfl⟩)
    exact ⟨rfl, HB2.out.trans (hb1.mono HB2.out.size), rfl⟩
  | some x =>
    obtain ⟨hx1, hx2⟩ := hr x rfl
    clear hr
    go_enter Tryz.func94, Tryz.ntmps94
    go_wp2_with (go_at_call 94; refine hrec'.mono ?_; rintro e w1 ⟨hb1, rfl⟩)
    go_ret
    exact ⟨HB2.out.trans (hb1.mono HB2.out.size), rfl⟩

end Go.Proofs.YtnicbkkkecfdpaaGreatDoor

/-
  The contract of package expr's (work).at: an op of two parts.
-/
namespace Go.Proofs.YtnicbkkkecfdpaaGreatDoor
open Go.ChangeShapes Go.WideShapes Go.ChangeAt Go.RowKit Go.Deep
open Terms Tm
attribute [local go_sem ↓] Go.wp_at_zero Go.wp_at_succ

set_option maxRecDepth 20000 in
theorem pair_enters (k : Int) (h3 : 3 ≤ k) (h9 : k ≤ 9) (args : Array Value) (w : World) : (callFunc (pairFn k) args).run Tryz.prog w = .ok (.enter (pairFn k) args) w := by
  have hk : k = 3 ∨ k = 4 ∨ k = 5 ∨ k = 6 ∨ k = 7 ∨ k = 8 ∨ k = 9 := by omega
  rcases hk with rfl | rfl | rfl | rfl | rfl | rfl | rfl
  · show (callFunc 126 args).run Tryz.prog w = .ok (.enter 126 args) w; simp [go_sem]
  · show (callFunc 127 args).run Tryz.prog w = .ok (.enter 127 args) w; simp [go_sem]
  · show (callFunc 128 args).run Tryz.prog w = .ok (.enter 128 args) w; simp [go_sem]
  · show (callFunc 129 args).run Tryz.prog w = .ok (.enter 129 args) w; simp [go_sem]
  · show (callFunc 131 args).run Tryz.prog w = .ok (.enter 131 args) w; simp [go_sem]
  · show (callFunc 132 args).run Tryz.prog w = .ok (.enter 132 args) w; simp [go_sem]
  · show (callFunc 133 args).run Tryz.prog w = .ok (.enter 133 args) w; simp [go_sem]
set_option maxRecDepth 20000 in
theorem wrap_small {x : Int} (h1 : 0 ≤ x) (h2 : x ≤ 1000) : IntKind.i64.wrap x = x := by
  simp [IntKind.wrap, IntKind.bits, IntKind.signed]; omega

set_option maxHeartbeats 800000 in
set_option maxRecDepth 20000 in
theorem at_bi (b off n cap B : Nat) (eao : Option Addr) (en ecap M place E1 F : Nat) (k x y z : Int) (w : World) (hob : b < w.heap.size) (hBB : B < w.heap.size) (hp : place + 1 < n) (P1 : Nat) (hP1 : P1 = place + 1) (h60 : n ≤ 60) (hk3 : 3 ≤ k) (hk9 : k ≤ 9) (c0 : w.cell? ⟨b, off + place * 2, none⟩ = some (.int .i64 k)) (c1 : w.cell? ⟨b, off + place * 2 + 1, none⟩ = some (.int .i64 0)) (cE : w.cell? ⟨B, P1, none⟩ = some (.int .i64 E1))
    (hlook : ∀ w', Below w.heap.size w w' → (Instr.lookup 128 (.map (some M)) (.int .i64 k) false).run Tryz.prog w' = .ok (.func (.func F) #[] #[]) w')
    (hent : ∀ args w, (callFunc F args).run Tryz.prog w = .ok (.enter F args) w)
    (hpair : ∀ w', Calls Tryz.prog F #[.int .i64 x, .int .i64 y] w' fun e w'' => e = .returned (.int .i64 z) ∧ w'' = w')
    (hra : ∀ w', Below w.heap.size w w' → Calls Tryz.prog 94 #[workV b off n cap B eao en ecap M, .int .i64 P1] w' (AtPost (some x) w'))
    (hrb : ∀ w', Below w.heap.size w w' → Calls Tryz.prog 94 #[workV b off n cap B eao en ecap M, .int .i64 E1] w' (AtPost (some y) w')) :
    Calls Tryz.prog 94 #[workV b off n cap B eao en ecap M, .int .i64 place] w (AtPost (lid z) w) := by
  have hne : ¬ b = w.heap.size := by omega
  have hneB : ¬ B = w.heap.size := by omega
  have e1 : ¬ k = 1 := by omega
  have e2 : ¬ k = 2 := by omega
  have e3 : ¬ k = 10 := by omega
  have e4 : ¬ k = 11 := by omega
  have e5 : ¬ k = 12 := by omega
  obtain ⟨W2, hW2⟩ : ∃ W2, W2 = ((w.alloc (.cells #[.slice (some ⟨b, off, none⟩) n cap, .slice (some ⟨B, 0, none⟩) n n, .slice eao en ecap, .map (some M)] 131)).alloc (.cells #[.int .i64 k, .int .i64 0] 92)) := ⟨_, rfl⟩
  have hb2 : Below w.heap.size w W2 := by rw [hW2]; exact ((Below.refl _ _).alloc (Nat.le_refl _) _).alloc (by simp) _
  have hsz : W2.heap.size = w.heap.size + 1 + 1 := by rw [hW2]; simp
  have d0 : W2.cell? ⟨w.heap.size, 0, none⟩ = some (.slice (some ⟨b, off, none⟩) n cap) := by rw [hW2]; simp [go_sem]
  have d1 : W2.cell? ⟨w.heap.size, 1, none⟩ = some (.slice (some ⟨B, 0, none⟩) n n) := by rw [hW2]; simp [go_sem]
  have d2 : W2.cell? ⟨w.heap.size, 2, none⟩ = some (.slice eao en ecap) := by rw [hW2]; simp [go_sem]
  have d3 : W2.cell? ⟨w.heap.size, 3, none⟩ = some (.map (some M)) := by rw [hW2]; simp [go_sem]
  have d4 : W2.cell? ⟨w.heap.size + 1, 0, none⟩ = some (.int .i64 k) := by rw [hW2]; simp [go_sem]
  have d5 : W2.cell? ⟨B, P1, none⟩ = some (.int .i64 E1) := (hb2.cell (p := ⟨B, P1, none⟩) hBB).trans cE
  have HW2 := (show Hid _ from hW2)
  have hS : ∀ w', Below W2.heap.size W2 w' → w'.cell? ⟨w.heap.size, 0, none⟩ = some (.slice (some ⟨b, off, none⟩) n cap) ∧ w'.cell? ⟨w.heap.size, 1, none⟩ = some (.slice (some ⟨B, 0, none⟩) n n) ∧ w'.cell? ⟨w.heap.size, 2, none⟩ = some (.slice eao en ecap) ∧ w'.cell? ⟨w.heap.size, 3, none⟩ = some (.map (some M)) ∧ w'.cell? ⟨w.heap.size + 1, 0, none⟩ = some (.int .i64 k) ∧ w'.cell? ⟨B, P1, none⟩ = some (.int .i64 E1) ∧ (Instr.lookup 128 (.map (some M)) (.int .i64 k) false).run Tryz.prog w' = .ok (.func (.func F) #[] #[]) w' := fun w' hw' =>
    ⟨(hw'.cell (p := ⟨w.heap.size, 0, none⟩) (by simp only; omega)).trans d0, (hw'.cell (p := ⟨w.heap.size, 1, none⟩) (by simp only; omega)).trans d1, (hw'.cell (p := ⟨w.heap.size, 2, none⟩) (by simp only; omega)).trans d2, (hw'.cell (p := ⟨w.heap.size, 3, none⟩) (by simp only; omega)).trans d3, (hw'.cell (p := ⟨w.heap.size + 1, 0, none⟩) (by simp only; omega)).trans d4, (hw'.cell (p := ⟨B, P1, none⟩) (by simp only; omega)).trans d5, hlook w' (hb2.trans (hw'.mono hb2.size))⟩
  have hra' : ∀ w', Below W2.heap.size W2 w' → Calls Tryz.prog 94 #[workV b off n cap B eao en ecap M, .int .i64 P1] w' (AtPost (some x) w') := fun w' hw' => hra w' (hb2.trans (hw'.mono hb2.size))
  have hrb' : ∀ w', Below W2.heap.size W2 w' → Calls Tryz.prog 94 #[workV b off n cap B eao en ecap M, .int .i64 E1] w' (AtPost (some y) w') := fun w' hw' => hrb w' (hb2.trans (hw'.mono hb2.size))
  have hB0 : Below W2.heap.size W2 W2 := Below.refl _ _
  have HB2 : Hid (Below w.heap.size w W2) := hb2
  have hp0 : place < n := by omega
  have hi0 : (0 : Int) ≤ (P1 : Int) := by omega
  have hi1 : (P1 : Int) < (n : Int) := by omega
  have hpp : (place : Int) + 1 = (P1 : Int) := by omega
  have hwr : IntKind.i64.wrap (P1 : Int) = (P1 : Int) := wrap_small (by omega) (by omega)
  have hwr2 : IntKind.i64.wrap ((place : Int) + 1) = (P1 : Int) := by rw [hpp]; exact hwr
  have htg := fun w => tooGreat_any z w
  clear hW2 hb2 hra hrb hlook hP1 hp hsz d0 d1 d2 d3 d4 d5
  by_cases hz : -1000000 ≤ z ∧ z ≤ 1000000
  · rw [show decide (¬ (-1000000 ≤ z ∧ z ≤ 1000000)) = false by simpa using hz] at htg
    rw [show lid z = some z by unfold lid; rw [if_pos hz]]
    clear hz
    go_enter Tryz.func94, Tryz.ntmps94
    go_wp2_with fail
    rw [← HW2.out]
    clear c0 c1 cE
    go_region_held3 (fun w' => w'.cell? ⟨w.heap.size, 0, none⟩ = some (.slice (some ⟨b, off, none⟩) n cap) ∧ w'.cell? ⟨w.heap.size, 1, none⟩ = some (.slice (some ⟨B, 0, none⟩) n n) ∧ w'.cell? ⟨w.heap.size, 2, none⟩ = some (.slice eao en ecap) ∧ w'.cell? ⟨w.heap.size, 3, none⟩ = some (.map (some M)) ∧ w'.cell? ⟨w.heap.size + 1, 0, none⟩ = some (.int .i64 k) ∧ w'.cell? ⟨B, P1, none⟩ = some (.int .i64 E1) ∧ (Instr.lookup 128 (.map (some M)) (.int .i64 k) false).run Tryz.prog w' = .ok (.func (.func F) #[] #[]) w')
      (exact hS _ (by first | exact hB0 | exact hB0.drew | exact hB0.drew.trans hb1 | exact (hB0.drew.trans hb1).trans (hb3.mono (hB0.drew.trans hb1).size)))
      (first | (go_at_call_of 94 E1; refine (hrb' _ (hB0.drew.trans hb1)).mono ?_; rintro e w3 ⟨hb3, rfl⟩) | (go_at_call 94; refine (hra' _ hB0.drew).mono ?_; rintro e w1 ⟨hb1, rfl⟩) | (refine (hpair _).mono ?_; rintro e w4 ⟨rfl, rfl⟩))
    all_goals
      go_wp2_with (go_at_call 92; refine (htg _).mono ?_; rintro e w5 ⟨rfl, rfl⟩)
      go_ret
      exact ⟨HB2.out.trans (((hB0.drew.trans hb1).trans (hb3.mono (hB0.drew.trans hb1).size)).mono HB2.out.size), rfl⟩
  · rw [show decide (¬ (-1000000 ≤ z ∧ z ≤ 1000000)) = true by simp; omega] at htg
    rw [show lid z = none by unfold lid; rw [if_neg hz]]
    clear hz
    go_enter Tryz.func94, Tryz.ntmps94
    go_wp2_with fail
    rw [← HW2.out]
    clear c0 c1 cE
    go_region_held3 (fun w' => w'.cell? ⟨w.heap.size, 0, none⟩ = some (.slice (some ⟨b, off, none⟩) n cap) ∧ w'.cell? ⟨w.heap.size, 1, none⟩ = some (.slice (some ⟨B, 0, none⟩) n n) ∧ w'.cell? ⟨w.heap.size, 2, none⟩ = some (.slice eao en ecap) ∧ w'.cell? ⟨w.heap.size, 3, none⟩ = some (.map (some M)) ∧ w'.cell? ⟨w.heap.size + 1, 0, none⟩ = some (.int .i64 k) ∧ w'.cell? ⟨B, P1, none⟩ = some (.int .i64 E1) ∧ (Instr.lookup 128 (.map (some M)) (.int .i64 k) false).run Tryz.prog w' = .ok (.func (.func F) #[] #[]) w')
      (exact hS _ (by first | exact hB0 | exact hB0.drew | exact hB0.drew.trans hb1 | exact (hB0.drew.trans hb1).trans (hb3.mono (hB0.drew.trans hb1).size)))
      (first | (go_at_call_of 94 E1; refine (hrb' _ (hB0.drew.trans hb1)).mono ?_; rintro e w3 ⟨hb3, rfl⟩) | (go_at_call 94; refine (hra' _ hB0.drew).mono ?_; rintro e w1 ⟨hb1, rfl⟩) | (refine (hpair _).mono ?_; rintro e w4 ⟨rfl, rfl⟩))
    all_goals
      go_wp2_with (go_at_call 92; refine (htg _).mono ?_; rintro e w5 ⟨rfl, rfl⟩)
      exact ⟨rfl, HB2.out.trans (((hB0.drew.trans hb1).trans (hb3.mono (hB0.drew.trans hb1).size)).mono HB2.out.size), rfl⟩
end Go.Proofs.YtnicbkkkecfdpaaGreatDoor

/-
  The contract of package expr's (work).at: an op of two parts, where a part gives up.
-/
namespace Go.Proofs.YtnicbkkkecfdpaaGreatDoor
open Go.ChangeShapes Go.WideShapes Go.ChangeAt Go.RowKit Go.Deep
open Terms Tm
attribute [local go_sem ↓] Go.wp_at_zero Go.wp_at_succ

set_option maxRecDepth 20000 in
/-- a callee that gives up: what would follow if it came back is shown from nothing. -/
theorem Calls.pan {f : FuncId} {args : Array Value} {w : World} {X : Ending → World → Prop} (x : Int) (h : Calls Tryz.prog f args w (AtPost none w))
    (hX : ∀ w', Below w.heap.size w w' → X (.panicked [{ v := .iface 33 (.int .i64 8), recovered := false }]) w') (_ : ∀ w', Below w.heap.size w w' → Hid False → X (.returned (.int .i64 x)) w') : Calls Tryz.prog f args w X :=
  h.mono fun e w' ⟨hb, he⟩ => by subst he; exact hX w' hb

set_option maxHeartbeats 800000 in
set_option maxRecDepth 20000 in
theorem at_bi_a (b off n cap B : Nat) (eao : Option Addr) (en ecap M place E1 F : Nat) (k x y z : Int) (w : World) (hob : b < w.heap.size) (hBB : B < w.heap.size) (hp : place + 1 < n) (P1 : Nat) (hP1 : P1 = place + 1) (h60 : n ≤ 60) (hk3 : 3 ≤ k) (hk9 : k ≤ 9) (c0 : w.cell? ⟨b, off + place * 2, none⟩ = some (.int .i64 k)) (c1 : w.cell? ⟨b, off + place * 2 + 1, none⟩ = some (.int .i64 0)) (cE : w.cell? ⟨B, P1, none⟩ = some (.int .i64 E1))
    (hlook : ∀ w', Below w.heap.size w w' → (Instr.lookup 128 (.map (some M)) (.int .i64 k) false).run Tryz.prog w' = .ok (.func (.func F) #[] #[]) w')
    (hent : ∀ args w, (callFunc F args).run Tryz.prog w = .ok (.enter F args) w)
    (hpair : ∀ w', Calls Tryz.prog F #[.int .i64 x, .int .i64 y] w' fun e w'' => e = .returned (.int .i64 z) ∧ w'' = w')
    (hra : ∀ w', Below w.heap.size w w' → Calls Tryz.prog 94 #[workV b off n cap B eao en ecap M, .int .i64 P1] w' (AtPost none w'))
    (hrb : Hid False → ∀ w', Below w.heap.size w w' → Calls Tryz.prog 94 #[workV b off n cap B eao en ecap M, .int .i64 E1] w' (AtPost (some y) w')) :
    Calls Tryz.prog 94 #[workV b off n cap B eao en ecap M, .int .i64 place] w (AtPost none w) := by
  have hne : ¬ b = w.heap.size := by omega
  have hneB : ¬ B = w.heap.size := by omega
  have e1 : ¬ k = 1 := by omega
  have e2 : ¬ k = 2 := by omega
  have e3 : ¬ k = 10 := by omega
  have e4 : ¬ k = 11 := by omega
  have e5 : ¬ k = 12 := by omega
  obtain ⟨W2, hW2⟩ : ∃ W2, W2 = ((w.alloc (.cells #[.slice (some ⟨b, off, none⟩) n cap, .slice (some ⟨B, 0, none⟩) n n, .slice eao en ecap, .map (some M)] 131)).alloc (.cells #[.int .i64 k, .int .i64 0] 92)) := ⟨_, rfl⟩
  have hb2 : Below w.heap.size w W2 := by rw [hW2]; exact ((Below.refl _ _).alloc (Nat.le_refl _) _).alloc (by simp) _
  have hsz : W2.heap.size = w.heap.size + 1 + 1 := by rw [hW2]; simp
  have d0 : W2.cell? ⟨w.heap.size, 0, none⟩ = some (.slice (some ⟨b, off, none⟩) n cap) := by rw [hW2]; simp [go_sem]
  have d1 : W2.cell? ⟨w.heap.size, 1, none⟩ = some (.slice (some ⟨B, 0, none⟩) n n) := by rw [hW2]; simp [go_sem]
  have d2 : W2.cell? ⟨w.heap.size, 2, none⟩ = some (.slice eao en ecap) := by rw [hW2]; simp [go_sem]
  have d3 : W2.cell? ⟨w.heap.size, 3, none⟩ = some (.map (some M)) := by rw [hW2]; simp [go_sem]
  have d4 : W2.cell? ⟨w.heap.size + 1, 0, none⟩ = some (.int .i64 k) := by rw [hW2]; simp [go_sem]
  have d5 : W2.cell? ⟨B, P1, none⟩ = some (.int .i64 E1) := (hb2.cell (p := ⟨B, P1, none⟩) hBB).trans cE
  have HW2 := (show Hid _ from hW2)
  have hS : ∀ w', Below W2.heap.size W2 w' → w'.cell? ⟨w.heap.size, 0, none⟩ = some (.slice (some ⟨b, off, none⟩) n cap) ∧ w'.cell? ⟨w.heap.size, 1, none⟩ = some (.slice (some ⟨B, 0, none⟩) n n) ∧ w'.cell? ⟨w.heap.size, 2, none⟩ = some (.slice eao en ecap) ∧ w'.cell? ⟨w.heap.size, 3, none⟩ = some (.map (some M)) ∧ w'.cell? ⟨w.heap.size + 1, 0, none⟩ = some (.int .i64 k) ∧ w'.cell? ⟨B, P1, none⟩ = some (.int .i64 E1) ∧ (Instr.lookup 128 (.map (some M)) (.int .i64 k) false).run Tryz.prog w' = .ok (.func (.func F) #[] #[]) w' := fun w' hw' =>
    ⟨(hw'.cell (p := ⟨w.heap.size, 0, none⟩) (by simp only; omega)).trans d0, (hw'.cell (p := ⟨w.heap.size, 1, none⟩) (by simp only; omega)).trans d1, (hw'.cell (p := ⟨w.heap.size, 2, none⟩) (by simp only; omega)).trans d2, (hw'.cell (p := ⟨w.heap.size, 3, none⟩) (by simp only; omega)).trans d3, (hw'.cell (p := ⟨w.heap.size + 1, 0, none⟩) (by simp only; omega)).trans d4, (hw'.cell (p := ⟨B, P1, none⟩) (by simp only; omega)).trans d5, hlook w' (hb2.trans (hw'.mono hb2.size))⟩
  have hra' : ∀ w', Below W2.heap.size W2 w' → Calls Tryz.prog 94 #[workV b off n cap B eao en ecap M, .int .i64 P1] w' (AtPost none w') := fun w' hw' => hra w' (hb2.trans (hw'.mono hb2.size))
  have hrb' : Hid False → ∀ w', Below W2.heap.size W2 w' → Calls Tryz.prog 94 #[workV b off n cap B eao en ecap M, .int .i64 E1] w' (AtPost (some y) w') := fun hF w' hw' => hrb hF w' (hb2.trans (hw'.mono hb2.size))
  have hB0 : Below W2.heap.size W2 W2 := Below.refl _ _
  have HB2 : Hid (Below w.heap.size w W2) := hb2
  have hp0 : place < n := by omega
  have hi0 : (0 : Int) ≤ (P1 : Int) := by omega
  have hi1 : (P1 : Int) < (n : Int) := by omega
  have hpp : (place : Int) + 1 = (P1 : Int) := by omega
  have hwr : IntKind.i64.wrap (P1 : Int) = (P1 : Int) := wrap_small (by omega) (by omega)
  have hwr2 : IntKind.i64.wrap ((place : Int) + 1) = (P1 : Int) := by rw [hpp]; exact hwr
  clear hW2 hb2 hra hrb hlook hP1 hp hsz d0 d1 d2 d3 d4 d5
  go_enter Tryz.func94, Tryz.ntmps94
  go_wp2_with fail
  rw [← HW2.out]
  clear c0 c1 cE
  go_region_held2 (fun w' => w'.cell? ⟨w.heap.size, 0, none⟩ = some (.slice (some ⟨b, off, none⟩) n cap) ∧ w'.cell? ⟨w.heap.size, 1, none⟩ = some (.slice (some ⟨B, 0, none⟩) n n) ∧ w'.cell? ⟨w.heap.size, 2, none⟩ = some (.slice eao en ecap) ∧ w'.cell? ⟨w.heap.size, 3, none⟩ = some (.map (some M)) ∧ w'.cell? ⟨w.heap.size + 1, 0, none⟩ = some (.int .i64 k) ∧ w'.cell? ⟨B, P1, none⟩ = some (.int .i64 E1) ∧ (Instr.lookup 128 (.map (some M)) (.int .i64 k) false).run Tryz.prog w' = .ok (.func (.func F) #[] #[]) w')
    (exact hS _ (by first | exact hB0 | exact hB0.drew | exact hB0.drew.trans hb1 | exact (hB0.drew.trans hb1).trans (hb3.mono (hB0.drew.trans hb1).size)))
    (first | (go_at_call_of 94 E1; refine (hrb' hF _ (hB0.drew.trans hb1)).mono ?_; rintro e w3 ⟨hb3, rfl⟩) | (go_at_call 94; refine Calls.pan x (hra' _ hB0.drew) (fun w1 hb1 => ⟨rfl, HB2.out.trans ((hB0.drew.trans hb1).mono HB2.out.size), rfl⟩) (fun w1 hb1 hF => ?_)) | (refine (hpair _).mono ?_; rintro e w4 ⟨rfl, rfl⟩))
  all_goals exact hF.out.elim
set_option maxHeartbeats 800000 in
set_option maxRecDepth 20000 in
theorem at_bi_b (b off n cap B : Nat) (eao : Option Addr) (en ecap M place E1 F : Nat) (k x y z : Int) (w : World) (hob : b < w.heap.size) (hBB : B < w.heap.size) (hp : place + 1 < n) (P1 : Nat) (hP1 : P1 = place + 1) (h60 : n ≤ 60) (hk3 : 3 ≤ k) (hk9 : k ≤ 9) (c0 : w.cell? ⟨b, off + place * 2, none⟩ = some (.int .i64 k)) (c1 : w.cell? ⟨b, off + place * 2 + 1, none⟩ = some (.int .i64 0)) (cE : w.cell? ⟨B, P1, none⟩ = some (.int .i64 E1))
    (hlook : ∀ w', Below w.heap.size w w' → (Instr.lookup 128 (.map (some M)) (.int .i64 k) false).run Tryz.prog w' = .ok (.func (.func F) #[] #[]) w')
    (hent : ∀ args w, (callFunc F args).run Tryz.prog w = .ok (.enter F args) w)
    (hpair : ∀ w', Calls Tryz.prog F #[.int .i64 x, .int .i64 y] w' fun e w'' => e = .returned (.int .i64 z) ∧ w'' = w')
    (hra : ∀ w', Below w.heap.size w w' → Calls Tryz.prog 94 #[workV b off n cap B eao en ecap M, .int .i64 P1] w' (AtPost (some x) w'))
    (hrb : ∀ w', Below w.heap.size w w' → Calls Tryz.prog 94 #[workV b off n cap B eao en ecap M, .int .i64 E1] w' (AtPost none w')) :
    Calls Tryz.prog 94 #[workV b off n cap B eao en ecap M, .int .i64 place] w (AtPost none w) := by
  have hne : ¬ b = w.heap.size := by omega
  have hneB : ¬ B = w.heap.size := by omega
  have e1 : ¬ k = 1 := by omega
  have e2 : ¬ k = 2 := by omega
  have e3 : ¬ k = 10 := by omega
  have e4 : ¬ k = 11 := by omega
  have e5 : ¬ k = 12 := by omega
  obtain ⟨W2, hW2⟩ : ∃ W2, W2 = ((w.alloc (.cells #[.slice (some ⟨b, off, none⟩) n cap, .slice (some ⟨B, 0, none⟩) n n, .slice eao en ecap, .map (some M)] 131)).alloc (.cells #[.int .i64 k, .int .i64 0] 92)) := ⟨_, rfl⟩
  have hb2 : Below w.heap.size w W2 := by rw [hW2]; exact ((Below.refl _ _).alloc (Nat.le_refl _) _).alloc (by simp) _
  have hsz : W2.heap.size = w.heap.size + 1 + 1 := by rw [hW2]; simp
  have d0 : W2.cell? ⟨w.heap.size, 0, none⟩ = some (.slice (some ⟨b, off, none⟩) n cap) := by rw [hW2]; simp [go_sem]
  have d1 : W2.cell? ⟨w.heap.size, 1, none⟩ = some (.slice (some ⟨B, 0, none⟩) n n) := by rw [hW2]; simp [go_sem]
  have d2 : W2.cell? ⟨w.heap.size, 2, none⟩ = some (.slice eao en ecap) := by rw [hW2]; simp [go_sem]
  have d3 : W2.cell? ⟨w.heap.size, 3, none⟩ = some (.map (some M)) := by rw [hW2]; simp [go_sem]
  have d4 : W2.cell? ⟨w.heap.size + 1, 0, none⟩ = some (.int .i64 k) := by rw [hW2]; simp [go_sem]
  have d5 : W2.cell? ⟨B, P1, none⟩ = some (.int .i64 E1) := (hb2.cell (p := ⟨B, P1, none⟩) hBB).trans cE
  have HW2 := (show Hid _ from hW2)
  have hS : ∀ w', Below W2.heap.size W2 w' → w'.cell? ⟨w.heap.size, 0, none⟩ = some (.slice (some ⟨b, off, none⟩) n cap) ∧ w'.cell? ⟨w.heap.size, 1, none⟩ = some (.slice (some ⟨B, 0, none⟩) n n) ∧ w'.cell? ⟨w.heap.size, 2, none⟩ = some (.slice eao en ecap) ∧ w'.cell? ⟨w.heap.size, 3, none⟩ = some (.map (some M)) ∧ w'.cell? ⟨w.heap.size + 1, 0, none⟩ = some (.int .i64 k) ∧ w'.cell? ⟨B, P1, none⟩ = some (.int .i64 E1) ∧ (Instr.lookup 128 (.map (some M)) (.int .i64 k) false).run Tryz.prog w' = .ok (.func (.func F) #[] #[]) w' := fun w' hw' =>
    ⟨(hw'.cell (p := ⟨w.heap.size, 0, none⟩) (by simp only; omega)).trans d0, (hw'.cell (p := ⟨w.heap.size, 1, none⟩) (by simp only; omega)).trans d1, (hw'.cell (p := ⟨w.heap.size, 2, none⟩) (by simp only; omega)).trans d2, (hw'.cell (p := ⟨w.heap.size, 3, none⟩) (by simp only; omega)).trans d3, (hw'.cell (p := ⟨w.heap.size + 1, 0, none⟩) (by simp only; omega)).trans d4, (hw'.cell (p := ⟨B, P1, none⟩) (by simp only; omega)).trans d5, hlook w' (hb2.trans (hw'.mono hb2.size))⟩
  have hra' : ∀ w', Below W2.heap.size W2 w' → Calls Tryz.prog 94 #[workV b off n cap B eao en ecap M, .int .i64 P1] w' (AtPost (some x) w') := fun w' hw' => hra w' (hb2.trans (hw'.mono hb2.size))
  have hrb' : ∀ w', Below W2.heap.size W2 w' → Calls Tryz.prog 94 #[workV b off n cap B eao en ecap M, .int .i64 E1] w' (AtPost none w') := fun w' hw' => hrb w' (hb2.trans (hw'.mono hb2.size))
  have hB0 : Below W2.heap.size W2 W2 := Below.refl _ _
  have HB2 : Hid (Below w.heap.size w W2) := hb2
  have hp0 : place < n := by omega
  have hi0 : (0 : Int) ≤ (P1 : Int) := by omega
  have hi1 : (P1 : Int) < (n : Int) := by omega
  have hpp : (place : Int) + 1 = (P1 : Int) := by omega
  have hwr : IntKind.i64.wrap (P1 : Int) = (P1 : Int) := wrap_small (by omega) (by omega)
  have hwr2 : IntKind.i64.wrap ((place : Int) + 1) = (P1 : Int) := by rw [hpp]; exact hwr
  clear hW2 hb2 hra hrb hlook hP1 hp hsz d0 d1 d2 d3 d4 d5
  go_enter Tryz.func94, Tryz.ntmps94
  go_wp2_with fail
  rw [← HW2.out]
  clear c0 c1 cE
  go_region_held2 (fun w' => w'.cell? ⟨w.heap.size, 0, none⟩ = some (.slice (some ⟨b, off, none⟩) n cap) ∧ w'.cell? ⟨w.heap.size, 1, none⟩ = some (.slice (some ⟨B, 0, none⟩) n n) ∧ w'.cell? ⟨w.heap.size, 2, none⟩ = some (.slice eao en ecap) ∧ w'.cell? ⟨w.heap.size, 3, none⟩ = some (.map (some M)) ∧ w'.cell? ⟨w.heap.size + 1, 0, none⟩ = some (.int .i64 k) ∧ w'.cell? ⟨B, P1, none⟩ = some (.int .i64 E1) ∧ (Instr.lookup 128 (.map (some M)) (.int .i64 k) false).run Tryz.prog w' = .ok (.func (.func F) #[] #[]) w')
    (exact hS _ (by first | exact hB0 | exact hB0.drew | exact hB0.drew.trans hb1 | exact (hB0.drew.trans hb1).trans (hb3.mono (hB0.drew.trans hb1).size)))
    (first | (go_at_call_of 94 E1; refine Calls.pan y (hrb' _ (hB0.drew.trans hb1)) (fun w3 hb3 => ⟨rfl, HB2.out.trans (((hB0.drew.trans hb1).trans (hb3.mono (hB0.drew.trans hb1).size)).mono HB2.out.size), rfl⟩) (fun w3 hb3 hF => ?_)) | (go_at_call 94; refine (hra' _ hB0.drew).mono ?_; rintro e w1 ⟨hb1, rfl⟩) | (refine (hpair _).mono ?_; rintro e w4 ⟨rfl, rfl⟩))
  all_goals exact hF.out.elim
end Go.Proofs.YtnicbkkkecfdpaaGreatDoor

/-
  The contract of package expr's (work).at, whole.
-/
namespace Go.Proofs.YtnicbkkkecfdpaaGreatDoor
open Go.ChangeShapes Go.WideShapes Go.ChangeAt Go.RowKit Go.Deep
open Terms Tm

set_option maxRecDepth 20000 in
/-- THE CONTRACT OF (work).at. -/
theorem at_any (b off n cap B : Nat) (eao : Option Addr) (en ecap M vars : Nat) (t : Tm) (env : List Int) (hn : n = t.size) (h60 : n ≤ 60) (hg : t.Good vars) (hty : t.typed = true) (hev : EnvOk env) (hen : env.length = vars) (hen2 : en = vars) (d : Nat) :
    ∀ (place : Nat) (w : World), place < n → (t.sub place).size ≤ d → WorkAt w b off B eao M t env →
    Calls Tryz.prog 94 #[workV b off n cap B eao en ecap M, .int .i64 place] w (AtPost ((t.sub place).eval env) w) := by
  induction d with
  | zero => intro place w _ hd; have := (t.sub place).size_pos; omega
  | succ d ih =>
    intro place w hp hd hW
    have hpt : place < t.size := by omega
    obtain ⟨s, hs⟩ : ∃ s, s = t.sub place := ⟨_, rfl⟩
    have hsg : s.Good vars := by rw [hs]; exact hg.sub _
    have hst : s.typed = true := by
      rw [hs]
      refine (typed_iff _).2 fun q hq => ?_
      rw [← t.sub_sub place q hpt hq]
      exact (typed_iff _).1 hty _ (by have := t.sub_fits hpt; omega)
    obtain ⟨c0, c1⟩ := hW.ops place (by rw [ops_length]; exact hpt)
    rw [op_at t hpt, ← hs] at c0 c1
    simp only at c0 c1
    have HKI : ∀ i, i < s.kids.length → place + s.koff i < n ∧ t.sub (place + s.koff i) = s.kids.getD i s ∧ endAt (t.ops.map Prod.fst) (place + s.koff i) = place + s.koff (i + 1) := fun i hi => by
      subst hs
      obtain ⟨h1, h2, h3, _⟩ := kid_in hg.wf hpt hi
      exact ⟨by omega, h2, h3⟩
    rw [← hs] at hd ⊢
    cases s with
    | leaf k v =>
      rcases hsg with ⟨rfl, h1, h2⟩ | ⟨rfl, h1, h2⟩ | ⟨hk, rfl⟩
      · exact at_num b off n cap B eao en ecap M place v w hW.ob hp c0 c1
      · obtain ⟨j, rfl⟩ := Int.eq_ofNat_of_zero_le h1
        obtain ⟨eb, eoff, rfl, e2, e3⟩ := hW.env j (by omega)
        exact at_var b off n cap B eb eoff en ecap M place j _ w hW.ob hp (by omega) c0 c1 e2 e3
      · have he : (Tm.leaf k 0).eval env = some (if k = 11 then 1 else 0) := by
          simp only [Tm.eval]
          rw [if_neg (by omega), if_neg (by omega)]
        rw [he]
        exact at_lit b off n cap B eao en ecap M place k hk w hW.ob hp c0 c1
    | un k v a =>
      obtain ⟨rfl, rfl, ha⟩ := hsg
      obtain ⟨p1, p2, _⟩ := HKI 0 (by simp [kids])
      rw [koff_zero] at p1 p2
      have hsz : a.size ≤ d := by simp only [Tm.size] at hd; omega
      have hta : a.typed = true := by simp only [Tm.typed, Bool.and_eq_true] at hst; exact hst.2
      have hrec : ∀ w', Below w.heap.size w w' → Calls Tryz.prog 94 #[workV b off n cap B eao en ecap M, .int .i64 ((place : Int) + 1)] w' (AtPost (a.eval env) w') := fun w' hw' => by
        have h := ih (place + 1) w' p1 (by rw [p2]; exact hsz) (hW.later hw')
        rw [p2] at h
        exact h
      have h := at_not b off n cap B eao en ecap M place (a.eval env) w hW.ob hp h60 c0 c1 (fun x hx => (eval_le hev hen ha hta x hx).1) hrec
      have he : (Tm.un 10 0 a).eval env = (a.eval env).map (1 - ·) := by
        simp only [Tm.eval]
        cases a.eval env <;> rfl
      rw [he]
      exact h
    | bi k v a b' =>
      obtain ⟨h3, h9, rfl, ha, hb⟩ := hsg
      obtain ⟨p1, p2, p3⟩ := HKI 0 (by simp [kids])
      obtain ⟨q1, q2, _⟩ := HKI 1 (by simp [kids])
      rw [koff_zero] at p1 p2 p3
      rw [Nat.zero_add] at p3
      have hsa : a.size ≤ d := by simp only [Tm.size] at hd; omega
      have hsb : b'.size ≤ d := by simp only [Tm.size] at hd; omega
      simp only [Tm.typed, Bool.and_eq_true, beq_iff_eq] at hst
      obtain ⟨⟨ka, hta⟩, kb, htb⟩ := hst
      have hra : ∀ w', Below w.heap.size w w' → Calls Tryz.prog 94 #[workV b off n cap B eao en ecap M, .int .i64 (place + 1 : Nat)] w' (AtPost (a.eval env) w') := fun w' hw' => by
        have h := ih (place + 1) w' p1 (by rw [p2]; exact hsa) (hW.later hw')
        rw [p2] at h
        exact h
      have hrb : ∀ w', Below w.heap.size w w' → Calls Tryz.prog 94 #[workV b off n cap B eao en ecap M, .int .i64 (place + (Tm.bi k 0 a b').koff 1 : Nat)] w' (AtPost (b'.eval env) w') := fun w' hw' => by
        have h := ih (place + (Tm.bi k 0 a b').koff 1) w' q1 (by rw [q2]; exact hsb) (hW.later hw')
        rw [q2] at h
        exact h
      have cE := hW.ends.cell (i := place + 1) (by omega)
      rw [p3] at cE
      have hlook := fun w' (hw' : Below w.heap.size w w') => (hW.pairs.later hw').look h3 h9
      have hent := pair_enters k h3 h9
      have hae := eval_le hev hen ha hta
      have hbe := eval_le hev hen hb htb
      simp only [Tm.eval]
      cases hx : a.eval env with
      | none =>
        rw [hx] at hra
        exact at_bi_a b off n cap B eao en ecap M place _ (pairFn k) k 0 0 (bin k 0 0) w hW.ob hW.ends.lt (by omega) (place + 1) rfl h60 h3 h9 c0 c1 cE hlook hent (fun w' => pair_any k 0 0 w' h3 h9 (by omega) (by omega) (fun _ => ⟨.inl rfl, .inl rfl⟩)) hra
          (fun h => h.out.elim)
      | some x =>
        rw [hx] at hra
        have hxl := hae x hx
        cases hy : b'.eval env with
        | none =>
          rw [hy] at hrb
          exact at_bi_b b off n cap B eao en ecap M place _ (pairFn k) k x 0 (bin k x 0) w hW.ob hW.ends.lt (by omega) (place + 1) rfl h60 h3 h9 c0 c1 cE hlook hent (fun w' => pair_any k x 0 w' h3 h9 hxl.1 (by omega) (fun h8 => ⟨hxl.2 (by rw [ka]; simp [tkT]; omega), .inl rfl⟩)) hra hrb
        | some y =>
          rw [hy] at hrb
          have hyl := hbe y hy
          exact at_bi b off n cap B eao en ecap M place _ (pairFn k) k x y (bin k x y) w hW.ob hW.ends.lt (by omega) (place + 1) rfl h60 h3 h9 c0 c1 cE hlook hent (fun w' => pair_any k x y w' h3 h9 hxl.1 hyl.1 (fun h8 => ⟨hxl.2 (by rw [ka]; simp [tkT]; omega), hyl.2 (by rw [kb]; simp [tkT]; omega)⟩)) hra hrb
end Go.Proofs.YtnicbkkkecfdpaaGreatDoor

/-
  The contract of expr.Eval.
-/
namespace Go.Proofs.YtnicbkkkecfdpaaGreatDoor
open Go.ChangeShapes Go.WideShapes Go.ChangeAt Go.RowKit Go.Deep
open Terms Tm

set_option maxRecDepth 20000 in
set_option maxHeartbeats 400000 in
theorem ecatch_panicking (s : Nat) (x : Int) (v0 v1 : Value) (w : World) (hc0 : w.cell? ⟨s, 0, none⟩ = some v0) (hc1 : w.cell? ⟨s + 1, 0, none⟩ = some v1) (hz0 : w.frozen? ⟨s, 0, none⟩ = false) (hz1 : w.frozen? ⟨s + 1, 0, none⟩ = false) :
    CallsD Tryz.prog 91 #[.pointer (some ⟨s, 0, none⟩), .pointer (some ⟨s + 1, 0, none⟩)] (.panicking [{ v := .iface 33 (.int .i64 x), recovered := false }]) w fun e u' w' =>
      e = .returned (.tuple #[]) ∧ u' = .panicking [{ v := .iface 33 (.int .i64 x), recovered := true }] ∧ w' = ((w.setCell ⟨s, 0, none⟩ (.int .i64 0)).setCell ⟨s + 1, 0, none⟩ (.int .i64 x)).drew := by
  have hta : ∀ w : World, (Instr.typeAssert (.iface 33 (.int .i64 x)) 20 33 false).run Tryz.prog w = .ok (.int .i64 x) w := fun _ => by kernel_rfl
  refine callsD_of_wpS Tryz.func91 rfl fun c₀ cs hu => ?_
  rw [Tryz.ntmps91]
  show Code.wpS _ _ _ { tmps := #[.pointer (some ⟨s, 0, none⟩), .pointer (some ⟨s + 1, 0, none⟩), undef, undef, undef, undef, undef, undef], defers := [] } _ _
  apply wpS_seq
  apply wpS_region
  simp [wpOpsS, go_sem, recoverD, hu, Exit.thenS]
  refine wpS_of_wp ?_
  go_wp2
  go_region
  go_wp2
  simp [bodyPostS, results, Tryz.results91]

set_option maxRecDepth 20000 in
theorem ecatch_idle (s : Nat) (w : World) :
    CallsD Tryz.prog 91 #[.pointer (some ⟨s, 0, none⟩), .pointer (some ⟨s + 1, 0, none⟩)] .returning w fun e u' w' =>
      e = .returned (.tuple #[]) ∧ u' = .returning ∧ w' = w := by
  refine callsD_of_wpS Tryz.func91 rfl fun c₀ cs hu => ?_
  rw [Tryz.ntmps91]
  show Code.wpS _ _ _ { tmps := #[.pointer (some ⟨s, 0, none⟩), .pointer (some ⟨s + 1, 0, none⟩), undef, undef, undef, undef, undef, undef], defers := [] } _ _
  apply wpS_seq
  apply wpS_region
  simp [wpOpsS, go_sem, recoverD, hu, Exit.thenS]
  refine wpS_of_wp ?_
  go_wp2
  cases c₀
  simp_all [bodyPostS, results, Tryz.results91]

/-- what Eval answers: a number, and an error's. -/
def envBad (env : List Int) : Bool := env.any fun x => decide (¬ (-1000000 ≤ x ∧ x ≤ 1000000))
def evalN (l : List (Int × Int)) (t : Tm) (env : List Int) : Int :=
  if xcode env.length l t ≠ 0 then 0 else if envBad env = true then 0 else match t.eval env with
    | some x => x
    | none => 0
def evalC (l : List (Int × Int)) (t : Tm) (env : List Int) : Int :=
  if xcode env.length l t ≠ 0 then xcode env.length l t else if envBad env = true then 2 else match t.eval env with
    | some _ => 0
    | none => 8
set_option maxRecDepth 20000 in
theorem envBad_false {env : List Int} (h : envBad env = false) : EnvOk env := fun i hi => by
  unfold envBad at h
  rw [List.any_eq_false] at h
  have := h (env.getD i 0) (by simp [List.getD_eq_getElem?_getD, hi])
  generalize env.getD i 0 = x at *
  simp at this
  omega
set_option maxRecDepth 20000 in
theorem envBad_ok {env : List Int} (h : ∀ j, j < env.length → -1000000 ≤ env.getD j 0 ∧ env.getD j 0 ≤ 1000000) : envBad env = false := by
  unfold envBad
  rw [List.any_eq_false]
  intro x hx
  obtain ⟨i, hi, rfl⟩ := List.getElem_of_mem hx
  have := h i hi
  simp [List.getD_eq_getElem?_getD, hi] at this
  simp
  omega
set_option maxRecDepth 20000 in
theorem envBad_at {env : List Int} {i : Nat} (hi : i < env.length) (h : ¬ (-1000000 ≤ env.getD i 0 ∧ env.getD i 0 ≤ 1000000)) : envBad env = true := by
  unfold envBad
  rw [List.any_eq_true]
  refine ⟨env[i], List.getElem_mem hi, ?_⟩
  simp [List.getD_eq_getElem?_getD, hi] at h
  simp
  omega

/-- the two results' cells, as Eval has laid them. -/
def e0 (w : World) : World := (w.alloc (.cells #[.int .i64 0] 3)).alloc (.cells #[.int .i64 0] 33)
set_option maxRecDepth 20000 in
theorem e0_below (w : World) : Below w.heap.size w (e0 w) := ((Below.refl _ _).alloc (Nat.le_refl _) _).alloc (by simp) _
set_option maxRecDepth 20000 in
theorem e0_cells (w : World) {w' : World} (h : Below (e0 w).heap.size (e0 w) w') :
    w'.cell? ⟨w.heap.size, 0, none⟩ = some (.int .i64 0) ∧ w'.cell? ⟨w.heap.size + 1, 0, none⟩ = some (.int .i64 0) ∧ w'.frozen? ⟨w.heap.size, 0, none⟩ = false ∧ w'.frozen? ⟨w.heap.size + 1, 0, none⟩ = false ∧ w.heap.size + 1 < w'.heap.size ∧ Below w.heap.size w w' := by
  have hs := h.size
  have hz : (e0 w).heap.size = w.heap.size + 1 + 1 := by simp [e0]
  refine ⟨?_, ?_, ?_, ?_, by omega, (e0_below w).trans (h.mono (e0_below w).size)⟩
  · rw [h.cell (p := ⟨w.heap.size, 0, none⟩) (by simp only; omega)]; simp [e0, go_sem]
  · rw [h.cell (p := ⟨w.heap.size + 1, 0, none⟩) (by simp only; omega)]; simp [e0, go_sem]
  · rw [h.frozen (p := ⟨w.heap.size, 0, none⟩) (by simp only; omega)]; simp [e0, go_sem]
  · rw [h.frozen (p := ⟨w.heap.size + 1, 0, none⟩) (by simp only; omega)]; simp [e0, go_sem]

set_option maxRecDepth 20000 in
set_option maxHeartbeats 1600000 in
/-- what Check refuses is refused. -/
theorem eval_no (ao : Option Addr) (n cap : Nat) (eao : Option Addr) (en ecap : Nat) (x : Int) (w : World) (hx : x ≠ 0)
    (heo : Calls Tryz.prog 84 #[.slice ao n cap, .int .i64 en] (e0 w) fun e w'' => e = .returned (.tuple #[.slice none 0 0, .int .i64 x]) ∧ Below (e0 w).heap.size (e0 w) w'') :
    Calls Tryz.prog 67 #[.slice ao n cap, .slice eao en ecap] w fun e w' => e = .returned (.tuple #[.int .i64 0, .int .i64 x]) ∧ Below w.heap.size w w' := by
  have hmf := hmakeFunc
  go_enter_defers Tryz.func67, Tryz.ntmps67
  go_wp2_with (go_at_call 84; refine heo.mono ?_; rintro e w2 ⟨rfl, hb2⟩; obtain ⟨c0, c1, f0, f1, hsz, hbw⟩ := e0_cells w hb2)
  go_region
  all_goals go_wp2_with fail
  all_goals
    refine leaves_cons (f := 91) (args := #[.pointer (some ⟨w.heap.size, 0, none⟩), .pointer (some ⟨w.heap.size + 1, 0, none⟩)]) (by simp) (by simp [go_sem]) ?_
    refine (ecatch_idle w.heap.size _).mono ?_
    rintro e u' w'' ⟨rfl, rfl, rfl⟩
    simp [Leaves, settle, results, Tryz.results67, go_sem, c0, c1]
    first
      | exact (((hbw.setCell (p := ⟨w.heap.size + 1, 0, none⟩) (by simp) _).drew).setCell (p := ⟨w.heap.size, 0, none⟩) (Nat.le_refl _) _).setCell (p := ⟨w.heap.size + 1, 0, none⟩) (by simp) _
      | exact (((hbw.setCell (p := ⟨w.heap.size + 1, 0, none⟩) (by simp) _).drew).setCell (p := ⟨w.heap.size + 1, 0, none⟩) (by simp) _).setCell (p := ⟨w.heap.size, 0, none⟩) (Nat.le_refl _) _
end Go.Proofs.YtnicbkkkecfdpaaGreatDoor

/-
  Plain mathematics of what comes behind a state. Nothing of the program is named here.
-/
namespace Go.Proofs.YtnicbkkkecfdpaaGreatDoor
open Terms Tm

/-- what an expression makes, and with what it is refused. -/
noncomputable def exN (l : List (Int × Int)) (env : List Int) : Int := evalN l (treeOf l) env
noncomputable def exC (l : List (Int × Int)) (env : List Int) : Int := evalC l (treeOf l) env
/-- does a truth hold? -/
noncomputable def holdsB (l : List (Int × Int)) (env : List Int) : Bool := decide (exC l env = 0) && decide (exN l env = 1)
/-- the values, so many sets done. -/
noncomputable def setTo (env : List Int) (sets : List St) : Nat → List Int
  | 0 => env
  | k + 1 => (setTo env sets k).set (sets.getD k st0).var.toNat (exN (sets.getD k st0).val env)
/-- one value, so many sets done. -/
noncomputable def setAt (env : List Int) (sets : List St) (i : Nat) : Nat → Int
  | 0 => env.getD i 0
  | k + 1 => if (sets.getD k st0).var = i then exN (sets.getD k st0).val env else setAt env sets i k
set_option maxRecDepth 20000 in
theorem setTo_length (env : List Int) (sets : List St) (k : Nat) : (setTo env sets k).length = env.length := by
  induction k with
  | zero => rfl
  | succ k ih => simp [setTo, ih]
set_option maxRecDepth 20000 in
theorem getD_set (l : List Int) (i j : Nat) (x : Int) (hi : i < l.length) : (l.set i x).getD j 0 = if i = j then x else l.getD j 0 := by
  simp only [List.getD_eq_getElem?_getD, List.getElem?_set]
  by_cases h : i = j
  · subst h; simp [hi]
  · simp [h]
set_option maxRecDepth 20000 in
theorem setTo_at {env : List Int} {sets : List St} {k : Nat} (h : ∀ j, j < k → 0 ≤ (sets.getD j st0).var ∧ (sets.getD j st0).var < env.length) (i : Nat) : (setTo env sets k).getD i 0 = setAt env sets i k := by
  induction k with
  | zero => rfl
  | succ k ih =>
    obtain ⟨h0, h1⟩ := h k (by omega)
    simp only [setTo, setAt]
    rw [getD_set _ _ _ _ (by rw [setTo_length]; omega), ih fun j hj => h j (by omega)]
    by_cases hk : (sets.getD k st0).var = i
    · rw [if_pos hk, if_pos (by omega)]
    · rw [if_neg hk, if_neg (by omega)]
/-- the values behind a rule. -/
noncomputable def behindL (env : List Int) (r : Ru) : List Int := setTo env r.sets r.sets.length
def setsOk (env : List Int) (r : Ru) : Prop := ∀ j, j < r.sets.length → exC (r.sets.getD j st0).val env = 0
open Classical in
/-- the state behind a rule, if it can be done. -/
noncomputable def ruleDo (vars : List Vr) (env : List Int) (r : Ru) : Option Int :=
  if holdsB r.guard env = true ∧ setsOk env r ∧ ∀ i, i < vars.length → inB vars (behindL env r) i then some (codeTo vars (behindL env r) vars.length) else none
def optN : Option Int → Int
  | some x => x
  | none => 0
def optC : Option Int → Int
  | some _ => 0
  | none => 11
set_option maxRecDepth 20000 in
theorem ruleDo_guard {vars : List Vr} {env : List Int} {r : Ru} (h : holdsB r.guard env = false) : ruleDo vars env r = none := by
  unfold ruleDo
  rw [if_neg (fun h2 => by rw [h] at h2; cases h2.1)]
set_option maxRecDepth 20000 in
theorem ruleDo_set {vars : List Vr} {env : List Int} {r : Ru} {j : Nat} (hj : j < r.sets.length) (h : exC (r.sets.getD j st0).val env ≠ 0) : ruleDo vars env r = none := by
  unfold ruleDo
  rw [if_neg (fun h2 => h (h2.2.1 j hj))]
set_option maxRecDepth 20000 in
theorem ruleDo_code {vars : List Vr} {env : List Int} {r : Ru} (h1 : holdsB r.guard env = true) (h2 : setsOk env r) (hl : env.length = vars.length) {m : Mo} (hm : mcode m = 0) (hv : m.vars = vars) :
    (ccode m (behindL env r) = 0 → ruleDo vars env r = some (cval m (behindL env r))) ∧ (ccode m (behindL env r) ≠ 0 → ruleDo vars env r = none) := by
  have hb : (behindL env r).length = m.vars.length := by unfold behindL; rw [setTo_length, hl, hv]
  subst hv
  by_cases hin : ∀ i, i < m.vars.length → inB m.vars (behindL env r) i
  · have hc := ccode_yes hm ⟨hb, hin⟩
    refine ⟨fun _ => ?_, fun h => absurd hc h⟩
    unfold ruleDo
    rw [if_pos ⟨h1, h2, hin⟩]
    unfold cval
    rw [if_pos hc]
  · have hc := ccode_no hm (vals := behindL env r) (fun h => hin h.2)
    refine ⟨fun h => (by rw [hc] at h; cases h), fun _ => ?_⟩
    unfold ruleDo
    rw [if_neg (fun h => hin h.2.2)]
set_option maxRecDepth 20000 in
/-- what is known of a rule that passes. -/
theorem rule_sets {vars : Int} {r : Ru} (h : rcode vars r = 0) : r.sets.length ≤ 6 ∧ ∀ j, j < r.sets.length → 0 ≤ (r.sets.getD j st0).var ∧ (r.sets.getD j st0).var < vars := by
  unfold rcode at h
  split at h
  · simp at h
  · rename_i h6
    refine ⟨by omega, fun j hj => ?_⟩
    split at h
    · have h1 := firstOf_zero h j hj
      unfold sAt at h1
      split at h1
      · simp at h1
      · rename_i h2; omega
    · rename_i h2; exact absurd h h2
set_option maxRecDepth 20000 in
theorem mcode_rules {m : Mo} (h : mcode m = 0) : m.rules.length ≤ 12 ∧ ∀ j, j < m.rules.length → rcode m.vars.length (m.rules.getD j ru0) = 0 := by
  unfold mcode at h
  split at h
  · split at h
    · simp at h
    · rename_i h1; exact ⟨by omega, firstOf_zero h⟩
  · rename_i h0; exact absurd h h0
set_option maxRecDepth 20000 in
theorem mcode_bare {m : Mo} (h : mcode m = 0) : mcode ⟨m.vars, []⟩ = 0 := by
  have hv : vcode m.vars = 0 := by
    unfold mcode at h
    split at h
    · assumption
    · rename_i h0; exact absurd h h0
  unfold mcode
  rw [if_pos hv]
  rfl
set_option maxRecDepth 20000 in
theorem valsL_length (l : List Vr) (c : Int) : (valsL l c).length = l.length := by simp [valsL]
end Go.Proofs.YtnicbkkkecfdpaaGreatDoor

/-
  The library's slices.Sort and slices.Compact at lists of numbers: their contracts at this program, in plain words.
-/
namespace Go.Proofs.YtnicbkkkecfdpaaGreatDoor
open Go.Shelf
def lays189_ren : Go.Shelf.Ren := ⟨fun | 189 => 89 | 125 => 125 | 257 => 124 | 128 => 144 | 129 => 145 | 294 => 135 | 295 => 136 | 296 => 137 | 297 => 138 | 298 => 139 | 299 => 140 | 216 => 141 | 300 => 142 | 301 => 143 | 328 => 146 | 329 => 147 | 330 => 148 | 331 => 149 | 332 => 150 | 215 => 151 | 343 => 152 | n => n, fun | 28 => 30 | 3 => 3 | 46 => 145 | 0 => 0 | 51 => 158 | 53 => 160 | 4 => 4 | 183 => 151 | 182 => 150 | 131 => 122 | 5 => 5 | 9 => 9 | 218 => 161 | 222 => 165 | 228 => 167 | 229 => 168 | n => n, fun | n => n⟩
set_option maxRecDepth 20000 in
theorem lays189 : Go.Proofs.Lays.n189 Tryz.prog lays189_ren := {
  mixed := by kernel_rfl
  f125 := Tryz.func125.trans (congrArg some (by kernel_rfl))
  f128 := Tryz.func144.trans (congrArg some (by kernel_rfl))
  f129 := Tryz.func145.trans (congrArg some (by kernel_rfl))
  f189 := Tryz.func89.trans (congrArg some (by kernel_rfl))
  f215 := Tryz.func151.trans (congrArg some (by kernel_rfl))
  f216 := Tryz.func141.trans (congrArg some (by kernel_rfl))
  f257 := Tryz.func124.trans (congrArg some (by kernel_rfl))
  f294 := Tryz.func135.trans (congrArg some (by kernel_rfl))
  f295 := Tryz.func136.trans (congrArg some (by kernel_rfl))
  f296 := Tryz.func137.trans (congrArg some (by kernel_rfl))
  f297 := Tryz.func138.trans (congrArg some (by kernel_rfl))
  f298 := Tryz.func139.trans (congrArg some (by kernel_rfl))
  f299 := Tryz.func140.trans (congrArg some (by kernel_rfl))
  f300 := Tryz.func142.trans (congrArg some (by kernel_rfl))
  f301 := Tryz.func143.trans (congrArg some (by kernel_rfl))
  f328 := Tryz.func146.trans (congrArg some (by kernel_rfl))
  f329 := Tryz.func147.trans (congrArg some (by kernel_rfl))
  f330 := Tryz.func148.trans (congrArg some (by kernel_rfl))
  f331 := Tryz.func149.trans (congrArg some (by kernel_rfl))
  f332 := Tryz.func150.trans (congrArg some (by kernel_rfl))
  f343 := Tryz.func152.trans (congrArg some (by kernel_rfl))
  t0 := Tryz.underlying0
  a0 := Tryz.isAgg0
  z0 := Tryz.sizeOf0
  v0 := Tryz.zeroValue0
  t3 := Tryz.underlying3
  a3 := Tryz.isAgg3
  z3 := Tryz.sizeOf3
  v3 := Tryz.zeroValue3
  t4 := Tryz.underlying4
  a4 := Tryz.isAgg4
  z4 := Tryz.sizeOf4
  v4 := Tryz.zeroValue4
  t5 := Tryz.underlying5
  a5 := Tryz.isAgg5
  z5 := Tryz.sizeOf5
  v5 := Tryz.zeroValue5
  t9 := Tryz.underlying9
  a9 := Tryz.isAgg9
  z9 := Tryz.sizeOf9
  v9 := Tryz.zeroValue9
  t28 := Tryz.underlying30
  a28 := Tryz.isAgg30
  z28 := Tryz.sizeOf30
  v28 := Tryz.zeroValue30
  t46 := Tryz.underlying145
  a46 := Tryz.isAgg145
  z46 := Tryz.sizeOf145
  v46 := Tryz.zeroValue145
  t51 := Tryz.underlying158
  a51 := Tryz.isAgg158
  z51 := Tryz.sizeOf158
  v51 := Tryz.zeroValue158
  t53 := Tryz.underlying160
  a53 := Tryz.isAgg160
  z53 := Tryz.sizeOf160
  v53 := Tryz.zeroValue160
  t131 := Tryz.underlying122
  a131 := Tryz.isAgg122
  z131 := Tryz.sizeOf122
  v131 := Tryz.zeroValue122
  t182 := Tryz.underlying150
  a182 := Tryz.isAgg150
  z182 := Tryz.sizeOf150
  v182 := Tryz.zeroValue150
  t183 := Tryz.underlying151
  a183 := Tryz.isAgg151
  z183 := Tryz.sizeOf151
  v183 := Tryz.zeroValue151
  t218 := Tryz.underlying161
  a218 := Tryz.isAgg161
  z218 := Tryz.sizeOf161
  v218 := Tryz.zeroValue161
  t222 := Tryz.underlying165
  a222 := Tryz.isAgg165
  z222 := Tryz.sizeOf165
  v222 := Tryz.zeroValue165
  t228 := Tryz.underlying167
  a228 := Tryz.isAgg167
  z228 := Tryz.sizeOf167
  v228 := Tryz.zeroValue167
  t229 := Tryz.underlying168
  a229 := Tryz.isAgg168
  z229 := Tryz.sizeOf168
  v229 := Tryz.zeroValue168 }
open Go.Sort Go.RowKit in
set_option maxRecDepth 20000 in
theorem slices_Sort_int (blk off cap : Nat) (zs : List Int) (w : World) (hH : Holds (Value.int .i64) w blk off zs.toArray) (hblk : blk < w.heap.size) (hsz : zs.length < 4611686018427387904) :
    Calls Tryz.prog 89 #[.slice (some ⟨blk, off, none⟩) zs.length cap] w fun e w' =>
      e = .returned (.tuple #[]) ∧ ∃ n os, w' = grow (putRow (Value.int .i64) (Sort.ahead w n) blk off (zs.mergeSort fun x y => decide (x ≤ y)).toArray) os := Any.slices_Sort_int lays189 blk off cap zs w hH hblk hsz
def laysNm220_ren : Go.Shelf.Ren := ⟨fun | 20 => 90 | n => n, fun | 22 => 30 | 3 => 3 | 4 => 4 | 0 => 0 | n => n, fun | n => n⟩
set_option maxRecDepth 20000 in
theorem laysNm220 : Go.Proofs.Lays2.n20 Tryz.prog laysNm220_ren := {
  mixed := by kernel_rfl
  f20 := Tryz.func90.trans (congrArg some (by kernel_rfl))
  t0 := Tryz.underlying0
  a0 := Tryz.isAgg0
  z0 := Tryz.sizeOf0
  v0 := Tryz.zeroValue0
  t3 := Tryz.underlying3
  a3 := Tryz.isAgg3
  z3 := Tryz.sizeOf3
  v3 := Tryz.zeroValue3
  t4 := Tryz.underlying4
  a4 := Tryz.isAgg4
  z4 := Tryz.sizeOf4
  v4 := Tryz.zeroValue4
  t22 := Tryz.underlying30
  a22 := Tryz.isAgg30
  z22 := Tryz.sizeOf30
  v22 := Tryz.zeroValue30
  i3 := by kernel_rfl }
open Go.RowKit Go.Lib Go.Sort in
set_option maxRecDepth 20000 in
theorem slices_Compact_int (blk off cap : Nat) (zs : List Int) (w : World) (hH : Holds (Value.int .i64) w blk off zs.toArray) (hsz : zs.length ≤ 9223372036854775807) (hcap : zs.length ≤ cap) :
    Calls Tryz.prog 90 #[.slice (some ⟨blk, off, none⟩) zs.length cap] w fun e w' => e = .returned (.slice (some ⟨blk, off, none⟩) (Lib.compact zs).length cap) ∧ ∃ q, w' = putRow (Value.int .i64) (Sort.ahead w q) blk off (Lib.compact zs ++ List.replicate (zs.length - (Lib.compact zs).length) 0).toArray := Any.slices_Compact_int laysNm220 blk off cap zs w hH hsz hcap
end Go.Proofs.YtnicbkkkecfdpaaGreatDoor

/-
  The library's Sort and Compact of numbers that lie in a row of one's own; and what comes of them.
-/
namespace Go.Proofs.YtnicbkkkecfdpaaGreatDoor
open Go.RowKit Go.Sort

def leB (x y : Int) : Bool := decide (x ≤ y)
set_option maxRecDepth 20000 in
/-- slices.Sort. -/
theorem sort_own (g cap base : Nat) (zs : List Int) (w : World) (hz : zs.length ≤ 100000) (ho : w.ownsRow base 3 1 (.slice (some ⟨g, 0, none⟩) zs.length cap) zs.length (ivals zs)) :
    Calls Tryz.prog 89 #[.slice (some ⟨g, 0, none⟩) zs.length cap] w fun e w' => e = .returned (.tuple #[]) ∧ w.grownBy w' (some g) ∧ w'.ownsRow base 3 1 (.slice (some ⟨g, 0, none⟩) zs.length cap) zs.length (ivals (zs.mergeSort leB)) := by
  have ho' : w.ownsRow base 3 1 (.slice (some ⟨g, 0, none⟩) zs.length cap) zs.length (zs.map (Value.int .i64)) := ho
  obtain ⟨g', cap', hv, hbg, hlt, hn, hm, hl, hH⟩ := Lib.holds_of_ownsRow ho' (by simp)
  injection hv with h1 h2 h3
  injection h1 with h1
  injection h1 with h1
  subst h1 h3
  rcases ho.2 with ⟨e0, _⟩ | ⟨g2, cap2, cur, e0, hb, hg, hnc, hcm, hcs, ht⟩
  · cases e0
  · injection e0 with e1 _ e3
    injection e1 with e1
    injection e1 with e1
    subst e1 e3
    refine (slices_Sort_int g 0 cap zs w hH hlt (by omega)).mono fun e w' ⟨he, n, os, hw⟩ => ⟨he, ?_, ?_⟩
    · rw [hw]; exact grownBy_sortedI _
    · rw [hw]; exact ownsRow_sortedI (ts := zs.mergeSort leB) (by simp) hbg hg hnc hcm hcs
set_option maxRecDepth 20000 in
/-- slices.Compact. -/
theorem compact_own (g cap base : Nat) (zs : List Int) (w : World) (hz : zs.length ≤ 100000) (ho : w.ownsRow base 3 1 (.slice (some ⟨g, 0, none⟩) zs.length cap) zs.length (ivals zs)) :
    Calls Tryz.prog 90 #[.slice (some ⟨g, 0, none⟩) zs.length cap] w fun e w' => e = .returned (.slice (some ⟨g, 0, none⟩) (Lib.compact zs).length cap) ∧ w.grownBy w' (some g) ∧ w'.ownsRow base 3 1 (.slice (some ⟨g, 0, none⟩) (Lib.compact zs).length cap) (Lib.compact zs).length (ivals (Lib.compact zs)) := by
  have ho' : w.ownsRow base 3 1 (.slice (some ⟨g, 0, none⟩) zs.length cap) zs.length (zs.map (Value.int .i64)) := ho
  obtain ⟨g', cap', hv, hbg, hlt, hn, hm, hl, hH⟩ := Lib.holds_of_ownsRow ho' (by simp)
  injection hv with h1 h2 h3
  injection h1 with h1
  injection h1 with h1
  subst h1 h3
  have hcl := Lib.compact_length_le zs
  refine (slices_Compact_int g 0 cap zs w hH (by omega) hn).mono fun e w' ⟨he, q, hw⟩ => ⟨he, ?_, ?_⟩
  · rw [hw]
    refine ⟨rfl, rfl, rfl, by simp [putRow, mapBlock, Sort.ahead], fun k _ hne => ?_⟩
    have : g ≠ k := fun e => hne (by rw [e])
    simp [putRow, mapBlock, Sort.ahead, Array.getElem?_modify, this]
  · rw [hw]
    have h := Lib.ownsRow_putRow (q := q) (k := (Lib.compact zs).length) (ys := Lib.compact zs ++ List.replicate (zs.length - (Lib.compact zs).length) 0) ho' (by simp; omega) hcl
    rw [List.take_left] at h
    exact h

/-! ### lists that rise -/

abbrev Rise (l : List Int) : Prop := l.Pairwise (· < ·)
set_option maxRecDepth 20000 in
theorem rise_eq : ∀ {l l' : List Int}, Rise l → Rise l' → (∀ x, x ∈ l ↔ x ∈ l') → l = l'
  | [], [], _, _, _ => rfl
  | [], y :: l', _, _, h => absurd ((h y).2 (by simp)) (by simp)
  | x :: l, [], _, _, h => absurd ((h x).1 (by simp)) (by simp)
  | x :: l, y :: l', h1, h2, h => by
    obtain ⟨hx, t1⟩ := List.pairwise_cons.1 h1
    obtain ⟨hy, t2⟩ := List.pairwise_cons.1 h2
    have e : x = y := by
      rcases List.mem_cons.1 ((h x).1 (by simp)) with e | e
      · exact e
      · rcases List.mem_cons.1 ((h y).2 (by simp)) with e' | e'
        · exact e'.symm
        · have := hx y e'; have := hy x e; omega
    subst e
    refine congrArg (x :: ·) (rise_eq t1 t2 fun z => ⟨fun hz => ?_, fun hz => ?_⟩)
    · rcases List.mem_cons.1 ((h z).1 (by simp [hz])) with e | e
      · subst e; have := hx z hz; omega
      · exact e
    · rcases List.mem_cons.1 ((h z).2 (by simp [hz])) with e | e
      · subst e; have := hy z hz; omega
      · exact e
set_option maxRecDepth 20000 in
theorem compact_step {d : Array Int} {n : Nat} (hs : ∀ i j, i ≤ j → j < n → d[i]! ≤ d[j]!) : ∀ m, m ≤ n → Rise (Lib.compactUpTo d m) ∧ ∀ x, x ∈ Lib.compactUpTo d m ↔ ∃ j, j < m ∧ d[j]! = x := by
  intro m
  induction m with
  | zero => intro _; exact ⟨by simp [Lib.compactUpTo], fun x => by simp [Lib.compactUpTo]⟩
  | succ m ih =>
    intro hm
    obtain ⟨h1, h2⟩ := ih (by omega)
    rw [Lib.compactUpTo_succ]
    by_cases hk : Lib.keeps d m = true
    · rw [if_pos hk]
      refine ⟨List.pairwise_append.2 ⟨h1, by simp, fun x hx y hy => ?_⟩, fun x => ?_⟩
      · simp at hy
        subst hy
        obtain ⟨j, hj, rfl⟩ := (h2 x).1 hx
        have h3 := hs j m (by omega) (by omega)
        have h4 := hs j (m - 1) (by omega) (by omega)
        have h5 := hs (m - 1) m (by omega) (by omega)
        have h6 : d[m]! ≠ d[m - 1]! := by
          have : m ≠ 0 := by omega
          simpa [Lib.keeps, this] using hk
        omega
      · simp only [List.mem_append, List.mem_singleton, h2]
        constructor
        · rintro (⟨j, hj, e⟩ | e)
          · exact ⟨j, by omega, e⟩
          · exact ⟨m, by omega, e.symm⟩
        · rintro ⟨j, hj, e⟩
          by_cases hjm : j = m
          · subst hjm; exact .inr e.symm
          · exact .inl ⟨j, by omega, e⟩
    · rw [if_neg hk, List.append_nil]
      refine ⟨h1, fun x => ?_⟩
      rw [h2]
      constructor
      · rintro ⟨j, hj, e⟩; exact ⟨j, by omega, e⟩
      · rintro ⟨j, hj, e⟩
        by_cases hjm : j = m
        · subst hjm
          have h7 : j ≠ 0 ∧ d[j]! = d[j - 1]! := by simpa [Lib.keeps] using hk
          exact ⟨j - 1, by omega, by rw [← h7.2]; exact e⟩
        · exact ⟨j, by omega, e⟩
/-- the numbers of a list, each once, rising. -/
def upL (l : List Int) : List Int := Lib.compact (l.mergeSort leB)
set_option maxRecDepth 20000 in
theorem upL_spec (l : List Int) : Rise (upL l) ∧ ∀ x, x ∈ upL l ↔ x ∈ l := by
  have hp : (l.mergeSort leB).Pairwise (fun x y => leB x y = true) := List.pairwise_mergeSort (le := leB) (by intro a b c; simp only [leB, decide_eq_true_eq]; omega) (by intro a b; simp only [leB, Bool.or_eq_true, decide_eq_true_eq]; omega) l
  have hs : ∀ i j, i ≤ j → j < (l.mergeSort leB).length → (l.mergeSort leB).toArray[i]! ≤ (l.mergeSort leB).toArray[j]! := fun i j hij hj => by
    rw [getElem!_pos _ i (by simpa using (by omega : i < (l.mergeSort leB).length)), getElem!_pos _ j (by simpa using hj)]
    rcases Nat.lt_or_eq_of_le hij with h | h
    · have := List.pairwise_iff_getElem.1 hp i j (by omega) hj h
      simpa [leB] using this
    · subst h; exact Int.le_refl _
  obtain ⟨h1, h2⟩ := compact_step hs (l.mergeSort leB).length (Nat.le_refl _)
  refine ⟨h1, fun x => ?_⟩
  show x ∈ Lib.compactUpTo _ _ ↔ _
  rw [h2, ← (List.mergeSort_perm l leB).mem_iff, List.mem_iff_getElem]
  constructor
  · rintro ⟨j, hj, e⟩
    exact ⟨j, hj, by rw [← e, getElem!_pos _ j (by simpa using hj)]; rfl⟩
  · rintro ⟨j, hj, e⟩
    exact ⟨j, hj, by rw [getElem!_pos _ j (by simpa using hj)]; exact e⟩
set_option maxRecDepth 20000 in
theorem upL_eq {l l' : List Int} (h : Rise l) (hm : ∀ x, x ∈ l ↔ x ∈ l') : l = upL l' := rise_eq h (upL_spec l').1 fun x => by rw [hm, (upL_spec l').2]
end Go.Proofs.YtnicbkkkecfdpaaGreatDoor

/-
  Plain mathematics of what comes next.
-/
namespace Go.Proofs.YtnicbkkkecfdpaaGreatDoor
open Terms Tm

/-- what comes behind the first so many rules. -/
noncomputable def rawTo (vars : List Vr) (env : List Int) (rules : List Ru) (k : Nat) : List Int := (rules.take k).filterMap (ruleDo vars env)
set_option maxRecDepth 20000 in
theorem rawTo_some {vars : List Vr} {env : List Int} {rules : List Ru} {k : Nat} (hk : k < rules.length) {x : Int} (h : ruleDo vars env (rules.getD k ru0) = some x) : rawTo vars env rules (k + 1) = rawTo vars env rules k ++ [x] := by
  unfold rawTo
  rw [List.take_succ_eq_append_getElem hk, List.filterMap_append, show rules[k] = rules.getD k ru0 by simp [List.getD_eq_getElem?_getD, hk]]
  generalize rules.getD k ru0 = r at h
  simp [h]
set_option maxRecDepth 20000 in
theorem rawTo_none {vars : List Vr} {env : List Int} {rules : List Ru} {k : Nat} (hk : k < rules.length) (h : ruleDo vars env (rules.getD k ru0) = none) : rawTo vars env rules (k + 1) = rawTo vars env rules k := by
  unfold rawTo
  rw [List.take_succ_eq_append_getElem hk, List.filterMap_append, show rules[k] = rules.getD k ru0 by simp [List.getD_eq_getElem?_getD, hk]]
  generalize rules.getD k ru0 = r at h
  simp [h]
set_option maxRecDepth 20000 in
theorem rawTo_length (vars : List Vr) (env : List Int) (rules : List Ru) (k : Nat) : (rawTo vars env rules k).length ≤ k := by
  unfold rawTo
  exact Nat.le_trans (List.length_filterMap_le _ _) (by simp; omega)
/-- what comes behind all rules, or the state itself. -/
noncomputable def rawL (m : Mo) (code : Int) : List Int := if rawTo m.vars (valsL m.vars code) m.rules m.rules.length = [] then [code] else rawTo m.vars (valsL m.vars code) m.rules m.rules.length
/-- the next states. -/
noncomputable def nextL (m : Mo) (code : Int) : List Int := upL (rawL m code)
/-- what Next answers. -/
noncomputable def nxtL (m : Mo) (code : Int) : List Int := if wcode m code = 0 then nextL m code else []
set_option maxRecDepth 20000 in
theorem rawTo_mem {vars : List Vr} {env : List Int} {rules : List Ru} {k : Nat} (hk : k ≤ rules.length) (x : Int) : x ∈ rawTo vars env rules k ↔ ∃ j, j < k ∧ ruleDo vars env (rules.getD j ru0) = some x := by
  unfold rawTo
  rw [List.mem_filterMap]
  constructor
  · rintro ⟨r, hr, e⟩
    obtain ⟨j, hj, rfl⟩ := List.mem_iff_getElem.1 hr
    rw [List.length_take] at hj
    refine ⟨j, by omega, ?_⟩
    rw [List.getElem_take] at e
    rw [show rules.getD j ru0 = rules[j]'(by omega) by simp [List.getD_eq_getElem?_getD, show j < rules.length by omega]]
    exact e
  · rintro ⟨j, hj, e⟩
    refine ⟨rules.getD j ru0, ?_, e⟩
    rw [List.mem_iff_getElem]
    exact ⟨j, by rw [List.length_take]; omega, by rw [List.getElem_take]; simp [List.getD_eq_getElem?_getD, show j < rules.length by omega]⟩
set_option maxRecDepth 20000 in
/-- a state behind a rule is a state. -/
theorem ruleDo_state {vars : List Vr} {env : List Int} {r : Ru} {x : Int} (hv : VarsOk vars) (h : ruleDo vars env r = some x) : 0 ≤ x ∧ x < prodTo vars vars.length := by
  unfold ruleDo at h
  split at h
  · rename_i hc
    injection h with h
    subst h
    exact code_bounds hv (Nat.le_refl _) hc.2.2
  · cases h
set_option maxRecDepth 20000 in
theorem upL_length (l : List Int) : (upL l).length ≤ l.length := Nat.le_trans (Lib.compact_length_le _) (by simp)
set_option maxRecDepth 20000 in
theorem nxtL_length (m : Mo) (code : Int) : (nxtL m code).length ≤ 1 + m.rules.length := by
  unfold nxtL nextL
  split
  · refine Nat.le_trans (upL_length _) ?_
    unfold rawL
    split
    · simp
    · exact Nat.le_trans (rawTo_length _ _ _ _) (by omega)
  · simp
end Go.Proofs.YtnicbkkkecfdpaaGreatDoor

/-
  The contracts of the program's countOf, Count.
-/
namespace Go.Proofs.YtnicbkkkecfdpaaGreatDoor
open Go.ChangeShapes Go.WideShapes Go.ChangeAt Go.RowKit Go.Deep
open Terms Tm

set_option maxRecDepth 20000 in
set_option maxHeartbeats 1600000 in
theorem countOf_any (va : Value) (l : List Vr) (w : World) (hok : VarsOk l) (hV : VarsV w va l) :
    Calls Tryz.prog 66 #[va] w fun e w' => e = .returned (.int .i64 (prodTo l l.length)) ∧ Below w.heap.size w w' := by
  obtain ⟨ao, cap, rfl⟩ := hV.shape
  have HV : Hid (VarsV w (.slice ao l.length cap) l) := hV
  have HOK : Hid (VarsOk l) := hok
  have h6 := hok.1
  obtain ⟨n, hn⟩ : ∃ n, n = l.length := ⟨_, rfl⟩
  have HN : Hid (n = l.length) := hn
  rw [← hn] at h6 HV ⊢
  clear hV hn hok
  go_enter Tryz.func66, Tryz.ntmps66
  go_wp2
  go_loopw [3, 8] (fun st i wr => ∃ k : Nat, k ≤ n ∧ i = .int .i64 k ∧ st = .int .i64 (prodTo l k) ∧ Below w.heap.size w wr) (fun _ i _ => n - (intOf i).toNat)
  case atStart => exact ⟨0, Nat.zero_le _, rfl, rfl, Below.refl _ _⟩
  case round =>
    obtain ⟨k, hk, rfl, rfl, hbel⟩ := hrel
    by_cases hlt : k < n
    · obtain ⟨b, off, rfl, hblt, hat⟩ := HV.out.at (i := k) (by rw [← HN.out]; exact hlt)
      obtain ⟨c0, c1, c2, c3⟩ := hat.below hbel hblt
      have hpb := HOK.out.prod (j := k) (by rw [← HN.out]; exact hk)
      have hvb := HOK.out.at (j := k) (by rw [← HN.out]; exact hlt)
      have HPr : Hid (prodTo l (k + 1) = prodTo l k * vspan (l.getD k vr0)) := rfl
      generalize prodTo l k = st at *
      generalize l.getD k vr0 = x at *
      obtain ⟨s, lo, hi, ini⟩ := x
      simp only [vspan] at c0 c1 c2 c3 HPr hvb
      obtain ⟨hv1, hv2, hv3, hv4, hv5, hv6, hv7⟩ := hvb
      have hsp := fun w => span_any s lo hi ini w hv3 hv4 hv5
      obtain ⟨sp, hspe⟩ : ∃ sp, hi - lo + 1 = sp := ⟨_, rfl⟩
      rw [hspe] at hv1 hv2 hsp HPr
      clear hspe hat
      have hm1 : 1 ≤ st * sp := by have := Int.mul_le_mul hpb.1 hv1 (by omega) (by omega); simpa using this
      have hm2 : st * sp ≤ 262144 := by have := Int.mul_le_mul hpb.2 hv2 (by omega) (by omega); simpa using this
      have hbA := hbel.alloc hbel.size (.cells #[.string s, .int .i64 lo, .int .i64 hi, .int .i64 ini] 76)
      go_wp2_with (go_at_call 63; refine (hsp _).mono ?_; rintro e w3 ⟨rfl, hb3⟩)
      go_roundw
      case rel => exact ⟨k + 1, hlt, by go_num, by rw [HPr.out], hbA.trans (hb3.mono hbA.size)⟩
      case measure => simp [intOf]; omega
    · have hkn : k = n := by omega
      subst hkn
      go_wp2
      go_ret
      exact ⟨rfl, hbel⟩

end Go.Proofs.YtnicbkkkecfdpaaGreatDoor

/-
  The contracts of the program's codeOf, Code.
-/
namespace Go.Proofs.YtnicbkkkecfdpaaGreatDoor
open Go.ChangeShapes Go.WideShapes Go.ChangeAt Go.RowKit Go.Deep
open Terms Tm

set_option maxRecDepth 20000 in
set_option maxHeartbeats 1600000 in
theorem codeOf_any (va vv : Value) (l : List Vr) (vals : List Int) (w : World) (hok : VarsOk l) (hlen : vals.length = l.length) (hin : ∀ i, i < l.length → inB l vals i) (hV : VarsV w va l) (hI : IntsV w vv vals) :
    Calls Tryz.prog 38 #[va, vv] w fun e w' => e = .returned (.int .i64 (codeTo l vals l.length)) ∧ Below w.heap.size w w' := by
  obtain ⟨ao, cap, rfl⟩ := hV.shape
  obtain ⟨io, icap, rfl⟩ := hI.shape
  have HV : Hid (VarsV w (.slice ao l.length cap) l) := hV
  have HI : Hid (IntsV w (.slice io vals.length icap) vals) := hI
  have HOK : Hid (VarsOk l) := hok
  have HIN : Hid (∀ i, i < l.length → inB l vals i) := hin
  have HLen : Hid (vals.length = l.length) := hlen
  have h6 := hok.1
  obtain ⟨n, hn⟩ : ∃ n, n = l.length := ⟨_, rfl⟩
  have HN : Hid (n = l.length) := hn
  rw [hlen, ← hn] at HI
  rw [hlen, ← hn]
  rw [← hn] at h6 HV
  clear hV hI hn hok hin hlen
  go_enter Tryz.func38, Tryz.ntmps38
  go_wp2
  go_loopw [5, 10] (fun st i wr => ∃ k : Nat, k ≤ n ∧ i = .int .i64 k ∧ st = .int .i64 (codeTo l vals k) ∧ Below w.heap.size w wr) (fun _ i _ => n - (intOf i).toNat)
  case atStart => exact ⟨0, Nat.zero_le _, rfl, rfl, Below.refl _ _⟩
  case round =>
    obtain ⟨k, hk, rfl, rfl, hbel⟩ := hrel
    by_cases hlt : k < n
    · obtain ⟨b, off, rfl, hblt, hat⟩ := HV.out.at (i := k) (by rw [← HN.out]; exact hlt)
      obtain ⟨ib, ioff, rfl, hilt, hic⟩ := HI.out.at (i := k) (by rw [HLen.out, ← HN.out]; exact hlt)
      obtain ⟨c0, c1, c2, c3⟩ := hat.below hbel hblt
      have hic2 := (hbel.cell (p := ⟨ib, ioff + k, none⟩) hilt).trans hic
      have hcb := code_bounds HOK.out (k := k) (by rw [← HN.out]; exact hk) (fun i hi => HIN.out i (by rw [← HN.out]; omega))
      have hpb := HOK.out.prod (j := k) (by rw [← HN.out]; exact hk)
      have hvb := HOK.out.at (j := k) (by rw [← HN.out]; exact hlt)
      have hxb := HIN.out k (by rw [← HN.out]; exact hlt)
      have HPr : Hid (codeTo l vals (k + 1) = codeTo l vals k * vspan (l.getD k vr0) + (vals.getD k 0 - (l.getD k vr0).lo)) := rfl
      unfold inB at hxb
      generalize codeTo l vals k = st at *
      generalize prodTo l k = pr at *
      generalize l.getD k vr0 = x at *
      generalize vals.getD k 0 = y at *
      obtain ⟨s, lo, hi, ini⟩ := x
      simp only [vspan] at c0 c1 c2 c3 HPr hvb hxb
      obtain ⟨hv1, hv2, hv3, hv4, hv5, hv6, hv7⟩ := hvb
      have hsp := fun w => span_any s lo hi ini w hv3 hv4 hv5
      obtain ⟨sp, hspe⟩ : ∃ sp, hi - lo + 1 = sp := ⟨_, rfl⟩
      rw [hspe] at hv1 hv2 hsp HPr
      clear hspe hat hic
      have hm1 : 0 ≤ st * sp := Int.mul_nonneg hcb.1 (by omega)
      have hm2 : st * sp ≤ 262144 := by
        have h1 : st ≤ 4096 := by omega
        have := Int.mul_le_mul h1 hv2 (by omega) (by omega); simpa using this
      have hw1 : IntKind.i64.wrap (st * sp) = st * sp := wr64 (by omega) (by omega)
      have hw2 : IntKind.i64.wrap (st * sp + y) = st * sp + y := wr64 (by omega) (by omega)
      have hw3 : IntKind.i64.wrap (st * sp + y - lo) = st * sp + y - lo := wr64 (by omega) (by omega)
      have hszw := hbel.size
      have hbA := hbel.alloc hszw (.cells #[.string s, .int .i64 lo, .int .i64 hi, .int .i64 ini] 76)
      have hic3 := (((Below.refl wr.heap.size wr).alloc (Nat.le_refl _) (.cells #[.string s, .int .i64 lo, .int .i64 hi, .int .i64 ini] 76)).cell (p := ⟨ib, ioff + k, none⟩) (by simp only; omega)).trans hic2
      have hi0 : (0 : Int) ≤ (k : Int) := Int.natCast_nonneg _
      have hi1 : (k : Int) < (n : Int) := by omega
      have hS0 : ∀ w', Below (wr.heap.size + 1) (wr.alloc (.cells #[.string s, .int .i64 lo, .int .i64 hi, .int .i64 ini] 76)) w' → w'.cell? ⟨wr.heap.size, 0, none⟩ = some (.string s) ∧ w'.cell? ⟨wr.heap.size, 1, none⟩ = some (.int .i64 lo) ∧ w'.cell? ⟨wr.heap.size, 2, none⟩ = some (.int .i64 hi) ∧ w'.cell? ⟨wr.heap.size, 3, none⟩ = some (.int .i64 ini) ∧ w'.cell? ⟨ib, ioff + k, none⟩ = some (.int .i64 y) := fun w' hw' =>
        ⟨(hw'.cell (p := ⟨wr.heap.size, 0, none⟩) (by simp)).trans (by simp [go_sem]), (hw'.cell (p := ⟨wr.heap.size, 1, none⟩) (by simp)).trans (by simp [go_sem]), (hw'.cell (p := ⟨wr.heap.size, 2, none⟩) (by simp)).trans (by simp [go_sem]), (hw'.cell (p := ⟨wr.heap.size, 3, none⟩) (by simp)).trans (by simp [go_sem]), (hw'.cell (p := ⟨ib, ioff + k, none⟩) (by simp only; omega)).trans hic3⟩
      have hB0 : Below (wr.heap.size + 1) (wr.alloc (.cells #[.string s, .int .i64 lo, .int .i64 hi, .int .i64 ini] 76)) (wr.alloc (.cells #[.string s, .int .i64 lo, .int .i64 hi, .int .i64 ini] 76)) := Below.refl _ _
      clear hic3 hic2
      go_wp2_with fail
      go_region_held3 (fun w' => w'.cell? ⟨wr.heap.size, 0, none⟩ = some (.string s) ∧ w'.cell? ⟨wr.heap.size, 1, none⟩ = some (.int .i64 lo) ∧ w'.cell? ⟨wr.heap.size, 2, none⟩ = some (.int .i64 hi) ∧ w'.cell? ⟨wr.heap.size, 3, none⟩ = some (.int .i64 ini) ∧ w'.cell? ⟨ib, ioff + k, none⟩ = some (.int .i64 y))
        (exact hS0 _ (by first | exact hB0 | exact hB0.drew | exact hB0.drew.trans (hb2.mono (by simp))))
        (first | (go_at_call 63; refine (hsp _).mono ?_; rintro e w2 ⟨rfl, hb2⟩))
      go_wp2_with fail
      go_roundw
      case rel => exact ⟨k + 1, hlt, by go_num, by rw [HPr.out]; first | (congr 1; omega) | (simp [hw1, hw2, hw3]; omega), hbA.drew.trans (hb2.mono (by simp; omega))⟩
      case measure => simp [intOf]; omega
    · have hkn : k = n := by omega
      subst hkn
      go_wp2
      go_ret
      exact ⟨rfl, hbel⟩
set_option maxRecDepth 20000 in
theorem mcode_bad (va vr vv : Value) (m : Mo) (w : World) (hB : 0 < w.heap.size) (hT : TabAt w) (hV : ModelV w va vr m) (io : Option Addr) (il ic : Nat) (hv : vv = .slice io il ic) (h : mcode m ≠ 0) :
    Calls Tryz.prog 123 #[.agg #[va, vr], vv] w fun e w' => e = .returned (.tuple #[.int .i64 0, .int .i64 (mcode m)]) ∧ Below w.heap.size w w' := by
  subst hv
  have hA : ∀ o, Below w.heap.size w (w.alloc o) := fun o => (Below.refl _ _).alloc (Nat.le_refl _) o
  have hch := fun o => mcheck_any va vr m (w.alloc o) (Nat.lt_of_lt_of_le hB (hA o).size) (hT.below (hA o) hB) (hV.below (hA o))
  obtain ⟨ao, cap, rfl⟩ := hV.1.shape
  obtain ⟨ro, rc, rfl⟩ := hV.2.shape
  generalize mcode m = x at *
  generalize m.vars.length = n at *
  generalize m.rules.length = rn at *
  clear hV hT
  go_enter Tryz.func123, Tryz.ntmps123
  go_wp2_with (go_at_call 35; refine (hch _).mono ?_; rintro e w1 ⟨rfl, hb1⟩)
  go_ret2
  exact ⟨rfl, (hA _).trans (hb1.mono (hA _).size)⟩
set_option maxRecDepth 20000 in
theorem mcode_len (va vr vv : Value) (m : Mo) (w : World) (hB : 0 < w.heap.size) (hT : TabAt w) (hV : ModelV w va vr m) (io : Option Addr) (il ic : Nat) (hv : vv = .slice io il ic) (h : mcode m = 0) (hl : il ≠ m.vars.length) :
    Calls Tryz.prog 123 #[.agg #[va, vr], vv] w fun e w' => e = .returned (.tuple #[.int .i64 0, .int .i64 9]) ∧ Below w.heap.size w w' := by
  subst hv
  have hA : ∀ o, Below w.heap.size w (w.alloc o) := fun o => (Below.refl _ _).alloc (Nat.le_refl _) o
  have hch := fun o => mcheck_any va vr m (w.alloc o) (Nat.lt_of_lt_of_le hB (hA o).size) (hT.below (hA o) hB) (hV.below (hA o))
  rw [h] at hch
  obtain ⟨ao, cap, rfl⟩ := hV.1.shape
  obtain ⟨ro, rc, rfl⟩ := hV.2.shape
  generalize m.vars.length = n at *
  generalize m.rules.length = rn at *
  have hne : ((il : Int) == (n : Int)) = false := by rw [beq_eq_false_iff_ne]; omega
  clear hV hT h
  go_enter Tryz.func123, Tryz.ntmps123
  go_wp2_with (go_at_call 35; refine (hch _).mono ?_; rintro e w1 ⟨rfl, hb1⟩; have hcb : w1.cell? ⟨w.heap.size, 0, none⟩ = some (.slice ao n cap) := (hb1.cell (p := ⟨w.heap.size, 0, none⟩) (by simp)).trans (by simp [go_sem]))
  all_goals first | (exfalso; omega) | go_ret2
  all_goals exact ⟨rfl, (hA _).trans (hb1.mono (hA _).size)⟩

set_option maxRecDepth 20000 in
set_option maxHeartbeats 1600000 in
theorem mcode_loop (va vr vv : Value) (m : Mo) (vals : List Int) (w : World) (hB : 0 < w.heap.size) (hT : TabAt w) (hV : ModelV w va vr m) (hI : IntsV w vv vals) (h : mcode m = 0) (hlen : vals.length = m.vars.length) :
    Calls Tryz.prog 123 #[.agg #[va, vr], vv] w fun e w' => e = .returned (.tuple #[.int .i64 (cval m vals), .int .i64 (ccode m vals)]) ∧ Below w.heap.size w w' := by
  have hA : ∀ o, Below w.heap.size w (w.alloc o) := fun o => (Below.refl _ _).alloc (Nat.le_refl _) o
  have hch := fun o => mcheck_any va vr m (w.alloc o) (Nat.lt_of_lt_of_le hB (hA o).size) (hT.below (hA o) hB) (hV.below (hA o))
  rw [h] at hch
  have hok := mcode_vars h
  have h6 := hok.1
  have hcf := (fun w1 (hb : Below w.heap.size w w1) (hin : ∀ i, i < m.vars.length → inB m.vars vals i) => codeOf_any va vv m.vars vals w1 hok hlen hin (hV.1.below hb) (hI.below hb))
  obtain ⟨ao, cap, rfl⟩ := hV.1.shape
  obtain ⟨ro, rc, rfl⟩ := hV.2.shape
  obtain ⟨io, icap, rfl⟩ := hI.shape
  have HCF := (show Hid _ from hcf)
  have HV : Hid (VarsV w (.slice ao m.vars.length cap) m.vars) := hV.1
  have HI : Hid (IntsV w (.slice io vals.length icap) vals) := hI
  have HYes : Hid ((∀ i, i < m.vars.length → inB m.vars vals i) → ccode m vals = 0 ∧ cval m vals = codeTo m.vars vals m.vars.length) := fun hin => by
    have h1 := ccode_yes h ⟨hlen, hin⟩
    exact ⟨h1, by unfold cval; rw [if_pos h1]⟩
  have HNo : Hid (∀ k, k < m.vars.length → ¬ inB m.vars vals k → ccode m vals = 9 ∧ cval m vals = 0) := fun k hk hin => by
    have h1 := ccode_no h (vals := vals) (fun h => hin (h.2 k hk))
    exact ⟨h1, by unfold cval; rw [h1, if_neg (by decide)]⟩
  have HLen : Hid (vals.length = m.vars.length) := hlen
  obtain ⟨n, hn⟩ : ∃ n, n = m.vars.length := ⟨_, rfl⟩
  have HN : Hid (n = m.vars.length) := hn
  rw [hlen] at HCF HI ⊢
  rw [← hn] at h6 hch HCF HV HI HYes HNo ⊢
  generalize m.rules.length = rn at *
  generalize ccode m vals = cc at *
  generalize cval m vals = cv at *
  clear hV hI hT hcf hlen hn hok h
  go_enter Tryz.func123, Tryz.ntmps123
  go_wp2_with (go_at_call 35; refine (hch _).mono ?_; rintro e w1 ⟨rfl, hb1⟩; have hcb : w1.cell? ⟨w.heap.size, 0, none⟩ = some (.slice ao n cap) := (hb1.cell (p := ⟨w.heap.size, 0, none⟩) (by simp)).trans (by simp [go_sem]))
  have hb1' : Below (w.heap.size + 1) (w.alloc (.cells #[.slice ao n cap, .slice ro rn rc] 25)) w1 := hb1.mono (by simp)
  clear hch hcb hb1
  go_loopw [23] (fun i wr => ∃ k : Nat, k ≤ n ∧ i = .int .i64 k ∧ Hid (∀ i, i < k → inB m.vars vals i) ∧ Below (w.heap.size + 1) (w.alloc (.cells #[.slice ao n cap, .slice ro rn rc] 25)) wr) (fun i _ => n - (intOf i).toNat)
  case atStart => exact ⟨0, Nat.zero_le _, rfl, fun j hj => by omega, hb1'⟩
  case round =>
    obtain ⟨k, hk, rfl, HJ, hbelB⟩ := hrel
    clear hb1'
    have hbel := (hA _).trans (hbelB.mono (Nat.le_succ _))
    have hszb : w.heap.size + 1 ≤ wr.heap.size := by have := hbelB.size; simp at this; omega
    have cb := (hbelB.cell (p := ⟨w.heap.size, 0, none⟩) (by simp)).trans (show _ = some (.slice ao n cap) by simp [go_sem])
    by_cases hlt : k < n
    · obtain ⟨b, off, rfl, hblt, hat⟩ := HV.out.at (i := k) (by rw [← HN.out]; exact hlt)
      obtain ⟨ib, ioff, rfl, hilt, hic⟩ := HI.out.at (i := k) (by rw [HLen.out, ← HN.out]; exact hlt)
      obtain ⟨c0, c1, c2, c3⟩ := hat.below hbel hblt
      have hic2 := (hbel.cell (p := ⟨ib, ioff + k, none⟩) hilt).trans hic
      have HNk := (show Hid _ from HNo.out k hlt)
      have HJ2 : Hid (inB m.vars vals k → ∀ i, i < k + 1 → inB m.vars vals i) := fun h i hi => by
        by_cases hik : i = k
        · subst hik; exact h
        · exact HJ.out i (by omega)
      unfold inB at HNk
      have HJ3 : Hid ((m.vars.getD k vr0).lo ≤ vals.getD k 0 ∧ vals.getD k 0 ≤ (m.vars.getD k vr0).hi → ∀ i, i < k + 1 → inB m.vars vals i) := fun h => HJ2.out h
      generalize m.vars.getD k vr0 = x at *
      generalize vals.getD k 0 = y at *
      obtain ⟨s, lo, hi, ini⟩ := x
      simp only at c0 c1 c2 c3 HNk HJ3
      have hwi := fun w => within_any s lo hi ini y w
      clear hat hic HJ2 HJ
      have hbA := hbelB.alloc hszb (.cells #[.string s, .int .i64 lo, .int .i64 hi, .int .i64 ini] 76)
      have hbwA := (hA _).trans (hbA.mono (Nat.le_succ _))
      have hic3 := (((Below.refl wr.heap.size wr).alloc (Nat.le_refl _) (.cells #[.string s, .int .i64 lo, .int .i64 hi, .int .i64 ini] 76)).cell (p := ⟨ib, ioff + k, none⟩) (by simp only; omega)).trans hic2
      have hi0 : (0 : Int) ≤ (k : Int) := Int.natCast_nonneg _
      have hi1 : (k : Int) < (n : Int) := by omega
      have hS0 : ∀ w', Below (wr.heap.size + 1) (wr.alloc (.cells #[.string s, .int .i64 lo, .int .i64 hi, .int .i64 ini] 76)) w' → w'.cell? ⟨wr.heap.size, 0, none⟩ = some (.string s) ∧ w'.cell? ⟨wr.heap.size, 1, none⟩ = some (.int .i64 lo) ∧ w'.cell? ⟨wr.heap.size, 2, none⟩ = some (.int .i64 hi) ∧ w'.cell? ⟨wr.heap.size, 3, none⟩ = some (.int .i64 ini) ∧ w'.cell? ⟨ib, ioff + k, none⟩ = some (.int .i64 y) := fun w' hw' =>
        ⟨(hw'.cell (p := ⟨wr.heap.size, 0, none⟩) (by simp)).trans (by simp [go_sem]), (hw'.cell (p := ⟨wr.heap.size, 1, none⟩) (by simp)).trans (by simp [go_sem]), (hw'.cell (p := ⟨wr.heap.size, 2, none⟩) (by simp)).trans (by simp [go_sem]), (hw'.cell (p := ⟨wr.heap.size, 3, none⟩) (by simp)).trans (by simp [go_sem]), (hw'.cell (p := ⟨ib, ioff + k, none⟩) (by simp only; omega)).trans hic3⟩
      have hB0 : Below (wr.heap.size + 1) (wr.alloc (.cells #[.string s, .int .i64 lo, .int .i64 hi, .int .i64 ini] 76)) (wr.alloc (.cells #[.string s, .int .i64 lo, .int .i64 hi, .int .i64 ini] 76)) := Below.refl _ _
      clear hic3 hic2
      by_cases hin : lo ≤ y ∧ y ≤ hi
      · rw [decide_eq_true hin] at hwi
        have HJ4 := (show Hid _ from HJ3.out hin)
        clear hin HJ3 HNk HNo HYes HCF
        go_wp2_with fail
        go_region_held3 (fun w' => w'.cell? ⟨wr.heap.size, 0, none⟩ = some (.string s) ∧ w'.cell? ⟨wr.heap.size, 1, none⟩ = some (.int .i64 lo) ∧ w'.cell? ⟨wr.heap.size, 2, none⟩ = some (.int .i64 hi) ∧ w'.cell? ⟨wr.heap.size, 3, none⟩ = some (.int .i64 ini) ∧ w'.cell? ⟨ib, ioff + k, none⟩ = some (.int .i64 y))
          (exact hS0 _ (by first | exact hB0 | exact hB0.drew | exact hB0.drew.trans (hb2.mono (by simp))))
          (first | (go_at_call 118; refine (hwi _).mono ?_; rintro e w2 ⟨rfl, hb2⟩))
        go_wp2_with fail
        go_roundw
        case rel => exact ⟨k + 1, hlt, by go_num, HJ4, hbA.drew.trans (hb2.mono (by simp; omega))⟩
        case measure => simp [intOf]; omega
      · rw [decide_eq_false hin] at hwi
        have HR := (show Hid _ from HNk.out hin)
        clear hin HJ3 HNk HNo HYes HCF
        go_wp2_with fail
        go_region_held3 (fun w' => w'.cell? ⟨wr.heap.size, 0, none⟩ = some (.string s) ∧ w'.cell? ⟨wr.heap.size, 1, none⟩ = some (.int .i64 lo) ∧ w'.cell? ⟨wr.heap.size, 2, none⟩ = some (.int .i64 hi) ∧ w'.cell? ⟨wr.heap.size, 3, none⟩ = some (.int .i64 ini) ∧ w'.cell? ⟨ib, ioff + k, none⟩ = some (.int .i64 y))
          (exact hS0 _ (by first | exact hB0 | exact hB0.drew | exact hB0.drew.trans (hb2.mono (by simp))))
          (first | (go_at_call 118; refine (hwi _).mono ?_; rintro e w2 ⟨rfl, hb2⟩))
        go_wp2_with fail
        go_ret2
        rw [HR.out.1, HR.out.2]
        exact ⟨rfl, hbwA.drew.trans (hb2.mono hbwA.size)⟩
    · have hkn : k = n := by omega
      subst hkn
      have HR := (show Hid _ from HYes.out HJ.out)
      have hcf := HCF.out wr hbel HJ.out
      generalize codeTo m.vars vals k = cd at *
      clear HJ HYes HNo HCF
      go_wp2_with (go_at_call 38; refine hcf.mono ?_; rintro e w2 ⟨rfl, hb2⟩)
      go_ret2
      rw [HR.out.1, HR.out.2]
      exact ⟨rfl, hbel.trans (hb2.mono hbel.size)⟩

set_option maxRecDepth 20000 in
/-- THE CONTRACT OF Code. -/
theorem mcodes_any (va vr vv : Value) (m : Mo) (vals : List Int) (w : World) (hB : 0 < w.heap.size) (hT : TabAt w) (hV : ModelV w va vr m) (hI : IntsV w vv vals) :
    Calls Tryz.prog 123 #[.agg #[va, vr], vv] w fun e w' => e = .returned (.tuple #[.int .i64 (cval m vals), .int .i64 (ccode m vals)]) ∧ Below w.heap.size w w' := by
  obtain ⟨io, ic, hv⟩ := hI.shape
  by_cases h : mcode m = 0
  · by_cases hl : vals.length = m.vars.length
    · exact mcode_loop va vr vv m vals w hB hT hV hI h hl
    · have h9 := ccode_no h (vals := vals) (fun h => hl h.1)
      unfold cval
      rw [h9, if_neg (by decide)]
      exact mcode_len va vr vv m w hB hT hV io _ ic hv h hl
  · have h9 := ccode_bad (vals := vals) h
    unfold cval
    rw [h9, if_neg h]
    exact mcode_bad va vr vv m w hB hT hV io _ ic hv h
end Go.Proofs.YtnicbkkkecfdpaaGreatDoor

/-
  The contract of the program's First.
-/
namespace Go.Proofs.YtnicbkkkecfdpaaGreatDoor
open Go.ChangeShapes Go.WideShapes Go.ChangeAt Go.RowKit Go.Deep
open Terms Tm

set_option maxRecDepth 20000 in
theorem initsL_length (l : List Vr) : (initsL l).length = l.length := by simp [initsL]
set_option maxRecDepth 20000 in
theorem initsL_get {l : List Vr} {i : Nat} (h : i < l.length) : (initsL l).getD i 0 = (l.getD i vr0).ini := by
  simp [initsL, List.getD_eq_getElem?_getD, h]

set_option maxRecDepth 20000 in
set_option maxHeartbeats 1600000 in
theorem mfirst_loop (va vr : Value) (m : Mo) (w : World) (hB : 0 < w.heap.size) (hT : TabAt w) (hV : ModelV w va vr m) (h : mcode m = 0) :
    Calls Tryz.prog 21 #[.agg #[va, vr]] w fun e w' => e = .returned (.tuple #[.int .i64 (codeTo m.vars (initsL m.vars) m.vars.length), .int .i64 0]) ∧ Below w.heap.size w w' := by
  have hA : ∀ o, Below w.heap.size w (w.alloc o) := fun o => (Below.refl _ _).alloc (Nat.le_refl _) o
  have hch := fun o => mcheck_any va vr m (w.alloc o) (Nat.lt_of_lt_of_le hB (hA o).size) (hT.below (hA o) hB) (hV.below (hA o))
  rw [h] at hch
  have hok := mcode_vars h
  have h6 := hok.1
  have hcf := (fun vv w1 (hb : Below w.heap.size w w1) (hI : IntsV w1 vv (initsL m.vars)) => codeOf_any va vv m.vars (initsL m.vars) w1 hok (initsL_length _) (inits_in hok) (hV.1.below hb) hI)
  obtain ⟨ao, cap, rfl⟩ := hV.1.shape
  obtain ⟨ro, rc, rfl⟩ := hV.2.shape
  have HCF := (show Hid _ from hcf)
  have HV : Hid (VarsV w (.slice ao m.vars.length cap) m.vars) := hV.1
  have HIn : Hid (∀ i, i < m.vars.length → (initsL m.vars).getD i 0 = (m.vars.getD i vr0).ini) := fun i hi => initsL_get hi
  have HLn : Hid ((initsL m.vars).length = m.vars.length) := initsL_length _
  generalize codeTo m.vars (initsL m.vars) m.vars.length = res at *
  obtain ⟨n, hn⟩ : ∃ n, n = m.vars.length := ⟨_, rfl⟩
  have HN : Hid (n = m.vars.length) := hn
  rw [← hn] at h6 hch HCF HV HIn HLn ⊢
  generalize m.rules.length = rn at *
  have hmk := run_make_row' (P := Tryz.prog) 30 3 (.int .i64 0) 8 Tryz.underlying30 infoInt rfl .i64 .i64 n (by omega) (by omega)
  clear hV hT hn hok h hcf
  go_enter Tryz.func21, Tryz.ntmps21
  go_wp2_with (go_at_call 35; refine (hch _).mono ?_; rintro e w1 ⟨rfl, hb1⟩; have hcb : w1.cell? ⟨w.heap.size, 0, none⟩ = some (.slice ao n cap) := (hb1.cell (p := ⟨w.heap.size, 0, none⟩) (by simp)).trans (by simp [go_sem]); have hs1 : w.heap.size < w1.heap.size := (by have := hb1.size; simp at this; omega); have hcbA : ∀ o, (w1.alloc o).cell? ⟨w.heap.size, 0, none⟩ = some (.slice ao n cap) := (fun o => (((Below.refl w1.heap.size w1).alloc (Nat.le_refl _) o).cell (p := ⟨w.heap.size, 0, none⟩) hs1).trans hcb))
  have hbw := (hA _).trans (hb1.mono (hA _).size)
  have hrow0 := World.rowIs_made w1 (.int .i64 0) n 3
  have HB1 : Hid (Below w.heap.size w w1) := hbw
  clear hch hmk hb1 hbw hcbA
  go_loopw [20] (fun i wr => ∃ k : Nat, k ≤ n ∧ i = .int .i64 k ∧ Hid (wr.rowIs w1.heap.size 3 n (fun j => if j < k then .int .i64 ((initsL m.vars).getD j 0) else .int .i64 0)) ∧ Hid (Below w1.heap.size w1 wr)) (fun i _ => n - (intOf i).toNat)
  case atStart => exact ⟨0, Nat.zero_le _, rfl, hrow0.congr (fun i hi => by rw [if_neg (by omega)]), (Below.refl _ _).alloc (Nat.le_refl _) _⟩
  case round =>
    obtain ⟨k, hk, rfl, HRow, HBel⟩ := hrel
    have hbel := HBel.out
    have hrow := HRow.out
    have hbw := HB1.out.trans (hbel.mono HB1.out.size)
    have hszr := hrow.lt
    have cb := (hbel.cell (p := ⟨w.heap.size, 0, none⟩) hs1).trans hcb
    by_cases hlt : k < n
    · obtain ⟨b, off, rfl, hblt, hat⟩ := HV.out.at (i := k) (by rw [← HN.out]; exact hlt)
      obtain ⟨c0, c1, c2, c3⟩ := hat.below hbw hblt
      have HIk := (show Hid _ from HIn.out k hlt)
      have hA2 := fun o => hrow.alloc o
      have hf : ∀ o, (wr.alloc o).frozen? ⟨w1.heap.size, k, none⟩ = false := fun o => (hA2 o).frozen k
      have hcl : ∀ o, (wr.alloc o).cell? ⟨w1.heap.size, k, none⟩ = some (.int .i64 0) := fun o => by rw [(hA2 o).cell hlt, if_neg (by omega)]
      generalize m.vars.getD k vr0 = x at *
      obtain ⟨s, lo, hi, ini⟩ := x
      simp only at c0 c1 c2 c3 HIk
      have hfin : (((wr.setCell ⟨w1.heap.size, k, none⟩ (.int .i64 ini)).alloc (.cells #[.string s, .int .i64 lo, .int .i64 hi, .int .i64 ini] 76)).rowIs w1.heap.size 3 n (fun j => if j < k + 1 then .int .i64 ((initsL m.vars).getD j 0) else .int .i64 0)) := ((hrow.set k (.int .i64 ini)).alloc _).congr fun j hj => by
        by_cases hjk : j = k
        · subst hjk; rw [if_pos rfl, if_pos (by omega), HIk.out]
        · rw [if_neg hjk]
          by_cases hlk : j < k
          · rw [if_pos hlk, if_pos (by omega)]
          · rw [if_neg hlk, if_neg (by omega)]
      have hbA := (hbel.setCell (p := ⟨w1.heap.size, k, none⟩) (Nat.le_refl _) (.int .i64 ini)).alloc (by simp; omega) (.cells #[.string s, .int .i64 lo, .int .i64 hi, .int .i64 ini] 76)
      have HF := (show Hid _ from hfin)
      have HBA := (show Hid _ from hbA)
      have hfs := hf (.cells #[.string s, .int .i64 lo, .int .i64 hi, .int .i64 ini] 76)
      have hcs := hcl (.cells #[.string s, .int .i64 lo, .int .i64 hi, .int .i64 ini] 76)
      clear hat hA2 hf hcl hfin hbA hrow hbel hrow0
      go_wp2_with fail
      go_roundw
      case rel => exact ⟨k + 1, hlt, by go_num, HF.out, HBA.out⟩
      case measure => simp [intOf]; omega
    · have hkn : k = n := by omega
      subst hkn
      have hI : IntsV wr (.slice (some ⟨w1.heap.size, 0, none⟩) k k) (initsL m.vars) := by
        have := intsV_of_row (hrow.congr (g := fun j => .int .i64 ((initsL m.vars).getD j 0)) (fun i hi => by rw [if_pos hi]))
        have e : (List.range k).map (fun j => (initsL m.vars).getD j 0) = initsL m.vars := by
          apply List.ext_getElem?
          intro i
          by_cases hi : i < k
          · simp [hi, List.getD_eq_getElem?_getD, show i < (initsL m.vars).length by rw [HLn.out]; exact hi]
          · simp [hi, show ¬ i < (initsL m.vars).length by rw [HLn.out]; exact hi]
        rwa [e] at this
      have hcf := HCF.out _ wr hbw hI
      clear hI hrow HCF HRow hrow0
      go_wp2_with (go_at_call 38; refine hcf.mono ?_; rintro e w2 ⟨rfl, hb2⟩)
      go_ret2
      exact ⟨rfl, hbw.trans (hb2.mono hbw.size)⟩

set_option maxRecDepth 20000 in
theorem mfirst_bad (va vr : Value) (m : Mo) (w : World) (hB : 0 < w.heap.size) (hT : TabAt w) (hV : ModelV w va vr m) (h : mcode m ≠ 0) :
    Calls Tryz.prog 21 #[.agg #[va, vr]] w fun e w' => e = .returned (.tuple #[.int .i64 0, .int .i64 (mcode m)]) ∧ Below w.heap.size w w' := by
  have hA : ∀ o, Below w.heap.size w (w.alloc o) := fun o => (Below.refl _ _).alloc (Nat.le_refl _) o
  have hch := fun o => mcheck_any va vr m (w.alloc o) (Nat.lt_of_lt_of_le hB (hA o).size) (hT.below (hA o) hB) (hV.below (hA o))
  obtain ⟨ao, cap, rfl⟩ := hV.1.shape
  obtain ⟨ro, rc, rfl⟩ := hV.2.shape
  generalize mcode m = x at *
  generalize m.vars.length = n at *
  generalize m.rules.length = rn at *
  clear hV hT
  go_enter Tryz.func21, Tryz.ntmps21
  go_wp2_with (go_at_call 35; refine (hch _).mono ?_; rintro e w1 ⟨rfl, hb1⟩)
  go_ret2
  exact ⟨rfl, (hA _).trans (hb1.mono (hA _).size)⟩
set_option maxRecDepth 20000 in
/-- THE CONTRACT OF First. -/
theorem mfirst_any (va vr : Value) (m : Mo) (w : World) (hB : 0 < w.heap.size) (hT : TabAt w) (hV : ModelV w va vr m) :
    Calls Tryz.prog 21 #[.agg #[va, vr]] w fun e w' => e = .returned (.tuple #[.int .i64 (if mcode m = 0 then codeTo m.vars (initsL m.vars) m.vars.length else 0), .int .i64 (mcode m)]) ∧ Below w.heap.size w w' := by
  by_cases h : mcode m = 0
  · rw [if_pos h, h]
    exact mfirst_loop va vr m w hB hT hV h
  · rw [if_neg h]
    exact mfirst_bad va vr m w hB hT hV h
end Go.Proofs.YtnicbkkkecfdpaaGreatDoor

/-
  Plain mathematics of a run that is handed in.
-/
namespace Go.Proofs.YtnicbkkkecfdpaaGreatDoor
open Terms Tm

/-- each of the first so many codes leads to the one behind it. -/
def LeadsTo (m : Mo) (all : List Int) (k : Nat) : Prop := ∀ i, i < k → all.getD (i + 1) 0 ∈ nxtL m (all.getD i 0)
set_option maxRecDepth 20000 in
theorem LeadsTo.zero (m : Mo) (all : List Int) : LeadsTo m all 0 := fun i h => by omega
set_option maxRecDepth 20000 in
theorem LeadsTo.succ {m : Mo} {all : List Int} {k : Nat} (h : LeadsTo m all k) (h2 : all.getD (k + 1) 0 ∈ nxtL m (all.getD k 0)) : LeadsTo m all (k + 1) := fun i hi => by
  by_cases e : i = k
  · rw [e]; exact h2
  · exact h i (by omega)
set_option maxRecDepth 20000 in
theorem nxtL_yes {m : Mo} (hm : mcode m = 0) {x : Int} (hx : 0 ≤ x ∧ x < prodTo m.vars m.vars.length) : nxtL m x = nextL m x := by unfold nxtL; rw [if_pos (wcode_yes hm hx)]
set_option maxRecDepth 20000 in
theorem nxtL_no {m : Mo} (hm : mcode m = 0) {x : Int} (hx : ¬ (0 ≤ x ∧ x < prodTo m.vars m.vars.length)) : nxtL m x = [] := by unfold nxtL; rw [if_neg (by rw [wcode_no hm hx]; decide)]
set_option maxRecDepth 20000 in
theorem nextL_range {m : Mo} (hm : mcode m = 0) {x : Int} (hx : 0 ≤ x ∧ x < prodTo m.vars m.vars.length) {y : Int} (hy : y ∈ nextL m x) : 0 ≤ y ∧ y < prodTo m.vars m.vars.length := by
  have hv := mcode_vars hm
  have h2 := ((upL_spec _).2 y).1 hy
  unfold rawL at h2
  split at h2
  · simp at h2; rw [h2]; exact hx
  · obtain ⟨j, _, e⟩ := (rawTo_mem (Nat.le_refl _) y).1 h2
    exact ruleDo_state hv e
set_option maxRecDepth 20000 in
theorem LeadsTo.range {m : Mo} (hm : mcode m = 0) {all : List Int} (h0 : 0 ≤ all.getD 0 0 ∧ all.getD 0 0 < prodTo m.vars m.vars.length) : ∀ {k : Nat}, LeadsTo m all k → 0 ≤ all.getD k 0 ∧ all.getD k 0 < prodTo m.vars m.vars.length
  | 0, _ => h0
  | k + 1, h => by
    have h1 := LeadsTo.range hm h0 (k := k) (fun i hi => h i (by omega))
    have h2 := h k (by omega)
    rw [nxtL_yes hm h1] at h2
    exact nextL_range hm h1 h2
/-- where a model begins. -/
noncomputable def firstC (m : Mo) : Int := codeTo m.vars (initsL m.vars) m.vars.length
set_option maxRecDepth 20000 in
theorem firstC_range {m : Mo} (hm : mcode m = 0) : 0 ≤ firstC m ∧ firstC m < prodTo m.vars m.vars.length := code_bounds (mcode_vars hm) (Nat.le_refl _) (inits_in (mcode_vars hm))
/-- the states of a run, and the first one of its loop again. -/
def rvd (ss ll : List Int) : List Int := ss ++ ll ++ [ll.getD 0 0]
set_option maxRecDepth 20000 in
theorem rvd_len (ss ll : List Int) : (rvd ss ll).length = ss.length + ll.length + 1 := by simp [rvd]; omega
set_option maxRecDepth 20000 in
theorem rvd_flat (ss ll : List Int) : [ss, ll, [ll.getD 0 0]].flatten = rvd ss ll := by simp [rvd]
set_option maxRecDepth 20000 in
theorem rvd_zero {ss ll : List Int} (h : ll ≠ []) : (rvd ss ll).getD 0 0 = (ss ++ ll).getD 0 0 := by
  unfold rvd
  have : 0 < (ss ++ ll).length := by rw [List.length_append]; have := List.length_pos_iff.2 h; omega
  simp only [List.getD_eq_getElem?_getD]
  rw [List.getElem?_append_left this]
open Classical in
/-- IS IT A RUN? -/
noncomputable def runB (m : Mo) (ss ll : List Int) : Bool := decide (mcode m = 0 ∧ ll ≠ [] ∧ (rvd ss ll).getD 0 0 = firstC m ∧ LeadsTo m (rvd ss ll) ((rvd ss ll).length - 1))
set_option maxRecDepth 20000 in
open Classical in
theorem runB_bad {m : Mo} (h : mcode m ≠ 0) (ss ll : List Int) : runB m ss ll = false := decide_eq_false fun h2 => h h2.1
set_option maxRecDepth 20000 in
open Classical in
theorem runB_none (m : Mo) (ss : List Int) : runB m ss [] = false := decide_eq_false fun h2 => h2.2.1 rfl
set_option maxRecDepth 20000 in
open Classical in
theorem runB_first {m : Mo} {ss ll : List Int} (h : (rvd ss ll).getD 0 0 ≠ firstC m) : runB m ss ll = false := decide_eq_false fun h2 => h h2.2.2.1
set_option maxRecDepth 20000 in
open Classical in
theorem runB_lead {m : Mo} {ss ll : List Int} (h : mcode m = 0) (h1 : ll ≠ []) (h2 : (rvd ss ll).getD 0 0 = firstC m) : runB m ss ll = decide (LeadsTo m (rvd ss ll) ((rvd ss ll).length - 1)) := by
  unfold runB
  by_cases h3 : LeadsTo m (rvd ss ll) ((rvd ss ll).length - 1)
  · rw [decide_eq_true h3]; exact decide_eq_true ⟨h, h1, h2, h3⟩
  · rw [decide_eq_false h3]; exact decide_eq_false fun h4 => h3 h4.2.2.2
end Go.Proofs.YtnicbkkkecfdpaaGreatDoor
