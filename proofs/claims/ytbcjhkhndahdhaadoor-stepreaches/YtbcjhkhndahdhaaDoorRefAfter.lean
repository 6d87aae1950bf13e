/-
  The contract of the document's own AfterRule.
-/
import Derived.Test.YtbcjhkhndahdhaaDoorStepAfter
import Derived.Test.YtbcjhkhndahdhaaDoorRefEval
import Derived.Test.YtbcjhkhndahdhaaDoorRefCode
import Derived.Test.YtbcjhkhndahdhaaDoorRefValues
namespace Go.Proofs.YtbcjhkhndahdhaaDoor
open Go.ChangeShapes Go.WideShapes Go.ChangeAt Go.RowKit Go.Deep
open Terms Tm

/-- THE CONTRACT OF Evaluated, in the step's words. -/
theorem rex_any (v ev : Value) (l : List (Int × Int)) (env : List Int) (w : World) (hV : OpsV w v l) (hE : IntsV w ev env) :
    Calls Tryd.prog 50 #[v, ev] w fun e w' => e = .returned (.tuple #[.int .i64 (exN l env), .int .i64 (exC l env)]) ∧ Below w.heap.size w w' :=
  evaluated_any v ev l env (treeOf l) w hV hE (treeOf_spec l)
theorem behindL_eq {env : List Int} {r : Ru} (h : ∀ j, j < r.sets.length → 0 ≤ (r.sets.getD j st0).var ∧ (r.sets.getD j st0).var < env.length) : (List.range env.length).map (fun i => setAt env r.sets i r.sets.length) = behindL env r := by
  apply List.ext_getElem?
  intro i
  by_cases hi : i < env.length
  · have h1 := setTo_at (k := r.sets.length) h i
    rw [List.getElem?_map, List.getElem?_range hi]
    have h2 : i < (behindL env r).length := by unfold behindL; rw [setTo_length]; exact hi
    rw [List.getElem?_eq_getElem h2]
    show some (setAt env r.sets i r.sets.length) = _
    rw [← h1]
    unfold behindL at h2 ⊢
    simp [List.getD_eq_getElem?_getD, h2]
  · simp [hi, behindL, setTo_length]

set_option maxHeartbeats 3200000 in
set_option maxRecDepth 20000 in
/-- one rule that is there, at a state. -/
theorem rafter_in (va vr : Value) (m : Mo) (code : Int) (k : Nat) (w : World) (hV : ModelV w va vr m) (hw : wcode m code = 0) (hk : k < m.rules.length) :
    Calls Tryd.prog 27 #[.agg #[va, vr], .int .i64 code, .int .i64 k] w fun e w' => e = .returned (.tuple #[.int .i64 (optN (ruleDo m.vars (valsL m.vars code) (m.rules.getD k ru0))), .int .i64 (optC (ruleDo m.vars (valsL m.vars code) (m.rules.getD k ru0)))]) ∧ Below w.heap.size w w' := by
  have hA : ∀ o, Below w.heap.size w (w.alloc o) := fun o => (Below.refl _ _).alloc (Nat.le_refl _) o
  obtain ⟨hm, _⟩ := wcode_zero hw
  obtain ⟨hr12, hrs⟩ := mcode_rules hm
  have hrk := hrs k hk
  obtain ⟨h6, hsv⟩ := rule_sets hrk
  have hv6 := (mcode_vars hm).1
  have he := valsL_length m.vars code
  have hvl := fun o => rvalues_any va vr m code (w.alloc o) (hV.below (hA o))
  rw [hw, show wvals m code = valsL m.vars code by unfold wvals; rw [if_pos hw]] at hvl
  have HCo : Hid (∀ w' (_ : Below w.heap.size w w') vv vals, IntsV w' vv vals → Calls Tryd.prog 23 #[.agg #[va, vr], vv] w' fun e w2 => e = .returned (.tuple #[.int .i64 (cval m vals), .int .i64 (ccode m vals)]) ∧ Below w'.heap.size w' w2) := fun w' hb vv vals hi => rcodes_any va vr vv m vals w' (hV.below hb) hi
  have HR : Hid (RulesV w vr m.rules) := hV.2
  obtain ⟨ao, cap, rfl⟩ := hV.1.shape
  obtain ⟨ro, rc, rfl⟩ := hV.2.shape
  obtain ⟨b, off, rfl, hblt, hat⟩ := HR.out.at (i := k) hk
  have hin := fun w => in_any k 0 (m.rules.length - 1) w
  rw [decide_eq_true (show (0 : Int) ≤ k ∧ (k : Int) ≤ (m.rules.length : Int) - 1 by omega)] at hin
  have HG : Hid (holdsB (m.rules.getD k ru0).guard (valsL m.vars code) = false → ruleDo m.vars (valsL m.vars code) (m.rules.getD k ru0) = none) := fun h => ruleDo_guard h
  have HGd : Hid (holdsB (m.rules.getD k ru0).guard (valsL m.vars code) = (decide (exC (m.rules.getD k ru0).guard (valsL m.vars code) = 0) && decide (exN (m.rules.getD k ru0).guard (valsL m.vars code) = 1))) := rfl
  have HRS : Hid (∀ j, j < (m.rules.getD k ru0).sets.length → exC ((m.rules.getD k ru0).sets.getD j st0).val (valsL m.vars code) ≠ 0 → ruleDo m.vars (valsL m.vars code) (m.rules.getD k ru0) = none) := fun j hj h => ruleDo_set hj h
  have HRC : Hid (holdsB (m.rules.getD k ru0).guard (valsL m.vars code) = true → setsOk (valsL m.vars code) (m.rules.getD k ru0) → (ccode m (behindL (valsL m.vars code) (m.rules.getD k ru0)) = 0 → ruleDo m.vars (valsL m.vars code) (m.rules.getD k ru0) = some (cval m (behindL (valsL m.vars code) (m.rules.getD k ru0)))) ∧ (ccode m (behindL (valsL m.vars code) (m.rules.getD k ru0)) ≠ 0 → ruleDo m.vars (valsL m.vars code) (m.rules.getD k ru0) = none)) := fun h1 h2 => ruleDo_code h1 h2 he hm rfl
  generalize ruleDo m.vars (valsL m.vars code) (m.rules.getD k ru0) = res at *
  rw [← he] at hsv hv6
  generalize valsL m.vars code = env at *
  generalize m.rules.getD k ru0 = r at *
  have HSV : Hid (∀ j, j < r.sets.length → 0 ≤ (r.sets.getD j st0).var ∧ (r.sets.getD j st0).var < env.length) := hsv
  clear hV hw hm hrs hrk he hsv
  generalize m.vars.length = n at *
  generalize m.rules.length = rn at *
  go_enter Tryd.func27, Tryd.ntmps27
  go_wp2_with (first | (go_at_call 49; refine (hvl _).mono ?_; rintro e w1 ⟨v, rfl, hb1, hI⟩; obtain ⟨vo, vc, rfl⟩ := hI.shape; have hbw1 := (hA _).trans (hb1.mono (hA _).size); have k10 : w1.cell? ⟨w.heap.size, 0, none⟩ = some (.slice ao n cap) := (hb1.cell (p := ⟨w.heap.size, 0, none⟩) (by simp)).trans (by simp [go_sem]); have k11 : w1.cell? ⟨w.heap.size, 1, none⟩ = some (.slice (some ⟨b, off, none⟩) rn rc) := (hb1.cell (p := ⟨w.heap.size, 1, none⟩) (by simp)).trans (by simp [go_sem]); have hs1 : w.heap.size < w1.heap.size := (by have := hb1.size; simp at this; omega); obtain ⟨⟨u, c0, hou⟩, u', c1, hsu⟩ := hat.below hbw1 hblt; obtain ⟨uo, uc, rfl⟩ := hou.shape; obtain ⟨so, sc, rfl⟩ := hsu.shape) | (go_at_call 26; refine (hin _).mono ?_; rintro e w9 ⟨rfl, rfl⟩))
  have hAr : Below w9.heap.size w9 (w9.alloc (.cells #[.slice uo r.guard.length uc, .slice so r.sets.length sc] 43)) := (Below.refl _ _).alloc (Nat.le_refl _) _
  have hbA := hbw1.trans (hAr.mono hbw1.size)
  have q10 : (w9.alloc (.cells #[.slice uo r.guard.length uc, .slice so r.sets.length sc] 43)).cell? ⟨w9.heap.size, 1, none⟩ = some (.slice so r.sets.length sc) := by simp [go_sem]
  have q11 := (hAr.cell (p := ⟨w.heap.size, 0, none⟩) hs1).trans k10
  have q12 := (hAr.cell (p := ⟨w.heap.size, 1, none⟩) hs1).trans k11
  have hIA := hI.below hAr
  have hsA := hsu.below hAr
  have hgu := rex_any _ _ r.guard env _ (hou.below hAr) hIA
  have hszA : w9.heap.size < (w9.alloc (.cells #[.slice uo r.guard.length uc, .slice so r.sets.length sc] 43)).heap.size := by simp
  generalize w9.alloc (.cells #[.slice uo r.guard.length uc, .slice so r.sets.length sc] 43) = W2 at *
  have HK2 : Hid (∀ w', Below W2.heap.size W2 w' → w'.cell? ⟨w9.heap.size, 1, none⟩ = some (.slice so r.sets.length sc) ∧ w'.cell? ⟨w.heap.size, 0, none⟩ = some (.slice ao n cap) ∧ w'.cell? ⟨w.heap.size, 1, none⟩ = some (.slice (some ⟨b, off, none⟩) rn rc)) := fun w' hb => ⟨(hb.cell (p := ⟨w9.heap.size, 1, none⟩) hszA).trans q10, (hb.cell (p := ⟨w.heap.size, 0, none⟩) (Nat.lt_trans hs1 hszA)).trans q11, (hb.cell (p := ⟨w.heap.size, 1, none⟩) (Nat.lt_trans hs1 hszA)).trans q12⟩
  have HI2 : Hid (IntsV W2 (.slice vo env.length vc) env) := hIA
  have HS2 : Hid (SetsV W2 (.slice so r.sets.length sc) r.sets) := hsA
  have HBW2 : Hid (Below w.heap.size w W2) := hbA
  clear hAr hbA q10 q11 q12 hIA hsA hszA hou hsu hI c0 c1 k10 k11 hb1 hbw1 hat hvl hin HR hA hs1
  have hgd := HGd.out
  generalize exN r.guard env = gn at hgu hgd
  generalize exC r.guard env = gc at hgu hgd
  by_cases hc0 : gc = 0
  · by_cases hn1 : gn = 1
    · have hg1 : holdsB r.guard env = true := by rw [hgd]; simp [hc0, hn1]
      have HRC2 : Hid _ := HRC.out hg1
      subst hc0 hn1
      clear hgd HGd HG HRC hg1
      go_wp2_with (go_at_call 50; refine hgu.mono ?_; rintro e w3 ⟨rfl, hb3⟩; obtain ⟨k30, k31, k32⟩ := HK2.out w3 hb3)
      have HBE : Hid ((List.range env.length).map (fun i => setAt env r.sets i r.sets.length) = behindL env r) := behindL_eq HSV.out
      have hI3 := HI2.out.below hb3
      have HI3 : Hid (IntsV w3 (.slice vo env.length vc) env) := hI3
      have HS3 : Hid (SetsV w3 (.slice so r.sets.length sc) r.sets) := HS2.out.below hb3
      have HK3 : Hid (∀ w', Below w3.heap.size w3 w' → w'.cell? ⟨w9.heap.size, 1, none⟩ = some (.slice so r.sets.length sc) ∧ w'.cell? ⟨w.heap.size, 0, none⟩ = some (.slice ao n cap) ∧ w'.cell? ⟨w.heap.size, 1, none⟩ = some (.slice (some ⟨b, off, none⟩) rn rc)) := fun w' hb => HK2.out w' (hb3.trans (hb.mono hb3.size))
      have HBW3 : Hid (Below w.heap.size w w3) := HBW2.out.trans (hb3.mono HBW2.out.size)
      have HEx : Hid (∀ w' (_ : Below w3.heap.size w3 w') v l, OpsV w' v l → Calls Tryd.prog 50 #[v, .slice vo env.length vc] w' fun e w2 => e = .returned (.tuple #[.int .i64 (exN l env), .int .i64 (exC l env)]) ∧ Below w'.heap.size w' w2) := fun w' hb v l hv => rex_any v _ l env w' hv (hI3.below hb)
      obtain ⟨en, hen⟩ : ∃ en, en = env.length := ⟨_, rfl⟩
      have HEN : Hid (en = env.length) := hen
      obtain ⟨sn, hsn⟩ : ∃ sn, sn = r.sets.length := ⟨_, rfl⟩
      have HSN : Hid (sn = r.sets.length) := hsn
      rw [← hen, ← hsn] at HBE
      rw [← hen] at HI3 HEx hv6 ⊢
      rw [← hsn] at HS3 HK3 h6 k30 ⊢
      have HSV2 : Hid (∀ j, j < sn → 0 ≤ (r.sets.getD j st0).var ∧ (r.sets.getD j st0).var < en) := by rw [hsn, hen]; exact HSV.out
      have HRS2 : Hid (∀ j, j < sn → exC (r.sets.getD j st0).val env ≠ 0 → res = none) := by rw [hsn]; exact HRS.out
      obtain ⟨i0, hi, hz0, hz1, hz2⟩ := info_parts infoInt
      clear hen hsn hI3 hb3 hgu HK2 HI2 HS2 HBW2 HSV HRS
      go_loopw [13, 14] (fun out i wr => ∃ q : Nat, q ≤ en ∧ i = .int .i64 q ∧ Hid (∀ j, j < sn → (r.sets.getD j st0).var < q → exC (r.sets.getD j st0).val env = 0) ∧ Hid (wr.ownsRow w3.heap.size 3 1 out q (ivals ((List.range q).map (fun i => setAt env r.sets i sn)))) ∧ Hid (Below w3.heap.size w3 wr)) (fun _ i _ => en - (intOf i).toNat)
      case atStart => exact ⟨0, Nat.zero_le _, rfl, fun j hj h => absurd h (by have := (HSV2.out j hj).1; omega), World.ownsRow_nil _ _ _ _, Below.refl _ _⟩
      case round =>
        obtain ⟨q, hq, rfl, HOK, HOwn, HBel⟩ := hrel
        have hbel := HBel.out
        by_cases hlt : q < en
        · obtain ⟨vb, voff, rfl, hvblt, hvc⟩ := HI3.out.at (i := q) (by rw [← HEN.out]; exact hlt)
          have hvc2 := (hbel.cell (p := ⟨vb, voff + q, none⟩) hvblt).trans hvc
          obtain ⟨kr0, kr1, kr2⟩ := HK3.out wr hbel
          have HA0 : Hid (setAt env r.sets q 0 = env.getD q 0) := rfl
          generalize env.getD q 0 = x0 at hvc2 HA0
          clear hvc k30 k31 k32
          go_wp2_with fail
          obtain ⟨wo, hwo⟩ : ∃ wo, wo = wr := ⟨_, rfl⟩
          subst hwo
          go_loopw [15, 16] (fun x kk wi => ∃ k : Nat, k ≤ sn ∧ kk = .int .i64 k ∧ x = .int .i64 (setAt env r.sets q k) ∧ Hid (∀ j, j < k → (r.sets.getD j st0).var = q → exC (r.sets.getD j st0).val env = 0) ∧ Hid (Below wo.heap.size wo wi)) (fun _ kk _ => sn - (intOf kk).toNat)
          case atStart => exact ⟨0, Nat.zero_le _, rfl, by rw [HA0.out], fun j hj => by omega, Below.refl _ _⟩
          case round =>
            obtain ⟨k, hk', rfl, rfl, HOKi, HBi⟩ := hrel
            have hbi := hbel.trans (HBi.out.mono hbel.size)
            obtain ⟨ki0, ki1, ki2⟩ := HK3.out wr hbi
            by_cases hlk : k < sn
            · obtain ⟨sb, soff, rfl, hsblt, hsat⟩ := HS3.out.at (i := k) (by rw [← HSN.out]; exact hlk)
              obtain ⟨c0, u, c1, hou⟩ := hsat.below hbi hsblt
              obtain ⟨uo2, uc2, rfl⟩ := hou.shape
              have HStep : Hid (setAt env r.sets q (k + 1) = if (r.sets.getD k st0).var = q then exN (r.sets.getD k st0).val env else setAt env r.sets q k) := rfl
              have HOK2 : Hid (((r.sets.getD k st0).var = q → exC (r.sets.getD k st0).val env = 0) → ∀ j, j < k + 1 → (r.sets.getD j st0).var = q → exC (r.sets.getD j st0).val env = 0) := fun h j hj => by
                by_cases hjk : j = k
                · subst hjk; exact h
                · exact HOKi.out j (by omega)
              have HRk : Hid (exC (r.sets.getD k st0).val env ≠ 0 → res = none) := HRS2.out k hlk
              have hex := HEx.out wr hbi _ _ hou
              generalize exN (r.sets.getD k st0).val env = N at hex HStep
              generalize exC (r.sets.getD k st0).val env = C at hex HRk HOK2
              generalize (r.sets.getD k st0).val.length = ul at hex c1 hou
              generalize (r.sets.getD k st0).var = sv at c0 HStep HOK2
              clear hsat hou HRS2 HEx HS3 HSV2 HRC2 HCo HOKi kr0 kr1 kr2
              by_cases hsv : sv = q
              · have hst : setAt env r.sets q (k + 1) = N := by rw [HStep.out, if_pos hsv]
                have HST : Hid (setAt env r.sets q (k + 1) = N) := hst
                by_cases hC : C = 0
                · have HJ : Hid _ := HOK2.out (fun _ => hC)
                  subst hC hsv
                  clear hst HStep HOK2 HRk
                  go_wp2_with (go_at_call 50; refine hex.mono ?_; rintro e w5 ⟨rfl, hb5⟩)
                  refine ⟨⟨k + 1, hlk, by first | rfl | simp, by rw [HST.out], HJ.out, HBi.out.trans (hb5.mono HBi.out.size)⟩, by simp [intOf]; omega⟩
                · have HRN : Hid (res = none) := HRk.out hC
                  subst hsv
                  clear hst HStep HOK2 HRk
                  go_wp2_with (go_at_call 50; refine hex.mono ?_; rintro e w5 ⟨rfl, hb5⟩)
                  go_ret2
                  exact ⟨by rw [HRN.out]; rfl, HBW3.out.trans ((hbi.trans (hb5.mono hbi.size)).mono HBW3.out.size)⟩
              · have HST : Hid (setAt env r.sets q (k + 1) = setAt env r.sets q k) := by show _ = _; rw [HStep.out, if_neg hsv]
                have HJ : Hid _ := HOK2.out (fun h => absurd h hsv)
                clear HStep HOK2 HRk
                go_wp2_with fail
                refine ⟨⟨k + 1, hlk, by first | rfl | simp, by rw [HST.out], HJ.out, HBi.out⟩, by simp [intOf]; omega⟩
            · have hks : k = sn := by omega
              subst hks
              have hown := HOwn.out
              have hown2 := owns_later hown HBi.out (Nat.le_refl _)
              have hnb := hown.lt
              obtain ⟨oo, oc, rfl⟩ := owns_slice hown
              have HSn : Hid (ivals ((List.range (q + 1)).map (fun i => setAt env r.sets i k)) = ivals ((List.range q).map (fun i => setAt env r.sets i k)) ++ [.int .i64 (setAt env r.sets q k)]) := by
                show _ = _
                simp [ivals, List.range_succ]
              have HOK2 : Hid (∀ j, j < k → (r.sets.getD j st0).var < ((q + 1 : Nat) : Int) → exC (r.sets.getD j st0).val env = 0) := fun j hj h => by
                by_cases hjq : (r.sets.getD j st0).var = q
                · exact HOKi.out j hj hjq
                · exact HOK.out j hj (by omega)
              generalize setAt env r.sets q k = xv at *
              have hown3 := fun o => hown2.alloc o
              have h63 : q + 1 ≤ maxLen := by unfold maxLen; omega
              have hkb : (q + 1) * 8 ≤ 140737488355328 := by omega
              have hbase : ∀ o, w3.heap.size ≤ (wr.alloc o).heap.size := fun o => by have := hbi.size; simp; omega
              clear hown hown2 HRS2 HEx HS3 HSV2 HRC2 HCo HOKi kr0 kr1 kr2
              go_wp2_with (at_builtin; refine wpList_append_own _ rfl (.tmp 94) (.tmp 96) 26 rfl w3.heap.size 3 i0 (.int .i64 0) 1 8 Tryd.underlying26 hi hz0 hz1 hz2 rfl (by decide) _ q _ rfl (hown3 _) ⟨wr.heap.size, 0, none⟩ 1 1 [.int .i64 xv] rfl rfl (cell_one_new _ _ _) (by intro u hu; simp at hu; subst hu; rfl) h63 hkb (hbase _) ?_)
              intro v' w4 hown' hgrow _
              have hb4 : Below w3.heap.size w3 w4 := (hbi.alloc hbi.size _).grown hgrow (hbase _) (fun z hz => (hnb z hz).1)
              have HO4 : Hid (w4.ownsRow w3.heap.size 3 1 v' (q + 1) (ivals ((List.range (q + 1)).map (fun i => setAt env r.sets i k)))) := by
                show World.ownsRow _ _ _ _ _ _ _
                rw [HSn.out]
                exact hown'
              clear hown' hgrow hown3
              go_wp2
              go_roundw
              case rel => exact ⟨q + 1, hlt, by go_num, HOK2, HO4, hb4⟩
              case measure => simp [intOf]; omega
        · have hqn : q = en := by omega
          subst hqn
          have hown := HOwn.out
          rw [HBE.out] at hown
          obtain ⟨oo, oc, rfl⟩ := owns_slice hown
          have hlb : (behindL env r).length = q := by unfold behindL; rw [setTo_length, HEN.out]
          have hI : IntsV wr (.slice oo q oc) (behindL env r) := intsV_of_owns (by rw [hlb]; exact hown)
          have hbw := HBW3.out.trans (hbel.mono HBW3.out.size)
          have hco := HCo.out wr hbw _ _ hI
          have hrc := HRC2.out (fun j hj => HOK.out j (by rw [HSN.out]; exact hj) (HSV2.out j (by rw [HSN.out]; exact hj)).2)
          obtain ⟨kr0, kr1, kr2⟩ := HK3.out wr hbel
          have HBWr : Hid (Below w.heap.size w wr) := hbw
          generalize cval m (behindL env r) = cv at hco hrc
          generalize ccode m (behindL env r) = cc at hco hrc
          obtain ⟨hrc0, hrc1⟩ := hrc
          clear hown hlb hI HCo HRC2 HOK HOwn HI3 HS3 HEx HSV2 HRS2 k30 k31 k32 hbel hbw hlt hq
          by_cases hcc : cc = 0
          · have HRN : Hid (res = some cv) := hrc0 hcc
            subst hcc
            clear hrc0 hrc1
            go_wp2_with (go_at_call 23; refine hco.mono ?_; rintro e w6 ⟨rfl, hb6⟩)
            go_ret2
            exact ⟨by rw [HRN.out]; rfl, HBWr.out.trans (hb6.mono HBWr.out.size)⟩
          · have HRN : Hid (res = none) := hrc1 hcc
            clear hrc0 hrc1
            go_wp2_with (go_at_call 23; refine hco.mono ?_; rintro e w6 ⟨rfl, hb6⟩)
            go_ret2
            exact ⟨by rw [HRN.out]; rfl, HBWr.out.trans (hb6.mono HBWr.out.size)⟩
    · have hrn := HG.out (by rw [hgd]; simp [hn1])
      subst hrn hc0
      clear hgd HGd HRC
      go_wp2_with (go_at_call 50; refine hgu.mono ?_; rintro e w3 ⟨rfl, hb3⟩)
      go_ret2
      exact ⟨rfl, HBW2.out.trans (hb3.mono HBW2.out.size)⟩
  · have hrn := HG.out (by rw [hgd]; simp [hc0])
    subst hrn
    clear hgd HGd HRC
    go_wp2_with (go_at_call 50; refine hgu.mono ?_; rintro e w3 ⟨rfl, hb3⟩)
    go_ret2
    exact ⟨rfl, HBW2.out.trans (hb3.mono HBW2.out.size)⟩

set_option maxHeartbeats 1600000 in
set_option maxRecDepth 20000 in
/-- THE CONTRACT OF AfterRule. -/
theorem rafter_any (va vr : Value) (m : Mo) (code rule : Int) (w : World) (hV : ModelV w va vr m) (hz : m.rules.length ≤ 1000000000000000) :
    Calls Tryd.prog 27 #[.agg #[va, vr], .int .i64 code, .int .i64 rule] w fun e w' => e = .returned (.tuple #[.int .i64 (aftN m code rule), .int .i64 (aftC m code rule)]) ∧ Below w.heap.size w w' := by
  have hA : ∀ o, Below w.heap.size w (w.alloc o) := fun o => (Below.refl _ _).alloc (Nat.le_refl _) o
  by_cases hw : wcode m code = 0
  · by_cases hin : 0 ≤ rule ∧ rule < m.rules.length
    · obtain ⟨k, rfl⟩ : ∃ k : Nat, rule = k := ⟨rule.toNat, by omega⟩
      have h := rafter_in va vr m code k w hV hw (by omega)
      unfold aftN aftC
      rw [if_pos hw, if_pos hw, if_pos hin, if_pos hin, Int.toNat_natCast]
      exact h
    · have hvl := fun o => rvalues_any va vr m code (w.alloc o) (hV.below (hA o))
      rw [hw] at hvl
      unfold aftN aftC
      rw [if_pos hw, if_pos hw, if_neg hin, if_neg hin]
      have hii := fun w => in_any rule 0 (m.rules.length - 1) w
      rw [decide_eq_false (show ¬ (0 ≤ rule ∧ rule ≤ (m.rules.length : Int) - 1) by omega)] at hii
      obtain ⟨ao, cap, rfl⟩ := hV.1.shape
      obtain ⟨ro, rc, rfl⟩ := hV.2.shape
      generalize wvals m code = vals at hvl
      generalize m.vars.length = n at *
      generalize m.rules.length = rn at *
      clear hV hw hin
      go_enter Tryd.func27, Tryd.ntmps27
      go_wp2_with (first | (go_at_call 49; refine (hvl _).mono ?_; rintro e w1 ⟨v, rfl, hb1, hI⟩; have k11 : w1.cell? ⟨w.heap.size, 1, none⟩ = some (.slice ro rn rc) := (hb1.cell (p := ⟨w.heap.size, 1, none⟩) (by simp)).trans (by simp [go_sem])) | (go_at_call 26; refine (hii _).mono ?_; rintro e w9 ⟨rfl, rfl⟩))
      go_ret2
      exact ⟨rfl, (hA _).trans (hb1.mono (hA _).size)⟩
  · have hvl := fun o => rvalues_any va vr m code (w.alloc o) (hV.below (hA o))
    unfold aftN aftC
    rw [if_neg hw, if_neg hw]
    obtain ⟨ao, cap, rfl⟩ := hV.1.shape
    obtain ⟨ro, rc, rfl⟩ := hV.2.shape
    generalize wvals m code = vals at hvl
    generalize wcode m code = c at *
    generalize m.vars.length = n at *
    generalize m.rules.length = rn at *
    clear hV
    go_enter Tryd.func27, Tryd.ntmps27
    go_wp2_with (go_at_call 49; refine (hvl _).mono ?_; rintro e w1 ⟨v, rfl, hb1, hI⟩)
    go_ret2
    exact ⟨rfl, (hA _).trans (hb1.mono (hA _).size)⟩
end Go.Proofs.YtbcjhkhndahdhaaDoor
