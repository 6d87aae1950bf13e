/-
  Joined out of RefAfter, RefLetter, RefTruths, RefTruL, RefBegin, RefFollow, RefNext, RefBeh, PbhdWalk, in their order: a claim bears at most so many files.
-/
import Derived.Test.YtdlpmomohbdpgaaGreatDoorLateB
import Derived.Test.YtdlpmomohbdpgaaGreatDoorLateD
import Derived.Test.YtdlpmomohbdpgaaGreatDoorLateC
import Derived.Test.YtdlpmomohbdpgaaGreatDoorLateA
import Derived.Test.YtdlpmomohbdpgaaGreatDoorTasksOf
/-
  The contract of the document's own AfterRule.
-/
namespace Go.Proofs.YtdlpmomohbdpgaaGreatDoor
open Go.ChangeShapes Go.WideShapes Go.ChangeAt Go.RowKit Go.Deep
open Terms Tm

/-- THE CONTRACT OF Evaluated, in the step's words. -/
theorem rex_any (v ev : Value) (l : List (Int × Int)) (env : List Int) (w : World) (hV : OpsV w v l) (hE : IntsV w ev env) :
    Calls Tryz.prog 47 #[v, ev] w fun e w' => e = .returned (.tuple #[.int .i64 (exN l env), .int .i64 (exC l env)]) ∧ Below w.heap.size w w' :=
  evaluated_any v ev l env (treeOf l) w hV hE (treeOf_spec l)
theorem behindL_eq {env : List Int} {r : Ru} (h : ∀ j, j < r.sets.length → 0 ≤ (r.sets.getD j st0).var ∧ (r.sets.getD j st0).var < env.length) : (List.range env.length).map (fun i => setAt env r.sets i r.sets.length) = behindL env r := by
  apply List.ext_getElem?
  intro i
  by_cases hi : i < env.length
  · have h1 := setTo_at (k := r.sets.length) h i
    rw [List.getElem?_map, List.getElem?_range hi]
    have h2 : i < (behindL env r).length := by unfold behindL; rw [setTo_length]; exact hi
    rw [List.getElem?_eq_getElem h2]
    show some (setAt env r.sets i r.sets.length) = _
    rw [← h1]
    unfold behindL at h2 ⊢
    simp [List.getD_eq_getElem?_getD, h2]
  · simp [hi, behindL, setTo_length]

set_option maxHeartbeats 3200000 in
set_option maxRecDepth 20000 in
/-- one rule that is there, at a state. -/
theorem rafter_in (va vr : Value) (m : Mo) (code : Int) (k : Nat) (w : World) (hV : ModelV w va vr m) (hw : wcode m code = 0) (hk : k < m.rules.length) :
    Calls Tryz.prog 48 #[.agg #[va, vr], .int .i64 code, .int .i64 k] w fun e w' => e = .returned (.tuple #[.int .i64 (optN (ruleDo m.vars (valsL m.vars code) (m.rules.getD k ru0))), .int .i64 (optC (ruleDo m.vars (valsL m.vars code) (m.rules.getD k ru0)))]) ∧ Below w.heap.size w w' := by
  have hA : ∀ o, Below w.heap.size w (w.alloc o) := fun o => (Below.refl _ _).alloc (Nat.le_refl _) o
  obtain ⟨hm, _⟩ := wcode_zero hw
  obtain ⟨hr12, hrs⟩ := mcode_rules hm
  have hrk := hrs k hk
  obtain ⟨h6, hsv⟩ := rule_sets hrk
  have hv6 := (mcode_vars hm).1
  have he := valsL_length m.vars code
  have hvl := fun o => rvalues_any va vr m code (w.alloc o) (hV.below (hA o))
  rw [hw, show wvals m code = valsL m.vars code by unfold wvals; rw [if_pos hw]] at hvl
  have HCo : Hid (∀ w' (_ : Below w.heap.size w w') vv vals, IntsV w' vv vals → Calls Tryz.prog 69 #[.agg #[va, vr], vv] w' fun e w2 => e = .returned (.tuple #[.int .i64 (cval m vals), .int .i64 (ccode m vals)]) ∧ Below w'.heap.size w' w2) := fun w' hb vv vals hi => rcodes_any va vr vv m vals w' (hV.below hb) hi
  have HR : Hid (RulesV w vr m.rules) := hV.2
  obtain ⟨ao, cap, rfl⟩ := hV.1.shape
  obtain ⟨ro, rc, rfl⟩ := hV.2.shape
  obtain ⟨b, off, rfl, hblt, hat⟩ := HR.out.at (i := k) hk
  have hin := fun w => in_any k 0 (m.rules.length - 1) w
  rw [decide_eq_true (show (0 : Int) ≤ k ∧ (k : Int) ≤ (m.rules.length : Int) - 1 by omega)] at hin
  have HG : Hid (holdsB (m.rules.getD k ru0).guard (valsL m.vars code) = false → ruleDo m.vars (valsL m.vars code) (m.rules.getD k ru0) = none) := fun h => ruleDo_guard h
  have HGd : Hid (holdsB (m.rules.getD k ru0).guard (valsL m.vars code) = (decide (exC (m.rules.getD k ru0).guard (valsL m.vars code) = 0) && decide (exN (m.rules.getD k ru0).guard (valsL m.vars code) = 1))) := rfl
  have HRS : Hid (∀ j, j < (m.rules.getD k ru0).sets.length → exC ((m.rules.getD k ru0).sets.getD j st0).val (valsL m.vars code) ≠ 0 → ruleDo m.vars (valsL m.vars code) (m.rules.getD k ru0) = none) := fun j hj h => ruleDo_set hj h
  have HRC : Hid (holdsB (m.rules.getD k ru0).guard (valsL m.vars code) = true → setsOk (valsL m.vars code) (m.rules.getD k ru0) → (ccode m (behindL (valsL m.vars code) (m.rules.getD k ru0)) = 0 → ruleDo m.vars (valsL m.vars code) (m.rules.getD k ru0) = some (cval m (behindL (valsL m.vars code) (m.rules.getD k ru0)))) ∧ (ccode m (behindL (valsL m.vars code) (m.rules.getD k ru0)) ≠ 0 → ruleDo m.vars (valsL m.vars code) (m.rules.getD k ru0) = none)) := fun h1 h2 => ruleDo_code h1 h2 he hm rfl
  generalize ruleDo m.vars (valsL m.vars code) (m.rules.getD k ru0) = res at *
  rw [← he] at hsv hv6
  generalize valsL m.vars code = env at *
  generalize m.rules.getD k ru0 = r at *
  have HSV : Hid (∀ j, j < r.sets.length → 0 ≤ (r.sets.getD j st0).var ∧ (r.sets.getD j st0).var < env.length) := hsv
  clear hV hw hm hrs hrk he hsv
  generalize m.vars.length = n at *
  generalize m.rules.length = rn at *
  go_enter Tryz.func48, Tryz.ntmps48
  go_wp2_with (first | (go_at_call 46; refine (hvl _).mono ?_; rintro e w1 ⟨v, rfl, hb1, hI⟩; obtain ⟨vo, vc, rfl⟩ := hI.shape; have hbw1 := (hA _).trans (hb1.mono (hA _).size); have k10 : w1.cell? ⟨w.heap.size, 0, none⟩ = some (.slice ao n cap) := (hb1.cell (p := ⟨w.heap.size, 0, none⟩) (by simp)).trans (by simp [go_sem]); have k11 : w1.cell? ⟨w.heap.size, 1, none⟩ = some (.slice (some ⟨b, off, none⟩) rn rc) := (hb1.cell (p := ⟨w.heap.size, 1, none⟩) (by simp)).trans (by simp [go_sem]); have hs1 : w.heap.size < w1.heap.size := (by have := hb1.size; simp at this; omega); obtain ⟨⟨u, c0, hou⟩, u', c1, hsu⟩ := hat.below hbw1 hblt; obtain ⟨uo, uc, rfl⟩ := hou.shape; obtain ⟨so, sc, rfl⟩ := hsu.shape) | (go_at_call 22; refine (hin _).mono ?_; rintro e w9 ⟨rfl, rfl⟩))
  have hAr : Below w9.heap.size w9 (w9.alloc (.cells #[.slice uo r.guard.length uc, .slice so r.sets.length sc] 94)) := (Below.refl _ _).alloc (Nat.le_refl _) _
  have hbA := hbw1.trans (hAr.mono hbw1.size)
  have q10 : (w9.alloc (.cells #[.slice uo r.guard.length uc, .slice so r.sets.length sc] 94)).cell? ⟨w9.heap.size, 1, none⟩ = some (.slice so r.sets.length sc) := by simp [go_sem]
  have q11 := (hAr.cell (p := ⟨w.heap.size, 0, none⟩) hs1).trans k10
  have q12 := (hAr.cell (p := ⟨w.heap.size, 1, none⟩) hs1).trans k11
  have hIA := hI.below hAr
  have hsA := hsu.below hAr
  have hgu := rex_any _ _ r.guard env _ (hou.below hAr) hIA
  have hszA : w9.heap.size < (w9.alloc (.cells #[.slice uo r.guard.length uc, .slice so r.sets.length sc] 94)).heap.size := by simp
  generalize w9.alloc (.cells #[.slice uo r.guard.length uc, .slice so r.sets.length sc] 94) = W2 at *
  have HK2 : Hid (∀ w', Below W2.heap.size W2 w' → w'.cell? ⟨w9.heap.size, 1, none⟩ = some (.slice so r.sets.length sc) ∧ w'.cell? ⟨w.heap.size, 0, none⟩ = some (.slice ao n cap) ∧ w'.cell? ⟨w.heap.size, 1, none⟩ = some (.slice (some ⟨b, off, none⟩) rn rc)) := fun w' hb => ⟨(hb.cell (p := ⟨w9.heap.size, 1, none⟩) hszA).trans q10, (hb.cell (p := ⟨w.heap.size, 0, none⟩) (Nat.lt_trans hs1 hszA)).trans q11, (hb.cell (p := ⟨w.heap.size, 1, none⟩) (Nat.lt_trans hs1 hszA)).trans q12⟩
  have HI2 : Hid (IntsV W2 (.slice vo env.length vc) env) := hIA
  have HS2 : Hid (SetsV W2 (.slice so r.sets.length sc) r.sets) := hsA
  have HBW2 : Hid (Below w.heap.size w W2) := hbA
  clear hAr hbA q10 q11 q12 hIA hsA hszA hou hsu hI c0 c1 k10 k11 hb1 hbw1 hat hvl hin HR hA hs1
  have hgd := HGd.out
  generalize exN r.guard env = gn at hgu hgd
  generalize exC r.guard env = gc at hgu hgd
  by_cases hc0 : gc = 0
  · by_cases hn1 : gn = 1
    · have hg1 : holdsB r.guard env = true := by rw [hgd]; simp [hc0, hn1]
      have HRC2 : Hid _ := HRC.out hg1
      subst hc0 hn1
      clear hgd HGd HG HRC hg1
      go_wp2_with (go_at_call 47; refine hgu.mono ?_; rintro e w3 ⟨rfl, hb3⟩; obtain ⟨k30, k31, k32⟩ := HK2.out w3 hb3)
      have HBE : Hid ((List.range env.length).map (fun i => setAt env r.sets i r.sets.length) = behindL env r) := behindL_eq HSV.out
      have hI3 := HI2.out.below hb3
      have HI3 : Hid (IntsV w3 (.slice vo env.length vc) env) := hI3
      have HS3 : Hid (SetsV w3 (.slice so r.sets.length sc) r.sets) := HS2.out.below hb3
      have HK3 : Hid (∀ w', Below w3.heap.size w3 w' → w'.cell? ⟨w9.heap.size, 1, none⟩ = some (.slice so r.sets.length sc) ∧ w'.cell? ⟨w.heap.size, 0, none⟩ = some (.slice ao n cap) ∧ w'.cell? ⟨w.heap.size, 1, none⟩ = some (.slice (some ⟨b, off, none⟩) rn rc)) := fun w' hb => HK2.out w' (hb3.trans (hb.mono hb3.size))
      have HBW3 : Hid (Below w.heap.size w w3) := HBW2.out.trans (hb3.mono HBW2.out.size)
      have HEx : Hid (∀ w' (_ : Below w3.heap.size w3 w') v l, OpsV w' v l → Calls Tryz.prog 47 #[v, .slice vo env.length vc] w' fun e w2 => e = .returned (.tuple #[.int .i64 (exN l env), .int .i64 (exC l env)]) ∧ Below w'.heap.size w' w2) := fun w' hb v l hv => rex_any v _ l env w' hv (hI3.below hb)
      obtain ⟨en, hen⟩ : ∃ en, en = env.length := ⟨_, rfl⟩
      have HEN : Hid (en = env.length) := hen
      obtain ⟨sn, hsn⟩ : ∃ sn, sn = r.sets.length := ⟨_, rfl⟩
      have HSN : Hid (sn = r.sets.length) := hsn
      rw [← hen, ← hsn] at HBE
      rw [← hen] at HI3 HEx hv6 ⊢
      rw [← hsn] at HS3 HK3 h6 k30 ⊢
      have HSV2 : Hid (∀ j, j < sn → 0 ≤ (r.sets.getD j st0).var ∧ (r.sets.getD j st0).var < en) := by rw [hsn, hen]; exact HSV.out
      have HRS2 : Hid (∀ j, j < sn → exC (r.sets.getD j st0).val env ≠ 0 → res = none) := by rw [hsn]; exact HRS.out
      obtain ⟨i0, hi, hz0, hz1, hz2⟩ := info_parts infoInt
      clear hen hsn hI3 hb3 hgu HK2 HI2 HS2 HBW2 HSV HRS
      go_loopw [13, 14] (fun out i wr => ∃ q : Nat, q ≤ en ∧ i = .int .i64 q ∧ Hid (∀ j, j < sn → (r.sets.getD j st0).var < q → exC (r.sets.getD j st0).val env = 0) ∧ Hid (wr.ownsRow w3.heap.size 3 1 out q (ivals ((List.range q).map (fun i => setAt env r.sets i sn)))) ∧ Hid (Below w3.heap.size w3 wr)) (fun _ i _ => en - (intOf i).toNat)
      case atStart => exact ⟨0, Nat.zero_le _, rfl, fun j hj h => absurd h (by have := (HSV2.out j hj).1; omega), World.ownsRow_nil _ _ _ _, Below.refl _ _⟩
      case round =>
        obtain ⟨q, hq, rfl, HOK, HOwn, HBel⟩ := hrel
        have hbel := HBel.out
        by_cases hlt : q < en
        · obtain ⟨vb, voff, rfl, hvblt, hvc⟩ := HI3.out.at (i := q) (by rw [← HEN.out]; exact hlt)
          have hvc2 := (hbel.cell (p := ⟨vb, voff + q, none⟩) hvblt).trans hvc
          obtain ⟨kr0, kr1, kr2⟩ := HK3.out wr hbel
          have HA0 : Hid (setAt env r.sets q 0 = env.getD q 0) := rfl
          generalize env.getD q 0 = x0 at hvc2 HA0
          clear hvc k30 k31 k32
          go_wp2_with fail
          obtain ⟨wo, hwo⟩ : ∃ wo, wo = wr := ⟨_, rfl⟩
          subst hwo
          go_loopw [15, 16] (fun x kk wi => ∃ k : Nat, k ≤ sn ∧ kk = .int .i64 k ∧ x = .int .i64 (setAt env r.sets q k) ∧ Hid (∀ j, j < k → (r.sets.getD j st0).var = q → exC (r.sets.getD j st0).val env = 0) ∧ Hid (Below wo.heap.size wo wi)) (fun _ kk _ => sn - (intOf kk).toNat)
          case atStart => exact ⟨0, Nat.zero_le _, rfl, by rw [HA0.out], fun j hj => by omega, Below.refl _ _⟩
          case round =>
            obtain ⟨k, hk', rfl, rfl, HOKi, HBi⟩ := hrel
            have hbi := hbel.trans (HBi.out.mono hbel.size)
            obtain ⟨ki0, ki1, ki2⟩ := HK3.out wr hbi
            by_cases hlk : k < sn
            · obtain ⟨sb, soff, rfl, hsblt, hsat⟩ := HS3.out.at (i := k) (by rw [← HSN.out]; exact hlk)
              obtain ⟨c0, u, c1, hou⟩ := hsat.below hbi hsblt
              obtain ⟨uo2, uc2, rfl⟩ := hou.shape
              have HStep : Hid (setAt env r.sets q (k + 1) = if (r.sets.getD k st0).var = q then exN (r.sets.getD k st0).val env else setAt env r.sets q k) := rfl
              have HOK2 : Hid (((r.sets.getD k st0).var = q → exC (r.sets.getD k st0).val env = 0) → ∀ j, j < k + 1 → (r.sets.getD j st0).var = q → exC (r.sets.getD j st0).val env = 0) := fun h j hj => by
                by_cases hjk : j = k
                · subst hjk; exact h
                · exact HOKi.out j (by omega)
              have HRk : Hid (exC (r.sets.getD k st0).val env ≠ 0 → res = none) := HRS2.out k hlk
              have hex := HEx.out wr hbi _ _ hou
              generalize exN (r.sets.getD k st0).val env = N at hex HStep
              generalize exC (r.sets.getD k st0).val env = C at hex HRk HOK2
              generalize (r.sets.getD k st0).val.length = ul at hex c1 hou
              generalize (r.sets.getD k st0).var = sv at c0 HStep HOK2
              clear hsat hou HRS2 HEx HS3 HSV2 HRC2 HCo HOKi kr0 kr1 kr2
              by_cases hsv : sv = q
              · have hst : setAt env r.sets q (k + 1) = N := by rw [HStep.out, if_pos hsv]
                have HST : Hid (setAt env r.sets q (k + 1) = N) := hst
                by_cases hC : C = 0
                · have HJ : Hid _ := HOK2.out (fun _ => hC)
                  subst hC hsv
                  clear hst HStep HOK2 HRk
                  go_wp2_with (go_at_call 47; refine hex.mono ?_; rintro e w5 ⟨rfl, hb5⟩)
                  refine ⟨⟨k + 1, hlk, by first | rfl | simp, by rw [HST.out], HJ.out, HBi.out.trans (hb5.mono HBi.out.size)⟩, by simp [intOf]; omega⟩
                · have HRN : Hid (res = none) := HRk.out hC
                  subst hsv
                  clear hst HStep HOK2 HRk
                  go_wp2_with (go_at_call 47; refine hex.mono ?_; rintro e w5 ⟨rfl, hb5⟩)
                  go_ret2
                  exact ⟨by rw [HRN.out]; rfl, HBW3.out.trans ((hbi.trans (hb5.mono hbi.size)).mono HBW3.out.size)⟩
              · have HST : Hid (setAt env r.sets q (k + 1) = setAt env r.sets q k) := by show _ = _; rw [HStep.out, if_neg hsv]
                have HJ : Hid _ := HOK2.out (fun h => absurd h hsv)
                clear HStep HOK2 HRk
                go_wp2_with fail
                refine ⟨⟨k + 1, hlk, by first | rfl | simp, by rw [HST.out], HJ.out, HBi.out⟩, by simp [intOf]; omega⟩
            · have hks : k = sn := by omega
              subst hks
              have hown := HOwn.out
              have hown2 := owns_later hown HBi.out (Nat.le_refl _)
              have hnb := hown.lt
              obtain ⟨oo, oc, rfl⟩ := owns_slice hown
              have HSn : Hid (ivals ((List.range (q + 1)).map (fun i => setAt env r.sets i k)) = ivals ((List.range q).map (fun i => setAt env r.sets i k)) ++ [.int .i64 (setAt env r.sets q k)]) := by
                show _ = _
                simp [ivals, List.range_succ]
              have HOK2 : Hid (∀ j, j < k → (r.sets.getD j st0).var < ((q + 1 : Nat) : Int) → exC (r.sets.getD j st0).val env = 0) := fun j hj h => by
                by_cases hjq : (r.sets.getD j st0).var = q
                · exact HOKi.out j hj hjq
                · exact HOK.out j hj (by omega)
              generalize setAt env r.sets q k = xv at *
              have hown3 := fun o => hown2.alloc o
              have h63 : q + 1 ≤ maxLen := by unfold maxLen; omega
              have hkb : (q + 1) * 8 ≤ 140737488355328 := by omega
              have hbase : ∀ o, w3.heap.size ≤ (wr.alloc o).heap.size := fun o => by have := hbi.size; simp; omega
              clear hown hown2 HRS2 HEx HS3 HSV2 HRC2 HCo HOKi kr0 kr1 kr2
              go_wp2_with (at_builtin; refine wpList_append_own _ rfl (.tmp 94) (.tmp 96) 40 rfl w3.heap.size 3 i0 (.int .i64 0) 1 8 Tryz.underlying40 hi hz0 hz1 hz2 rfl (by decide) _ q _ rfl (hown3 _) ⟨wr.heap.size, 0, none⟩ 1 1 [.int .i64 xv] rfl rfl (cell_one_new _ _ _) (by intro u hu; simp at hu; subst hu; rfl) h63 hkb (hbase _) ?_)
              intro v' w4 hown' hgrow _
              have hb4 : Below w3.heap.size w3 w4 := (hbi.alloc hbi.size _).grown hgrow (hbase _) (fun z hz => (hnb z hz).1)
              have HO4 : Hid (w4.ownsRow w3.heap.size 3 1 v' (q + 1) (ivals ((List.range (q + 1)).map (fun i => setAt env r.sets i k)))) := by
                show World.ownsRow _ _ _ _ _ _ _
                rw [HSn.out]
                exact hown'
              clear hown' hgrow hown3
              go_wp2
              go_roundw
              case rel => exact ⟨q + 1, hlt, by go_num, HOK2, HO4, hb4⟩
              case measure => simp [intOf]; omega
        · have hqn : q = en := by omega
          subst hqn
          have hown := HOwn.out
          rw [HBE.out] at hown
          obtain ⟨oo, oc, rfl⟩ := owns_slice hown
          have hlb : (behindL env r).length = q := by unfold behindL; rw [setTo_length, HEN.out]
          have hI : IntsV wr (.slice oo q oc) (behindL env r) := intsV_of_owns (by rw [hlb]; exact hown)
          have hbw := HBW3.out.trans (hbel.mono HBW3.out.size)
          have hco := HCo.out wr hbw _ _ hI
          have hrc := HRC2.out (fun j hj => HOK.out j (by rw [HSN.out]; exact hj) (HSV2.out j (by rw [HSN.out]; exact hj)).2)
          obtain ⟨kr0, kr1, kr2⟩ := HK3.out wr hbel
          have HBWr : Hid (Below w.heap.size w wr) := hbw
          generalize cval m (behindL env r) = cv at hco hrc
          generalize ccode m (behindL env r) = cc at hco hrc
          obtain ⟨hrc0, hrc1⟩ := hrc
          clear hown hlb hI HCo HRC2 HOK HOwn HI3 HS3 HEx HSV2 HRS2 k30 k31 k32 hbel hbw hlt hq
          by_cases hcc : cc = 0
          · have HRN : Hid (res = some cv) := hrc0 hcc
            subst hcc
            clear hrc0 hrc1
            go_wp2_with (go_at_call 69; refine hco.mono ?_; rintro e w6 ⟨rfl, hb6⟩)
            go_ret2
            exact ⟨by rw [HRN.out]; rfl, HBWr.out.trans (hb6.mono HBWr.out.size)⟩
          · have HRN : Hid (res = none) := hrc1 hcc
            clear hrc0 hrc1
            go_wp2_with (go_at_call 69; refine hco.mono ?_; rintro e w6 ⟨rfl, hb6⟩)
            go_ret2
            exact ⟨by rw [HRN.out]; rfl, HBWr.out.trans (hb6.mono HBWr.out.size)⟩
    · have hrn := HG.out (by rw [hgd]; simp [hn1])
      subst hrn hc0
      clear hgd HGd HRC
      go_wp2_with (go_at_call 47; refine hgu.mono ?_; rintro e w3 ⟨rfl, hb3⟩)
      go_ret2
      exact ⟨rfl, HBW2.out.trans (hb3.mono HBW2.out.size)⟩
  · have hrn := HG.out (by rw [hgd]; simp [hc0])
    subst hrn
    clear hgd HGd HRC
    go_wp2_with (go_at_call 47; refine hgu.mono ?_; rintro e w3 ⟨rfl, hb3⟩)
    go_ret2
    exact ⟨rfl, HBW2.out.trans (hb3.mono HBW2.out.size)⟩

set_option maxHeartbeats 1600000 in
set_option maxRecDepth 20000 in
/-- THE CONTRACT OF AfterRule. -/
theorem rafter_any (va vr : Value) (m : Mo) (code rule : Int) (w : World) (hV : ModelV w va vr m) (hz : m.rules.length ≤ 1000000000000000) :
    Calls Tryz.prog 48 #[.agg #[va, vr], .int .i64 code, .int .i64 rule] w fun e w' => e = .returned (.tuple #[.int .i64 (aftN m code rule), .int .i64 (aftC m code rule)]) ∧ Below w.heap.size w w' := by
  have hA : ∀ o, Below w.heap.size w (w.alloc o) := fun o => (Below.refl _ _).alloc (Nat.le_refl _) o
  by_cases hw : wcode m code = 0
  · by_cases hin : 0 ≤ rule ∧ rule < m.rules.length
    · obtain ⟨k, rfl⟩ : ∃ k : Nat, rule = k := ⟨rule.toNat, by omega⟩
      have h := rafter_in va vr m code k w hV hw (by omega)
      unfold aftN aftC
      rw [if_pos hw, if_pos hw, if_pos hin, if_pos hin, Int.toNat_natCast]
      exact h
    · have hvl := fun o => rvalues_any va vr m code (w.alloc o) (hV.below (hA o))
      rw [hw] at hvl
      unfold aftN aftC
      rw [if_pos hw, if_pos hw, if_neg hin, if_neg hin]
      have hii := fun w => in_any rule 0 (m.rules.length - 1) w
      rw [decide_eq_false (show ¬ (0 ≤ rule ∧ rule ≤ (m.rules.length : Int) - 1) by omega)] at hii
      obtain ⟨ao, cap, rfl⟩ := hV.1.shape
      obtain ⟨ro, rc, rfl⟩ := hV.2.shape
      generalize wvals m code = vals at hvl
      generalize m.vars.length = n at *
      generalize m.rules.length = rn at *
      clear hV hw hin
      go_enter Tryz.func48, Tryz.ntmps48
      go_wp2_with (first | (go_at_call 46; refine (hvl _).mono ?_; rintro e w1 ⟨v, rfl, hb1, hI⟩; have k11 : w1.cell? ⟨w.heap.size, 1, none⟩ = some (.slice ro rn rc) := (hb1.cell (p := ⟨w.heap.size, 1, none⟩) (by simp)).trans (by simp [go_sem])) | (go_at_call 22; refine (hii _).mono ?_; rintro e w9 ⟨rfl, rfl⟩))
      go_ret2
      exact ⟨rfl, (hA _).trans (hb1.mono (hA _).size)⟩
  · have hvl := fun o => rvalues_any va vr m code (w.alloc o) (hV.below (hA o))
    unfold aftN aftC
    rw [if_neg hw, if_neg hw]
    obtain ⟨ao, cap, rfl⟩ := hV.1.shape
    obtain ⟨ro, rc, rfl⟩ := hV.2.shape
    generalize wvals m code = vals at hvl
    generalize wcode m code = c at *
    generalize m.vars.length = n at *
    generalize m.rules.length = rn at *
    clear hV
    go_enter Tryz.func48, Tryz.ntmps48
    go_wp2_with (go_at_call 46; refine (hvl _).mono ?_; rintro e w1 ⟨v, rfl, hb1, hI⟩)
    go_ret2
    exact ⟨rfl, (hA _).trans (hb1.mono (hA _).size)⟩
end Go.Proofs.YtdlpmomohbdpgaaGreatDoor

/-
  The contract of the document's own LetterOf.
-/
namespace Go.Proofs.YtdlpmomohbdpgaaGreatDoor
open Go.ChangeShapes Go.WideShapes Go.ChangeAt Go.RowKit Go.Deep
open Terms Tm
theorem rowTy_owns {w : World} {base n : Nat} {v : Value} {t : TypeId} {s : Nat} {xs : List Value} (h : w.ownsRow base t s v n xs) : RowTy w v t := by
  intro a k c e
  rcases h.2 with ⟨h0, _⟩ | ⟨g, cap, cur, h1, _, h3, _⟩
  · rw [h0] at e; simp at e
  · rw [h1] at e
    injection e with e _ _
    injection e with e
    subst e
    exact ⟨cur, _, h3⟩


set_option maxHeartbeats 3200000 in
set_option maxRecDepth 20000 in
/-- THE CONTRACT OF LetterOf. -/
theorem rletter_own (va vr pv : Value) (m : Mo) (ps : List (List (Int × Int))) (code : Int) (w : World) (hlz : ps.length * 24 ≤ 140737488355328) (hV : ModelV w va vr m) (hP : TermsV w pv ps) :
    Calls Tryz.prog 23 #[.agg #[va, vr], pv, .int .i64 code] w fun e w' => ∃ v, e = .returned (.tuple #[v, .int .i64 (letC m ps code)]) ∧ Below w.heap.size w w' ∧ BoolsV w' v (letL m ps code) ∧ RowTy w' v 4 := by
  have hA : ∀ o, Below w.heap.size w (w.alloc o) := fun o => (Below.refl _ _).alloc (Nat.le_refl _) o
  have hpr := fun o => rprops_any va vr pv m ps (w.alloc o) hlz (hV.below (hA o)) (hP.below (hA o))
  have hvl := fun w' (hb : Below w.heap.size w w') => rvalues_any va vr m code w' (hV.below hb)
  obtain ⟨ao, cap, rfl⟩ := hV.1.shape
  obtain ⟨ro, rc, rfl⟩ := hV.2.shape
  obtain ⟨po, pc, rfl, hPa⟩ := hP
  by_cases hp : pcode m ps = 0
  · obtain ⟨hm, hp6⟩ := pcode_m hp
    rw [hp] at hpr
    by_cases hw : wcode m code = 0
    · have hlc : letC m ps code = 0 := by unfold letC; rw [if_pos hp, hw]
      have hll : letL m ps code = ps.map (fun p => holdsB p (valsL m.vars code)) := by unfold letL; rw [if_pos hlc]
      rw [hlc, hll]
      rw [hw, show wvals m code = valsL m.vars code by unfold wvals; rw [if_pos hw]] at hvl
      generalize valsL m.vars code = env at hvl ⊢
      have HEx : Hid (∀ w' v ev l, OpsV w' v l → IntsV w' ev env → Calls Tryz.prog 47 #[v, ev] w' fun e w2 => e = .returned (.tuple #[.int .i64 (exN l env), .int .i64 (exC l env)]) ∧ Below w'.heap.size w' w2) := fun w' v ev l h1 h2 => rex_any v ev l env w' h1 h2
      have HP : Hid (ps ≠ [] → ∃ b off, po = some ⟨b, off, none⟩ ∧ b < w.heap.size ∧ ∀ i, i < ps.length → ∃ u, w.cell? ⟨b, off + i, none⟩ = some u ∧ OpsV w u (ps.getD i [])) := hPa
      have HML : Hid (∀ k, k < ps.length → bvals ((ps.take (k + 1)).map (fun p => holdsB p env)) = bvals ((ps.take k).map (fun p => holdsB p env)) ++ [.bool (decide (exC (ps.getD k []) env = 0) && decide (exN (ps.getD k []) env = 1))]) := fun k hk => by
        rw [List.take_succ_eq_append_getElem hk, show ps[k] = ps.getD k [] by simp [List.getD_eq_getElem?_getD, hk]]
        unfold bvals
        rw [List.map_append, List.map_append]
        rfl
      obtain ⟨pn, hpn⟩ : ∃ pn, pn = ps.length := ⟨_, rfl⟩
      have HPN : Hid (pn = ps.length) := hpn
      rw [← hpn] at hpr hp6 HP HML ⊢
      generalize m.vars.length = n at *
      generalize m.rules.length = rn at *
      obtain ⟨i0, hi, hz0, hz1, hz2⟩ := info_parts infoBool
      clear hV hlc hll hPa hpn hw hm hp hlz
      go_enter Tryz.func23, Tryz.ntmps23
      go_wp2_with (first | (go_at_call 42; refine (hpr _).mono ?_; rintro e w1 ⟨rfl, hb1⟩; have hbw1 := (hA _).trans (hb1.mono (hA _).size); have k10 : w1.cell? ⟨w.heap.size, 0, none⟩ = some (.slice ao n cap) := (hb1.cell (p := ⟨w.heap.size, 0, none⟩) (by simp)).trans (by simp [go_sem]); have k11 : w1.cell? ⟨w.heap.size, 1, none⟩ = some (.slice ro rn rc) := (hb1.cell (p := ⟨w.heap.size, 1, none⟩) (by simp)).trans (by simp [go_sem])) | (go_at_call 46; refine (hvl _ hbw1).mono ?_; rintro e w3 ⟨v, rfl, hb3, hI3⟩; obtain ⟨vo, vc, rfl⟩ := hI3.shape))
      have hbw3 := hbw1.trans (hb3.mono hbw1.size)
      have HI3 : Hid (IntsV w3 (.slice vo env.length vc) env) := hI3
      have HB3 : Hid (Below w.heap.size w w3) := hbw3
      clear hpr hvl hb1 hbw1 k10 k11 hb3 hI3 hbw3
      go_loopw [10, 11] (fun out i wr => ∃ k : Nat, k ≤ pn ∧ i = .int .i64 k ∧ Hid (wr.ownsRow w3.heap.size 4 1 out k (bvals ((ps.take k).map (fun p => holdsB p env)))) ∧ Hid (Below w3.heap.size w3 wr)) (fun _ i _ => pn - (intOf i).toNat)
      case atStart => exact ⟨0, Nat.zero_le _, rfl, World.ownsRow_nil _ _ _ _, Below.refl _ _⟩
      case round =>
        obtain ⟨k, hk, rfl, HOwn, HBel⟩ := hrel
        have hbel := HBel.out
        have hbw := HB3.out.trans (hbel.mono HB3.out.size)
        by_cases hlt : k < pn
        · obtain ⟨b, off, rfl, hblt, hat⟩ := HP.out (by intro h; have := HPN.out; subst h; simp at this; omega)
          obtain ⟨u, hu, hou⟩ := hat k hlt
          have c0 := (hbel.cell (p := ⟨b, off + k, none⟩) (Nat.lt_of_lt_of_le hblt HB3.out.size)).trans ((HB3.out.cell (p := ⟨b, off + k, none⟩) hblt).trans hu)
          obtain ⟨uo, uc, rfl⟩ := hou.shape
          have hex := HEx.out wr _ _ _ (hou.below hbw) (HI3.out.below hbel)
          have HLk := (show Hid _ from HML.out k hlt)
          generalize exN (ps.getD k []) env = N at hex HLk
          generalize exC (ps.getD k []) env = C at hex HLk
          generalize (ps.getD k []).length = ul at *
          have hown := HOwn.out
          have hnb := hown.lt
          obtain ⟨oo, oc, rfl⟩ := owns_slice hown
          have h63 : k + 1 ≤ maxLen := by unfold maxLen; omega
          have hkb : (k + 1) * 1 ≤ 140737488355328 := by omega
          clear hat hu hou HEx HP HML
          by_cases hC : C = 0
          · have HEl : Hid (bvals ((ps.take (k + 1)).map (fun p => holdsB p env)) = bvals ((ps.take k).map (fun p => holdsB p env)) ++ [.bool (N == 1)]) := by
              show _ = _
              rw [HLk.out, hC]
              rfl
            subst hC
            clear HLk
            go_wp2_with (first | (go_at_call 47; refine hex.mono ?_; rintro e w4 ⟨rfl, hb4⟩; have hb34 := hbel.trans (hb4.mono hbel.size); have hown3 := fun o => (owns_later hown hb4 (Nat.le_refl _)).alloc o; have hbase : ∀ o, w3.heap.size ≤ (w4.alloc o).heap.size := (fun o => by have := hb34.size; simp; omega)) | (at_builtin; refine wpList_append_own _ rfl (.tmp 44) (.tmp 51) 61 rfl w3.heap.size 4 i0 (.bool false) 1 1 Tryz.underlying61 hi hz0 hz1 hz2 rfl (by decide) _ k _ rfl (hown3 _) ⟨w4.heap.size, 0, none⟩ 1 1 [.bool (N == 1)] rfl rfl (cell_one_new _ _ _) (by intro u hu; simp at hu; subst hu; rfl) h63 hkb (hbase _) ?_; intro v' w5 hown' hgrow _))
            have hb5 : Below w3.heap.size w3 w5 := (hb34.alloc hb34.size _).grown hgrow (hbase _) (fun z hz => (hnb z hz).1)
            have HO5 : Hid (w5.ownsRow w3.heap.size 4 1 v' (k + 1) (bvals ((ps.take (k + 1)).map (fun p => holdsB p env)))) := by
              show World.ownsRow _ _ _ _ _ _ _
              rw [HEl.out]
              exact hown'
            clear hown' hgrow hown3
            exact ⟨⟨k + 1, hlt, by first | rfl | simp, HO5.out, hb5⟩, by simp [intOf]; omega⟩
          · have HEl : Hid (bvals ((ps.take (k + 1)).map (fun p => holdsB p env)) = bvals ((ps.take k).map (fun p => holdsB p env)) ++ [.bool false]) := by
              show _ = _
              rw [HLk.out, decide_eq_false hC]
              rfl
            clear HLk
            go_wp2_with (first | (go_at_call 47; refine hex.mono ?_; rintro e w4 ⟨rfl, hb4⟩; have hb34 := hbel.trans (hb4.mono hbel.size); have hown3 := fun o => (owns_later hown hb4 (Nat.le_refl _)).alloc o; have hbase : ∀ o, w3.heap.size ≤ (w4.alloc o).heap.size := (fun o => by have := hb34.size; simp; omega)) | (at_builtin; refine wpList_append_own _ rfl (.tmp 44) (.tmp 51) 61 rfl w3.heap.size 4 i0 (.bool false) 1 1 Tryz.underlying61 hi hz0 hz1 hz2 rfl (by decide) _ k _ rfl (hown3 _) ⟨w4.heap.size, 0, none⟩ 1 1 [.bool false] rfl rfl (cell_one_new _ _ _) (by intro u hu; simp at hu; subst hu; rfl) h63 hkb (hbase _) ?_; intro v' w5 hown' hgrow _))
            have hb5 : Below w3.heap.size w3 w5 := (hb34.alloc hb34.size _).grown hgrow (hbase _) (fun z hz => (hnb z hz).1)
            have HO5 : Hid (w5.ownsRow w3.heap.size 4 1 v' (k + 1) (bvals ((ps.take (k + 1)).map (fun p => holdsB p env)))) := by
              show World.ownsRow _ _ _ _ _ _ _
              rw [HEl.out]
              exact hown'
            clear hown' hgrow hown3
            exact ⟨⟨k + 1, hlt, by first | rfl | simp, HO5.out, hb5⟩, by simp [intOf]; omega⟩
        · have hkn : k = pn := by omega
          subst hkn
          have hown := HOwn.out
          rw [List.take_of_length_le (by rw [← HPN.out]; omega)] at hown
          obtain ⟨oo, oc, rfl⟩ := owns_slice hown
          have HTy : Hid (RowTy wr (.slice oo k oc) 4) := rowTy_owns hown
          have hbo : BoolsV wr (.slice oo k oc) (ps.map (fun p => holdsB p env)) := boolsV_of_owns (by rw [show (ps.map (fun p => holdsB p env)).length = k by simp [HPN.out]]; exact hown)
          have HBO := (show Hid _ from hbo)
          clear hown hbo
          go_wp2_with fail
          go_ret2
          exact ⟨_, rfl, hbw, HBO.out, HTy.out⟩
    · have hlc : letC m ps code = wcode m code := by unfold letC; rw [if_pos hp]
      have hll : letL m ps code = [] := by unfold letL; rw [if_neg (by rw [hlc]; exact hw)]
      rw [hlc, hll]
      generalize wcode m code = c at *
      generalize wvals m code = vs at *
      generalize m.vars.length = n at *
      generalize m.rules.length = rn at *
      generalize ps.length = pn at *
      clear hV hlc hll hPa
      go_enter Tryz.func23, Tryz.ntmps23
      go_wp2_with (first | (go_at_call 42; refine (hpr _).mono ?_; rintro e w1 ⟨rfl, hb1⟩; have hbw1 := (hA _).trans (hb1.mono (hA _).size); have k10 : w1.cell? ⟨w.heap.size, 0, none⟩ = some (.slice ao n cap) := (hb1.cell (p := ⟨w.heap.size, 0, none⟩) (by simp)).trans (by simp [go_sem]); have k11 : w1.cell? ⟨w.heap.size, 1, none⟩ = some (.slice ro rn rc) := (hb1.cell (p := ⟨w.heap.size, 1, none⟩) (by simp)).trans (by simp [go_sem])) | (go_at_call 46; refine (hvl _ hbw1).mono ?_; rintro e w3 ⟨v, rfl, hb3, _⟩))
      go_ret2
      exact ⟨_, rfl, hbw1.trans (hb3.mono hbw1.size), ⟨none, 0, rfl, fun h => absurd rfl h⟩, RowTy.nil _ _⟩
  · have hlc : letC m ps code = pcode m ps := by unfold letC; rw [if_neg hp]
    have hll : letL m ps code = [] := by unfold letL; rw [if_neg (by rw [hlc]; exact hp)]
    rw [hlc, hll]
    generalize pcode m ps = c at *
    generalize m.vars.length = n at *
    generalize m.rules.length = rn at *
    generalize ps.length = pn at *
    clear hV hlc hll hPa
    go_enter Tryz.func23, Tryz.ntmps23
    go_wp2_with (go_at_call 42; refine (hpr _).mono ?_; rintro e w1 ⟨rfl, hb1⟩)
    go_ret2
    exact ⟨_, rfl, (hA _).trans (hb1.mono (hA _).size), ⟨none, 0, rfl, fun h => absurd rfl h⟩, RowTy.nil _ _⟩
theorem rletter_any (va vr pv : Value) (m : Mo) (ps : List (List (Int × Int))) (code : Int) (w : World) (hlz : ps.length * 24 ≤ 140737488355328) (hV : ModelV w va vr m) (hP : TermsV w pv ps) :
    Calls Tryz.prog 23 #[.agg #[va, vr], pv, .int .i64 code] w fun e w' => ∃ v, e = .returned (.tuple #[v, .int .i64 (letC m ps code)]) ∧ Below w.heap.size w w' ∧ BoolsV w' v (letL m ps code) :=
  (rletter_own va vr pv m ps code w hlz hV hP).mono fun _ _ ⟨v, h1, h2, h3, _⟩ => ⟨v, h1, h2, h3⟩
end Go.Proofs.YtdlpmomohbdpgaaGreatDoor

/-
  The contracts of the document's own secondAt, truthAt and TruthsOf.
-/
namespace Go.Proofs.YtdlpmomohbdpgaaGreatDoor
open Go.ChangeShapes Go.WideShapes Go.ChangeAt Go.RowKit Go.Deep
open Terms

theorem rsec_any (b off cap p : Nat) (l : List (Int × Int)) (w : World) (h60 : l.length ≤ 60) (hz : endsCode (l.map Prod.fst) = 0) (hp : p < l.length) (h2 : pn (l.getD p (0, 0)).1 = 2) (hat : OpsAt w b off l) :
    Calls Tryz.prog 51 #[.slice (some ⟨b, off, none⟩) l.length cap, .int .i64 (p : Int)] w fun e w' => e = .returned (.int .i64 (sec l p : Int)) ∧ w' = w := by
  obtain ⟨h1, hs⟩ := part_in hz hp
  have hp1 := h1 (by omega)
  obtain ⟨_, hc⟩ := code_zero hz
  rw [List.length_map] at hc
  obtain ⟨m, hm, hm1, hml⟩ := cnt_in (l.map Prod.fst) 1 l.length (p + 1) hc hp1
  have hks : KindsAt w b off (l.map Prod.fst) := fun i hi => by
    rw [List.length_map] at hi
    rw [(hat i hi).1]
    simp [List.getD_eq_getElem?_getD, hi]
  have hen := endOf_any b off l.length cap (p + 1) (l.map Prod.fst) w h60 (by rw [List.length_map]) (by omega) hks
  have hsec : sec l p = p + 1 + m := by unfold sec; exact endAt_ok hm
  rw [hm] at hen
  rw [hsec]
  have hpc : ((p + 1 : Nat) : Int) = (p : Int) + 1 := by omega
  simp only [endOfVal] at hen
  rw [hpc] at hen
  generalize ((p + 1 + m : Nat) : Int) = z at *
  generalize l.length = n at *
  clear hat hks hc hm hs h1 h2 hsec hpc
  go_enter Tryz.func51, Tryz.ntmps51
  go_wp2_with (go_at_call 71; refine hen.mono ?_; rintro e w1 ⟨rfl, rfl⟩)
  go_ret
  exact ⟨rfl, rfl⟩

theorem kind_ok {l : List (Int × Int)} (hz : endsCode (l.map Prod.fst) = 0) {p : Nat} (hp : p < l.length) : 1 ≤ (l.getD p (0, 0)).1 ∧ (l.getD p (0, 0)).1 ≤ 18 := by
  obtain ⟨_, hc⟩ := code_zero hz
  rw [List.length_map] at hc
  obtain ⟨m, hm, _, _⟩ := cnt_in (l.map Prod.fst) 1 l.length p hc hp
  have ha := cnt_at (ks := l.map Prod.fst) (q := p) (by rw [List.length_map]; exact hp)
  rw [hm] at ha
  have hget : (l.map Prod.fst).getD p 0 = (l.getD p (0, 0)).1 := by simp [List.getD_eq_getElem?_getD, hp]
  rw [hget] at ha
  split at ha
  · rename_i hk; simpa [okK] using hk
  · simp at ha

/-- what truthAt stands on. -/
structure TruIn (w : World) (v lv av : Value) (l : List (Int × Int)) (letter : List Bool) : Prop where
  ops : OpsV w v l
  letter : BoolsV w lv letter
  ahead : IntsV w av (aheadL l)
theorem TruIn.below {w w' : World} {v lv av : Value} {l : List (Int × Int)} {letter : List Bool} (h : TruIn w v lv av l letter) (hb : Below w.heap.size w w') : TruIn w' v lv av l letter := ⟨h.ops.below hb, h.letter.below hb, h.ahead.below hb⟩

set_option maxHeartbeats 1600000 in
set_option maxRecDepth 20000 in
theorem truthAt_look (b off n cap : Nat) (lo : Option Addr) (ln lc : Nat) (aao : Option Addr) (an ac : Nat) (kx : Int) (hk : 14 ≤ kx ∧ kx ≤ 18) (p : Nat) (hpn : p < n) (l : List (Int × Int)) (claim : Int) (w : World) (h0 : 0 ≤ claim) (h64 : claim < 64) (han : an ≤ 6)
    (c0 : w.cell? ⟨b, off + p * 2, none⟩ = some (.int .i64 kx)) (hA : an = (aheadL l).length) (hav : IntsV w (.slice aao an ac) (aheadL l)) (hpl : p < l.length) (hlk : lookB (l.getD p (0, 0)).1 = true) :
    Calls Tryz.prog 70 #[.slice (some ⟨b, off, none⟩) n cap, .int .i64 (p : Int), .slice lo ln lc, .slice aao an ac, .int .i64 claim] w fun e w' => e = .returned (.bool (bitB claim (aheadTo l p).length)) ∧ Below w.heap.size w w' := by
  have hlt := aheadTo_lt l hpl hlk
  obtain ⟨ao', ac', hsl, hai⟩ := hav
  injection hsl with e1 e2 e3
  subst e1
  obtain ⟨ab, aoff, rfl, habl, haat⟩ := hai (by intro h; rw [show aheadTo l l.length = aheadL l from rfl, h] at hlt; simp at hlt)
  have HG : Hid (∀ k, k < an → ∃ q : Nat, w.cell? ⟨ab, aoff + k, none⟩ = some (.int .i64 (q : Int)) ∧ (q = p ↔ k = (aheadTo l p).length)) := fun k hk => by
    obtain ⟨q, h1, h2, h3, h4⟩ := aheadTo_get l l.length k (by unfold aheadL at hA; omega)
    refine ⟨q, by rw [haat k (by omega)]; exact congrArg (fun z => some (Value.int .i64 z)) h1, fun e => by rw [← e]; exact h4.symm, fun e => ?_⟩
    rcases Nat.lt_trichotomy q p with h | h | h
    · have := aheadTo_lt l h h3; omega
    · exact h
    · have := aheadTo_lt l h hlk; omega
  have hia : (aheadTo l p).length < an := by unfold aheadL at hA; omega
  generalize (aheadTo l p).length = ix at *
  have e13 : ¬ kx = 13 := by omega
  have e11 : ¬ kx = 11 := by omega
  have e12 : ¬ kx = 12 := by omega
  have e10 : ¬ kx = 10 := by omega
  have e8 : ¬ kx = 8 := by omega
  have e9 : ¬ kx = 9 := by omega
  clear hk hai haat hlk hpl hlt hA e2 e3
  go_enter Tryz.func70, Tryz.ntmps70
  go_wp2_with fail
  go_loop [4, 13] (fun c i => ∃ k : Nat, k ≤ ix ∧ i = .int .i64 (k : Int) ∧ c = .int .i64 (claim / 2 ^ k)) (fun _ i => an - (intOf i).toNat)
  case atStart => exact ⟨0, Nat.zero_le _, rfl, by simp⟩
  case round =>
    obtain ⟨k, hk, rfl, rfl⟩ := hrel
    obtain ⟨q, hq, hqi⟩ := HG.out k (by omega)
    have h2 : (0 : Int) < 2 ^ k := Int.pow_pos (by decide)
    have h3 : 0 ≤ claim / 2 ^ k := Int.ediv_nonneg h0 (Int.le_of_lt h2)
    have h4 : claim / 2 ^ k < 64 := Int.lt_of_le_of_lt (Int.ediv_le_self _ h0) h64
    have HD : Hid (claim / 2 ^ (k + 1) = claim / 2 ^ k / 2) := by show _ = _; rw [Int.pow_succ]; first | exact (Int.ediv_ediv (Int.le_of_lt h2)).symm | exact (Int.ediv_ediv_of_nonneg (Int.le_of_lt h2)).symm | exact (Int.ediv_ediv_eq (Int.le_of_lt h2)).symm
    have HB : Hid (bitB claim k = decide (claim / 2 ^ k % 2 = 1)) := rfl
    generalize claim / 2 ^ k = cl at *
    have hka : k < an := by omega
    clear h2
    by_cases hqp : q = p
    · have hki := hqi.1 hqp
      have HKI : Hid (k = ix) := hki
      subst hqp
      clear hki hqi HG
      go_wp2_with fail
      go_ret
      rw [← HKI.out, HB.out]
      exact ⟨rfl, Below.refl _ _⟩
    · have hki : k ≠ ix := fun e => hqp (hqi.2 e)
      have hne : ¬ (q : Int) = p := by omega
      have hlt' : k < ix := by omega
      clear hki hqi HG hqp
      go_wp2_with fail
      exact ⟨⟨k + 1, hlt', by first | rfl | simp, by rw [HD.out]⟩, by simp [intOf]; omega⟩

set_option maxHeartbeats 1600000 in
set_option maxRecDepth 20000 in
/-- THE CONTRACT OF the document's truthAt. -/
theorem truthAt_any (l : List (Int × Int)) (letter : List Bool) (claim : Int) (hc : lcode letter.length l = 0) (h0 : 0 ≤ claim) (h64 : claim < 64) : ∀ (m p : Nat) (w : World) (v lv av : Value), l.length ≤ m + p → p < l.length → TruIn w v lv av l letter →
    Calls Tryz.prog 70 #[v, .int .i64 (p : Int), lv, av, .int .i64 claim] w fun e w' => e = .returned (.bool (tru l letter claim p)) ∧ Below w.heap.size w w' := by
  obtain ⟨hp0, hp6, hz, hlf, h6⟩ := lcode_zero hc
  obtain ⟨hne, h60⟩ := ends_ne hz
  rw [List.length_map] at h60
  intro m
  induction m with
  | zero => intro p w v lv av hm hp; omega
  | succ m ih =>
    intro p w v lv av hm hp hI
    obtain ⟨ao, cap, rfl, _, hv⟩ := id hI.ops
    obtain ⟨b, off, rfl, hbl, hat⟩ := hv (by rintro rfl; exact hne rfl)
    obtain ⟨lo, lc, rfl, hl⟩ := id hI.letter
    obtain ⟨aao, ac, rfl, ha⟩ := id hI.ahead
    obtain ⟨c0, c1⟩ := hat p hp
    have hop := lfirst_all hlf p hp
    have hko := kind_ok hz hp
    obtain ⟨hq1, hq2⟩ := part_in hz hp
    cases hb : lookB (l.getD p (0, 0)).1 with
    | true =>
      rw [tru_look hp hb]
      have hk : 14 ≤ (l.getD p (0, 0)).1 ∧ (l.getD p (0, 0)).1 ≤ 18 := by simpa [lookB] using hb
      exact truthAt_look b off l.length cap lo _ lc aao _ ac _ hk p hp l claim w h0 h64 h6 c0 rfl hI.ahead hp hb
    | false =>
      have HE : Hid (tru l letter claim p = mkB (l.getD p (0, 0)) letter (tru l letter claim (p + 1)) (tru l letter claim (sec l p))) := tru_mk hp hb (fun h => (hq2 h).1)
      have hsc := rsec_any b off cap p l
      have ihp : p + 1 < l.length → ∀ w', Below w.heap.size w w' → Calls Tryz.prog 70 #[.slice (some ⟨b, off, none⟩) l.length cap, .int .i64 ((p : Int) + 1), .slice lo letter.length lc, .slice aao (aheadL l).length ac, .int .i64 claim] w' fun e w2 => e = .returned (.bool (tru l letter claim (p + 1))) ∧ Below w'.heap.size w' w2 := fun h w' hb' => by
        have := ih (p + 1) w' _ _ _ (by omega) h (hI.below hb')
        rw [show ((p + 1 : Nat) : Int) = (p : Int) + 1 by omega] at this
        exact this
      have ihs : pn (l.getD p (0, 0)).1 = 2 → ∀ w', Below w.heap.size w w' → Calls Tryz.prog 70 #[.slice (some ⟨b, off, none⟩) l.length cap, .int .i64 (sec l p : Int), .slice lo letter.length lc, .slice aao (aheadL l).length ac, .int .i64 claim] w' fun e w2 => e = .returned (.bool (tru l letter claim (sec l p))) ∧ Below w'.heap.size w' w2 := fun h w' hb' => ih (sec l p) w' _ _ _ (by have := (hq2 h).1; omega) (hq2 h).2 (hI.below hb')
      have hss : pn (l.getD p (0, 0)).1 = 2 → ∀ w', Below w.heap.size w w' → Calls Tryz.prog 51 #[.slice (some ⟨b, off, none⟩) l.length cap, .int .i64 (p : Int)] w' fun e w2 => e = .returned (.int .i64 (sec l p : Int)) ∧ w2 = w' := fun h w' hb' => rsec_any b off cap p l w' h60 hz hp h (hat.below hb' hbl)
      generalize tru l letter claim (p + 1) = ta at *
      generalize tru l letter claim (sec l p) = tb at *
      generalize tru l letter claim p = tp at *
      generalize l.getD p (0, 0) = xy at *
      obtain ⟨kx, vx⟩ := xy
      simp only at c0 c1 hb hop hq1 hq2 ihs hss hko
      have hk8 : 8 ≤ kx := by
        simp only [lopErr] at hop
        split at hop
        · omega
        · omega
      generalize (sec l p : Int) = sp at *
      rw [HE.out]
      have hlf13 : kx = 13 → 0 ≤ vx ∧ vx < letter.length := fun e => by
        simp only [lopErr] at hop
        rw [if_neg (by omega), if_pos e] at hop
        split at hop
        · omega
        · omega
      generalize (aheadL l).length = an at *
      clear hv ha hop hI hsc ih HE
      by_cases e13 : kx = 13
      · subst e13
        obtain ⟨hv0, hv1⟩ := hlf13 rfl
        obtain ⟨vn, rfl⟩ : ∃ vn : Nat, vx = vn := ⟨vx.toNat, by omega⟩
        obtain ⟨lb, loff, rfl, hlbl, hlat⟩ := hl (by intro h; rw [h] at hv1; simp at hv1; omega)
        have hcl := hlat vn (by omega)
        rw [show mkB (13, (vn : Int)) letter ta tb = letter.getD vn false by simp [mkB]]
        generalize letter.getD vn false = x at *
        generalize letter.length = ln at *
        generalize l.length = n at *
        have hvl : vn < ln := by omega
        clear hlat hl hlf13 hv0 hv1 ihp ihs hss hq1 hq2
        go_enter Tryz.func70, Tryz.ntmps70
        go_wp2_with fail
        go_ret
        exact ⟨rfl, Below.refl _ _⟩
      · generalize hln : letter.length = ln at *
        generalize hnn : l.length = n at *
        clear hl hlf13 hat
        by_cases e11 : kx = 11
        · subst e11
          rw [show mkB (11, vx) letter ta tb = true by simp [mkB]]
          clear ihp ihs hss hq1 hq2
          go_enter Tryz.func70, Tryz.ntmps70
          go_wp2_with fail
          go_ret
          exact ⟨rfl, Below.refl _ _⟩
        · by_cases e12 : kx = 12
          · subst e12
            rw [show mkB (12, vx) letter ta tb = false by simp [mkB]]
            clear ihp ihs hss hq1 hq2
            go_enter Tryz.func70, Tryz.ntmps70
            go_wp2_with fail
            go_ret
            exact ⟨rfl, Below.refl _ _⟩
          · by_cases e10 : kx = 10
            · subst e10
              rw [show mkB (10, vx) letter ta tb = !ta by simp [mkB]]
              have hc1 := ihp (hq1 (by decide)) w (Below.refl _ _)
              clear ihp ihs hss hq1 hq2
              go_enter Tryz.func70, Tryz.ntmps70
              go_wp2_with (go_at_call 70; refine hc1.mono ?_; rintro e w1 ⟨rfl, hb1⟩)
              go_ret
              exact ⟨rfl, hb1⟩
            · by_cases e89 : kx = 8 ∨ kx = 9
              · have hpn2 : pn kx = 2 := by rcases e89 with rfl | rfl <;> rfl
                have hc1 := ihp (hq1 (by omega)) w (Below.refl _ _)
                have hc2 := ihs hpn2
                have hc3 := hss hpn2
                have HM : Hid (mkB (kx, vx) letter ta tb = if kx = 8 then (ta && tb) else (ta || tb)) := by show _ = _; rcases e89 with rfl | rfl <;> simp [mkB]
                rw [HM.out]
                clear ihp ihs hss hq1 hq2 hpn2 HM
                rcases e89 with rfl | rfl
                · cases ta <;> cases tb
                  all_goals
                    go_enter Tryz.func70, Tryz.ntmps70
                    go_wp2_with (first | (go_at_call 51; refine (hc3 _ hb1).mono ?_; rintro e w2 ⟨rfl, hw2⟩; obtain rfl := hw2.symm) | (go_at_call 70; refine hc1.mono ?_; clear hc1; rintro e w1 ⟨rfl, hb1⟩; have hk1 := (hb1.cell (p := ⟨b, off + p * 2, none⟩) hbl).trans c0; have hc4 := hc2 _ hb1) | (go_at_call 70; refine hc4.mono ?_; clear hc4; rintro e w3 ⟨rfl, hb3⟩; have hb13 := hb1.trans (hb3.mono hb1.size); have hk3 := (hb13.cell (p := ⟨b, off + p * 2, none⟩) hbl).trans c0))
                    all_goals go_ret
                    all_goals exact ⟨by first | rfl | simp, hb13⟩
                · cases ta <;> cases tb
                  all_goals
                    go_enter Tryz.func70, Tryz.ntmps70
                    go_wp2_with (first | (go_at_call 51; refine (hc3 _ hb1).mono ?_; rintro e w2 ⟨rfl, hw2⟩; obtain rfl := hw2.symm) | (go_at_call 70; refine hc1.mono ?_; clear hc1; rintro e w1 ⟨rfl, hb1⟩; have hk1 := (hb1.cell (p := ⟨b, off + p * 2, none⟩) hbl).trans c0; have hc4 := hc2 _ hb1) | (go_at_call 70; refine hc4.mono ?_; clear hc4; rintro e w3 ⟨rfl, hb3⟩; have hb13 := hb1.trans (hb3.mono hb1.size); have hk3 := (hb13.cell (p := ⟨b, off + p * 2, none⟩) hbl).trans c0))
                    all_goals go_ret
                    all_goals exact ⟨by first | rfl | simp, hb13⟩
              · exfalso
                simp [lookB] at hb
                omega
end Go.Proofs.YtdlpmomohbdpgaaGreatDoor

/-
  The contract of the document's own TruthsOf.
-/
namespace Go.Proofs.YtdlpmomohbdpgaaGreatDoor
open Go.ChangeShapes Go.WideShapes Go.ChangeAt Go.RowKit Go.Deep
open Terms

def truTo (l : List (Int × Int)) (letter : List Bool) (claim : Int) (k : Nat) : List Bool := (List.range k).map (tru l letter claim)
theorem truTo_succ (l : List (Int × Int)) (letter : List Bool) (claim : Int) (k : Nat) : truTo l letter claim (k + 1) = truTo l letter claim k ++ [tru l letter claim k] := by simp [truTo, List.range_succ]
theorem truTo_length (l : List (Int × Int)) (letter : List Bool) (claim : Int) (k : Nat) : (truTo l letter claim k).length = k := by simp [truTo]

set_option maxHeartbeats 1600000 in
set_option maxRecDepth 20000 in
/-- THE CONTRACT OF the document's TruthsOf. -/
theorem rtruths_any (v lv : Value) (l : List (Int × Int)) (letter : List Bool) (claim : Int) (w : World) (hV : OpsV w v l) (hL : BoolsV w lv letter) :
    Calls Tryz.prog 49 #[v, lv, .int .i64 claim] w fun e w' => ∃ v', e = .returned (.tuple #[v', .int .i64 (tcode l letter claim)]) ∧ Below w.heap.size w w' ∧ BoolsV w' v' (truL l letter claim) := by
  have hah := aheadOf_any v l letter.length w hV
  obtain ⟨oo, oc, rfl, _⟩ := id hV
  obtain ⟨lo, lc, rfl, hl⟩ := id hL
  by_cases hc : lcode letter.length l = 0
  · obtain ⟨hp0, hp6, hz, hlf, h6⟩ := lcode_zero hc
    obtain ⟨hne, h60⟩ := ends_ne hz
    rw [List.length_map] at h60
    rw [hc] at hah
    have hal : ahL letter.length l = aheadL l := by unfold ahL; rw [if_pos hc]
    rw [hal] at hah
    have hsh : (2 : Int) ^ (aheadL l).length ≤ 64 := by
      have hcase : (aheadL l).length = 0 ∨ (aheadL l).length = 1 ∨ (aheadL l).length = 2 ∨ (aheadL l).length = 3 ∨ (aheadL l).length = 4 ∨ (aheadL l).length = 5 ∨ (aheadL l).length = 6 := by omega
      rcases hcase with h | h | h | h | h | h | h <;> rw [h] <;> decide
    have HTr : Hid (ClaimNo l claim → False) ∨ Hid (ClaimNo l claim) := by
      by_cases h : ClaimNo l claim
      · exact .inr h
      · exact .inl h
    have HTa : Hid (¬ ClaimNo l claim → ∀ p w' av, p < l.length → TruIn w' (.slice oo l.length oc) (.slice lo letter.length lc) av l letter → Calls Tryz.prog 70 #[.slice oo l.length oc, .int .i64 (p : Int), .slice lo letter.length lc, av, .int .i64 claim] w' fun e w2 => e = .returned (.bool (tru l letter claim p)) ∧ Below w'.heap.size w' w2) := fun hn p w' av hp hI => by
      unfold ClaimNo at hn
      exact truthAt_any l letter claim hc (by omega) (by omega) l.length p w' _ _ _ (by omega) hp hI
    have HCl : Hid (ClaimNo l claim ↔ (claim < 0 ∨ 2 ^ (aheadL l).length ≤ claim)) := Iff.rfl
    have HV : Hid (OpsV w (.slice oo l.length oc) l) := hV
    have HL : Hid (BoolsV w (.slice lo letter.length lc) letter) := hL
    have HTC : Hid (ClaimNo l claim → tcode l letter claim = 2 ∧ truL l letter claim = []) := fun h => ⟨tcode_no hc h, by unfold truL; rw [tcode_no hc h]; rfl⟩
    have HTO : Hid (¬ ClaimNo l claim → tcode l letter claim = 0 ∧ truL l letter claim = truTo l letter claim l.length) := fun h => ⟨tcode_ok hc h, by unfold truL truTo; rw [tcode_ok hc h]; rfl⟩
    generalize tcode l letter claim = x at *
    generalize truL l letter claim = res at *
    have hin := fun w => in_any claim 0 ((2 : Int) ^ (aheadL l).length - 1) w
    obtain ⟨an, han⟩ : ∃ an, an = (aheadL l).length := ⟨_, rfl⟩
    have HAN : Hid (an = (aheadL l).length) := han
    rw [← han] at hah h6 hsh HCl hin
    obtain ⟨n, hn⟩ : ∃ n, n = l.length := ⟨_, rfl⟩
    have HN : Hid (n = l.length) := hn
    rw [← hn] at hah h60 HTa HTO HV ⊢
    generalize letter.length = ln at *
    obtain ⟨i0, hi, hz0, hz1, hz2⟩ := info_parts infoBool
    clear hV hL hl hal hc hz hne hlf han hn hp0 hp6
    go_enter Tryz.func49, Tryz.ntmps49
    go_wp2_with (go_at_call 30; refine hah.mono ?_; rintro e w1 ⟨av, rfl, hb1, ho1⟩; obtain ⟨aao, ac, rfl⟩ := owns_slice ho1)
    have HI1 : Hid (TruIn w1 (.slice oo n oc) (.slice lo ln lc) (.slice aao an ac) l letter) := ⟨HV.out.below hb1, HL.out.below hb1, by have := ho1; rw [HAN.out] at this ⊢; exact intsV_of_owns this⟩
    clear hah ho1
    go_loop [10, 11] (fun ms i => ∃ k : Nat, k ≤ an ∧ i = .int .i64 (k : Int) ∧ ms = .int .i64 (2 ^ k)) (fun _ i => an - (intOf i).toNat)
    case atStart => exact ⟨0, Nat.zero_le _, rfl, rfl⟩
    case round =>
      obtain ⟨k, hk, rfl, rfl⟩ := hrel
      by_cases hlt : k < an
      · have h2 : (2 : Int) ^ k * 2 = 2 ^ (k + 1) := (Int.pow_succ 2 k).symm
        have h3 : (2 : Int) ^ (k + 1) ≤ 64 := by
          have hcase : k = 0 ∨ k = 1 ∨ k = 2 ∨ k = 3 ∨ k = 4 ∨ k = 5 := by omega
          rcases hcase with rfl | rfl | rfl | rfl | rfl | rfl <;> decide
        have h4 : (0 : Int) < 2 ^ k := Int.pow_pos (by decide)
        have HP : Hid ((2 : Int) ^ k * 2 = 2 ^ (k + 1)) := h2
        rw [← h2] at h3
        generalize (2 : Int) ^ k = pw at *
        clear h2
        go_wp2_with fail
        exact ⟨⟨k + 1, hlt, by first | rfl | simp, by rw [HP.out]⟩, by simp [intOf]; omega⟩
      · obtain rfl : k = an := by omega
        have h4 : (0 : Int) < 2 ^ k := Int.pow_pos (by decide)
        rcases HTr with HNo | HYes
        · have hnc : ¬ (claim < 0 ∨ 2 ^ k ≤ claim) := fun h => HNo.out (HCl.out.2 h)
          obtain ⟨hx0, hrl⟩ := HTO.out (fun h => HNo.out h)
          have HRL : Hid (res = truTo l letter claim n) := hrl
          have HX0 : Hid (x = 0) := hx0
          rw [show decide (0 ≤ claim ∧ claim ≤ 2 ^ k - 1) = true by simp; omega] at hin
          have HTa2 := (show Hid _ from HTa.out (fun h => HNo.out h))
          generalize (2 : Int) ^ k = pw at *
          clear hnc hx0 hrl hlt hk HTO HTC HTa HCl HNo
          go_wp2_with (go_at_call 22; refine (hin _).mono ?_; rintro e wz ⟨rfl, hwz⟩; obtain rfl := hwz.symm)
          go_loopw [12, 13] (fun out i wr => ∃ q : Nat, q ≤ n ∧ i = .int .i64 (q : Int) ∧ Hid (wr.ownsRow w1.heap.size 4 1 out (truTo l letter claim q).length (bvals (truTo l letter claim q))) ∧ Below w1.heap.size w1 wr) (fun _ i _ => n - (intOf i).toNat)
          case atStart => exact ⟨0, Nat.zero_le _, rfl, World.ownsRow_nil _ _ _ _, Below.refl _ _⟩
          case round =>
            obtain ⟨q, hq, rfl, HOw, hbel⟩ := hrel
            have hown := HOw.out
            rw [truTo_length] at hown
            obtain ⟨ro, rc, rfl⟩ := owns_slice hown
            by_cases hlt : q < n
            · have hta := HTa2.out q wr _ hlt (HI1.out.below hbel)
              have HS : Hid (truTo l letter claim (q + 1) = truTo l letter claim q ++ [tru l letter claim q]) := truTo_succ _ _ _ _
              generalize tru l letter claim q = tv at *
              have h63 : q + 1 ≤ maxLen := by unfold maxLen; omega
              have hkb : (q + 1) * 1 ≤ 140737488355328 := by omega
              clear HOw HTa2
              go_wp2_with (first | (go_at_call 70; refine hta.mono ?_; rintro e w3 ⟨rfl, hb3⟩; have ho3 := fun o => (owns_later hown hb3 (Nat.le_refl _)).alloc o; have hb13 := hbel.trans (hb3.mono hbel.size); have hbase : ∀ o, w1.heap.size ≤ (w3.alloc o).heap.size := (fun o => by have := hb13.size; simp; omega)) | (at_builtin; refine wpList_append_own _ rfl _ _ 61 rfl w1.heap.size 4 i0 (.bool false) 1 1 Tryz.underlying61 hi hz0 hz1 hz2 rfl (by decide) _ _ _ rfl (ho3 _) ⟨_, 0, none⟩ 1 1 _ rfl rfl (cell_one_new _ _ _) (by intro u hu; simp at hu; subst hu; rfl) h63 hkb (hbase _) ?_; intro v5 w5 hown5 hgrow5 _; obtain ⟨g5, cp5, rfl⟩ := owns_more hown5))
              have hb5 : Below w1.heap.size w1 w5 := (hb13.alloc hb13.size _).grown hgrow5 (hbase _) (owns_block hown)
              refine ⟨⟨q + 1, hlt, by first | rfl | simp, ?_, hb5⟩, by simp [intOf]; omega⟩
              show World.ownsRow _ _ _ _ _ _ _
              rw [truTo_length, HS.out]
              rw [show bvals (truTo l letter claim q ++ [tv]) = bvals (truTo l letter claim q) ++ [.bool tv] by simp [bvals]]
              exact hown5
            · obtain rfl : q = n := by omega
              have HO2 : Hid (BoolsV wr (.slice ro q rc) (truTo l letter claim q)) := by
                have := HOw.out
                show BoolsV _ _ _
                exact boolsV_of_owns this
              clear HOw hown HTa2
              go_wp2_with fail
              go_ret2
              rw [HX0.out, HRL.out]
              exact ⟨_, rfl, hb1.trans (hbel.mono hb1.size), HO2.out⟩
        · have hnc : claim < 0 ∨ 2 ^ k ≤ claim := HCl.out.1 HYes.out
          obtain ⟨hx0, hrl⟩ := HTC.out HYes.out
          rw [show decide (0 ≤ claim ∧ claim ≤ 2 ^ k - 1) = false by simp; omega] at hin
          generalize (2 : Int) ^ k = pw at *
          subst hx0 hrl
          clear hnc hlt hk HTO HTC HTa HCl HYes
          go_wp2_with (go_at_call 22; refine (hin _).mono ?_; rintro e wz ⟨rfl, hwz⟩; obtain rfl := hwz.symm)
          go_ret2
          exact ⟨_, rfl, hb1, none, 0, rfl, fun h => absurd rfl h⟩
  · have HX : Hid (tcode l letter claim = lcode letter.length l ∧ truL l letter claim = []) := ⟨tcode_bad hc, by unfold truL; rw [if_neg (by rw [tcode_bad hc]; exact hc)]⟩
    rw [HX.out.1, HX.out.2]
    generalize lcode letter.length l = x at *
    generalize letter.length = ln at *
    generalize l.length = n at *
    clear hV hL hl HX
    go_enter Tryz.func49, Tryz.ntmps49
    go_wp2_with (go_at_call 30; refine hah.mono ?_; rintro e w1 ⟨av, rfl, hb1, ho1⟩; obtain ⟨aao, ac, rfl⟩ := owns_slice ho1)
    go_ret2
    exact ⟨_, rfl, hb1, none, 0, rfl, fun h => absurd rfl h⟩
end Go.Proofs.YtdlpmomohbdpgaaGreatDoor

/-
  The document's own: how many claims there are, where runs begin; two lists of spots compared.
-/
namespace Go.Proofs.YtdlpmomohbdpgaaGreatDoor
open Go.ChangeShapes Go.WideShapes Go.ChangeAt Go.RowKit Go.Deep
open Terms Tm

set_option maxHeartbeats 1600000 in
set_option maxRecDepth 20000 in
theorem many_any (va vr pv fv : Value) (m : Mo) (ps : List (List (Int × Int))) (l : List (Int × Int)) (w : World) (hV : TaskV w va vr pv fv m ps l) (hc : tkcode m ps l = 0) :
    Calls Tryz.prog 21 #[.agg #[va, vr, pv, fv]] w fun e w' => e = .returned (.int .i64 ((2 ^ (aheadL l).length : Nat) : Int)) ∧ Below w.heap.size w w' := by
  have hA : ∀ o, Below w.heap.size w (w.alloc o) := fun o => (Below.refl _ _).alloc (Nat.le_refl _) o
  obtain ⟨_, hl0⟩ := tk_zero hc
  have h6 := (lcode_zero hl0).2.2.2.2
  obtain ⟨ao, ac, rfl⟩ := hV.mo.1.shape
  obtain ⟨ro, rc, rfl⟩ := hV.mo.2.shape
  obtain ⟨po, pc, rfl⟩ := hV.ps.shape
  obtain ⟨fo, fc, rfl, _⟩ := id hV.fo
  have hah : Calls Tryz.prog 30 #[.slice fo l.length fc, .int .i64 (ps.length : Int)] (w.alloc (.cells #[.slice ao m.vars.length ac, .slice ro m.rules.length rc, .slice po ps.length pc, .slice fo l.length fc] 29)) fun e w' => ∃ ho hcp, e = .returned (.tuple #[.slice ho (aheadL l).length hcp, .int .i64 0]) ∧ Below (w.alloc (.cells #[.slice ao m.vars.length ac, .slice ro m.rules.length rc, .slice po ps.length pc, .slice fo l.length fc] 29)).heap.size (w.alloc (.cells #[.slice ao m.vars.length ac, .slice ro m.rules.length rc, .slice po ps.length pc, .slice fo l.length fc] 29)) w' := by
    refine (aheadOf_any _ l ps.length _ (hV.fo.below (hA _))).mono fun e w' ⟨av, h1, h2, h3⟩ => ?_
    have e1 : ahL ps.length l = aheadL l := by unfold ahL; rw [if_pos hl0]
    rw [e1] at h3
    obtain ⟨a, c, rfl⟩ := owns_slice h3
    exact ⟨a, c, by rw [h1, hl0], h2⟩
  have hpow : ∀ k : Nat, k ≤ 6 → 2 ^ k ≤ 64 := fun k hk => Nat.pow_le_pow_right (show 0 < 2 by decide) hk
  generalize (aheadL l).length = an at *
  generalize m.vars.length = vn at *
  generalize m.rules.length = rn at *
  generalize ps.length = pn at *
  generalize l.length = fn at *
  clear hV hc hl0
  go_enter Tryz.func21, Tryz.ntmps21
  go_wp2_with (first | (go_at_call 30; refine hah.mono ?_; rintro e w1 ⟨ho, hcp, rfl, hb1⟩; have hbw := (hA _).trans (hb1.mono (hA _).size)))
  go_loopw [5, 6] (fun x i wr => ∃ k n : Nat, k ≤ an ∧ i = .int .i64 k ∧ x = .int .i64 n ∧ Hid (n = 2 ^ k) ∧ wr = w1) (fun _ i _ => an - (intOf i).toNat)
  case atStart => exact ⟨0, 1, Nat.zero_le _, rfl, rfl, rfl, rfl⟩
  case round =>
    obtain ⟨k, n, hk, rfl, rfl, HN, rfl⟩ := hrel
    have hn64 : n ≤ 64 := by rw [HN.out]; exact hpow k (by omega)
    by_cases hlt : k < an
    · have HN2 : Hid (n * 2 = 2 ^ (k + 1)) := by show _ = _; rw [Nat.pow_succ, HN.out]
      clear HN
      go_wp2_with fail
      go_roundw
      case rel => exact ⟨k + 1, n * 2, by omega, by go_num, by go_num, HN2, by trivial⟩
      case measure => simp [intOf]; omega
    · obtain rfl : k = an := by omega
      go_wp2_with fail
      go_ret
      exact ⟨by rw [← HN.out]; rfl, hbw⟩

set_option maxHeartbeats 1600000 in
set_option maxRecDepth 20000 in
theorem sameSpots_true (va vb : Value) (l : List (Int × Int)) (w : World) (hl : l.length ≤ 1048576) (hA : SpV w va l) (hB : SpV w vb l) :
    Calls Tryz.prog 8 #[va, vb] w fun e w' => e = .returned (.bool true) ∧ ∃ n, w' = w.drewN n := by
  obtain ⟨ao, ca, rfl, ha⟩ := hA
  obtain ⟨bo, cb, rfl, hb⟩ := hB
  obtain ⟨n, hn⟩ : ∃ n, l.length = n := ⟨_, rfl⟩
  rw [hn] at hl ⊢
  have HA : Hid (l ≠ [] → ∃ b off, ao = some ⟨b, off, none⟩ ∧ b < w.heap.size ∧ OpsAt w b off l) := ha
  have HB : Hid (l ≠ [] → ∃ b off, bo = some ⟨b, off, none⟩ ∧ b < w.heap.size ∧ OpsAt w b off l) := hb
  have HN : Hid (l.length = n) := hn
  clear ha hb hn
  go_enter Tryz.func8, Tryz.ntmps8
  go_wp2
  go_loopw [5] (fun i wr => ∃ k : Nat, k ≤ n ∧ i = .int .i64 k ∧ ∃ q, wr = w.drewN q) (fun i _ => n - (intOf i).toNat)
  case atStart => exact ⟨0, Nat.zero_le _, rfl, 0, rfl⟩
  case round =>
    obtain ⟨k, hk, rfl, q, rfl⟩ := hrel
    by_cases hlt : k < n
    · have hne : l ≠ [] := by intro h; subst h; have := HN.out; simp at this; omega
      obtain ⟨b, off, rfl, _, hca⟩ := HA.out hne
      obtain ⟨b', off', rfl, _, hcb⟩ := HB.out hne
      obtain ⟨c1, c2⟩ := hca k (by rw [HN.out]; exact hlt)
      obtain ⟨c3, c4⟩ := hcb k (by rw [HN.out]; exact hlt)
      generalize (l.getD k (0, 0)).1 = x at c1 c3
      generalize (l.getD k (0, 0)).2 = y at c2 c4
      clear hca hcb hne
      go_wp2_with fail
      go_quiet (fail)
      go_wp2_with fail
      go_roundw
      case rel => exact ⟨k + 1, by omega, by go_num, _, rfl⟩
      case measure => simp [intOf]; omega
    · go_wp2_with fail
      go_ret
      exact ⟨rfl, q, rfl⟩

set_option maxHeartbeats 3200000 in
set_option maxRecDepth 20000 in
/-- THE CONTRACT OF BeginOf. -/
theorem beginOf_any (va vr pv fv : Value) (m : Mo) (ps : List (List (Int × Int))) (l : List (Int × Int)) (w : World) (hZ : m.vars.length * 40 ≤ 140737488355328) (hp1 : ps.length * 24 ≤ 140737488355328) (hV : TaskV w va vr pv fv m ps l) :
    Calls Tryz.prog 29 #[.agg #[va, vr, pv, fv]] w (BegPost w m ps l) := by
  have hA : ∀ o, Below w.heap.size w (w.alloc o) := fun o => (Below.refl _ _).alloc (Nat.le_refl _) o
  obtain ⟨ao, ac, rfl⟩ := hV.mo.1.shape
  obtain ⟨ro, rc, rfl⟩ := hV.mo.2.shape
  obtain ⟨po, pc, rfl⟩ := hV.ps.shape
  obtain ⟨fo, fc, rfl, _⟩ := id hV.fo
  have hp := taskFault_any _ _ _ _ m ps l _ hp1 (hV.below (hA (.cells #[.slice ao m.vars.length ac, .slice ro m.rules.length rc, .slice po ps.length pc, .slice fo l.length fc] 29)))
  unfold BegPost
  by_cases hc : tkcode m ps l = 0
  · obtain ⟨hp0, hl0⟩ := tk_zero hc
    obtain ⟨hm0, _⟩ := pcode_m hp0
    have h6 := (lcode_zero hl0).2.2.2.2
    have hne := tk_ne hc
    have hnei : (0 : Int) < (l.length : Int) := by omega
    have HFi : Hid (∀ w1, Below w.heap.size w w1 → Calls Tryz.prog 56 #[.agg #[.slice ao m.vars.length ac, .slice ro m.rules.length rc]] w1 fun e w' => e = .returned (.tuple #[.int .i64 (begC m), .int .i64 0]) ∧ Below w1.heap.size w1 w') := fun w1 h => by
      have := rfirst_any _ _ m w1 hZ (hV.mo.below h)
      rw [if_pos hm0, hm0] at this
      exact this
    have HLe : Hid (∀ w1, Below w.heap.size w w1 → Calls Tryz.prog 23 #[.agg #[.slice ao m.vars.length ac, .slice ro m.rules.length rc], .slice po ps.length pc, .int .i64 (begC m)] w1 fun e w' => ∃ lo lc, e = .returned (.tuple #[.slice lo ps.length lc, .int .i64 0]) ∧ Below w1.heap.size w1 w' ∧ Hid (BoolsV w' (.slice lo ps.length lc) (letL m ps (begC m)))) := fun w1 h => by
      refine (rletter_any _ _ _ m ps (begC m) w1 hp1 (hV.mo.below h) (hV.ps.below h)).mono fun e w' ⟨v, h1, h2, h3⟩ => ?_
      obtain ⟨t1, t2⟩ := tk_let hc (tk_beg hc)
      obtain ⟨lo, lc, rfl, hx⟩ := h3
      rw [t2] at h1
      exact ⟨lo, lc, by rw [h1, t1], h2, ⟨lo, lc, by rw [t2], hx⟩⟩
    have HTr : Hid (∀ (k : Nat) (lv : Value) (w1 : World), k < 2 ^ (aheadL l).length → Below w.heap.size w w1 → BoolsV w1 lv (letL m ps (begC m)) → Calls Tryz.prog 49 #[.slice fo l.length fc, lv, .int .i64 (k : Int)] w1 fun e w' => ∃ b off c, e = .returned (.tuple #[.slice (some ⟨b, off, none⟩) l.length c, .int .i64 0]) ∧ Below w1.heap.size w1 w' ∧ w'.cell? ⟨b, off, none⟩ = some (.bool (tru l (letL m ps (begC m)) (k : Int) 0))) := fun k lv w1 hk h hl => by
      refine (rtruths_any _ lv l (letL m ps (begC m)) (k : Int) w1 (hV.fo.below h) hl).mono fun e w' ⟨v, h1, h2, h3⟩ => ?_
      obtain ⟨t1, t2⟩ := tk_tru hc (tk_beg hc) hk
      rw [t2] at h3
      obtain ⟨lo, lc, rfl, hx⟩ := h3
      obtain ⟨b, off, rfl, _, hat⟩ := hx (by intro h0; have := congrArg List.length h0; rw [List.length_map, List.length_range, List.length_nil] at this; omega)
      have c0 := hat 0 (by simpa using hne)
      refine ⟨b, off, lc, by rw [h1, t1]; simp, h2, ?_⟩
      rw [Nat.add_zero] at c0
      rw [c0]
      simp [List.getD_eq_getElem?_getD, hne]
    have HMa : Hid (∀ w1, Below w.heap.size w w1 → Calls Tryz.prog 21 #[.agg #[.slice ao m.vars.length ac, .slice ro m.rules.length rc, .slice po ps.length pc, .slice fo l.length fc]] w1 fun e w' => e = .returned (.int .i64 ((2 ^ (aheadL l).length : Nat) : Int)) ∧ Below w1.heap.size w1 w') := fun w1 h => many_any _ _ _ _ m ps l w1 (hV.below h) hc
    have hq64 : 2 ^ (aheadL l).length ≤ 64 := Nat.pow_le_pow_right (show 0 < 2 by decide) h6
    have HNil : Hid (begTo m ps l 0 = []) := rfl
    have HSt : Hid (∀ k, begTo m ps l (k + 1) = if tru l (letL m ps (begC m)) (k : Int) 0 = true then begTo m ps l k else begTo m ps l k ++ [(begC m, (k : Int))]) := fun k => rfl
    rw [begR_ok hc]
    rw [hc] at hp ⊢
    unfold begL
    generalize begTo m ps l = bg at *
    generalize letL m ps (begC m) = lt at *
    generalize begC m = first at *
    generalize m.vars.length = vn at *
    generalize m.rules.length = rn at *
    generalize ps.length = pn at *
    generalize (aheadL l).length = an at *
    generalize 2 ^ an = N at *
    have HTru : Hid (∀ k : Nat, tru l lt (k : Int) 0 = true ∨ tru l lt (k : Int) 0 = false) := fun k => by cases tru l lt (k : Int) 0 <;> simp
    generalize hfn : l.length = fn at *
    clear hV hc hl0 hp0 hm0 h6 hfn
    have HB : Hid (∀ w1, Below (w.heap.size + 1) (w.alloc (.cells #[.slice ao vn ac, .slice ro rn rc, .slice po pn pc, .slice fo fn fc] 29)) w1 → w1.cell? ⟨w.heap.size, 0, none⟩ = some (.slice ao vn ac) ∧ w1.cell? ⟨w.heap.size, 1, none⟩ = some (.slice ro rn rc) ∧ w1.cell? ⟨w.heap.size, 2, none⟩ = some (.slice po pn pc) ∧ w1.cell? ⟨w.heap.size, 3, none⟩ = some (.slice fo fn fc)) := fun w1 h => ⟨(h.cell (p := ⟨w.heap.size, 0, none⟩) (Nat.lt_succ_self _)).trans (by simp [go_sem]), (h.cell (p := ⟨w.heap.size, 1, none⟩) (Nat.lt_succ_self _)).trans (by simp [go_sem]), (h.cell (p := ⟨w.heap.size, 2, none⟩) (Nat.lt_succ_self _)).trans (by simp [go_sem]), (h.cell (p := ⟨w.heap.size, 3, none⟩) (Nat.lt_succ_self _)).trans (by simp [go_sem])⟩
    go_enter Tryz.func29, Tryz.ntmps29
    go_wp2_with (first
      | (go_at_call 19; refine hp.mono ?_; rintro e w1 ⟨rfl, hb1⟩; have hbw1 := (hA _).trans (hb1.mono (hA _).size); have hk1 : Below (w.heap.size + 1) (w.alloc (.cells #[.slice ao vn ac, .slice ro rn rc, .slice po pn pc, .slice fo fn fc] 29)) w1 := (by simpa using hb1); have hz1 : w.heap.size + 1 ≤ w1.heap.size := (by have := hb1.size; simpa using this); obtain ⟨a0, a1, a2, a3⟩ := HB.out w1 hk1; have hfi := HFi.out w1 hbw1)
      | (go_at_call 56; refine hfi.mono ?_; rintro e w2 ⟨rfl, hb2⟩; have hbw2 := hbw1.trans (hb2.mono hbw1.size); obtain ⟨b0, b1, b2, b3⟩ := HB.out w2 (hk1.trans (hb2.mono hz1)); have hle := HLe.out w2 hbw2)
      | (go_at_call 23; refine hle.mono ?_; rintro e w3 ⟨lo, lc, rfl, hb3, HLv⟩; have hbw3 := hbw2.trans (hb3.mono hbw2.size); have hb23 := hb2.trans (hb3.mono hb2.size); obtain ⟨c0, c1, c2, c3⟩ := HB.out w3 (hk1.trans (hb23.mono hz1)); have hma := HMa.out w3 hbw3)
      | (go_at_call 21; refine hma.mono ?_; rintro e w4 ⟨rfl, hb4⟩; have hbw4 := hbw3.trans (hb4.mono hbw3.size); have hb24 := hb23.trans (hb4.mono hb23.size); have hk4 := hk1.trans (hb24.mono hz1)))
    have HLet : Hid (∀ w5, Below w4.heap.size w4 w5 → BoolsV w5 (.slice lo pn lc) lt) := fun w5 h => (HLv.out.below hb4).below h
    have HF : Hid (∀ w5, Below w4.heap.size w4 w5 → w5.cell? ⟨w.heap.size, 3, none⟩ = some (.slice fo fn fc)) := fun w5 h => (HB.out w5 (hk4.trans (h.mono (Nat.le_trans hz1 hb24.size)))).2.2.2
    clear hp hfi hle hma HFi HLe HMa HB a0 a1 a2 a3 b0 b1 b2 b3 c0 c1 c2 c3 HLv
    go_loopw [10, 11] (fun u i wr => ∃ k : Nat, k ≤ N ∧ i = .int .i64 k ∧ (∃ so sn sc, u = .slice so sn sc ∧ sn ≤ k ∧ Hid ((bg k).length = sn ∧ SpO wr w4.heap.size (.slice so sn sc) (bg k))) ∧ Below w4.heap.size w4 wr) (fun _ i _ => N - (intOf i).toNat)
    case atStart => exact ⟨0, Nat.zero_le _, rfl, ⟨none, 0, 0, rfl, Nat.le_refl _, by rw [HNil.out]; rfl, by rw [HNil.out]; exact SpO.nil _ _⟩, Below.refl _ _⟩
    case round =>
      obtain ⟨k, hk, rfl, ⟨so, sn, sc, rfl, hsn, HSp⟩, hbr3⟩ := hrel
      have hbr := hbw4.trans (hbr3.mono hbw4.size)
      have p3 := HF.out wr hbr3
      by_cases hkN : k < N
      · have htr := HTr.out k _ wr hkN hbr (HLet.out wr hbr3)
        have hst := HSt.out k
        have HSk : Hid (∀ w4', Below wr.heap.size wr w4' → SpO w4' w4.heap.size (.slice so sn sc) (bg k)) := fun w4' h => HSp.out.2.later h (Nat.le_refl _)
        have HSl : Hid ((bg k).length = sn) := HSp.out.1
        rcases HTru.out k with ht | ht
        · rw [ht] at htr hst
          rw [if_pos rfl] at hst
          have HE : Hid (bg (k + 1) = bg k) := hst
          clear hst ht HSp
          go_wp2_with (first | (go_at_call 49; refine htr.mono ?_; rintro e w5 ⟨b, off, c, rfl, hb5, d0⟩; have hbw5 := hbr3.trans (hb5.mono hbr3.size)))
          go_roundw
          case rel => exact ⟨k + 1, by omega, by go_num, ⟨so, sn, sc, rfl, by omega, by rw [HE.out]; exact HSl.out, by rw [HE.out]; exact HSk.out _ hb5⟩, hbw5⟩
          case measure => simp [intOf]; omega
        · rw [ht] at htr hst
          rw [if_neg (by simp)] at hst
          have HE : Hid (bg (k + 1) = bg k ++ [(first, (k : Int))]) := hst
          clear hst ht HSp
          go_wp2_with (first | (go_at_call 49; refine htr.mono ?_; rintro e w5 ⟨b, off, c, rfl, hb5, d0⟩; have hbw5 := hbr3.trans (hb5.mono hbr3.size); have hsp := HSk.out _ hb5; have hs5 := hbw5.size) | (at_builtin; refine push_sp first (k : Int) rfl _ _ rfl w4.heap.size sn sc so (bg k) HSl.out rfl hsp rfl (by omega) hs5 ?_; intro vo6 cap6 w6 ho6 hb6 hg6; have HO6 : Hid (SpO w6 w4.heap.size (.slice vo6 (sn + 1) cap6) (bg k ++ [(first, (k : Int))])) := ho6; have hbw6 := hbw5.trans hb6; clear ho6 hg6 hsp))
          go_roundw
          case rel => exact ⟨k + 1, by omega, by go_num, ⟨vo6, sn + 1, cap6, rfl, by omega, by rw [HE.out, List.length_append, HSl.out]; rfl, by rw [HE.out]; exact HO6.out⟩, hbw6⟩
          case measure => simp [intOf]; omega
      · obtain rfl : k = N := by omega
        have HSl : Hid ((bg k).length = sn) := HSp.out.1
        have HSk : Hid (SpO wr w.heap.size (.slice so sn sc) (bg k)) := owns_mono HSp.out.2 hbw4.size
        clear HSp
        go_wp2_with fail
        go_ret2
        refine ⟨so, sc, by rw [HSl.out]; rfl, hbr, by rw [HSl.out]; exact HSk.out⟩
  · rw [begR_bad hc]
    generalize tkcode m ps l = c at *
    generalize m.vars.length = vn at *
    generalize m.rules.length = rn at *
    generalize ps.length = pn at *
    generalize l.length = fn at *
    clear hV
    go_enter Tryz.func29, Tryz.ntmps29
    go_wp2_with (first | (go_at_call 19; refine hp.mono ?_; rintro e w1 ⟨rfl, hb1⟩; have hbw := (hA _).trans (hb1.mono (hA _).size)))
    go_ret2
    exact ⟨none, 0, rfl, hbw, SpO.nil _ _⟩
end Go.Proofs.YtdlpmomohbdpgaaGreatDoor

/-
  The contract of the document's own FollowsOn.
-/
namespace Go.Proofs.YtdlpmomohbdpgaaGreatDoor
open Go.ChangeShapes Go.WideShapes Go.ChangeAt Go.RowKit Go.Deep
open Terms

/-- the truths as the document lays them. -/
def TruAt (w : World) (tb toff n : Nat) (h : Nat → Bool) : Prop := ∀ q, q < n → w.cell? ⟨tb, toff + q, none⟩ = some (.bool (h q))
theorem rtruths_ok (v lv : Value) (l : List (Int × Int)) (letter : List Bool) (claim : Int) (w : World) (hV : OpsV w v l) (hL : BoolsV w lv letter) (hl0 : 0 < l.length) (hc : tcode l letter claim = 0) :
    Calls Tryz.prog 49 #[v, lv, .int .i64 claim] w fun e w' => ∃ tb toff tc, e = .returned (.tuple #[.slice (some ⟨tb, toff, none⟩) l.length tc, .int .i64 0]) ∧ Below w.heap.size w w' ∧ tb < w'.heap.size ∧ Hid (TruAt w' tb toff l.length (tru l letter claim)) := by
  have htl : truL l letter claim = truTo l letter claim l.length := by unfold truL truTo; rw [hc]; rfl
  have htr := rtruths_any v lv l letter claim w hV hL
  rw [hc, htl] at htr
  refine htr.mono fun e w' ⟨v', he, hb, hv'⟩ => ?_
  obtain ⟨to', tc, rfl, ht⟩ := hv'
  rw [truTo_length] at he
  obtain ⟨tb, toff, rfl, htl, hta⟩ := ht (by intro h; have := truTo_length l letter claim l.length; rw [h] at this; simp at this; omega)
  refine ⟨tb, toff, tc, he, hb, htl, fun q hq => ?_⟩
  rw [hta q (by rw [truTo_length]; exact hq)]
  simp [truTo, List.getD_eq_getElem?_getD, hq]

set_option maxHeartbeats 3200000 in
set_option maxRecDepth 20000 in
theorem rfol_main (b off cap : Nat) (l : List (Int × Int)) (no xo : Option Addr) (nc xc ln : Nat) (now next : List Bool) (claim later : Int) (w : World) (hz : endsCode (l.map Prod.fst) = 0) (hbl : b < w.heap.size) (hat : OpsAt w b off l) (hcap : l.length ≤ cap) (hL : BoolsV w (.slice no ln nc) now) (hX : BoolsV w (.slice xo ln xc) next) (hc1 : tcode l now claim = 0) (hc2 : tcode l next later = 0) (fr : Bool) (hyes : Fol l (tru l now claim) (tru l next later) → fr = true) (hnot : ¬ Fol l (tru l now claim) (tru l next later) → fr = false) :
    Calls Tryz.prog 25 #[.slice (some ⟨b, off, none⟩) l.length cap, .slice no ln nc, .int .i64 claim, .slice xo ln xc, .int .i64 later] w fun e w' => e = .returned (.tuple #[.bool fr, .int .i64 0]) ∧ Below w.heap.size w w' := by
  obtain ⟨hne, h60⟩ := ends_ne hz
  rw [List.length_map] at h60
  have hl0 : 0 < l.length := by
    cases l with
    | nil => exact absurd rfl hne
    | cons _ _ => simp
  have hV : OpsV w (.slice (some ⟨b, off, none⟩) l.length cap) l := ⟨_, cap, rfl, ⟨hcap, fun h => by simp at h⟩, fun _ => ⟨b, off, rfl, hbl, hat⟩⟩
  have hta := rtruths_ok _ _ l now claim w hV hL hl0 hc1
  have htb := fun w1 (hb : Below w.heap.size w w1) => rtruths_ok _ _ l next later w1 (hV.below hb) (hX.below hb) hl0 hc2
  have HA : Hid (OpsAt w b off l) := hat
  have HSe : Hid (∀ w' p, Below w.heap.size w w' → p < l.length → pn (l.getD p (0, 0)).1 = 2 → Calls Tryz.prog 51 #[.slice (some ⟨b, off, none⟩) l.length cap, .int .i64 (p : Int)] w' fun e w2 => e = .returned (.int .i64 (sec l p : Int)) ∧ w2 = w') := fun w' p hb hp h2 => rsec_any b off cap p l w' h60 hz hp h2 (hat.below hb hbl)
  have HPt : Hid (∀ p, p < l.length → (1 ≤ pn (l.getD p (0, 0)).1 → p + 1 < l.length) ∧ (pn (l.getD p (0, 0)).1 = 2 → p + 1 < sec l p ∧ sec l p < l.length)) := fun p hp => part_in hz hp
  have HFol : Hid (Fol l (tru l now claim) (tru l next later) ↔ ∀ p, p < l.length → lookB (l.getD p (0, 0)).1 = true → tru l now claim p = comeB (l.getD p (0, 0)).1 (tru l now claim (p + 1)) (tru l now claim (sec l p)) (tru l next later p) (tru l next later (p + 1))) := Iff.rfl
  have HYes := (show Hid _ from hyes)
  have HNot := (show Hid _ from hnot)
  generalize Fol l (tru l now claim) (tru l next later) = FP at *
  generalize tru l now claim = tn at *
  generalize tru l next later = tx at *
  obtain ⟨n, hn⟩ : ∃ n, n = l.length := ⟨_, rfl⟩
  have HN : Hid (n = l.length) := hn
  rw [← hn] at hta htb HSe HPt HFol h60 ⊢
  obtain ⟨ALL, HALL⟩ : ∃ ALL : Nat → Prop, Hid (∀ q, ALL q ↔ ∀ p, p < q → lookB (l.getD p (0, 0)).1 = true → tn p = comeB (l.getD p (0, 0)).1 (tn (p + 1)) (tn (sec l p)) (tx p) (tx (p + 1))) := ⟨_, fun _ => Iff.rfl⟩
  clear hat hV hL hX hc1 hc2 hyes hnot hz hne hn hl0 hcap
  go_enter Tryz.func25, Tryz.ntmps25
  go_wp2_with (first | (go_at_call 49; refine hta.mono ?_; clear hta; rintro e w1 ⟨ta, aoff, tc, rfl, hb1, hal, HTa⟩; have htb1 := htb w1 hb1) | (go_at_call 49; refine htb1.mono ?_; clear htb1; rintro e w2 ⟨tb, boff, uc, rfl, hb2, hbl2, HTb⟩))
  have hb12 := hb1.trans (hb2.mono hb1.size)
  clear htb
  go_loopw [15] (fun i wr => ∃ q : Nat, q ≤ n ∧ i = .int .i64 (q : Int) ∧ Hid (ALL q) ∧ Hid (Below w2.heap.size w2 wr)) (fun i _ => n - (intOf i).toNat)
  case atStart => exact ⟨0, Nat.zero_le _, rfl, (HALL.out 0).2 fun p hp => absurd hp (Nat.not_lt_zero _), Below.refl _ _⟩
  case round =>
    obtain ⟨q, hq, rfl, HAll, HBel⟩ := hrel
    have hbel := HBel.out
    have hbw := hb12.trans (hbel.mono hb12.size)
    by_cases hlt : q < n
    · obtain ⟨c0, c1⟩ := (HA.out.below hbw hbl) q (by rw [← HN.out]; exact hlt)
      obtain ⟨hp1, hp2⟩ := HPt.out q hlt
      have hsc := HSe.out wr q hbw hlt
      have hca : ∀ j, j < n → wr.cell? ⟨ta, aoff + j, none⟩ = some (.bool (tn j)) := fun j hj => (hbel.cell (p := ⟨ta, aoff + j, none⟩) (Nat.lt_of_lt_of_le hal hb2.size)).trans ((hb2.cell (p := ⟨ta, aoff + j, none⟩) hal).trans (HTa.out j hj))
      have hcb : ∀ j, j < n → wr.cell? ⟨tb, boff + j, none⟩ = some (.bool (tx j)) := fun j hj => (hbel.cell (p := ⟨tb, boff + j, none⟩) hbl2).trans (HTb.out j hj)
      have t0 := hca q hlt
      have s0 := hcb q hlt
      have HNl0 : Hid (lookB (l.getD q (0, 0)).1 = false → ∀ p, p < q + 1 → lookB (l.getD p (0, 0)).1 = true → tn p = comeB (l.getD p (0, 0)).1 (tn (p + 1)) (tn (sec l p)) (tx p) (tx (p + 1))) := fun h p hp hk => by
        by_cases hpq : p < q
        · exact (HALL.out q).1 HAll.out p hpq hk
        · obtain rfl : p = q := by omega
          rw [h] at hk; cases hk
      have HNx0 : Hid (tn q = comeB (l.getD q (0, 0)).1 (tn (q + 1)) (tn (sec l q)) (tx q) (tx (q + 1)) → ∀ p, p < q + 1 → lookB (l.getD p (0, 0)).1 = true → tn p = comeB (l.getD p (0, 0)).1 (tn (p + 1)) (tn (sec l p)) (tx p) (tx (p + 1))) := fun h p hp hk => by
        by_cases hpq : p < q
        · exact (HALL.out q).1 HAll.out p hpq hk
        · obtain rfl : p = q := by omega
          exact h
      have HBd0 : Hid (lookB (l.getD q (0, 0)).1 = true → ¬ tn q = comeB (l.getD q (0, 0)).1 (tn (q + 1)) (tn (sec l q)) (tx q) (tx (q + 1)) → fr = false) := fun hk h => HNot.out fun hf => h (HFol.out.1 hf q hlt hk)
      generalize l.getD q (0, 0) = xy at c0 c1 hp1 hp2 hsc HBd0 HNl0 HNx0
      obtain ⟨kx, vx⟩ := xy
      simp only at c0 c1 hp1 hp2 hsc
      have HBd1 : Hid (lookB kx = true → ¬ tn q = comeB kx (tn (q + 1)) (tn (sec l q)) (tx q) (tx (q + 1)) → fr = false) := HBd0.out
      clear HBd0
      have HNl : Hid (lookB kx = false → ALL (q + 1)) := fun h => (HALL.out _).2 (HNl0.out h)
      have HNx : Hid (tn q = comeB kx (tn (q + 1)) (tn (sec l q)) (tx q) (tx (q + 1)) → ALL (q + 1)) := fun h => (HALL.out _).2 (HNx0.out h)
      clear HNl0 HNx0
      have hlk := fun w => rlook_any kx w
      cases hb : lookB kx with
      | false =>
        have HNl2 : Hid (ALL (q + 1)) := HNl.out hb
        rw [hb] at hlk
        clear hb HNl HNx HBd1 hsc hp1 hp2 hca hcb t0 s0 HPt HSe HA HFol HYes HNot HAll
        go_wp2_with (go_at_call 50; refine (hlk _).mono ?_; rintro e w3 ⟨rfl, hw3⟩; obtain rfl := hw3.symm)
        exact ⟨⟨q + 1, hlt, by first | rfl | simp, HNl2, hbel⟩, by simp [intOf]; omega⟩
      | true =>
        have HBd : Hid (¬ tn q = comeB kx (tn (q + 1)) (tn (sec l q)) (tx q) (tx (q + 1)) → fr = false) := HBd1.out hb
        rw [hb] at hlk
        have hkk : 14 ≤ kx ∧ kx ≤ 18 := by simpa [lookB] using hb
        have hpn : 1 ≤ pn kx := by
          unfold pn
          split
          · omega
          · split
            · omega
            · omega
        have hq1 := hp1 hpn
        have t1 := hca (q + 1) hq1
        have s1 := hcb (q + 1) hq1
        have hcase : kx = 14 ∨ kx = 15 ∨ kx = 16 ∨ kx = 17 ∨ kx = 18 := by omega
        clear hb HNl HBd1 hkk hpn hp1 HPt HSe HA HFol HYes HNot HAll
        rcases hcase with rfl | rfl | rfl | rfl | rfl
        · rw [show comeB 14 (tn (q + 1)) (tn (sec l q)) (tx q) (tx (q + 1)) = (tx (q + 1)) by simp [comeB]] at HNx HBd
          generalize tn q = a at *
          generalize tn (q + 1) = x at *
          generalize tx q = z at *
          generalize tx (q + 1) = nx at *
          clear hca hcb hsc hp2
          cases a <;> cases nx
          all_goals
            go_wp2_with ((go_at_call 50; refine (hlk _).mono ?_; rintro e w3 ⟨rfl, hw3⟩; obtain rfl := hw3.symm))
            first | (exact ⟨⟨q + 1, hlt, by first | rfl | simp, HNx.out (by simp), hbel⟩, by simp [intOf]; omega⟩) | (go_ret2; rw [HBd.out (by simp)]; exact ⟨rfl, hbw⟩)
        · obtain ⟨hs1, hs2⟩ := hp2 (by decide)
          have t2 := hca (sec l q) hs2
          have hsq := hsc (by decide)
          generalize hsn : sec l q = sn at *
          rw [show comeB 15 (tn (q + 1)) (tn sn) (tx q) (tx (q + 1)) = (tn sn || (tn (q + 1) && tx q)) by simp [comeB]] at HNx HBd
          generalize tn sn = y at *
          generalize tn q = a at *
          generalize tn (q + 1) = x at *
          generalize tx q = z at *
          generalize tx (q + 1) = nx at *
          clear hca hcb hsc hp2 hsn
          cases a <;> cases y <;> cases x <;> cases z
          all_goals
            go_wp2_with (first | (go_at_call 50; refine (hlk _).mono ?_; rintro e w3 ⟨rfl, hw3⟩; obtain rfl := hw3.symm) | (go_at_call 51; refine hsq.mono ?_; rintro e w3 ⟨rfl, hw3⟩; obtain rfl := hw3.symm))
            first | (exact ⟨⟨q + 1, hlt, by first | rfl | simp, HNx.out (by simp), hbel⟩, by simp [intOf]; omega⟩) | (go_ret2; rw [HBd.out (by simp)]; exact ⟨rfl, hbw⟩)
        · obtain ⟨hs1, hs2⟩ := hp2 (by decide)
          have t2 := hca (sec l q) hs2
          have hsq := hsc (by decide)
          generalize hsn : sec l q = sn at *
          rw [show comeB 16 (tn (q + 1)) (tn sn) (tx q) (tx (q + 1)) = (tn sn && (tn (q + 1) || tx q)) by simp [comeB]] at HNx HBd
          generalize tn sn = y at *
          generalize tn q = a at *
          generalize tn (q + 1) = x at *
          generalize tx q = z at *
          generalize tx (q + 1) = nx at *
          clear hca hcb hsc hp2 hsn
          cases a <;> cases y <;> cases x <;> cases z
          all_goals
            go_wp2_with (first | (go_at_call 50; refine (hlk _).mono ?_; rintro e w3 ⟨rfl, hw3⟩; obtain rfl := hw3.symm) | (go_at_call 51; refine hsq.mono ?_; rintro e w3 ⟨rfl, hw3⟩; obtain rfl := hw3.symm))
            first | (exact ⟨⟨q + 1, hlt, by first | rfl | simp, HNx.out (by simp), hbel⟩, by simp [intOf]; omega⟩) | (go_ret2; rw [HBd.out (by simp)]; exact ⟨rfl, hbw⟩)
        · rw [show comeB 17 (tn (q + 1)) (tn (sec l q)) (tx q) (tx (q + 1)) = (tn (q + 1) || tx q) by simp [comeB]] at HNx HBd
          generalize tn q = a at *
          generalize tn (q + 1) = x at *
          generalize tx q = z at *
          generalize tx (q + 1) = nx at *
          clear hca hcb hsc hp2
          cases a <;> cases x <;> cases z
          all_goals
            go_wp2_with ((go_at_call 50; refine (hlk _).mono ?_; rintro e w3 ⟨rfl, hw3⟩; obtain rfl := hw3.symm))
            first | (exact ⟨⟨q + 1, hlt, by first | rfl | simp, HNx.out (by simp), hbel⟩, by simp [intOf]; omega⟩) | (go_ret2; rw [HBd.out (by simp)]; exact ⟨rfl, hbw⟩)
        · rw [show comeB 18 (tn (q + 1)) (tn (sec l q)) (tx q) (tx (q + 1)) = (tn (q + 1) && tx q) by simp [comeB]] at HNx HBd
          generalize tn q = a at *
          generalize tn (q + 1) = x at *
          generalize tx q = z at *
          generalize tx (q + 1) = nx at *
          clear hca hcb hsc hp2
          cases a <;> cases x <;> cases z
          all_goals
            go_wp2_with ((go_at_call 50; refine (hlk _).mono ?_; rintro e w3 ⟨rfl, hw3⟩; obtain rfl := hw3.symm))
            first | (exact ⟨⟨q + 1, hlt, by first | rfl | simp, HNx.out (by simp), hbel⟩, by simp [intOf]; omega⟩) | (go_ret2; rw [HBd.out (by simp)]; exact ⟨rfl, hbw⟩)
    · obtain rfl : q = n := by omega
      have HFr : Hid (fr = true) := HYes.out (HFol.out.2 fun p hp hk => (HALL.out q).1 HAll.out p hp hk)
      clear HAll HYes HNot HFol HSe HPt
      go_wp2_with fail
      go_ret2
      rw [HFr.out]
      exact ⟨rfl, hbw⟩

theorem tcode_len {l : List (Int × Int)} {letter : List Bool} {claim : Int} (h : tcode l letter claim = 0) : lcode letter.length l = 0 := by
  by_cases h2 : lcode letter.length l = 0
  · exact h2
  · rw [tcode_bad h2] at h; exact absurd h h2

set_option maxHeartbeats 1600000 in
set_option maxRecDepth 20000 in
/-- THE CONTRACT OF the document's FollowsOn. -/
theorem rfol_any (v nv xv : Value) (l : List (Int × Int)) (now next : List Bool) (claim later : Int) (w : World) (hV : OpsV w v l) (hL : BoolsV w nv now) (hX : BoolsV w xv next) :
    Calls Tryz.prog 25 #[v, nv, .int .i64 claim, xv, .int .i64 later] w fun e w' => e = .returned (.tuple #[.bool (folR l now claim next later), .int .i64 (fcode l now claim next later)]) ∧ Below w.heap.size w w' := by
  obtain ⟨oo, oc, rfl, ⟨hcap, hn0⟩, hvv⟩ := id hV
  obtain ⟨no, nc, rfl, _⟩ := id hL
  obtain ⟨xo, xc, rfl, _⟩ := id hX
  by_cases hlen : now.length = next.length
  · have hta := rtruths_any _ _ l now claim w hV hL
    by_cases hc1 : tcode l now claim = 0
    · by_cases hc2 : tcode l next later = 0
      · have hf : fcode l now claim next later = 0 := by unfold fcode; rw [if_neg (by simpa using hlen), if_neg (by simpa using hc1), hc2]
        obtain ⟨_, _, hz, _, _⟩ := lcode_zero (tcode_len hc1)
        obtain ⟨hne, _⟩ := ends_ne hz
        obtain ⟨b, off, rfl, hbl, hat⟩ := hvv (by rintro rfl; exact hne rfl)
        rw [hf]
        rw [← hlen] at hX ⊢
        exact rfol_main b off oc l no xo nc xc now.length now next claim later w hz hbl hat hcap hL hX hc1 hc2 _ (folR_yes hf) folR_no
      · have hf : fcode l now claim next later = tcode l next later := by unfold fcode; rw [if_neg (by simpa using hlen), if_neg (by simpa using hc1)]
        rw [folR_bad (by rw [hf]; exact hc2), hf]
        have htb := fun w1 (hb : Below w.heap.size w w1) => rtruths_any _ _ l next later w1 (hV.below hb) (hX.below hb)
        rw [hc1] at hta
        rw [← hlen] at htb ⊢
        generalize tcode l next later = x at *
        generalize truL l next later = tl at *
        generalize truL l now claim = tm at *
        generalize now.length = ln at *
        generalize l.length = n at *
        clear hV hL hX hvv hn0 hcap hf hlen hc1
        go_enter Tryz.func25, Tryz.ntmps25
        go_wp2_with (first | (go_at_call 49; refine hta.mono ?_; clear hta; rintro e w1 ⟨tv, rfl, hb1, ht1⟩; obtain ⟨to', tc, rfl, _⟩ := ht1; have htb1 := htb w1 hb1) | (go_at_call 49; refine htb1.mono ?_; clear htb1; rintro e w2 ⟨uv, rfl, hb2, ht2⟩; obtain ⟨uo', uc, rfl, _⟩ := ht2))
        go_ret2
        exact ⟨rfl, hb1.trans (hb2.mono hb1.size)⟩
    · have hf : fcode l now claim next later = tcode l now claim := by unfold fcode; rw [if_neg (by simpa using hlen), if_pos hc1]
      rw [folR_bad (by rw [hf]; exact hc1), hf]
      rw [← hlen]
      generalize tcode l now claim = x at *
      generalize truL l now claim = tm at *
      generalize now.length = ln at *
      generalize l.length = n at *
      clear hV hL hX hvv hn0 hcap hf hlen
      go_enter Tryz.func25, Tryz.ntmps25
      go_wp2_with (go_at_call 49; refine hta.mono ?_; clear hta; rintro e w1 ⟨tv, rfl, hb1, ht1⟩; obtain ⟨to', tc, rfl, _⟩ := ht1)
      go_ret2
      exact ⟨rfl, hb1⟩
  · have hf : fcode l now claim next later = 1 := by unfold fcode; rw [if_pos hlen]
    rw [folR_bad (by rw [hf]; decide), hf]
    generalize l.length = n at *
    have hne : ¬ (now.length : Int) = next.length := by omega
    generalize now.length = ln at *
    generalize next.length = xn at *
    clear hV hL hX hvv hn0 hcap hf hlen
    go_enter Tryz.func25, Tryz.ntmps25
    go_wp2_with fail
    go_ret2
    exact ⟨rfl, Below.refl _ _⟩
end Go.Proofs.YtdlpmomohbdpgaaGreatDoor

/-
  The contract of the document's own NextOf.
-/
namespace Go.Proofs.YtdlpmomohbdpgaaGreatDoor
open Go.ChangeShapes Go.WideShapes Go.ChangeAt Go.RowKit Go.Deep
open Terms Tm

/-- of the first so many numbers those that a list has. -/
def pickTo (raw : List Int) (c : Nat) : List Int := ((List.range c).filter (fun j : Nat => decide ((j : Int) ∈ raw))).map (fun j : Nat => (j : Int))
theorem pickTo_yes {raw : List Int} {c : Nat} (h : (c : Int) ∈ raw) : pickTo raw (c + 1) = pickTo raw c ++ [(c : Int)] := by simp [pickTo, List.range_succ, List.filter_append, h]
theorem pickTo_no {raw : List Int} {c : Nat} (h : ¬ (c : Int) ∈ raw) : pickTo raw (c + 1) = pickTo raw c := by simp [pickTo, List.range_succ, List.filter_append, h]
theorem pickTo_rise (raw : List Int) (c : Nat) : Rise (pickTo raw c) := by
  induction c with
  | zero => simp [pickTo]
  | succ c ih =>
    by_cases h : (c : Int) ∈ raw
    · rw [pickTo_yes h]
      refine List.pairwise_append.2 ⟨ih, by simp, fun x hx y hy => ?_⟩
      simp [pickTo] at hx
      obtain ⟨j, hj, rfl⟩ := hx
      simp at hy
      omega
    · rw [pickTo_no h]; exact ih
theorem pickTo_mem {raw : List Int} {c : Nat} (h : ∀ x ∈ raw, 0 ≤ x ∧ x < c) (x : Int) : x ∈ pickTo raw c ↔ x ∈ raw := by
  simp only [pickTo, List.mem_map, List.mem_filter, List.mem_range, decide_eq_true_eq]
  constructor
  · rintro ⟨j, ⟨_, h2⟩, rfl⟩; exact h2
  · intro hx
    obtain ⟨h0, h1⟩ := h x hx
    exact ⟨x.toNat, ⟨by omega, by rw [Int.toNat_of_nonneg h0]; exact hx⟩, by omega⟩
theorem pickTo_length (raw : List Int) (c : Nat) : (pickTo raw c).length ≤ c := by
  unfold pickTo
  rw [List.length_map]
  exact Nat.le_trans (List.length_filter_le _ _) (by simp)
theorem upL_one (c : Int) : upL [c] = [c] := (upL_eq (l := [c]) (by simp) (fun _ => Iff.rfl)).symm

set_option maxHeartbeats 3200000 in
set_option maxRecDepth 20000 in
/-- THE CONTRACT OF NextOf. -/
theorem rnext_own (va vr : Value) (m : Mo) (code : Int) (w : World) (hV : ModelV w va vr m) :
    Calls Tryz.prog 24 #[.agg #[va, vr], .int .i64 code] w fun e w' => ∃ v, e = .returned (.tuple #[v, .int .i64 (wcode m code)]) ∧ Below w.heap.size w w' ∧ w'.ownsRow w.heap.size 3 1 v (nxtL m code).length (ivals (nxtL m code)) := by
  have hA : ∀ o, Below w.heap.size w (w.alloc o) := fun o => (Below.refl _ _).alloc (Nat.le_refl _) o
  have hcn := fun o => rcount_any va vr m (w.alloc o) (hV.below (hA o))
  by_cases hm : mcode m = 0
  · rw [hm, if_pos rfl] at hcn
    have hok := mcode_vars hm
    have hN := hok.prod (j := m.vars.length) (Nat.le_refl _)
    by_cases hc : 0 ≤ code ∧ code < prodTo m.vars m.vars.length
    · have hw : wcode m code = 0 := wcode_yes hm hc
      obtain ⟨hr12, _⟩ := mcode_rules hm
      have HAf : Hid (∀ w' (_ : Below w.heap.size w w') k, k < m.rules.length → Calls Tryz.prog 48 #[.agg #[va, vr], .int .i64 code, .int .i64 k] w' fun e w2 => e = .returned (.tuple #[.int .i64 (optN (ruleDo m.vars (valsL m.vars code) (m.rules.getD k ru0))), .int .i64 (optC (ruleDo m.vars (valsL m.vars code) (m.rules.getD k ru0)))]) ∧ Below w'.heap.size w' w2) := fun w' hb k hk => rafter_in va vr m code k w' (hV.below hb) hw hk
      have HSt : Hid (∀ k x, ruleDo m.vars (valsL m.vars code) (m.rules.getD k ru0) = some x → 0 ≤ x ∧ x < prodTo m.vars m.vars.length) := fun k x h => ruleDo_state hok h
      have HNL : Hid (nxtL m code = upL (if rawTo m.vars (valsL m.vars code) m.rules m.rules.length = [] then [code] else rawTo m.vars (valsL m.vars code) m.rules m.rules.length)) := by show _ = _; unfold nxtL nextL rawL; rw [if_pos hw]
      have HRM : Hid (∀ x ∈ rawTo m.vars (valsL m.vars code) m.rules m.rules.length, 0 ≤ x ∧ x < prodTo m.vars m.vars.length) := fun x hx => by
        obtain ⟨j, _, e⟩ := (rawTo_mem (Nat.le_refl _) x).1 hx
        exact ruleDo_state hok e
      rw [hw]
      generalize nxtL m code = res at *
      generalize valsL m.vars code = env at *
      obtain ⟨pn, hpn⟩ : ∃ pn : Nat, prodTo m.vars m.vars.length = pn := ⟨(prodTo m.vars m.vars.length).toNat, by omega⟩
      rw [hpn] at hcn hN hc HSt HRM
      have hii := fun w => in_any code 0 ((pn : Int) - 1) w
      rw [decide_eq_true (show 0 ≤ code ∧ code ≤ (pn : Int) - 1 by omega)] at hii
      obtain ⟨ao, cap, rfl⟩ := hV.1.shape
      obtain ⟨ro, rc, rfl⟩ := hV.2.shape
      obtain ⟨rn, hrn⟩ : ∃ rn, rn = m.rules.length := ⟨_, rfl⟩
      have HRN : Hid (rn = m.rules.length) := hrn
      rw [← hrn] at hcn HAf HNL HRM hr12 ⊢
      have hmk := run_make_row' (P := Tryz.prog) 61 4 (.bool false) 1 Tryz.underlying61 infoBool rfl .i64 .i64 pn (by omega) (by omega)
      obtain ⟨i0, hi, hz0, hz1, hz2⟩ := info_parts infoInt
      obtain ⟨hN0, hN1⟩ := hN
      clear hV hw hm hok hrn hpn hc
      generalize m.vars.length = n at *
      go_enter Tryz.func24, Tryz.ntmps24
      go_wp2_with (first | (go_at_call 20; refine (hcn _).mono ?_; rintro e w1 ⟨rfl, hb1⟩; have hbw1 := (hA _).trans (hb1.mono (hA _).size); have k10 : w1.cell? ⟨w.heap.size, 0, none⟩ = some (.slice ao n cap) := (hb1.cell (p := ⟨w.heap.size, 0, none⟩) (by simp)).trans (by simp [go_sem]); have k11 : w1.cell? ⟨w.heap.size, 1, none⟩ = some (.slice ro rn rc) := (hb1.cell (p := ⟨w.heap.size, 1, none⟩) (by simp)).trans (by simp [go_sem]); have hs1 : w.heap.size < w1.heap.size := (by have := hb1.size; simp at this; omega)) | (go_at_call 22; refine (hii _).mono ?_; rintro e w9 ⟨rfl, rfl⟩))
      have hrow0 := World.rowIs_made w9 (.bool false) pn 4
      have HB1 : Hid (Below w.heap.size w w9) := hbw1
      have HK1 : Hid (∀ w', Below w9.heap.size w9 w' → w'.cell? ⟨w.heap.size, 0, none⟩ = some (.slice ao n cap) ∧ w'.cell? ⟨w.heap.size, 1, none⟩ = some (.slice ro rn rc)) := fun w' hb => ⟨(hb.cell (p := ⟨w.heap.size, 0, none⟩) hs1).trans k10, (hb.cell (p := ⟨w.heap.size, 1, none⟩) hs1).trans k11⟩
      clear hcn hii hmk hb1 hbw1 k10 k11
      go_loopw [9, 10] (fun sm i wr => ∃ k : Nat, k ≤ rn ∧ i = .int .i64 k ∧ sm = .bool (decide (rawTo m.vars env m.rules k ≠ [])) ∧ Hid (wr.rowIs w9.heap.size 4 pn (fun j => .bool (decide ((j : Int) ∈ rawTo m.vars env m.rules k)))) ∧ Hid (Below w9.heap.size w9 wr)) (fun _ i _ => rn - (intOf i).toNat)
      case atStart => exact ⟨0, Nat.zero_le _, rfl, by simp [rawTo], hrow0.congr (fun i hi => by simp [rawTo]), (Below.refl _ _).alloc (Nat.le_refl _) _⟩
      case round =>
        obtain ⟨k, hk, rfl, rfl, HRow, HBel⟩ := hrel
        have hbel := HBel.out
        have hbw := HB1.out.trans (hbel.mono HB1.out.size)
        obtain ⟨kr0, kr1⟩ := HK1.out wr hbel
        by_cases hlt : k < rn
        · have haf := HAf.out wr hbw k hlt
          have hk' : k < m.rules.length := by rw [← HRN.out]; exact hlt
          have HW4 : Hid (∀ w4, Below wr.heap.size wr w4 → Below w9.heap.size w9 w4 ∧ w4.rowIs w9.heap.size 4 pn (fun j => .bool (decide ((j : Int) ∈ rawTo m.vars env m.rules k)))) := fun w4 hb => ⟨hbel.trans (hb.mono hbel.size), row_later HRow.out hb⟩
          cases hres : ruleDo m.vars env (m.rules.getD k ru0) with
          | none =>
            rw [hres] at haf
            simp only [optN, optC] at haf
            have HN : Hid (rawTo m.vars env m.rules (k + 1) = rawTo m.vars env m.rules k) := rawTo_none hk' hres
            clear HAf hres hk' hbel hbw HSt
            go_wp2_with (go_at_call 48; refine haf.mono ?_; rintro e w4 ⟨rfl, hb4⟩; obtain ⟨hb94, hr4⟩ := HW4.out w4 hb4)
            exact ⟨⟨k + 1, hlt, by first | rfl | simp, by rw [HN.out]; simp, by rw [HN.out]; exact hr4, hb94⟩, by simp [intOf]; omega⟩
          | some x =>
            rw [hres] at haf
            simp only [optN, optC] at haf
            have HN : Hid (rawTo m.vars env m.rules (k + 1) = rawTo m.vars env m.rules k ++ [x]) := rawTo_some hk' hres
            obtain ⟨hx0, hx1⟩ := HSt.out k x hres
            obtain ⟨xn, rfl⟩ : ∃ xn : Nat, x = xn := ⟨x.toNat, by omega⟩
            have hxn : xn < pn := by omega
            clear HAf hres hk' hbel hbw HSt
            go_wp2_with (go_at_call 48; refine haf.mono ?_; rintro e w4 ⟨rfl, hb4⟩; obtain ⟨hb94, hr4⟩ := HW4.out w4 hb4; have hf := hr4.frozen xn; have hc := hr4.cell hxn; have HR4 : Hid (w4.rowIs w9.heap.size 4 pn (fun j => .bool (decide ((j : Int) ∈ rawTo m.vars env m.rules k)))) := hr4; clear hr4)
            refine ⟨⟨k + 1, hlt, by first | rfl | simp, by rw [HN.out]; simp, (HR4.out.set xn (.bool true)).congr fun i hi => ?_, hb94.setCell (Nat.le_refl _) _⟩, by simp [intOf]; omega⟩
            rw [HN.out]
            by_cases hix : i = xn
            · subst hix; simp
            · rw [if_neg hix]
              simp [show ¬ (i : Int) = (xn : Int) by omega]
        · have hkn : k = rn := by omega
          subst hkn
          generalize rawTo m.vars env m.rules k = raw at *
          clear HAf HSt kr0 kr1 hlt hk
          by_cases hraw : raw = []
          · have HRes : Hid (res = [code]) := by show _ = _; rw [HNL.out, if_pos hraw, upL_one]
            subst hraw
            obtain ⟨kr0, kr1⟩ := HK1.out wr hbel
            have HIl : Hid ((wr.alloc (.cells #[.int .i64 code] 3)).ownsRow w.heap.size 3 1 (.slice (some ⟨wr.heap.size, 0, none⟩) 1 1) 1 (ivals [code])) := World.ownsRow_lit wr #[.int .i64 code] 1 hbw.size (by decide) rfl
            go_wp2_with fail
            go_ret2
            exact ⟨_, rfl, hbw.alloc hbw.size _, by rw [HRes.out]; exact HIl.out⟩
          · have HRes : Hid (res = pickTo raw pn) := by
              show _ = _
              rw [HNL.out, if_neg hraw]
              exact (upL_eq (pickTo_rise raw pn) (pickTo_mem HRM.out)).symm
            obtain ⟨kr0, kr1⟩ := HK1.out wr hbel
            have HRow2 : Hid (wr.rowIs w9.heap.size 4 pn (fun j => .bool (decide ((j : Int) ∈ raw)))) := HRow.out
            obtain ⟨wo, hwo⟩ : ∃ wo, wo = wr := ⟨_, rfl⟩
            subst hwo
            rw [decide_eq_true hraw]
            clear hraw HNL
            go_wp2_with fail
            go_loopw [13, 14] (fun out i wr => ∃ c : Nat, c ≤ pn ∧ i = .int .i64 c ∧ Hid (wr.ownsRow wo.heap.size 3 1 out (pickTo raw c).length (ivals (pickTo raw c))) ∧ Hid (Below wo.heap.size wo wr)) (fun _ i _ => pn - (intOf i).toNat)
            case atStart => exact ⟨0, Nat.zero_le _, rfl, World.ownsRow_nil _ _ _ _, Below.refl _ _⟩
            case round =>
              obtain ⟨c, hc, rfl, HOwn, HBc⟩ := hrel
              have hbc := HBc.out
              have hrc := row_later HRow2.out hbc
              have hown := HOwn.out
              have hnb := hown.lt
              obtain ⟨oo, oc, rfl⟩ := owns_slice hown
              by_cases hlc : c < pn
              · have hcc := hrc.cell hlc
                have HPl : Hid ((pickTo raw c).length ≤ c) := pickTo_length _ _
                clear hrc
                by_cases hin : (c : Int) ∈ raw
                · simp only [hin, decide_true] at hcc
                  have HN : Hid (pickTo raw (c + 1) = pickTo raw c ++ [(c : Int)]) := pickTo_yes hin
                  obtain ⟨L, hL⟩ : ∃ L, L = (pickTo raw c).length := ⟨_, rfl⟩
                  have HL : Hid (L = (pickTo raw c).length) := hL
                  rw [← hL] at hown hnb HPl ⊢
                  have h63 : L + 1 ≤ maxLen := by have := HPl.out; unfold maxLen; omega
                  have hkb : (L + 1) * 8 ≤ 140737488355328 := by have := HPl.out; omega
                  have hown4 := fun o => hown.alloc o
                  have hbase : ∀ o, wo.heap.size ≤ (wr.alloc o).heap.size := fun o => by have := hbc.size; simp; omega
                  clear hL hin HOwn hown
                  go_wp2_with (at_builtin; refine wpList_append_own _ rfl (.tmp 62) (.tmp 64) 40 rfl wo.heap.size 3 i0 (.int .i64 0) 1 8 Tryz.underlying40 hi hz0 hz1 hz2 rfl (by decide) (.slice oo L oc) L _ rfl (hown4 _) ⟨wr.heap.size, 0, none⟩ 1 1 [.int .i64 c] rfl rfl (cell_one_new _ _ _) (by intro u hu; simp at hu; subst hu; rfl) h63 hkb (hbase _) ?_; intro v' w4 hown' hgrow _)
                  have hb4 : Below wo.heap.size wo w4 := (hbc.alloc hbc.size _).grown hgrow (hbase _) (fun z hz => (hnb z hz).1)
                  have ho4 : w4.ownsRow wo.heap.size 3 1 v' (pickTo raw (c + 1)).length (ivals (pickTo raw (c + 1))) := by
                    rw [HN.out, List.length_append, ← HL.out]
                    rw [show ivals (pickTo raw c ++ [(c : Int)]) = ivals (pickTo raw c) ++ [.int .i64 c] by simp [ivals]]
                    exact hown'
                  go_roundw
                  case rel => exact ⟨c + 1, hlc, by go_num, ho4, hb4⟩
                  case measure => simp [intOf]; omega
                · simp only [hin, decide_false] at hcc
                  have HN : Hid (pickTo raw (c + 1) = pickTo raw c) := pickTo_no hin
                  clear hin hown
                  go_wp2_with fail
                  exact ⟨⟨c + 1, hlc, by first | rfl | simp, by rw [HN.out]; exact HOwn.out, hbc⟩, by simp [intOf]; omega⟩
              · have hcn : c = pn := by omega
                subst hcn
                have hI : wr.ownsRow w.heap.size 3 1 (.slice oo (pickTo raw c).length oc) (pickTo raw c).length (ivals (pickTo raw c)) := owns_mono hown hbw.size
                have HI := (show Hid _ from hI)
                clear hI hown hrc HOwn
                go_wp2_with fail
                go_ret2
                exact ⟨_, rfl, hbw.trans (hbc.mono hbw.size), by rw [HRes.out]; exact HI.out⟩
    · have hw : wcode m code = 9 := wcode_no hm hc
      have hnl : nxtL m code = [] := by unfold nxtL; rw [if_neg (by rw [hw]; decide)]
      rw [hw, hnl]
      have hii := fun w => in_any code 0 (prodTo m.vars m.vars.length - 1) w
      rw [decide_eq_false (show ¬ (0 ≤ code ∧ code ≤ prodTo m.vars m.vars.length - 1) by omega)] at hii
      obtain ⟨ao, cap, rfl⟩ := hV.1.shape
      obtain ⟨ro, rc, rfl⟩ := hV.2.shape
      obtain ⟨hN0, hN1⟩ := hN
      generalize prodTo m.vars m.vars.length = N at *
      generalize m.vars.length = n at *
      generalize m.rules.length = rn at *
      clear hV hw hnl hm hok hc
      go_enter Tryz.func24, Tryz.ntmps24
      go_wp2_with (first | (go_at_call 20; refine (hcn _).mono ?_; rintro e w1 ⟨rfl, hb1⟩) | (go_at_call 22; refine (hii _).mono ?_; rintro e w9 ⟨rfl, rfl⟩))
      go_ret2
      exact ⟨_, rfl, (hA _).trans (hb1.mono (hA _).size), World.ownsRow_nil _ _ _ _⟩
  · have hw : wcode m code = mcode m := wcode_bad hm
    have hnl : nxtL m code = [] := by unfold nxtL; rw [if_neg (by rw [hw]; exact hm)]
    rw [hw, hnl]
    rw [if_neg hm] at hcn
    obtain ⟨ao, cap, rfl⟩ := hV.1.shape
    obtain ⟨ro, rc, rfl⟩ := hV.2.shape
    generalize mcode m = c at *
    generalize m.vars.length = n at *
    generalize m.rules.length = rn at *
    clear hV hw hnl
    go_enter Tryz.func24, Tryz.ntmps24
    go_wp2_with (go_at_call 20; refine (hcn _).mono ?_; rintro e w1 ⟨rfl, hb1⟩)
    go_ret2
    exact ⟨_, rfl, (hA _).trans (hb1.mono (hA _).size), World.ownsRow_nil _ _ _ _⟩
theorem rnext_any (va vr : Value) (m : Mo) (code : Int) (w : World) (hV : ModelV w va vr m) :
    Calls Tryz.prog 24 #[.agg #[va, vr], .int .i64 code] w fun e w' => ∃ v, e = .returned (.tuple #[v, .int .i64 (wcode m code)]) ∧ Below w.heap.size w w' ∧ IntsV w' v (nxtL m code) :=
  (rnext_own va vr m code w hV).mono fun _ _ ⟨v, h1, h2, h3⟩ => ⟨v, h1, h2, intsV_of_owns h3⟩
end Go.Proofs.YtdlpmomohbdpgaaGreatDoor

/-
  The document's own: the spots behind a spot.
-/
namespace Go.Proofs.YtdlpmomohbdpgaaGreatDoor
open Go.ChangeShapes Go.WideShapes Go.ChangeAt Go.RowKit Go.Deep Go.Maps
open Terms Tm

set_option maxHeartbeats 3200000 in
set_option maxRecDepth 20000 in
theorem behindOf_bad (va vr pv fv : Value) (m : Mo) (ps : List (List (Int × Int))) (l : List (Int × Int)) (code c : Int) (w : World) (hp1 : ps.length * 24 ≤ 140737488355328) (hV : TaskV w va vr pv fv m ps l) (hk : tkcode m ps l ≠ 0) :
    Calls Tryz.prog 7 #[.agg #[va, vr, pv, fv], .agg #[.int .i64 code, .int .i64 c]] w (BdPost w m ps l code c) := by
  unfold BdPost
  rw [bhL_bad (by rw [bhC_bad hk]; exact hk), bhC_bad hk]
  obtain ⟨ao, ac, rfl⟩ := hV.mo.1.shape
  obtain ⟨ro, rc, rfl⟩ := hV.mo.2.shape
  obtain ⟨po, pc, rfl⟩ := hV.ps.shape
  obtain ⟨fo, fc, rfl, _⟩ := id hV.fo
  have hA : ∀ o o', Below w.heap.size w ((w.alloc o).alloc o') := fun o o' => ((Below.refl _ _).alloc (Nat.le_refl _) o).alloc (by simp) o'
  have hsv := taskFault_any _ _ _ _ m ps l _ hp1 (hV.below (hA (.cells #[.slice ao m.vars.length ac, .slice ro m.rules.length rc, .slice po ps.length pc, .slice fo l.length fc] 29) (.cells #[.int .i64 code, .int .i64 c] 31)))
  generalize tkcode m ps l = tc at *
  generalize m.vars.length = vn at *
  generalize m.rules.length = rn at *
  generalize ps.length = pn at *
  generalize l.length = fn at *
  clear hV
  go_enter Tryz.func7, Tryz.ntmps7
  go_wp2_with (first | (go_at_call 19; refine hsv.mono ?_; rintro e w1 ⟨rfl, hb1⟩; have hbw := (hA _ _).trans (hb1.mono (hA _ _).size)))
  go_ret2
  exact ⟨none, 0, rfl, hbw, SpO.nil _ _⟩

set_option maxHeartbeats 3200000 in
set_option maxRecDepth 20000 in
theorem behindOf_no (va vr pv fv : Value) (m : Mo) (ps : List (List (Int × Int))) (l : List (Int × Int)) (code c : Int) (w : World) (hp1 : ps.length * 24 ≤ 140737488355328) (hV : TaskV w va vr pv fv m ps l) (hk : tkcode m ps l = 0) (hno : ¬ ((0 ≤ code ∧ code < prodTo m.vars m.vars.length) ∧ (0 ≤ c ∧ c < ((2 ^ (aheadL l).length : Nat) : Int)))) :
    Calls Tryz.prog 7 #[.agg #[va, vr, pv, fv], .agg #[.int .i64 code, .int .i64 c]] w (BdPost w m ps l code c) := by
  obtain ⟨hp0, hl0⟩ := tk_zero hk
  have h6 := (lcode_zero hl0).2.2.2.2
  have hm0 := (pcode_m hp0).1
  have hbc : bhC m ps l code c = 9 := by
    by_cases h2 : 0 ≤ c ∧ c < ((2 ^ (aheadL l).length : Nat) : Int)
    · rw [bhC_ok hk h2, wcode_no hm0 (fun h => hno ⟨h, h2⟩)]
    · exact bhC_no hk h2
  unfold BdPost
  rw [bhL_bad (by rw [hbc]; decide), hbc]
  obtain ⟨ao, ac, rfl⟩ := hV.mo.1.shape
  obtain ⟨ro, rc, rfl⟩ := hV.mo.2.shape
  obtain ⟨po, pc, rfl⟩ := hV.ps.shape
  obtain ⟨fo, fc, rfl, _⟩ := id hV.fo
  have hA : ∀ o o', Below w.heap.size w ((w.alloc o).alloc o') := fun o o' => ((Below.refl _ _).alloc (Nat.le_refl _) o).alloc (by simp) o'
  obtain ⟨W2, hW2⟩ : ∃ W2, W2 = (w.alloc (.cells #[.slice ao m.vars.length ac, .slice ro m.rules.length rc, .slice po ps.length pc, .slice fo l.length fc] 29)).alloc (.cells #[.int .i64 code, .int .i64 c] 31) := ⟨_, rfl⟩
  have hb2 : Below w.heap.size w W2 := by rw [hW2]; exact hA _ _
  have hsv : Calls Tryz.prog 19 #[.agg #[.slice ao m.vars.length ac, .slice ro m.rules.length rc, .slice po ps.length pc, .slice fo l.length fc]] W2 fun e w' => e = .returned (.int .i64 0) ∧ Below W2.heap.size W2 w' := by
    have := taskFault_any _ _ _ _ m ps l W2 hp1 (hV.below hb2)
    rw [hk] at this
    exact this
  have HCo : Hid (∀ w', Below w.heap.size w w' → Calls Tryz.prog 20 #[.agg #[.slice ao m.vars.length ac, .slice ro m.rules.length rc]] w' fun e w'' => e = .returned (.tuple #[.int .i64 (prodTo m.vars m.vars.length), .int .i64 0]) ∧ Below w'.heap.size w' w'') := fun w' h => by
    have := rcount_any _ _ m w' (hV.mo.below h)
    rw [if_pos hm0, hm0] at this
    exact this
  have HMa : Hid (∀ w', Below w.heap.size w w' → Calls Tryz.prog 21 #[.agg #[.slice ao m.vars.length ac, .slice ro m.rules.length rc, .slice po ps.length pc, .slice fo l.length fc]] w' fun e w'' => e = .returned (.int .i64 ((2 ^ (aheadL l).length : Nat) : Int)) ∧ Below w'.heap.size w' w'') := fun w' h => many_any _ _ _ _ m ps l w' (hV.below h) hk
  have HBx : Hid (∀ w', Below W2.heap.size W2 w' → (w'.cell? ⟨w.heap.size, 0, none⟩ = some (.slice ao m.vars.length ac) ∧ w'.cell? ⟨w.heap.size, 1, none⟩ = some (.slice ro m.rules.length rc) ∧ w'.cell? ⟨w.heap.size, 2, none⟩ = some (.slice po ps.length pc) ∧ w'.cell? ⟨w.heap.size, 3, none⟩ = some (.slice fo l.length fc)) ∧ w'.cell? ⟨w.heap.size + 1, 0, none⟩ = some (.int .i64 code) ∧ w'.cell? ⟨w.heap.size + 1, 1, none⟩ = some (.int .i64 c)) := fun w' h => by
    have hz : W2.heap.size = w.heap.size + 2 := by rw [hW2]; simp
    refine ⟨⟨?_, ?_, ?_, ?_⟩, ?_, ?_⟩
    · exact (h.cell (p := ⟨w.heap.size, 0, none⟩) (by show w.heap.size < _; omega)).trans (by rw [hW2]; simp [go_sem])
    · exact (h.cell (p := ⟨w.heap.size, 1, none⟩) (by show w.heap.size < _; omega)).trans (by rw [hW2]; simp [go_sem])
    · exact (h.cell (p := ⟨w.heap.size, 2, none⟩) (by show w.heap.size < _; omega)).trans (by rw [hW2]; simp [go_sem])
    · exact (h.cell (p := ⟨w.heap.size, 3, none⟩) (by show w.heap.size < _; omega)).trans (by rw [hW2]; simp [go_sem])
    · exact (h.cell (p := ⟨w.heap.size + 1, 0, none⟩) (by show w.heap.size + 1 < _; omega)).trans (by rw [hW2]; simp [go_sem])
    · exact (h.cell (p := ⟨w.heap.size + 1, 1, none⟩) (by show w.heap.size + 1 < _; omega)).trans (by rw [hW2]; simp [go_sem])
  obtain ⟨hP1, hP2⟩ := (mcode_vars hm0).prod (Nat.le_refl m.vars.length)
  have hN64 : 2 ^ (aheadL l).length ≤ 64 := Nat.pow_le_pow_right (show 0 < 2 by decide) h6
  have hin := in_any
  generalize prodTo m.vars m.vars.length = P at *
  generalize 2 ^ (aheadL l).length = N at *
  generalize m.vars.length = vn at *
  generalize m.rules.length = rn at *
  generalize ps.length = pn at *
  generalize l.length = fn at *
  clear hV hk hbc hp0 hl0 h6 hm0
  subst hW2
  go_enter Tryz.func7, Tryz.ntmps7
  by_cases hc1 : 0 ≤ code ∧ code < P
  · have hd1 : decide (0 ≤ code ∧ code ≤ P - 1) = true := decide_eq_true (by omega)
    have hd2 : decide (0 ≤ c ∧ c ≤ (N : Int) - 1) = false := decide_eq_false (by omega)
    go_wp2_with (first
      | (go_at_call 19; refine hsv.mono ?_; rintro e w1 ⟨rfl, hb1⟩; have hbw1 := hb2.trans (hb1.mono hb2.size); obtain ⟨⟨a0, a1, a2, a3⟩, a4, a5⟩ := HBx.out w1 hb1; have hco := HCo.out w1 hbw1)
      | (go_at_call 20; refine hco.mono ?_; rintro e w2 ⟨rfl, hb22⟩; have hbw2 := hbw1.trans (hb22.mono hbw1.size); have hbb2 := hb1.trans (hb22.mono hb1.size); obtain ⟨⟨d0, d1, d2, d3⟩, d4, d5⟩ := HBx.out w2 hbb2; have hma := HMa.out w2 hbw2)
      | (go_at_call 21; refine hma.mono ?_; rintro e w3 ⟨rfl, hb3⟩; have hbw3 := hbw2.trans (hb3.mono hbw2.size); have hbb3 := hbb2.trans (hb3.mono hbb2.size); obtain ⟨⟨e0, e1, e2, e3⟩, e4, e5⟩ := HBx.out w3 hbb3)
      | (go_at_call 22; refine (hin _ _ _ _).mono ?_; rintro e w4 ⟨rfl, rfl⟩; first | rw [hd1] | rw [hd2]))
    go_ret2
    exact ⟨none, 0, rfl, hbw3, SpO.nil _ _⟩
  · have hd1 : decide (0 ≤ code ∧ code ≤ P - 1) = false := decide_eq_false (by omega)
    go_wp2_with (first
      | (go_at_call 19; refine hsv.mono ?_; rintro e w1 ⟨rfl, hb1⟩; have hbw1 := hb2.trans (hb1.mono hb2.size); obtain ⟨⟨a0, a1, a2, a3⟩, a4, a5⟩ := HBx.out w1 hb1; have hco := HCo.out w1 hbw1)
      | (go_at_call 20; refine hco.mono ?_; rintro e w2 ⟨rfl, hb22⟩; have hbw2 := hbw1.trans (hb22.mono hbw1.size); have hbb2 := hb1.trans (hb22.mono hb1.size); obtain ⟨⟨d0, d1, d2, d3⟩, d4, d5⟩ := HBx.out w2 hbb2; have hma := HMa.out w2 hbw2)
      | (go_at_call 21; refine hma.mono ?_; rintro e w3 ⟨rfl, hb3⟩; have hbw3 := hbw2.trans (hb3.mono hbw2.size); have hbb3 := hbb2.trans (hb3.mono hbb2.size); obtain ⟨⟨e0, e1, e2, e3⟩, e4, e5⟩ := HBx.out w3 hbb3)
      | (go_at_call 22; refine (hin _ _ _ _).mono ?_; rintro e w4 ⟨rfl, rfl⟩; rw [hd1]))
    go_ret2
    exact ⟨none, 0, rfl, hbw3, SpO.nil _ _⟩

set_option maxHeartbeats 6400000 in
set_option maxRecDepth 20000 in
theorem behindOf_ok (va vr pv fv : Value) (m : Mo) (ps : List (List (Int × Int))) (l : List (Int × Int)) (code : Int) (c : Nat) (w : World) (hp1 : ps.length * 24 ≤ 140737488355328) (hV : TaskV w va vr pv fv m ps l) (hk : tkcode m ps l = 0) (hcr : 0 ≤ code ∧ code < prodTo m.vars m.vars.length) (hcN : c < 2 ^ (aheadL l).length) :
    Calls Tryz.prog 7 #[.agg #[va, vr, pv, fv], .agg #[.int .i64 code, .int .i64 (c : Int)]] w (BdPost w m ps l code (c : Int)) := by
  obtain ⟨hp0, hl0⟩ := tk_zero hk
  have h6 := (lcode_zero hl0).2.2.2.2
  have hm0 := (pcode_m hp0).1
  have hw0 := wcode_yes hm0 hcr
  have hbc : bhC m ps l code (c : Int) = 0 := by rw [bhC_ok hk ⟨by omega, by omega⟩, hw0]
  unfold BdPost
  rw [bhL_ok hbc, hbc]
  obtain ⟨ao, ac, rfl⟩ := hV.mo.1.shape
  obtain ⟨ro, rc, rfl⟩ := hV.mo.2.shape
  obtain ⟨po, pc, rfl⟩ := hV.ps.shape
  obtain ⟨fo, fc, rfl, _⟩ := id hV.fo
  have hA : ∀ o o', Below w.heap.size w ((w.alloc o).alloc o') := fun o o' => ((Below.refl _ _).alloc (Nat.le_refl _) o).alloc (by simp) o'
  obtain ⟨W2, hW2⟩ : ∃ W2, W2 = (w.alloc (.cells #[.slice ao m.vars.length ac, .slice ro m.rules.length rc, .slice po ps.length pc, .slice fo l.length fc] 29)).alloc (.cells #[.int .i64 code, .int .i64 (c : Int)] 31) := ⟨_, rfl⟩
  have hb2 : Below w.heap.size w W2 := by rw [hW2]; exact hA _ _
  have hsv : Calls Tryz.prog 19 #[.agg #[.slice ao m.vars.length ac, .slice ro m.rules.length rc, .slice po ps.length pc, .slice fo l.length fc]] W2 fun e w' => e = .returned (.int .i64 0) ∧ Below W2.heap.size W2 w' := by
    have := taskFault_any _ _ _ _ m ps l W2 hp1 (hV.below hb2)
    rw [hk] at this
    exact this
  have HCo : Hid (∀ w', Below w.heap.size w w' → Calls Tryz.prog 20 #[.agg #[.slice ao m.vars.length ac, .slice ro m.rules.length rc]] w' fun e w'' => e = .returned (.tuple #[.int .i64 (prodTo m.vars m.vars.length), .int .i64 0]) ∧ Below w'.heap.size w' w'') := fun w' h => by
    have := rcount_any _ _ m w' (hV.mo.below h)
    rw [if_pos hm0, hm0] at this
    exact this
  have HMa : Hid (∀ w', Below w.heap.size w w' → Calls Tryz.prog 21 #[.agg #[.slice ao m.vars.length ac, .slice ro m.rules.length rc, .slice po ps.length pc, .slice fo l.length fc]] w' fun e w'' => e = .returned (.int .i64 ((2 ^ (aheadL l).length : Nat) : Int)) ∧ Below w'.heap.size w' w'') := fun w' h => many_any _ _ _ _ m ps l w' (hV.below h) hk
  have HBx : Hid (∀ w', Below W2.heap.size W2 w' → (w'.cell? ⟨w.heap.size, 0, none⟩ = some (.slice ao m.vars.length ac) ∧ w'.cell? ⟨w.heap.size, 1, none⟩ = some (.slice ro m.rules.length rc) ∧ w'.cell? ⟨w.heap.size, 2, none⟩ = some (.slice po ps.length pc) ∧ w'.cell? ⟨w.heap.size, 3, none⟩ = some (.slice fo l.length fc)) ∧ w'.cell? ⟨w.heap.size + 1, 0, none⟩ = some (.int .i64 code) ∧ w'.cell? ⟨w.heap.size + 1, 1, none⟩ = some (.int .i64 (c : Int))) := fun w' h => by
    have hz : W2.heap.size = w.heap.size + 2 := by rw [hW2]; simp
    refine ⟨⟨?_, ?_, ?_, ?_⟩, ?_, ?_⟩
    · exact (h.cell (p := ⟨w.heap.size, 0, none⟩) (by show w.heap.size < _; omega)).trans (by rw [hW2]; simp [go_sem])
    · exact (h.cell (p := ⟨w.heap.size, 1, none⟩) (by show w.heap.size < _; omega)).trans (by rw [hW2]; simp [go_sem])
    · exact (h.cell (p := ⟨w.heap.size, 2, none⟩) (by show w.heap.size < _; omega)).trans (by rw [hW2]; simp [go_sem])
    · exact (h.cell (p := ⟨w.heap.size, 3, none⟩) (by show w.heap.size < _; omega)).trans (by rw [hW2]; simp [go_sem])
    · exact (h.cell (p := ⟨w.heap.size + 1, 0, none⟩) (by show w.heap.size + 1 < _; omega)).trans (by rw [hW2]; simp [go_sem])
    · exact (h.cell (p := ⟨w.heap.size + 1, 1, none⟩) (by show w.heap.size + 1 < _; omega)).trans (by rw [hW2]; simp [go_sem])
  obtain ⟨hP1, hP2⟩ := (mcode_vars hm0).prod (Nat.le_refl m.vars.length)
  have hN64 : 2 ^ (aheadL l).length ≤ 64 := Nat.pow_le_pow_right (show 0 < 2 by decide) h6
  have hin := in_any
  have HLe : Hid (∀ (c' : Int) (w' : World), 0 ≤ c' ∧ c' < prodTo m.vars m.vars.length → Below w.heap.size w w' → Calls Tryz.prog 23 #[.agg #[.slice ao m.vars.length ac, .slice ro m.rules.length rc], .slice po ps.length pc, .int .i64 c'] w' fun e w'' => ∃ lo lc, e = .returned (.tuple #[.slice lo ps.length lc, .int .i64 0]) ∧ Below w'.heap.size w' w'' ∧ Hid (BoolsV w'' (.slice lo ps.length lc) (letL m ps c') ∧ RowTy w'' (.slice lo ps.length lc) 4)) := fun c' w' hc' h => by
    refine (rletter_own _ _ _ m ps c' w' hp1 (hV.mo.below h) (hV.ps.below h)).mono fun e w'' ⟨v, h1, h2, h3, h4⟩ => ?_
    obtain ⟨t1, t2⟩ := tk_let hk hc'
    obtain ⟨lo, lc, rfl, hx⟩ := h3
    rw [t2] at h1 h4
    exact ⟨lo, lc, by rw [h1, t1], h2, ⟨lo, lc, by rw [t2], hx⟩, h4⟩
  have HNe : Hid (∀ w', Below w.heap.size w w' → Calls Tryz.prog 24 #[.agg #[.slice ao m.vars.length ac, .slice ro m.rules.length rc], .int .i64 code] w' fun e w'' => ∃ no nc, e = .returned (.tuple #[.slice no (nextL m code).length nc, .int .i64 0]) ∧ Below w'.heap.size w' w'' ∧ Hid (IntsV w'' (.slice no (nextL m code).length nc) (nextL m code))) := fun w' h => by
    refine (rnext_any _ _ m code w' (hV.mo.below h)).mono fun e w'' ⟨v, h1, h2, h3⟩ => ?_
    have e1 : nxtL m code = nextL m code := by unfold nxtL; rw [if_pos hw0]
    rw [e1] at h3
    obtain ⟨no, nc, rfl, hx⟩ := h3
    exact ⟨no, nc, by rw [h1, hw0], h2, ⟨no, nc, rfl, hx⟩⟩
  have HFo : Hid (∀ (c' : Int) (d : Nat) (w' : World) (lo lo2 : Option Addr) (lc lc2 : Nat), 0 ≤ c' ∧ c' < prodTo m.vars m.vars.length → d < 2 ^ (aheadL l).length → Below w.heap.size w w' → BoolsV w' (.slice lo ps.length lc) (letL m ps code) → BoolsV w' (.slice lo2 ps.length lc2) (letL m ps c') → Calls Tryz.prog 25 #[.slice fo l.length fc, .slice lo ps.length lc, .int .i64 (c : Int), .slice lo2 ps.length lc2, .int .i64 (d : Int)] w' fun e w'' => e = .returned (.tuple #[.bool (folR l (letL m ps code) (c : Int) (letL m ps c') (d : Int)), .int .i64 0]) ∧ Below w'.heap.size w' w'') := fun c' d w' lo lo2 lc lc2 hc' hd h hx hy => by
    have := rfol_any _ _ _ l (letL m ps code) (letL m ps c') (c : Int) (d : Int) w' (hV.fo.below h) hx hy
    have hf : fcode l (letL m ps code) (c : Int) (letL m ps c') (d : Int) = 0 := by
      unfold fcode
      rw [if_neg (by rw [(tk_let hk hcr).2, (tk_let hk hc').2]; simp), if_neg (by rw [(tk_tru hk hcr hcN).1]; simp)]
      exact (tk_tru hk hc' hd).1
    rw [hf] at this
    exact this
  have hnn := nextL_len hm0 hcr
  have HNx : Hid (∀ i, i < (nextL m code).length → 0 ≤ (nextL m code).getD i 0 ∧ (nextL m code).getD i 0 < prodTo m.vars m.vars.length) := fun i hi => nextL_st hm0 hcr (by rw [List.getD_eq_getElem?_getD, List.getElem?_eq_getElem hi]; exact List.getElem_mem hi)
  have HBt : Hid (∀ i, behTo m ps l code (c : Int) (i + 1) = behTo m ps l code (c : Int) i ++ foTo l (letL m ps code) (c : Int) (letL m ps ((nextL m code).getD i 0)) ((nextL m code).getD i 0) (2 ^ (aheadL l).length)) := fun _ => rfl
  have HB0 : Hid (behTo m ps l code (c : Int) 0 = []) := rfl
  have HGet : Hid (∀ (w' : World) (no : Option Addr) (nc : Nat), IntsV w' (.slice no (nextL m code).length nc) (nextL m code) → ∀ i, i < (nextL m code).length → ∃ b off, no = some ⟨b, off, none⟩ ∧ b < w'.heap.size ∧ w'.cell? ⟨b, off + i, none⟩ = some (.int .i64 ((nextL m code).getD i 0))) := fun w' no nc hx i hi => by
    obtain ⟨ao, cap, e2, h1⟩ := hx
    injection e2 with e2 _ _
    subst e2
    obtain ⟨b, off, rfl, hb, hat⟩ := h1 (by intro e; rw [e] at hi; simp at hi)
    exact ⟨b, off, rfl, hb, hat i hi⟩
  have hcrP : 0 ≤ code ∧ code < prodTo m.vars m.vars.length := hcr
  unfold behL
  generalize (nextL m code).length = nn at *
  generalize behTo m ps l code (c : Int) = bt at *
  generalize prodTo m.vars m.vars.length = P at *
  generalize 2 ^ (aheadL l).length = N at *
  generalize m.vars.length = vn at *
  generalize m.rules.length = rn at *
  generalize ps.length = pn at *
  generalize l.length = fn at *
  clear hV hk hbc hp0 hl0 h6 hm0 hw0
  subst hW2
  go_enter Tryz.func7, Tryz.ntmps7
  have hd1 : decide (0 ≤ code ∧ code ≤ P - 1) = true := decide_eq_true (by omega)
  have hd2 : decide (0 ≤ (c : Int) ∧ (c : Int) ≤ (N : Int) - 1) = true := decide_eq_true (by omega)
  go_wp2_with (first
    | (go_at_call 19; refine hsv.mono ?_; rintro e w1 ⟨rfl, hb1⟩; have hbw1 := hb2.trans (hb1.mono hb2.size); obtain ⟨⟨a0, a1, a2, a3⟩, a4, a5⟩ := HBx.out w1 hb1; have hco := HCo.out w1 hbw1)
    | (go_at_call 20; refine hco.mono ?_; rintro e w2 ⟨rfl, hb22⟩; have hbw2 := hbw1.trans (hb22.mono hbw1.size); have hbb2 := hb1.trans (hb22.mono hb1.size); obtain ⟨⟨d0, d1, d2, d3⟩, d4, d5⟩ := HBx.out w2 hbb2; have hma := HMa.out w2 hbw2)
    | (go_at_call 21; refine hma.mono ?_; rintro e w3 ⟨rfl, hb3⟩; have hbw3 := hbw2.trans (hb3.mono hbw2.size); have hbb3 := hbb2.trans (hb3.mono hbb2.size); obtain ⟨⟨e0, e1, e2, e3⟩, e4, e5⟩ := HBx.out w3 hbb3; have hle := HLe.out code w3 hcr hbw3)
    | (go_at_call 22; refine (hin _ _ _ _).mono ?_; rintro e w4 ⟨rfl, rfl⟩; first | rw [hd1] | rw [hd2])
    | (go_at_call 23; refine hle.mono ?_; rintro e w5 ⟨lo, lc, rfl, hb5, HLv⟩; have hbw5 := hbw3.trans (hb5.mono hbw3.size); have hbb5 := hbb3.trans (hb5.mono hbb3.size); obtain ⟨⟨f0, f1, f2, f3⟩, f4, f5⟩ := HBx.out w5 hbb5; have hne := HNe.out w5 hbw5)
    | (go_at_call 24; refine hne.mono ?_; rintro e w6 ⟨no, nc, rfl, hb6, HNv⟩; have hbw6 := hbw5.trans (hb6.mono hbw5.size); have hbb6 := hbb5.trans (hb6.mono hbb5.size)))
  have HX6 : Hid (∀ w', Below w6.heap.size w6 w' → BoolsV w' (.slice lo pn lc) (letL m ps code) ∧ IntsV w' (.slice no nn nc) (nextL m code) ∧ (w'.cell? ⟨w.heap.size, 0, none⟩ = some (.slice ao vn ac) ∧ w'.cell? ⟨w.heap.size, 1, none⟩ = some (.slice ro rn rc) ∧ w'.cell? ⟨w.heap.size, 2, none⟩ = some (.slice po pn pc) ∧ w'.cell? ⟨w.heap.size, 3, none⟩ = some (.slice fo fn fc)) ∧ w'.cell? ⟨w.heap.size + 1, 1, none⟩ = some (.int .i64 (c : Int))) := fun w' h => by
    obtain ⟨q1, _, q3⟩ := HBx.out w' (hbb6.trans (h.mono hbb6.size))
    exact ⟨(HLv.out.1.below hb6).below h, HNv.out.below h, q1, q3⟩
  clear a0 a1 a2 a3 a4 a5 d0 d1 d2 d3 d4 d5 e0 e1 e2 e3 e4 e5 f0 f1 f2 f3 f4 f5 hsv hco hma hle hne HCo HMa HNe HBx HLv HNv
  go_loopw [14, 15] (fun u i wr => ∃ k : Nat, k ≤ nn ∧ i = .int .i64 k ∧ (∃ qo qk qc, u = .slice qo qk qc ∧ qk ≤ k * 64 ∧ Hid ((bt k).length = qk ∧ SpO wr w6.heap.size (.slice qo qk qc) (bt k))) ∧ Below w6.heap.size w6 wr) (fun _ i _ => nn - (intOf i).toNat)
  case atStart => exact ⟨0, Nat.zero_le _, rfl, ⟨none, 0, 0, rfl, Nat.zero_le _, by rw [HB0.out]; rfl, by rw [HB0.out]; exact SpO.nil _ _⟩, Below.refl _ _⟩
  case round =>
    obtain ⟨k, hkn, rfl, ⟨qo, qk, qc, rfl, hqk, HSp⟩, hbr⟩ := hrel
    by_cases hlt : k < nn
    · obtain ⟨_, hiv, ⟨x0, x1, x2, x3⟩, x4⟩ := HX6.out wr hbr
      obtain ⟨nb, noff, rfl, hnb, hcell⟩ := HGet.out wr no nc hiv k hlt
      have hbwr := hbw6.trans (hbr.mono hbw6.size)
      have hinr := HNx.out k hlt
      have hle := HLe.out _ wr.drew hinr hbwr.drew
      have hki : (k : Int) < (nn : Int) := by omega
      have HBk := (show Hid _ from HBt.out k)
      have HGk : Hid (∀ w', Below w6.heap.size w6 w' → w'.cell? ⟨nb, noff + k, none⟩ = some (.int .i64 ((nextL m code).getD k 0))) := fun w' h => by
        obtain ⟨b', off', e1, _, e2⟩ := HGet.out w' _ nc (HX6.out w' h).2.1 k hlt
        injection e1 with e1
        injection e1 with e3 e4
        subst e3 e4
        exact e2
      have HFk : Hid (∀ (d : Nat) (w' : World) (lo2 : Option Addr) (lc2 : Nat), d < N → Below w6.heap.size w6 w' → BoolsV w' (.slice lo2 pn lc2) (letL m ps ((nextL m code).getD k 0)) → Calls Tryz.prog 25 #[.slice fo fn fc, .slice lo pn lc, .int .i64 (c : Int), .slice lo2 pn lc2, .int .i64 (d : Int)] w' fun e w'' => e = .returned (.tuple #[.bool (folR l (letL m ps code) (c : Int) (letL m ps ((nextL m code).getD k 0)) (d : Int)), .int .i64 0]) ∧ Below w'.heap.size w' w'') := fun d w' lo2 lc2 h1 h2 h3 => HFo.out _ d w' lo lo2 lc lc2 hinr h1 (hbw6.trans (h2.mono hbw6.size)) (HX6.out w' h2).1 h3
      have HF0 : Hid (foTo l (letL m ps code) (c : Int) (letL m ps ((nextL m code).getD k 0)) ((nextL m code).getD k 0) 0 = []) := rfl
      have HFS : Hid (∀ d : Nat, foTo l (letL m ps code) (c : Int) (letL m ps ((nextL m code).getD k 0)) ((nextL m code).getD k 0) (d + 1) = if folR l (letL m ps code) (c : Int) (letL m ps ((nextL m code).getD k 0)) (d : Int) = true then foTo l (letL m ps code) (c : Int) (letL m ps ((nextL m code).getD k 0)) ((nextL m code).getD k 0) d ++ [((nextL m code).getD k 0, (d : Int))] else foTo l (letL m ps code) (c : Int) (letL m ps ((nextL m code).getD k 0)) ((nextL m code).getD k 0) d) := fun _ => rfl
      generalize foTo l (letL m ps code) (c : Int) (letL m ps ((nextL m code).getD k 0)) ((nextL m code).getD k 0) = ft at *
      generalize hfr : (fun d : Nat => folR l (letL m ps code) (c : Int) (letL m ps ((nextL m code).getD k 0)) (d : Int)) = fr at *
      have HFr : Hid (∀ d : Nat, folR l (letL m ps code) (c : Int) (letL m ps ((nextL m code).getD k 0)) (d : Int) = fr d) := fun d => by rw [← hfr]
      clear hfr HNx HBt HB0 HFo HGet HLe hiv
      generalize letL m ps ((nextL m code).getD k 0) = lt2 at *
      generalize (nextL m code).getD k 0 = cd at *
      have HSl : Hid ((bt k).length = qk) := HSp.out.1
      have HSpk : Hid (∀ w', Below wr.heap.size wr w' → SpO w' w6.heap.size (.slice qo qk qc) (bt k)) := fun w' h => HSp.out.2.later h (Nat.le_refl _)
      have HSB : Hid (∀ w', Below w6.heap.size w6 w' → w'.cell? ⟨w.heap.size, 0, none⟩ = some (.slice ao vn ac) ∧ w'.cell? ⟨w.heap.size, 1, none⟩ = some (.slice ro rn rc) ∧ w'.cell? ⟨w.heap.size, 2, none⟩ = some (.slice po pn pc) ∧ w'.cell? ⟨nb, noff + k, none⟩ = some (.int .i64 cd)) := fun w' h => by
        obtain ⟨_, _, ⟨p0, p1, p2, _⟩, _⟩ := HX6.out w' h
        exact ⟨p0, p1, p2, HGk.out w' h⟩
      clear HSp
      go_wp2_with fail
      go_region_held3 (fun w' => w'.cell? ⟨w.heap.size, 0, none⟩ = some (.slice ao vn ac) ∧ w'.cell? ⟨w.heap.size, 1, none⟩ = some (.slice ro rn rc) ∧ w'.cell? ⟨w.heap.size, 2, none⟩ = some (.slice po pn pc) ∧ w'.cell? ⟨nb, noff + k, none⟩ = some (.int .i64 cd))
        (first | exact HSB.out _ hbc7 | exact HSB.out _ hbr.drew | exact HSB.out _ hbr)
        (first
          | (go_at_call 23; refine hle.mono ?_; rintro e w7 ⟨lo2, lc2, rfl, hb7, HLv7⟩; have hb7w := hb7; have hbc7 := hbr.drew.trans (hb7.mono hbr.drew.size)))
      have hb7r : Below wr.heap.size wr w7 := ⟨hb7w.os, hb7w.tape, hb7w.output, hb7w.size, hb7w.block⟩
      clear hle hcell x0 x1 x2 x3 x4
      go_wp2_with fail
      go_loopw [14, 18] (fun u i wr2 => ∃ d : Nat, d ≤ N ∧ i = .int .i64 d ∧ (∃ qo2 qk2 qc2, u = .slice qo2 qk2 qc2 ∧ qk2 ≤ qk + d ∧ Hid ((bt k ++ ft d).length = qk2 ∧ SpO wr2 w6.heap.size (.slice qo2 qk2 qc2) (bt k ++ ft d))) ∧ Below w6.heap.size w6 wr2 ∧ Hid (BoolsV wr2 (.slice lo2 pn lc2) lt2 ∧ RowTy wr2 (.slice lo2 pn lc2) 4)) (fun _ i _ => N - (intOf i).toNat)
      case atStart => exact ⟨0, Nat.zero_le _, rfl, ⟨qo, qk, qc, rfl, Nat.le_refl _, by rw [HF0.out, List.append_nil]; exact HSl.out, by rw [HF0.out, List.append_nil]; exact HSpk.out _ hb7r⟩, hbc7, HLv7⟩
      case round =>
        obtain ⟨d, hdN, rfl, ⟨qo2, qk2, qc2, rfl, hqk2, HSp2⟩, hbr2, HL2⟩ := hrel
        by_cases hd : d < N
        · obtain ⟨_, _, ⟨y0, y1, y2, y3⟩, y4⟩ := HX6.out wr hbr2
          have hfo := HFk.out d wr lo2 lc2 hd hbr2 HL2.out.1
          rw [HFr.out] at hfo
          have HE := (show Hid _ from HFS.out d)
          rw [HFr.out] at HE
          have HSl2 : Hid ((bt k ++ ft d).length = qk2) := HSp2.out.1
          have HN2 : Hid (∀ w', Below wr.heap.size wr w' → SpO w' w6.heap.size (.slice qo2 qk2 qc2) (bt k ++ ft d) ∧ BoolsV w' (.slice lo2 pn lc2) lt2 ∧ RowTy w' (.slice lo2 pn lc2) 4) := fun w' h => ⟨HSp2.out.2.later h (Nat.le_refl _), HL2.out.1.below h, HL2.out.2.below h⟩
          clear HSp2 HL2
          cases hfd : fr d with
          | false =>
            rw [hfd] at hfo HE
            have HE2 : Hid (ft (d + 1) = ft d) := by have := HE.out; rw [if_neg (by simp)] at this; exact this
            clear HE hfd
            go_wp2_with (first | (go_at_call 25; refine hfo.mono ?_; rintro e w8 ⟨rfl, hb8⟩; have hbc8 := hbr2.trans (hb8.mono hbr2.size)))
            go_roundw
            case rel => exact ⟨d + 1, by omega, by go_num, ⟨qo2, qk2, qc2, rfl, by omega, by rw [HE2.out]; exact HSl2.out, by rw [HE2.out]; exact (HN2.out _ hb8).1⟩, hbc8, (HN2.out _ hb8).2⟩
            case measure => simp [intOf]; omega
          | true =>
            rw [hfd] at hfo HE
            have HE2 : Hid (ft (d + 1) = ft d ++ [(cd, (d : Int))]) := by have := HE.out; rw [if_pos rfl] at this; exact this
            clear HE hfd
            go_wp2_with (first | (go_at_call 25; refine hfo.mono ?_; rintro e w8 ⟨rfl, hb8⟩; have hbc8 := hbr2.trans (hb8.mono hbr2.size); have hg8 := HGk.out w8 hbc8; have hsp8 := (HN2.out _ hb8).1; have hsz8 := hbc8.size) | (at_builtin; refine push_sp cd (d : Int) rfl _ _ rfl w6.heap.size qk2 qc2 qo2 (bt k ++ ft d) HSl2.out rfl hsp8 rfl (by omega) hsz8 ?_; intro vo9 cap9 w9 ho9 hb9 hg9))
            have hown := hsp8.own (.cells #[.int .i64 cd, .int .i64 (d : Int)] 31)
            have HQ9 : Hid (SpO w9 w6.heap.size (.slice vo9 (qk2 + 1) cap9) (bt k ++ ft d ++ [(cd, (d : Int))]) ∧ Below w6.heap.size w6 w9 ∧ BoolsV w9 (.slice lo2 pn lc2) lt2 ∧ RowTy w9 (.slice lo2 pn lc2) 4) := by
              have ha : Below w8.heap.size w8 (w8.alloc (.cells #[.int .i64 cd, .int .i64 (d : Int)] 31)) := (Below.refl _ _).alloc (Nat.le_refl _) _
              obtain ⟨_, h1, h2⟩ := HN2.out _ hb8
              exact ⟨ho9, hbc8.trans hb9, (h1.below ha).grown (h2.below ha) hg9 (fun g e => (hown g e).2), (h2.below ha).grown hg9 (by decide) (fun g e => (hown g e).2)⟩
            clear hown ho9 hb9 hg9 hsp8
            go_wp2_with fail
            go_roundw
            case rel => exact ⟨d + 1, by omega, by go_num, ⟨vo9, qk2 + 1, cap9, rfl, by omega, by rw [HE2.out, ← List.append_assoc, List.length_append, HSl2.out]; rfl, by rw [HE2.out, ← List.append_assoc]; exact HQ9.out.1⟩, HQ9.out.2.1, HQ9.out.2.2⟩
            case measure => simp [intOf]; omega
        · obtain rfl : d = N := by omega
          have HSl2 : Hid ((bt (k + 1)).length = qk2 ∧ SpO wr w6.heap.size (.slice qo2 qk2 qc2) (bt (k + 1))) := by rw [HBk.out]; exact HSp2.out
          clear HSp2 HL2
          go_wp2_with fail
          go_roundw
          case rel => exact ⟨k + 1, by omega, by go_num, ⟨qo2, qk2, qc2, rfl, by omega, HSl2.out.1, HSl2.out.2⟩, hbr2⟩
          case measure => simp [intOf]; omega
    · obtain rfl : k = nn := by omega
      have HSl : Hid ((bt k).length = qk) := HSp.out.1
      have HSpp : Hid (SpO wr w6.heap.size (.slice qo qk qc) (bt k)) := HSp.out.2
      have hbF := hbw6.trans (hbr.mono hbw6.size)
      clear HSp
      go_wp2_with fail
      go_ret2
      exact ⟨qo, qc, by rw [HSl.out]; rfl, hbF, by rw [HSl.out]; exact owns_mono HSpp.out hbw6.size⟩
/-- THE CONTRACT OF BehindOf. -/
theorem behindOf_any (va vr pv fv : Value) (m : Mo) (ps : List (List (Int × Int))) (l : List (Int × Int)) (code c : Int) (w : World) (hp1 : ps.length * 24 ≤ 140737488355328) (hV : TaskV w va vr pv fv m ps l) :
    Calls Tryz.prog 7 #[.agg #[va, vr, pv, fv], .agg #[.int .i64 code, .int .i64 c]] w (BdPost w m ps l code c) := by
  by_cases hk : tkcode m ps l = 0
  · by_cases hc : (0 ≤ code ∧ code < prodTo m.vars m.vars.length) ∧ (0 ≤ c ∧ c < ((2 ^ (aheadL l).length : Nat) : Int))
    · obtain ⟨k, rfl⟩ : ∃ k : Nat, c = (k : Int) := ⟨c.toNat, by omega⟩
      exact behindOf_ok va vr pv fv m ps l code k w hp1 hV hk hc.1 (by omega)
    · exact behindOf_no va vr pv fv m ps l code c w hp1 hV hk hc
  · exact behindOf_bad va vr pv fv m ps l code c w hp1 hV hk
end Go.Proofs.YtdlpmomohbdpgaaGreatDoor

/-
  The walk of the law ProductBehinds.
-/
namespace Go.Proofs.YtdlpmomohbdpgaaGreatDoor
open Go.ChangeShapes Go.WideShapes Go.ChangeAt Go.RowKit Go.Deep Go.Joins
open Terms Tm

set_option maxRecDepth 20000 in
theorem cellsSpot : Tryz.prog.cellsOf 31 = 2 := by kernel_rfl
section
variable {H : Type} {enc : TypeId × Value → H} {W : World}
set_option maxRecDepth 20000 in
/-- A SPOT THAT CAME IN. -/
theorem open_spot {base : Nat} {v : Value} {d : DataW H} {p : List MemPlace} (hv : Value.okWide Tryz.prog W .any base 31 v) (h : DataW.Trod enc Tryz.prog W 0 (fun _ => true) true 31 v d p) :
    ∃ a b : Int, v = .agg #[.int .i64 a, .int .i64 b] ∧ (-9223372036854775808 ≤ a ∧ a ≤ 9223372036854775807) := by
  obtain ⟨cs, rfl, hs⟩ := okWide_struct Tryz.underlying31 hv
  have hs2 := hs.trans cellsSpot
  obtain ⟨c0, c1, rfl⟩ : ∃ c0 c1, cs = #[c0, c1] := by
    obtain ⟨ls⟩ := cs
    match ls, hs2 with
    | [a, b], _ => exact ⟨a, b, rfl⟩
  obtain ⟨fuel, hf⟩ := h
  obtain ⟨y0, y1, n, hx, _, h0, h1⟩ := trod_struct2 Tryz.underlying31 hf
  have g0 : DataW.trod enc Tryz.prog W 0 (fun _ => true) true n 3 [c0] = some y0 := by simpa [Value.cells, cellsI] using h0
  have g1 : DataW.trod enc Tryz.prog W 0 (fun _ => true) true n 3 [c1] = some y1 := by simpa [Value.cells, cellsI] using h1
  obtain ⟨x0, e0, _, w0⟩ := DataW.trod_int Tryz.underlying3 g0
  obtain ⟨x1, e1, _, _⟩ := DataW.trod_int Tryz.underlying3 g1
  simp at e0 e1
  subst e0 e1
  exact ⟨x0, x1, rfl, by simpa [Lit.wf, IntKind.min, IntKind.max, IntKind.signed, IntKind.bits] using w0⟩
end
theorem bhL_len (m : Mo) (ps : List (List (Int × Int))) (l : List (Int × Int)) (code c : Int) : (bhL m ps l code c).length ≤ 1048576 := by
  by_cases hc : bhC m ps l code c = 0
  · rw [bhL_ok hc]
    have hk : tkcode m ps l = 0 := by
      by_cases hk : tkcode m ps l = 0
      · exact hk
      · rw [bhC_bad hk] at hc; exact absurd hc hk
    obtain ⟨hp0, hl0⟩ := tk_zero hk
    have h6 := (lcode_zero hl0).2.2.2.2
    have hm0 := (pcode_m hp0).1
    have hcr : 0 ≤ code ∧ code < prodTo m.vars m.vars.length := by
      by_cases hcr : 0 ≤ code ∧ code < prodTo m.vars m.vars.length
      · exact hcr
      · by_cases h2 : 0 ≤ c ∧ c < ((2 ^ (aheadL l).length : Nat) : Int)
        · rw [bhC_ok hk h2, wcode_no hm0 hcr] at hc; exact absurd hc (by decide)
        · rw [bhC_no hk h2] at hc; exact absurd hc (by decide)
    have h1 := behTo_len (m := m) (ps := ps) (l := l) (Nat.pow_le_pow_right (show 0 < 2 by decide) h6) code c (nextL m code).length
    have h2 := nextL_len hm0 hcr
    unfold behL
    omega
  · rw [bhL_bad hc]; simp

set_option maxHeartbeats 1600000 in
set_option maxRecDepth 20000 in
theorem productBehinds_walk (va vr pv fv : Value) (m : Mo) (ps : List (List (Int × Int))) (l : List (Int × Int)) (code c : Int) (hI : -9223372036854775808 ≤ code ∧ code ≤ 9223372036854775807) (w : World) (hB : 0 < w.heap.size) (hT : TabAt w) (hZ : TkSz m ps l) (hV : TaskV w va vr pv fv m ps l) :
    Calls Tryz.prog 3 #[.agg #[va, vr, pv, fv], .agg #[.int .i64 code, .int .i64 c]] w fun e w' => e = .returned (.bool true) ∧ Below w.heap.size w w' := by
  obtain ⟨ao, ac, rfl⟩ := hV.mo.1.shape
  obtain ⟨ro, rc, rfl⟩ := hV.mo.2.shape
  obtain ⟨po, pc, rfl⟩ := hV.ps.shape
  obtain ⟨fo, fc, rfl, _⟩ := id hV.fo
  have HTk : Hid (∀ w1, Below w.heap.size w w1 → Calls Tryz.prog 6 #[.agg #[.slice ao m.vars.length ac, .slice ro m.rules.length rc, .slice po ps.length pc, .slice fo l.length fc]] w1 fun e w' => ∃ ao vn ac ro rn rc po pn pc fo fn fc, e = .returned (.agg #[.slice ao vn ac, .slice ro rn rc, .slice po pn pc, .slice fo fn fc]) ∧ Below w1.heap.size w1 w' ∧ Hid (TaskV w' (.slice ao vn ac) (.slice ro rn rc) (.slice po pn pc) (.slice fo fn fc) m ps l)) := fun w1 h => tasks_any _ _ _ _ m ps l w1 hZ (hV.below h)
  have HCk : Hid (∀ w1 va vr pv fv, Below w.heap.size w w1 → TaskV w1 va vr pv fv m ps l → Calls Tryz.prog 5 #[.agg #[va, vr, pv, fv], .agg #[.int .i64 code, .int .i64 c]] w1 (BdPost w1 m ps l code c)) := fun w1 va vr pv fv h hv => pbehind_any va vr pv fv m ps l code c hI w1 (Nat.lt_of_lt_of_le hB h.size) (hT.below h hB) hv
  have HRf : Hid (∀ w1, Below w.heap.size w w1 → Calls Tryz.prog 7 #[.agg #[.slice ao m.vars.length ac, .slice ro m.rules.length rc, .slice po ps.length pc, .slice fo l.length fc], .agg #[.int .i64 code, .int .i64 c]] w1 (BdPost w1 m ps l code c)) := fun w1 h => behindOf_any _ _ _ _ m ps l code c w1 hZ.p1 (hV.below h)
  have HSm : Hid (∀ (a b : Value) (w1 : World), SpV w1 a (bhL m ps l code c) → SpV w1 b (bhL m ps l code c) → Calls Tryz.prog 8 #[a, b] w1 fun e w' => e = .returned (.bool true) ∧ ∃ n, w' = w1.drewN n) := fun a b w1 h1 h2 => sameSpots_true a b _ w1 (bhL_len m ps l code c) h1 h2
  obtain ⟨W2, hW2⟩ : ∃ W2, W2 = (w.alloc (.cells #[.slice ao m.vars.length ac, .slice ro m.rules.length rc, .slice po ps.length pc, .slice fo l.length fc] 29)).alloc (.cells #[.int .i64 code, .int .i64 c] 31) := ⟨_, rfl⟩
  have hb2 : Below w.heap.size w W2 := by rw [hW2]; exact ((Below.refl _ _).alloc (Nat.le_refl _) _).alloc (by simp) _
  have HBx : Hid (∀ w', Below W2.heap.size W2 w' → w'.cell? ⟨w.heap.size, 0, none⟩ = some (.slice ao m.vars.length ac) ∧ w'.cell? ⟨w.heap.size, 1, none⟩ = some (.slice ro m.rules.length rc) ∧ w'.cell? ⟨w.heap.size, 2, none⟩ = some (.slice po ps.length pc) ∧ w'.cell? ⟨w.heap.size, 3, none⟩ = some (.slice fo l.length fc) ∧ w'.cell? ⟨w.heap.size + 1, 0, none⟩ = some (.int .i64 code) ∧ w'.cell? ⟨w.heap.size + 1, 1, none⟩ = some (.int .i64 c)) := fun w' h => by
    have hz : W2.heap.size = w.heap.size + 2 := by rw [hW2]; simp
    refine ⟨?_, ?_, ?_, ?_, ?_, ?_⟩
    · exact (h.cell (p := ⟨w.heap.size, 0, none⟩) (by show w.heap.size < _; omega)).trans (by rw [hW2]; simp [go_sem])
    · exact (h.cell (p := ⟨w.heap.size, 1, none⟩) (by show w.heap.size < _; omega)).trans (by rw [hW2]; simp [go_sem])
    · exact (h.cell (p := ⟨w.heap.size, 2, none⟩) (by show w.heap.size < _; omega)).trans (by rw [hW2]; simp [go_sem])
    · exact (h.cell (p := ⟨w.heap.size, 3, none⟩) (by show w.heap.size < _; omega)).trans (by rw [hW2]; simp [go_sem])
    · exact (h.cell (p := ⟨w.heap.size + 1, 0, none⟩) (by show w.heap.size + 1 < _; omega)).trans (by rw [hW2]; simp [go_sem])
    · exact (h.cell (p := ⟨w.heap.size + 1, 1, none⟩) (by show w.heap.size + 1 < _; omega)).trans (by rw [hW2]; simp [go_sem])
  unfold BdPost at HCk HRf
  generalize bhL m ps l code c = bg at *
  generalize bhC m ps l code c = x at *
  generalize bg.length = bn at *
  generalize m.vars.length = vn at *
  generalize m.rules.length = rn at *
  generalize ps.length = pn at *
  generalize l.length = fn at *
  clear hV hZ hT
  have htk := HTk.out _ hb2.drew
  go_enter Tryz.func3, Tryz.ntmps3
  go_wp2_with fail
  rw [← hW2]
  clear hW2
  have hB0 : Below W2.heap.size W2 W2 := Below.refl _ _
  go_region_held3 (fun w' => w'.cell? ⟨w.heap.size, 0, none⟩ = some (.slice ao vn ac) ∧ w'.cell? ⟨w.heap.size, 1, none⟩ = some (.slice ro rn rc) ∧ w'.cell? ⟨w.heap.size, 2, none⟩ = some (.slice po pn pc) ∧ w'.cell? ⟨w.heap.size, 3, none⟩ = some (.slice fo fn fc) ∧ w'.cell? ⟨w.heap.size + 1, 0, none⟩ = some (.int .i64 code) ∧ w'.cell? ⟨w.heap.size + 1, 1, none⟩ = some (.int .i64 c))
    (first | exact HBx.out _ hbb2 | exact HBx.out _ hbb1 | exact HBx.out _ hB0.drew | exact HBx.out _ hB0)
    (first
      | (go_at_call 6; refine htk.mono ?_; rintro e w1 ⟨a1, n1, c1, a2, n2, c2, a3, n3, c3, a4, n4, c4, rfl, hb1, HV1⟩; have hbb1 := hB0.drew.trans (hb1.mono hB0.drew.size); have hbw1 := hb2.trans (hbb1.mono hb2.size); have hck := HCk.out _ _ _ _ _ hbw1 HV1.out)
      | (go_at_call 5; refine hck.mono ?_; rintro e w2 ⟨so, sc, rfl, hb22, HO⟩; have hbb2 := hbb1.trans (hb22.mono hbb1.size); have hbw2 := hbw1.trans (hb22.mono hbw1.size)))
  obtain ⟨k0, k1, k2, k3, k4, k5⟩ := HBx.out _ hbb2
  have hrf := HRf.out w2 hbw2
  go_wp2_with (first
    | (go_at_call 7; refine hrf.mono ?_; rintro e w3 ⟨so', sc', rfl, hb3, HO'⟩; have hbw3 := hbw2.trans (hb3.mono hbw2.size); have hsm := HSm.out _ _ w3 (HO.out.v.below hb3) HO'.out.v)
    | (go_at_call 8; refine hsm.mono ?_; rintro e w4 ⟨rfl, q, rfl⟩))
  go_ret
  exact ⟨by first | rfl | simp, ⟨hbw3.os, hbw3.tape, hbw3.output, hbw3.size, hbw3.block⟩⟩
end Go.Proofs.YtdlpmomohbdpgaaGreatDoor
