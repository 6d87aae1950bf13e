/-
  The contracts of package step's inner functions: holds, withoutRules, doRule.
-/
import Derived.Test.YtnicbkkkecfdpaaDoorSteps
import Derived.Test.YtnicbkkkecfdpaaDoorShelfClone
import Derived.Test.YtnicbkkkecfdpaaDoorEval2
import Derived.Test.YtnicbkkkecfdpaaDoorMCode
import Derived.Deep.RegionHeld3
namespace Go.Proofs.YtnicbkkkecfdpaaDoor
open Go.ChangeShapes Go.WideShapes Go.ChangeAt Go.RowKit Go.Deep
open Terms Tm

/-- THE CONTRACT OF expr.Eval, in the step's words. -/
theorem ex_any (v ev : Value) (l : List (Int × Int)) (env : List Int) (w : World) (hB : 0 < w.heap.size) (hT : TabAt w) (hV : OpsV w v l) (hE : IntsV w ev env) :
    Calls Tryd.prog 51 #[v, ev] w fun e w' => e = .returned (.tuple #[.int .i64 (exN l env), .int .i64 (exC l env)]) ∧ Below w.heap.size w w' :=
  eval_any v ev l env (treeOf l) w hB hT hV hE (treeOf_spec l)

set_option maxHeartbeats 800000 in
/-- THE CONTRACT OF holds. -/
theorem sholds_any (v ev : Value) (l : List (Int × Int)) (env : List Int) (w : World) (hB : 0 < w.heap.size) (hT : TabAt w) (hV : OpsV w v l) (hE : IntsV w ev env) :
    Calls Tryd.prog 49 #[v, ev] w fun e w' => e = .returned (.bool (holdsB l env)) ∧ Below w.heap.size w w' := by
  have hx := ex_any v ev l env w hB hT hV hE
  unfold holdsB
  generalize exN l env = n at hx ⊢
  generalize exC l env = c at hx ⊢
  clear hV hE hT
  go_enter Tryd.func49, Tryd.ntmps49
  go_wp2_with (go_at_call 51; refine hx.mono ?_; rintro e w1 ⟨rfl, hb1⟩)
  all_goals go_ret
  all_goals exact ⟨by first | (simp [*]; done) | (simp [*]; by_cases h1 : n = 1 <;> simp [h1]), hb1⟩

/-- THE CONTRACT OF withoutRules. -/
theorem bare_any (ao ro : Option Addr) (n cap rn rc : Nat) (w : World) :
    Calls Tryd.prog 38 #[.agg #[.slice ao n cap, .slice ro rn rc]] w fun e w' => e = .returned (.agg #[.slice ao n cap, .slice none 0 0]) ∧ Below w.heap.size w w' := by
  go_enter Tryd.func38, Tryd.ntmps38
  go_wp2_with fail
  exact bodyPost_ret (v := .agg #[.slice ao n cap, .slice none 0 0]) (by simp [results, Tryd.results38, go_sem]) rfl ⟨rfl, ((Below.refl _ _).alloc (Nat.le_refl _) _).alloc (by simp) _⟩

set_option maxHeartbeats 3200000 in
set_option maxRecDepth 20000 in
/-- THE CONTRACT OF doRule. -/
theorem doRule_any (va vr gv sv : Value) (B : Nat) (m : Mo) (env : List Int) (r : Ru) (w : World) (hB : 0 < w.heap.size) (hT : TabAt w) (hV : ModelV w va vr m) (hm : mcode m = 0) (hr : rcode m.vars.length r = 0) (he : env.length = m.vars.length)
    (hrow : w.rowIs B 3 env.length (fun j => .int .i64 (env.getD j 0))) (hg : OpsV w gv r.guard) (hs : SetsV w sv r.sets) :
    Calls Tryd.prog 39 #[.agg #[va, vr], .slice (some ⟨B, 0, none⟩) env.length env.length, .agg #[gv, sv]] w fun e w' => e = .returned (.tuple #[.int .i64 (optN (ruleDo m.vars env r)), .int .i64 (optC (ruleDo m.vars env r))]) ∧ Below w.heap.size w w' := by
  obtain ⟨h6, hsv⟩ := rule_sets hr
  have hv6 := (mcode_vars hm).1
  obtain ⟨ao, cap, rfl⟩ := hV.1.shape
  obtain ⟨ro, rc, rfl⟩ := hV.2.shape
  obtain ⟨go, gc, rfl⟩ := hg.shape
  obtain ⟨so, sc, rfl⟩ := hs.shape
  have hA2 : ∀ o o', Below w.heap.size w ((w.alloc o).alloc o') := fun o o' => ((Below.refl _ _).alloc (Nat.le_refl _) o).alloc (by simp) o'
  have hI : IntsV w (.slice (some ⟨B, 0, none⟩) env.length env.length) env := by
    have h1 := intsV_of_row hrow
    have e1 : (List.range env.length).map (fun j => env.getD j 0) = env := by
      apply List.ext_getElem?
      intro i
      by_cases hi : i < env.length
      · simp [hi, List.getD_eq_getElem?_getD]
      · simp [hi]
    rwa [e1] at h1
  have hho := fun w' (hb : Below w.heap.size w w') => sholds_any (.slice go r.guard.length gc) (.slice (some ⟨B, 0, none⟩) env.length env.length) r.guard env w' (Nat.lt_of_lt_of_le hB hb.size) (hT.below hb hB) (hg.below hb) (hI.below hb)
  have hcl := fun w' (hb : Below w.heap.size w w') => clone_any B env w' (by omega) (row_later hrow hb)
  have HEx : Hid (∀ w' (_ : Below w.heap.size w w') v l, OpsV w' v l → Calls Tryd.prog 51 #[v, .slice (some ⟨B, 0, none⟩) env.length env.length] w' fun e w2 => e = .returned (.tuple #[.int .i64 (exN l env), .int .i64 (exC l env)]) ∧ Below w'.heap.size w' w2) := fun w' hb v l hv => ex_any v _ l env w' (Nat.lt_of_lt_of_le hB hb.size) (hT.below hb hB) hv (hI.below hb)
  have HCo : Hid (∀ w' (_ : Below w.heap.size w w') vv vals, IntsV w' vv vals → Calls Tryd.prog 52 #[.agg #[.slice ao m.vars.length cap, .slice none 0 0], vv] w' fun e w2 => e = .returned (.tuple #[.int .i64 (cval ⟨m.vars, []⟩ vals), .int .i64 (ccode ⟨m.vars, []⟩ vals)]) ∧ Below w'.heap.size w' w2) := fun w' hb vv vals hi =>
    mcodes_any _ _ vv ⟨m.vars, []⟩ vals w' (Nat.lt_of_lt_of_le hB hb.size) (hT.below hb hB) ⟨hV.1.below hb, ⟨none, 0, rfl, ⟨by simp, fun _ => ⟨rfl, rfl⟩⟩, fun h => by simp at h⟩⟩ hi
  have HS : Hid (SetsV w (.slice so r.sets.length sc) r.sets) := hs
  have HSV : Hid (∀ j, j < r.sets.length → 0 ≤ (r.sets.getD j st0).var ∧ (r.sets.getD j st0).var < m.vars.length) := hsv
  have HE : Hid (env.length = m.vars.length) := he
  have HM0 : Hid (mcode ⟨m.vars, []⟩ = 0) := mcode_bare hm
  clear hV hT hg hs hsv hm hr hI hrow he
  by_cases hgd : holdsB r.guard env = true
  · rw [hgd] at hho
    go_enter Tryd.func39, Tryd.ntmps39
    go_wp2_with (go_at_call 49; refine (hho _ (hA2 _ _)).mono ?_; rintro e w1 ⟨rfl, hb1⟩; have hbw1 := (hA2 _ _).trans (hb1.mono (hA2 _ _).size))
    have hs1 : w.heap.size + 1 < w1.heap.size := by have := hb1.size; simp at this; omega
    have k10 : w1.cell? ⟨w.heap.size, 0, none⟩ = some (.slice ao m.vars.length cap) := (hb1.cell (p := ⟨w.heap.size, 0, none⟩) (by simp; omega)).trans (by simp [go_sem])
    have k11 : w1.cell? ⟨w.heap.size, 1, none⟩ = some (.slice ro m.rules.length rc) := (hb1.cell (p := ⟨w.heap.size, 1, none⟩) (by simp; omega)).trans (by simp [go_sem])
    have k12 : w1.cell? ⟨w.heap.size + 1, 1, none⟩ = some (.slice so r.sets.length sc) := (hb1.cell (p := ⟨w.heap.size + 1, 1, none⟩) (by simp)).trans (by simp [go_sem])
    have HC1 : Hid (∀ w', Below w1.heap.size w1 w' → w'.cell? ⟨w.heap.size, 0, none⟩ = some (.slice ao m.vars.length cap) ∧ w'.cell? ⟨w.heap.size, 1, none⟩ = some (.slice ro m.rules.length rc) ∧ w'.cell? ⟨w.heap.size + 1, 1, none⟩ = some (.slice so r.sets.length sc)) := fun w' hb => ⟨(hb.cell (p := ⟨w.heap.size, 0, none⟩) (by simp only; omega)).trans k10, (hb.cell (p := ⟨w.heap.size, 1, none⟩) (by simp only; omega)).trans k11, (hb.cell (p := ⟨w.heap.size + 1, 1, none⟩) hs1).trans k12⟩
    have HBW1 : Hid (Below w.heap.size w w1) := hbw1
    have hcl1 := hcl w1 hbw1
    clear hho hcl hb1 hbw1
    go_wp2_with (go_at_call 50; refine hcl1.mono ?_; rintro e w2 ⟨g, gcap, rfl, hgl, hb2, ho2⟩; obtain ⟨k20, k21, k22⟩ := HC1.out w2 hb2)
    have HO2 : Hid (w2.ownsRow w1.heap.size 3 1 (.slice (some ⟨g, 0, none⟩) env.length gcap) env.length (ivals env)) := ho2
    have HB2 : Hid (Below w1.heap.size w1 w2) := hb2
    have HRS : Hid (∀ j, j < r.sets.length → exC (r.sets.getD j st0).val env ≠ 0 → ruleDo m.vars env r = none) := fun j hj h => ruleDo_set hj h
    have HRC : Hid (setsOk env r → (ccode ⟨m.vars, []⟩ (behindL env r) = 0 → ruleDo m.vars env r = some (cval ⟨m.vars, []⟩ (behindL env r))) ∧ (ccode ⟨m.vars, []⟩ (behindL env r) ≠ 0 → ruleDo m.vars env r = none)) := fun h => ruleDo_code hgd h HE.out HM0.out rfl
    have HBL : Hid (behindL env r = setTo env r.sets r.sets.length) := rfl
    obtain ⟨sn, hsn⟩ : ∃ sn, sn = r.sets.length := ⟨_, rfl⟩
    have HSN : Hid (sn = r.sets.length) := hsn
    rw [← hsn] at h6 HS HC1 k22 ⊢
    obtain ⟨res, hres⟩ : ∃ res, ruleDo m.vars env r = res := ⟨_, rfl⟩
    rw [hres] at HRS HRC
    have HRes : Hid (ruleDo m.vars env r = res) := hres
    clear hcl1 ho2 hb2 hsn hres hgd
    go_loopw [25] (fun i wr => ∃ k : Nat, k ≤ sn ∧ i = .int .i64 k ∧ Hid (∀ j, j < k → exC (r.sets.getD j st0).val env = 0) ∧ Hid (wr.ownsRow w1.heap.size 3 1 (.slice (some ⟨g, 0, none⟩) env.length gcap) env.length (ivals (setTo env r.sets k))) ∧ Hid (Below w1.heap.size w1 wr)) (fun i _ => sn - (intOf i).toNat)
    case atStart => exact ⟨0, Nat.zero_le _, rfl, fun j hj => by omega, HO2.out, HB2.out⟩
    case round =>
      obtain ⟨k, hk, rfl, HOK, HOwn, HBel⟩ := hrel
      have hbel := HBel.out
      have hbw := HBW1.out.trans (hbel.mono HBW1.out.size)
      obtain ⟨kr0, kr1, kr2⟩ := HC1.out wr hbel
      by_cases hlt : k < sn
      · obtain ⟨b, off, rfl, hblt, hat⟩ := HS.out.at (i := k) (by rw [← HSN.out]; exact hlt)
        obtain ⟨c0, u, c1, hou⟩ := hat.below hbw hblt
        obtain ⟨uo, uc, rfl⟩ := hou.shape
        have HSk := HSV.out k (by rw [← HSN.out]; exact hlt)
        have HRk : Hid (exC (r.sets.getD k st0).val env ≠ 0 → res = none) := HRS.out k (by rw [← HSN.out]; exact hlt)
        have HStep : Hid (setTo env r.sets (k + 1) = (setTo env r.sets k).set (r.sets.getD k st0).var.toNat (exN (r.sets.getD k st0).val env)) := rfl
        have HOK2 : Hid (exC (r.sets.getD k st0).val env = 0 → ∀ j, j < k + 1 → exC (r.sets.getD j st0).val env = 0) := fun h j hj => by
          by_cases hjk : j = k
          · subst hjk; exact h
          · exact HOK.out j (by omega)
        have hAr : ∀ o, Below w.heap.size w (wr.alloc o) := fun o => hbw.alloc hbw.size o
        have hex := fun o => HEx.out (wr.alloc o) (hAr o) _ _ (hou.below ((Below.refl _ _).alloc (Nat.le_refl _) o))
        obtain ⟨hv0, hv1⟩ := HSk
        obtain ⟨vn, hvn⟩ : ∃ vn : Nat, (r.sets.getD k st0).var = vn := ⟨(r.sets.getD k st0).var.toNat, by omega⟩
        rw [hvn] at hv0 hv1 c0 HStep
        rw [Int.toNat_natCast] at HStep
        have hvn2 : vn < env.length := by rw [HE.out]; omega
        generalize exN (r.sets.getD k st0).val env = N at hex HStep
        generalize exC (r.sets.getD k st0).val env = C at hex HRk HOK2
        generalize (r.sets.getD k st0).val.length = ul at hex c1 hou
        have HBr : Hid (∀ o w4, Below (wr.alloc o).heap.size (wr.alloc o) w4 → Below w1.heap.size w1 w4 ∧ w4.ownsRow w1.heap.size 3 1 (.slice (some ⟨g, 0, none⟩) env.length gcap) env.length (ivals (setTo env r.sets k)) ∧ w4.cell? ⟨wr.heap.size, 0, none⟩ = (wr.alloc o).cell? ⟨wr.heap.size, 0, none⟩) := fun o w4 hb =>
          ⟨(hbel.alloc hbel.size o).trans (hb.mono (hbel.alloc hbel.size o).size), owns_later (owns_later HOwn.out ((Below.refl _ _).alloc (Nat.le_refl _) o) (Nat.le_refl _)) hb (Nat.le_refl _), hb.cell (p := ⟨wr.heap.size, 0, none⟩) (by simp)⟩
        clear hat hou hvn hAr HRS HEx HCo HS HSV HRC kr0 kr1 kr2 k20 k21 k22 k10 k11 k12 hbel hbw
        by_cases hC : C = 0
        · subst hC
          go_wp2_with (go_at_call 51; refine (hex _).mono ?_; rintro e w4 ⟨rfl, hb4⟩; obtain ⟨hb14, ho4, hcv⟩ := HBr.out _ w4 hb4; have hcell := ho4.cellAt vn (by omega); rw [show (ivals (setTo env r.sets k))[vn]? = some (.int .i64 ((setTo env r.sets k).getD vn 0)) by simp [ivals, List.getD_eq_getElem?_getD, setTo_length, hvn2]] at hcell; have hfz := ho4.frozenAt vn; have hcv2 : w4.cell? ⟨wr.heap.size, 0, none⟩ = some (.int .i64 vn) := (by rw [hcv]; simp [go_sem]))
          refine ⟨⟨k + 1, hlt, by first | rfl | simp, HOK2.out trivial, ?_, hb14.setCell hgl _⟩, by simp [intOf]; omega⟩
          have hst := (ho4.stored vn (.int .i64 N)).1
          rw [show (ivals (setTo env r.sets k)).set vn (.int .i64 N) = ivals (setTo env r.sets (k + 1)) by rw [HStep.out]; simp [ivals, List.map_set]] at hst
          exact hst
        · have HRN : Hid (res = none) := HRk.out hC
          go_wp2_with (go_at_call 51; refine (hex _).mono ?_; rintro e w4 ⟨rfl, hb4⟩; obtain ⟨hb14, ho4, hcv⟩ := HBr.out _ w4 hb4)
          go_ret2
          exact ⟨by rw [HRes.out, HRN.out]; rfl, HBW1.out.trans (hb14.mono HBW1.out.size)⟩
      · have hkn : k = sn := by omega
        subst hkn
        have hbe : behindL env r = setTo env r.sets k := by rw [HBL.out, HSN.out]
        have hrc := HRC.out (fun j hj => HOK.out j (by rw [HSN.out]; exact hj))
        have ho := HOwn.out
        rw [← hbe] at ho
        have hlb : (behindL env r).length = env.length := by rw [hbe, setTo_length]
        rw [← hlb] at ho
        have hba := bare_any ao ro m.vars.length cap m.rules.length rc wr
        have HI : Hid (∀ w', Below wr.heap.size wr w' → IntsV w' (.slice (some ⟨g, 0, none⟩) (behindL env r).length gcap) (behindL env r)) := fun w' hb => (intsV_of_owns ho).below hb
        rw [hlb] at HI
        have hco := fun w' (hb : Below wr.heap.size wr w') => HCo.out w' (hbw.trans (hb.mono hbw.size)) _ _ (HI.out w' hb)
        have HBWr : Hid (Below w.heap.size w wr) := hbw
        generalize cval ⟨m.vars, []⟩ (behindL env r) = cv at hco hrc
        generalize ccode ⟨m.vars, []⟩ (behindL env r) = cc at hco hrc
        obtain ⟨hrc0, hrc1⟩ := hrc
        clear hbe ho hlb HI HRC HRS HEx HCo HS HSV k20 k21 k22 k10 k11 k12 hbel hbw hlt hk HOK HOwn
        by_cases hcc : cc = 0
        · have hrn := hrc0 hcc
          subst hcc
          have HRN : Hid (res = some cv) := hrn
          clear hrc0 hrc1 hrn
          go_wp2_with (first | (go_at_call 38; refine hba.mono ?_; rintro e w5 ⟨rfl, hb5⟩) | (go_at_call 52; refine (hco _ hb5).mono ?_; rintro e w6 ⟨rfl, hb6⟩))
          go_ret2
          exact ⟨by rw [HRes.out, HRN.out]; rfl, HBWr.out.trans ((hb5.trans (hb6.mono hb5.size)).mono HBWr.out.size)⟩
        · have HRN : Hid (res = none) := hrc1 hcc
          clear hrc0 hrc1
          go_wp2_with (first | (go_at_call 38; refine hba.mono ?_; rintro e w5 ⟨rfl, hb5⟩) | (go_at_call 52; refine (hco _ hb5).mono ?_; rintro e w6 ⟨rfl, hb6⟩))
          go_ret2
          exact ⟨by rw [HRes.out, HRN.out]; rfl, HBWr.out.trans ((hb5.trans (hb6.mono hb5.size)).mono HBWr.out.size)⟩
  · have hgd2 : holdsB r.guard env = false := by simpa using hgd
    rw [hgd2] at hho
    rw [ruleDo_guard hgd2]
    go_enter Tryd.func39, Tryd.ntmps39
    go_wp2_with (go_at_call 49; refine (hho _ (hA2 _ _)).mono ?_; rintro e w1 ⟨rfl, hb1⟩)
    go_ret2
    exact ⟨rfl, (hA2 _ _).trans (hb1.mono (hA2 _ _).size)⟩
end Go.Proofs.YtnicbkkkecfdpaaDoor
