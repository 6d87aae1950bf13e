/-
  Joined out of StepRule, MValues, StepAfter, StepLetter, MFirst, PBegin, ShelfSort, SortOwn, Nexts, StepNext, PNext, PState, PChg, PSg, in their order: a claim bears at most so many files.
-/
import Derived.Test.YtihmcoikgkacoaaGreatDoorLateB
import Derived.Deep.RegionHeld3
import Derived.Test.YtihmcoikgkacoaaGreatDoorMProps
import Derived.Test.YtihmcoikgkacoaaGreatDoorLateA
import Derived.Shelf.Sort.Plain
import Derived.Ground.Names2Prog
import Derived.Shelf.Slices.CompactI
import Derived.Shelf.Slices.SearchI
import Derived.Shelf.Slices.In.SortNone
import Derived.Test.YtihmcoikgkacoaaGreatDoorMem
import Derived.Test.YtihmcoikgkacoaaGreatDoorIntsOf
import Derived.Sort.OwnSortedInts
import Derived.Lib.OwnBridge
import Derived.Lib.RowBridge
import Derived.Deep.AppendLies
/-
  The contracts of package step's inner functions: holds, withoutRules, doRule.
-/
namespace Go.Proofs.YtihmcoikgkacoaaGreatDoor
open Go.ChangeShapes Go.WideShapes Go.ChangeAt Go.RowKit Go.Deep
open Terms Tm

/-- THE CONTRACT OF expr.Eval, in the step's words. -/
theorem ex_any (v ev : Value) (l : List (Int × Int)) (env : List Int) (w : World) (hB : 0 < w.heap.size) (hT : TabAt w) (hV : OpsV w v l) (hE : IntsV w ev env) :
    Calls Tryz.prog 94 #[v, ev] w fun e w' => e = .returned (.tuple #[.int .i64 (exN l env), .int .i64 (exC l env)]) ∧ Below w.heap.size w w' :=
  eval_any v ev l env (treeOf l) w hB hT hV hE (treeOf_spec l)

set_option maxHeartbeats 800000 in
/-- THE CONTRACT OF holds. -/
theorem sholds_any (v ev : Value) (l : List (Int × Int)) (env : List Int) (w : World) (hB : 0 < w.heap.size) (hT : TabAt w) (hV : OpsV w v l) (hE : IntsV w ev env) :
    Calls Tryz.prog 76 #[v, ev] w fun e w' => e = .returned (.bool (holdsB l env)) ∧ Below w.heap.size w w' := by
  have hx := ex_any v ev l env w hB hT hV hE
  unfold holdsB
  generalize exN l env = n at hx ⊢
  generalize exC l env = c at hx ⊢
  clear hV hE hT
  go_enter Tryz.func76, Tryz.ntmps76
  go_wp2_with (go_at_call 94; refine hx.mono ?_; rintro e w1 ⟨rfl, hb1⟩)
  all_goals go_ret
  all_goals exact ⟨by first | (simp [*]; done) | (simp [*]; by_cases h1 : n = 1 <;> simp [h1]), hb1⟩

/-- THE CONTRACT OF withoutRules. -/
theorem bare_any (ao ro : Option Addr) (n cap rn rc : Nat) (w : World) :
    Calls Tryz.prog 75 #[.agg #[.slice ao n cap, .slice ro rn rc]] w fun e w' => e = .returned (.agg #[.slice ao n cap, .slice none 0 0]) ∧ Below w.heap.size w w' := by
  go_enter Tryz.func75, Tryz.ntmps75
  go_wp2_with fail
  exact bodyPost_ret (v := .agg #[.slice ao n cap, .slice none 0 0]) (by simp [results, Tryz.results75, go_sem]) rfl ⟨rfl, ((Below.refl _ _).alloc (Nat.le_refl _) _).alloc (by simp) _⟩

set_option maxHeartbeats 3200000 in
set_option maxRecDepth 20000 in
/-- THE CONTRACT OF doRule. -/
theorem doRule_any (va vr gv sv : Value) (B : Nat) (m : Mo) (env : List Int) (r : Ru) (w : World) (hB : 0 < w.heap.size) (hT : TabAt w) (hV : ModelV w va vr m) (hm : mcode m = 0) (hr : rcode m.vars.length r = 0) (he : env.length = m.vars.length)
    (hrow : w.rowIs B 3 env.length (fun j => .int .i64 (env.getD j 0))) (hg : OpsV w gv r.guard) (hs : SetsV w sv r.sets) :
    Calls Tryz.prog 102 #[.agg #[va, vr], .slice (some ⟨B, 0, none⟩) env.length env.length, .agg #[gv, sv]] w fun e w' => e = .returned (.tuple #[.int .i64 (optN (ruleDo m.vars env r)), .int .i64 (optC (ruleDo m.vars env r))]) ∧ Below w.heap.size w w' := by
  obtain ⟨h6, hsv⟩ := rule_sets hr
  have hv6 := (mcode_vars hm).1
  obtain ⟨ao, cap, rfl⟩ := hV.1.shape
  obtain ⟨ro, rc, rfl⟩ := hV.2.shape
  obtain ⟨go, gc, rfl⟩ := hg.shape
  obtain ⟨so, sc, rfl⟩ := hs.shape
  have hA2 : ∀ o o', Below w.heap.size w ((w.alloc o).alloc o') := fun o o' => ((Below.refl _ _).alloc (Nat.le_refl _) o).alloc (by simp) o'
  have hI : IntsV w (.slice (some ⟨B, 0, none⟩) env.length env.length) env := by
    have h1 := intsV_of_row hrow
    have e1 : (List.range env.length).map (fun j => env.getD j 0) = env := by
      apply List.ext_getElem?
      intro i
      by_cases hi : i < env.length
      · simp [hi, List.getD_eq_getElem?_getD]
      · simp [hi]
    rwa [e1] at h1
  have hho := fun w' (hb : Below w.heap.size w w') => sholds_any (.slice go r.guard.length gc) (.slice (some ⟨B, 0, none⟩) env.length env.length) r.guard env w' (Nat.lt_of_lt_of_le hB hb.size) (hT.below hb hB) (hg.below hb) (hI.below hb)
  have hcl := fun w' (hb : Below w.heap.size w w') => clone_any B env w' (by omega) (row_later hrow hb)
  have HEx : Hid (∀ w' (_ : Below w.heap.size w w') v l, OpsV w' v l → Calls Tryz.prog 94 #[v, .slice (some ⟨B, 0, none⟩) env.length env.length] w' fun e w2 => e = .returned (.tuple #[.int .i64 (exN l env), .int .i64 (exC l env)]) ∧ Below w'.heap.size w' w2) := fun w' hb v l hv => ex_any v _ l env w' (Nat.lt_of_lt_of_le hB hb.size) (hT.below hb hB) hv (hI.below hb)
  have HCo : Hid (∀ w' (_ : Below w.heap.size w w') vv vals, IntsV w' vv vals → Calls Tryz.prog 121 #[.agg #[.slice ao m.vars.length cap, .slice none 0 0], vv] w' fun e w2 => e = .returned (.tuple #[.int .i64 (cval ⟨m.vars, []⟩ vals), .int .i64 (ccode ⟨m.vars, []⟩ vals)]) ∧ Below w'.heap.size w' w2) := fun w' hb vv vals hi =>
    mcodes_any _ _ vv ⟨m.vars, []⟩ vals w' (Nat.lt_of_lt_of_le hB hb.size) (hT.below hb hB) ⟨hV.1.below hb, ⟨none, 0, rfl, ⟨by simp, fun _ => ⟨rfl, rfl⟩⟩, fun h => by simp at h⟩⟩ hi
  have HS : Hid (SetsV w (.slice so r.sets.length sc) r.sets) := hs
  have HSV : Hid (∀ j, j < r.sets.length → 0 ≤ (r.sets.getD j st0).var ∧ (r.sets.getD j st0).var < m.vars.length) := hsv
  have HE : Hid (env.length = m.vars.length) := he
  have HM0 : Hid (mcode ⟨m.vars, []⟩ = 0) := mcode_bare hm
  clear hV hT hg hs hsv hm hr hI hrow he
  by_cases hgd : holdsB r.guard env = true
  · rw [hgd] at hho
    go_enter Tryz.func102, Tryz.ntmps102
    go_wp2_with (go_at_call 76; refine (hho _ (hA2 _ _)).mono ?_; rintro e w1 ⟨rfl, hb1⟩; have hbw1 := (hA2 _ _).trans (hb1.mono (hA2 _ _).size))
    have hs1 : w.heap.size + 1 < w1.heap.size := by have := hb1.size; simp at this; omega
    have k10 : w1.cell? ⟨w.heap.size, 0, none⟩ = some (.slice ao m.vars.length cap) := (hb1.cell (p := ⟨w.heap.size, 0, none⟩) (by simp; omega)).trans (by simp [go_sem])
    have k11 : w1.cell? ⟨w.heap.size, 1, none⟩ = some (.slice ro m.rules.length rc) := (hb1.cell (p := ⟨w.heap.size, 1, none⟩) (by simp; omega)).trans (by simp [go_sem])
    have k12 : w1.cell? ⟨w.heap.size + 1, 1, none⟩ = some (.slice so r.sets.length sc) := (hb1.cell (p := ⟨w.heap.size + 1, 1, none⟩) (by simp)).trans (by simp [go_sem])
    have HC1 : Hid (∀ w', Below w1.heap.size w1 w' → w'.cell? ⟨w.heap.size, 0, none⟩ = some (.slice ao m.vars.length cap) ∧ w'.cell? ⟨w.heap.size, 1, none⟩ = some (.slice ro m.rules.length rc) ∧ w'.cell? ⟨w.heap.size + 1, 1, none⟩ = some (.slice so r.sets.length sc)) := fun w' hb => ⟨(hb.cell (p := ⟨w.heap.size, 0, none⟩) (by simp only; omega)).trans k10, (hb.cell (p := ⟨w.heap.size, 1, none⟩) (by simp only; omega)).trans k11, (hb.cell (p := ⟨w.heap.size + 1, 1, none⟩) hs1).trans k12⟩
    have HBW1 : Hid (Below w.heap.size w w1) := hbw1
    have hcl1 := hcl w1 hbw1
    clear hho hcl hb1 hbw1
    go_wp2_with (go_at_call 120; refine hcl1.mono ?_; rintro e w2 ⟨g, gcap, rfl, hgl, hb2, ho2⟩; obtain ⟨k20, k21, k22⟩ := HC1.out w2 hb2)
    have HO2 : Hid (w2.ownsRow w1.heap.size 3 1 (.slice (some ⟨g, 0, none⟩) env.length gcap) env.length (ivals env)) := ho2
    have HB2 : Hid (Below w1.heap.size w1 w2) := hb2
    have HRS : Hid (∀ j, j < r.sets.length → exC (r.sets.getD j st0).val env ≠ 0 → ruleDo m.vars env r = none) := fun j hj h => ruleDo_set hj h
    have HRC : Hid (setsOk env r → (ccode ⟨m.vars, []⟩ (behindL env r) = 0 → ruleDo m.vars env r = some (cval ⟨m.vars, []⟩ (behindL env r))) ∧ (ccode ⟨m.vars, []⟩ (behindL env r) ≠ 0 → ruleDo m.vars env r = none)) := fun h => ruleDo_code hgd h HE.out HM0.out rfl
    have HBL : Hid (behindL env r = setTo env r.sets r.sets.length) := rfl
    obtain ⟨sn, hsn⟩ : ∃ sn, sn = r.sets.length := ⟨_, rfl⟩
    have HSN : Hid (sn = r.sets.length) := hsn
    rw [← hsn] at h6 HS HC1 k22 ⊢
    obtain ⟨res, hres⟩ : ∃ res, ruleDo m.vars env r = res := ⟨_, rfl⟩
    rw [hres] at HRS HRC
    have HRes : Hid (ruleDo m.vars env r = res) := hres
    clear hcl1 ho2 hb2 hsn hres hgd
    go_loopw [25] (fun i wr => ∃ k : Nat, k ≤ sn ∧ i = .int .i64 k ∧ Hid (∀ j, j < k → exC (r.sets.getD j st0).val env = 0) ∧ Hid (wr.ownsRow w1.heap.size 3 1 (.slice (some ⟨g, 0, none⟩) env.length gcap) env.length (ivals (setTo env r.sets k))) ∧ Hid (Below w1.heap.size w1 wr)) (fun i _ => sn - (intOf i).toNat)
    case atStart => exact ⟨0, Nat.zero_le _, rfl, fun j hj => by omega, HO2.out, HB2.out⟩
    case round =>
      obtain ⟨k, hk, rfl, HOK, HOwn, HBel⟩ := hrel
      have hbel := HBel.out
      have hbw := HBW1.out.trans (hbel.mono HBW1.out.size)
      obtain ⟨kr0, kr1, kr2⟩ := HC1.out wr hbel
      by_cases hlt : k < sn
      · obtain ⟨b, off, rfl, hblt, hat⟩ := HS.out.at (i := k) (by rw [← HSN.out]; exact hlt)
        obtain ⟨c0, u, c1, hou⟩ := hat.below hbw hblt
        obtain ⟨uo, uc, rfl⟩ := hou.shape
        have HSk := HSV.out k (by rw [← HSN.out]; exact hlt)
        have HRk : Hid (exC (r.sets.getD k st0).val env ≠ 0 → res = none) := HRS.out k (by rw [← HSN.out]; exact hlt)
        have HStep : Hid (setTo env r.sets (k + 1) = (setTo env r.sets k).set (r.sets.getD k st0).var.toNat (exN (r.sets.getD k st0).val env)) := rfl
        have HOK2 : Hid (exC (r.sets.getD k st0).val env = 0 → ∀ j, j < k + 1 → exC (r.sets.getD j st0).val env = 0) := fun h j hj => by
          by_cases hjk : j = k
          · subst hjk; exact h
          · exact HOK.out j (by omega)
        have hAr : ∀ o, Below w.heap.size w (wr.alloc o) := fun o => hbw.alloc hbw.size o
        have hex := fun o => HEx.out (wr.alloc o) (hAr o) _ _ (hou.below ((Below.refl _ _).alloc (Nat.le_refl _) o))
        obtain ⟨hv0, hv1⟩ := HSk
        obtain ⟨vn, hvn⟩ : ∃ vn : Nat, (r.sets.getD k st0).var = vn := ⟨(r.sets.getD k st0).var.toNat, by omega⟩
        rw [hvn] at hv0 hv1 c0 HStep
        rw [Int.toNat_natCast] at HStep
        have hvn2 : vn < env.length := by rw [HE.out]; omega
        generalize exN (r.sets.getD k st0).val env = N at hex HStep
        generalize exC (r.sets.getD k st0).val env = C at hex HRk HOK2
        generalize (r.sets.getD k st0).val.length = ul at hex c1 hou
        have HBr : Hid (∀ o w4, Below (wr.alloc o).heap.size (wr.alloc o) w4 → Below w1.heap.size w1 w4 ∧ w4.ownsRow w1.heap.size 3 1 (.slice (some ⟨g, 0, none⟩) env.length gcap) env.length (ivals (setTo env r.sets k)) ∧ w4.cell? ⟨wr.heap.size, 0, none⟩ = (wr.alloc o).cell? ⟨wr.heap.size, 0, none⟩) := fun o w4 hb =>
          ⟨(hbel.alloc hbel.size o).trans (hb.mono (hbel.alloc hbel.size o).size), owns_later (owns_later HOwn.out ((Below.refl _ _).alloc (Nat.le_refl _) o) (Nat.le_refl _)) hb (Nat.le_refl _), hb.cell (p := ⟨wr.heap.size, 0, none⟩) (by simp)⟩
        clear hat hou hvn hAr HRS HEx HCo HS HSV HRC kr0 kr1 kr2 k20 k21 k22 k10 k11 k12 hbel hbw
        by_cases hC : C = 0
        · subst hC
          go_wp2_with (go_at_call 94; refine (hex _).mono ?_; rintro e w4 ⟨rfl, hb4⟩; obtain ⟨hb14, ho4, hcv⟩ := HBr.out _ w4 hb4; have hcell := ho4.cellAt vn (by omega); rw [show (ivals (setTo env r.sets k))[vn]? = some (.int .i64 ((setTo env r.sets k).getD vn 0)) by simp [ivals, List.getD_eq_getElem?_getD, setTo_length, hvn2]] at hcell; have hfz := ho4.frozenAt vn; have hcv2 : w4.cell? ⟨wr.heap.size, 0, none⟩ = some (.int .i64 vn) := (by rw [hcv]; simp [go_sem]))
          refine ⟨⟨k + 1, hlt, by first | rfl | simp, HOK2.out trivial, ?_, hb14.setCell hgl _⟩, by simp [intOf]; omega⟩
          have hst := (ho4.stored vn (.int .i64 N)).1
          rw [show (ivals (setTo env r.sets k)).set vn (.int .i64 N) = ivals (setTo env r.sets (k + 1)) by rw [HStep.out]; simp [ivals, List.map_set]] at hst
          exact hst
        · have HRN : Hid (res = none) := HRk.out hC
          go_wp2_with (go_at_call 94; refine (hex _).mono ?_; rintro e w4 ⟨rfl, hb4⟩; obtain ⟨hb14, ho4, hcv⟩ := HBr.out _ w4 hb4)
          go_ret2
          exact ⟨by rw [HRes.out, HRN.out]; rfl, HBW1.out.trans (hb14.mono HBW1.out.size)⟩
      · have hkn : k = sn := by omega
        subst hkn
        have hbe : behindL env r = setTo env r.sets k := by rw [HBL.out, HSN.out]
        have hrc := HRC.out (fun j hj => HOK.out j (by rw [HSN.out]; exact hj))
        have ho := HOwn.out
        rw [← hbe] at ho
        have hlb : (behindL env r).length = env.length := by rw [hbe, setTo_length]
        rw [← hlb] at ho
        have hba := bare_any ao ro m.vars.length cap m.rules.length rc wr
        have HI : Hid (∀ w', Below wr.heap.size wr w' → IntsV w' (.slice (some ⟨g, 0, none⟩) (behindL env r).length gcap) (behindL env r)) := fun w' hb => (intsV_of_owns ho).below hb
        rw [hlb] at HI
        have hco := fun w' (hb : Below wr.heap.size wr w') => HCo.out w' (hbw.trans (hb.mono hbw.size)) _ _ (HI.out w' hb)
        have HBWr : Hid (Below w.heap.size w wr) := hbw
        generalize cval ⟨m.vars, []⟩ (behindL env r) = cv at hco hrc
        generalize ccode ⟨m.vars, []⟩ (behindL env r) = cc at hco hrc
        obtain ⟨hrc0, hrc1⟩ := hrc
        clear hbe ho hlb HI HRC HRS HEx HCo HS HSV k20 k21 k22 k10 k11 k12 hbel hbw hlt hk HOK HOwn
        by_cases hcc : cc = 0
        · have hrn := hrc0 hcc
          subst hcc
          have HRN : Hid (res = some cv) := hrn
          clear hrc0 hrc1 hrn
          go_wp2_with (first | (go_at_call 75; refine hba.mono ?_; rintro e w5 ⟨rfl, hb5⟩) | (go_at_call 121; refine (hco _ hb5).mono ?_; rintro e w6 ⟨rfl, hb6⟩))
          go_ret2
          exact ⟨by rw [HRes.out, HRN.out]; rfl, HBWr.out.trans ((hb5.trans (hb6.mono hb5.size)).mono HBWr.out.size)⟩
        · have HRN : Hid (res = none) := hrc1 hcc
          clear hrc0 hrc1
          go_wp2_with (first | (go_at_call 75; refine hba.mono ?_; rintro e w5 ⟨rfl, hb5⟩) | (go_at_call 121; refine (hco _ hb5).mono ?_; rintro e w6 ⟨rfl, hb6⟩))
          go_ret2
          exact ⟨by rw [HRes.out, HRN.out]; rfl, HBWr.out.trans ((hb5.trans (hb6.mono hb5.size)).mono HBWr.out.size)⟩
  · have hgd2 : holdsB r.guard env = false := by simpa using hgd
    rw [hgd2] at hho
    rw [ruleDo_guard hgd2]
    go_enter Tryz.func102, Tryz.ntmps102
    go_wp2_with (go_at_call 76; refine (hho _ (hA2 _ _)).mono ?_; rintro e w1 ⟨rfl, hb1⟩)
    go_ret2
    exact ⟨rfl, (hA2 _ _).trans (hb1.mono (hA2 _ _).size)⟩
end Go.Proofs.YtihmcoikgkacoaaGreatDoor

/-
  The contract of the program's Values.
-/
namespace Go.Proofs.YtihmcoikgkacoaaGreatDoor
open Go.ChangeShapes Go.WideShapes Go.ChangeAt Go.RowKit Go.Deep
open Terms Tm

set_option maxRecDepth 20000 in
set_option maxHeartbeats 1600000 in
theorem mvalues_loop (va vr : Value) (m : Mo) (code : Int) (w : World) (hB : 0 < w.heap.size) (hT : TabAt w) (hV : ModelV w va vr m) (h : mcode m = 0) (hc : 0 ≤ code ∧ code < prodTo m.vars m.vars.length) :
    Calls Tryz.prog 74 #[.agg #[va, vr], .int .i64 code] w fun e w' => ∃ B, e = .returned (.tuple #[.slice (some ⟨B, 0, none⟩) m.vars.length m.vars.length, .int .i64 0]) ∧ w.heap.size ≤ B ∧ Below w.heap.size w w' ∧ w'.rowIs B 3 m.vars.length (fun j => .int .i64 (valAt m.vars code j)) := by
  have hA : ∀ o, Below w.heap.size w (w.alloc o) := fun o => (Below.refl _ _).alloc (Nat.le_refl _) o
  have hch := fun o => mcheck_any va vr m (w.alloc o) (Nat.lt_of_lt_of_le hB (hA o).size) (hT.below (hA o) hB) (hV.below (hA o))
  rw [h] at hch
  have hok := mcode_vars h
  have HOK : Hid (VarsOk m.vars) := hok
  have h6 := hok.1
  have hcf := (fun w1 (hb : Below w.heap.size w w1) => countOf_any va m.vars w1 hok (hV.1.below hb))
  obtain ⟨ao, cap, rfl⟩ := hV.1.shape
  obtain ⟨ro, rc, rfl⟩ := hV.2.shape
  have HV : Hid (VarsV w (.slice ao m.vars.length cap) m.vars) := hV.1
  have hN := hok.prod (j := m.vars.length) (Nat.le_refl _)
  have HS0 : Hid (segP m.vars m.vars.length = 1) := segP_end _
  obtain ⟨hc1, hc2⟩ := hc
  generalize prodTo m.vars m.vars.length = N at *
  obtain ⟨n, hn⟩ : ∃ n, n = m.vars.length := ⟨_, rfl⟩
  have HN : Hid (n = m.vars.length) := hn
  rw [← hn] at h6 hch hcf HV HS0 ⊢
  generalize m.rules.length = rn at *
  have hmk := run_make_row' (P := Tryz.prog) 40 3 (.int .i64 0) 8 Tryz.underlying40 infoInt rfl .i64 .i64 n (by omega) (by omega)
  clear hV hT hn hok h
  go_enter Tryz.func74, Tryz.ntmps74
  go_wp2_with (first | (go_at_call 72; refine (hch _).mono ?_; rintro e w1 ⟨rfl, hb1⟩; have hcb : w1.cell? ⟨w.heap.size, 0, none⟩ = some (.slice ao n cap) := (hb1.cell (p := ⟨w.heap.size, 0, none⟩) (by simp)).trans (by simp [go_sem]); have hbw := (hA _).trans (hb1.mono (hA _).size); have hs1 : w.heap.size < w1.heap.size := (by have := hb1.size; simp at this; omega)) | (go_at_call 93; refine (hcf _ hbw).mono ?_; rintro e w2 ⟨rfl, hb2⟩; have hcb2 := (hb2.cell (p := ⟨w.heap.size, 0, none⟩) hs1).trans hcb))
  have hbw2 := hbw.trans (hb2.mono hbw.size)
  have hrow0 := World.rowIs_made w2 (.int .i64 0) n 3
  have hs2 := Nat.lt_of_lt_of_le hs1 hb2.size
  have HB2 : Hid (Below w.heap.size w w2) := hbw2
  have hcb3 := hcb2
  clear hch hcf hmk hb1 hb2 hcb hbw hs1 hbw2 hcb2
  go_loopw [1, 8] (fun cd i wr => ∃ k : Nat, k ≤ n ∧ i = .int .i64 ((k : Int) - 1) ∧ cd = .int .i64 (code / segP m.vars k) ∧ Hid (wr.rowIs w2.heap.size 3 n (fun j => if k ≤ j then .int .i64 (valAt m.vars code j) else .int .i64 0)) ∧ Hid (Below w2.heap.size w2 wr)) (fun _ i _ => (intOf i + 1).toNat)
  case atStart => exact ⟨n, Nat.le_refl _, by first | rfl | go_num, by rw [HS0.out]; simp, hrow0.congr (fun i hi => by rw [if_neg (by omega)]), (Below.refl _ _).alloc (Nat.le_refl _) _⟩
  case round =>
    obtain ⟨k, hk, rfl, rfl, HRow, HBel⟩ := hrel
    have hbel := HBel.out
    have hrow := HRow.out
    have hbw := HB2.out.trans (hbel.mono HB2.out.size)
    have hszr := hrow.lt
    have cb := (hbel.cell (p := ⟨w.heap.size, 0, none⟩) hs2).trans hcb3
    by_cases hk0 : 0 < k
    · obtain ⟨k, rfl⟩ : ∃ k', k = k' + 1 := ⟨k - 1, by omega⟩
      rw [show (((k + 1 : Nat) : Int) - 1) = (k : Int) by omega]
      have hlt : k < n := by omega
      obtain ⟨b, off, rfl, hblt, hat⟩ := HV.out.at (i := k) (by rw [← HN.out]; exact hlt)
      obtain ⟨c0, c1, c2, c3⟩ := hat.below hbw hblt
      have hvb := HOK.out.at (j := k) (by rw [← HN.out]; exact hlt)
      have hsg := segP_bounds HOK.out (i := k + 1) (by rw [← HN.out]; exact hlt)
      have HQ : Hid (code / segP m.vars (k + 1) / vspan (m.vars.getD k vr0) = code / segP m.vars k) := quo_step HOK.out code (by rw [← HN.out]; exact hlt)
      have HVa : Hid (valAt m.vars code k = (m.vars.getD k vr0).lo + (code / segP m.vars (k + 1)) % vspan (m.vars.getD k vr0)) := rfl
      have hq0 : 0 ≤ code / segP m.vars (k + 1) := Int.ediv_nonneg hc1 (by omega)
      have hq1 : code / segP m.vars (k + 1) ≤ 4096 := by
        have := Int.ediv_le_self (segP m.vars (k + 1)) hc1; omega
      have hf : wr.frozen? ⟨w2.heap.size, k, none⟩ = false := hrow.frozen k
      have hcl : wr.cell? ⟨w2.heap.size, k, none⟩ = some (.int .i64 0) := by rw [hrow.cell hlt, if_neg (by omega)]
      generalize code / segP m.vars (k + 1) = cd at *
      generalize m.vars.getD k vr0 = x at *
      obtain ⟨s, lo, hi, ini⟩ := x
      simp only [vspan] at c0 c1 c2 c3 HQ HVa hvb
      obtain ⟨hv1, hv2, hv3, hv4, hv5, hv6, hv7⟩ := hvb
      have hsp := fun w => span_any s lo hi ini w hv3 hv4 hv5
      obtain ⟨sp, hspe⟩ : ∃ sp, hi - lo + 1 = sp := ⟨_, rfl⟩
      rw [hspe] at hv1 hv2 hsp HQ HVa
      clear hspe hat
      have hr0 := Int.emod_nonneg cd (show sp ≠ 0 by omega)
      have hr1 := Int.emod_lt_of_pos cd (show 0 < sp by omega)
      have hi0 : (0 : Int) ≤ (k : Int) := Int.natCast_nonneg _
      have hi1 : (k : Int) < (n : Int) := by omega
      have hsz0 : ¬ sp = 0 := by omega
      have hsz1 : (sp == 0) = false := by rw [beq_eq_false_iff_ne]; omega
      have ht : cd.tmod sp = cd % sp := Int.tmod_eq_emod_of_nonneg hq0
      have htd : cd.tdiv sp = cd / sp := Int.tdiv_eq_ediv_of_nonneg hq0
      have hd0 := Int.ediv_nonneg hq0 (show 0 ≤ sp by omega)
      have hd1 := Int.ediv_le_self sp hq0
      have hw0 : IntKind.i64.wrap (cd % sp) = cd % sp := wr64 (by omega) (by omega)
      have hw1 : IntKind.i64.wrap (lo + cd % sp) = lo + cd % sp := wr64 (by omega) (by omega)
      have hbA := hbel.alloc (Nat.le_of_lt hszr) (.cells #[.string s, .int .i64 lo, .int .i64 hi, .int .i64 ini] 112)
      have HBA := (show Hid _ from hbA)
      have hfA := hrow.alloc (.cells #[.string s, .int .i64 lo, .int .i64 hi, .int .i64 ini] 112)
      have HRA := (show Hid _ from hfA)
      have hS0 : ∀ w', Below (wr.heap.size + 1) (wr.alloc (.cells #[.string s, .int .i64 lo, .int .i64 hi, .int .i64 ini] 112)) w' → w'.cell? ⟨wr.heap.size, 0, none⟩ = some (.string s) ∧ w'.cell? ⟨wr.heap.size, 1, none⟩ = some (.int .i64 lo) ∧ w'.cell? ⟨wr.heap.size, 2, none⟩ = some (.int .i64 hi) ∧ w'.cell? ⟨wr.heap.size, 3, none⟩ = some (.int .i64 ini) := fun w' hw' =>
        ⟨(hw'.cell (p := ⟨wr.heap.size, 0, none⟩) (by simp)).trans (by simp [go_sem]), (hw'.cell (p := ⟨wr.heap.size, 1, none⟩) (by simp)).trans (by simp [go_sem]), (hw'.cell (p := ⟨wr.heap.size, 2, none⟩) (by simp)).trans (by simp [go_sem]), (hw'.cell (p := ⟨wr.heap.size, 3, none⟩) (by simp)).trans (by simp [go_sem])⟩
      have hne : ∀ j : Nat, (⟨wr.heap.size, j, none⟩ : Addr) ≠ ⟨w2.heap.size, k, none⟩ := fun j h => by injection h with h1; omega
      have hS1 : ∀ w' v, Below (wr.heap.size + 1) (wr.alloc (.cells #[.string s, .int .i64 lo, .int .i64 hi, .int .i64 ini] 112)) w' → (w'.setCell ⟨w2.heap.size, k, none⟩ v).cell? ⟨wr.heap.size, 0, none⟩ = some (.string s) ∧ (w'.setCell ⟨w2.heap.size, k, none⟩ v).cell? ⟨wr.heap.size, 1, none⟩ = some (.int .i64 lo) ∧ (w'.setCell ⟨w2.heap.size, k, none⟩ v).cell? ⟨wr.heap.size, 2, none⟩ = some (.int .i64 hi) ∧ (w'.setCell ⟨w2.heap.size, k, none⟩ v).cell? ⟨wr.heap.size, 3, none⟩ = some (.int .i64 ini) := fun w' v hw' => by
        obtain ⟨a0, a1, a2, a3⟩ := hS0 w' hw'
        exact ⟨(World.cell?_setCell_other _ _ _ _ (hne 0).symm).trans a0, (World.cell?_setCell_other _ _ _ _ (hne 1).symm).trans a1, (World.cell?_setCell_other _ _ _ _ (hne 2).symm).trans a2, (World.cell?_setCell_other _ _ _ _ (hne 3).symm).trans a3⟩
      have hB0 : Below (wr.heap.size + 1) (wr.alloc (.cells #[.string s, .int .i64 lo, .int .i64 hi, .int .i64 ini] 112)) (wr.alloc (.cells #[.string s, .int .i64 lo, .int .i64 hi, .int .i64 ini] 112)).drew := (Below.refl _ _).drew
      have hrw := fun w' (hw' : Below (wr.heap.size + 1) (wr.alloc (.cells #[.string s, .int .i64 lo, .int .i64 hi, .int .i64 ini] 112)) w') => hfA.of_block (hw'.block w2.heap.size (by omega))
      have hcf3 : ∀ w', Below (wr.heap.size + 1) (wr.alloc (.cells #[.string s, .int .i64 lo, .int .i64 hi, .int .i64 ini] 112)) w' → w'.frozen? ⟨w2.heap.size, k, none⟩ = false ∧ w'.cell? ⟨w2.heap.size, k, none⟩ = some (.int .i64 0) := fun w' hw' => ⟨(hrw w' hw').frozen k, by rw [(hrw w' hw').cell hlt, if_neg (by omega)]⟩
      have HRw := (show Hid _ from hrw)
      clear hfA hbA hrw hbel hrow hbw
      go_wp2_with fail
      go_region_held3 (fun w' => w'.cell? ⟨wr.heap.size, 0, none⟩ = some (.string s) ∧ w'.cell? ⟨wr.heap.size, 1, none⟩ = some (.int .i64 lo) ∧ w'.cell? ⟨wr.heap.size, 2, none⟩ = some (.int .i64 hi) ∧ w'.cell? ⟨wr.heap.size, 3, none⟩ = some (.int .i64 ini))
        (first | exact hS0 _ hB0 | exact hS0 _ (hB0.trans (hb3.mono (by simp))) | exact hS1 _ _ (hB0.trans (hb3.mono (by simp))))
        (first | (go_at_call 92; refine (hsp _).mono ?_; rintro e w3 ⟨rfl, hb3⟩; obtain ⟨hf3, hc3⟩ := hcf3 _ (hB0.trans (hb3.mono (by simp)))))
      have hB3 := hB0.trans (hb3.mono (by simp))
      obtain ⟨e0, e1, e2, e3⟩ := hS1 w3 (.int .i64 (lo + cd % sp)) hB3
      have hs3 : wr.heap.size < w3.heap.size := by have := hb3.size; simp at this; omega
      have hrow4 : ∀ w4, Below w3.heap.size (w3.setCell ⟨w2.heap.size, k, none⟩ (.int .i64 (lo + cd % sp))) w4 → w4.rowIs w2.heap.size 3 n (fun j => if k ≤ j then .int .i64 (valAt m.vars code j) else .int .i64 0) ∧ Below w2.heap.size w2 w4 := fun w4 h4 => by
        refine ⟨(((HRw.out w3 hB3).set k (.int .i64 (lo + cd % sp))).of_block (h4.block w2.heap.size (by omega))).congr fun j hj => ?_, ?_⟩
        · by_cases hjk : j = k
          · subst hjk; rw [if_pos rfl, if_pos (Nat.le_refl _), HVa.out]
          · rw [if_neg hjk]
            by_cases hkj : k + 1 ≤ j
            · rw [if_pos hkj, if_pos (by omega)]
            · rw [if_neg hkj, if_neg (by omega)]
        · exact ((HBA.out.trans (hB3.mono (by omega))).setCell (by simp) _).trans (h4.mono (by omega))
      have HR4 := (show Hid _ from hrow4)
      clear hrow4 hf hcl hf3 hc3 hcf3 hS0 hS1
      go_wp2_with (go_at_call 92; refine (hsp _).mono ?_; rintro e w4 ⟨rfl, hb4⟩)
      have hb4' : Below w3.heap.size (w3.setCell ⟨w2.heap.size, k, none⟩ (.int .i64 (lo + cd % sp))) w4 := hb4.mono (by simp)
      go_roundw
      case rel => exact ⟨k, by omega, by first | rfl | go_num, by rw [← HQ.out], (HR4.out _ hb4').1, (HR4.out _ hb4').2⟩
      case measure => simp [intOf]
    · have hk0 : k = 0 := by omega
      subst hk0
      go_wp2
      go_ret2
      exact ⟨w2.heap.size, rfl, HB2.out.size, hbw, hrow.congr (fun i hi => by rw [if_pos (by omega)])⟩
set_option maxRecDepth 20000 in
theorem mvalues_bad (va vr : Value) (m : Mo) (code : Int) (w : World) (hB : 0 < w.heap.size) (hT : TabAt w) (hV : ModelV w va vr m) (h : mcode m ≠ 0) :
    Calls Tryz.prog 74 #[.agg #[va, vr], .int .i64 code] w fun e w' => e = .returned (.tuple #[.slice none 0 0, .int .i64 (mcode m)]) ∧ Below w.heap.size w w' := by
  have hA : ∀ o, Below w.heap.size w (w.alloc o) := fun o => (Below.refl _ _).alloc (Nat.le_refl _) o
  have hch := fun o => mcheck_any va vr m (w.alloc o) (Nat.lt_of_lt_of_le hB (hA o).size) (hT.below (hA o) hB) (hV.below (hA o))
  obtain ⟨ao, cap, rfl⟩ := hV.1.shape
  obtain ⟨ro, rc, rfl⟩ := hV.2.shape
  generalize mcode m = x at *
  generalize m.vars.length = n at *
  generalize m.rules.length = rn at *
  clear hV hT
  go_enter Tryz.func74, Tryz.ntmps74
  go_wp2_with (go_at_call 72; refine (hch _).mono ?_; rintro e w1 ⟨rfl, hb1⟩)
  go_ret2
  exact ⟨rfl, (hA _).trans (hb1.mono (hA _).size)⟩
set_option maxRecDepth 20000 in
theorem mvalues_no (va vr : Value) (m : Mo) (code : Int) (w : World) (hB : 0 < w.heap.size) (hT : TabAt w) (hV : ModelV w va vr m) (h : mcode m = 0) (hc : ¬ (0 ≤ code ∧ code < prodTo m.vars m.vars.length)) :
    Calls Tryz.prog 74 #[.agg #[va, vr], .int .i64 code] w fun e w' => e = .returned (.tuple #[.slice none 0 0, .int .i64 9]) ∧ Below w.heap.size w w' := by
  have hA : ∀ o, Below w.heap.size w (w.alloc o) := fun o => (Below.refl _ _).alloc (Nat.le_refl _) o
  have hch := fun o => mcheck_any va vr m (w.alloc o) (Nat.lt_of_lt_of_le hB (hA o).size) (hT.below (hA o) hB) (hV.below (hA o))
  rw [h] at hch
  have hok := mcode_vars h
  have hcf := (fun w1 (hb : Below w.heap.size w w1) => countOf_any va m.vars w1 hok (hV.1.below hb))
  obtain ⟨ao, cap, rfl⟩ := hV.1.shape
  obtain ⟨ro, rc, rfl⟩ := hV.2.shape
  have hN := hok.prod (j := m.vars.length) (Nat.le_refl _)
  generalize prodTo m.vars m.vars.length = N at *
  generalize m.vars.length = n at *
  generalize m.rules.length = rn at *
  clear hV hT hok h
  by_cases h0 : code < 0
  · clear hc
    go_enter Tryz.func74, Tryz.ntmps74
    go_wp2_with (go_at_call 72; refine (hch _).mono ?_; rintro e w1 ⟨rfl, hb1⟩)
    go_ret2
    exact ⟨rfl, (hA _).trans (hb1.mono (hA _).size)⟩
  · have h1 : N ≤ code := by omega
    clear hc
    go_enter Tryz.func74, Tryz.ntmps74
    go_wp2_with (first | (go_at_call 72; refine (hch _).mono ?_; rintro e w1 ⟨rfl, hb1⟩; have hcb : w1.cell? ⟨w.heap.size, 0, none⟩ = some (.slice ao n cap) := (hb1.cell (p := ⟨w.heap.size, 0, none⟩) (by simp)).trans (by simp [go_sem]); have hbw := (hA _).trans (hb1.mono (hA _).size)) | (go_at_call 93; refine (hcf _ hbw).mono ?_; rintro e w2 ⟨rfl, hb2⟩))
    go_ret2
    exact ⟨rfl, hbw.trans (hb2.mono hbw.size)⟩

set_option maxRecDepth 20000 in
/-- THE CONTRACT OF Values. -/
theorem mvalues_any (va vr : Value) (m : Mo) (code : Int) (w : World) (hB : 0 < w.heap.size) (hT : TabAt w) (hV : ModelV w va vr m) :
    Calls Tryz.prog 74 #[.agg #[va, vr], .int .i64 code] w fun e w' => ∃ v, e = .returned (.tuple #[v, .int .i64 (wcode m code)]) ∧ Below w.heap.size w w' ∧ IntsV w' v (wvals m code) := by
  by_cases h : mcode m = 0
  · by_cases hc : 0 ≤ code ∧ code < prodTo m.vars m.vars.length
    · have h0 := wcode_yes h hc
      unfold wvals
      rw [h0, if_pos rfl]
      exact (mvalues_loop va vr m code w hB hT hV h hc).mono fun e w' ⟨B, he, _, hb, hr⟩ => ⟨_, he, hb, intsV_of_row hr⟩
    · have h0 := wcode_no h hc
      unfold wvals
      rw [h0, if_neg (by decide)]
      exact (mvalues_no va vr m code w hB hT hV h hc).mono fun e w' ⟨he, hb⟩ => ⟨_, he, hb, none, 0, rfl, fun h => absurd rfl h⟩
  · have h0 := wcode_bad (code := code) h
    unfold wvals
    rw [h0, if_neg h]
    exact (mvalues_bad va vr m code w hB hT hV h).mono fun e w' ⟨he, hb⟩ => ⟨_, he, hb, none, 0, rfl, fun h => absurd rfl h⟩
end Go.Proofs.YtihmcoikgkacoaaGreatDoor

/-
  The contract of step.After.
-/
namespace Go.Proofs.YtihmcoikgkacoaaGreatDoor
open Go.ChangeShapes Go.WideShapes Go.ChangeAt Go.RowKit Go.Deep
open Terms Tm

/-- what After answers. -/
noncomputable def aftN (m : Mo) (code rule : Int) : Int := if wcode m code = 0 then (if 0 ≤ rule ∧ rule < m.rules.length then optN (ruleDo m.vars (valsL m.vars code) (m.rules.getD rule.toNat ru0)) else 0) else 0
noncomputable def aftC (m : Mo) (code rule : Int) : Int := if wcode m code = 0 then (if 0 ≤ rule ∧ rule < m.rules.length then optC (ruleDo m.vars (valsL m.vars code) (m.rules.getD rule.toNat ru0)) else 2) else wcode m code
theorem wcode_zero {m : Mo} {code : Int} (h : wcode m code = 0) : mcode m = 0 ∧ 0 ≤ code ∧ code < prodTo m.vars m.vars.length := by
  unfold wcode at h
  split at h
  · rename_i h1
    split at h
    · rename_i h2; exact ⟨h1, h2⟩
    · cases h
  · rename_i h1; exact absurd h h1
/-- THE CONTRACT OF Values, where there are some: a block of their own. -/
theorem svalues_any (va vr : Value) (m : Mo) (code : Int) (w : World) (hB : 0 < w.heap.size) (hT : TabAt w) (hV : ModelV w va vr m) (h : wcode m code = 0) :
    Calls Tryz.prog 74 #[.agg #[va, vr], .int .i64 code] w fun e w' => ∃ B, e = .returned (.tuple #[.slice (some ⟨B, 0, none⟩) (valsL m.vars code).length (valsL m.vars code).length, .int .i64 0]) ∧ w.heap.size ≤ B ∧ Below w.heap.size w w' ∧ w'.rowIs B 3 (valsL m.vars code).length (fun j => .int .i64 ((valsL m.vars code).getD j 0)) := by
  obtain ⟨h1, h2⟩ := wcode_zero h
  refine (mvalues_loop va vr m code w hB hT hV h1 h2).mono fun e w' ⟨B, he, hl, hb, hr⟩ => ?_
  rw [← valsL_length m.vars code] at he hr
  refine ⟨B, he, hl, hb, hr.congr fun j hj => ?_⟩
  rw [valsL_length] at hj
  simp [valsL, List.getD_eq_getElem?_getD, hj]

end Go.Proofs.YtihmcoikgkacoaaGreatDoor

/-
  The contract of step.Letter.
-/
namespace Go.Proofs.YtihmcoikgkacoaaGreatDoor
open Go.ChangeShapes Go.WideShapes Go.ChangeAt Go.RowKit Go.Deep
open Terms Tm

/-- what Letter answers. -/
noncomputable def letC (m : Mo) (ps : List (List (Int × Int))) (code : Int) : Int := if pcode m ps = 0 then wcode m code else pcode m ps
noncomputable def letL (m : Mo) (ps : List (List (Int × Int))) (code : Int) : List Bool := if letC m ps code = 0 then ps.map (fun p => holdsB p (valsL m.vars code)) else []
/-- a slice's row has elements of that type. -/
def RowTy (w : World) (v : Value) (t : TypeId) : Prop := ∀ a n c, v = .slice (some a) n c → ∃ cs fr, w.heap[a.block]? = some (.cells cs t fr)
theorem RowTy.nil (w : World) (t : TypeId) : RowTy w (.slice none 0 0) t := fun a n c e => by simp at e
theorem pcode_m {m : Mo} {ps : List (List (Int × Int))} (h : pcode m ps = 0) : mcode m = 0 ∧ ps.length ≤ 6 := by
  unfold pcode at h
  split at h
  · rename_i h1
    split at h
    · simp at h
    · exact ⟨h1, by omega⟩
  · rename_i h1; exact absurd h h1
theorem wcode_bare {m : Mo} (code : Int) (h : mcode m = 0) : wcode ⟨m.vars, []⟩ code = wcode m code := by
  unfold wcode
  rw [if_pos h, if_pos (mcode_bare h)]

set_option maxHeartbeats 3200000 in
set_option maxRecDepth 20000 in
/-- THE CONTRACT OF Letter. -/
theorem letter_own (va vr pv : Value) (m : Mo) (ps : List (List (Int × Int))) (code : Int) (w : World) (hB : 0 < w.heap.size) (hT : TabAt w) (hV : ModelV w va vr m) (hP : TermsV w pv ps) :
    Calls Tryz.prog 53 #[.agg #[va, vr], pv, .int .i64 code] w fun e w' => ∃ v, e = .returned (.tuple #[v, .int .i64 (letC m ps code)]) ∧ Below w.heap.size w w' ∧ BoolsV w' v (letL m ps code) ∧ RowTy w' v 4 := by
  have hA : ∀ o, Below w.heap.size w (w.alloc o) := fun o => (Below.refl _ _).alloc (Nat.le_refl _) o
  have hpr := fun o => mprops_any va vr pv m ps (w.alloc o) (Nat.lt_of_lt_of_le hB (hA o).size) (hT.below (hA o) hB) (hV.below (hA o)) (hP.below (hA o))
  obtain ⟨ao, cap, rfl⟩ := hV.1.shape
  obtain ⟨ro, rc, rfl⟩ := hV.2.shape
  obtain ⟨po, pc, rfl, hPa⟩ := hP
  have hba := fun w => bare_any ao ro m.vars.length cap m.rules.length rc w
  by_cases hp : pcode m ps = 0
  · obtain ⟨hm, hp6⟩ := pcode_m hp
    rw [hp] at hpr
    have hVb : ∀ w', Below w.heap.size w w' → ModelV w' (.slice ao m.vars.length cap) (.slice none 0 0) ⟨m.vars, []⟩ := fun w' hb => ⟨hV.1.below hb, ⟨none, 0, rfl, ⟨by simp, fun _ => ⟨rfl, rfl⟩⟩, fun h => by simp at h⟩⟩
    by_cases hw : wcode m code = 0
    · have hlc : letC m ps code = 0 := by unfold letC; rw [if_pos hp, hw]
      have hll : letL m ps code = ps.map (fun p => holdsB p (valsL m.vars code)) := by unfold letL; rw [if_pos hlc]
      rw [hlc, hll]
      have hvl := fun w' (hb : Below w.heap.size w w') => svalues_any _ _ ⟨m.vars, []⟩ code w' (Nat.lt_of_lt_of_le hB hb.size) (hT.below hb hB) (hVb w' hb) (by rw [wcode_bare _ hm]; exact hw)
      have hvl2 : ∀ w', Below w.heap.size w w' → Calls Tryz.prog 74 #[.agg #[.slice ao m.vars.length cap, .slice none 0 0], .int .i64 code] w' fun e w2 => ∃ B, e = .returned (.tuple #[.slice (some ⟨B, 0, none⟩) (valsL m.vars code).length (valsL m.vars code).length, .int .i64 0]) ∧ w'.heap.size ≤ B ∧ Below w'.heap.size w' w2 ∧ w2.rowIs B 3 (valsL m.vars code).length (fun j => .int .i64 ((valsL m.vars code).getD j 0)) := hvl
      generalize valsL m.vars code = env at hvl2 ⊢
      have HHo : Hid (∀ w' (_ : Below w.heap.size w w') v ev l, OpsV w' v l → IntsV w' ev env → Calls Tryz.prog 76 #[v, ev] w' fun e w2 => e = .returned (.bool (holdsB l env)) ∧ Below w'.heap.size w' w2) := fun w' hb v ev l h1 h2 => sholds_any v ev l env w' (Nat.lt_of_lt_of_le hB hb.size) (hT.below hb hB) h1 h2
      have HP : Hid (ps ≠ [] → ∃ b off, po = some ⟨b, off, none⟩ ∧ b < w.heap.size ∧ ∀ i, i < ps.length → ∃ u, w.cell? ⟨b, off + i, none⟩ = some u ∧ OpsV w u (ps.getD i [])) := hPa
      have HML : Hid ((ps.map (fun p => holdsB p env)).length = ps.length ∧ ∀ i, i < ps.length → (ps.map (fun p => holdsB p env)).getD i false = holdsB (ps.getD i []) env) := ⟨by simp, fun i hi => by simp [List.getD_eq_getElem?_getD, hi]⟩
      generalize ps.map (fun p => holdsB p env) = lt at HML ⊢
      obtain ⟨pn, hpn⟩ : ∃ pn, pn = ps.length := ⟨_, rfl⟩
      have HPN : Hid (pn = ps.length) := hpn
      rw [← hpn] at hpr hp6 HP HML ⊢
      generalize m.vars.length = n at *
      generalize m.rules.length = rn at *
      have hmk := run_make_row' (P := Tryz.prog) 61 4 (.bool false) 1 Tryz.underlying61 infoBool rfl .i64 .i64 pn (by omega) (by omega)
      clear hV hT hVb hlc hll hPa hvl hpn hw hm hp
      go_enter Tryz.func53, Tryz.ntmps53
      go_wp2_with (first | (go_at_call 57; refine (hpr _).mono ?_; rintro e w1 ⟨rfl, hb1⟩; have hbw1 := (hA _).trans (hb1.mono (hA _).size); have k10 : w1.cell? ⟨w.heap.size, 0, none⟩ = some (.slice ao n cap) := (hb1.cell (p := ⟨w.heap.size, 0, none⟩) (by simp)).trans (by simp [go_sem]); have k11 : w1.cell? ⟨w.heap.size, 1, none⟩ = some (.slice ro rn rc) := (hb1.cell (p := ⟨w.heap.size, 1, none⟩) (by simp)).trans (by simp [go_sem])) | (go_at_call 75; refine (hba _).mono ?_; rintro e w2 ⟨rfl, hb2⟩; have hbw2 := hbw1.trans (hb2.mono hbw1.size)) | (go_at_call 74; refine (hvl2 _ hbw2).mono ?_; rintro e w3 ⟨B, rfl, hBl, hb3, hr3⟩))
      have hbw3 := hbw2.trans (hb3.mono hbw2.size)
      have hrow0 := World.rowIs_made w3 (.bool false) pn 4
      have HI3 : Hid (∀ w', Below w3.heap.size w3 w' → IntsV w' (.slice (some ⟨B, 0, none⟩) env.length env.length) env) := fun w' hb => by
        have h1 := intsV_of_row hr3
        have e1 : (List.range env.length).map (fun j => env.getD j 0) = env := by
          apply List.ext_getElem?
          intro i
          by_cases hi : i < env.length
          · simp [hi, List.getD_eq_getElem?_getD]
          · simp [hi]
        rw [e1] at h1
        exact h1.below hb
      have HB3 : Hid (Below w.heap.size w w3) := hbw3
      clear hpr hvl2 hba hmk hb1 hbw1 k10 k11 hb2 hbw2 hb3 hr3 hbw3 hBl
      go_loopw [35] (fun i wr => ∃ k : Nat, k ≤ pn ∧ i = .int .i64 k ∧ Hid (wr.rowIs w3.heap.size 4 pn (fun j => if j < k then .bool (lt.getD j false) else .bool false)) ∧ Hid (Below w3.heap.size w3 wr)) (fun i _ => pn - (intOf i).toNat)
      case atStart => exact ⟨0, Nat.zero_le _, rfl, hrow0.congr (fun i hi => by rw [if_neg (by omega)]), (Below.refl _ _).alloc (Nat.le_refl _) _⟩
      case round =>
        obtain ⟨k, hk, rfl, HRow, HBel⟩ := hrel
        have hbel := HBel.out
        have hbw := HB3.out.trans (hbel.mono HB3.out.size)
        by_cases hlt : k < pn
        · obtain ⟨b, off, rfl, hblt, hat⟩ := HP.out (by intro h; have := HPN.out; subst h; simp at this; omega)
          obtain ⟨u, hu, hou⟩ := hat k hlt
          have c0 := (hbel.cell (p := ⟨b, off + k, none⟩) (Nat.lt_of_lt_of_le hblt HB3.out.size)).trans ((HB3.out.cell (p := ⟨b, off + k, none⟩) hblt).trans hu)
          obtain ⟨uo, uc, rfl⟩ := hou.shape
          have hho := HHo.out wr hbw _ _ _ (hou.below hbw) (HI3.out wr hbel)
          have HLk := (show Hid _ from HML.out.2 k hlt)
          generalize holdsB (ps.getD k []) env = tv at hho HLk
          generalize (ps.getD k []).length = ul at *
          have HWr : Hid (∀ w4, Below wr.heap.size wr w4 → w4.rowIs w3.heap.size 4 pn (fun j => if j < k then .bool (lt.getD j false) else .bool false) ∧ Below w3.heap.size w3 w4) := fun w4 hb => ⟨row_later HRow.out hb, hbel.trans (hb.mono hbel.size)⟩
          clear hat hu hou hbel hbw HHo HI3 HP HML
          go_wp2_with (go_at_call 76; refine hho.mono ?_; rintro e w4 ⟨rfl, hb4⟩; obtain ⟨hr4, hb34⟩ := HWr.out w4 hb4; have hf := hr4.frozen k; have hc : w4.cell? ⟨w3.heap.size, k, none⟩ = some (.bool false) := (by rw [hr4.cell hlt, if_neg (by omega)]); have HR4 : Hid (w4.rowIs w3.heap.size 4 pn (fun j => if j < k then .bool (lt.getD j false) else .bool false)) := hr4; clear hr4)
          refine ⟨⟨k + 1, hlt, by first | rfl | simp, (HR4.out.set k (.bool tv)).congr fun i hi => ?_, hb34.setCell (Nat.le_refl _) _⟩, by simp [intOf]; omega⟩
          by_cases hik : i = k
          · subst hik; rw [if_pos rfl, if_pos (by omega), HLk.out]
          · rw [if_neg hik]
            by_cases hlk : i < k
            · rw [if_pos hlk, if_pos (by omega)]
            · rw [if_neg hlk, if_neg (by omega)]
        · have hkn : k = pn := by omega
          subst hkn
          have hrow := HRow.out.congr (g := fun j => .bool (lt.getD j false)) (fun i hi => by rw [if_pos hi])
          rw [← HML.out.1] at hrow
          have hbo := boolsV_of_row hrow
          rw [HML.out.1] at hbo
          have HBO := (show Hid _ from hbo)
          have HTy : Hid (RowTy wr (.slice (some ⟨w3.heap.size, 0, none⟩) k k) 4) := by
            intro a n c e
            injection e with e _ _
            injection e with e
            subst e
            obtain ⟨cs, hcs, _⟩ := HRow.out
            exact ⟨cs, (0, 0), hcs⟩
          clear hrow hbo
          go_wp2_with fail
          go_ret2
          exact ⟨_, rfl, hbw, HBO.out, HTy.out⟩
    · have hlc : letC m ps code = wcode m code := by unfold letC; rw [if_pos hp]
      have hll : letL m ps code = [] := by unfold letL; rw [if_neg (by rw [hlc]; exact hw)]
      rw [hlc, hll]
      have hvl := fun w' (hb : Below w.heap.size w w') => mvalues_any _ _ ⟨m.vars, []⟩ code w' (Nat.lt_of_lt_of_le hB hb.size) (hT.below hb hB) (hVb w' hb)
      rw [wcode_bare _ hm] at hvl
      generalize wcode m code = c at *
      generalize wvals ⟨m.vars, []⟩ code = vs at *
      generalize m.vars.length = n at *
      generalize m.rules.length = rn at *
      generalize ps.length = pn at *
      clear hV hT hVb hlc hll hPa
      go_enter Tryz.func53, Tryz.ntmps53
      go_wp2_with (first | (go_at_call 57; refine (hpr _).mono ?_; rintro e w1 ⟨rfl, hb1⟩; have hbw1 := (hA _).trans (hb1.mono (hA _).size); have k10 : w1.cell? ⟨w.heap.size, 0, none⟩ = some (.slice ao n cap) := (hb1.cell (p := ⟨w.heap.size, 0, none⟩) (by simp)).trans (by simp [go_sem]); have k11 : w1.cell? ⟨w.heap.size, 1, none⟩ = some (.slice ro rn rc) := (hb1.cell (p := ⟨w.heap.size, 1, none⟩) (by simp)).trans (by simp [go_sem])) | (go_at_call 75; refine (hba _).mono ?_; rintro e w2 ⟨rfl, hb2⟩; have hbw2 := hbw1.trans (hb2.mono hbw1.size)) | (go_at_call 74; refine (hvl _ hbw2).mono ?_; rintro e w3 ⟨v, rfl, hb3, _⟩))
      go_ret2
      exact ⟨_, rfl, hbw2.trans (hb3.mono hbw2.size), ⟨none, 0, rfl, fun h => absurd rfl h⟩, RowTy.nil _ _⟩
  · have hlc : letC m ps code = pcode m ps := by unfold letC; rw [if_neg hp]
    have hll : letL m ps code = [] := by unfold letL; rw [if_neg (by rw [hlc]; exact hp)]
    rw [hlc, hll]
    generalize pcode m ps = c at *
    generalize m.vars.length = n at *
    generalize m.rules.length = rn at *
    generalize ps.length = pn at *
    clear hV hT hlc hll hPa
    go_enter Tryz.func53, Tryz.ntmps53
    go_wp2_with (go_at_call 57; refine (hpr _).mono ?_; rintro e w1 ⟨rfl, hb1⟩)
    go_ret2
    exact ⟨_, rfl, (hA _).trans (hb1.mono (hA _).size), ⟨none, 0, rfl, fun h => absurd rfl h⟩, RowTy.nil _ _⟩
theorem letter_any (va vr pv : Value) (m : Mo) (ps : List (List (Int × Int))) (code : Int) (w : World) (hB : 0 < w.heap.size) (hT : TabAt w) (hV : ModelV w va vr m) (hP : TermsV w pv ps) :
    Calls Tryz.prog 53 #[.agg #[va, vr], pv, .int .i64 code] w fun e w' => ∃ v, e = .returned (.tuple #[v, .int .i64 (letC m ps code)]) ∧ Below w.heap.size w w' ∧ BoolsV w' v (letL m ps code) :=
  (letter_own va vr pv m ps code w hB hT hV hP).mono fun _ _ ⟨v, h1, h2, h3, _⟩ => ⟨v, h1, h2, h3⟩
end Go.Proofs.YtihmcoikgkacoaaGreatDoor

/-
  The contract of the program's First.
-/
namespace Go.Proofs.YtihmcoikgkacoaaGreatDoor
open Go.ChangeShapes Go.WideShapes Go.ChangeAt Go.RowKit Go.Deep
open Terms Tm

set_option maxRecDepth 20000 in
theorem initsL_length (l : List Vr) : (initsL l).length = l.length := by simp [initsL]
set_option maxRecDepth 20000 in
theorem initsL_get {l : List Vr} {i : Nat} (h : i < l.length) : (initsL l).getD i 0 = (l.getD i vr0).ini := by
  simp [initsL, List.getD_eq_getElem?_getD, h]

set_option maxRecDepth 20000 in
set_option maxHeartbeats 1600000 in
theorem mfirst_loop (va vr : Value) (m : Mo) (w : World) (hB : 0 < w.heap.size) (hT : TabAt w) (hV : ModelV w va vr m) (h : mcode m = 0) :
    Calls Tryz.prog 52 #[.agg #[va, vr]] w fun e w' => e = .returned (.tuple #[.int .i64 (codeTo m.vars (initsL m.vars) m.vars.length), .int .i64 0]) ∧ Below w.heap.size w w' := by
  have hA : ∀ o, Below w.heap.size w (w.alloc o) := fun o => (Below.refl _ _).alloc (Nat.le_refl _) o
  have hch := fun o => mcheck_any va vr m (w.alloc o) (Nat.lt_of_lt_of_le hB (hA o).size) (hT.below (hA o) hB) (hV.below (hA o))
  rw [h] at hch
  have hok := mcode_vars h
  have h6 := hok.1
  have hcf := (fun vv w1 (hb : Below w.heap.size w w1) (hI : IntsV w1 vv (initsL m.vars)) => codeOf_any va vv m.vars (initsL m.vars) w1 hok (initsL_length _) (inits_in hok) (hV.1.below hb) hI)
  obtain ⟨ao, cap, rfl⟩ := hV.1.shape
  obtain ⟨ro, rc, rfl⟩ := hV.2.shape
  have HCF := (show Hid _ from hcf)
  have HV : Hid (VarsV w (.slice ao m.vars.length cap) m.vars) := hV.1
  have HIn : Hid (∀ i, i < m.vars.length → (initsL m.vars).getD i 0 = (m.vars.getD i vr0).ini) := fun i hi => initsL_get hi
  have HLn : Hid ((initsL m.vars).length = m.vars.length) := initsL_length _
  generalize codeTo m.vars (initsL m.vars) m.vars.length = res at *
  obtain ⟨n, hn⟩ : ∃ n, n = m.vars.length := ⟨_, rfl⟩
  have HN : Hid (n = m.vars.length) := hn
  rw [← hn] at h6 hch HCF HV HIn HLn ⊢
  generalize m.rules.length = rn at *
  have hmk := run_make_row' (P := Tryz.prog) 40 3 (.int .i64 0) 8 Tryz.underlying40 infoInt rfl .i64 .i64 n (by omega) (by omega)
  clear hV hT hn hok h hcf
  go_enter Tryz.func52, Tryz.ntmps52
  go_wp2_with (go_at_call 72; refine (hch _).mono ?_; rintro e w1 ⟨rfl, hb1⟩; have hcb : w1.cell? ⟨w.heap.size, 0, none⟩ = some (.slice ao n cap) := (hb1.cell (p := ⟨w.heap.size, 0, none⟩) (by simp)).trans (by simp [go_sem]); have hs1 : w.heap.size < w1.heap.size := (by have := hb1.size; simp at this; omega); have hcbA : ∀ o, (w1.alloc o).cell? ⟨w.heap.size, 0, none⟩ = some (.slice ao n cap) := (fun o => (((Below.refl w1.heap.size w1).alloc (Nat.le_refl _) o).cell (p := ⟨w.heap.size, 0, none⟩) hs1).trans hcb))
  have hbw := (hA _).trans (hb1.mono (hA _).size)
  have hrow0 := World.rowIs_made w1 (.int .i64 0) n 3
  have HB1 : Hid (Below w.heap.size w w1) := hbw
  clear hch hmk hb1 hbw hcbA
  go_loopw [20] (fun i wr => ∃ k : Nat, k ≤ n ∧ i = .int .i64 k ∧ Hid (wr.rowIs w1.heap.size 3 n (fun j => if j < k then .int .i64 ((initsL m.vars).getD j 0) else .int .i64 0)) ∧ Hid (Below w1.heap.size w1 wr)) (fun i _ => n - (intOf i).toNat)
  case atStart => exact ⟨0, Nat.zero_le _, rfl, hrow0.congr (fun i hi => by rw [if_neg (by omega)]), (Below.refl _ _).alloc (Nat.le_refl _) _⟩
  case round =>
    obtain ⟨k, hk, rfl, HRow, HBel⟩ := hrel
    have hbel := HBel.out
    have hrow := HRow.out
    have hbw := HB1.out.trans (hbel.mono HB1.out.size)
    have hszr := hrow.lt
    have cb := (hbel.cell (p := ⟨w.heap.size, 0, none⟩) hs1).trans hcb
    by_cases hlt : k < n
    · obtain ⟨b, off, rfl, hblt, hat⟩ := HV.out.at (i := k) (by rw [← HN.out]; exact hlt)
      obtain ⟨c0, c1, c2, c3⟩ := hat.below hbw hblt
      have HIk := (show Hid _ from HIn.out k hlt)
      have hA2 := fun o => hrow.alloc o
      have hf : ∀ o, (wr.alloc o).frozen? ⟨w1.heap.size, k, none⟩ = false := fun o => (hA2 o).frozen k
      have hcl : ∀ o, (wr.alloc o).cell? ⟨w1.heap.size, k, none⟩ = some (.int .i64 0) := fun o => by rw [(hA2 o).cell hlt, if_neg (by omega)]
      generalize m.vars.getD k vr0 = x at *
      obtain ⟨s, lo, hi, ini⟩ := x
      simp only at c0 c1 c2 c3 HIk
      have hfin : (((wr.setCell ⟨w1.heap.size, k, none⟩ (.int .i64 ini)).alloc (.cells #[.string s, .int .i64 lo, .int .i64 hi, .int .i64 ini] 112)).rowIs w1.heap.size 3 n (fun j => if j < k + 1 then .int .i64 ((initsL m.vars).getD j 0) else .int .i64 0)) := ((hrow.set k (.int .i64 ini)).alloc _).congr fun j hj => by
        by_cases hjk : j = k
        · subst hjk; rw [if_pos rfl, if_pos (by omega), HIk.out]
        · rw [if_neg hjk]
          by_cases hlk : j < k
          · rw [if_pos hlk, if_pos (by omega)]
          · rw [if_neg hlk, if_neg (by omega)]
      have hbA := (hbel.setCell (p := ⟨w1.heap.size, k, none⟩) (Nat.le_refl _) (.int .i64 ini)).alloc (by simp; omega) (.cells #[.string s, .int .i64 lo, .int .i64 hi, .int .i64 ini] 112)
      have HF := (show Hid _ from hfin)
      have HBA := (show Hid _ from hbA)
      have hfs := hf (.cells #[.string s, .int .i64 lo, .int .i64 hi, .int .i64 ini] 112)
      have hcs := hcl (.cells #[.string s, .int .i64 lo, .int .i64 hi, .int .i64 ini] 112)
      clear hat hA2 hf hcl hfin hbA hrow hbel hrow0
      go_wp2_with fail
      go_roundw
      case rel => exact ⟨k + 1, hlt, by go_num, HF.out, HBA.out⟩
      case measure => simp [intOf]; omega
    · have hkn : k = n := by omega
      subst hkn
      have hI : IntsV wr (.slice (some ⟨w1.heap.size, 0, none⟩) k k) (initsL m.vars) := by
        have := intsV_of_row (hrow.congr (g := fun j => .int .i64 ((initsL m.vars).getD j 0)) (fun i hi => by rw [if_pos hi]))
        have e : (List.range k).map (fun j => (initsL m.vars).getD j 0) = initsL m.vars := by
          apply List.ext_getElem?
          intro i
          by_cases hi : i < k
          · simp [hi, List.getD_eq_getElem?_getD, show i < (initsL m.vars).length by rw [HLn.out]; exact hi]
          · simp [hi, show ¬ i < (initsL m.vars).length by rw [HLn.out]; exact hi]
        rwa [e] at this
      have hcf := HCF.out _ wr hbw hI
      clear hI hrow HCF HRow hrow0
      go_wp2_with (go_at_call 73; refine hcf.mono ?_; rintro e w2 ⟨rfl, hb2⟩)
      go_ret2
      exact ⟨rfl, hbw.trans (hb2.mono hbw.size)⟩

set_option maxRecDepth 20000 in
theorem mfirst_bad (va vr : Value) (m : Mo) (w : World) (hB : 0 < w.heap.size) (hT : TabAt w) (hV : ModelV w va vr m) (h : mcode m ≠ 0) :
    Calls Tryz.prog 52 #[.agg #[va, vr]] w fun e w' => e = .returned (.tuple #[.int .i64 0, .int .i64 (mcode m)]) ∧ Below w.heap.size w w' := by
  have hA : ∀ o, Below w.heap.size w (w.alloc o) := fun o => (Below.refl _ _).alloc (Nat.le_refl _) o
  have hch := fun o => mcheck_any va vr m (w.alloc o) (Nat.lt_of_lt_of_le hB (hA o).size) (hT.below (hA o) hB) (hV.below (hA o))
  obtain ⟨ao, cap, rfl⟩ := hV.1.shape
  obtain ⟨ro, rc, rfl⟩ := hV.2.shape
  generalize mcode m = x at *
  generalize m.vars.length = n at *
  generalize m.rules.length = rn at *
  clear hV hT
  go_enter Tryz.func52, Tryz.ntmps52
  go_wp2_with (go_at_call 72; refine (hch _).mono ?_; rintro e w1 ⟨rfl, hb1⟩)
  go_ret2
  exact ⟨rfl, (hA _).trans (hb1.mono (hA _).size)⟩
set_option maxRecDepth 20000 in
/-- THE CONTRACT OF First. -/
theorem mfirst_any (va vr : Value) (m : Mo) (w : World) (hB : 0 < w.heap.size) (hT : TabAt w) (hV : ModelV w va vr m) :
    Calls Tryz.prog 52 #[.agg #[va, vr]] w fun e w' => e = .returned (.tuple #[.int .i64 (if mcode m = 0 then codeTo m.vars (initsL m.vars) m.vars.length else 0), .int .i64 (mcode m)]) ∧ Below w.heap.size w w' := by
  by_cases h : mcode m = 0
  · rw [if_pos h, h]
    exact mfirst_loop va vr m w hB hT hV h
  · rw [if_neg h]
    exact mfirst_bad va vr m w hB hT hV h
end Go.Proofs.YtihmcoikgkacoaaGreatDoor

/-
  Where runs begin that do not keep the formula: the contracts of the survey's begin and of product.Begin.
-/
namespace Go.Proofs.YtihmcoikgkacoaaGreatDoor
open Go.ChangeShapes Go.WideShapes Go.ChangeAt Go.RowKit Go.Deep
open Terms Tm

/-- the first state. -/
def begC (m : Mo) : Int := codeTo m.vars (initsL m.vars) m.vars.length
/-- the spots of the first claims. -/
noncomputable def begTo (m : Mo) (ps : List (List (Int × Int))) (l : List (Int × Int)) : Nat → List (Int × Int)
  | 0 => []
  | k + 1 => if tru l (letL m ps (begC m)) (k : Int) 0 = true then begTo m ps l k else begTo m ps l k ++ [(begC m, (k : Int))]
noncomputable def begL (m : Mo) (ps : List (List (Int × Int))) (l : List (Int × Int)) : List (Int × Int) := begTo m ps l (2 ^ (aheadL l).length)
theorem begTo_len (m : Mo) (ps : List (List (Int × Int))) (l : List (Int × Int)) : ∀ k, (begTo m ps l k).length ≤ k
  | 0 => Nat.le_refl _
  | k + 1 => by
    rw [begTo]
    have := begTo_len m ps l k
    split
    · omega
    · rw [List.length_append, List.length_singleton]; omega
theorem begL_len {m : Mo} {ps : List (List (Int × Int))} {l : List (Int × Int)} (h : tkcode m ps l = 0) : (begL m ps l).length ≤ 64 := by
  have h6 := (lcode_zero (tk_zero h).2).2.2.2.2
  have := begTo_len m ps l (2 ^ (aheadL l).length)
  have h2 : 2 ^ (aheadL l).length ≤ 2 ^ 6 := Nat.pow_le_pow_right (by decide) h6
  unfold begL
  omega
/-- the letter of a state of a right task. -/
theorem tk_let {m : Mo} {ps : List (List (Int × Int))} {l : List (Int × Int)} (h : tkcode m ps l = 0) {c : Int} (hc : 0 ≤ c ∧ c < prodTo m.vars m.vars.length) : letC m ps c = 0 ∧ (letL m ps c).length = ps.length := by
  obtain ⟨hp, _⟩ := tk_zero h
  obtain ⟨hm, _⟩ := pcode_m hp
  have h1 : letC m ps c = 0 := by unfold letC; rw [if_pos hp, wcode_yes hm hc]
  refine ⟨h1, ?_⟩
  unfold letL
  rw [if_pos h1, List.length_map]
theorem tk_beg {m : Mo} {ps : List (List (Int × Int))} {l : List (Int × Int)} (h : tkcode m ps l = 0) : 0 ≤ begC m ∧ begC m < prodTo m.vars m.vars.length := by
  obtain ⟨hp, _⟩ := tk_zero h
  obtain ⟨hm, _⟩ := pcode_m hp
  exact code_bounds (mcode_vars hm) (Nat.le_refl _) (fun i hi => inits_in (mcode_vars hm) i hi)
/-- the truths of a state and a claim. -/
theorem tk_tru {m : Mo} {ps : List (List (Int × Int))} {l : List (Int × Int)} (h : tkcode m ps l = 0) {c : Int} (hc : 0 ≤ c ∧ c < prodTo m.vars m.vars.length) {k : Nat} (hk : k < 2 ^ (aheadL l).length) :
    tcode l (letL m ps c) (k : Int) = 0 ∧ truL l (letL m ps c) (k : Int) = (List.range l.length).map (tru l (letL m ps c) (k : Int)) := by
  have h1 := (tk_let h hc).2
  have h2 : tcode l (letL m ps c) (k : Int) = 0 := by
    refine tcode_ok (by rw [h1]; exact (tk_zero h).2) fun hn => ?_
    unfold ClaimNo at hn
    have : ((2 ^ (aheadL l).length : Nat) : Int) = (2 : Int) ^ (aheadL l).length := by push_cast; rfl
    rcases hn with hn | hn
    · omega
    · rw [← this] at hn; omega
  exact ⟨h2, by unfold truL; rw [if_pos h2]⟩
theorem tk_ne {m : Mo} {ps : List (List (Int × Int))} {l : List (Int × Int)} (h : tkcode m ps l = 0) : 0 < l.length := by
  obtain ⟨_, _, hz, _, _⟩ := lcode_zero (tk_zero h).2
  have := (ends_ne hz).1
  rcases Nat.eq_zero_or_pos l.length with h0 | h0
  · rw [List.length_eq_zero_iff.1 h0] at this
    simp at this
  · exact h0

set_option maxHeartbeats 3200000 in
set_option maxRecDepth 20000 in
/-- THE CONTRACT OF the survey's begin. -/
theorem begin_any (B : Nat) (va vr pv fv : Value) (m : Mo) (ps : List (List (Int × Int))) (l : List (Int × Int)) (ho : Option Addr) (hcp bs bl : Nat) (w : World) (hB : 0 < w.heap.size) (hT : TabAt w) (hV : TaskV w va vr pv fv m ps l) (hc : tkcode m ps l = 0)
    (hS : SurvAt w B va vr pv fv (.slice ho (aheadL l).length hcp) bs bl) :
    Calls Tryz.prog 26 #[.pointer (some ⟨B, 0, none⟩)] w fun e w' => ∃ so sc, e = .returned (.tuple #[.slice so (begL m ps l).length sc, .int .i64 0]) ∧ Below w.heap.size w w' ∧ Hid (SpO w' w.heap.size (.slice so (begL m ps l).length sc) (begL m ps l)) := by
  obtain ⟨hp0, hl0⟩ := tk_zero hc
  obtain ⟨hm0, _⟩ := pcode_m hp0
  have h6 := (lcode_zero hl0).2.2.2.2
  have hne := tk_ne hc
  have hnei : (0 : Int) < (l.length : Int) := by omega
  obtain ⟨ao, ac, rfl⟩ := hV.mo.1.shape
  obtain ⟨ro, rc, rfl⟩ := hV.mo.2.shape
  obtain ⟨po, pc, rfl⟩ := hV.ps.shape
  obtain ⟨fo, fc, rfl, _⟩ := id hV.fo
  have hfi : Calls Tryz.prog 52 #[.agg #[.slice ao m.vars.length ac, .slice ro m.rules.length rc]] w fun e w' => e = .returned (.tuple #[.int .i64 (begC m), .int .i64 0]) ∧ Below w.heap.size w w' := by
    have := mfirst_any _ _ m w hB hT hV.mo
    rw [if_pos hm0, hm0] at this
    exact this
  have HLe : Hid (∀ w1, Below w.heap.size w w1 → Calls Tryz.prog 53 #[.agg #[.slice ao m.vars.length ac, .slice ro m.rules.length rc], .slice po ps.length pc, .int .i64 (begC m)] w1 fun e w' => ∃ lo lc, e = .returned (.tuple #[.slice lo ps.length lc, .int .i64 0]) ∧ Below w1.heap.size w1 w' ∧ Hid (BoolsV w' (.slice lo ps.length lc) (letL m ps (begC m)))) := fun w1 h => by
    refine (letter_any _ _ _ m ps (begC m) w1 (Nat.lt_of_lt_of_le hB h.size) (hT.below h hB) (hV.mo.below h) (hV.ps.below h)).mono fun e w' ⟨v, h1, h2, h3⟩ => ?_
    obtain ⟨t1, t2⟩ := tk_let hc (tk_beg hc)
    obtain ⟨lo, lc, rfl, hx⟩ := h3
    rw [t2] at h1
    exact ⟨lo, lc, by rw [h1, t1], h2, ⟨lo, lc, by rw [t2], hx⟩⟩
  have HTr : Hid (∀ (k : Nat) (lv : Value) (w1 : World), k < 2 ^ (aheadL l).length → Below w.heap.size w w1 → BoolsV w1 lv (letL m ps (begC m)) → Calls Tryz.prog 54 #[.slice fo l.length fc, lv, .int .i64 (k : Int)] w1 fun e w' => ∃ b off c, e = .returned (.tuple #[.slice (some ⟨b, off, none⟩) l.length c, .int .i64 0]) ∧ Below w1.heap.size w1 w' ∧ w'.cell? ⟨b, off, none⟩ = some (.bool (tru l (letL m ps (begC m)) (k : Int) 0))) := fun k lv w1 hk h hl => by
    refine (ltruths_any _ lv l (letL m ps (begC m)) (k : Int) w1 (Nat.lt_of_lt_of_le hB h.size) (hT.below h hB) (hV.fo.below h) hl).mono fun e w' ⟨v, h1, h2, h3⟩ => ?_
    obtain ⟨t1, t2⟩ := tk_tru hc (tk_beg hc) hk
    rw [t2] at h3
    have hn := tk_ne hc
    obtain ⟨lo, lc, rfl, hx⟩ := h3
    obtain ⟨b, off, rfl, _, hat⟩ := hx (by intro h0; have := congrArg List.length h0; rw [List.length_map, List.length_range, List.length_nil] at this; omega)
    have c0 := hat 0 (by simpa using hn)
    refine ⟨b, off, lc, by rw [h1, t1]; simp, h2, ?_⟩
    rw [Nat.add_zero] at c0
    rw [c0]
    simp [List.getD_eq_getElem?_getD, hn]
  have HS : Hid (∀ w1, Below w.heap.size w w1 → SurvAt w1 B (.slice ao m.vars.length ac) (.slice ro m.rules.length rc) (.slice po ps.length pc) (.slice fo l.length fc) (.slice ho (aheadL l).length hcp) bs bl) := fun w1 h => hS.later h
  have hcl := fun w1 (h : Below w.heap.size w w1) => claims_any B _ _ _ _ ho _ hcp bs bl w1 h6 (hS.later h)
  have HCl : Hid (∀ w1, Below w.heap.size w w1 → Calls Tryz.prog 14 #[.pointer (some ⟨B, 0, none⟩)] w1 fun e w' => e = .returned (.int .i64 ((2 ^ (aheadL l).length : Nat) : Int)) ∧ w' = w1) := hcl
  obtain ⟨_, s0, s1, s2, s3, s4, s5, s6⟩ := id hS
  have hq64 : 2 ^ (aheadL l).length ≤ 64 := Nat.pow_le_pow_right (show 0 < 2 by decide) h6
  have HNil : Hid (begTo m ps l 0 = []) := rfl
  have HSt : Hid (∀ k, begTo m ps l (k + 1) = if tru l (letL m ps (begC m)) (k : Int) 0 = true then begTo m ps l k else begTo m ps l k ++ [(begC m, (k : Int))]) := fun k => rfl
  have HLen : Hid (∀ k, (begTo m ps l k).length ≤ k) := begTo_len m ps l
  unfold begL
  generalize begTo m ps l = bg at *
  generalize letL m ps (begC m) = lt at *
  generalize begC m = first at *
  generalize m.vars.length = vn at *
  generalize m.rules.length = rn at *
  generalize ps.length = pn at *
  generalize (aheadL l).length = an at *
  generalize 2 ^ an = N at *
  have HTru : Hid (∀ k : Nat, tru l lt (k : Int) 0 = true ∨ tru l lt (k : Int) 0 = false) := fun k => by cases tru l lt (k : Int) 0 <;> simp
  generalize hfn : l.length = fn at *
  clear hV hT hc hl0 hp0 hm0 hS hcl h6 hfn
  go_enter Tryz.func26, Tryz.ntmps26
  go_wp2_with (first | (go_at_call 52; refine hfi.mono ?_; rintro e w1 ⟨rfl, hb1⟩; obtain ⟨_, p0, p1, p2, p3, p4, p5, p6⟩ := HS.out w1 hb1; have hle := HLe.out _ hb1.drew))
  have HSB : Hid (∀ w2, Below w1.heap.size w1 w2 → w2.cell? ⟨B, 0, none⟩ = some (.slice ao vn ac) ∧ w2.cell? ⟨B, 1, none⟩ = some (.slice ro rn rc) ∧ w2.cell? ⟨B, 2, none⟩ = some (.slice po pn pc)) := fun w2 h => by
    obtain ⟨_, q0, q1, q2, _, _, _, _⟩ := HS.out w2 (hb1.trans (h.mono hb1.size))
    exact ⟨q0, q1, q2⟩
  have hB0 : Below w1.heap.size w1 w1 := Below.refl _ _
  have hBw := hB0.drew
  go_region_held3 (fun w' => w'.cell? ⟨B, 0, none⟩ = some (.slice ao vn ac) ∧ w'.cell? ⟨B, 1, none⟩ = some (.slice ro rn rc) ∧ w'.cell? ⟨B, 2, none⟩ = some (.slice po pn pc))
    (first | exact HSB.out _ hb12 | exact HSB.out _ hBw | exact HSB.out _ hB0)
    (first
      | (go_at_call 53; refine hle.mono ?_; rintro e w2 ⟨lo, lc, rfl, hb2, HLv⟩; have hb12 := hBw.trans (hb2.mono hBw.size)))
  have hw2 := hb1.trans (hb12.mono hb1.size)
  have hcl := HCl.out w2 hw2
  clear hle hfi HLe HSB p0 p1 p2 p3 p4 p5 p6 s0 s1 s2 s3 s4 s5 s6
  have HLet : Hid (∀ w3, Below w2.heap.size w2 w3 → BoolsV w3 (.slice lo pn lc) lt) := fun w3 h => HLv.out.below h
  go_wp2_with (first | (go_at_call 14; refine hcl.mono ?_; rintro e w3 ⟨rfl, rfl⟩))
  go_loopw [7, 43] (fun u i wr => ∃ k : Nat, k ≤ N ∧ i = .int .i64 k ∧ (∃ so sn sc, u = .slice so sn sc ∧ sn ≤ k ∧ Hid ((bg k).length = sn ∧ SpO wr w3.heap.size (.slice so sn sc) (bg k))) ∧ Below w3.heap.size w3 wr) (fun _ i _ => N - (intOf i).toNat)
  case atStart => exact ⟨0, Nat.zero_le _, rfl, ⟨none, 0, 0, rfl, Nat.le_refl _, by rw [HNil.out]; rfl, by rw [HNil.out]; exact SpO.nil _ _⟩, Below.refl _ _⟩
  case round =>
    obtain ⟨k, hk, rfl, ⟨so, sn, sc, rfl, hsn, HSp⟩, hbr3⟩ := hrel
    have hbr := hw2.trans (hbr3.mono hw2.size)
    have HBo := (show Hid _ from HLet.out wr hbr3)
    obtain ⟨_, p0, p1, p2, p3, p4, p5, p6⟩ := HS.out wr hbr
    by_cases hkN : k < N
    · have htr := HTr.out k _ wr hkN hbr HBo.out
      have hst := HSt.out k
      have HSk : Hid (∀ w4, Below wr.heap.size wr w4 → SpO w4 w3.heap.size (.slice so sn sc) (bg k)) := fun w4 h => HSp.out.2.later h (Nat.le_refl _)
      have HSl : Hid ((bg k).length = sn) := HSp.out.1
      rcases HTru.out k with ht | ht
      · rw [ht] at htr hst
        rw [if_pos rfl] at hst
        have HE : Hid (bg (k + 1) = bg k) := hst
        clear hst ht HBo HSp
        go_wp2_with (first | (go_at_call 54; refine htr.mono ?_; rintro e w4 ⟨b, off, c, rfl, hb4, d0⟩; have hbw4 := hbr3.trans (hb4.mono hbr3.size)))
        go_roundw
        case rel => exact ⟨k + 1, by omega, by go_num, ⟨so, sn, sc, rfl, by omega, by rw [HE.out]; exact HSl.out, by rw [HE.out]; exact HSk.out _ hb4⟩, hbw4⟩
        case measure => simp [intOf]; omega
      · rw [ht] at htr hst
        rw [if_neg (by simp)] at hst
        have HE : Hid (bg (k + 1) = bg k ++ [(first, (k : Int))]) := hst
        have hsz : w.heap.size ≤ wr.heap.size := hbr.size
        clear hst ht HBo HSp
        go_wp2_with (first | (go_at_call 54; refine htr.mono ?_; rintro e w4 ⟨b, off, c, rfl, hb4, d0⟩; have hbw4 := hbr3.trans (hb4.mono hbr3.size); have hsp := HSk.out _ hb4; have hs4 := hbw4.size) | (at_builtin; refine push_sp first (k : Int) rfl _ _ rfl w3.heap.size sn sc so (bg k) HSl.out rfl hsp rfl (by omega) hs4 ?_; intro vo5 cap5 w5 ho5 hb5 hg5; have HO5 : Hid (SpO w5 w3.heap.size (.slice vo5 (sn + 1) cap5) (bg k ++ [(first, (k : Int))])) := ho5; have hbw5 := hbw4.trans hb5; clear ho5 hg5 hsp))
        go_roundw
        case rel => exact ⟨k + 1, by omega, by go_num, ⟨vo5, sn + 1, cap5, rfl, by omega, by rw [HE.out, List.length_append, HSl.out]; rfl, by rw [HE.out]; exact HO5.out⟩, hbw5⟩
        case measure => simp [intOf]; omega
    · obtain rfl : k = N := by omega
      have HSl : Hid ((bg k).length = sn) := HSp.out.1
      have HSk : Hid (SpO wr w.heap.size (.slice so sn sc) (bg k)) := owns_mono HSp.out.2 hw2.size
      clear HSp HBo
      go_wp2_with fail
      go_ret2
      refine ⟨so, sc, by rw [HSl.out]; rfl, hbr, by rw [HSl.out]; exact HSk.out⟩

/-- what Begin answers. -/
noncomputable def begR (m : Mo) (ps : List (List (Int × Int))) (l : List (Int × Int)) : List (Int × Int) := by classical exact if tkcode m ps l = 0 then begL m ps l else []
theorem begR_ok {m : Mo} {ps : List (List (Int × Int))} {l : List (Int × Int)} (h : tkcode m ps l = 0) : begR m ps l = begL m ps l := by unfold begR; rw [if_pos h]
theorem begR_bad {m : Mo} {ps : List (List (Int × Int))} {l : List (Int × Int)} (h : tkcode m ps l ≠ 0) : begR m ps l = [] := by unfold begR; rw [if_neg h]
theorem begR_len (m : Mo) (ps : List (List (Int × Int))) (l : List (Int × Int)) : (begR m ps l).length ≤ 64 := by
  by_cases h : tkcode m ps l = 0
  · rw [begR_ok h]; exact begL_len h
  · rw [begR_bad h]; simp
def BegPost (w : World) (m : Mo) (ps : List (List (Int × Int))) (l : List (Int × Int)) (e : Ending) (w' : World) : Prop := ∃ so sc, e = .returned (.tuple #[.slice so (begR m ps l).length sc, .int .i64 (tkcode m ps l)]) ∧ Below w.heap.size w w' ∧ Hid (SpO w' w.heap.size (.slice so (begR m ps l).length sc) (begR m ps l))

end Go.Proofs.YtihmcoikgkacoaaGreatDoor

/-
  The library's slices.Sort and slices.Compact at lists of numbers: their contracts at this program, in plain words.
-/
namespace Go.Proofs.YtihmcoikgkacoaaGreatDoor
open Go.Shelf
def lays189_ren : Go.Shelf.Ren := ⟨fun | 189 => 103 | 125 => 123 | 257 => 122 | 128 => 144 | 129 => 145 | 294 => 135 | 295 => 136 | 296 => 137 | 297 => 138 | 298 => 139 | 299 => 140 | 216 => 141 | 300 => 142 | 301 => 143 | 328 => 147 | 329 => 148 | 330 => 149 | 331 => 150 | 332 => 151 | 215 => 152 | 343 => 153 | n => n, fun | 28 => 40 | 3 => 3 | 46 => 169 | 0 => 0 | 51 => 184 | 53 => 186 | 4 => 4 | 183 => 177 | 182 => 176 | 131 => 109 | 5 => 5 | 9 => 9 | 218 => 187 | 222 => 191 | 228 => 193 | 229 => 194 | n => n, fun | n => n⟩
theorem lays189 : Go.Proofs.Lays.n189 Tryz.prog lays189_ren := {
  mixed := by kernel_rfl
  f125 := Tryz.func123.trans (congrArg some (by kernel_rfl))
  f128 := Tryz.func144.trans (congrArg some (by kernel_rfl))
  f129 := Tryz.func145.trans (congrArg some (by kernel_rfl))
  f189 := Tryz.func103.trans (congrArg some (by kernel_rfl))
  f215 := Tryz.func152.trans (congrArg some (by kernel_rfl))
  f216 := Tryz.func141.trans (congrArg some (by kernel_rfl))
  f257 := Tryz.func122.trans (congrArg some (by kernel_rfl))
  f294 := Tryz.func135.trans (congrArg some (by kernel_rfl))
  f295 := Tryz.func136.trans (congrArg some (by kernel_rfl))
  f296 := Tryz.func137.trans (congrArg some (by kernel_rfl))
  f297 := Tryz.func138.trans (congrArg some (by kernel_rfl))
  f298 := Tryz.func139.trans (congrArg some (by kernel_rfl))
  f299 := Tryz.func140.trans (congrArg some (by kernel_rfl))
  f300 := Tryz.func142.trans (congrArg some (by kernel_rfl))
  f301 := Tryz.func143.trans (congrArg some (by kernel_rfl))
  f328 := Tryz.func147.trans (congrArg some (by kernel_rfl))
  f329 := Tryz.func148.trans (congrArg some (by kernel_rfl))
  f330 := Tryz.func149.trans (congrArg some (by kernel_rfl))
  f331 := Tryz.func150.trans (congrArg some (by kernel_rfl))
  f332 := Tryz.func151.trans (congrArg some (by kernel_rfl))
  f343 := Tryz.func153.trans (congrArg some (by kernel_rfl))
  t0 := Tryz.underlying0
  a0 := Tryz.isAgg0
  z0 := Tryz.sizeOf0
  v0 := Tryz.zeroValue0
  t3 := Tryz.underlying3
  a3 := Tryz.isAgg3
  z3 := Tryz.sizeOf3
  v3 := Tryz.zeroValue3
  t4 := Tryz.underlying4
  a4 := Tryz.isAgg4
  z4 := Tryz.sizeOf4
  v4 := Tryz.zeroValue4
  t5 := Tryz.underlying5
  a5 := Tryz.isAgg5
  z5 := Tryz.sizeOf5
  v5 := Tryz.zeroValue5
  t9 := Tryz.underlying9
  a9 := Tryz.isAgg9
  z9 := Tryz.sizeOf9
  v9 := Tryz.zeroValue9
  t28 := Tryz.underlying40
  a28 := Tryz.isAgg40
  z28 := Tryz.sizeOf40
  v28 := Tryz.zeroValue40
  t46 := Tryz.underlying169
  a46 := Tryz.isAgg169
  z46 := Tryz.sizeOf169
  v46 := Tryz.zeroValue169
  t51 := Tryz.underlying184
  a51 := Tryz.isAgg184
  z51 := Tryz.sizeOf184
  v51 := Tryz.zeroValue184
  t53 := Tryz.underlying186
  a53 := Tryz.isAgg186
  z53 := Tryz.sizeOf186
  v53 := Tryz.zeroValue186
  t131 := Tryz.underlying109
  a131 := Tryz.isAgg109
  z131 := Tryz.sizeOf109
  v131 := Tryz.zeroValue109
  t182 := Tryz.underlying176
  a182 := Tryz.isAgg176
  z182 := Tryz.sizeOf176
  v182 := Tryz.zeroValue176
  t183 := Tryz.underlying177
  a183 := Tryz.isAgg177
  z183 := Tryz.sizeOf177
  v183 := Tryz.zeroValue177
  t218 := Tryz.underlying187
  a218 := Tryz.isAgg187
  z218 := Tryz.sizeOf187
  v218 := Tryz.zeroValue187
  t222 := Tryz.underlying191
  a222 := Tryz.isAgg191
  z222 := Tryz.sizeOf191
  v222 := Tryz.zeroValue191
  t228 := Tryz.underlying193
  a228 := Tryz.isAgg193
  z228 := Tryz.sizeOf193
  v228 := Tryz.zeroValue193
  t229 := Tryz.underlying194
  a229 := Tryz.isAgg194
  z229 := Tryz.sizeOf194
  v229 := Tryz.zeroValue194 }
open Go.Sort Go.RowKit in
theorem slices_Sort_int (blk off cap : Nat) (zs : List Int) (w : World) (hH : Holds (Value.int .i64) w blk off zs.toArray) (hblk : blk < w.heap.size) (hsz : zs.length < 4611686018427387904) :
    Calls Tryz.prog 103 #[.slice (some ⟨blk, off, none⟩) zs.length cap] w fun e w' =>
      e = .returned (.tuple #[]) ∧ ∃ n os, w' = grow (putRow (Value.int .i64) (Sort.ahead w n) blk off (zs.mergeSort fun x y => decide (x ≤ y)).toArray) os := Any.slices_Sort_int lays189 blk off cap zs w hH hblk hsz
def laysNm220_ren : Go.Shelf.Ren := ⟨fun | 20 => 104 | n => n, fun | 22 => 40 | 3 => 3 | 4 => 4 | 0 => 0 | n => n, fun | n => n⟩
theorem laysNm220 : Go.Proofs.Lays2.n20 Tryz.prog laysNm220_ren := {
  mixed := by kernel_rfl
  f20 := Tryz.func104.trans (congrArg some (by kernel_rfl))
  t0 := Tryz.underlying0
  a0 := Tryz.isAgg0
  z0 := Tryz.sizeOf0
  v0 := Tryz.zeroValue0
  t3 := Tryz.underlying3
  a3 := Tryz.isAgg3
  z3 := Tryz.sizeOf3
  v3 := Tryz.zeroValue3
  t4 := Tryz.underlying4
  a4 := Tryz.isAgg4
  z4 := Tryz.sizeOf4
  v4 := Tryz.zeroValue4
  t22 := Tryz.underlying40
  a22 := Tryz.isAgg40
  z22 := Tryz.sizeOf40
  v22 := Tryz.zeroValue40
  i3 := by kernel_rfl }
open Go.RowKit Go.Lib Go.Sort in
theorem slices_Compact_int (blk off cap : Nat) (zs : List Int) (w : World) (hH : Holds (Value.int .i64) w blk off zs.toArray) (hsz : zs.length ≤ 9223372036854775807) (hcap : zs.length ≤ cap) :
    Calls Tryz.prog 104 #[.slice (some ⟨blk, off, none⟩) zs.length cap] w fun e w' => e = .returned (.slice (some ⟨blk, off, none⟩) (Lib.compact zs).length cap) ∧ ∃ q, w' = putRow (Value.int .i64) (Sort.ahead w q) blk off (Lib.compact zs ++ List.replicate (zs.length - (Lib.compact zs).length) 0).toArray := Any.slices_Compact_int laysNm220 blk off cap zs w hH hsz hcap
end Go.Proofs.YtihmcoikgkacoaaGreatDoor

/-
  The library's Sort and Compact of numbers that lie in a row of one's own; and what comes of them.
-/
namespace Go.Proofs.YtihmcoikgkacoaaGreatDoor
open Go.RowKit Go.Sort

def leB (x y : Int) : Bool := decide (x ≤ y)
/-- slices.Sort. -/
theorem sort_own (g cap base : Nat) (zs : List Int) (w : World) (hz : zs.length ≤ 100000) (ho : w.ownsRow base 3 1 (.slice (some ⟨g, 0, none⟩) zs.length cap) zs.length (ivals zs)) :
    Calls Tryz.prog 103 #[.slice (some ⟨g, 0, none⟩) zs.length cap] w fun e w' => e = .returned (.tuple #[]) ∧ w.grownBy w' (some g) ∧ w'.ownsRow base 3 1 (.slice (some ⟨g, 0, none⟩) zs.length cap) zs.length (ivals (zs.mergeSort leB)) := by
  have ho' : w.ownsRow base 3 1 (.slice (some ⟨g, 0, none⟩) zs.length cap) zs.length (zs.map (Value.int .i64)) := ho
  obtain ⟨g', cap', hv, hbg, hlt, hn, hm, hl, hH⟩ := Lib.holds_of_ownsRow ho' (by simp)
  injection hv with h1 h2 h3
  injection h1 with h1
  injection h1 with h1
  subst h1 h3
  rcases ho.2 with ⟨e0, _⟩ | ⟨g2, cap2, cur, e0, hb, hg, hnc, hcm, hcs, ht⟩
  · cases e0
  · injection e0 with e1 _ e3
    injection e1 with e1
    injection e1 with e1
    subst e1 e3
    refine (slices_Sort_int g 0 cap zs w hH hlt (by omega)).mono fun e w' ⟨he, n, os, hw⟩ => ⟨he, ?_, ?_⟩
    · rw [hw]; exact grownBy_sortedI _
    · rw [hw]; exact ownsRow_sortedI (ts := zs.mergeSort leB) (by simp) hbg hg hnc hcm hcs
/-- slices.Compact. -/
theorem compact_own (g cap base : Nat) (zs : List Int) (w : World) (hz : zs.length ≤ 100000) (ho : w.ownsRow base 3 1 (.slice (some ⟨g, 0, none⟩) zs.length cap) zs.length (ivals zs)) :
    Calls Tryz.prog 104 #[.slice (some ⟨g, 0, none⟩) zs.length cap] w fun e w' => e = .returned (.slice (some ⟨g, 0, none⟩) (Lib.compact zs).length cap) ∧ w.grownBy w' (some g) ∧ w'.ownsRow base 3 1 (.slice (some ⟨g, 0, none⟩) (Lib.compact zs).length cap) (Lib.compact zs).length (ivals (Lib.compact zs)) := by
  have ho' : w.ownsRow base 3 1 (.slice (some ⟨g, 0, none⟩) zs.length cap) zs.length (zs.map (Value.int .i64)) := ho
  obtain ⟨g', cap', hv, hbg, hlt, hn, hm, hl, hH⟩ := Lib.holds_of_ownsRow ho' (by simp)
  injection hv with h1 h2 h3
  injection h1 with h1
  injection h1 with h1
  subst h1 h3
  have hcl := Lib.compact_length_le zs
  refine (slices_Compact_int g 0 cap zs w hH (by omega) hn).mono fun e w' ⟨he, q, hw⟩ => ⟨he, ?_, ?_⟩
  · rw [hw]
    refine ⟨rfl, rfl, rfl, by simp [putRow, mapBlock, Sort.ahead], fun k _ hne => ?_⟩
    have : g ≠ k := fun e => hne (by rw [e])
    simp [putRow, mapBlock, Sort.ahead, Array.getElem?_modify, this]
  · rw [hw]
    have h := Lib.ownsRow_putRow (q := q) (k := (Lib.compact zs).length) (ys := Lib.compact zs ++ List.replicate (zs.length - (Lib.compact zs).length) 0) ho' (by simp; omega) hcl
    rw [List.take_left] at h
    exact h

/-! ### lists that rise -/

abbrev Rise (l : List Int) : Prop := l.Pairwise (· < ·)
theorem rise_eq : ∀ {l l' : List Int}, Rise l → Rise l' → (∀ x, x ∈ l ↔ x ∈ l') → l = l'
  | [], [], _, _, _ => rfl
  | [], y :: l', _, _, h => absurd ((h y).2 (by simp)) (by simp)
  | x :: l, [], _, _, h => absurd ((h x).1 (by simp)) (by simp)
  | x :: l, y :: l', h1, h2, h => by
    obtain ⟨hx, t1⟩ := List.pairwise_cons.1 h1
    obtain ⟨hy, t2⟩ := List.pairwise_cons.1 h2
    have e : x = y := by
      rcases List.mem_cons.1 ((h x).1 (by simp)) with e | e
      · exact e
      · rcases List.mem_cons.1 ((h y).2 (by simp)) with e' | e'
        · exact e'.symm
        · have := hx y e'; have := hy x e; omega
    subst e
    refine congrArg (x :: ·) (rise_eq t1 t2 fun z => ⟨fun hz => ?_, fun hz => ?_⟩)
    · rcases List.mem_cons.1 ((h z).1 (by simp [hz])) with e | e
      · subst e; have := hx z hz; omega
      · exact e
    · rcases List.mem_cons.1 ((h z).2 (by simp [hz])) with e | e
      · subst e; have := hy z hz; omega
      · exact e
theorem compact_step {d : Array Int} {n : Nat} (hs : ∀ i j, i ≤ j → j < n → d[i]! ≤ d[j]!) : ∀ m, m ≤ n → Rise (Lib.compactUpTo d m) ∧ ∀ x, x ∈ Lib.compactUpTo d m ↔ ∃ j, j < m ∧ d[j]! = x := by
  intro m
  induction m with
  | zero => intro _; exact ⟨by simp [Lib.compactUpTo], fun x => by simp [Lib.compactUpTo]⟩
  | succ m ih =>
    intro hm
    obtain ⟨h1, h2⟩ := ih (by omega)
    rw [Lib.compactUpTo_succ]
    by_cases hk : Lib.keeps d m = true
    · rw [if_pos hk]
      refine ⟨List.pairwise_append.2 ⟨h1, by simp, fun x hx y hy => ?_⟩, fun x => ?_⟩
      · simp at hy
        subst hy
        obtain ⟨j, hj, rfl⟩ := (h2 x).1 hx
        have h3 := hs j m (by omega) (by omega)
        have h4 := hs j (m - 1) (by omega) (by omega)
        have h5 := hs (m - 1) m (by omega) (by omega)
        have h6 : d[m]! ≠ d[m - 1]! := by
          have : m ≠ 0 := by omega
          simpa [Lib.keeps, this] using hk
        omega
      · simp only [List.mem_append, List.mem_singleton, h2]
        constructor
        · rintro (⟨j, hj, e⟩ | e)
          · exact ⟨j, by omega, e⟩
          · exact ⟨m, by omega, e.symm⟩
        · rintro ⟨j, hj, e⟩
          by_cases hjm : j = m
          · subst hjm; exact .inr e.symm
          · exact .inl ⟨j, by omega, e⟩
    · rw [if_neg hk, List.append_nil]
      refine ⟨h1, fun x => ?_⟩
      rw [h2]
      constructor
      · rintro ⟨j, hj, e⟩; exact ⟨j, by omega, e⟩
      · rintro ⟨j, hj, e⟩
        by_cases hjm : j = m
        · subst hjm
          have h7 : j ≠ 0 ∧ d[j]! = d[j - 1]! := by simpa [Lib.keeps] using hk
          exact ⟨j - 1, by omega, by rw [← h7.2]; exact e⟩
        · exact ⟨j, by omega, e⟩
/-- the numbers of a list, each once, rising. -/
def upL (l : List Int) : List Int := Lib.compact (l.mergeSort leB)
theorem upL_spec (l : List Int) : Rise (upL l) ∧ ∀ x, x ∈ upL l ↔ x ∈ l := by
  have hp : (l.mergeSort leB).Pairwise (fun x y => leB x y = true) := List.pairwise_mergeSort (le := leB) (by intro a b c; simp only [leB, decide_eq_true_eq]; omega) (by intro a b; simp only [leB, Bool.or_eq_true, decide_eq_true_eq]; omega) l
  have hs : ∀ i j, i ≤ j → j < (l.mergeSort leB).length → (l.mergeSort leB).toArray[i]! ≤ (l.mergeSort leB).toArray[j]! := fun i j hij hj => by
    rw [getElem!_pos _ i (by simpa using (by omega : i < (l.mergeSort leB).length)), getElem!_pos _ j (by simpa using hj)]
    rcases Nat.lt_or_eq_of_le hij with h | h
    · have := List.pairwise_iff_getElem.1 hp i j (by omega) hj h
      simpa [leB] using this
    · subst h; exact Int.le_refl _
  obtain ⟨h1, h2⟩ := compact_step hs (l.mergeSort leB).length (Nat.le_refl _)
  refine ⟨h1, fun x => ?_⟩
  show x ∈ Lib.compactUpTo _ _ ↔ _
  rw [h2, ← (List.mergeSort_perm l leB).mem_iff, List.mem_iff_getElem]
  constructor
  · rintro ⟨j, hj, e⟩
    exact ⟨j, hj, by rw [← e, getElem!_pos _ j (by simpa using hj)]; rfl⟩
  · rintro ⟨j, hj, e⟩
    exact ⟨j, hj, by rw [getElem!_pos _ j (by simpa using hj)]; exact e⟩
theorem upL_eq {l l' : List Int} (h : Rise l) (hm : ∀ x, x ∈ l ↔ x ∈ l') : l = upL l' := rise_eq h (upL_spec l').1 fun x => by rw [hm, (upL_spec l').2]
end Go.Proofs.YtihmcoikgkacoaaGreatDoor

/-
  Plain mathematics of what comes next.
-/
namespace Go.Proofs.YtihmcoikgkacoaaGreatDoor
open Terms Tm

/-- what comes behind the first so many rules. -/
noncomputable def rawTo (vars : List Vr) (env : List Int) (rules : List Ru) (k : Nat) : List Int := (rules.take k).filterMap (ruleDo vars env)
theorem rawTo_some {vars : List Vr} {env : List Int} {rules : List Ru} {k : Nat} (hk : k < rules.length) {x : Int} (h : ruleDo vars env (rules.getD k ru0) = some x) : rawTo vars env rules (k + 1) = rawTo vars env rules k ++ [x] := by
  unfold rawTo
  rw [List.take_succ_eq_append_getElem hk, List.filterMap_append, show rules[k] = rules.getD k ru0 by simp [List.getD_eq_getElem?_getD, hk]]
  generalize rules.getD k ru0 = r at h
  simp [h]
theorem rawTo_none {vars : List Vr} {env : List Int} {rules : List Ru} {k : Nat} (hk : k < rules.length) (h : ruleDo vars env (rules.getD k ru0) = none) : rawTo vars env rules (k + 1) = rawTo vars env rules k := by
  unfold rawTo
  rw [List.take_succ_eq_append_getElem hk, List.filterMap_append, show rules[k] = rules.getD k ru0 by simp [List.getD_eq_getElem?_getD, hk]]
  generalize rules.getD k ru0 = r at h
  simp [h]
theorem rawTo_length (vars : List Vr) (env : List Int) (rules : List Ru) (k : Nat) : (rawTo vars env rules k).length ≤ k := by
  unfold rawTo
  exact Nat.le_trans (List.length_filterMap_le _ _) (by simp; omega)
/-- what comes behind all rules, or the state itself. -/
noncomputable def rawL (m : Mo) (code : Int) : List Int := if rawTo m.vars (valsL m.vars code) m.rules m.rules.length = [] then [code] else rawTo m.vars (valsL m.vars code) m.rules m.rules.length
/-- the next states. -/
noncomputable def nextL (m : Mo) (code : Int) : List Int := upL (rawL m code)
/-- what Next answers. -/
noncomputable def nxtL (m : Mo) (code : Int) : List Int := if wcode m code = 0 then nextL m code else []
theorem rawTo_mem {vars : List Vr} {env : List Int} {rules : List Ru} {k : Nat} (hk : k ≤ rules.length) (x : Int) : x ∈ rawTo vars env rules k ↔ ∃ j, j < k ∧ ruleDo vars env (rules.getD j ru0) = some x := by
  unfold rawTo
  rw [List.mem_filterMap]
  constructor
  · rintro ⟨r, hr, e⟩
    obtain ⟨j, hj, rfl⟩ := List.mem_iff_getElem.1 hr
    rw [List.length_take] at hj
    refine ⟨j, by omega, ?_⟩
    rw [List.getElem_take] at e
    rw [show rules.getD j ru0 = rules[j]'(by omega) by simp [List.getD_eq_getElem?_getD, show j < rules.length by omega]]
    exact e
  · rintro ⟨j, hj, e⟩
    refine ⟨rules.getD j ru0, ?_, e⟩
    rw [List.mem_iff_getElem]
    exact ⟨j, by rw [List.length_take]; omega, by rw [List.getElem_take]; simp [List.getD_eq_getElem?_getD, show j < rules.length by omega]⟩
/-- a state behind a rule is a state. -/
theorem ruleDo_state {vars : List Vr} {env : List Int} {r : Ru} {x : Int} (hv : VarsOk vars) (h : ruleDo vars env r = some x) : 0 ≤ x ∧ x < prodTo vars vars.length := by
  unfold ruleDo at h
  split at h
  · rename_i hc
    injection h with h
    subst h
    exact code_bounds hv (Nat.le_refl _) hc.2.2
  · cases h
theorem upL_length (l : List Int) : (upL l).length ≤ l.length := Nat.le_trans (Lib.compact_length_le _) (by simp)
theorem nxtL_length (m : Mo) (code : Int) : (nxtL m code).length ≤ 1 + m.rules.length := by
  unfold nxtL nextL
  split
  · refine Nat.le_trans (upL_length _) ?_
    unfold rawL
    split
    · simp
    · exact Nat.le_trans (rawTo_length _ _ _ _) (by omega)
  · simp
end Go.Proofs.YtihmcoikgkacoaaGreatDoor

/-
  The contracts of step.nextOf and step.Next.
-/
namespace Go.Proofs.YtihmcoikgkacoaaGreatDoor
open Go.ChangeShapes Go.WideShapes Go.ChangeAt Go.RowKit Go.Deep
open Terms Tm

/-- numbers in a row of one's own, in a slice that is not nil. -/
def OwnI (base : Nat) (w : World) (v : Value) (l : List Int) : Prop := w.ownsRow base 3 1 v l.length (ivals l) ∧ v ≠ .slice none 0 0
theorem OwnI.form {base : Nat} {w : World} {v : Value} {l : List Int} (h : OwnI base w v l) : ∃ g cap, v = .slice (some ⟨g, 0, none⟩) l.length cap ∧ base ≤ g ∧ g < w.heap.size := by
  rcases h.1.2 with ⟨e0, _⟩ | ⟨g, cap, cur, rfl, hb, hg, _⟩
  · exact absurd e0 h.2
  · exact ⟨g, cap, rfl, hb, (Array.getElem?_eq_some_iff.1 hg).1⟩

set_option maxHeartbeats 3200000 in
set_option maxRecDepth 20000 in
/-- THE CONTRACT OF nextOf. -/
theorem nextOf_own (va vr : Value) (m : Mo) (code : Int) (w : World) (hB : 0 < w.heap.size) (hT : TabAt w) (hV : ModelV w va vr m) (hm : mcode m = 0) :
    Calls Tryz.prog 83 #[.agg #[va, vr], .int .i64 code] w fun e w' => ∃ v, e = .returned (.tuple #[v, .int .i64 (wcode m code)]) ∧ Below w.heap.size w w' ∧ IntsV w' v (nxtL m code) ∧ w'.ownsRow w.heap.size 3 1 v (nxtL m code).length (ivals (nxtL m code)) := by
  have hA : ∀ o, Below w.heap.size w (w.alloc o) := fun o => (Below.refl _ _).alloc (Nat.le_refl _) o
  have hVb : ∀ w', Below w.heap.size w w' → ∀ ao cap, va = .slice ao m.vars.length cap → ModelV w' (.slice ao m.vars.length cap) (.slice none 0 0) ⟨m.vars, []⟩ := fun w' hb ao cap e => ⟨e ▸ hV.1.below hb, ⟨none, 0, rfl, ⟨by simp, fun _ => ⟨rfl, rfl⟩⟩, fun h => by simp at h⟩⟩
  obtain ⟨ao, cap, rfl⟩ := hV.1.shape
  obtain ⟨ro, rc, hro⟩ := hV.2.shape
  have hba := fun w => bare_any ao ro m.vars.length cap m.rules.length rc w
  by_cases hw : wcode m code = 0
  · have hvl : ∀ w', Below w.heap.size w w' → Calls Tryz.prog 74 #[.agg #[.slice ao m.vars.length cap, .slice none 0 0], .int .i64 code] w' fun e w2 => ∃ B, e = .returned (.tuple #[.slice (some ⟨B, 0, none⟩) (valsL m.vars code).length (valsL m.vars code).length, .int .i64 0]) ∧ w'.heap.size ≤ B ∧ Below w'.heap.size w' w2 ∧ w2.rowIs B 3 (valsL m.vars code).length (fun j => .int .i64 ((valsL m.vars code).getD j 0)) := fun w' hb =>
      svalues_any _ _ ⟨m.vars, []⟩ code w' (Nat.lt_of_lt_of_le hB hb.size) (hT.below hb hB) (hVb w' hb ao cap rfl) (by rw [wcode_bare _ hm]; exact hw)
    obtain ⟨hr12, hrs⟩ := mcode_rules hm
    have HDo : Hid (∀ w' (_ : Below w.heap.size w w') B k gv sv, k < m.rules.length → w'.rowIs B 3 (valsL m.vars code).length (fun j => .int .i64 ((valsL m.vars code).getD j 0)) → OpsV w' gv (m.rules.getD k ru0).guard → SetsV w' sv (m.rules.getD k ru0).sets → Calls Tryz.prog 102 #[.agg #[.slice ao m.vars.length cap, vr], .slice (some ⟨B, 0, none⟩) (valsL m.vars code).length (valsL m.vars code).length, .agg #[gv, sv]] w' fun e w2 => e = .returned (.tuple #[.int .i64 (optN (ruleDo m.vars (valsL m.vars code) (m.rules.getD k ru0))), .int .i64 (optC (ruleDo m.vars (valsL m.vars code) (m.rules.getD k ru0)))]) ∧ Below w'.heap.size w' w2) := fun w' hb B k gv sv hk hrow hg hs =>
      doRule_any _ vr gv sv B m (valsL m.vars code) (m.rules.getD k ru0) w' (Nat.lt_of_lt_of_le hB hb.size) (hT.below hb hB) (hV.below hb) hm (hrs k hk) (valsL_length _ _) hrow hg hs
    have HR : Hid (RulesV w vr m.rules) := hV.2
    have HNL : Hid (nxtL m code = upL (if rawTo m.vars (valsL m.vars code) m.rules m.rules.length = [] then [code] else rawTo m.vars (valsL m.vars code) m.rules m.rules.length)) := by show _ = _; unfold nxtL nextL rawL; rw [if_pos hw]
    rw [hw]
    generalize nxtL m code = res at *
    generalize valsL m.vars code = env at *
    subst hro
    obtain ⟨rn, hrn⟩ : ∃ rn, rn = m.rules.length := ⟨_, rfl⟩
    have HRN : Hid (rn = m.rules.length) := hrn
    rw [← hrn] at hba HDo HR HNL hr12 ⊢
    obtain ⟨i0, hi, hz0, hz1, hz2⟩ := info_parts infoInt
    clear hV hT hVb hw hm hrs hrn
    generalize m.vars.length = n at *
    go_enter Tryz.func83, Tryz.ntmps83
    go_wp2_with (first | (go_at_call 75; refine (hba _).mono ?_; rintro e w1 ⟨rfl, hb1⟩; have hbw1 := (hA _).trans (hb1.mono (hA _).size); have k10 : w1.cell? ⟨w.heap.size, 0, none⟩ = some (.slice ao n cap) := (hb1.cell (p := ⟨w.heap.size, 0, none⟩) (by simp)).trans (by simp [go_sem]); have k11 : w1.cell? ⟨w.heap.size, 1, none⟩ = some (.slice ro rn rc) := (hb1.cell (p := ⟨w.heap.size, 1, none⟩) (by simp)).trans (by simp [go_sem]); have hs1 : w.heap.size < w1.heap.size := (by have := hb1.size; simp at this; omega)) | (go_at_call 74; refine (hvl _ hbw1).mono ?_; rintro e w2 ⟨B, rfl, hBl, hb2, hr2⟩; have k20 := (hb2.cell (p := ⟨w.heap.size, 0, none⟩) hs1).trans k10; have k21 := (hb2.cell (p := ⟨w.heap.size, 1, none⟩) hs1).trans k11; have hs2 := Nat.lt_of_lt_of_le hs1 hb2.size; have kA1 : ∀ o, (w2.alloc o).cell? ⟨w.heap.size, 1, none⟩ = some (.slice ro rn rc) := fun o => (((Below.refl w2.heap.size w2).alloc (Nat.le_refl _) o).cell (p := ⟨w.heap.size, 1, none⟩) hs2).trans k21))
    have hbw2 := hbw1.trans (hb2.mono hbw1.size)
    have hA2 : ∀ o, Below w2.heap.size w2 (w2.alloc o) := fun o => (Below.refl _ _).alloc (Nat.le_refl _) o
    have HRow : Hid (w2.rowIs B 3 env.length (fun j => .int .i64 (env.getD j 0))) := hr2
    have HB2 : Hid (Below w.heap.size w w2) := hbw2
    have HK2 : Hid (∀ w', Below w2.heap.size w2 w' → w'.cell? ⟨w.heap.size, 0, none⟩ = some (.slice ao n cap) ∧ w'.cell? ⟨w.heap.size, 1, none⟩ = some (.slice ro rn rc)) := fun w' hb => ⟨(hb.cell (p := ⟨w.heap.size, 0, none⟩) hs2).trans k20, (hb.cell (p := ⟨w.heap.size, 1, none⟩) hs2).trans k21⟩
    have HO0 : Hid (OwnI w2.heap.size (w2.alloc (.cells #[] 3)) (.slice (some ⟨w2.heap.size, 0, none⟩) 0 0) (rawTo m.vars env m.rules 0)) := ⟨World.ownsRow_lit w2 #[] 0 (Nat.le_refl _) (by decide) rfl, by simp⟩
    clear hvl hba hb1 hbw1 k10 k11 hs1 hb2 hr2 k20 k21 kA1 hbw2
    go_loopw [8, 27] (fun nx i wr => ∃ k : Nat, k ≤ rn ∧ i = .int .i64 k ∧ Hid (OwnI w2.heap.size wr nx (rawTo m.vars env m.rules k)) ∧ Hid (Below w2.heap.size w2 wr)) (fun _ i _ => rn - (intOf i).toNat)
    case atStart => exact ⟨0, Nat.zero_le _, rfl, HO0.out, hA2 _⟩
    case round =>
      obtain ⟨k, hk, rfl, HOwn, HBel⟩ := hrel
      have hbel := HBel.out
      have hbw := HB2.out.trans (hbel.mono HB2.out.size)
      obtain ⟨kr0, kr1⟩ := HK2.out wr hbel
      obtain ⟨g, gc, rfl, hg, hgl⟩ := HOwn.out.form
      have hown := HOwn.out.1
      by_cases hlt : k < rn
      · obtain ⟨b, off, rfl, hblt, hat⟩ := HR.out.at (i := k) (by rw [← HRN.out]; exact hlt)
        obtain ⟨⟨u, c0, hou⟩, u', c1, hsu⟩ := hat.below hbw hblt
        obtain ⟨uo, uc, rfl⟩ := hou.shape
        obtain ⟨so, sc, rfl⟩ := hsu.shape
        have hAr : ∀ o, Below wr.heap.size wr (wr.alloc o) := fun o => (Below.refl _ _).alloc (Nat.le_refl _) o
        have hkA0 : ∀ o, (wr.alloc o).cell? ⟨w.heap.size, 0, none⟩ = some (.slice ao n cap) := fun o => (HK2.out _ (hbel.trans ((hAr o).mono hbel.size))).1
        have hkA1 : ∀ o, (wr.alloc o).cell? ⟨w.heap.size, 1, none⟩ = some (.slice (some ⟨b, off, none⟩) rn rc) := fun o => (HK2.out _ (hbel.trans ((hAr o).mono hbel.size))).2
        have hdo := fun o => HDo.out (wr.alloc o) (hbw.trans ((hAr o).mono hbw.size)) B k _ _ hlt (row_later (row_later HRow.out hbel) (hAr o)) (hou.below (hAr o)) (hsu.below (hAr o))
        have HRl : Hid ((rawTo m.vars env m.rules k).length ≤ k) := rawTo_length _ _ _ _
        have hk' : k < m.rules.length := by rw [← HRN.out]; exact hlt
        generalize (m.rules.getD k ru0).guard.length = gl at *
        generalize (m.rules.getD k ru0).sets.length = sl at *
        obtain ⟨L, hL⟩ : ∃ L, L = (rawTo m.vars env m.rules k).length := ⟨_, rfl⟩
        have HL : Hid (L = (rawTo m.vars env m.rules k).length) := hL
        rw [← hL] at hown HRl ⊢
        cases hres : ruleDo m.vars env (m.rules.getD k ru0) with
        | none =>
          rw [hres] at hdo
          simp only [optN, optC] at hdo
          have HN : Hid (rawTo m.vars env m.rules (k + 1) = rawTo m.vars env m.rules k) := rawTo_none hk' hres
          have HW4 : Hid (∀ o w4, Below (wr.alloc o).heap.size (wr.alloc o) w4 → Below w2.heap.size w2 w4 ∧ OwnI w2.heap.size w4 (.slice (some ⟨g, 0, none⟩) L gc) (rawTo m.vars env m.rules k)) := fun o w4 hb => ⟨(hbel.alloc hbel.size o).trans (hb.mono (hbel.alloc hbel.size o).size), by
            refine ⟨?_, by simp⟩
            rw [← HL.out]
            exact owns_later (owns_later hown (hAr o) (Nat.le_refl _)) hb (Nat.le_refl _)⟩
          clear hat hou hsu HDo HR hres hk' hown hL
          go_wp2_with (go_at_call 102; refine (hdo _).mono ?_; rintro e w4 ⟨rfl, hb4⟩; obtain ⟨hb24, ho4⟩ := HW4.out _ w4 hb4)
          exact ⟨⟨k + 1, hlt, by first | rfl | simp, by rw [HN.out]; exact ho4, hb24⟩, by simp [intOf]; omega⟩
        | some x =>
          rw [hres] at hdo
          simp only [optN, optC] at hdo
          have HN : Hid (rawTo m.vars env m.rules (k + 1) = rawTo m.vars env m.rules k ++ [x]) := rawTo_some hk' hres
          have h63 : L + 1 ≤ maxLen := by have := HRl.out; unfold maxLen; omega
          have hkb : (L + 1) * 8 ≤ 140737488355328 := by have := HRl.out; omega
          clear hat hou hsu HDo HR hres hk' hL
          go_wp2_with (first | (go_at_call 102; refine (hdo _).mono ?_; rintro e w4 ⟨rfl, hb4⟩; have hb24 := (hbel.alloc hbel.size _).trans (hb4.mono (hbel.alloc hbel.size _).size); have hown4 := fun o => (owns_later (owns_later hown (hAr _) (Nat.le_refl _)) hb4 (Nat.le_refl _)).alloc o; have hbase : ∀ o, w2.heap.size ≤ (w4.alloc o).heap.size := (fun o => by have := hb24.size; simp; omega)) | (at_builtin; refine wpList_append_lies _ rfl (.tmp 40) (.tmp 42) 40 rfl w2.heap.size 3 i0 (.int .i64 0) 1 8 Tryz.underlying40 hi hz0 hz1 hz2 rfl (by decide) (.slice (some ⟨g, 0, none⟩) L gc) L _ rfl (hown4 _) ⟨w4.heap.size, 0, none⟩ 1 1 [.int .i64 x] rfl rfl (cell_one_new _ _ _) (by intro u hu; simp at hu; subst hu; rfl) (by decide) h63 hkb (hbase _) _ rfl ?_; intro g5 cp5 w5 hown5 hgrow5 hat5 hgl5))
          have hb25 : Below w2.heap.size w2 w5 := (hb24.alloc hb24.size _).grown hgrow5 (hbase _) (fun z hz => by have hgz : g = z := (by simpa [Value.ownBlock] using hz); rw [← hgz]; exact hg)
          have ho5 : OwnI w2.heap.size w5 (.slice (some ⟨g5, 0, none⟩) (L + 1) cp5) (rawTo m.vars env m.rules (k + 1)) := by
            refine ⟨?_, by simp⟩
            rw [HN.out, List.length_append, ← HL.out]
            rw [show ivals (rawTo m.vars env m.rules k ++ [x]) = ivals (rawTo m.vars env m.rules k) ++ [.int .i64 x] by simp [ivals]]
            exact hown5
          exact ⟨⟨k + 1, hlt, by first | rfl | simp, ho5, hb25⟩, by simp [intOf]; omega⟩
      · have hkn : k = rn := by omega
        subst hkn
        have HRl : Hid ((rawTo m.vars env m.rules k).length ≤ k) := rawTo_length _ _ _ _
        generalize rawTo m.vars env m.rules k = raw at *
        clear HDo HR HOwn kr0 kr1 hlt hk
        by_cases hraw : raw = []
        · have HRes : Hid (res = upL [code]) := by show _ = _; rw [HNL.out, if_pos hraw]
          subst hraw
          have hown0 : wr.ownsRow w2.heap.size 3 1 (.slice (some ⟨g, 0, none⟩) 0 gc) 0 [] := hown
          have hown4 := fun o => hown0.alloc o
          have hbase : ∀ o, w2.heap.size ≤ (wr.alloc o).heap.size := fun o => by have := hbel.size; simp; omega
          have hAr : ∀ o, Below wr.heap.size wr (wr.alloc o) := fun o => (Below.refl _ _).alloc (Nat.le_refl _) o
          clear hown HNL HRl
          simp only [List.length_nil]
          have hso := fun (w5 : World) g5 cp5 (ho : w5.ownsRow w2.heap.size 3 1 (.slice (some ⟨g5, 0, none⟩) 1 cp5) 1 (ivals [code])) => sort_own g5 cp5 w2.heap.size [code] w5 (by simp) ho
          have hms : [code].mergeSort leB = [code] := List.mergeSort_singleton _
          have HUp : Hid (Lib.compact [code] = upL [code]) := by show _ = Lib.compact _; rw [hms]
          rw [hms] at hso
          simp only [List.length_cons, List.length_nil, Nat.zero_add] at hso
          have hco := fun (w5 : World) g5 cp5 (ho : w5.ownsRow w2.heap.size 3 1 (.slice (some ⟨g5, 0, none⟩) 1 cp5) 1 (ivals [code])) => compact_own g5 cp5 w2.heap.size [code] w5 (by simp) ho
          simp only [List.length_cons, List.length_nil, Nat.zero_add] at hco
          rw [HUp.out] at hco
          go_wp2_with (first | (at_builtin; refine wpList_append_lies _ rfl (.tmp 48) (.tmp 50) 40 rfl w2.heap.size 3 i0 (.int .i64 0) 1 8 Tryz.underlying40 hi hz0 hz1 hz2 rfl (by decide) (.slice (some ⟨g, 0, none⟩) 0 gc) 0 _ rfl (hown4 _) ⟨wr.heap.size, 0, none⟩ 1 1 [.int .i64 code] rfl rfl (cell_one_new _ _ _) (by intro u hu; simp at hu; subst hu; rfl) (by decide) (by decide) (by decide) (hbase _) _ rfl ?_; intro g5 cp5 w5 hown5 hgrow5 hat5 hgl5; have hg5 : w2.heap.size ≤ g5 := (by rcases hat5 with h5 | h5; (have hgz : g = g5 := (by simpa [Value.ownBlock] using h5)); (rw [← hgz]; exact hg); (rw [h5]; exact hbase _))) | (go_at_call 103; refine (hso _ _ _ hown5).mono ?_; rintro e w6 ⟨rfl, hgr6, ho6⟩) | (go_at_call 104; refine (hco _ _ _ ho6).mono ?_; rintro e w7 ⟨rfl, hgr7, ho7⟩))
          have hb5 : Below w2.heap.size w2 w5 := (hbel.alloc hbel.size _).grown hgrow5 (hbase _) (fun z hz => by have hgz : g = z := (by simpa [Value.ownBlock] using hz); rw [← hgz]; exact hg)
          have hb7 : Below w2.heap.size w2 w7 := (hb5.grown hgr6 hb5.size (fun z hz => by rw [← Option.some.inj hz]; exact hg5)).grown hgr7 (Nat.le_trans hb5.size hgr6.size) (fun z hz => by rw [← Option.some.inj hz]; exact hg5)
          have hI7 : IntsV w7 (.slice (some ⟨g5, 0, none⟩) (upL [code]).length cp5) (upL [code]) := intsV_of_owns ho7
          go_ret2
          exact ⟨_, rfl, HB2.out.trans (hb7.mono HB2.out.size), by rw [HRes.out]; exact ⟨hI7, owns_mono ho7 HB2.out.size⟩⟩
        · have HRes : Hid (res = upL raw) := by show _ = _; rw [HNL.out, if_neg hraw]
          have hpos : 0 < raw.length := List.length_pos_iff.2 hraw
          have hso := sort_own g gc w2.heap.size raw wr (by have := HRl.out; omega) hown
          obtain ⟨L, hL⟩ : ∃ L, L = raw.length := ⟨_, rfl⟩
          have HL : Hid (L = raw.length) := hL
          have HLs : Hid ((raw.mergeSort leB).length = L) := by show _ = _; rw [List.length_mergeSort, hL]
          have hL12 : L ≤ 12 := by have := HRl.out; omega
          rw [← hL] at hso hpos ⊢
          clear hown HNL HRl hraw hL
          have HCo : Hid (∀ w5 : World, w5.ownsRow w2.heap.size 3 1 (.slice (some ⟨g, 0, none⟩) L gc) L (ivals (raw.mergeSort leB)) → Calls Tryz.prog 104 #[.slice (some ⟨g, 0, none⟩) L gc] w5 fun e w' => e = .returned (.slice (some ⟨g, 0, none⟩) (upL raw).length gc) ∧ w5.grownBy w' (some g) ∧ w'.ownsRow w2.heap.size 3 1 (.slice (some ⟨g, 0, none⟩) (upL raw).length gc) (upL raw).length (ivals (upL raw))) := fun w5 ho => by
            rw [← HLs.out] at ho ⊢
            exact compact_own g gc w2.heap.size (raw.mergeSort leB) w5 (by rw [HLs.out]; omega) ho
          go_wp2_with (first | (go_at_call 103; refine hso.mono ?_; rintro e w6 ⟨rfl, hgr6, ho6⟩; have hco := HCo.out w6 ho6) | (go_at_call 104; refine hco.mono ?_; rintro e w7 ⟨rfl, hgr7, ho7⟩))
          have hb7 : Below w2.heap.size w2 w7 := (hbel.grown hgr6 hbel.size (fun z hz => by rw [← Option.some.inj hz]; exact hg)).grown hgr7 (Nat.le_trans hbel.size hgr6.size) (fun z hz => by rw [← Option.some.inj hz]; exact hg)
          have hI7 : IntsV w7 (.slice (some ⟨g, 0, none⟩) (upL raw).length gc) (upL raw) := intsV_of_owns ho7
          go_ret2
          exact ⟨_, rfl, HB2.out.trans (hb7.mono HB2.out.size), by rw [HRes.out]; exact ⟨hI7, owns_mono ho7 HB2.out.size⟩⟩
  · have hvl := fun w' (hb : Below w.heap.size w w') => mvalues_any _ _ ⟨m.vars, []⟩ code w' (Nat.lt_of_lt_of_le hB hb.size) (hT.below hb hB) (hVb w' hb ao cap rfl)
    rw [wcode_bare _ hm] at hvl
    have hnl : nxtL m code = [] := by unfold nxtL; rw [if_neg hw]
    rw [hnl]
    subst hro
    generalize wcode m code = c at *
    generalize wvals ⟨m.vars, []⟩ code = vs at *
    generalize m.vars.length = n at *
    generalize m.rules.length = rn at *
    clear hV hT hVb hnl hm
    go_enter Tryz.func83, Tryz.ntmps83
    go_wp2_with (first | (go_at_call 75; refine (hba _).mono ?_; rintro e w2 ⟨rfl, hb2⟩; have hbw2 := (hA _).trans (hb2.mono (hA _).size)) | (go_at_call 74; refine (hvl _ hbw2).mono ?_; rintro e w3 ⟨v, rfl, hb3, _⟩))
    go_ret2
    exact ⟨_, rfl, hbw2.trans (hb3.mono hbw2.size), ⟨none, 0, rfl, fun h => absurd rfl h⟩, World.ownsRow_nil _ _ _ _⟩

theorem nextOf_any (va vr : Value) (m : Mo) (code : Int) (w : World) (hB : 0 < w.heap.size) (hT : TabAt w) (hV : ModelV w va vr m) (hm : mcode m = 0) :
    Calls Tryz.prog 83 #[.agg #[va, vr], .int .i64 code] w fun e w' => ∃ v, e = .returned (.tuple #[v, .int .i64 (wcode m code)]) ∧ Below w.heap.size w w' ∧ IntsV w' v (nxtL m code) :=
  (nextOf_own va vr m code w hB hT hV hm).mono fun _ _ ⟨v, h1, h2, h3, _⟩ => ⟨v, h1, h2, h3⟩

set_option maxHeartbeats 1600000 in
set_option maxRecDepth 20000 in
/-- THE CONTRACT OF Next. -/
theorem next_any (va vr : Value) (m : Mo) (code : Int) (w : World) (hB : 0 < w.heap.size) (hT : TabAt w) (hV : ModelV w va vr m) :
    Calls Tryz.prog 60 #[.agg #[va, vr], .int .i64 code] w fun e w' => ∃ v, e = .returned (.tuple #[v, .int .i64 (wcode m code)]) ∧ Below w.heap.size w w' ∧ IntsV w' v (nxtL m code) := by
  have hA : ∀ o, Below w.heap.size w (w.alloc o) := fun o => (Below.refl _ _).alloc (Nat.le_refl _) o
  have hch := fun o => mcheck_any va vr m (w.alloc o) (Nat.lt_of_lt_of_le hB (hA o).size) (hT.below (hA o) hB) (hV.below (hA o))
  by_cases hm : mcode m = 0
  · have hne := fun w' (hb : Below w.heap.size w w') => nextOf_any va vr m code w' (Nat.lt_of_lt_of_le hB hb.size) (hT.below hb hB) (hV.below hb) hm
    rw [hm] at hch
    obtain ⟨ao, cap, rfl⟩ := hV.1.shape
    obtain ⟨ro, rc, rfl⟩ := hV.2.shape
    generalize wcode m code = c at *
    generalize nxtL m code = res at *
    generalize m.vars.length = n at *
    generalize m.rules.length = rn at *
    clear hV hT hm
    go_enter Tryz.func60, Tryz.ntmps60
    go_wp2_with (first | (go_at_call 72; refine (hch _).mono ?_; rintro e w1 ⟨rfl, hb1⟩; have hbw1 := (hA _).trans (hb1.mono (hA _).size); have k10 : w1.cell? ⟨w.heap.size, 0, none⟩ = some (.slice ao n cap) := (hb1.cell (p := ⟨w.heap.size, 0, none⟩) (by simp)).trans (by simp [go_sem]); have k11 : w1.cell? ⟨w.heap.size, 1, none⟩ = some (.slice ro rn rc) := (hb1.cell (p := ⟨w.heap.size, 1, none⟩) (by simp)).trans (by simp [go_sem])) | (go_at_call 83; refine (hne _ hbw1).mono ?_; rintro e w2 ⟨v, rfl, hb2, hI2⟩))
    go_ret2
    exact ⟨_, rfl, hbw1.trans (hb2.mono hbw1.size), hI2⟩
  · have hw : wcode m code = mcode m := wcode_bad hm
    have hnl : nxtL m code = [] := by unfold nxtL; rw [if_neg (by rw [hw]; exact hm)]
    rw [hw, hnl]
    obtain ⟨ao, cap, rfl⟩ := hV.1.shape
    obtain ⟨ro, rc, rfl⟩ := hV.2.shape
    generalize mcode m = c at *
    generalize m.vars.length = n at *
    generalize m.rules.length = rn at *
    clear hV hT hw hnl
    go_enter Tryz.func60, Tryz.ntmps60
    go_wp2_with (go_at_call 72; refine (hch _).mono ?_; rintro e w1 ⟨rfl, hb1⟩)
    go_ret2
    exact ⟨_, rfl, (hA _).trans (hb1.mono (hA _).size), none, 0, rfl, fun h => absurd rfl h⟩
end Go.Proofs.YtihmcoikgkacoaaGreatDoor

/-
  step.Next hands its row as the caller's own.
-/
namespace Go.Proofs.YtihmcoikgkacoaaGreatDoor
open Go.ChangeShapes Go.WideShapes Go.ChangeAt Go.RowKit Go.Deep
open Terms Tm

set_option maxHeartbeats 1600000 in
set_option maxRecDepth 20000 in
/-- Next's list lies in memory of its own. -/
theorem next_own (va vr : Value) (m : Mo) (code : Int) (w : World) (hB : 0 < w.heap.size) (hT : TabAt w) (hV : ModelV w va vr m) (hm : mcode m = 0) :
    Calls Tryz.prog 60 #[.agg #[va, vr], .int .i64 code] w fun e w' => ∃ v, e = .returned (.tuple #[v, .int .i64 (wcode m code)]) ∧ Below w.heap.size w w' ∧ w'.ownsRow w.heap.size 3 1 v (nxtL m code).length (ivals (nxtL m code)) := by
  have hA : ∀ o, Below w.heap.size w (w.alloc o) := fun o => (Below.refl _ _).alloc (Nat.le_refl _) o
  have hch := fun o => mcheck_any va vr m (w.alloc o) (Nat.lt_of_lt_of_le hB (hA o).size) (hT.below (hA o) hB) (hV.below (hA o))
  have hne := fun w' (hb : Below w.heap.size w w') => nextOf_own va vr m code w' (Nat.lt_of_lt_of_le hB hb.size) (hT.below hb hB) (hV.below hb) hm
  rw [hm] at hch
  obtain ⟨ao, cap, rfl⟩ := hV.1.shape
  obtain ⟨ro, rc, rfl⟩ := hV.2.shape
  generalize wcode m code = c at *
  generalize nxtL m code = res at *
  generalize m.vars.length = n at *
  generalize m.rules.length = rn at *
  clear hV hT hm
  go_enter Tryz.func60, Tryz.ntmps60
  go_wp2_with (first | (go_at_call 72; refine (hch _).mono ?_; rintro e w1 ⟨rfl, hb1⟩; have hbw1 := (hA _).trans (hb1.mono (hA _).size); have k10 : w1.cell? ⟨w.heap.size, 0, none⟩ = some (.slice ao n cap) := (hb1.cell (p := ⟨w.heap.size, 0, none⟩) (by simp)).trans (by simp [go_sem]); have k11 : w1.cell? ⟨w.heap.size, 1, none⟩ = some (.slice ro rn rc) := (hb1.cell (p := ⟨w.heap.size, 1, none⟩) (by simp)).trans (by simp [go_sem])) | (go_at_call 83; refine (hne _ hbw1).mono ?_; rintro e w2 ⟨v, rfl, hb2, hI2, ho2⟩))
  go_ret2
  exact ⟨_, rfl, hbw1.trans (hb2.mono hbw1.size), owns_mono ho2 hbw1.size⟩
end Go.Proofs.YtihmcoikgkacoaaGreatDoor

/-
  States as a survey keeps them; a survey as it lies, with its two maps.
-/
namespace Go.Proofs.YtihmcoikgkacoaaGreatDoor
open Go.ChangeShapes Go.WideShapes Go.ChangeAt Go.RowKit Go.Deep Go.Maps
open Terms Tm
variable {Pz : Nat → Prop}

/-- the signs of a state, by claims. -/
noncomputable def sgAt (l : List (Int × Int)) (lt : List Bool) (c : Nat) : Int := signN l (tru l lt (c : Int))
noncomputable def sgL (l : List (Int × Int)) (lt : List Bool) : List Int := (List.range (2 ^ (aheadL l).length)).map fun (c : Nat) => sgAt l lt c
theorem sgL_len (l : List (Int × Int)) (lt : List Bool) : (sgL l lt).length = 2 ^ (aheadL l).length := by simp [sgL]
theorem sgL_at {l : List (Int × Int)} {lt : List Bool} {c : Nat} (h : c < 2 ^ (aheadL l).length) : (sgL l lt).getD c 0 = sgAt l lt c := by simp [sgL, List.getD_eq_getElem?_getD, h]
theorem BoolsV.sk {bs bl : Nat} {w w' : World} {v : Value} {x : List Bool} (h : BoolsV w v x) (hs : Sk bs bl w w') (hm : TwoMaps w bs bl) : BoolsV w' v x := by
  obtain ⟨ao, cap, rfl, h⟩ := h
  refine ⟨ao, cap, rfl, fun hne => ?_⟩
  obtain ⟨b, off, rfl, hlt, hat⟩ := h hne
  exact ⟨b, off, rfl, Nat.lt_of_lt_of_le hlt hs.size, fun i hi => hs.cell hm (hat i hi)⟩
theorem IntsV.sk {bs bl : Nat} {w w' : World} {v : Value} {x : List Int} (h : IntsV w v x) (hs : Sk bs bl w w') (hm : TwoMaps w bs bl) : IntsV w' v x := by
  obtain ⟨ao, cap, rfl, h⟩ := h
  refine ⟨ao, cap, rfl, fun hne => ?_⟩
  obtain ⟨b, off, rfl, hlt, hat⟩ := h hne
  exact ⟨b, off, rfl, Nat.lt_of_lt_of_le hlt hs.size, fun i hi => hs.cell hm (hat i hi)⟩
theorem SurvAt.sk {bs bl : Nat} {w w' : World} {B : Nat} {va vr pv fv av : Value} (h : SurvAt w B va vr pv fv av bs bl) (hs : Sk bs bl w w') (hm : TwoMaps w bs bl) : SurvAt w' B va vr pv fv av bs bl :=
  ⟨Nat.lt_of_lt_of_le h.lt hs.size, hs.cell hm h.c0, hs.cell hm h.c1, hs.cell hm h.c2, hs.cell hm h.c3, hs.cell hm h.c4, hs.cell hm h.c5, hs.cell hm h.c6⟩
theorem SpO.sk {bs bl : Nat} {w w' : World} {base : Nat} {v : Value} {x : List (Int × Int)} (h : SpO w base v x) (hs : Sk bs bl w w') (hm : TwoMaps w bs bl) : SpO w' base v x := by
  refine ⟨h.1, ?_⟩
  rcases h.2 with h0 | ⟨g, cap, cur, h1, h2, h3, h4⟩
  · exact .inl h0
  · refine .inr ⟨g, cap, cur, h1, h2, ?_, h4⟩
    obtain ⟨⟨es, c, e1⟩, ⟨es', c', e2⟩⟩ := hm
    rw [hs.block g (Array.getElem?_eq_some_iff.1 h3).1 (fun e => by subst e; rw [e1] at h3; simp at h3) (fun e => by subst e; rw [e2] at h3; simp at h3)]
    exact h3
theorem RowTy.sk {bs bl : Nat} {w w' : World} {v : Value} {t : TypeId} (h : RowTy w v t) (hs : Sk bs bl w w') (hm : TwoMaps w bs bl) : RowTy w' v t := by
  intro a n c e
  obtain ⟨cs, fr, h1⟩ := h a n c e
  obtain ⟨⟨es, cl, e1⟩, ⟨es', cl', e2⟩⟩ := hm
  refine ⟨cs, fr, ?_⟩
  rw [hs.block a.block (Array.getElem?_eq_some_iff.1 h1).1 (fun e => by rw [e, e1] at h1; simp at h1) (fun e => by rw [e, e2] at h1; simp at h1)]
  exact h1
theorem RowTy.below {w w' : World} {v : Value} {t : TypeId} (h : RowTy w v t) (hb : Below w.heap.size w w') : RowTy w' v t := by
  intro a n c e
  obtain ⟨cs, fr, h1⟩ := h a n c e
  exact ⟨cs, fr, (hb.block _ (Array.getElem?_eq_some_iff.1 h1).1).trans h1⟩
theorem RowTy.setCell {w : World} {v : Value} {t : TypeId} (h : RowTy w v t) (b i : Nat) (u : Value) : RowTy (w.setCell ⟨b, i, none⟩ u) v t := by
  intro a n c e
  obtain ⟨cs, fr, h1⟩ := h a n c e
  by_cases hp : a.block = b
  · refine ⟨cs.setIfInBounds i u, fr, ?_⟩
    simp [World.setCell, Array.getElem?_modify, ← hp, h1]
  · exact ⟨cs, fr, (RowKit.Below.heap_setCell _ _ _ _ hp).trans h1⟩
theorem RowTy.grown {w w' : World} {v : Value} {t t' : TypeId} {own : Option Nat} (h : RowTy w v t) (hg : w.grownBy w' own) (ht : t ≠ t') (ho : ∀ g, own = some g → ∃ cs fr, w.heap[g]? = some (.cells cs t' fr)) : RowTy w' v t := by
  intro a n c e
  obtain ⟨cs, fr, h1⟩ := h a n c e
  refine ⟨cs, fr, (hg.block _ (Array.getElem?_eq_some_iff.1 h1).1 (fun e2 => ?_)).trans h1⟩
  obtain ⟨cs', fr', h2⟩ := ho _ e2.symm
  rw [h1] at h2
  injection h2 with h2
  injection h2 with _ h3 _
  exact ht h3
theorem RowTy.owns {w : World} {base n : Nat} {v : Value} {t : TypeId} {s : Nat} {xs : List Value} (h : w.ownsRow base t s v n xs) : RowTy w v t := by
  intro a k c e
  rcases h.2 with ⟨h0, _⟩ | ⟨g, cap, cur, h1, _, h3, _⟩
  · rw [h0] at e; simp at e
  · rw [h1] at e
    injection e with e _ _
    injection e with e
    subst e
    exact ⟨cur, _, h3⟩
theorem BoolsV.grown {w w' : World} {v : Value} {x : List Bool} {own : Option Nat} (h : BoolsV w v x) (hty : RowTy w v 4) (hg : w.grownBy w' own) (ho : ∀ g, own = some g → ∃ cs fr, w.heap[g]? = some (.cells cs 31 fr)) : BoolsV w' v x := by
  obtain ⟨ao, cap, rfl, h⟩ := h
  refine ⟨ao, cap, rfl, fun hne => ?_⟩
  obtain ⟨b, off, rfl, hlt, hat⟩ := h hne
  refine ⟨b, off, rfl, Nat.lt_of_lt_of_le hlt hg.size, fun i hi => ?_⟩
  obtain ⟨cs, fr, h1⟩ := hty _ _ _ rfl
  rw [World.cell?_of_block (hg.block b hlt (fun e2 => by
    obtain ⟨cs', fr', h2⟩ := ho _ e2.symm
    rw [h1] at h2
    injection h2 with h2
    injection h2 with _ h3 _
    exact absurd h3 (by decide)))]
  exact hat i hi
theorem IntsV.grown {w w' : World} {v : Value} {x : List Int} {own : Option Nat} (h : IntsV w v x) (hty : RowTy w v 3) (hg : w.grownBy w' own) (ho : ∀ g, own = some g → ∃ cs fr, w.heap[g]? = some (.cells cs 31 fr)) : IntsV w' v x := by
  obtain ⟨ao, cap, rfl, h⟩ := h
  refine ⟨ao, cap, rfl, fun hne => ?_⟩
  obtain ⟨b, off, rfl, hlt, hat⟩ := h hne
  refine ⟨b, off, rfl, Nat.lt_of_lt_of_le hlt hg.size, fun i hi => ?_⟩
  obtain ⟨cs, fr, h1⟩ := hty _ _ _ rfl
  rw [World.cell?_of_block (hg.block b hlt (fun e2 => by
    obtain ⟨cs', fr', h2⟩ := ho _ e2.symm
    rw [h1] at h2
    injection h2 with h2
    injection h2 with _ h3 _
    exact absurd h3 (by decide)))]
  exact hat i hi
/-- a state as it is kept. -/
def StOk (Pz : Nat → Prop) (w : World) (m : Mo) (ps : List (List (Int × Int))) (l : List (Int × Int)) (code : Int) (v : Value) : Prop :=
  ∃ lo lc no nc so sc, v = .agg #[.slice lo ps.length lc, .slice no (nextL m code).length nc, .slice so (2 ^ (aheadL l).length) sc] ∧ BoolsV w (.slice lo ps.length lc) (letL m ps code) ∧ IntsV w (.slice no (nextL m code).length nc) (nextL m code) ∧ IntsV w (.slice so (2 ^ (aheadL l).length) sc) (sgL l (letL m ps code)) ∧ RowTy w (.slice lo ps.length lc) 4 ∧ RowTy w (.slice no (nextL m code).length nc) 3 ∧ RowTy w (.slice so (2 ^ (aheadL l).length) sc) 3 ∧ (∀ a, no = some a → Pz a.block) ∧ (∀ a, so = some a → Pz a.block)
theorem StOk.sk {bs bl : Nat} {w w' : World} {m : Mo} {ps : List (List (Int × Int))} {l : List (Int × Int)} {code : Int} {v : Value} (h : StOk Pz w m ps l code v) (hs : Sk bs bl w w') (hm : TwoMaps w bs bl) : StOk Pz w' m ps l code v := by
  obtain ⟨lo, lc, no, nc, so, sc, h1, h2, h3, h4, h5, h6, h7, h8⟩ := h
  exact ⟨lo, lc, no, nc, so, sc, h1, h2.sk hs hm, h3.sk hs hm, h4.sk hs hm, h5.sk hs hm, h6.sk hs hm, h7.sk hs hm, h8⟩
theorem StOk.below {w w' : World} {m : Mo} {ps : List (List (Int × Int))} {l : List (Int × Int)} {code : Int} {v : Value} (h : StOk Pz w m ps l code v) (hb : Below w.heap.size w w') : StOk Pz w' m ps l code v := by
  obtain ⟨lo, lc, no, nc, so, sc, h1, h2, h3, h4, h5, h6, h7, h8⟩ := h
  exact ⟨lo, lc, no, nc, so, sc, h1, h2.below hb, h3.below hb, h4.below hb, h5.below hb, h6.below hb, h7.below hb, h8⟩
theorem StOk.grown {w w' : World} {m : Mo} {ps : List (List (Int × Int))} {l : List (Int × Int)} {code : Int} {v : Value} {own : Option Nat} (h : StOk Pz w m ps l code v) (hg : w.grownBy w' own) (ho : ∀ g, own = some g → ∃ cs fr, w.heap[g]? = some (.cells cs 31 fr)) : StOk Pz w' m ps l code v := by
  obtain ⟨lo, lc, no, nc, so, sc, h1, h2, h3, h4, h5, h6, h7, h8⟩ := h
  exact ⟨lo, lc, no, nc, so, sc, h1, h2.grown h5 hg ho, h3.grown h6 hg ho, h4.grown h7 hg ho, h5.grown hg (by decide) ho, h6.grown hg (by decide) ho, h7.grown hg (by decide) ho, h8⟩
/-- a letter as an array of six. -/
def six (x : List Bool) : List Bool := x ++ List.replicate (6 - x.length) false
/-- a link as a value. -/
def linkV (x : List Bool) (c sg : Int) : Value := .agg ((six x).map Value.bool ++ [Value.int .i64 c, Value.int .i64 sg]).toArray
theorem linkV_inj {x y : List Bool} {c d s t : Int} (hl : x.length = y.length) (h : linkV x c s = linkV y d t) : x = y ∧ c = d ∧ s = t := by
  unfold linkV at h
  injection h with h
  have h1 := congrArg Array.toList h
  have hs : ((six x).map Value.bool).length = ((six y).map Value.bool).length := by simp [six, hl]
  obtain ⟨h2, h3⟩ := List.append_inj h1 hs
  have h4 : six x = six y := by
    have := List.map_inj_right (f := Value.bool) (fun a b hab => by injection hab) |>.1 h2
    exact this
  unfold six at h4
  have h5 := (List.append_inj h4 hl).1
  simp at h3
  exact ⟨h5, h3.1, h3.2⟩
/-- a link as it is kept: whatever has that sign follows just if it says so. -/
def LinkOk (ps : List (List (Int × Int))) (l : List (Int × Int)) (kl : Lit) (v : Value) : Prop :=
  ∃ (x : List Bool) (c sg : Int) (b : Bool), x.length = ps.length ∧ keyOf Tryz.prog 121 (linkV x c sg) = some kl ∧ v = .agg #[.bool b] ∧ ∀ (y : List Bool) (d : Int), y.length = ps.length → tcode l y d = 0 → signN l (tru l y d) = sg → folR l x c y d = b
/-- a survey as it lies, with its two maps. -/
structure SvOk (Pz : Nat → Prop) (w0 w : World) (B bs bl n : Nat) (va vr pv fv : Value) (m : Mo) (ps : List (List (Int × Int))) (l : List (Int × Int)) (ho : Option Addr) (hc : Nat) : Prop where
  box : SurvAt w B va vr pv fv (.slice ho (aheadL l).length hc) bs bl
  bel : Below w0.heap.size w0 w
  lo1 : w0.heap.size ≤ bs
  lo2 : w0.heap.size ≤ bl
  ne : bs ≠ bl
  ah : IntsV w (.slice ho (aheadL l).length hc) (aheadL l)
  aty : RowTy w (.slice ho (aheadL l).length hc) 3
  up : ∀ b, w.heap.size ≤ b → Pz b
  aP : ∀ a, ho = some a → Pz a.block
  st : ∃ f, MapIs w 3 bs n f ∧ ∀ kl v, f kl = some v → ∃ code, kl = .int .i64 code ∧ (0 ≤ code ∧ code < prodTo m.vars m.vars.length) ∧ StOk Pz w m ps l code v
  li : ∃ f, MapIs w 121 bl n f ∧ ∀ kl v, f kl = some v → LinkOk ps l kl v
section
variable {w0 w w' : World} {B bs bl n : Nat} {va vr pv fv : Value} {m : Mo} {ps : List (List (Int × Int))} {l : List (Int × Int)} {ho : Option Addr} {hc : Nat}
theorem SvOk.two (h : SvOk Pz w0 w B bs bl n va vr pv fv m ps l ho hc) : TwoMaps w bs bl := by
  obtain ⟨f, h1, _⟩ := h.st
  obtain ⟨g, h2, _⟩ := h.li
  exact ⟨h1.isMap, h2.isMap⟩
theorem SvOk.below (h : SvOk Pz w0 w B bs bl n va vr pv fv m ps l ho hc) (hb : Below w.heap.size w w') : SvOk Pz w0 w' B bs bl n va vr pv fv m ps l ho hc := by
  obtain ⟨f, h1, h2⟩ := h.st
  obtain ⟨g, h3, h4⟩ := h.li
  refine ⟨h.box.later hb, h.bel.trans (hb.mono h.bel.size), h.lo1, h.lo2, h.ne, h.ah.below hb, h.aty.below hb, fun b hb2 => h.up b (Nat.le_trans hb.size hb2), h.aP, ⟨f, h1.kept (hb.block _ h1.lt), fun kl v hv => ?_⟩, ⟨g, h3.kept (hb.block _ h3.lt), h4⟩⟩
  obtain ⟨code, e1, e2, e3⟩ := h2 kl v hv
  exact ⟨code, e1, e2, e3.below hb⟩
theorem MapIs.mono {w : World} {kt : TypeId} {b n n' : Nat} {f : Lit → Option Value} (h : MapIs w kt b n f) (hn : n ≤ n') : MapIs w kt b n' f := by
  obtain ⟨D, h1, h2⟩ := h
  exact ⟨D, h1.mono hn, h2⟩
theorem SvOk.mono {n' : Nat} (h : SvOk Pz w0 w B bs bl n va vr pv fv m ps l ho hc) (hn : n ≤ n') : SvOk Pz w0 w B bs bl n' va vr pv fv m ps l ho hc := by
  obtain ⟨f, h1, h2⟩ := h.st
  obtain ⟨g, h3, h4⟩ := h.li
  exact ⟨h.box, h.bel, h.lo1, h.lo2, h.ne, h.ah, h.aty, h.up, h.aP, ⟨f, h1.mono hn, h2⟩, ⟨g, h3.mono hn, h4⟩⟩
/-- a state is put. -/
theorem SvOk.putS (h : SvOk Pz w0 w B bs bl n va vr pv fv m ps l ho hc) {f : Lit → Option Value} {code : Int} {v : Value} (hg : w.grownBy w' (some bs)) (h2 : ∀ kl v, f kl = some v → ∃ code, kl = .int .i64 code ∧ (0 ≤ code ∧ code < prodTo m.vars m.vars.length) ∧ StOk Pz w m ps l code v)
    (hm : MapIs w' 3 bs (n + 1) (fput f (.int .i64 code) v)) (hc' : 0 ≤ code ∧ code < prodTo m.vars m.vars.length) (hv : StOk Pz w m ps l code v) : SvOk Pz w0 w' B bs bl (n + 1) va vr pv fv m ps l ho hc := by
  have hs : Sk bs bl w w' := Sk.grown hg (.inl rfl)
  have ht := h.two
  obtain ⟨g, h3, h4⟩ := h.li
  refine ⟨h.box.sk hs ht, h.bel.trans (hs.below h.lo1 h.lo2 h.bel.size), h.lo1, h.lo2, h.ne, h.ah.sk hs ht, h.aty.sk hs ht, fun b hb2 => h.up b (Nat.le_trans hs.size hb2), h.aP, ⟨_, hm, fun kl u hu => ?_⟩, ⟨g, (h3.kept (hg.block _ h3.lt (by intro e; injection e with e; exact h.ne e.symm))).mono (Nat.le_succ _), h4⟩⟩
  by_cases hk : kl = .int .i64 code
  · subst hk
    rw [fput_same] at hu
    cases hu
    exact ⟨code, rfl, hc', hv.sk hs ht⟩
  · rw [fput_other hk] at hu
    obtain ⟨c, e1, e2, e3⟩ := h2 kl u hu
    exact ⟨c, e1, e2, e3.sk hs ht⟩
/-- a link is put. -/
theorem SvOk.putL (h : SvOk Pz w0 w B bs bl n va vr pv fv m ps l ho hc) {f : Lit → Option Value} {kl : Lit} {v : Value} (hg : w.grownBy w' (some bl)) (h2 : ∀ kl v, f kl = some v → LinkOk ps l kl v)
    (hm : MapIs w' 121 bl (n + 1) (fput f kl v)) (hv : LinkOk ps l kl v) : SvOk Pz w0 w' B bs bl (n + 1) va vr pv fv m ps l ho hc := by
  have hs : Sk bs bl w w' := Sk.grown hg (.inr rfl)
  have ht := h.two
  obtain ⟨g, h3, h4⟩ := h.st
  refine ⟨h.box.sk hs ht, h.bel.trans (hs.below h.lo1 h.lo2 h.bel.size), h.lo1, h.lo2, h.ne, h.ah.sk hs ht, h.aty.sk hs ht, fun b hb2 => h.up b (Nat.le_trans hs.size hb2), h.aP, ⟨g, (h3.kept (hg.block _ h3.lt (by intro e; injection e with e; exact h.ne e))).mono (Nat.le_succ _), fun k u hu => ?_⟩, ⟨_, hm, fun k u hu => ?_⟩⟩
  · obtain ⟨c, e1, e2, e3⟩ := h4 k u hu
    exact ⟨c, e1, e2, e3.sk hs ht⟩
  · by_cases hk : k = kl
    · subst hk
      rw [fput_same] at hu
      cases hu
      exact hv
    · rw [fput_other hk] at hu
      exact h2 k u hu
/-- a row of spots grows elsewhere. -/
theorem SvOk.spots {own : Option Nat} (h : SvOk Pz w0 w B bs bl n va vr pv fv m ps l ho hc) (hg : w.grownBy w' own) (hown : ∀ g, own = some g → B < g ∧ w0.heap.size ≤ g ∧ ∃ cs fr, w.heap[g]? = some (.cells cs 31 fr)) : SvOk Pz w0 w' B bs bl n va vr pv fv m ps l ho hc := by
  have hty : ∀ g, own = some g → ∃ cs fr, w.heap[g]? = some (.cells cs 31 fr) := fun g e => (hown g e).2.2
  have hbx : ∀ i v, w.cell? ⟨B, i, none⟩ = some v → w'.cell? ⟨B, i, none⟩ = some v := fun i v hv => by
    rw [World.cell?_of_block (hg.block B h.box.lt (fun e => by have := (hown B e.symm).1; omega))]
    exact hv
  obtain ⟨f, h1, h2⟩ := h.st
  obtain ⟨q, h3, h4⟩ := h.li
  have hms : ∀ b es c, w.heap[b]? = some (.map es c) → b < w.heap.size → w'.heap[b]? = w.heap[b]? := fun b es c e hlt => hg.block b hlt (fun e2 => by
    obtain ⟨cs, fr, e3⟩ := hty b e2.symm
    rw [e] at e3
    simp at e3)
  obtain ⟨es1, c1, m1⟩ := h1.isMap
  obtain ⟨es2, c2, m2⟩ := h3.isMap
  refine ⟨⟨Nat.lt_of_lt_of_le h.box.lt hg.size, hbx _ _ h.box.c0, hbx _ _ h.box.c1, hbx _ _ h.box.c2, hbx _ _ h.box.c3, hbx _ _ h.box.c4, hbx _ _ h.box.c5, hbx _ _ h.box.c6⟩, ?_, h.lo1, h.lo2, h.ne, h.ah.grown h.aty hg hty, h.aty.grown hg (by decide) hty, fun b hb2 => h.up b (Nat.le_trans hg.size hb2), h.aP, ⟨f, h1.kept (hms bs _ _ m1 h1.lt), fun kl v hv => ?_⟩, ⟨q, h3.kept (hms bl _ _ m2 h3.lt), h4⟩⟩
  · refine h.bel.trans ⟨hg.os, hg.tape, hg.output, hg.size, fun i hi => hg.block i (Nat.lt_of_lt_of_le hi h.bel.size) (fun e => by have := (hown i e.symm).2.1; omega)⟩
  · obtain ⟨code, e1, e2, e3⟩ := h2 kl v hv
    exact ⟨code, e1, e2, e3.grown hg hty⟩
end
end Go.Proofs.YtihmcoikgkacoaaGreatDoor

/-
  Worlds that are the same but for some blocks; a survey stays where others write.
-/
namespace Go.Proofs.YtihmcoikgkacoaaGreatDoor
open Go.ChangeShapes Go.WideShapes Go.ChangeAt Go.RowKit Go.Deep Go.Maps
open Terms Tm

/-- w' is w but for the blocks Z, and new ones. -/
structure Chg (Z : Nat → Prop) (w w' : World) : Prop where
  os : w'.os = w.os
  tape : w'.tape = w.tape
  output : w'.output = w.output
  size : w.heap.size ≤ w'.heap.size
  block : ∀ i, i < w.heap.size → ¬ Z i → w'.heap[i]? = w.heap[i]?
set_option maxRecDepth 20000 in
theorem Chg.refl (Z : Nat → Prop) (w : World) : Chg Z w w := ⟨rfl, rfl, rfl, Nat.le_refl _, fun _ _ _ => rfl⟩
set_option maxRecDepth 20000 in
theorem Chg.trans {Z : Nat → Prop} {a b c : World} (h : Chg Z a b) (k : Chg Z b c) : Chg Z a c :=
  ⟨k.os.trans h.os, k.tape.trans h.tape, k.output.trans h.output, Nat.le_trans h.size k.size, fun i hi hz => (k.block i (Nat.lt_of_lt_of_le hi h.size) hz).trans (h.block i hi hz)⟩
set_option maxRecDepth 20000 in
/-- what is new to the first world counts for nothing. -/
theorem Chg.trans2 {Z Z' : Nat → Prop} {a b c : World} (h : Chg Z a b) (k : Chg Z' b c) (hz : ∀ i, i < a.heap.size → Z' i → Z i) : Chg Z a c :=
  ⟨k.os.trans h.os, k.tape.trans h.tape, k.output.trans h.output, Nat.le_trans h.size k.size, fun i hi hn => (k.block i (Nat.lt_of_lt_of_le hi h.size) (fun h2 => hn (hz i hi h2))).trans (h.block i hi hn)⟩
set_option maxRecDepth 20000 in
theorem Chg.weaken {Z Z' : Nat → Prop} {a b : World} (h : Chg Z a b) (hz : ∀ i, i < a.heap.size → Z i → Z' i) : Chg Z' a b :=
  ⟨h.os, h.tape, h.output, h.size, fun i hi hn => h.block i hi (fun h2 => hn (hz i hi h2))⟩
set_option maxRecDepth 20000 in
theorem Chg.of {Z : Nat → Prop} {w w' : World} (h : Below w.heap.size w w') : Chg Z w w' := ⟨h.os, h.tape, h.output, h.size, fun i hi _ => h.block i hi⟩
set_option maxRecDepth 20000 in
theorem Chg.grown {w w' : World} {own : Option Nat} (h : w.grownBy w' own) : Chg (fun i => own = some i) w w' :=
  ⟨h.os, h.tape, h.output, h.size, fun i hi hz => h.block i hi (fun e => hz e.symm)⟩
set_option maxRecDepth 20000 in
theorem Chg.setCell (w : World) (p : Addr) (v : Value) : Chg (fun i => i = p.block) w (w.setCell p v) :=
  ⟨rfl, rfl, rfl, by simp, fun i _ hz => RowKit.Below.heap_setCell _ _ _ _ hz⟩
set_option maxRecDepth 20000 in
theorem Chg.drew {Z : Nat → Prop} {w w' : World} (h : Chg Z w w') : Chg Z w w'.drew := ⟨h.os, h.tape, h.output, h.size, h.block⟩
set_option maxRecDepth 20000 in
theorem Chg.below {Z : Nat → Prop} {base : Nat} {w w' : World} (h : Chg Z w w') (hz : ∀ i, Z i → base ≤ i) (hb : base ≤ w.heap.size) : Below base w w' :=
  ⟨h.os, h.tape, h.output, h.size, fun i hi => h.block i (by omega) (fun h2 => by have := hz i h2; omega)⟩
set_option maxRecDepth 20000 in
theorem Chg.cell {Z : Nat → Prop} {w w' : World} (h : Chg Z w w') {p : Addr} {v : Value} (hp : w.cell? p = some v) (hz : ¬ Z p.block) : w'.cell? p = some v := by
  rw [World.cell?_of_block (h.block p.block (World.block_lt_of_cell? w p hp) hz)]
  exact hp
set_option maxRecDepth 20000 in
theorem Sk.chg {bs bl : Nat} {w w' : World} (h : Sk bs bl w w') : Chg (fun i => i = bs ∨ i = bl) w w' :=
  ⟨h.os, h.tape, h.output, h.size, fun i hi hz => h.block i hi (fun e => hz (.inl e)) (fun e => hz (.inr e))⟩
/-- a block of cells of a kind. -/
def TyB (w : World) (i : Nat) (t : TypeId) : Prop := ∃ cs fr, w.heap[i]? = some (.cells cs t fr)
set_option maxRecDepth 20000 in
theorem TyB.lt {w : World} {i : Nat} {t : TypeId} (h : TyB w i t) : i < w.heap.size := by
  obtain ⟨cs, fr, h⟩ := h
  exact (Array.getElem?_eq_some_iff.1 h).1
set_option maxRecDepth 20000 in
theorem TyB.eq {w : World} {i : Nat} {t t' : TypeId} (h : TyB w i t) (h' : TyB w i t') : t = t' := by
  obtain ⟨cs, fr, h⟩ := h
  obtain ⟨cs', fr', h'⟩ := h'
  rw [h] at h'
  injection h' with h'
  injection h' with _ h' _
set_option maxRecDepth 20000 in
theorem TyB.no_map {w : World} {i : Nat} {t : TypeId} (h : TyB w i t) {es : Array MapEntry} {c : Nat} : w.heap[i]? ≠ some (.map es c) := by
  obtain ⟨cs, fr, h⟩ := h
  rw [h]
  simp
set_option maxRecDepth 20000 in
theorem RowTy.ty {w : World} {t : TypeId} {a : Addr} {n c : Nat} (h : RowTy w (.slice (some a) n c) t) : TyB w a.block t := h a n c rfl
set_option maxRecDepth 20000 in
theorem IntsV.chg {Z : Nat → Prop} {w w' : World} {ao : Option Addr} {n c : Nat} {x : List Int} (h : IntsV w (.slice ao n c) x) (hs : Chg Z w w') (hz : ∀ a, ao = some a → ¬ Z a.block) : IntsV w' (.slice ao n c) x := by
  obtain ⟨ao', cap, e, h⟩ := h
  injection e with e1 e2 e3
  subst e1 e2 e3
  refine ⟨ao, c, rfl, fun hne => ?_⟩
  obtain ⟨b, off, rfl, hlt, hat⟩ := h hne
  exact ⟨b, off, rfl, Nat.lt_of_lt_of_le hlt hs.size, fun i hi => hs.cell (hat i hi) (hz ⟨b, off, none⟩ rfl)⟩
set_option maxRecDepth 20000 in
theorem BoolsV.chg {Z : Nat → Prop} {w w' : World} {ao : Option Addr} {n c : Nat} {x : List Bool} (h : BoolsV w (.slice ao n c) x) (hs : Chg Z w w') (hz : ∀ a, ao = some a → ¬ Z a.block) : BoolsV w' (.slice ao n c) x := by
  obtain ⟨ao', cap, e, h⟩ := h
  injection e with e1 e2 e3
  subst e1 e2 e3
  refine ⟨ao, c, rfl, fun hne => ?_⟩
  obtain ⟨b, off, rfl, hlt, hat⟩ := h hne
  exact ⟨b, off, rfl, Nat.lt_of_lt_of_le hlt hs.size, fun i hi => hs.cell (hat i hi) (hz ⟨b, off, none⟩ rfl)⟩
set_option maxRecDepth 20000 in
theorem RowTy.chg {Z : Nat → Prop} {w w' : World} {ao : Option Addr} {n c : Nat} {t : TypeId} (h : RowTy w (.slice ao n c) t) (hs : Chg Z w w') (hz : ∀ a, ao = some a → ¬ Z a.block) : RowTy w' (.slice ao n c) t := by
  intro a k c' e
  injection e with e1 e2 e3
  subst e1 e2 e3
  obtain ⟨cs, fr, h1⟩ := h a n c rfl
  exact ⟨cs, fr, (hs.block _ (Array.getElem?_eq_some_iff.1 h1).1 (hz a rfl)).trans h1⟩
set_option maxRecDepth 20000 in
theorem owns_chg {Z : Nat → Prop} {w w' : World} {base : Nat} {e : TypeId} {s n : Nat} {v : Value} {xs : List Value} (h : w.ownsRow base e s v n xs) (hs : Chg Z w w') (hz : ∀ g, v.ownBlock = some g → ¬ Z g) : w'.ownsRow base e s v n xs := by
  refine ⟨h.1, ?_⟩
  rcases h.2 with h0 | ⟨g, cap, cur, h1, h2, h3, h4⟩
  · exact .inl h0
  · refine .inr ⟨g, cap, cur, h1, h2, ?_, h4⟩
    rw [hs.block g (Array.getElem?_eq_some_iff.1 h3).1 (hz g (by rw [h1]; simp [Value.ownBlock]))]
    exact h3
set_option maxRecDepth 20000 in
/-- the block of a row of the call's own. -/
theorem owns_ty {w : World} {base : Nat} {e : TypeId} {s n : Nat} {v : Value} {xs : List Value} (h : w.ownsRow base e s v n xs) {g : Nat} (hg : v.ownBlock = some g) : base ≤ g ∧ TyB w g e := by
  rcases h.2 with ⟨h0, _⟩ | ⟨g', cap', cur, h1, h2, h3, _⟩
  · rw [h0] at hg; simp [Value.ownBlock] at hg
  · rw [h1] at hg
    simp [Value.ownBlock] at hg
    subst hg
    exact ⟨h2, cur, _, h3⟩
set_option maxRecDepth 20000 in
theorem MapIs.chg {Z : Nat → Prop} {w w' : World} {kt : TypeId} {b n : Nat} {f : Lit → Option Value} (h : MapIs w kt b n f) (hs : Chg Z w w') (hz : ¬ Z b) : MapIs w' kt b n f := h.kept (hs.block b h.lt hz)
section
variable {Pz : Nat → Prop} {w0 w w' : World} {B bs bl n : Nat} {va vr pv fv : Value} {m : Mo} {ps : List (List (Int × Int))} {l : List (Int × Int)} {ho : Option Addr} {hc : Nat}
set_option maxRecDepth 20000 in
theorem StOk.chg {Z : Nat → Prop} {code : Int} {v : Value} (h : StOk Pz w m ps l code v) (hs : Chg Z w w') (hz : ∀ i, Z i → ¬ TyB w i 4 ∧ (TyB w i 3 → ¬ Pz i)) : StOk Pz w' m ps l code v := by
  obtain ⟨lo, lc, no, nc, so, sc, h1, h2, h3, h4, h5, h6, h7, h8, h9⟩ := h
  have z1 : ∀ a, lo = some a → ¬ Z a.block := fun a e z => by subst e; exact (hz _ z).1 h5.ty
  have z2 : ∀ a, no = some a → ¬ Z a.block := fun a e z => by subst e; exact (hz _ z).2 h6.ty (h8 a rfl)
  have z3 : ∀ a, so = some a → ¬ Z a.block := fun a e z => by subst e; exact (hz _ z).2 h7.ty (h9 a rfl)
  exact ⟨lo, lc, no, nc, so, sc, h1, h2.chg hs z1, h3.chg hs z2, h4.chg hs z3, h5.chg hs z1, h6.chg hs z2, h7.chg hs z3, h8, h9⟩
set_option maxRecDepth 20000 in
/-- A SURVEY STAYS where others write: at no block of its own. -/
theorem SvOk.chg {Z : Nat → Prop} (h : SvOk Pz w0 w B bs bl n va vr pv fv m ps l ho hc) (hs : Chg Z w w') (hz : ∀ i, Z i → w0.heap.size ≤ i ∧ i ≠ B ∧ i ≠ bs ∧ i ≠ bl ∧ ¬ TyB w i 4 ∧ (TyB w i 3 → ¬ Pz i)) : SvOk Pz w0 w' B bs bl n va vr pv fv m ps l ho hc := by
  have zB : ¬ Z B := fun z => (hz _ z).2.1 rfl
  have zs : ¬ Z bs := fun z => (hz _ z).2.2.1 rfl
  have zl : ¬ Z bl := fun z => (hz _ z).2.2.2.1 rfl
  have za : ∀ a, ho = some a → ¬ Z a.block := fun a e z => (hz _ z).2.2.2.2.2 (by have := h.aty; rw [e] at this; exact this.ty) (h.aP a e)
  obtain ⟨f, h1, h2⟩ := h.st
  obtain ⟨q, h3, h4⟩ := h.li
  refine ⟨⟨Nat.lt_of_lt_of_le h.box.lt hs.size, hs.cell h.box.c0 zB, hs.cell h.box.c1 zB, hs.cell h.box.c2 zB, hs.cell h.box.c3 zB, hs.cell h.box.c4 zB, hs.cell h.box.c5 zB, hs.cell h.box.c6 zB⟩, h.bel.trans (hs.below (fun i z => (hz i z).1) h.bel.size), h.lo1, h.lo2, h.ne, h.ah.chg hs za, h.aty.chg hs za, fun b hb => h.up b (Nat.le_trans hs.size hb), h.aP, ⟨f, h1.chg hs zs, fun kl v hv => ?_⟩, ⟨q, h3.chg hs zl, h4⟩⟩
  obtain ⟨code, e1, e2, e3⟩ := h2 kl v hv
  exact ⟨code, e1, e2, e3.chg hs fun i z => (hz i z).2.2.2.2⟩
set_option maxRecDepth 20000 in
theorem StOk.re {Pz' : Nat → Prop} {code : Int} {v : Value} (h : StOk Pz w m ps l code v) (hp : ∀ b, b < w.heap.size → Pz b → Pz' b) : StOk Pz' w m ps l code v := by
  obtain ⟨lo, lc, no, nc, so, sc, h1, h2, h3, h4, h5, h6, h7, h8, h9⟩ := h
  exact ⟨lo, lc, no, nc, so, sc, h1, h2, h3, h4, h5, h6, h7, fun a e => by subst e; exact hp _ h6.ty.lt (h8 a rfl), fun a e => by subst e; exact hp _ h7.ty.lt (h9 a rfl)⟩
set_option maxRecDepth 20000 in
/-- the same survey, with other blocks that are not its own. -/
theorem SvOk.re {Pz' : Nat → Prop} (h : SvOk Pz w0 w B bs bl n va vr pv fv m ps l ho hc) (hp : ∀ b, b < w.heap.size → Pz b → Pz' b) (hup : ∀ b, w.heap.size ≤ b → Pz' b) : SvOk Pz' w0 w B bs bl n va vr pv fv m ps l ho hc := by
  obtain ⟨f, h1, h2⟩ := h.st
  refine ⟨h.box, h.bel, h.lo1, h.lo2, h.ne, h.ah, h.aty, hup, fun a e => hp _ (by have := h.aty; rw [e] at this; exact this.ty.lt) (h.aP a e), ⟨f, h1, fun kl v hv => ?_⟩, h.li⟩
  obtain ⟨code, e1, e2, e3⟩ := h2 kl v hv
  exact ⟨code, e1, e2, e3.re hp⟩
end
end Go.Proofs.YtihmcoikgkacoaaGreatDoor

/-
  The contract of the survey's signOf.
-/
namespace Go.Proofs.YtihmcoikgkacoaaGreatDoor
open Go.ChangeShapes Go.WideShapes Go.ChangeAt Go.RowKit Go.Deep
open Terms Tm

set_option maxHeartbeats 1600000 in
set_option maxRecDepth 20000 in
/-- THE CONTRACT OF signOf. -/
theorem signOf_any (B : Nat) (va vr pv fv lv : Value) (l : List (Int × Int)) (lt : List Bool) (c : Nat) (ho : Option Addr) (hcp bs bl : Nat) (w : World) (hB : 0 < w.heap.size) (hT : TabAt w) (hF : OpsV w fv l) (hL : BoolsV w lv lt)
    (hz : endsCode (l.map Prod.fst) = 0) (h6 : (aheadL l).length ≤ 6) (htc : tcode l lt (c : Int) = 0) (hS : SurvAt w B va vr pv fv (.slice ho (aheadL l).length hcp) bs bl) (hA : IntsV w (.slice ho (aheadL l).length hcp) (aheadL l)) :
    Calls Tryz.prog 61 #[.pointer (some ⟨B, 0, none⟩), lv, .int .i64 (c : Int)] w fun e w' => e = .returned (.tuple #[.int .i64 (sgAt l lt c), .int .i64 0]) ∧ Below w.heap.size w w' := by
  obtain ⟨hne, h60⟩ := ends_ne hz
  rw [List.length_map] at h60
  have hl0 : 0 < l.length := by
    rcases Nat.eq_zero_or_pos l.length with h0 | h0
    · rw [List.length_eq_zero_iff.1 h0] at hne
      simp at hne
    · exact h0
  have htr : Calls Tryz.prog 54 #[fv, lv, .int .i64 (c : Int)] w fun e w' => ∃ b off cp, e = .returned (.tuple #[.slice (some ⟨b, off, none⟩) l.length cp, .int .i64 0]) ∧ Below w.heap.size w w' ∧ b < w'.heap.size ∧ Hid (∀ j, j < l.length → w'.cell? ⟨b, off + j, none⟩ = some (.bool (tru l lt (c : Int) j))) := by
    refine (ltruths_any fv lv l lt (c : Int) w hB hT hF hL).mono fun e w' ⟨v, h1, h2, h3⟩ => ?_
    have t2 : truL l lt (c : Int) = (List.range l.length).map (tru l lt (c : Int)) := by unfold truL; rw [if_pos htc]
    rw [t2] at h3
    obtain ⟨lo, lc, rfl, hx⟩ := h3
    obtain ⟨b, off, rfl, hb, hat⟩ := hx (by intro h0; have := congrArg List.length h0; rw [List.length_map, List.length_range, List.length_nil] at this; omega)
    refine ⟨b, off, lc, by rw [h1, htc]; simp, h2, hb, fun j hj => ?_⟩
    have c0 := hat j (by simpa using hj)
    rw [c0]
    simp [List.getD_eq_getElem?_getD, hj]
  obtain ⟨fo, fc, rfl, _, hfv⟩ := id hF
  obtain ⟨fb, foff, rfl, hfb, hfat⟩ := hfv (by intro h0; rw [h0] at hl0; simp at hl0)
  obtain ⟨lo, lc, rfl, _⟩ := id hL
  have HP : Hid (∀ k, k < (aheadL l).length → ∃ p : Nat, (∃ ab aoff, ho = some ⟨ab, aoff, none⟩ ∧ ab < w.heap.size ∧ w.cell? ⟨ab, aoff + k, none⟩ = some (.int .i64 (p : Int))) ∧ p < l.length ∧ askP l p < l.length ∧ w.cell? ⟨fb, foff + p * 2, none⟩ = some (.int .i64 (l.getD p (0, 0)).1) ∧ ((aheadL l).getD k 0).toNat = p) := fun k hk => by
    obtain ⟨p, h1, h2, h3, _⟩ := aheadTo_get l l.length k hk
    obtain ⟨ao2, c2, e1, hah⟩ := hA
    injection e1 with e2 e3 e4
    subst e2
    obtain ⟨ab, aoff, rfl, hab, haat⟩ := hah (by intro h0; rw [h0] at hk; simp at hk)
    have h1' : (aheadL l).getD k 0 = (p : Int) := h1
    refine ⟨p, ⟨ab, aoff, rfl, hab, by rw [haat k hk, h1']⟩, h2, ?_, (hfat p h2).1, by rw [h1']; rfl⟩
    unfold askP
    split
    · refine (part_in hz h2).1 ?_
      have hk' : 14 ≤ (l.getD p (0, 0)).1 ∧ (l.getD p (0, 0)).1 ≤ 18 := by simpa [lookB] using h3
      unfold pn
      split
      · omega
      · split <;> omega
    · exact h2
  have HSt : Hid (∀ k, signTo l (tru l lt (c : Int)) (k + 1) = signTo l (tru l lt (c : Int)) k + if tru l lt (c : Int) (askP l ((aheadL l).getD k 0).toNat) = true then 2 ^ k else 0) := fun _ => rfl
  have HSb : Hid (∀ k, 0 ≤ signTo l (tru l lt (c : Int)) k ∧ signTo l (tru l lt (c : Int)) k < 2 ^ k) := signTo_bounds _ _
  have HS0 : Hid (signTo l (tru l lt (c : Int)) 0 = 0) := rfl
  unfold sgAt signN
  generalize signTo l (tru l lt (c : Int)) = sg at *
  generalize hth : tru l lt (c : Int) = th at *
  obtain ⟨_, s0, s1, s2, s3, s4, s5, s6⟩ := id hS
  have HS : Hid (∀ w1, Below w.heap.size w w1 → w1.cell? ⟨B, 3, none⟩ = some (.slice (some ⟨fb, foff, none⟩) l.length fc) ∧ w1.cell? ⟨B, 4, none⟩ = some (.slice ho (aheadL l).length hcp)) := fun w1 h => ⟨(hS.later h).c3, (hS.later h).c4⟩
  have HFb : Hid (fb < w.heap.size) := hfb
  generalize (aheadL l).length = an at *
  generalize lt.length = ltn at *
  generalize hnn : l.length = n at *
  clear hT hF hL hz htc hA hfv hfat hnn hth hS hne hfb
  go_enter Tryz.func61, Tryz.ntmps61
  go_wp2_with (first | (go_at_call 54; refine htr.mono ?_; rintro e w1 ⟨b, off, cp, rfl, hb1, hblt, HTb⟩; obtain ⟨q3, q4⟩ := HS.out w1 hb1))
  clear htr
  go_loopw [10, 33] (fun x i wr => ∃ k : Nat, k ≤ an ∧ i = .int .i64 (k : Int) ∧ x = .int .i64 (sg k) ∧ wr = w1) (fun _ i _ => an - (intOf i).toNat)
  case atStart => exact ⟨0, Nat.zero_le _, rfl, by rw [HS0.out], rfl⟩
  case round =>
    obtain ⟨k, hk, rfl, rfl, rfl⟩ := hrel
    by_cases hlt : k < an
    · obtain ⟨p, ⟨ab, aoff, rfl, hab, hca⟩, hpn, hpa, hpc, hpi⟩ := HP.out k hlt
      have HSk := (show Hid _ from HSt.out k)
      rw [hpi] at HSk
      have d0 := (hb1.cell (p := ⟨ab, aoff + k, none⟩) hab).trans hca
      have d1 := (hb1.cell (p := ⟨fb, foff + p * 2, none⟩) HFb.out).trans hpc
      have d2 := HTb.out (askP l p) hpa
      obtain ⟨hm0, hm1⟩ := HSb.out k
      have hk6 : k < 6 := by omega
      have hps := pow_small (k := k) (by omega)
      have h2k : (0 : Int) < 2 ^ k := Int.pow_pos (by decide)
      have HOr : Hid (bits BinOp.or IntKind.i64 (sg k) (2 ^ k) = sg k + 2 ^ k) := or_bit hk6 hm0 hm1
      have hpi2 : (p : Int) < (n : Int) := by omega
      unfold askP at d2 hpa HSk
      clear HP HSt HSb hca hpc hpi
      by_cases h14 : (l.getD p (0, 0)).1 = 14
      · rw [if_pos h14] at d2 hpa HSk
        rw [h14] at d1
        have hpa2 : (p : Int) + 1 < (n : Int) := by omega
        clear h14
        generalize th (p + 1) = tv at *
        cases tv with
        | true =>
          have HS2 : Hid (sg (k + 1) = sg k + 2 ^ k) := by show _ = _; rw [HSk.out]; simp
          clear HSk
          go_wp2_with fail
          exact ⟨⟨k + 1, hlt, by first | rfl | simp, by rw [HS2.out, ← HOr.out], by trivial⟩, by simp [intOf]; omega⟩
        | false =>
          have HS2 : Hid (sg (k + 1) = sg k) := by show _ = _; rw [HSk.out]; simp
          clear HSk
          go_wp2_with fail
          exact ⟨⟨k + 1, hlt, by first | rfl | simp, by rw [HS2.out], by trivial⟩, by simp [intOf]; omega⟩
      · rw [if_neg h14] at d2 hpa HSk
        generalize (l.getD p (0, 0)).1 = kx at *
        generalize th p = tv at *
        cases tv with
        | true =>
          have HS2 : Hid (sg (k + 1) = sg k + 2 ^ k) := by show _ = _; rw [HSk.out]; simp
          clear HSk
          go_wp2_with fail
          exact ⟨⟨k + 1, hlt, by first | rfl | simp, by rw [HS2.out, ← HOr.out], by trivial⟩, by simp [intOf]; omega⟩
        | false =>
          have HS2 : Hid (sg (k + 1) = sg k) := by show _ = _; rw [HSk.out]; simp
          clear HSk
          go_wp2_with fail
          exact ⟨⟨k + 1, hlt, by first | rfl | simp, by rw [HS2.out], by trivial⟩, by simp [intOf]; omega⟩
    · obtain rfl : k = an := by omega
      go_wp2_with fail
      go_ret2
      exact ⟨rfl, hb1⟩
end Go.Proofs.YtihmcoikgkacoaaGreatDoor
