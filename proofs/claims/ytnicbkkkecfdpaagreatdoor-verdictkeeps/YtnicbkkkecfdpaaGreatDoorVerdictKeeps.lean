/-
  Proved: foretelllaw.VerdictKeeps answers true at every task and every lasso of states (verdict.Keeps answers as the document's P9.3 does), given that the table polish.partCounts reads as its initialiser lays it, which the card ties to the program's text. No other condition.
-/
import Derived.Test.YtnicbkkkecfdpaaGreatDoorCards
import Derived.Test.YtnicbkkkecfdpaaGreatDoorTie
import Derived.Test.YtnicbkkkecfdpaaGreatDoorRow
import Derived.Test.YtnicbkkkecfdpaaGreatDoorTaskOpen
import Derived.Test.YtnicbkkkecfdpaaGreatDoorLateA
import Derived.Test.YtnicbkkkecfdpaaGreatDoorLateE
import Derived.Test.YtnicbkkkecfdpaaGreatDoorLateG
namespace Go.Proofs.YtnicbkkkecfdpaaGreatDoor
open Go.ChangeShapes Go.WideShapes Go.ChangeAt Go.RowKit Go.Deep
open Terms Tm

theorem keeps_both (m : Mo) (ps : List (List (Int × Int))) (l : List (Int × Int)) (ss ll : List Int) : ∃ (r : Bool) (c : Int), (∀ (w : World) (va vr pv fv sv lv : Value), 0 < w.heap.size → TabAt w → TaskV w va vr pv fv m ps l → IntsX w sv ss → IntsX w lv ll → Calls Tryz.prog 4 #[.agg #[va, vr, pv, fv], .agg #[sv, lv]] w fun e w' => e = .returned (.tuple #[.bool r, .int .i64 c]) ∧ Below w.heap.size w w') ∧
    ∀ (w : World) (va vr pv fv : Value) (so lo : Option Addr) (sc lc : Nat), ps.length * 24 ≤ 140737488355328 → m.vars.length * 40 ≤ 140737488355328 → TaskV w va vr pv fv m ps l → IntsV w (.slice so ss.length sc) ss → IntsV w (.slice lo ll.length lc) ll → Calls Tryz.prog 7 #[.agg #[va, vr, pv, fv], .agg #[.slice so ss.length sc, .slice lo ll.length lc]] w fun e w' => e = .returned (.tuple #[.bool r, .int .i64 c]) ∧ Below w.heap.size w w' := by
  by_cases hk : tkcode m ps l = 0
  · by_cases h12 : 12 < ss.length ∨ 12 < ll.length
    · exact ⟨false, 1, fun w va vr pv fv sv lv hB hT hV hS hL => keeps_size va vr pv fv sv lv m ps l ss ll w hB hT hV hk hS hL h12, fun w va vr pv fv so lo sc lc h1 _ hV hS hL => keepsOn_size va vr pv fv _ _ m ps l ss ll w h1 hV hk hS hL h12⟩
    · have h1 : ss.length ≤ 12 := by omega
      have h2 : ll.length ≤ 12 := by omega
      cases hr : runB m ss ll with
      | false => exact ⟨false, 11, fun w va vr pv fv sv lv hB hT hV hS hL => keeps_norun va vr pv fv sv lv m ps l ss ll w hB hT hV hk hS hL h1 h2 hr, fun w va vr pv fv so lo sc lc hp hz hV hS hL => keepsOn_norun va vr pv fv so lo sc lc m ps l ss ll w hp hz hV hk hS hL h1 h2 hr⟩
      | true =>
        obtain ⟨t, hwf, hto⟩ := tree_tk hk
        exact ⟨_, 0, fun w va vr pv fv sv lv hB hT hV hS hL => keeps_ok va vr pv fv sv lv m ps l ss ll t w hB hT hV hk hS hL h1 h2 hr hwf hto, fun w va vr pv fv so lo sc lc hp hz hV hS hL => keepsOn_ok va vr pv fv so lo sc lc m ps l ss ll t w hp hz hV hk hS hL h1 h2 hr hwf hto⟩
  · exact ⟨false, tkcode m ps l, fun w va vr pv fv sv lv hB hT hV hS hL => keeps_task va vr pv fv sv lv m ps l w hB hT hV hk, fun w va vr pv fv so lo sc lc h1 _ hV hS hL => keepsOn_task va vr pv fv _ _ m ps l w h1 hV hk⟩

set_option maxHeartbeats 3200000 in
set_option maxRecDepth 20000 in
theorem verdictKeeps_walk (va vr pv fv sv lv : Value) (m : Mo) (ps : List (List (Int × Int))) (l : List (Int × Int)) (ss ll : List Int) (w : World) (hB : 0 < w.heap.size) (hT : TabAt w) (hZ : TkSz m ps l) (hV : TaskV w va vr pv fv m ps l) (hS : IntsW w sv ss) (hP : IntsW w lv ll) (hzs : ss.length * 8 ≤ 140737488355328) (hzl : ll.length * 8 ≤ 140737488355328) :
    Calls Tryz.prog 3 #[.agg #[va, vr, pv, fv], .agg #[sv, lv]] w fun e w' => e = .returned (.bool true) ∧ Below w.heap.size w w' := by
  obtain ⟨res, q, hcc, hrr⟩ := keeps_both m ps l ss ll
  obtain ⟨W2, hW2⟩ : ∃ W2, W2 = (w.alloc (.cells #[va, vr, pv, fv] 29)).alloc (.cells #[sv, lv] 32) := ⟨_, rfl⟩
  have hbx : Bx2 w W2 va vr pv fv sv lv := by rw [hW2]; exact Bx2.new _ _ _ _ _ _ _
  obtain ⟨hb2, hz2, HBx'⟩ := hbx
  have HC : Hid (∀ w1, Below W2.heap.size W2 w1 → ((w1.cell? ⟨w.heap.size, 0, none⟩ = some va ∧ w1.cell? ⟨w.heap.size, 1, none⟩ = some vr ∧ w1.cell? ⟨w.heap.size, 2, none⟩ = some pv ∧ w1.cell? ⟨w.heap.size, 3, none⟩ = some fv) ∧ w1.cell? ⟨w.heap.size + 1, 0, none⟩ = some sv ∧ w1.cell? ⟨w.heap.size + 1, 1, none⟩ = some lv) ∧ Below W2.heap.size W2 w1) := fun w1 h => ⟨(HBx' w1 h).2, h⟩
  have HE : Hid (∀ w1, Below W2.heap.size W2 w1 → Below w.heap.size w w1) := fun w1 h => (HBx' w1 h).1
  have HMo : Hid (∀ w1, Below W2.heap.size W2 w1 → Calls Tryz.prog 5 #[.agg #[va, vr, pv, fv]] w1 fun e w' => ∃ ao vn ac ro rn rc po pn pc fo fn fc, e = .returned (.agg #[.slice ao vn ac, .slice ro rn rc, .slice po pn pc, .slice fo fn fc]) ∧ Below w1.heap.size w1 w' ∧ Hid (TaskV w' (.slice ao vn ac) (.slice ro rn rc) (.slice po pn pc) (.slice fo fn fc) m ps l)) := fun w1 h => tasks_any va vr pv fv m ps l w1 hZ (hV.below (HE.out w1 h))
  have HI1 : Hid (∀ w1, Below W2.heap.size W2 w1 → Calls Tryz.prog 6 #[sv] w1 fun e w' => ∃ so sn sc, e = .returned (.slice so sn sc) ∧ Below w1.heap.size w1 w' ∧ Hid (IntsX w' (.slice so sn sc) ss)) := fun w1 h => (ints_any sv ss w1 hzs (hS.below2 (HE.out w1 h))).mono fun e w' ⟨v, h1, h2, h3⟩ => by
    obtain ⟨so, sc, rfl⟩ := owns_slice h3
    exact ⟨so, _, sc, h1, h2, intsX_of_owns h3⟩
  have HI2 : Hid (∀ w1, Below W2.heap.size W2 w1 → Calls Tryz.prog 6 #[lv] w1 fun e w' => ∃ so sn sc, e = .returned (.slice so sn sc) ∧ Below w1.heap.size w1 w' ∧ Hid (IntsX w' (.slice so sn sc) ll)) := fun w1 h => (ints_any lv ll w1 hzl (hP.below2 (HE.out w1 h))).mono fun e w' ⟨v, h1, h2, h3⟩ => by
    obtain ⟨so, sc, rfl⟩ := owns_slice h3
    exact ⟨so, _, sc, h1, h2, intsX_of_owns h3⟩
  have HRu : Hid (∀ (wa wb wc : World) (va vr pv fv sv lv : Value), Below W2.heap.size W2 wc → Below wa.heap.size wa wc → Below wb.heap.size wb wc → TaskV wa va vr pv fv m ps l → IntsX wb sv ss → IntsX wc lv ll → Calls Tryz.prog 4 #[.agg #[va, vr, pv, fv], .agg #[sv, lv]] wc fun e w' => e = .returned (.tuple #[.bool res, .int .i64 q]) ∧ Below wc.heap.size wc w') := fun wa wb wc va vr pv fv sv lv h0 h1 h2 h3 h4 h5 => by
    have h9 := HE.out wc h0
    exact hcc wc va vr pv fv sv lv (Nat.lt_of_lt_of_le hB h9.size) (hT.below h9 hB) (h3.below h1) (h4.below h2) h5
  have HRo : Hid (∀ w1, Below W2.heap.size W2 w1 → Calls Tryz.prog 7 #[.agg #[va, vr, pv, fv], .agg #[sv, lv]] w1 fun e w' => e = .returned (.tuple #[.bool res, .int .i64 q]) ∧ Below w1.heap.size w1 w') := fun w1 h => by
    have h9 := HE.out w1 h
    obtain ⟨so, sc, rfl, _⟩ := id hS
    obtain ⟨lo, lc, rfl, _⟩ := id hP
    exact hrr w1 va vr pv fv so lo sc lc hZ.p1 hZ.mo.1 (hV.below h9) (hS.below2 h9).v (hP.below2 h9).v
  obtain ⟨so, sc, rfl, _⟩ := id hS
  obtain ⟨lo, lc, rfl, _⟩ := id hP
  obtain ⟨ao, ac, rfl⟩ := hV.mo.1.shape
  obtain ⟨ro, rc, rfl⟩ := hV.mo.2.shape
  obtain ⟨po, pc, rfl⟩ := hV.ps.shape
  obtain ⟨fo, fc, rfl, _⟩ := id hV.fo
  generalize m.vars.length = vn at *
  generalize m.rules.length = rn at *
  generalize ps.length = pn at *
  generalize l.length = fn at *
  generalize ss.length = sn at *
  generalize ll.length = ln at *
  clear hV hT hS hP hZ HBx' hcc hrr
  have hB0 : Below W2.heap.size W2 W2 := Below.refl _ _
  go_enter Tryz.func3, Tryz.ntmps3
  go_wp2_with fail
  rw [← hW2]
  clear hW2
  have tk1 := True.intro
  go_region_held3 (fun w1 => ((w1.cell? ⟨w.heap.size, 0, none⟩ = some (.slice ao vn ac) ∧ w1.cell? ⟨w.heap.size, 1, none⟩ = some (.slice ro rn rc) ∧ w1.cell? ⟨w.heap.size, 2, none⟩ = some (.slice po pn pc) ∧ w1.cell? ⟨w.heap.size, 3, none⟩ = some (.slice fo fn fc)) ∧ w1.cell? ⟨w.heap.size + 1, 0, none⟩ = some (.slice so sn sc) ∧ w1.cell? ⟨w.heap.size + 1, 1, none⟩ = some (.slice lo ln lc)) ∧ Below W2.heap.size W2 w1)
    (exact HC.out _ (by first | exact hb14 | exact hb13 | exact hb12 | exact hb11 | exact hB0.drew | exact hB0))
    (first
      | (go_at_call 5; refine (HMo.out _ hB0.drew).mono ?_; rintro e w1 ⟨ao1, an1, ac1, ro1, rn1, rc1, po1, pn1, pc1, fo1, fn1, fc1, rfl, hb1, HV1⟩; have hb11 := hB0.drew.trans (hb1.mono hB0.drew.size); have hi1 := HI1.out w1 hb11)
      | (clear tk1; go_at_call 6; refine hi1.mono ?_; rintro e w2 ⟨so1, sn1, sc1, rfl, hb2', HS1⟩; have hb12 := hb11.trans (hb2'.mono hb11.size); have hi2 := HI2.out w2 hb12)
      | (go_at_call 6; refine hi2.mono ?_; rintro e w3 ⟨lo1, ln1, lc1, rfl, hb3, HL1⟩; have hb13 := hb12.trans (hb3.mono hb12.size); have hru := HRu.out w1 w2 w3 _ _ _ _ _ _ hb13 (hb2'.trans (hb3.mono hb2'.size)) hb3 HV1.out HS1.out HL1.out)
      | (go_at_call 4; refine hru.mono ?_; rintro e w4 ⟨rfl, hb4⟩; have hb14 := hb13.trans (hb4.mono hb13.size)))
  obtain ⟨⟨⟨k0, k1, k2, k3⟩, k4, k5⟩, _⟩ := HC.out w4 hb14
  have hro := HRo.out w4 hb14
  go_wp2_with (go_at_call 7; refine hro.mono ?_; rintro e w5 ⟨rfl, hb5⟩)
  all_goals go_ret
  all_goals exact ⟨by first | rfl | simp, HE.out _ (hb14.trans (hb5.mono hb14.size))⟩

set_option maxRecDepth 20000 in

theorem verdictKeeps_contract (H : Type) (enc : TypeId × Value → H) (W : World) (base : Nat) (args : Array Value) (ds gs : List (DataW H)) (before : List MemPlace)
    (hval : ∀ (j : Nat) t v, Tryz.f3.params[j]? = some t → args[j]? = some v → Value.okWide Tryz.prog W .any base t v)
    (hW : DataW.Whole enc Tryz.prog Tryz.f3.params.toList Rows.verdictKeepsSpec.vars false W args.toList ds gs before)
    (hsz0 : (DataW.weightsEach Tryz.prog (Tryz.f3.params.toList ++ (OpenSpec.ofChange Rows.verdictKeepsSpec).bare.plain.varTypes Tryz.prog) (ds ++ gs)).all (· ≤ reachBytes) = true)
    (hL : laidMetH Tryz.prog Rows.verdictKeepsRow.laid W) :
    Calls Tryz.prog 3 args W fun e W' => ∃ v, e = .returned v ∧ Rows.verdictKeepsSpec.post enc Tryz.prog Tryz.f3 false true false false W args v W' := by
  have hW' := hW
  obtain ⟨p, q, hA0, hV, rfl, hfz, hnd⟩ := hW
  have hA : DataW.TrodAll enc Tryz.prog W 0 (fun _ => true) true Tryz.f3.params.toList args.toList ds p := hA0
  rw [Tryz.params3] at hA hval
  obtain ⟨v0, vs0, d0, ds0, p0, q0, hargs, rfl, rfl, h0, r0⟩ := trodAll_cons hA
  obtain ⟨v1, vs1, d1, ds1, p1, q1, rfl, rfl, rfl, h1, r1⟩ := trodAll_cons r0
  obtain ⟨rfl, rfl, rfl⟩ := trodAll_nil r1
  obtain rfl : args = #[v0, v1] := by cases args; simp_all
  obtain ⟨rfl, rfl⟩ := trodVars_none hV
  have hsz : (DataW.weightsEach Tryz.prog [29, 32] [d0, d1]).all (· ≤ reachBytes) = true := hsz0
  obtain ⟨va, vr, pv, fv, m, ps, l, rfl, hm, hmz, ⟨hp, hp1, hp2⟩, hf, hfz⟩ := open_task (hval 0 29 v0 rfl rfl) h0 hsz (j := 0) rfl rfl
  obtain ⟨sv, lv, ss, ll, rfl, hS, hP, hzs, hzl, _⟩ := open_lasso (hval 1 32 v1 rfl rfl) h1 hsz (j := 1) rfl rfl
  have hT := tabAt hL
  refine (verdictKeeps_walk va vr pv fv sv lv m ps l ss ll W (tab_size hT) hT ⟨hmz, hp1, hp2, hfz⟩ ⟨hm, hp, hf⟩ hS hP hzs hzl).mono fun e W' ⟨he, hb⟩ => ⟨_, he, ?_⟩
  refine law_post (fun t ht => ?_) rfl (by kernel_rfl) hW' rfl rfl rfl hb
  rw [Tryz.params3] at ht
  simp only [List.mem_cons, List.not_mem_nil, or_false] at ht
  rcases ht with rfl | rfl
  · exact ⟨by kernel_rfl, of_decide_eq_true (by kernel_rfl)⟩
  · exact ⟨by kernel_rfl, of_decide_eq_true (by kernel_rfl)⟩

/-- A WORLD FOR THE WITNESS: the settled one, the table (block 0) holding what its initialiser lays. -/
noncomputable def verdictKeepsWorld (os : Os) : World :=
  { World.holding Tryz.prog os ⟨#[], #[], []⟩ with heap := (World.holding Tryz.prog os ⟨#[], #[], []⟩).heap.modify 0 fun
      | .cells _ t frozen => .cells #[.int .i64 0, .int .i64 0, .int .i64 0, .int .i64 2, .int .i64 2, .int .i64 2, .int .i64 2, .int .i64 2, .int .i64 2, .int .i64 2, .int .i64 1, .int .i64 0, .int .i64 0, .int .i64 0, .int .i64 1, .int .i64 2, .int .i64 2, .int .i64 1, .int .i64 1] t frozen
      | o => o }
theorem verdictKeeps_met (os : Os) : laidMet Tryz.prog Rows.verdictKeepsRow.laid ((verdictKeepsWorld os).forCall (fun _ _ => 0) ⟨#[], #[.agg #[.slice none 0 0, .slice none 0 0, .slice none 0 0, .slice none 0 0], .agg #[.slice none 0 0, .slice none 0 0]], []⟩).memory :=
  laidMet_of_run' 8 (by kernel_rfl) (by kernel_rfl)
theorem verdictKeeps_reads (os : Os) {H : Type} (enc : TypeId × Value → H) : ∃ places, DataW.whole enc Tryz.prog ((verdictKeepsWorld os).forCall (fun _ _ => 0) ⟨#[], #[.agg #[.slice none 0 0, .slice none 0 0, .slice none 0 0, .slice none 0 0], .agg #[.slice none 0 0, .slice none 0 0]], []⟩).memory Tryz.f3.params.toList Rows.verdictKeepsSpec.vars false #[Value.agg #[.slice none 0 0, .slice none 0 0, .slice none 0 0, .slice none 0 0], .agg #[.slice none 0 0, .slice none 0 0]].toList 8 = some ([.agg [.agg [.nil, .nil], .nil, .nil], .agg [.nil, .nil]], [], places) :=
  ⟨[], by kernel_rfl⟩

set_option maxRecDepth 100000 in
theorem verdictKeeps_lifted (os : Os) (started : os.Started) (H : Type) (enc : TypeId × Value → H) (F : Stop.Interp) :
    ReturnsInHanded {} Tryz.checked os 3 .any ((OpenSpec.ofChange Rows.verdictKeepsSpec).preRow enc Tryz.prog Tryz.f3 Rows.verdictKeepsRow.domain false Rows.verdictKeepsRow.laid) (((OpenSpec.ofChange Rows.verdictKeepsSpec).at F).post enc Tryz.prog Tryz.f3 false true false false) := by
  obtain ⟨places, hx⟩ := verdictKeeps_reads os enc
  refine returnsInHanded_of_row (C := Tryz.checked) (s := OpenSpec.ofChange Rows.verdictKeepsSpec) own started (by kernel_rfl) Tryz.func3
    (witness_row_at (enc := enc) (C := Tryz.checked) false (verdictKeepsWorld os) #[.agg #[.slice none 0 0, .slice none 0 0, .slice none 0 0, .slice none 0 0], .agg #[.slice none 0 0, .slice none 0 0]] rfl (by kernel_rfl) (by kernel_rfl) (by kernel_rfl)
      (OpenSpec.preRow_of_cond 8 hx (by kernel_rfl) (fun k hk => by cases hk) (by kernel_rfl) (verdictKeeps_met os))) ?_
  intro W base args ds gs before hval hW _ _ hsz hL _ _
  exact verdictKeeps_contract H enc W base args ds gs before hval hW hsz hL

theorem verdictKeeps_said : Rows.VerdictKeepsSaid :=
  OpenClaim.holds_of_cond 3 Tryz.f3 rfl rfl rfl rfl rfl rfl rfl ⟨rfl, rfl, rfl, rfl, rfl⟩ rfl rfl rfl rfl rfl (by kernel_rfl) Tryz.func3 (by kernel_rfl)
    (of_decide_eq_true (by kernel_rfl)) (by unfold Func.isWrapper; first | (rw [if_pos (by decide +kernel)]; kernel_rfl) | (rw [if_neg (by decide +kernel)]; exact ⟨rfl, rfl⟩))
    (fun os started H enc _ F => by rw [OpenClaim.pre_eq_preRow]; exact verdictKeeps_lifted os started H enc F)

theorem verdictKeeps_plain (f : FuncId) (fn : Func) (hf : Tryz.pinned.checked.prog.funcNamed "foretell/foretelllaw.VerdictKeeps" = some f) (hfn : Tryz.pinned.checked.prog.funcs[f]? = some fn) :
    true = Tryz.pinned.checked.prog.looks [] ∧ ∀ (j : Nat) t, fn.params[j]? = some t → Tryz.pinned.checked.prog.wantsStandIn t = false := by
  obtain rfl : f = 3 := Option.some.inj ((show Tryz.prog.funcNamed "foretell/foretelllaw.VerdictKeeps" = some 3 by kernel_rfl).symm.trans hf) |>.symm
  obtain rfl : fn = Tryz.f3 := (Option.some.inj (Tryz.func3.symm.trans hfn)).symm
  refine ⟨by kernel_rfl, fun j t ht => ?_⟩
  rw [Tryz.params3] at ht
  have ht' := Array.mem_of_getElem? ht
  simp only [List.mem_toArray, List.mem_cons, List.not_mem_nil, or_false] at ht'
  rcases ht' with rfl | rfl
  · exact (show Tryz.prog.wantsStandIn 29 = false by kernel_rfl)
  · exact (show Tryz.prog.wantsStandIn 32 = false by kernel_rfl)

/-- THE CARD. -/
theorem verdictKeeps_card : Rows.VerdictKeepsCardSaid :=
  Claim7.holds_tied_plain_at .later [] _ _ _ _ verdictKeeps_said (fun _ h => by cases h) (by kernel_rfl) (fun _ h => by cases h) verdictKeeps_row_tie rfl ⟨rfl, rfl⟩ (by kernel_rfl) rfl verdictKeeps_plain (by kernel_rfl)
#print axioms verdictKeeps_card
end Go.Proofs.YtnicbkkkecfdpaaGreatDoor
