/-
  Proved: foretelllaw.VerdictRuns answers true at every model and every lasso of states (verdict.Runs answers as the document's P9.2 does). Given that the table polish.partCounts reads as its initialiser lays it, which the card ties to the program's text, and that the arguments are of bulk at most 1048576 (the given statement's own bound). No other condition.
-/
import Derived.Test.YtnicbkkkecfdpaaDoorCards
import Derived.Test.YtnicbkkkecfdpaaDoorTie
import Derived.Test.YtnicbkkkecfdpaaDoorRow
import Derived.Test.YtnicbkkkecfdpaaDoorModelOpen
import Derived.Test.YtnicbkkkecfdpaaDoorModelsOf
import Derived.Test.YtnicbkkkecfdpaaDoorLassoOpen
import Derived.Test.YtnicbkkkecfdpaaDoorLateA
import Derived.Test.YtnicbkkkecfdpaaDoorLateB
namespace Go.Proofs.YtnicbkkkecfdpaaDoor
open Go.ChangeShapes Go.WideShapes Go.ChangeAt Go.RowKit Go.Deep
open Terms Tm

set_option maxHeartbeats 3200000 in
set_option maxRecDepth 20000 in
theorem verdictRuns_walk (va vr sv lv : Value) (m : Mo) (ss ll : List Int) (w : World) (hB : 0 < w.heap.size) (hT : TabAt w) (hV : ModelV w va vr m) (hZ : MoSz m) (hS : IntsW w sv ss) (hP : IntsW w lv ll) (hzs : ss.length * 8 ≤ 140737488355328) (hzl : ll.length * 8 ≤ 140737488355328) (hz : ss.length + ll.length ≤ 1048576) :
    Calls Tryd.prog 3 #[.agg #[va, vr], .agg #[sv, lv]] w fun e w' => e = .returned (.bool true) ∧ Below w.heap.size w w' := by
  obtain ⟨W2, hW2⟩ : ∃ W2, W2 = (w.alloc (.cells #[va, vr] 25)).alloc (.cells #[sv, lv] 28) := ⟨_, rfl⟩
  have hb2 : Below w.heap.size w W2 := by rw [hW2]; exact ((Below.refl _ _).alloc (Nat.le_refl _) _).alloc (by simp) _
  have hz2 : W2.heap.size = w.heap.size + 2 := by rw [hW2]; simp
  have HC : Hid (∀ w1, Below W2.heap.size W2 w1 → (w1.cell? ⟨w.heap.size, 0, none⟩ = some va ∧ w1.cell? ⟨w.heap.size, 1, none⟩ = some vr ∧ w1.cell? ⟨w.heap.size + 1, 0, none⟩ = some sv ∧ w1.cell? ⟨w.heap.size + 1, 1, none⟩ = some lv) ∧ Below W2.heap.size W2 w1) := fun w1 h => by
    have hl : w.heap.size < W2.heap.size := by omega
    have hl1 : w.heap.size + 1 < W2.heap.size := by omega
    refine ⟨⟨(h.cell (p := ⟨w.heap.size, 0, none⟩) hl).trans ?_, (h.cell (p := ⟨w.heap.size, 1, none⟩) hl).trans ?_, (h.cell (p := ⟨w.heap.size + 1, 0, none⟩) hl1).trans ?_, (h.cell (p := ⟨w.heap.size + 1, 1, none⟩) hl1).trans ?_⟩, h⟩ <;> (rw [hW2]; simp [go_sem])
  have HE : Hid (∀ w1, Below W2.heap.size W2 w1 → Below w.heap.size w w1) := fun w1 h => hb2.trans (h.mono hb2.size)
  have HMo : Hid (∀ w1, Below W2.heap.size W2 w1 → Calls Tryd.prog 5 #[.agg #[va, vr]] w1 fun e w' => ∃ ao an ac ro rn rc, e = .returned (.agg #[.slice ao an ac, .slice ro rn rc]) ∧ Below w1.heap.size w1 w' ∧ Hid (ModelV w' (.slice ao an ac) (.slice ro rn rc) m)) := fun w1 h => (models_any va vr m w1 hZ (hV.below (HE.out w1 h))).mono fun e w' ⟨va', vr', h1, h2, h3⟩ => by
    obtain ⟨ao, ac, rfl⟩ := h3.1.shape
    obtain ⟨ro, rc, rfl⟩ := h3.2.shape
    exact ⟨ao, _, ac, ro, _, rc, h1, h2, h3⟩
  have HI1 : Hid (∀ w1, Below W2.heap.size W2 w1 → Calls Tryd.prog 6 #[sv] w1 fun e w' => ∃ so sn sc, e = .returned (.slice so sn sc) ∧ Below w1.heap.size w1 w' ∧ Hid (IntsX w' (.slice so sn sc) ss)) := fun w1 h => (ints_any sv ss w1 hzs (hS.below2 (HE.out w1 h))).mono fun e w' ⟨v, h1, h2, h3⟩ => by
    obtain ⟨so, sc, rfl⟩ := owns_slice h3
    exact ⟨so, _, sc, h1, h2, intsX_of_owns h3⟩
  have HI2 : Hid (∀ w1, Below W2.heap.size W2 w1 → Calls Tryd.prog 6 #[lv] w1 fun e w' => ∃ so sn sc, e = .returned (.slice so sn sc) ∧ Below w1.heap.size w1 w' ∧ Hid (IntsX w' (.slice so sn sc) ll)) := fun w1 h => (ints_any lv ll w1 hzl (hP.below2 (HE.out w1 h))).mono fun e w' ⟨v, h1, h2, h3⟩ => by
    obtain ⟨so, sc, rfl⟩ := owns_slice h3
    exact ⟨so, _, sc, h1, h2, intsX_of_owns h3⟩
  have HRu : Hid (∀ (wa wb wc : World) (va vr sv lv : Value), Below W2.heap.size W2 wc → Below wa.heap.size wa wc → Below wb.heap.size wb wc → ModelV wa va vr m → IntsX wb sv ss → IntsX wc lv ll → Calls Tryd.prog 4 #[.agg #[va, vr], .agg #[sv, lv]] wc fun e w' => e = .returned (.tuple #[.bool (runB m ss ll), .int .i64 (mcode m)]) ∧ Below wc.heap.size wc w') := fun wa wb wc va vr sv lv h0 h1 h2 h3 h4 h5 => by
    have h9 := HE.out wc h0
    exact runs_any va vr sv lv m ss ll wc (Nat.lt_of_lt_of_le hB h9.size) (hT.below h9 hB) (h3.below h1) (h4.below h2) h5 (by omega)
  have HRo : Hid (∀ w1, Below W2.heap.size W2 w1 → Calls Tryd.prog 7 #[.agg #[va, vr], .agg #[sv, lv]] w1 fun e w' => e = .returned (.tuple #[.bool (runB m ss ll), .int .i64 (mcode m)]) ∧ Below w1.heap.size w1 w') := fun w1 h => by
    have h9 := HE.out w1 h
    obtain ⟨so, sc, rfl, _⟩ := id hS
    obtain ⟨lo, lc, rfl, _⟩ := id hP
    exact runsOn_any va vr so lo sc lc m ss ll w1 hZ.1 (hV.below h9) (hS.below2 h9).v (hP.below2 h9).v (by omega)
  obtain ⟨so, sc, rfl, _⟩ := id hS
  obtain ⟨lo, lc, rfl, _⟩ := id hP
  obtain ⟨ao, ac, rfl⟩ := hV.1.shape
  obtain ⟨ro, rc, rfl⟩ := hV.2.shape
  generalize runB m ss ll = res at *
  generalize mcode m = q at *
  generalize m.vars.length = vn at *
  generalize m.rules.length = rn at *
  generalize ss.length = sn at *
  generalize ll.length = ln at *
  clear hV hT hS hP hZ
  have hB0 : Below W2.heap.size W2 W2 := Below.refl _ _
  go_enter Tryd.func3, Tryd.ntmps3
  go_wp2_with fail
  rw [← hW2]
  clear hW2
  have tk1 := True.intro
  go_region_held3 (fun w1 => (w1.cell? ⟨w.heap.size, 0, none⟩ = some (.slice ao vn ac) ∧ w1.cell? ⟨w.heap.size, 1, none⟩ = some (.slice ro rn rc) ∧ w1.cell? ⟨w.heap.size + 1, 0, none⟩ = some (.slice so sn sc) ∧ w1.cell? ⟨w.heap.size + 1, 1, none⟩ = some (.slice lo ln lc)) ∧ Below W2.heap.size W2 w1)
    (exact HC.out _ (by first | exact hb14 | exact hb13 | exact hb12 | exact hb11 | exact hB0.drew | exact hB0))
    (first
      | (go_at_call 5; refine (HMo.out _ hB0.drew).mono ?_; rintro e w1 ⟨ao1, an1, ac1, ro1, rn1, rc1, rfl, hb1, HV1⟩; have hb11 := hB0.drew.trans (hb1.mono hB0.drew.size); have hi1 := HI1.out w1 hb11)
      | (clear tk1; go_at_call 6; refine hi1.mono ?_; rintro e w2 ⟨so1, sn1, sc1, rfl, hb2', HS1⟩; have hb12 := hb11.trans (hb2'.mono hb11.size); have hi2 := HI2.out w2 hb12)
      | (go_at_call 6; refine hi2.mono ?_; rintro e w3 ⟨lo1, ln1, lc1, rfl, hb3, HL1⟩; have hb13 := hb12.trans (hb3.mono hb12.size); have hru := HRu.out w1 w2 w3 _ _ _ _ hb13 (hb2'.trans (hb3.mono hb2'.size)) hb3 HV1.out HS1.out HL1.out)
      | (go_at_call 4; refine hru.mono ?_; rintro e w4 ⟨rfl, hb4⟩; have hb14 := hb13.trans (hb4.mono hb13.size)))
  obtain ⟨⟨k0, k1, k2, k3⟩, _⟩ := HC.out w4 hb14
  have hro := HRo.out w4 hb14
  go_wp2_with (go_at_call 7; refine hro.mono ?_; rintro e w5 ⟨rfl, hb5⟩)
  all_goals go_ret
  all_goals exact ⟨by first | rfl | simp, HE.out _ (hb14.trans (hb5.mono hb14.size))⟩

set_option maxRecDepth 20000 in
theorem verdictRuns_contract (H : Type) (enc : TypeId × Value → H) (W : World) (base : Nat) (args : Array Value) (ds gs : List (DataW H)) (before : List MemPlace)
    (hval : ∀ (j : Nat) t v, Tryd.f3.params[j]? = some t → args[j]? = some v → Value.okWide Tryd.prog W .any base t v)
    (hW : DataW.Whole enc Tryd.prog Tryd.f3.params.toList Rows.verdictRunsSpec.vars false W args.toList ds gs before)
    (hsz0 : (DataW.weightsEach Tryd.prog (Tryd.f3.params.toList ++ (Rows.OpenSpec.upto Rows.verdictRunsSpec).bare.plain.varTypes Tryd.prog) (ds ++ gs)).all (· ≤ reachBytes) = true)
    (hk : Rows.uptoSmall H (ds ++ gs) = true)
    (hL : laidMetH Tryd.prog Rows.verdictRunsUptoRow.laid W) :
    Calls Tryd.prog 3 args W fun e W' => ∃ v, e = .returned v ∧ Rows.verdictRunsSpec.post enc Tryd.prog Tryd.f3 false true false false W args v W' := by
  have hW' := hW
  obtain ⟨p, q, hA0, hV, rfl, hfz, hnd⟩ := hW
  have hA : DataW.TrodAll enc Tryd.prog W 0 (fun _ => true) true Tryd.f3.params.toList args.toList ds p := hA0
  rw [Tryd.params3] at hA hval
  obtain ⟨v0, vs0, d0, ds0, p0, q0, hargs, rfl, rfl, h0, r0⟩ := trodAll_cons hA
  obtain ⟨v1, vs1, d1, ds1, p1, q1, rfl, rfl, rfl, h1, r1⟩ := trodAll_cons r0
  obtain ⟨rfl, rfl, rfl⟩ := trodAll_nil r1
  obtain rfl : args = #[v0, v1] := by cases args; simp_all
  obtain ⟨rfl, rfl⟩ := trodVars_none hV
  have hsz : (DataW.weightsEach Tryd.prog [25, 28] [d0, d1]).all (· ≤ reachBytes) = true := hsz0
  obtain ⟨va, vr, m, rfl, hV, hZ⟩ := open_model (hval 0 25 v0 rfl rfl) h0 hsz (j := 0) rfl rfl
  have hbk : Rows.uptoBulk d1 ≤ 1048576 := by
    have h9 : Rows.uptoBulkAll ([d0, d1] ++ []) ≤ 1048576 := of_decide_eq_true hk
    simp only [List.append_nil, Rows.uptoBulkAll] at h9
    omega
  obtain ⟨sv, lv, ss, ll, rfl, hS, hP, hzs, hzl, hzb⟩ := open_lasso (hval 1 28 v1 rfl rfl) h1 hsz (j := 1) rfl rfl
  have hT := tabAt hL
  refine (verdictRuns_walk va vr sv lv m ss ll W (tab_size hT) hT hV hZ hS hP hzs hzl (Nat.le_trans hzb hbk)).mono fun e W' ⟨he, hb⟩ => ⟨_, he, ?_⟩
  refine law_post (fun t ht => ?_) rfl (by kernel_rfl) hW' rfl rfl rfl hb
  rw [Tryd.params3] at ht
  simp only [List.mem_cons, List.not_mem_nil, or_false] at ht
  rcases ht with rfl | rfl
  · exact ⟨by kernel_rfl, of_decide_eq_true (by kernel_rfl)⟩
  · exact ⟨by kernel_rfl, of_decide_eq_true (by kernel_rfl)⟩

/-- A WORLD FOR THE WITNESS: the settled one, the table (block 0) holding what its initialiser lays. -/
noncomputable def verdictRunsWorld (os : Os) : World :=
  { World.holding Tryd.prog os ⟨#[], #[], []⟩ with heap := (World.holding Tryd.prog os ⟨#[], #[], []⟩).heap.modify 0 fun
      | .cells _ t frozen => .cells #[.int .i64 0, .int .i64 0, .int .i64 0, .int .i64 2, .int .i64 2, .int .i64 2, .int .i64 2, .int .i64 2, .int .i64 2, .int .i64 2, .int .i64 1, .int .i64 0, .int .i64 0, .int .i64 0, .int .i64 1, .int .i64 2, .int .i64 2, .int .i64 1, .int .i64 1] t frozen
      | o => o }
theorem verdictRuns_met (os : Os) : laidMet Tryd.prog Rows.verdictRunsUptoRow.laid ((verdictRunsWorld os).forCall (fun _ _ => 0) ⟨#[], #[.agg #[.slice none 0 0, .slice none 0 0], .agg #[.slice none 0 0, .slice none 0 0]], []⟩).memory :=
  laidMet_of_run' 8 (by kernel_rfl) (by kernel_rfl)
theorem verdictRuns_reads (os : Os) {H : Type} (enc : TypeId × Value → H) : ∃ places, DataW.whole enc Tryd.prog ((verdictRunsWorld os).forCall (fun _ _ => 0) ⟨#[], #[.agg #[.slice none 0 0, .slice none 0 0], .agg #[.slice none 0 0, .slice none 0 0]], []⟩).memory Tryd.f3.params.toList Rows.verdictRunsSpec.vars false #[Value.agg #[.slice none 0 0, .slice none 0 0], .agg #[.slice none 0 0, .slice none 0 0]].toList 8 = some ([.agg [.nil, .nil], .agg [.nil, .nil]], [], places) :=
  ⟨[], by kernel_rfl⟩

set_option maxRecDepth 100000 in
theorem verdictRuns_lifted (os : Os) (started : os.Started) (H : Type) (enc : TypeId × Value → H) (F : Stop.Interp) :
    ReturnsInHanded {} Tryd.checked os 3 .any ((Rows.OpenSpec.upto Rows.verdictRunsSpec).preRow enc Tryd.prog Tryd.f3 Rows.verdictRunsUptoRow.domain false Rows.verdictRunsUptoRow.laid) (((Rows.OpenSpec.upto Rows.verdictRunsSpec).at F).post enc Tryd.prog Tryd.f3 false true false false) := by
  obtain ⟨places, hx⟩ := verdictRuns_reads os enc
  refine returnsInHanded_of_row (C := Tryd.checked) (s := Rows.OpenSpec.upto Rows.verdictRunsSpec) own started (by kernel_rfl) Tryd.func3
    (witness_row_at (enc := enc) (C := Tryd.checked) false (verdictRunsWorld os) #[.agg #[.slice none 0 0, .slice none 0 0], .agg #[.slice none 0 0, .slice none 0 0]] rfl (by kernel_rfl) (by kernel_rfl) (by kernel_rfl)
      (OpenSpec.preRow_of_cond 8 hx (by kernel_rfl) (fun k hk => by cases hk; kernel_rfl) (by kernel_rfl) (verdictRuns_met os))) ?_
  intro W base args ds gs before hval hW _ hcond hsz hL _ _
  exact verdictRuns_contract H enc W base args ds gs before hval hW hsz (hcond _ rfl) hL

theorem verdictRuns_said : Rows.VerdictRunsUptoSaid :=
  OpenClaim.holds_of_cond 3 Tryd.f3 rfl rfl rfl rfl rfl rfl rfl ⟨rfl, rfl, rfl, rfl, rfl⟩ rfl rfl rfl rfl rfl (by kernel_rfl) Tryd.func3 (by kernel_rfl)
    (of_decide_eq_true (by kernel_rfl)) (by unfold Func.isWrapper; first | (rw [if_pos (by decide +kernel)]; kernel_rfl) | (rw [if_neg (by decide +kernel)]; exact ⟨rfl, rfl⟩))
    (fun os started H enc _ F => by rw [OpenClaim.pre_eq_preRow]; exact verdictRuns_lifted os started H enc F)

theorem verdictRuns_plain (f : FuncId) (fn : Func) (hf : Tryd.pinned.checked.prog.funcNamed "foretell/foretelllaw.VerdictRuns" = some f) (hfn : Tryd.pinned.checked.prog.funcs[f]? = some fn) :
    true = Tryd.pinned.checked.prog.looks [] ∧ ∀ (j : Nat) t, fn.params[j]? = some t → Tryd.pinned.checked.prog.wantsStandIn t = false := by
  obtain rfl : f = 3 := Option.some.inj ((show Tryd.prog.funcNamed "foretell/foretelllaw.VerdictRuns" = some 3 by kernel_rfl).symm.trans hf) |>.symm
  obtain rfl : fn = Tryd.f3 := (Option.some.inj (Tryd.func3.symm.trans hfn)).symm
  refine ⟨by kernel_rfl, fun j t ht => ?_⟩
  rw [Tryd.params3] at ht
  have ht' := Array.mem_of_getElem? ht
  simp only [List.mem_toArray, List.mem_cons, List.not_mem_nil, or_false] at ht'
  rcases ht' with rfl | rfl
  · exact (show Tryd.prog.wantsStandIn 25 = false by kernel_rfl)
  · exact (show Tryd.prog.wantsStandIn 28 = false by kernel_rfl)

/-- THE CARD. -/
theorem verdictRuns_card : Rows.VerdictRunsUptoCardSaid :=
  Claim7.holds_tied_plain_at .later [] _ _ _ _ verdictRuns_said (fun _ h => by cases h) (by kernel_rfl) (fun _ h => by cases h) verdictRunsUpto_row_tie rfl ⟨rfl, rfl⟩ (by kernel_rfl) rfl verdictRuns_plain (by kernel_rfl)
#print axioms verdictRuns_card
end Go.Proofs.YtnicbkkkecfdpaaDoor
