/-
  Proved: foretelllaw.StepReaches answers true at every model (step.Reach answers as the document's P4.4 does), given that the table polish.partCounts reads as its initialiser lays it, which the card ties to the program's text. No other condition.
-/
import Derived.Test.YtbcjhkhndahdhaaDoorCards
import Derived.Test.YtbcjhkhndahdhaaDoorTie
import Derived.Test.YtbcjhkhndahdhaaDoorRow
import Derived.Test.YtbcjhkhndahdhaaDoorModelOpen
import Derived.Test.YtbcjhkhndahdhaaDoorModelsOf
import Derived.Test.YtbcjhkhndahdhaaDoorLate
namespace Go.Proofs.YtbcjhkhndahdhaaDoor
open Go.ChangeShapes Go.WideShapes Go.ChangeAt Go.RowKit Go.Deep
open Terms Tm

set_option maxHeartbeats 3200000 in
set_option maxRecDepth 20000 in
theorem stepReaches_walk (va vr : Value) (m : Mo) (w : World) (hB : 0 < w.heap.size) (hT : TabAt w) (hV : ModelV w va vr m) (hZ : MoSz m) :
    Calls Tryd.prog 3 #[.agg #[va, vr]] w fun e w' => e = .returned (.bool true) ∧ Below w.heap.size w w' := by
  have hA : ∀ o, Below w.heap.size w (w.alloc o) := fun o => (Below.refl _ _).alloc (Nat.le_refl _) o
  have hmo := fun o => models_any va vr m (w.alloc o) hZ (hV.below (hA o))
  have HV : Hid (ModelV w va vr m) := hV
  have HT : Hid (TabAt w) := hT
  have hr0 := fun (va1 vr1 : Value) (w2 : World) (h : ModelV w2 va1 vr1 m) => rreach_any va1 vr1 m w2 hZ.1 h
  have hwl : (reachL m).length ≤ 140737488355328 := by have h1 := reachL_length m; omega
  obtain ⟨ao, cap, rfl⟩ := hV.1.shape
  obtain ⟨ro, rc, rfl⟩ := hV.2.shape
  generalize m.vars.length = n at *
  generalize m.rules.length = rn at *
  clear hV hT
  go_enter Tryd.func3, Tryd.ntmps3
  go_wp2_with (go_at_call 5; refine (hmo _).mono ?_; rintro e w1 ⟨va', vr', rfl, hb1, hV1⟩; obtain ⟨ao1, cap1, rfl⟩ := hV1.1.shape; obtain ⟨ro1, rc1, rfl⟩ := hV1.2.shape)
  have hbw1 := (hA _).trans (hb1.mono (hA _).size)
  have hcc := reach_any _ _ m w1 (Nat.lt_of_lt_of_le hB hbw1.size) (HT.out.below hbw1 hB) hV1
  have hrr := fun w2 (hb : Below w.heap.size w w2) => hr0 _ _ w2 (HV.out.below hb)
  have hc0 : w1.cell? ⟨w.heap.size, 0, none⟩ = some (.slice ao n cap) := (hb1.cell (p := ⟨w.heap.size, 0, none⟩) (by simp)).trans (by simp [go_sem])
  have hc1 : w1.cell? ⟨w.heap.size, 1, none⟩ = some (.slice ro rn rc) := (hb1.cell (p := ⟨w.heap.size, 1, none⟩) (by simp)).trans (by simp [go_sem])
  have hs1 : w.heap.size < w1.heap.size := (by have := hb1.size; simp at this; omega)
  clear hb1 hmo hV1
  generalize mcode m = x at hcc hrr
  obtain ⟨l, hle⟩ : ∃ l, reachL m = l := ⟨_, rfl⟩
  rw [hle] at hcc hrr hwl
  clear hle
  obtain ⟨ln, hln⟩ : ∃ ln, ln = l.length := ⟨_, rfl⟩
  have HLN : Hid (ln = l.length) := hln
  clear hln
  have hsm := fun va vb w4 (h1 : IntsV w4 va l) (h2 : IntsV w4 vb l) => sameInts_b va vb l w4 hwl h1 h2
  go_wp2_with (first | (go_at_call 4; refine hcc.mono ?_; rintro e w2 ⟨v2, rfl, hb2, hI2⟩; obtain ⟨o2, cc2, hv2⟩ := hI2.shape; rw [← HLN.out] at hv2; subst hv2; have HI2 : Hid (IntsV w2 (.slice o2 ln cc2) l) := hI2; clear hI2; have hbw2 := hbw1.trans (hb2.mono hbw1.size); have hc20 := (hb2.cell (p := ⟨w.heap.size, 0, none⟩) hs1).trans hc0; have hc21 := (hb2.cell (p := ⟨w.heap.size, 1, none⟩) hs1).trans hc1) | (go_at_call 6; refine (hrr _ hbw2).mono ?_; rintro e w3 ⟨v3, rfl, hb3, HI3o⟩; have hI3 := HI3o.out; obtain ⟨o3, cc3, hv3⟩ := hI3.shape; rw [← HLN.out] at hv3; subst hv3; have HI3 : Hid (IntsV w3 (.slice o3 ln cc3) l) := hI3; clear hI3) | (go_at_call 7; refine (hsm _ _ _ (HI2.out.below hb3) HI3.out).mono ?_; rintro e w4 ⟨rfl, hb4⟩))
  all_goals go_ret
  all_goals exact ⟨by first | rfl | simp, (hbw2.trans (hb3.mono hbw2.size)).trans (hb4.mono (hbw2.trans (hb3.mono hbw2.size)).size)⟩



set_option maxRecDepth 20000 in
theorem stepReaches_contract (H : Type) (enc : TypeId × Value → H) (W : World) (base : Nat) (args : Array Value) (ds gs : List (DataW H)) (before : List MemPlace)
    (hval : ∀ (j : Nat) t v, Tryd.f3.params[j]? = some t → args[j]? = some v → Value.okWide Tryd.prog W .any base t v)
    (hW : DataW.Whole enc Tryd.prog Tryd.f3.params.toList Rows.stepReachesSpec.vars false W args.toList ds gs before)
    (hsz0 : (DataW.weightsEach Tryd.prog (Tryd.f3.params.toList ++ (OpenSpec.ofChange Rows.stepReachesSpec).bare.plain.varTypes Tryd.prog) (ds ++ gs)).all (· ≤ reachBytes) = true)
    (hL : laidMetH Tryd.prog Rows.stepReachesRow.laid W) :
    Calls Tryd.prog 3 args W fun e W' => ∃ v, e = .returned v ∧ Rows.stepReachesSpec.post enc Tryd.prog Tryd.f3 false true false false W args v W' := by
  have hW' := hW
  obtain ⟨p, q, hA0, hV, rfl, hfz, hnd⟩ := hW
  have hA : DataW.TrodAll enc Tryd.prog W 0 (fun _ => true) true Tryd.f3.params.toList args.toList ds p := hA0
  rw [Tryd.params3] at hA hval
  obtain ⟨v0, vs0, d0, ds0, p0, q0, hargs, rfl, rfl, h0, r0⟩ := trodAll_cons hA
  obtain ⟨rfl, rfl, rfl⟩ := trodAll_nil r0
  obtain rfl : args = #[v0] := by cases args; simp_all
  obtain ⟨rfl, rfl⟩ := trodVars_none hV
  have hsz : (DataW.weightsEach Tryd.prog [25] [d0]).all (· ≤ reachBytes) = true := hsz0
  obtain ⟨va, vr, m, rfl, hV, hZ⟩ := open_model (hval 0 25 v0 rfl rfl) h0 hsz (j := 0) rfl rfl
  have hT := tabAt hL
  refine (stepReaches_walk va vr m W (tab_size hT) hT hV hZ).mono fun e W' ⟨he, hb⟩ => ⟨_, he, ?_⟩
  refine law_post (fun t ht => ?_) rfl (by kernel_rfl) hW' rfl rfl rfl hb
  rw [Tryd.params3] at ht
  obtain rfl : t = 25 := by simpa using ht
  exact ⟨by kernel_rfl, of_decide_eq_true (by kernel_rfl)⟩

/-- A WORLD FOR THE WITNESS: the settled one, the table (block 0) holding what its initialiser lays. -/
noncomputable def stepReachesWorld (os : Os) : World :=
  { World.holding Tryd.prog os ⟨#[], #[], []⟩ with heap := (World.holding Tryd.prog os ⟨#[], #[], []⟩).heap.modify 0 fun
      | .cells _ t frozen => .cells #[.int .i64 0, .int .i64 0, .int .i64 0, .int .i64 2, .int .i64 2, .int .i64 2, .int .i64 2, .int .i64 2, .int .i64 2, .int .i64 2, .int .i64 1, .int .i64 0, .int .i64 0, .int .i64 0, .int .i64 1, .int .i64 2, .int .i64 2, .int .i64 1, .int .i64 1] t frozen
      | o => o }
set_option maxRecDepth 20000 in
theorem stepReaches_met (os : Os) : laidMet Tryd.prog Rows.stepReachesRow.laid ((stepReachesWorld os).forCall (fun _ _ => 0) ⟨#[], #[.agg #[.slice none 0 0, .slice none 0 0]], []⟩).memory :=
  laidMet_of_run' 8 (by kernel_rfl) (by kernel_rfl)
set_option maxRecDepth 20000 in
theorem stepReaches_reads (os : Os) {H : Type} (enc : TypeId × Value → H) : ∃ places, DataW.whole enc Tryd.prog ((stepReachesWorld os).forCall (fun _ _ => 0) ⟨#[], #[.agg #[.slice none 0 0, .slice none 0 0]], []⟩).memory Tryd.f3.params.toList Rows.stepReachesSpec.vars false #[Value.agg #[.slice none 0 0, .slice none 0 0]].toList 8 = some ([.agg [.nil, .nil]], [], places) :=
  ⟨[], by kernel_rfl⟩

set_option maxRecDepth 100000 in
theorem stepReaches_lifted (os : Os) (started : os.Started) (H : Type) (enc : TypeId × Value → H) (F : Stop.Interp) :
    ReturnsInHanded {} Tryd.checked os 3 .any ((OpenSpec.ofChange Rows.stepReachesSpec).preRow enc Tryd.prog Tryd.f3 Rows.stepReachesRow.domain false Rows.stepReachesRow.laid) (((OpenSpec.ofChange Rows.stepReachesSpec).at F).post enc Tryd.prog Tryd.f3 false true false false) := by
  obtain ⟨places, hx⟩ := stepReaches_reads os enc
  refine returnsInHanded_of_row (C := Tryd.checked) (s := OpenSpec.ofChange Rows.stepReachesSpec) own started (by kernel_rfl) Tryd.func3
    (witness_row_at (enc := enc) (C := Tryd.checked) false (stepReachesWorld os) #[.agg #[.slice none 0 0, .slice none 0 0]] rfl (by kernel_rfl) (by kernel_rfl) (by kernel_rfl)
      (OpenSpec.preRow_of_cond 8 hx (by kernel_rfl) (fun k hk => by cases hk) (by kernel_rfl) (stepReaches_met os))) ?_
  intro W base args ds gs before hval hW _ _ hsz hL _ _
  exact stepReaches_contract H enc W base args ds gs before hval hW hsz hL

set_option maxRecDepth 20000 in
theorem stepReaches_said : Rows.StepReachesSaid :=
  OpenClaim.holds_of_cond 3 Tryd.f3 rfl rfl rfl rfl rfl rfl rfl ⟨rfl, rfl, rfl, rfl, rfl⟩ rfl rfl rfl rfl rfl (by kernel_rfl) Tryd.func3 (by kernel_rfl)
    (of_decide_eq_true (by kernel_rfl)) (by unfold Func.isWrapper; first | (rw [if_pos (by decide +kernel)]; kernel_rfl) | (rw [if_neg (by decide +kernel)]; exact ⟨rfl, rfl⟩))
    (fun os started H enc _ F => by rw [OpenClaim.pre_eq_preRow]; exact stepReaches_lifted os started H enc F)

set_option maxRecDepth 20000 in
theorem stepReaches_plain (f : FuncId) (fn : Func) (hf : Tryd.pinned.checked.prog.funcNamed "foretell/foretelllaw.StepReaches" = some f) (hfn : Tryd.pinned.checked.prog.funcs[f]? = some fn) :
    true = Tryd.pinned.checked.prog.looks [] ∧ ∀ (j : Nat) t, fn.params[j]? = some t → Tryd.pinned.checked.prog.wantsStandIn t = false := by
  obtain rfl : f = 3 := Option.some.inj ((show Tryd.prog.funcNamed "foretell/foretelllaw.StepReaches" = some 3 by kernel_rfl).symm.trans hf) |>.symm
  obtain rfl : fn = Tryd.f3 := (Option.some.inj (Tryd.func3.symm.trans hfn)).symm
  refine ⟨by kernel_rfl, fun j t ht => ?_⟩
  rw [Tryd.params3] at ht
  have ht' := Array.mem_of_getElem? ht
  simp only [List.mem_toArray, List.mem_cons, List.not_mem_nil, or_false] at ht'
  subst ht'
  exact (show Tryd.prog.wantsStandIn 25 = false by kernel_rfl)

set_option maxRecDepth 20000 in
/-- THE CARD. -/
theorem stepReaches_card : Rows.StepReachesCardSaid :=
  Claim7.holds_tied_plain_at .later [] _ _ _ _ stepReaches_said (fun _ h => by cases h) (by kernel_rfl) (fun _ h => by cases h) stepReaches_row_tie rfl ⟨rfl, rfl⟩ (by kernel_rfl) rfl stepReaches_plain (by kernel_rfl)
#print axioms stepReaches_card
end Go.Proofs.YtbcjhkhndahdhaaDoor
