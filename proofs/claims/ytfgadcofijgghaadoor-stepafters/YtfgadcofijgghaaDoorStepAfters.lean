/-
  Proved: foretelllaw.StepAfters answers true at every model, every code and every place of a rule (step.After answers as the document's P4.1 does, and leaves the model as it was), given that the table polish.partCounts reads as its initialiser lays it, which the card ties to the program's text. No other condition.
-/
import Derived.Test.YtfgadcofijgghaaDoorCards
import Derived.Test.YtfgadcofijgghaaDoorTie
import Derived.Test.YtfgadcofijgghaaDoorRow
import Derived.Test.YtfgadcofijgghaaDoorModelOpen
import Derived.Test.YtfgadcofijgghaaDoorModelsOf
import Derived.Test.YtfgadcofijgghaaDoorStepAfter
import Derived.Test.YtfgadcofijgghaaDoorLate
namespace Go.Proofs.YtfgadcofijgghaaDoor
open Go.ChangeShapes Go.WideShapes Go.ChangeAt Go.RowKit Go.Deep
open Terms Tm

set_option maxHeartbeats 3200000 in
set_option maxRecDepth 20000 in
theorem stepAfters_walk (va vr : Value) (m : Mo) (code rule : Int) (w : World) (hB : 0 < w.heap.size) (hT : TabAt w) (hV : ModelV w va vr m) (hZ : MoSz m) :
    Calls Tryd.prog 3 #[.agg #[va, vr], .int .i64 code, .int .i64 rule] w fun e w' => e = .returned (.bool true) ∧ Below w.heap.size w w' := by
  have hA : ∀ o, Below w.heap.size w (w.alloc o) := fun o => (Below.refl _ _).alloc (Nat.le_refl _) o
  have hmo := fun o => models_any va vr m (w.alloc o) hZ (hV.below (hA o))
  have HV : Hid (ModelV w va vr m) := hV
  have HT : Hid (TabAt w) := hT
  obtain ⟨ao, cap, rfl⟩ := hV.1.shape
  obtain ⟨ro, rc, rfl⟩ := hV.2.shape
  have hvl : ∃ n rn, n = m.vars.length ∧ rn = m.rules.length := ⟨_, _, rfl, rfl⟩
  obtain ⟨n, rn, hn, hrn⟩ := hvl
  have HN : Hid (n = m.vars.length ∧ rn = m.rules.length) := ⟨hn, hrn⟩
  rw [← hn, ← hrn] at hmo HV ⊢
  clear hV hT hn hrn
  go_enter Tryd.func3, Tryd.ntmps3
  go_wp2_with (go_at_call 7; refine (hmo _).mono ?_; rintro e w1 ⟨va', vr', rfl, hb1, hV1⟩; obtain ⟨ao1, cap1, rfl⟩ := hV1.1.shape; obtain ⟨ro1, rc1, rfl⟩ := hV1.2.shape; rw [← HN.out.1, ← HN.out.2] at *)
  have hbw1 := (hA _).trans (hb1.mono (hA _).size)
  have hs1 : w.heap.size < w1.heap.size := (by have := hb1.size; simp at this; omega)
  have hA1 : ∀ o, Below w1.heap.size w1 (w1.alloc o) := fun o => (Below.refl _ _).alloc (Nat.le_refl _) o
  have hc0 : w1.cell? ⟨w.heap.size, 0, none⟩ = some (.slice ao n cap) := (hb1.cell (p := ⟨w.heap.size, 0, none⟩) (by simp)).trans (by simp [go_sem])
  have hc1 : w1.cell? ⟨w.heap.size, 1, none⟩ = some (.slice ro rn rc) := (hb1.cell (p := ⟨w.heap.size, 1, none⟩) (by simp)).trans (by simp [go_sem])
  have hcells : ∀ w2, Below (w1.heap.size + 1) (w1.alloc (.cells #[.slice ao1 n cap1, .slice ro1 rn rc1] 25)) w2 → w2.cell? ⟨w.heap.size, 0, none⟩ = some (.slice ao n cap) ∧ w2.cell? ⟨w.heap.size, 1, none⟩ = some (.slice ro rn rc) ∧ w2.cell? ⟨w1.heap.size, 0, none⟩ = some (.slice ao1 n cap1) ∧ w2.cell? ⟨w1.heap.size, 1, none⟩ = some (.slice ro1 rn rc1) := fun w2 h2 => by
    refine ⟨?_, ?_, ?_, ?_⟩
    · exact (h2.cell (p := ⟨w.heap.size, 0, none⟩) (by simp only; omega)).trans (((hA1 _).cell (p := ⟨w.heap.size, 0, none⟩) hs1).trans hc0)
    · exact (h2.cell (p := ⟨w.heap.size, 1, none⟩) (by simp only; omega)).trans (((hA1 _).cell (p := ⟨w.heap.size, 1, none⟩) hs1).trans hc1)
    · exact (h2.cell (p := ⟨w1.heap.size, 0, none⟩) (by simp)).trans (by simp [go_sem])
    · exact (h2.cell (p := ⟨w1.heap.size, 1, none⟩) (by simp)).trans (by simp [go_sem])
  have hbwA := fun o => hbw1.trans ((hA1 o).mono hbw1.size)
  have hcc := fun o => after_any _ _ m code rule (w1.alloc o) (Nat.lt_of_lt_of_le hB (hbwA o).size) (HT.out.below (hbwA o) hB) (hV1.below (hA1 o))
  have hrr := fun w2 (hb : Below w.heap.size w w2) => rafter_any _ _ m code rule w2 (HV.out.below hb) (by have := hZ.2.1; omega)
  have hsm := fun w3 (hb : Below w.heap.size w w3) (hb' : Below w1.heap.size w1 w3) => sameModel_b _ _ _ _ m w3 hZ (hV1.below hb') (HV.out.below hb)
  generalize aftN m code rule = x at hcc hrr
  generalize aftC m code rule = y at hcc hrr
  clear hmo hb1 hc0 hc1 hV1
  go_wp2_with (first | (go_at_call 8; refine (hcc _).mono ?_; rintro e w2 ⟨rfl, hb2⟩; have hB2 : Below (w1.heap.size + 1) (w1.alloc (.cells #[.slice ao1 n cap1, .slice ro1 rn rc1] 25)) w2 := hb2.mono (by simp); have hbx2 : Below w1.heap.size w1 w2 := (hA1 _).trans (hB2.mono (Nat.le_succ _)); have hbw2 := hbw1.trans (hbx2.mono hbw1.size); obtain ⟨c20, c21, c22, c23⟩ := hcells w2 hB2) | (go_at_call 9; refine (hrr _ hbw2).mono ?_; rintro e w3 ⟨rfl, hb3⟩; have hB3 := hB2.trans (hb3.mono (by have := hB2.size; simp at this; omega)); have hbx3 : Below w1.heap.size w1 w3 := (hA1 _).trans (hB3.mono (Nat.le_succ _)); have hbw3 := hbw1.trans (hbx3.mono hbw1.size); obtain ⟨c30, c31, c32, c33⟩ := hcells w3 hB3) | (go_at_call 10; refine (hsm _ hbw3 hbx3).mono ?_; rintro e w4 ⟨rfl, hb4⟩))
  all_goals go_ret
  all_goals exact ⟨by first | rfl | simp, hbw3.trans (hb4.mono hbw3.size)⟩


set_option maxRecDepth 20000 in
theorem stepAfters_contract (H : Type) (enc : TypeId × Value → H) (W : World) (base : Nat) (args : Array Value) (ds gs : List (DataW H)) (before : List MemPlace)
    (hval : ∀ (j : Nat) t v, Tryd.f3.params[j]? = some t → args[j]? = some v → Value.okWide Tryd.prog W .any base t v)
    (hW : DataW.Whole enc Tryd.prog Tryd.f3.params.toList Rows.stepAftersSpec.vars false W args.toList ds gs before)
    (hsz0 : (DataW.weightsEach Tryd.prog (Tryd.f3.params.toList ++ (OpenSpec.ofChange Rows.stepAftersSpec).bare.plain.varTypes Tryd.prog) (ds ++ gs)).all (· ≤ reachBytes) = true)
    (hL : laidMetH Tryd.prog Rows.stepAftersRow.laid W) :
    Calls Tryd.prog 3 args W fun e W' => ∃ v, e = .returned v ∧ Rows.stepAftersSpec.post enc Tryd.prog Tryd.f3 false true false false W args v W' := by
  have hW' := hW
  obtain ⟨p, q, hA0, hV, rfl, hfz, hnd⟩ := hW
  have hA : DataW.TrodAll enc Tryd.prog W 0 (fun _ => true) true Tryd.f3.params.toList args.toList ds p := hA0
  rw [Tryd.params3] at hA hval
  obtain ⟨v0, vs0, d0, ds0, p0, q0, hargs, rfl, rfl, h0, r0⟩ := trodAll_cons hA
  obtain ⟨v1, vs1, d1, ds1, p1, q1, rfl, rfl, rfl, h1, r1⟩ := trodAll_cons r0
  obtain ⟨v2, vs2, d2, ds2, p2, q2, rfl, rfl, rfl, h2, r2⟩ := trodAll_cons r1
  obtain ⟨rfl, rfl, rfl⟩ := trodAll_nil r2
  obtain rfl : args = #[v0, v1, v2] := by cases args; simp_all
  obtain ⟨rfl, rfl⟩ := trodVars_none hV
  have hsz : (DataW.weightsEach Tryd.prog [25, 3, 3] [d0, d1, d2]).all (· ≤ reachBytes) = true := hsz0
  obtain ⟨va, vr, m, rfl, hV, hZ⟩ := open_model (hval 0 25 v0 rfl rfl) h0 hsz (j := 0) rfl rfl
  obtain ⟨code, rfl, rfl, rfl, wf1⟩ := open_int Tryd.underlying3 (hval 1 3 v1 rfl rfl) h1
  obtain ⟨rule, rfl, rfl, rfl, wf2⟩ := open_int Tryd.underlying3 (hval 2 3 v2 rfl rfl) h2
  have hT := tabAt hL
  refine (stepAfters_walk va vr m code rule W (tab_size hT) hT hV hZ).mono fun e W' ⟨he, hb⟩ => ⟨_, he, ?_⟩
  refine law_post (fun t ht => ?_) rfl (by kernel_rfl) hW' rfl rfl rfl hb
  rw [Tryd.params3] at ht
  simp only [List.mem_cons, List.not_mem_nil, or_false] at ht
  rcases ht with rfl | rfl | rfl
  · exact ⟨by kernel_rfl, of_decide_eq_true (by kernel_rfl)⟩
  · exact ⟨by kernel_rfl, of_decide_eq_true (by kernel_rfl)⟩
  · exact ⟨by kernel_rfl, of_decide_eq_true (by kernel_rfl)⟩

/-- A WORLD FOR THE WITNESS: the settled one, the table (block 0) holding what its initialiser lays. -/
noncomputable def stepAftersWorld (os : Os) : World :=
  { World.holding Tryd.prog os ⟨#[], #[], []⟩ with heap := (World.holding Tryd.prog os ⟨#[], #[], []⟩).heap.modify 0 fun
      | .cells _ t frozen => .cells #[.int .i64 0, .int .i64 0, .int .i64 0, .int .i64 2, .int .i64 2, .int .i64 2, .int .i64 2, .int .i64 2, .int .i64 2, .int .i64 2, .int .i64 1, .int .i64 0, .int .i64 0, .int .i64 0, .int .i64 1, .int .i64 2, .int .i64 2, .int .i64 1, .int .i64 1] t frozen
      | o => o }
set_option maxRecDepth 20000 in
theorem stepAfters_met (os : Os) : laidMet Tryd.prog Rows.stepAftersRow.laid ((stepAftersWorld os).forCall (fun _ _ => 0) ⟨#[], #[.agg #[.slice none 0 0, .slice none 0 0], .int .i64 0, .int .i64 0], []⟩).memory :=
  laidMet_of_run' 8 (by kernel_rfl) (by kernel_rfl)
set_option maxRecDepth 20000 in
theorem stepAfters_reads (os : Os) {H : Type} (enc : TypeId × Value → H) : ∃ places, DataW.whole enc Tryd.prog ((stepAftersWorld os).forCall (fun _ _ => 0) ⟨#[], #[.agg #[.slice none 0 0, .slice none 0 0], .int .i64 0, .int .i64 0], []⟩).memory Tryd.f3.params.toList Rows.stepAftersSpec.vars false #[Value.agg #[.slice none 0 0, .slice none 0 0], .int .i64 0, .int .i64 0].toList 8 = some ([.agg [.nil, .nil], .lit (.int .i64 0), .lit (.int .i64 0)], [], places) :=
  ⟨[], by kernel_rfl⟩

set_option maxRecDepth 100000 in
theorem stepAfters_lifted (os : Os) (started : os.Started) (H : Type) (enc : TypeId × Value → H) (F : Stop.Interp) :
    ReturnsInHanded {} Tryd.checked os 3 .any ((OpenSpec.ofChange Rows.stepAftersSpec).preRow enc Tryd.prog Tryd.f3 Rows.stepAftersRow.domain false Rows.stepAftersRow.laid) (((OpenSpec.ofChange Rows.stepAftersSpec).at F).post enc Tryd.prog Tryd.f3 false true false false) := by
  obtain ⟨places, hx⟩ := stepAfters_reads os enc
  refine returnsInHanded_of_row (C := Tryd.checked) (s := OpenSpec.ofChange Rows.stepAftersSpec) own started (by kernel_rfl) Tryd.func3
    (witness_row_at (enc := enc) (C := Tryd.checked) false (stepAftersWorld os) #[.agg #[.slice none 0 0, .slice none 0 0], .int .i64 0, .int .i64 0] rfl (by kernel_rfl) (by kernel_rfl) (by kernel_rfl)
      (OpenSpec.preRow_of_cond 8 hx (by kernel_rfl) (fun k hk => by cases hk) (by kernel_rfl) (stepAfters_met os))) ?_
  intro W base args ds gs before hval hW _ _ hsz hL _ _
  exact stepAfters_contract H enc W base args ds gs before hval hW hsz hL

set_option maxRecDepth 20000 in
theorem stepAfters_said : Rows.StepAftersSaid :=
  OpenClaim.holds_of_cond 3 Tryd.f3 rfl rfl rfl rfl rfl rfl rfl ⟨rfl, rfl, rfl, rfl, rfl⟩ rfl rfl rfl rfl rfl (by kernel_rfl) Tryd.func3 (by kernel_rfl)
    (of_decide_eq_true (by kernel_rfl)) (by unfold Func.isWrapper; first | (rw [if_pos (by decide +kernel)]; kernel_rfl) | (rw [if_neg (by decide +kernel)]; exact ⟨rfl, rfl⟩))
    (fun os started H enc _ F => by rw [OpenClaim.pre_eq_preRow]; exact stepAfters_lifted os started H enc F)

set_option maxRecDepth 20000 in
theorem stepAfters_plain (f : FuncId) (fn : Func) (hf : Tryd.pinned.checked.prog.funcNamed "foretell/foretelllaw.StepAfters" = some f) (hfn : Tryd.pinned.checked.prog.funcs[f]? = some fn) :
    true = Tryd.pinned.checked.prog.looks [] ∧ ∀ (j : Nat) t, fn.params[j]? = some t → Tryd.pinned.checked.prog.wantsStandIn t = false := by
  obtain rfl : f = 3 := Option.some.inj ((show Tryd.prog.funcNamed "foretell/foretelllaw.StepAfters" = some 3 by kernel_rfl).symm.trans hf) |>.symm
  obtain rfl : fn = Tryd.f3 := (Option.some.inj (Tryd.func3.symm.trans hfn)).symm
  refine ⟨by kernel_rfl, fun j t ht => ?_⟩
  rw [Tryd.params3] at ht
  have ht' := Array.mem_of_getElem? ht
  simp only [List.mem_toArray, List.mem_cons, List.not_mem_nil, or_false] at ht'
  rcases ht' with rfl | rfl | rfl
  · exact (show Tryd.prog.wantsStandIn 25 = false by kernel_rfl)
  · exact (show Tryd.prog.wantsStandIn 3 = false by kernel_rfl)
  · exact (show Tryd.prog.wantsStandIn 3 = false by kernel_rfl)

set_option maxRecDepth 20000 in
/-- THE CARD. -/
theorem stepAfters_card : Rows.StepAftersCardSaid :=
  Claim7.holds_tied_plain_at .later [] _ _ _ _ stepAfters_said (fun _ h => by cases h) (by kernel_rfl) (fun _ h => by cases h) stepAfters_row_tie rfl ⟨rfl, rfl⟩ (by kernel_rfl) rfl stepAfters_plain (by kernel_rfl)
#print axioms stepAfters_card
end Go.Proofs.YtfgadcofijgghaaDoor
