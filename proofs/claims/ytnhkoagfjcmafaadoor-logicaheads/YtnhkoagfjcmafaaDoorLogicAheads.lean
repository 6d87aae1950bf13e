/-
  Proved: foretelllaw.LogicAheads answers true at every list of ops and every number of propositions (logic.Ahead answers as the document's P5.3 does), given that the table polish.partCounts reads as its initialiser lays it, which the card ties to the program's text. No other condition.
-/
import Derived.Test.YtnhkoagfjcmafaaDoorCards
import Derived.Test.YtnhkoagfjcmafaaDoorTie
import Derived.Test.YtnhkoagfjcmafaaDoorRow
import Derived.Test.YtnhkoagfjcmafaaDoorOpsOf
import Derived.Test.YtnhkoagfjcmafaaDoorRefAhead
import Derived.Test.YtnhkoagfjcmafaaDoorSameInts
namespace Go.Proofs.YtnhkoagfjcmafaaDoor
open Go.ChangeShapes Go.WideShapes Go.ChangeAt Go.RowKit Go.Deep
open Terms

set_option maxRecDepth 20000 in
set_option maxHeartbeats 800000 in
theorem logicAheads_walk (v : Value) (l : List (Int × Int)) (props : Int) (w : World) (hl : l.length * 16 ≤ 140737488355328) (hB : 0 < w.heap.size) (hT : TabAt w) (hV : OpsV w v l) :
    Calls Tryd.prog 4 #[v, .int .i64 props] w fun e w' => e = .returned (.bool true) ∧ Below w.heap.size w w' := by
  have hops := ops_any v l w hl hV
  have HV : Hid (OpsV w v l) := hV
  have HT : Hid (TabAt w) := hT
  obtain ⟨va, vn, vc, hvs⟩ : ∃ a n c, v = .slice a n c := by obtain ⟨a, c, rfl, _⟩ := hV; exact ⟨_, _, _, rfl⟩
  subst hvs
  clear hV hT
  have hah : (ahL props l).length ≤ 140737488355328 := by
    unfold ahL
    split
    · have := aheadTo_length l l.length; unfold aheadL; omega
    · simp
  go_enter Tryd.func4, Tryd.ntmps4
  go_wp2_with (go_at_call 9; refine hops.mono ?_; rintro e w1 ⟨c, rfl, hb1, ho1⟩; obtain ⟨ca, cc, rfl⟩ := owns_slice ho1)
  have hch := lahead_any _ l props w1 (Nat.lt_of_lt_of_le hB hb1.size) (HT.out.below hb1 hB) (opsV_of_owns ho1)
  have hrc := fun w2 (hb : Below w.heap.size w w2) => aheadOf_any _ l props w2 (HV.out.below hb)
  clear hops ho1
  generalize lcode props l = x at hch hrc
  generalize ahL props l = ah at hch hrc hah
  go_wp2_with (first | (go_at_call 11; refine hch.mono ?_; rintro e w2 ⟨av, rfl, hb2, hi2⟩; have hb12 := hb1.trans (hb2.mono hb1.size); obtain ⟨ao, ac, rfl, hi2'⟩ := id hi2) | (go_at_call 12; refine (hrc _ hb12).mono ?_; rintro e w3 ⟨bv, rfl, hb3, ho3⟩; obtain ⟨bo, bc, rfl⟩ := owns_slice ho3; have hsm := sameInts_b _ _ ah w3 hah (hi2.below hb3) (intsV_of_owns ho3); have hb13 := hb12.trans (hb3.mono hb12.size)) | (go_at_call 13; refine hsm.mono ?_; rintro e w4 ⟨rfl, hb4⟩))
  go_ret
  exact ⟨by first | rfl | simp, hb13.trans (hb4.mono hb13.size)⟩

set_option maxRecDepth 20000 in
theorem logicAheads_contract (H : Type) (enc : TypeId × Value → H) (W : World) (base : Nat) (args : Array Value) (ds gs : List (DataW H)) (before : List MemPlace)
    (hval : ∀ (j : Nat) t v, Tryd.f4.params[j]? = some t → args[j]? = some v → Value.okWide Tryd.prog W .any base t v)
    (hW : DataW.Whole enc Tryd.prog Tryd.f4.params.toList Rows.logicAheadsSpec.vars false W args.toList ds gs before)
    (hsz0 : (DataW.weightsEach Tryd.prog (Tryd.f4.params.toList ++ (OpenSpec.ofChange Rows.logicAheadsSpec).bare.plain.varTypes Tryd.prog) (ds ++ gs)).all (· ≤ reachBytes) = true)
    (hL : laidMetH Tryd.prog Rows.logicAheadsRow.laid W) :
    Calls Tryd.prog 4 args W fun e W' => ∃ v, e = .returned v ∧ Rows.logicAheadsSpec.post enc Tryd.prog Tryd.f4 false true false false W args v W' := by
  have hW' := hW
  obtain ⟨p, q, hA0, hV, rfl, hfz, hnd⟩ := hW
  have hA : DataW.TrodAll enc Tryd.prog W 0 (fun _ => true) true Tryd.f4.params.toList args.toList ds p := hA0
  rw [Tryd.params4] at hA hval
  obtain ⟨v0, vs0, d0, ds0, p0, q0, hargs, rfl, rfl, h0, r0⟩ := trodAll_cons hA
  obtain ⟨v1, vs1, d1, ds1, p1, q1, rfl, rfl, rfl, h1, r1⟩ := trodAll_cons r0
  obtain ⟨rfl, rfl, rfl⟩ := trodAll_nil r1
  obtain rfl : args = #[v0, v1] := by cases args; simp_all
  obtain ⟨rfl, rfl⟩ := trodVars_none hV
  have hsz : (DataW.weightsEach Tryd.prog [22, 3] [d0, d1]).all (· ≤ reachBytes) = true := hsz0
  obtain ⟨l, hl, hlenl⟩ := open_ops (hval 0 22 v0 rfl rfl) h0 hsz (j := 0) rfl rfl
  obtain ⟨props, rfl, rfl, rfl, wf1⟩ := open_int Tryd.underlying3 (hval 1 3 v1 rfl rfl) h1
  have hT := tabAt hL
  refine (logicAheads_walk v0 l props W hlenl (tab_size hT) hT hl).mono fun e W' ⟨he, hb⟩ => ⟨_, he, ?_⟩
  refine law_post (fun t ht => ?_) rfl (by kernel_rfl) hW' rfl rfl rfl hb
  rw [Tryd.params4] at ht
  simp only [List.mem_cons, List.not_mem_nil, or_false] at ht
  rcases ht with rfl | rfl
  · exact ⟨by kernel_rfl, of_decide_eq_true (by kernel_rfl)⟩
  · exact ⟨by kernel_rfl, of_decide_eq_true (by kernel_rfl)⟩

/-- A WORLD FOR THE WITNESS: the settled one, the table (block 0) holding what its initialiser lays. -/
noncomputable def logicAheadsWorld (os : Os) : World :=
  { World.holding Tryd.prog os ⟨#[], #[], []⟩ with heap := (World.holding Tryd.prog os ⟨#[], #[], []⟩).heap.modify 0 fun
      | .cells _ t frozen => .cells #[.int .i64 0, .int .i64 0, .int .i64 0, .int .i64 2, .int .i64 2, .int .i64 2, .int .i64 2, .int .i64 2, .int .i64 2, .int .i64 2, .int .i64 1, .int .i64 0, .int .i64 0, .int .i64 0, .int .i64 1, .int .i64 2, .int .i64 2, .int .i64 1, .int .i64 1] t frozen
      | o => o }
set_option maxRecDepth 20000 in
theorem logicAheads_met (os : Os) : laidMet Tryd.prog Rows.logicAheadsRow.laid ((logicAheadsWorld os).forCall (fun _ _ => 0) ⟨#[], #[.slice none 0 0, .int .i64 0], []⟩).memory :=
  laidMet_of_run' 8 (by kernel_rfl) (by kernel_rfl)
set_option maxRecDepth 20000 in
theorem logicAheads_reads (os : Os) {H : Type} (enc : TypeId × Value → H) : ∃ places, DataW.whole enc Tryd.prog ((logicAheadsWorld os).forCall (fun _ _ => 0) ⟨#[], #[.slice none 0 0, .int .i64 0], []⟩).memory Tryd.f4.params.toList Rows.logicAheadsSpec.vars false #[Value.slice none 0 0, .int .i64 0].toList 8 = some ([.nil, .lit (.int .i64 0)], [], places) :=
  ⟨[], by kernel_rfl⟩

set_option maxRecDepth 100000 in
theorem logicAheads_lifted (os : Os) (started : os.Started) (H : Type) (enc : TypeId × Value → H) (F : Stop.Interp) :
    ReturnsInHanded {} Tryd.checked os 4 .any ((OpenSpec.ofChange Rows.logicAheadsSpec).preRow enc Tryd.prog Tryd.f4 Rows.logicAheadsRow.domain false Rows.logicAheadsRow.laid) (((OpenSpec.ofChange Rows.logicAheadsSpec).at F).post enc Tryd.prog Tryd.f4 false true false false) := by
  obtain ⟨places, hx⟩ := logicAheads_reads os enc
  refine returnsInHanded_of_row (C := Tryd.checked) (s := OpenSpec.ofChange Rows.logicAheadsSpec) own started (by kernel_rfl) Tryd.func4
    (witness_row_at (enc := enc) (C := Tryd.checked) false (logicAheadsWorld os) #[.slice none 0 0, .int .i64 0] rfl (by kernel_rfl) (by kernel_rfl) (by kernel_rfl)
      (OpenSpec.preRow_of_cond 8 hx (by kernel_rfl) (fun k hk => by cases hk) (by kernel_rfl) (logicAheads_met os))) ?_
  intro W base args ds gs before hval hW _ _ hsz hL _ _
  exact logicAheads_contract H enc W base args ds gs before hval hW hsz hL

set_option maxRecDepth 20000 in
theorem logicAheads_said : Rows.LogicAheadsSaid :=
  OpenClaim.holds_of_cond 4 Tryd.f4 rfl rfl rfl rfl rfl rfl rfl ⟨rfl, rfl, rfl, rfl, rfl⟩ rfl rfl rfl rfl rfl (by kernel_rfl) Tryd.func4 (by kernel_rfl)
    (of_decide_eq_true (by kernel_rfl)) (by unfold Func.isWrapper; first | (rw [if_pos (by decide +kernel)]; kernel_rfl) | (rw [if_neg (by decide +kernel)]; exact ⟨rfl, rfl⟩))
    (fun os started H enc _ F => by rw [OpenClaim.pre_eq_preRow]; exact logicAheads_lifted os started H enc F)

set_option maxRecDepth 20000 in
theorem logicAheads_plain (f : FuncId) (fn : Func) (hf : Tryd.pinned.checked.prog.funcNamed "foretell/foretelllaw.LogicAheads" = some f) (hfn : Tryd.pinned.checked.prog.funcs[f]? = some fn) :
    true = Tryd.pinned.checked.prog.looks [] ∧ ∀ (j : Nat) t, fn.params[j]? = some t → Tryd.pinned.checked.prog.wantsStandIn t = false := by
  obtain rfl : f = 4 := Option.some.inj ((show Tryd.prog.funcNamed "foretell/foretelllaw.LogicAheads" = some 4 by kernel_rfl).symm.trans hf) |>.symm
  obtain rfl : fn = Tryd.f4 := (Option.some.inj (Tryd.func4.symm.trans hfn)).symm
  refine ⟨by kernel_rfl, fun j t ht => ?_⟩
  rw [Tryd.params4] at ht
  have ht' := Array.mem_of_getElem? ht
  simp only [List.mem_toArray, List.mem_cons, List.not_mem_nil, or_false] at ht'
  rcases ht' with rfl | rfl
  · exact (show Tryd.prog.wantsStandIn 22 = false by kernel_rfl)
  · exact (show Tryd.prog.wantsStandIn 3 = false by kernel_rfl)

set_option maxRecDepth 20000 in
/-- THE CARD. -/
theorem logicAheads_card : Rows.LogicAheadsCardSaid :=
  Claim7.holds_tied_plain_at .later [] _ _ _ _ logicAheads_said (fun _ h => by cases h) (by kernel_rfl) (fun _ h => by cases h) logicAheads_row_tie rfl ⟨rfl, rfl⟩ (by kernel_rfl) rfl logicAheads_plain (by kernel_rfl)
#print axioms logicAheads_card
end Go.Proofs.YtnhkoagfjcmafaaDoor
