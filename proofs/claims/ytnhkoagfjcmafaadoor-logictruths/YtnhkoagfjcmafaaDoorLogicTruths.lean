/-
  Proved: foretelllaw.LogicTruths answers true at every list of ops, every letter and every claim (logic.Truths answers as the document's P5.4 does, and leaves the letter as it was), given that the table polish.partCounts reads as its initialiser lays it, which the card ties to the program's text. No other condition.
-/
import Derived.Test.YtnhkoagfjcmafaaDoorCards
import Derived.Test.YtnhkoagfjcmafaaDoorTie
import Derived.Test.YtnhkoagfjcmafaaDoorRow
import Derived.Test.YtnhkoagfjcmafaaDoorOpsOf
import Derived.Test.YtnhkoagfjcmafaaDoorBoolsOf
import Derived.Test.YtnhkoagfjcmafaaDoorLogicTr3
import Derived.Test.YtnhkoagfjcmafaaDoorRefTruL
namespace Go.Proofs.YtnhkoagfjcmafaaDoor
open Go.ChangeShapes Go.WideShapes Go.ChangeAt Go.RowKit Go.Deep
open Terms

set_option maxHeartbeats 800000 in
set_option maxRecDepth 20000 in
theorem logicTruths_walk (v xv : Value) (l : List (Int × Int)) (x : List Bool) (claim : Int) (w : World) (hl : l.length * 16 ≤ 140737488355328) (hlx : x.length ≤ 140737488355328) (hB : 0 < w.heap.size) (hT : TabAt w) (hV : OpsV w v l) (hX : BoolsW w xv x) :
    Calls Tryd.prog 5 #[v, xv, .int .i64 claim] w fun e w' => e = .returned (.bool true) ∧ Below w.heap.size w w' := by
  have hops := fun w1 (hb : Below w.heap.size w w1) => ops_any v l w1 hl (hV.below hb)
  have htc := truthsC_any xv x w hlx hX
  have HV : Hid (OpsV w v l) := hV
  have HX : Hid (BoolsW w xv x) := hX
  have HT : Hid (TabAt w) := hT
  obtain ⟨vo, vc, rfl, _⟩ := hV
  obtain ⟨xo, xc, rfl, _⟩ := hX
  have htl : (truL l x claim).length ≤ 140737488355328 := by
    unfold truL
    split
    · simp; omega
    · simp
  have HC : Hid (∀ w1 w2 cv dv, Below w.heap.size w w1 → Below w1.heap.size w1 w2 → w1.ownsRow w.heap.size 4 1 cv x.length (bvals x) → w2.ownsRow w1.heap.size 49 2 dv l.length (flat l) → Calls Tryd.prog 15 #[dv, cv, .int .i64 claim] w2 fun e w' => ∃ v', e = .returned (.tuple #[v', .int .i64 (tcode l x claim)]) ∧ Below w2.heap.size w2 w' ∧ BoolsV w' v' (truL l x claim)) := fun w1 w2 cv dv hb1 hb2 hc hd => by
    have hb12 := hb1.trans (hb2.mono hb1.size)
    exact ltruths_any dv cv l x claim w2 (Nat.lt_of_lt_of_le hB hb12.size) (HT.out.below hb12 hB) (opsV_of_owns hd) ((boolsV_of_owns hc).below hb2)
  have HR : Hid (∀ w3, Below w.heap.size w w3 → Calls Tryd.prog 16 #[.slice vo l.length vc, .slice xo x.length xc, .int .i64 claim] w3 fun e w' => ∃ v', e = .returned (.tuple #[v', .int .i64 (tcode l x claim)]) ∧ Below w3.heap.size w3 w' ∧ BoolsV w' v' (truL l x claim)) := fun w3 hb => rtruths_any _ _ l x claim w3 (HV.out.below hb) (HX.out.v.below hb)
  generalize tcode l x claim = tc at HC HR
  generalize truL l x claim = tl at HC HR htl
  go_enter Tryd.func5, Tryd.ntmps5
  go_wp2_with (first | (go_at_call 14; refine htc.mono ?_; rintro e w1 ⟨cv, rfl, hb1, ho1⟩; obtain ⟨co, cc, rfl⟩ := owns_slice ho1; have hops1 := hops w1 hb1) | (go_at_call 9; refine hops1.mono ?_; rintro e w2 ⟨dv, rfl, hb2, ho2⟩; obtain ⟨dd, dc, rfl⟩ := owns_slice ho2; have hb12 := hb1.trans (hb2.mono hb1.size); have hct := HC.out w1 w2 _ _ hb1 hb2 ho1 ho2; have hx2 := (boolsV_of_owns ho1).below hb2) | (go_at_call 15; refine hct.mono ?_; rintro e w3 ⟨v3, rfl, hb3, hv3⟩; obtain ⟨so, sc, rfl, _⟩ := id hv3; have hb13 := hb12.trans (hb3.mono hb12.size); have hx3 := hx2.below hb3; have hrt := HR.out w3 hb13) | (go_at_call 16; refine hrt.mono ?_; rintro e w4 ⟨v4, rfl, hb4, hv4⟩; obtain ⟨ro, rc, rfl, _⟩ := id hv4; have hb14 := hb13.trans (hb4.mono hb13.size); have hsm1 := sameTruths_b _ _ tl w4 htl (hv3.below hb4) hv4; have hsm2 := fun w5 (hb5 : Below w4.heap.size w4 w5) => sameTruths_b _ _ x w5 hlx ((hx3.below hb4).below hb5) (HX.out.v.below (hb14.trans (hb5.mono hb14.size)))) | (go_at_call 17; refine hsm1.mono ?_; clear hsm1; rintro e w5 ⟨rfl, hb5⟩; have hb15 := hb14.trans (hb5.mono hb14.size); have hsm3 := hsm2 w5 hb5) | (go_at_call 17; refine hsm3.mono ?_; clear hsm3; rintro e w6 ⟨rfl, hb6⟩))
  go_ret
  exact ⟨by first | rfl | simp, hb15.trans (hb6.mono hb15.size)⟩

set_option maxRecDepth 20000 in
theorem logicTruths_contract (H : Type) (enc : TypeId × Value → H) (W : World) (base : Nat) (args : Array Value) (ds gs : List (DataW H)) (before : List MemPlace)
    (hval : ∀ (j : Nat) t v, Tryd.f5.params[j]? = some t → args[j]? = some v → Value.okWide Tryd.prog W .any base t v)
    (hW : DataW.Whole enc Tryd.prog Tryd.f5.params.toList Rows.logicTruthsSpec.vars false W args.toList ds gs before)
    (hsz0 : (DataW.weightsEach Tryd.prog (Tryd.f5.params.toList ++ (OpenSpec.ofChange Rows.logicTruthsSpec).bare.plain.varTypes Tryd.prog) (ds ++ gs)).all (· ≤ reachBytes) = true)
    (hL : laidMetH Tryd.prog Rows.logicTruthsRow.laid W) :
    Calls Tryd.prog 5 args W fun e W' => ∃ v, e = .returned v ∧ Rows.logicTruthsSpec.post enc Tryd.prog Tryd.f5 false true false false W args v W' := by
  have hW' := hW
  obtain ⟨p, q, hA0, hV, rfl, hfz, hnd⟩ := hW
  have hA : DataW.TrodAll enc Tryd.prog W 0 (fun _ => true) true Tryd.f5.params.toList args.toList ds p := hA0
  rw [Tryd.params5] at hA hval
  obtain ⟨v0, vs0, d0, ds0, p0, q0, hargs, rfl, rfl, h0, r0⟩ := trodAll_cons hA
  obtain ⟨v1, vs1, d1, ds1, p1, q1, rfl, rfl, rfl, h1, r1⟩ := trodAll_cons r0
  obtain ⟨v2, vs2, d2, ds2, p2, q2, rfl, rfl, rfl, h2, r2⟩ := trodAll_cons r1
  obtain ⟨rfl, rfl, rfl⟩ := trodAll_nil r2
  obtain rfl : args = #[v0, v1, v2] := by cases args; simp_all
  obtain ⟨rfl, rfl⟩ := trodVars_none hV
  have hsz : (DataW.weightsEach Tryd.prog [22, 31, 3] [d0, d1, d2]).all (· ≤ reachBytes) = true := hsz0
  obtain ⟨l, hl, hlenl⟩ := open_ops (hval 0 22 v0 rfl rfl) h0 hsz (j := 0) rfl rfl
  obtain ⟨x, hx, hlenx⟩ := open_bools (hval 1 31 v1 rfl rfl) h1 hsz (j := 1) rfl rfl
  obtain ⟨claim, rfl, rfl, rfl, wf2⟩ := open_int Tryd.underlying3 (hval 2 3 v2 rfl rfl) h2
  have hT := tabAt hL
  refine (logicTruths_walk v0 v1 l x claim W hlenl hlenx (tab_size hT) hT hl hx).mono fun e W' ⟨he, hb⟩ => ⟨_, he, ?_⟩
  refine law_post (fun t ht => ?_) rfl (by kernel_rfl) hW' rfl rfl rfl hb
  rw [Tryd.params5] at ht
  simp only [List.mem_cons, List.not_mem_nil, or_false] at ht
  rcases ht with rfl | rfl | rfl
  · exact ⟨by kernel_rfl, of_decide_eq_true (by kernel_rfl)⟩
  · exact ⟨by kernel_rfl, of_decide_eq_true (by kernel_rfl)⟩
  · exact ⟨by kernel_rfl, of_decide_eq_true (by kernel_rfl)⟩

/-- A WORLD FOR THE WITNESS: the settled one, the table (block 0) holding what its initialiser lays. -/
noncomputable def logicTruthsWorld (os : Os) : World :=
  { World.holding Tryd.prog os ⟨#[], #[], []⟩ with heap := (World.holding Tryd.prog os ⟨#[], #[], []⟩).heap.modify 0 fun
      | .cells _ t frozen => .cells #[.int .i64 0, .int .i64 0, .int .i64 0, .int .i64 2, .int .i64 2, .int .i64 2, .int .i64 2, .int .i64 2, .int .i64 2, .int .i64 2, .int .i64 1, .int .i64 0, .int .i64 0, .int .i64 0, .int .i64 1, .int .i64 2, .int .i64 2, .int .i64 1, .int .i64 1] t frozen
      | o => o }
set_option maxRecDepth 20000 in
theorem logicTruths_met (os : Os) : laidMet Tryd.prog Rows.logicTruthsRow.laid ((logicTruthsWorld os).forCall (fun _ _ => 0) ⟨#[], #[.slice none 0 0, .slice none 0 0, .int .i64 0], []⟩).memory :=
  laidMet_of_run' 8 (by kernel_rfl) (by kernel_rfl)
set_option maxRecDepth 20000 in
theorem logicTruths_reads (os : Os) {H : Type} (enc : TypeId × Value → H) : ∃ places, DataW.whole enc Tryd.prog ((logicTruthsWorld os).forCall (fun _ _ => 0) ⟨#[], #[.slice none 0 0, .slice none 0 0, .int .i64 0], []⟩).memory Tryd.f5.params.toList Rows.logicTruthsSpec.vars false #[Value.slice none 0 0, .slice none 0 0, .int .i64 0].toList 8 = some ([.nil, .nil, .lit (.int .i64 0)], [], places) :=
  ⟨[], by kernel_rfl⟩

set_option maxRecDepth 100000 in
theorem logicTruths_lifted (os : Os) (started : os.Started) (H : Type) (enc : TypeId × Value → H) (F : Stop.Interp) :
    ReturnsInHanded {} Tryd.checked os 5 .any ((OpenSpec.ofChange Rows.logicTruthsSpec).preRow enc Tryd.prog Tryd.f5 Rows.logicTruthsRow.domain false Rows.logicTruthsRow.laid) (((OpenSpec.ofChange Rows.logicTruthsSpec).at F).post enc Tryd.prog Tryd.f5 false true false false) := by
  obtain ⟨places, hx⟩ := logicTruths_reads os enc
  refine returnsInHanded_of_row (C := Tryd.checked) (s := OpenSpec.ofChange Rows.logicTruthsSpec) own started (by kernel_rfl) Tryd.func5
    (witness_row_at (enc := enc) (C := Tryd.checked) false (logicTruthsWorld os) #[.slice none 0 0, .slice none 0 0, .int .i64 0] rfl (by kernel_rfl) (by kernel_rfl) (by kernel_rfl)
      (OpenSpec.preRow_of_cond 8 hx (by kernel_rfl) (fun k hk => by cases hk) (by kernel_rfl) (logicTruths_met os))) ?_
  intro W base args ds gs before hval hW _ _ hsz hL _ _
  exact logicTruths_contract H enc W base args ds gs before hval hW hsz hL

set_option maxRecDepth 20000 in
theorem logicTruths_said : Rows.LogicTruthsSaid :=
  OpenClaim.holds_of_cond 5 Tryd.f5 rfl rfl rfl rfl rfl rfl rfl ⟨rfl, rfl, rfl, rfl, rfl⟩ rfl rfl rfl rfl rfl (by kernel_rfl) Tryd.func5 (by kernel_rfl)
    (of_decide_eq_true (by kernel_rfl)) (by unfold Func.isWrapper; first | (rw [if_pos (by decide +kernel)]; kernel_rfl) | (rw [if_neg (by decide +kernel)]; exact ⟨rfl, rfl⟩))
    (fun os started H enc _ F => by rw [OpenClaim.pre_eq_preRow]; exact logicTruths_lifted os started H enc F)

set_option maxRecDepth 20000 in
theorem logicTruths_plain (f : FuncId) (fn : Func) (hf : Tryd.pinned.checked.prog.funcNamed "foretell/foretelllaw.LogicTruths" = some f) (hfn : Tryd.pinned.checked.prog.funcs[f]? = some fn) :
    true = Tryd.pinned.checked.prog.looks [] ∧ ∀ (j : Nat) t, fn.params[j]? = some t → Tryd.pinned.checked.prog.wantsStandIn t = false := by
  obtain rfl : f = 5 := Option.some.inj ((show Tryd.prog.funcNamed "foretell/foretelllaw.LogicTruths" = some 5 by kernel_rfl).symm.trans hf) |>.symm
  obtain rfl : fn = Tryd.f5 := (Option.some.inj (Tryd.func5.symm.trans hfn)).symm
  refine ⟨by kernel_rfl, fun j t ht => ?_⟩
  rw [Tryd.params5] at ht
  have ht' := Array.mem_of_getElem? ht
  simp only [List.mem_toArray, List.mem_cons, List.not_mem_nil, or_false] at ht'
  rcases ht' with rfl | rfl | rfl
  · exact (show Tryd.prog.wantsStandIn 22 = false by kernel_rfl)
  · exact (show Tryd.prog.wantsStandIn 31 = false by kernel_rfl)
  · exact (show Tryd.prog.wantsStandIn 3 = false by kernel_rfl)

set_option maxRecDepth 20000 in
/-- THE CARD. -/
theorem logicTruths_card : Rows.LogicTruthsCardSaid :=
  Claim7.holds_tied_plain_at .later [] _ _ _ _ logicTruths_said (fun _ h => by cases h) (by kernel_rfl) (fun _ h => by cases h) logicTruths_row_tie rfl ⟨rfl, rfl⟩ (by kernel_rfl) rfl logicTruths_plain (by kernel_rfl)
#print axioms logicTruths_card
end Go.Proofs.YtnhkoagfjcmafaaDoor
