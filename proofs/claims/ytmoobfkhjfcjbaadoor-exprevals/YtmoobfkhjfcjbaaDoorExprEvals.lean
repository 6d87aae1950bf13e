/-
  Proved: foretelllaw.ExprEvals answers true at every list of ops and every list of numbers (expr.Eval answers as the document's P2.3 does, and leaves the numbers as they were), given that the table polish.partCounts reads as its initialiser lays it, which the card ties to the program's text. No other condition.
-/
import Derived.Test.YtmoobfkhjfcjbaaDoorCards
import Derived.Test.YtmoobfkhjfcjbaaDoorTie
import Derived.Test.YtmoobfkhjfcjbaaDoorRow
import Derived.Test.YtmoobfkhjfcjbaaDoorIntsOpenE
import Derived.Test.YtmoobfkhjfcjbaaDoorOpsOf
import Derived.Test.YtmoobfkhjfcjbaaDoorEval2
import Derived.Test.YtmoobfkhjfcjbaaDoorRefEval
import Derived.Test.YtmoobfkhjfcjbaaDoorSameInts
namespace Go.Proofs.YtmoobfkhjfcjbaaDoor
open Go.ChangeShapes Go.WideShapes Go.ChangeAt Go.RowKit Go.Deep
open Terms Tm

theorem tree_forE (l : List (Int × Int)) : ∃ t : Tm, endsCode (l.map Prod.fst) = 0 → t.Wf ∧ t.ops = l := by
  by_cases hz : endsCode (l.map Prod.fst) = 0
  · obtain ⟨t, h1, h2⟩ := tree_of (code_zero hz).2
    exact ⟨t, fun _ => ⟨h1, h2⟩⟩
  · exact ⟨.leaf 0 0, fun h => absurd h hz⟩

set_option maxHeartbeats 1600000 in
theorem exprEvals_walk (v ev : Value) (l : List (Int × Int)) (env : List Int) (w : World) (hl : l.length * 16 ≤ 140737488355328) (he : env.length * 8 ≤ 140737488355328) (hB : 0 < w.heap.size) (hT : TabAt w) (hV : OpsV w v l) (hE : IntsW w ev env) :
    Calls Tryd.prog 3 #[v, ev] w fun e w' => e = .returned (.bool true) ∧ Below w.heap.size w w' := by
  obtain ⟨t, ht⟩ := tree_forE l
  have hin := ints_any ev env w he hE
  have hops := fun w1 (hb : Below w.heap.size w w1) => ops_any v l w1 hl (hV.below hb)
  have hrr := fun w3 (hb : Below w.heap.size w w3) => evaluated_any v ev l env t w3 (hV.below hb) (hE.v.below hb) ht
  have HEV : Hid (IntsV w ev env) := hE.v
  have HT : Hid (TabAt w) := hT
  have HTR : Hid (endsCode (l.map Prod.fst) = 0 → t.Wf ∧ t.ops = l) := ht
  obtain ⟨va, vc, rfl⟩ : ∃ ao cap, v = .slice ao l.length cap := by obtain ⟨ao, cap, h, _⟩ := hV; exact ⟨ao, cap, h⟩
  obtain ⟨eo, ec, rfl⟩ : ∃ ao cap, ev = .slice ao env.length cap := by obtain ⟨ao, cap, h, _⟩ := hE; exact ⟨ao, cap, h⟩
  obtain ⟨n, hn⟩ : ∃ n, n = l.length := ⟨_, rfl⟩
  obtain ⟨en, hen⟩ : ∃ n, n = env.length := ⟨_, rfl⟩
  have HN : Hid (n = l.length ∧ en = env.length) := ⟨hn, hen⟩
  rw [← hn] at hops hrr ⊢
  rw [← hen] at hin hrr HEV ⊢
  clear hV hE hT ht hn hen
  go_enter Tryd.func3, Tryd.ntmps3
  go_wp2_with (first | (go_at_call 4; refine hin.mono ?_; rintro e w1 ⟨cv, rfl, hb1, ho1⟩; obtain ⟨ca, cc, rfl⟩ := owns_slice ho1) | (go_at_call 6; refine (hops _ hb1).mono ?_; rintro e w2 ⟨pv, rfl, hb2, ho2⟩; obtain ⟨pa, pc, rfl⟩ := owns_slice ho2))
  have hbw2 := hb1.trans (hb2.mono hb1.size)
  have hIc : IntsV w1 (.slice ca en cc) env := intsV_of_owns (by rw [← HN.out.2]; exact ho1)
  have hIc2 := hIc.below hb2
  have hcc := eval_any _ _ l env t w2 (Nat.lt_of_lt_of_le hB hbw2.size) (HT.out.below hbw2 hB) (opsV_of_owns (by rw [← HN.out.1]; exact ho2)) hIc2 HTR.out
  have hsm := fun w4 (hb : Below w.heap.size w w4) (hb' : Below w2.heap.size w2 w4) => sameInts_b _ _ env w4 (by omega) (hIc2.below hb') (HEV.out.below hb)
  generalize evalC l t env = x at hcc hrr
  generalize evalN l t env = y at hcc hrr
  clear hin hops ho1 ho2 hIc hIc2
  go_wp2_with (first | (go_at_call 5; refine hcc.mono ?_; rintro e w3 ⟨rfl, hb3⟩; have hbw3 := hbw2.trans (hb3.mono hbw2.size)) | (go_at_call 7; refine (hrr _ hbw3).mono ?_; rintro e w4 ⟨rfl, hb4⟩; have hbw4 := hbw3.trans (hb4.mono hbw3.size); have hbx4 := hb3.trans (hb4.mono hb3.size)) | (go_at_call 8; refine (hsm _ hbw4 hbx4).mono ?_; rintro e w5 ⟨rfl, hb5⟩))
  all_goals go_ret
  all_goals exact ⟨by first | rfl | simp, hbw4.trans (hb5.mono hbw4.size)⟩

theorem exprEvals_contract (H : Type) (enc : TypeId × Value → H) (W : World) (base : Nat) (args : Array Value) (ds gs : List (DataW H)) (before : List MemPlace)
    (hval : ∀ (j : Nat) t v, Tryd.f3.params[j]? = some t → args[j]? = some v → Value.okWide Tryd.prog W .any base t v)
    (hW : DataW.Whole enc Tryd.prog Tryd.f3.params.toList Rows.exprEvalsSpec.vars false W args.toList ds gs before)
    (hsz0 : (DataW.weightsEach Tryd.prog (Tryd.f3.params.toList ++ (OpenSpec.ofChange Rows.exprEvalsSpec).bare.plain.varTypes Tryd.prog) (ds ++ gs)).all (· ≤ reachBytes) = true)
    (hL : laidMetH Tryd.prog Rows.exprEvalsRow.laid W) :
    Calls Tryd.prog 3 args W fun e W' => ∃ v, e = .returned v ∧ Rows.exprEvalsSpec.post enc Tryd.prog Tryd.f3 false true false false W args v W' := by
  have hW' := hW
  obtain ⟨p, q, hA0, hV, rfl, hfz, hnd⟩ := hW
  have hA : DataW.TrodAll enc Tryd.prog W 0 (fun _ => true) true Tryd.f3.params.toList args.toList ds p := hA0
  rw [Tryd.params3] at hA hval
  obtain ⟨v0, vs0, d0, ds0, p0, q0, hargs, rfl, rfl, h0, r0⟩ := trodAll_cons hA
  obtain ⟨v1, vs1, d1, ds1, p1, q1, rfl, rfl, rfl, h1, r1⟩ := trodAll_cons r0
  obtain ⟨rfl, rfl, rfl⟩ := trodAll_nil r1
  obtain rfl : args = #[v0, v1] := by cases args; simp_all
  obtain ⟨rfl, rfl⟩ := trodVars_none hV
  have hsz : (DataW.weightsEach Tryd.prog [22, 23] [d0, d1]).all (· ≤ reachBytes) = true := hsz0
  obtain ⟨l, hl, hlen⟩ := open_ops (hval 0 22 v0 rfl rfl) h0 hsz (j := 0) rfl rfl
  obtain ⟨env, hE, hlen2⟩ := open_intsE (hval 1 23 v1 rfl rfl) h1 hsz (j := 1) rfl rfl
  have hT := tabAt hL
  refine (exprEvals_walk v0 v1 l env W hlen hlen2 (tab_size hT) hT hl hE).mono fun e W' ⟨he, hb⟩ => ⟨_, he, ?_⟩
  refine law_post (fun t ht => ?_) rfl (by kernel_rfl) hW' rfl rfl rfl hb
  rw [Tryd.params3] at ht
  simp only [List.mem_cons, List.not_mem_nil, or_false] at ht
  rcases ht with rfl | rfl
  · exact ⟨by kernel_rfl, of_decide_eq_true (by kernel_rfl)⟩
  · exact ⟨by kernel_rfl, of_decide_eq_true (by kernel_rfl)⟩

/-- A WORLD FOR THE WITNESS: the settled one, the table (block 0) holding what its initialiser lays. -/
noncomputable def exprEvalsWorld (os : Os) : World :=
  { World.holding Tryd.prog os ⟨#[], #[], []⟩ with heap := (World.holding Tryd.prog os ⟨#[], #[], []⟩).heap.modify 0 fun
      | .cells _ t frozen => .cells #[.int .i64 0, .int .i64 0, .int .i64 0, .int .i64 2, .int .i64 2, .int .i64 2, .int .i64 2, .int .i64 2, .int .i64 2, .int .i64 2, .int .i64 1, .int .i64 0, .int .i64 0, .int .i64 0, .int .i64 1, .int .i64 2, .int .i64 2, .int .i64 1, .int .i64 1] t frozen
      | o => o }
theorem exprEvals_met (os : Os) : laidMet Tryd.prog Rows.exprEvalsRow.laid ((exprEvalsWorld os).forCall (fun _ _ => 0) ⟨#[], #[.slice none 0 0, .slice none 0 0], []⟩).memory :=
  laidMet_of_run' 8 (by kernel_rfl) (by kernel_rfl)
theorem exprEvals_reads (os : Os) {H : Type} (enc : TypeId × Value → H) : ∃ places, DataW.whole enc Tryd.prog ((exprEvalsWorld os).forCall (fun _ _ => 0) ⟨#[], #[.slice none 0 0, .slice none 0 0], []⟩).memory Tryd.f3.params.toList Rows.exprEvalsSpec.vars false #[Value.slice none 0 0, .slice none 0 0].toList 8 = some ([.nil, .nil], [], places) :=
  ⟨[], by kernel_rfl⟩

set_option maxRecDepth 100000 in
theorem exprEvals_lifted (os : Os) (started : os.Started) (H : Type) (enc : TypeId × Value → H) (F : Stop.Interp) :
    ReturnsInHanded {} Tryd.checked os 3 .any ((OpenSpec.ofChange Rows.exprEvalsSpec).preRow enc Tryd.prog Tryd.f3 Rows.exprEvalsRow.domain false Rows.exprEvalsRow.laid) (((OpenSpec.ofChange Rows.exprEvalsSpec).at F).post enc Tryd.prog Tryd.f3 false true false false) := by
  obtain ⟨places, hx⟩ := exprEvals_reads os enc
  refine returnsInHanded_of_row (C := Tryd.checked) (s := OpenSpec.ofChange Rows.exprEvalsSpec) own started (by kernel_rfl) Tryd.func3
    (witness_row_at (enc := enc) (C := Tryd.checked) false (exprEvalsWorld os) #[.slice none 0 0, .slice none 0 0] rfl (by kernel_rfl) (by kernel_rfl) (by kernel_rfl)
      (OpenSpec.preRow_of_cond 8 hx (by kernel_rfl) (fun k hk => by cases hk) (by kernel_rfl) (exprEvals_met os))) ?_
  intro W base args ds gs before hval hW _ _ hsz hL _ _
  exact exprEvals_contract H enc W base args ds gs before hval hW hsz hL

theorem exprEvals_said : Rows.ExprEvalsSaid :=
  OpenClaim.holds_of_cond 3 Tryd.f3 rfl rfl rfl rfl rfl rfl rfl ⟨rfl, rfl, rfl, rfl, rfl⟩ rfl rfl rfl rfl rfl (by kernel_rfl) Tryd.func3 (by kernel_rfl)
    (of_decide_eq_true (by kernel_rfl)) (by unfold Func.isWrapper; first | (rw [if_pos (by decide +kernel)]; kernel_rfl) | (rw [if_neg (by decide +kernel)]; exact ⟨rfl, rfl⟩))
    (fun os started H enc _ F => by rw [OpenClaim.pre_eq_preRow]; exact exprEvals_lifted os started H enc F)

theorem exprEvals_plain (f : FuncId) (fn : Func) (hf : Tryd.pinned.checked.prog.funcNamed "foretell/foretelllaw.ExprEvals" = some f) (hfn : Tryd.pinned.checked.prog.funcs[f]? = some fn) :
    true = Tryd.pinned.checked.prog.looks [] ∧ ∀ (j : Nat) t, fn.params[j]? = some t → Tryd.pinned.checked.prog.wantsStandIn t = false := by
  obtain rfl : f = 3 := Option.some.inj ((show Tryd.prog.funcNamed "foretell/foretelllaw.ExprEvals" = some 3 by kernel_rfl).symm.trans hf) |>.symm
  obtain rfl : fn = Tryd.f3 := (Option.some.inj (Tryd.func3.symm.trans hfn)).symm
  refine ⟨by kernel_rfl, fun j t ht => ?_⟩
  rw [Tryd.params3] at ht
  have ht' := Array.mem_of_getElem? ht
  simp only [List.mem_toArray, List.mem_cons, List.not_mem_nil, or_false] at ht'
  rcases ht' with rfl | rfl
  · exact (show Tryd.prog.wantsStandIn 22 = false by kernel_rfl)
  · exact (show Tryd.prog.wantsStandIn 23 = false by kernel_rfl)

/-- THE CARD. -/
theorem exprEvals_card : Rows.ExprEvalsCardSaid :=
  Claim7.holds_tied_plain_at .later [] _ _ _ _ exprEvals_said (fun _ h => by cases h) (by kernel_rfl) (fun _ h => by cases h) exprEvals_row_tie rfl ⟨rfl, rfl⟩ (by kernel_rfl) rfl exprEvals_plain (by kernel_rfl)
#print axioms exprEvals_card
end Go.Proofs.YtmoobfkhjfcjbaaDoor
