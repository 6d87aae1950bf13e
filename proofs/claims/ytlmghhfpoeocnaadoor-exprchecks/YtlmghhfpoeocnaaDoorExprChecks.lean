/-
  Proved: foretelllaw.ExprChecks answers true at every list of ops and every number of variables (expr.Check answers as the document's P2.2 does), given that the table polish.partCounts reads as its initialiser lays it, which the card ties to the program's text. No other condition.
-/
import Derived.Test.YtlmghhfpoeocnaaDoorCards
import Derived.Test.YtlmghhfpoeocnaaDoorTie
import Derived.Test.YtlmghhfpoeocnaaDoorRow
import Derived.Test.YtlmghhfpoeocnaaDoorOpsOf
import Derived.Test.YtlmghhfpoeocnaaDoorExpr3
import Derived.Test.YtlmghhfpoeocnaaDoorRefExpr2
namespace Go.Proofs.YtlmghhfpoeocnaaDoor
open Go.ChangeShapes Go.WideShapes Go.ChangeAt Go.RowKit Go.Deep
open Terms Tm

/-- each list has its tree, if it is one term. -/
theorem tree_for (l : List (Int × Int)) : ∃ t : Tm, endsCode (l.map Prod.fst) = 0 → t.Wf ∧ t.ops = l := by
  by_cases hz : endsCode (l.map Prod.fst) = 0
  · obtain ⟨t, h1, h2⟩ := tree_of (code_zero hz).2
    exact ⟨t, fun _ => ⟨h1, h2⟩⟩
  · exact ⟨.leaf 0 0, fun h => absurd h hz⟩

set_option maxHeartbeats 800000 in
theorem exprChecks_walk (v : Value) (l : List (Int × Int)) (vars : Int) (w : World) (hl : l.length * 16 ≤ 140737488355328) (hB : 0 < w.heap.size) (hT : TabAt w) (hV : OpsV w v l) :
    Calls Tryd.prog 3 #[v, .int .i64 vars] w fun e w' => e = .returned (.bool true) ∧ Below w.heap.size w w' := by
  obtain ⟨t, ht⟩ := tree_for l
  have hops := ops_any v l w hl hV
  have HV : Hid (OpsV w v l) := hV
  have HT : Hid (TabAt w) := hT
  have HTR : Hid (endsCode (l.map Prod.fst) = 0 → t.Wf ∧ t.ops = l) := ht
  obtain ⟨va, vn, vc, hvs⟩ : ∃ a n c, v = .slice a n c := by obtain ⟨a, c, rfl, _⟩ := hV; exact ⟨_, _, _, rfl⟩
  subst hvs
  clear hV hT ht
  go_enter Tryd.func3, Tryd.ntmps3
  go_wp2_with (go_at_call 10; refine hops.mono ?_; rintro e w1 ⟨c, rfl, hb1, ho1⟩; obtain ⟨ca, cc, rfl⟩ := owns_slice ho1)
  have hch := check_any _ l vars t w1 (Nat.lt_of_lt_of_le hB hb1.size) (HT.out.below hb1 hB) (opsV_of_owns ho1) HTR.out
  clear hops ho1
  generalize hbb : (decide (xcode vars l t = 0) && mkT t.kind) = bb at hch
  generalize hxx : xcode vars l t = x at hch
  have HBX : Hid ((decide (xcode vars l t = 0) && mkT t.kind) = bb ∧ xcode vars l t = x) := ⟨hbb, hxx⟩
  clear hbb hxx
  go_wp2_with (go_at_call 9; refine hch.mono ?_; rintro e w2 ⟨rfl, hb2⟩)
  have hb12 := hb1.trans (hb2.mono hb1.size)
  have hrc := exprChecked_any _ l vars t w2 (HV.out.below hb12) HTR.out
  rw [HBX.out.1, HBX.out.2] at hrc
  clear hch
  go_wp2_with (go_at_call 11; refine hrc.mono ?_; rintro e w3 ⟨rfl, hb3⟩)
  go_ret
  exact ⟨by first | rfl | simp, hb12.trans (hb3.mono hb12.size)⟩

theorem exprChecks_contract (H : Type) (enc : TypeId × Value → H) (W : World) (base : Nat) (args : Array Value) (ds gs : List (DataW H)) (before : List MemPlace)
    (hval : ∀ (j : Nat) t v, Tryd.f3.params[j]? = some t → args[j]? = some v → Value.okWide Tryd.prog W .any base t v)
    (hW : DataW.Whole enc Tryd.prog Tryd.f3.params.toList Rows.exprChecksSpec.vars false W args.toList ds gs before)
    (hsz0 : (DataW.weightsEach Tryd.prog (Tryd.f3.params.toList ++ (OpenSpec.ofChange Rows.exprChecksSpec).bare.plain.varTypes Tryd.prog) (ds ++ gs)).all (· ≤ reachBytes) = true)
    (hL : laidMetH Tryd.prog Rows.exprChecksRow.laid W) :
    Calls Tryd.prog 3 args W fun e W' => ∃ v, e = .returned v ∧ Rows.exprChecksSpec.post enc Tryd.prog Tryd.f3 false true false false W args v W' := by
  have hW' := hW
  obtain ⟨p, q, hA0, hV, rfl, hfz, hnd⟩ := hW
  have hA : DataW.TrodAll enc Tryd.prog W 0 (fun _ => true) true Tryd.f3.params.toList args.toList ds p := hA0
  rw [Tryd.params3] at hA hval
  obtain ⟨v0, vs0, d0, ds0, p0, q0, hargs, rfl, rfl, h0, r0⟩ := trodAll_cons hA
  obtain ⟨v1, vs1, d1, ds1, p1, q1, rfl, rfl, rfl, h1, r1⟩ := trodAll_cons r0
  obtain ⟨rfl, rfl, rfl⟩ := trodAll_nil r1
  obtain rfl : args = #[v0, v1] := by cases args; simp_all
  obtain ⟨rfl, rfl⟩ := trodVars_none hV
  have hsz : (DataW.weightsEach Tryd.prog [22, 3] [d0, d1]).all (· ≤ reachBytes) = true := hsz0
  obtain ⟨l, hl, hlen⟩ := open_ops (hval 0 22 v0 rfl rfl) h0 hsz (j := 0) rfl rfl
  obtain ⟨a1, rfl, rfl, rfl, wf1⟩ := open_int Tryd.underlying3 (hval 1 3 v1 rfl rfl) h1
  have hT := tabAt hL
  refine (exprChecks_walk v0 l a1 W hlen (tab_size hT) hT hl).mono fun e W' ⟨he, hb⟩ => ⟨_, he, ?_⟩
  refine law_post (fun t ht => ?_) rfl (by kernel_rfl) hW' rfl rfl rfl hb
  rw [Tryd.params3] at ht
  simp only [List.mem_cons, List.not_mem_nil, or_false] at ht
  rcases ht with rfl | rfl
  · exact ⟨by kernel_rfl, of_decide_eq_true (by kernel_rfl)⟩
  · exact ⟨by kernel_rfl, of_decide_eq_true (by kernel_rfl)⟩

/-- A WORLD FOR THE WITNESS: the settled one, the table (block 0) holding what its initialiser lays. -/
noncomputable def exprChecksWorld (os : Os) : World :=
  { World.holding Tryd.prog os ⟨#[], #[], []⟩ with heap := (World.holding Tryd.prog os ⟨#[], #[], []⟩).heap.modify 0 fun
      | .cells _ t frozen => .cells #[.int .i64 0, .int .i64 0, .int .i64 0, .int .i64 2, .int .i64 2, .int .i64 2, .int .i64 2, .int .i64 2, .int .i64 2, .int .i64 2, .int .i64 1, .int .i64 0, .int .i64 0, .int .i64 0, .int .i64 1, .int .i64 2, .int .i64 2, .int .i64 1, .int .i64 1] t frozen
      | o => o }
theorem exprChecks_met (os : Os) : laidMet Tryd.prog Rows.exprChecksRow.laid ((exprChecksWorld os).forCall (fun _ _ => 0) ⟨#[], #[.slice none 0 0, .int .i64 0], []⟩).memory :=
  laidMet_of_run' 8 (by kernel_rfl) (by kernel_rfl)
theorem exprChecks_reads (os : Os) {H : Type} (enc : TypeId × Value → H) : ∃ places, DataW.whole enc Tryd.prog ((exprChecksWorld os).forCall (fun _ _ => 0) ⟨#[], #[.slice none 0 0, .int .i64 0], []⟩).memory Tryd.f3.params.toList Rows.exprChecksSpec.vars false #[Value.slice none 0 0, .int .i64 0].toList 8 = some ([.nil, .lit (.int .i64 0)], [], places) :=
  ⟨[], by kernel_rfl⟩

set_option maxRecDepth 100000 in
theorem exprChecks_lifted (os : Os) (started : os.Started) (H : Type) (enc : TypeId × Value → H) (F : Stop.Interp) :
    ReturnsInHanded {} Tryd.checked os 3 .any ((OpenSpec.ofChange Rows.exprChecksSpec).preRow enc Tryd.prog Tryd.f3 Rows.exprChecksRow.domain false Rows.exprChecksRow.laid) (((OpenSpec.ofChange Rows.exprChecksSpec).at F).post enc Tryd.prog Tryd.f3 false true false false) := by
  obtain ⟨places, hx⟩ := exprChecks_reads os enc
  refine returnsInHanded_of_row (C := Tryd.checked) (s := OpenSpec.ofChange Rows.exprChecksSpec) own started (by kernel_rfl) Tryd.func3
    (witness_row_at (enc := enc) (C := Tryd.checked) false (exprChecksWorld os) #[.slice none 0 0, .int .i64 0] rfl (by kernel_rfl) (by kernel_rfl) (by kernel_rfl)
      (OpenSpec.preRow_of_cond 8 hx (by kernel_rfl) (fun k hk => by cases hk) (by kernel_rfl) (exprChecks_met os))) ?_
  intro W base args ds gs before hval hW _ _ hsz hL _ _
  exact exprChecks_contract H enc W base args ds gs before hval hW hsz hL

theorem exprChecks_said : Rows.ExprChecksSaid :=
  OpenClaim.holds_of_cond 3 Tryd.f3 rfl rfl rfl rfl rfl rfl rfl ⟨rfl, rfl, rfl, rfl, rfl⟩ rfl rfl rfl rfl rfl (by kernel_rfl) Tryd.func3 (by kernel_rfl)
    (of_decide_eq_true (by kernel_rfl)) (by unfold Func.isWrapper; first | (rw [if_pos (by decide +kernel)]; kernel_rfl) | (rw [if_neg (by decide +kernel)]; exact ⟨rfl, rfl⟩))
    (fun os started H enc _ F => by rw [OpenClaim.pre_eq_preRow]; exact exprChecks_lifted os started H enc F)

theorem exprChecks_plain (f : FuncId) (fn : Func) (hf : Tryd.pinned.checked.prog.funcNamed "foretell/foretelllaw.ExprChecks" = some f) (hfn : Tryd.pinned.checked.prog.funcs[f]? = some fn) :
    true = Tryd.pinned.checked.prog.looks [] ∧ ∀ (j : Nat) t, fn.params[j]? = some t → Tryd.pinned.checked.prog.wantsStandIn t = false := by
  obtain rfl : f = 3 := Option.some.inj ((show Tryd.prog.funcNamed "foretell/foretelllaw.ExprChecks" = some 3 by kernel_rfl).symm.trans hf) |>.symm
  obtain rfl : fn = Tryd.f3 := (Option.some.inj (Tryd.func3.symm.trans hfn)).symm
  refine ⟨by kernel_rfl, fun j t ht => ?_⟩
  rw [Tryd.params3] at ht
  have ht' := Array.mem_of_getElem? ht
  simp only [List.mem_toArray, List.mem_cons, List.not_mem_nil, or_false] at ht'
  rcases ht' with rfl | rfl
  · exact (show Tryd.prog.wantsStandIn 22 = false by kernel_rfl)
  · exact (show Tryd.prog.wantsStandIn 3 = false by kernel_rfl)

/-- THE CARD. -/
theorem exprChecks_card : Rows.ExprChecksCardSaid :=
  Claim7.holds_tied_plain_at .later [] _ _ _ _ exprChecks_said (fun _ h => by cases h) (by kernel_rfl) (fun _ h => by cases h) exprChecks_row_tie rfl ⟨rfl, rfl⟩ (by kernel_rfl) rfl exprChecks_plain (by kernel_rfl)
#print axioms exprChecks_card
end Go.Proofs.YtlmghhfpoeocnaaDoor
