/-
  Proved: foretelllaw.PolishSplits answers true at every list of ops (polish.Split answers as the document's P1.3 does), given that the table polish.partCounts reads as its initialiser lays it, which the card ties to the program's text. No other condition.
-/
import Derived.Test.YtkdbblchkkemgaaDoorCards
import Derived.Test.YtkdbblchkkemgaaDoorTie
import Derived.Test.YtkdbblchkkemgaaDoorRefSplit
namespace Go.Proofs.YtkdbblchkkemgaaDoor
open Go.ChangeShapes Go.WideShapes Go.ChangeAt Go.RowKit Go.Deep
open Terms

set_option maxHeartbeats 800000 in
theorem polishSplits_walk (v : Value) (l : List (Int × Int)) (w : World) (hl : l.length * 16 ≤ 140737488355328) (hB : 0 < w.heap.size) (hT : TabAt w) (hV : OpsV w v l) :
    Calls Tryd.prog 5 #[v] w fun e w' => e = .returned (.bool true) ∧ Below w.heap.size w w' := by
  have hops := ops_any v l w hl hV
  have HV : Hid (OpsV w v l) := hV
  have HT : Hid (TabAt w) := hT
  clear hV hT
  go_enter Tryd.func5, Tryd.ntmps5
  go_wp2_with (go_at_call 11; refine hops.mono ?_; rintro e w1 ⟨c, rfl, hb1, ho1⟩)
  have hv1 := opsV_of_owns ho1
  have hsp := split_any c l w1 (Nat.lt_of_lt_of_le hB hb1.size) (HT.out.below hb1 hB) hv1
  clear hv1 ho1 hops
  go_wp2_with (go_at_call 16; refine hsp.mono ?_; rintro e w2 ⟨a, rfl, hb2, hi2⟩)
  have hb12 := hb1.trans (hb2.mono hb1.size)
  have hsp2 := splitOf_any v l w2 (HV.out.below hb12)
  have HI2 : Hid (TermsV w2 a (splitL l)) := hi2
  clear hi2 hsp
  go_wp2_with (go_at_call 17; refine hsp2.mono ?_; rintro e w3 ⟨b, rfl, hb3, hi3⟩)
  have hb123 := hb12.trans (hb3.mono hb12.size)
  have hst := sameTerms_true a b _ w3 (splitL_small l).1 (splitL_small l).2 (HI2.out.below hb3) hi3
  clear hi3 hsp2
  go_wp2_with (go_at_call 18; refine hst.mono ?_; rintro e w4 ⟨rfl, hw4⟩)
  go_ret
  refine ⟨rfl, hb123.trans ?_⟩
  obtain ⟨q, rfl⟩ := hw4
  exact below_drewN (Below.refl _ _) _

theorem polishSplits_contract (H : Type) (enc : TypeId × Value → H) (W : World) (base : Nat) (args : Array Value) (ds gs : List (DataW H)) (before : List MemPlace)
    (hval : ∀ (j : Nat) t v, Tryd.f5.params[j]? = some t → args[j]? = some v → Value.okWide Tryd.prog W .any base t v)
    (hW : DataW.Whole enc Tryd.prog Tryd.f5.params.toList Rows.polishSplitsSpec.vars false W args.toList ds gs before)
    (hsz0 : (DataW.weightsEach Tryd.prog (Tryd.f5.params.toList ++ (OpenSpec.ofChange Rows.polishSplitsSpec).bare.plain.varTypes Tryd.prog) (ds ++ gs)).all (· ≤ reachBytes) = true)
    (hL : laidMetH Tryd.prog Rows.polishSplitsRow.laid W) :
    Calls Tryd.prog 5 args W fun e W' => ∃ v, e = .returned v ∧ Rows.polishSplitsSpec.post enc Tryd.prog Tryd.f5 false true false false W args v W' := by
  have hW' := hW
  obtain ⟨p, q, hA0, hV, rfl, hfz, hnd⟩ := hW
  have hA : DataW.TrodAll enc Tryd.prog W 0 (fun _ => true) true Tryd.f5.params.toList args.toList ds p := hA0
  rw [Tryd.params5] at hA hval
  obtain ⟨v0, vs0, d0, ds0, p0, q0, hargs, rfl, rfl, h0, r0⟩ := trodAll_cons hA
  obtain ⟨rfl, rfl, rfl⟩ := trodAll_nil r0
  obtain rfl : args = #[v0] := by cases args; simp_all
  obtain ⟨rfl, rfl⟩ := trodVars_none hV
  have hsz : (DataW.weightsEach Tryd.prog [26] [d0]).all (· ≤ reachBytes) = true := hsz0
  obtain ⟨l, hl, hlen⟩ := open_ops (hval 0 26 v0 rfl rfl) h0 hsz (j := 0) rfl rfl
  have hT := tabAt hL
  refine (polishSplits_walk v0 l W hlen (tab_size hT) hT hl).mono fun e W' ⟨he, hb⟩ => ⟨_, he, ?_⟩
  refine law_post (fun t ht => ?_) rfl (by kernel_rfl) hW' rfl rfl rfl hb
  rw [Tryd.params5] at ht
  obtain rfl : t = 26 := by simpa using ht
  exact ⟨by kernel_rfl, of_decide_eq_true (by kernel_rfl)⟩

/-- A WORLD FOR THE WITNESS: the settled one, the table (block 0) holding what its initialiser lays. -/
noncomputable def polishSplitsWorld (os : Os) : World :=
  { World.holding Tryd.prog os ⟨#[], #[], []⟩ with heap := (World.holding Tryd.prog os ⟨#[], #[], []⟩).heap.modify 0 fun
      | .cells _ t frozen => .cells #[.int .i64 0, .int .i64 0, .int .i64 0, .int .i64 2, .int .i64 2, .int .i64 2, .int .i64 2, .int .i64 2, .int .i64 2, .int .i64 2, .int .i64 1, .int .i64 0, .int .i64 0, .int .i64 0, .int .i64 1, .int .i64 2, .int .i64 2, .int .i64 1, .int .i64 1] t frozen
      | o => o }
theorem polishSplits_met (os : Os) : laidMet Tryd.prog Rows.polishSplitsRow.laid ((polishSplitsWorld os).forCall (fun _ _ => 0) ⟨#[], #[.slice none 0 0], []⟩).memory :=
  laidMet_of_run' 8 (by kernel_rfl) (by kernel_rfl)
theorem polishSplits_reads (os : Os) {H : Type} (enc : TypeId × Value → H) : ∃ places, DataW.whole enc Tryd.prog ((polishSplitsWorld os).forCall (fun _ _ => 0) ⟨#[], #[.slice none 0 0], []⟩).memory Tryd.f5.params.toList Rows.polishSplitsSpec.vars false #[Value.slice none 0 0].toList 8 = some ([.nil], [], places) :=
  ⟨[], by kernel_rfl⟩

set_option maxRecDepth 100000 in
theorem polishSplits_lifted (os : Os) (started : os.Started) (H : Type) (enc : TypeId × Value → H) (F : Stop.Interp) :
    ReturnsInHanded {} Tryd.checked os 5 .any ((OpenSpec.ofChange Rows.polishSplitsSpec).preRow enc Tryd.prog Tryd.f5 Rows.polishSplitsRow.domain false Rows.polishSplitsRow.laid) (((OpenSpec.ofChange Rows.polishSplitsSpec).at F).post enc Tryd.prog Tryd.f5 false true false false) := by
  obtain ⟨places, hx⟩ := polishSplits_reads os enc
  refine returnsInHanded_of_row (C := Tryd.checked) (s := OpenSpec.ofChange Rows.polishSplitsSpec) own started (by kernel_rfl) Tryd.func5
    (witness_row_at (enc := enc) (C := Tryd.checked) false (polishSplitsWorld os) #[.slice none 0 0] rfl (by kernel_rfl) (by kernel_rfl) (by kernel_rfl)
      (OpenSpec.preRow_of_cond 8 hx (by kernel_rfl) (fun k hk => by cases hk) (by kernel_rfl) (polishSplits_met os))) ?_
  intro W base args ds gs before hval hW _ _ hsz hL _ _
  exact polishSplits_contract H enc W base args ds gs before hval hW hsz hL

theorem polishSplits_said : Rows.PolishSplitsSaid :=
  OpenClaim.holds_of_cond 5 Tryd.f5 rfl rfl rfl rfl rfl rfl rfl ⟨rfl, rfl, rfl, rfl, rfl⟩ rfl rfl rfl rfl rfl (by kernel_rfl) Tryd.func5 (by kernel_rfl)
    (of_decide_eq_true (by kernel_rfl)) (by unfold Func.isWrapper; first | (rw [if_pos (by decide +kernel)]; kernel_rfl) | (rw [if_neg (by decide +kernel)]; exact ⟨rfl, rfl⟩))
    (fun os started H enc _ F => by rw [OpenClaim.pre_eq_preRow]; exact polishSplits_lifted os started H enc F)

theorem polishSplits_plain (f : FuncId) (fn : Func) (hf : Tryd.pinned.checked.prog.funcNamed "foretell/foretelllaw.PolishSplits" = some f) (hfn : Tryd.pinned.checked.prog.funcs[f]? = some fn) :
    true = Tryd.pinned.checked.prog.looks [] ∧ ∀ (j : Nat) t, fn.params[j]? = some t → Tryd.pinned.checked.prog.wantsStandIn t = false := by
  obtain rfl : f = 5 := Option.some.inj ((show Tryd.prog.funcNamed "foretell/foretelllaw.PolishSplits" = some 5 by kernel_rfl).symm.trans hf) |>.symm
  obtain rfl : fn = Tryd.f5 := (Option.some.inj (Tryd.func5.symm.trans hfn)).symm
  refine ⟨by kernel_rfl, fun j t ht => ?_⟩
  rw [Tryd.params5] at ht
  have ht' := Array.mem_of_getElem? ht
  simp only [List.mem_toArray, List.mem_cons, List.not_mem_nil, or_false] at ht'
  subst ht'
  exact (show Tryd.prog.wantsStandIn 26 = false by kernel_rfl)

/-- THE CARD. -/
theorem polishSplits_card : Rows.PolishSplitsCardSaid :=
  Claim7.holds_tied_plain_at .later [] _ _ _ _ polishSplits_said (fun _ h => by cases h) (by kernel_rfl) (fun _ h => by cases h) polishSplits_row_tie rfl ⟨rfl, rfl⟩ (by kernel_rfl) rfl polishSplits_plain (by kernel_rfl)
#print axioms polishSplits_card
end Go.Proofs.YtkdbblchkkemgaaDoor
