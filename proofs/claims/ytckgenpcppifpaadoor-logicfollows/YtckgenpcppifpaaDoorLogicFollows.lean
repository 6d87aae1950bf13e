/-
  Proved: foretelllaw.LogicFollows answers true at every list of ops, all letters and all claims (logic.Follows answers as the document's P5.5 does), given that the table polish.partCounts reads as its initialiser lays it, which the card ties to the program's text. No other condition.
-/
import Derived.Test.YtckgenpcppifpaaDoorCards
import Derived.Test.YtckgenpcppifpaaDoorTie
import Derived.Test.YtckgenpcppifpaaDoorRow
import Derived.Test.YtckgenpcppifpaaDoorOpsOf
import Derived.Test.YtckgenpcppifpaaDoorBoolsOf
import Derived.Test.YtckgenpcppifpaaDoorLogicFollow
import Derived.Test.YtckgenpcppifpaaDoorRefFollow
namespace Go.Proofs.YtckgenpcppifpaaDoor
open Go.ChangeShapes Go.WideShapes Go.ChangeAt Go.RowKit Go.Deep
open Terms

set_option maxHeartbeats 1600000 in
set_option maxRecDepth 20000 in
theorem logicFollows_walk (v xv yv : Value) (l : List (Int × Int)) (x y : List Bool) (claim later : Int) (w : World) (hl : l.length * 16 ≤ 140737488355328) (hlx : x.length ≤ 140737488355328) (hly : y.length ≤ 140737488355328) (hB : 0 < w.heap.size) (hT : TabAt w) (hV : OpsV w v l) (hX : BoolsW w xv x) (hY : BoolsW w yv y) :
    Calls Tryd.prog 6 #[v, xv, .int .i64 claim, yv, .int .i64 later] w fun e w' => e = .returned (.bool true) ∧ Below w.heap.size w w' := by
  have hops := ops_any v l w hl hV
  have htc := fun w1 (hb : Below w.heap.size w w1) => truthsC_any xv x w1 hlx (hX.below hb)
  have htd := fun w1 (hb : Below w.heap.size w w1) => truthsC_any yv y w1 hly (hY.below hb)
  have HV : Hid (OpsV w v l) := hV
  have HX : Hid (BoolsW w xv x) := hX
  have HY : Hid (BoolsW w yv y) := hY
  have HT : Hid (TabAt w) := hT
  obtain ⟨vo, vc, rfl, _⟩ := hV
  obtain ⟨xo, xc, rfl, _⟩ := hX
  obtain ⟨yo, yc, rfl, _⟩ := hY
  have HC : Hid (∀ w1 w2 w3 cv uv dv, Below w.heap.size w w1 → Below w1.heap.size w1 w2 → Below w2.heap.size w2 w3 → w1.ownsRow w.heap.size 53 2 dv l.length (flat l) → w2.ownsRow w1.heap.size 4 1 cv x.length (bvals x) → w3.ownsRow w2.heap.size 4 1 uv y.length (bvals y) → Calls Tryd.prog 18 #[dv, cv, .int .i64 claim, uv, .int .i64 later] w3 fun e w' => e = .returned (.tuple #[.bool (folR l x claim y later), .int .i64 (fcode l x claim y later)]) ∧ Below w3.heap.size w3 w') := fun w1 w2 w3 cv uv dv hb1 hb2 hb3 hd hc hu => by
    have hb12 := hb1.trans (hb2.mono hb1.size)
    have hb13 := hb12.trans (hb3.mono hb12.size)
    exact lfol_any dv cv uv l x y claim later w3 (Nat.lt_of_lt_of_le hB hb13.size) (HT.out.below hb13 hB) (((opsV_of_owns hd).below hb2).below hb3) ((boolsV_of_owns hc).below hb3) (boolsV_of_owns hu)
  have HR : Hid (∀ w3, Below w.heap.size w w3 → Calls Tryd.prog 20 #[.slice vo l.length vc, .slice xo x.length xc, .int .i64 claim, .slice yo y.length yc, .int .i64 later] w3 fun e w' => e = .returned (.tuple #[.bool (folR l x claim y later), .int .i64 (fcode l x claim y later)]) ∧ Below w3.heap.size w3 w') := fun w3 hb => rfol_any _ _ _ l x y claim later w3 (HV.out.below hb) (HX.out.v.below hb) (HY.out.v.below hb)
  generalize fcode l x claim y later = tc at HC HR
  generalize folR l x claim y later = mn at HC HR
  go_enter Tryd.func6, Tryd.ntmps6
  go_wp2_with (first | (go_at_call 9; refine hops.mono ?_; rintro e w1 ⟨dv, rfl, hb1, ho1⟩; obtain ⟨dd, dc, rfl⟩ := owns_slice ho1; have htc1 := htc w1 hb1) | (go_at_call 19; refine htc1.mono ?_; clear htc1; rintro e w2 ⟨cv, rfl, hb2, ho2⟩; obtain ⟨co, cc, rfl⟩ := owns_slice ho2; have hb12 := hb1.trans (hb2.mono hb1.size); have htd1 := htd w2 hb12) | (go_at_call 19; refine htd1.mono ?_; clear htd1; rintro e w3 ⟨uv, rfl, hb3, ho3⟩; obtain ⟨uo, uc, rfl⟩ := owns_slice ho3; have hb13 := hb12.trans (hb3.mono hb12.size); have hct := HC.out w1 w2 w3 _ _ _ hb1 hb2 hb3 ho1 ho2 ho3) | (go_at_call 18; refine hct.mono ?_; rintro e w4 ⟨rfl, hb4⟩; have hb14 := hb13.trans (hb4.mono hb13.size); have hrt := HR.out w4 hb14) | (go_at_call 20; refine hrt.mono ?_; rintro e w5 ⟨rfl, hb5⟩; have hb15 := hb14.trans (hb5.mono hb14.size)))
  go_ret
  exact ⟨by first | rfl | simp, hb15⟩

set_option maxRecDepth 20000 in
theorem logicFollows_contract (H : Type) (enc : TypeId × Value → H) (W : World) (base : Nat) (args : Array Value) (ds gs : List (DataW H)) (before : List MemPlace)
    (hval : ∀ (j : Nat) t v, Tryd.f6.params[j]? = some t → args[j]? = some v → Value.okWide Tryd.prog W .any base t v)
    (hW : DataW.Whole enc Tryd.prog Tryd.f6.params.toList Rows.logicFollowsSpec.vars false W args.toList ds gs before)
    (hsz0 : (DataW.weightsEach Tryd.prog (Tryd.f6.params.toList ++ (OpenSpec.ofChange Rows.logicFollowsSpec).bare.plain.varTypes Tryd.prog) (ds ++ gs)).all (· ≤ reachBytes) = true)
    (hL : laidMetH Tryd.prog Rows.logicFollowsRow.laid W) :
    Calls Tryd.prog 6 args W fun e W' => ∃ v, e = .returned v ∧ Rows.logicFollowsSpec.post enc Tryd.prog Tryd.f6 false true false false W args v W' := by
  have hW' := hW
  obtain ⟨p, q, hA0, hV, rfl, hfz, hnd⟩ := hW
  have hA : DataW.TrodAll enc Tryd.prog W 0 (fun _ => true) true Tryd.f6.params.toList args.toList ds p := hA0
  rw [Tryd.params6] at hA hval
  obtain ⟨v0, vs0, d0, ds0, p0, q0, hargs, rfl, rfl, h0, r0⟩ := trodAll_cons hA
  obtain ⟨v1, vs1, d1, ds1, p1, q1, rfl, rfl, rfl, h1, r1⟩ := trodAll_cons r0
  obtain ⟨v2, vs2, d2, ds2, p2, q2, rfl, rfl, rfl, h2, r2⟩ := trodAll_cons r1
  obtain ⟨v3, vs3, d3, ds3, p3, q3, rfl, rfl, rfl, h3, r3⟩ := trodAll_cons r2
  obtain ⟨v4, vs4, d4, ds4, p4, q4, rfl, rfl, rfl, h4, r4⟩ := trodAll_cons r3
  obtain ⟨rfl, rfl, rfl⟩ := trodAll_nil r4
  obtain rfl : args = #[v0, v1, v2, v3, v4] := by cases args; simp_all
  obtain ⟨rfl, rfl⟩ := trodVars_none hV
  have hsz : (DataW.weightsEach Tryd.prog [22, 27, 3, 27, 3] [d0, d1, d2, d3, d4]).all (· ≤ reachBytes) = true := hsz0
  obtain ⟨l, hl, hlenl⟩ := open_ops (hval 0 22 v0 rfl rfl) h0 hsz (j := 0) rfl rfl
  obtain ⟨x, hx, hlenx⟩ := open_bools (hval 1 27 v1 rfl rfl) h1 hsz (j := 1) rfl rfl
  obtain ⟨claim, rfl, rfl, rfl, wf2⟩ := open_int Tryd.underlying3 (hval 2 3 v2 rfl rfl) h2
  obtain ⟨y, hy, hleny⟩ := open_bools (hval 3 27 v3 rfl rfl) h3 hsz (j := 3) rfl rfl
  obtain ⟨later, rfl, rfl, rfl, wf4⟩ := open_int Tryd.underlying3 (hval 4 3 v4 rfl rfl) h4
  have hT := tabAt hL
  refine (logicFollows_walk v0 v1 v3 l x y claim later W hlenl hlenx hleny (tab_size hT) hT hl hx hy).mono fun e W' ⟨he, hb⟩ => ⟨_, he, ?_⟩
  refine law_post (fun t ht => ?_) rfl (by kernel_rfl) hW' rfl rfl rfl hb
  rw [Tryd.params6] at ht
  simp only [List.mem_cons, List.not_mem_nil, or_false] at ht
  rcases ht with rfl | rfl | rfl | rfl | rfl
  · exact ⟨by kernel_rfl, of_decide_eq_true (by kernel_rfl)⟩
  · exact ⟨by kernel_rfl, of_decide_eq_true (by kernel_rfl)⟩
  · exact ⟨by kernel_rfl, of_decide_eq_true (by kernel_rfl)⟩
  · exact ⟨by kernel_rfl, of_decide_eq_true (by kernel_rfl)⟩
  · exact ⟨by kernel_rfl, of_decide_eq_true (by kernel_rfl)⟩

/-- A WORLD FOR THE WITNESS: the settled one, the table (block 0) holding what its initialiser lays. -/
noncomputable def logicFollowsWorld (os : Os) : World :=
  { World.holding Tryd.prog os ⟨#[], #[], []⟩ with heap := (World.holding Tryd.prog os ⟨#[], #[], []⟩).heap.modify 0 fun
      | .cells _ t frozen => .cells #[.int .i64 0, .int .i64 0, .int .i64 0, .int .i64 2, .int .i64 2, .int .i64 2, .int .i64 2, .int .i64 2, .int .i64 2, .int .i64 2, .int .i64 1, .int .i64 0, .int .i64 0, .int .i64 0, .int .i64 1, .int .i64 2, .int .i64 2, .int .i64 1, .int .i64 1] t frozen
      | o => o }
theorem logicFollows_met (os : Os) : laidMet Tryd.prog Rows.logicFollowsRow.laid ((logicFollowsWorld os).forCall (fun _ _ => 0) ⟨#[], #[.slice none 0 0, .slice none 0 0, .int .i64 0, .slice none 0 0, .int .i64 0], []⟩).memory :=
  laidMet_of_run' 8 (by kernel_rfl) (by kernel_rfl)
theorem logicFollows_reads (os : Os) {H : Type} (enc : TypeId × Value → H) : ∃ places, DataW.whole enc Tryd.prog ((logicFollowsWorld os).forCall (fun _ _ => 0) ⟨#[], #[.slice none 0 0, .slice none 0 0, .int .i64 0, .slice none 0 0, .int .i64 0], []⟩).memory Tryd.f6.params.toList Rows.logicFollowsSpec.vars false #[Value.slice none 0 0, .slice none 0 0, .int .i64 0, .slice none 0 0, .int .i64 0].toList 8 = some ([.nil, .nil, .lit (.int .i64 0), .nil, .lit (.int .i64 0)], [], places) :=
  ⟨[], by kernel_rfl⟩

set_option maxRecDepth 100000 in
theorem logicFollows_lifted (os : Os) (started : os.Started) (H : Type) (enc : TypeId × Value → H) (F : Stop.Interp) :
    ReturnsInHanded {} Tryd.checked os 6 .any ((OpenSpec.ofChange Rows.logicFollowsSpec).preRow enc Tryd.prog Tryd.f6 Rows.logicFollowsRow.domain false Rows.logicFollowsRow.laid) (((OpenSpec.ofChange Rows.logicFollowsSpec).at F).post enc Tryd.prog Tryd.f6 false true false false) := by
  obtain ⟨places, hx⟩ := logicFollows_reads os enc
  refine returnsInHanded_of_row (C := Tryd.checked) (s := OpenSpec.ofChange Rows.logicFollowsSpec) own started (by kernel_rfl) Tryd.func6
    (witness_row_at (enc := enc) (C := Tryd.checked) false (logicFollowsWorld os) #[.slice none 0 0, .slice none 0 0, .int .i64 0, .slice none 0 0, .int .i64 0] rfl (by kernel_rfl) (by kernel_rfl) (by kernel_rfl)
      (OpenSpec.preRow_of_cond 8 hx (by kernel_rfl) (fun k hk => by cases hk) (by kernel_rfl) (logicFollows_met os))) ?_
  intro W base args ds gs before hval hW _ _ hsz hL _ _
  exact logicFollows_contract H enc W base args ds gs before hval hW hsz hL

theorem logicFollows_said : Rows.LogicFollowsSaid :=
  OpenClaim.holds_of_cond 6 Tryd.f6 rfl rfl rfl rfl rfl rfl rfl ⟨rfl, rfl, rfl, rfl, rfl⟩ rfl rfl rfl rfl rfl (by kernel_rfl) Tryd.func6 (by kernel_rfl)
    (of_decide_eq_true (by kernel_rfl)) (by unfold Func.isWrapper; first | (rw [if_pos (by decide +kernel)]; kernel_rfl) | (rw [if_neg (by decide +kernel)]; exact ⟨rfl, rfl⟩))
    (fun os started H enc _ F => by rw [OpenClaim.pre_eq_preRow]; exact logicFollows_lifted os started H enc F)

theorem logicFollows_plain (f : FuncId) (fn : Func) (hf : Tryd.pinned.checked.prog.funcNamed "foretell/foretelllaw.LogicFollows" = some f) (hfn : Tryd.pinned.checked.prog.funcs[f]? = some fn) :
    true = Tryd.pinned.checked.prog.looks [] ∧ ∀ (j : Nat) t, fn.params[j]? = some t → Tryd.pinned.checked.prog.wantsStandIn t = false := by
  obtain rfl : f = 6 := Option.some.inj ((show Tryd.prog.funcNamed "foretell/foretelllaw.LogicFollows" = some 6 by kernel_rfl).symm.trans hf) |>.symm
  obtain rfl : fn = Tryd.f6 := (Option.some.inj (Tryd.func6.symm.trans hfn)).symm
  refine ⟨by kernel_rfl, fun j t ht => ?_⟩
  rw [Tryd.params6] at ht
  have ht' := Array.mem_of_getElem? ht
  simp only [List.mem_toArray, List.mem_cons, List.not_mem_nil, or_false] at ht'
  rcases ht' with rfl | rfl | rfl | rfl | rfl
  · exact (show Tryd.prog.wantsStandIn 22 = false by kernel_rfl)
  · exact (show Tryd.prog.wantsStandIn 27 = false by kernel_rfl)
  · exact (show Tryd.prog.wantsStandIn 3 = false by kernel_rfl)
  · exact (show Tryd.prog.wantsStandIn 27 = false by kernel_rfl)
  · exact (show Tryd.prog.wantsStandIn 3 = false by kernel_rfl)

/-- THE CARD. -/
theorem logicFollows_card : Rows.LogicFollowsCardSaid :=
  Claim7.holds_tied_plain_at .later [] _ _ _ _ logicFollows_said (fun _ h => by cases h) (by kernel_rfl) (fun _ h => by cases h) logicFollows_row_tie rfl ⟨rfl, rfl⟩ (by kernel_rfl) rfl logicFollows_plain (by kernel_rfl)
#print axioms logicFollows_card
end Go.Proofs.YtckgenpcppifpaaDoor
