/-
  Proved: foretelllaw.PolishEnds answers true at every list of ops (polish.Ends answers as the document's P1.2 does, and changes nothing), given that the table polish.partCounts reads as its initialiser lays it, which the card ties to the program's text. No other condition.
-/
import Derived.Test.YtkdbblchkkemgaaDoorCards
import Derived.Test.YtkdbblchkkemgaaDoorTie
import Derived.Test.YtkdbblchkkemgaaDoorOpen
namespace Go.Proofs.YtkdbblchkkemgaaDoor
open Go.ChangeShapes Go.WideShapes Go.ChangeAt Go.RowKit Go.Deep
open Terms

set_option maxHeartbeats 800000 in
theorem polishEnds_walk (v : Value) (l : List (Int × Int)) (w : World) (hl : l.length * 16 ≤ 140737488355328) (hB : 0 < w.heap.size) (hT : TabAt w) (hV : OpsV w v l) :
    Calls Tryd.prog 4 #[v] w fun e w' => e = .returned (.bool true) ∧ Below w.heap.size w w' := by
  have hops := ops_any v l w hl hV
  have HV : Hid (OpsV w v l) := hV
  have HT : Hid (TabAt w) := hT
  clear hV hT
  go_enter Tryd.func4, Tryd.ntmps4
  go_wp2_with (go_at_call 11; refine hops.mono ?_; rintro e w1 ⟨c, rfl, hb1, ho1⟩)
  have hv1 := opsV_of_owns ho1
  clear ho1
  have hends := ends_v c _ w1 (Nat.lt_of_lt_of_le hB hb1.size) (HT.out.below hb1 hB) hv1.kinds
  have HV1 : Hid (OpsV w1 c l) := hv1
  clear hv1 hops
  go_wp2_with (go_at_call 12; refine hends.mono ?_; rintro e w2 ⟨a, rfl, hb2, hi2⟩)
  have hb12 := hb1.trans (hb2.mono hb1.size)
  have hends2 := endsOf_v v _ w2 (HV.out.below hb12).kinds
  have HI2 : Hid (IntsV w2 a (endsL (l.map Prod.fst))) := hi2
  clear hi2 hends
  go_wp2_with (go_at_call 13; refine hends2.mono ?_; rintro e w3 ⟨b, rfl, hb3, hi3⟩)
  have hb123 := hb12.trans (hb3.mono hb12.size)
  have hsi := sameInts_b a b _ w3 (Nat.le_trans (endsL_le _) (by omega)) (HI2.out.below hb3) hi3
  clear hi3 hends2
  go_wp2_with (go_at_call 14; refine hsi.mono ?_; rintro e w4 ⟨rfl, hb34⟩)
  have hb1234 := hb123.trans (hb34.mono hb123.size)
  have hso := sameOps_b c v l w4 (by omega) ((((HV1.out.below hb2).below hb3)).below hb34) (HV.out.below hb1234)
  have HB : Hid (Below w.heap.size w w4) := hb1234
  clear hsi hb1234 hb34
  go_wp2_with (go_at_call 15; refine hso.mono ?_; rintro e w5 ⟨rfl, hb5⟩)
  go_ret
  exact ⟨rfl, HB.out.trans (hb5.mono HB.out.size)⟩

theorem polishEnds_contract (H : Type) (enc : TypeId × Value → H) (W : World) (base : Nat) (args : Array Value) (ds gs : List (DataW H)) (before : List MemPlace)
    (hval : ∀ (j : Nat) t v, Tryd.f4.params[j]? = some t → args[j]? = some v → Value.okWide Tryd.prog W .any base t v)
    (hW : DataW.Whole enc Tryd.prog Tryd.f4.params.toList Rows.polishEndsSpec.vars false W args.toList ds gs before)
    (hsz0 : (DataW.weightsEach Tryd.prog (Tryd.f4.params.toList ++ (OpenSpec.ofChange Rows.polishEndsSpec).bare.plain.varTypes Tryd.prog) (ds ++ gs)).all (· ≤ reachBytes) = true)
    (hL : laidMetH Tryd.prog Rows.polishEndsRow.laid W) :
    Calls Tryd.prog 4 args W fun e W' => ∃ v, e = .returned v ∧ Rows.polishEndsSpec.post enc Tryd.prog Tryd.f4 false true false false W args v W' := by
  have hW' := hW
  obtain ⟨p, q, hA0, hV, rfl, hfz, hnd⟩ := hW
  have hA : DataW.TrodAll enc Tryd.prog W 0 (fun _ => true) true Tryd.f4.params.toList args.toList ds p := hA0
  rw [Tryd.params4] at hA hval
  obtain ⟨v0, vs0, d0, ds0, p0, q0, hargs, rfl, rfl, h0, r0⟩ := trodAll_cons hA
  obtain ⟨rfl, rfl, rfl⟩ := trodAll_nil r0
  obtain rfl : args = #[v0] := by cases args; simp_all
  obtain ⟨rfl, rfl⟩ := trodVars_none hV
  have hsz : (DataW.weightsEach Tryd.prog [26] [d0]).all (· ≤ reachBytes) = true := hsz0
  obtain ⟨l, hl, hlen⟩ := open_ops (hval 0 26 v0 rfl rfl) h0 hsz (j := 0) rfl rfl
  have hT := tabAt hL
  refine (polishEnds_walk v0 l W hlen (tab_size hT) hT hl).mono fun e W' ⟨he, hb⟩ => ⟨_, he, ?_⟩
  refine law_post (fun t ht => ?_) rfl (by kernel_rfl) hW' rfl rfl rfl hb
  rw [Tryd.params4] at ht
  obtain rfl : t = 26 := by simpa using ht
  exact ⟨by kernel_rfl, of_decide_eq_true (by kernel_rfl)⟩

/-- A WORLD FOR THE WITNESS: the settled one, the table (block 0) holding what its initialiser lays. -/
noncomputable def polishEndsWorld (os : Os) : World :=
  { World.holding Tryd.prog os ⟨#[], #[], []⟩ with heap := (World.holding Tryd.prog os ⟨#[], #[], []⟩).heap.modify 0 fun
      | .cells _ t frozen => .cells #[.int .i64 0, .int .i64 0, .int .i64 0, .int .i64 2, .int .i64 2, .int .i64 2, .int .i64 2, .int .i64 2, .int .i64 2, .int .i64 2, .int .i64 1, .int .i64 0, .int .i64 0, .int .i64 0, .int .i64 1, .int .i64 2, .int .i64 2, .int .i64 1, .int .i64 1] t frozen
      | o => o }
theorem polishEnds_met (os : Os) : laidMet Tryd.prog Rows.polishEndsRow.laid ((polishEndsWorld os).forCall (fun _ _ => 0) ⟨#[], #[.slice none 0 0], []⟩).memory :=
  laidMet_of_run' 8 (by kernel_rfl) (by kernel_rfl)
theorem polishEnds_reads (os : Os) {H : Type} (enc : TypeId × Value → H) : ∃ places, DataW.whole enc Tryd.prog ((polishEndsWorld os).forCall (fun _ _ => 0) ⟨#[], #[.slice none 0 0], []⟩).memory Tryd.f4.params.toList Rows.polishEndsSpec.vars false #[Value.slice none 0 0].toList 8 = some ([.nil], [], places) :=
  ⟨[], by kernel_rfl⟩

set_option maxRecDepth 100000 in
theorem polishEnds_lifted (os : Os) (started : os.Started) (H : Type) (enc : TypeId × Value → H) (F : Stop.Interp) :
    ReturnsInHanded {} Tryd.checked os 4 .any ((OpenSpec.ofChange Rows.polishEndsSpec).preRow enc Tryd.prog Tryd.f4 Rows.polishEndsRow.domain false Rows.polishEndsRow.laid) (((OpenSpec.ofChange Rows.polishEndsSpec).at F).post enc Tryd.prog Tryd.f4 false true false false) := by
  obtain ⟨places, hx⟩ := polishEnds_reads os enc
  refine returnsInHanded_of_row (C := Tryd.checked) (s := OpenSpec.ofChange Rows.polishEndsSpec) own started (by kernel_rfl) Tryd.func4
    (witness_row_at (enc := enc) (C := Tryd.checked) false (polishEndsWorld os) #[.slice none 0 0] rfl (by kernel_rfl) (by kernel_rfl) (by kernel_rfl)
      (OpenSpec.preRow_of_cond 8 hx (by kernel_rfl) (fun k hk => by cases hk) (by kernel_rfl) (polishEnds_met os))) ?_
  intro W base args ds gs before hval hW _ _ hsz hL _ _
  exact polishEnds_contract H enc W base args ds gs before hval hW hsz hL

theorem polishEnds_said : Rows.PolishEndsSaid :=
  OpenClaim.holds_of_cond 4 Tryd.f4 rfl rfl rfl rfl rfl rfl rfl ⟨rfl, rfl, rfl, rfl, rfl⟩ rfl rfl rfl rfl rfl (by kernel_rfl) Tryd.func4 (by kernel_rfl)
    (of_decide_eq_true (by kernel_rfl)) (by unfold Func.isWrapper; first | (rw [if_pos (by decide +kernel)]; kernel_rfl) | (rw [if_neg (by decide +kernel)]; exact ⟨rfl, rfl⟩))
    (fun os started H enc _ F => by rw [OpenClaim.pre_eq_preRow]; exact polishEnds_lifted os started H enc F)

theorem polishEnds_plain (f : FuncId) (fn : Func) (hf : Tryd.pinned.checked.prog.funcNamed "foretell/foretelllaw.PolishEnds" = some f) (hfn : Tryd.pinned.checked.prog.funcs[f]? = some fn) :
    true = Tryd.pinned.checked.prog.looks [] ∧ ∀ (j : Nat) t, fn.params[j]? = some t → Tryd.pinned.checked.prog.wantsStandIn t = false := by
  obtain rfl : f = 4 := Option.some.inj ((show Tryd.prog.funcNamed "foretell/foretelllaw.PolishEnds" = some 4 by kernel_rfl).symm.trans hf) |>.symm
  obtain rfl : fn = Tryd.f4 := (Option.some.inj (Tryd.func4.symm.trans hfn)).symm
  refine ⟨by kernel_rfl, fun j t ht => ?_⟩
  rw [Tryd.params4] at ht
  have ht' := Array.mem_of_getElem? ht
  simp only [List.mem_toArray, List.mem_cons, List.not_mem_nil, or_false] at ht'
  subst ht'
  exact (show Tryd.prog.wantsStandIn 26 = false by kernel_rfl)

/-- THE CARD. -/
theorem polishEnds_card : Rows.PolishEndsCardSaid :=
  Claim7.holds_tied_plain_at .later [] _ _ _ _ polishEnds_said (fun _ h => by cases h) (by kernel_rfl) (fun _ h => by cases h) polishEnds_row_tie rfl ⟨rfl, rfl⟩ (by kernel_rfl) rfl polishEnds_plain (by kernel_rfl)
#print axioms polishEnds_card
end Go.Proofs.YtkdbblchkkemgaaDoor
