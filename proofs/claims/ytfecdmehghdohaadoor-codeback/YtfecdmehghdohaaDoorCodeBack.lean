/-
  Proved: foretellkeep.CodeBack answers true at every design and every number (the model that it makes passes; the values of a code have that code; what is no code has none), given that the table polish.partCounts reads as its initialiser lays it, which the card ties to the program's text. No other condition.
-/
import Derived.Test.YtfecdmehghdohaaDoorCards
import Derived.Test.YtfecdmehghdohaaDoorTie
import Derived.Test.YtfecdmehghdohaaDoorRow
import Derived.Test.YtfecdmehghdohaaDoorKeepDesign
namespace Go.Proofs.YtfecdmehghdohaaDoor
open Go.ChangeShapes Go.WideShapes Go.ChangeAt Go.RowKit Go.Deep
open Terms Tm

set_option maxHeartbeats 3200000 in
set_option maxRecDepth 20000 in
theorem codeBack_walk (c0 c1 c2 c3 c4 c5 c6 : Value) (a b : Vr) (code : Int) (w : World) (hB : 0 < w.heap.size) (hT : TabAt w) (hG : GV a b) (hc : I64 code)
    (hmd : ∀ w', Below w.heap.size w w' → Calls Tryd.prog 8 #[.agg #[c0, c1, c2, c3, c4, c5, c6]] w' fun e w2 => ∃ va vr, e = .returned (.agg #[va, vr]) ∧ Below w'.heap.size w' w2 ∧ GModel w2 va vr [a, b]) :
    Calls Tryd.prog 3 #[.agg #[c0, c1, c2, c3, c4, c5, c6], .int .i64 code] w fun e w' => e = .returned (.bool true) ∧ Below w.heap.size w w' := by
  have HT : Hid (∀ w', Below w.heap.size w w' → 0 < w'.heap.size ∧ TabAt w') := fun w' hb => ⟨Nat.lt_of_lt_of_le hB hb.size, hT.below hb hB⟩
  have hA : ∀ o, Below w.heap.size w (w.alloc o) := fun o => (Below.refl _ _).alloc (Nat.le_refl _) o
  clear hB hT
  go_enter Tryd.func3, Tryd.ntmps3
  go_wp2_with (go_at_call 8; refine (hmd _ (hA _)).mono ?_; rintro e w1 ⟨va, vr, rfl, hb1, hM⟩; obtain ⟨ao, cap, ro, rn, rc, rfl, rfl, hrn⟩ := hM.shape)
  obtain ⟨hbW, hk⟩ := kept (a := a) (b := b) (t := 29) HT.out ((hA _).trans (hb1.mono (hA _).size)) hM rfl
  generalize w1.alloc (.cells #[.slice ao 2 cap, .slice ro rn rc] 29) = W2 at hbW hk ⊢
  have HK : Hid (∀ w', Below W2.heap.size W2 w' → (0 < w'.heap.size ∧ TabAt w' ∧ GModel w' (.slice ao 2 cap) (.slice ro rn rc) [a, b]) ∧ w'.cell? ⟨w1.heap.size, 0, none⟩ = some (.slice ao 2 cap) ∧ w'.cell? ⟨w1.heap.size, 1, none⟩ = some (.slice ro rn rc)) := hk
  have HBW : Hid (Below w.heap.size w W2) := hbW
  obtain ⟨⟨z0, z1, z2⟩, z3, z4⟩ := hk W2 (Below.refl _ _)
  have hcn := kcount hG z0 z1 z2
  have hvo := fun w' (hb : Below W2.heap.size W2 w') => kvalues_out hG (c := vspan a * vspan b) (by omega) (hk w' hb).1.1 (hk w' hb).1.2.1 (hk w' hb).1.2.2
  have hch := fun w' (hb : Below W2.heap.size W2 w') => kcheck hG (hk w' hb).1.1 (hk w' hb).1.2.1 (hk w' hb).1.2.2
  have hP := hG.prod
  have hpk := fun w => picked_is code (vspan a * vspan b) w hc (by omega) (by omega)
  have hpr := pk_range (n := code) (m := vspan a * vspan b) (by omega)
  generalize pk code (vspan a * vspan b) = c at hpk hpr
  have hvl := fun w' (hb : Below W2.heap.size W2 w') => kvalues hG hpr (hk w' hb).1.1 (hk w' hb).1.2.1 (hk w' hb).1.2.2
  have hcd := fun w' (hb : Below W2.heap.size W2 w') vv (hI : IntsV w' vv (cvals a b c)) => kback hG hpr (hk w' hb).1.1 (hk w' hb).1.2.1 (hk w' hb).1.2.2 hI
  generalize vspan a * vspan b = N at hP hpk hpr hvo hvl hcd hcn
  obtain ⟨hp1, hp2⟩ := hP
  clear hk hbW hM hb1 hmd hc hG z0 z1 z2 hrn
  go_wp2_with (first | (go_at_call 9; refine hcn.mono ?_; rintro e w3 ⟨rfl, hb3⟩; obtain ⟨k30, k31⟩ := (HK.out w3 hb3).2) | (go_at_call 10; refine (hpk _).mono ?_; rintro e w9 ⟨rfl, rfl⟩) | (go_at_call_of 11 c; refine (hvl _ hb3).mono ?_; rintro e w4 ⟨B, rfl, hB4, hb4, hr4⟩; have hb24 := hb3.trans (hb4.mono hb3.size); obtain ⟨k40, k41⟩ := (HK.out w4 hb24).2; have hI4 := kcvals hr4) | (go_at_call 12; refine (hcd _ hb24 _ hI4).mono ?_; rintro e w5 ⟨rfl, hb5⟩; have hb25 := hb24.trans (hb5.mono hb24.size); obtain ⟨k50, k51⟩ := (HK.out w5 hb25).2) | (go_at_call_of 11 N; refine (hvo _ hb25).mono ?_; rintro e w6 ⟨v6, rfl, hb6⟩; have hb26 := hb25.trans (hb6.mono hb25.size); obtain ⟨k60, k61⟩ := (HK.out w6 hb26).2) | (go_at_call 13; refine (hch _ hb26).mono ?_; rintro e w7 ⟨rfl, hb7⟩; have hb27 := hb26.trans (hb7.mono hb26.size)))
  all_goals go_ret
  all_goals exact ⟨by first | rfl | simp, HBW.out.trans (hb27.mono HBW.out.size)⟩

theorem codeBack_contract (H : Type) (enc : TypeId × Value → H) (W : World) (base : Nat) (args : Array Value) (ds gs : List (DataW H)) (before : List MemPlace)
    (hval : ∀ (j : Nat) t v, Tryd.f3.params[j]? = some t → args[j]? = some v → Value.okWide Tryd.prog W .any base t v)
    (hW : DataW.Whole enc Tryd.prog Tryd.f3.params.toList Rows.codeBackSpec.vars false W args.toList ds gs before)
    (hsz0 : (DataW.weightsEach Tryd.prog (Tryd.f3.params.toList ++ (OpenSpec.ofChange Rows.codeBackSpec).bare.plain.varTypes Tryd.prog) (ds ++ gs)).all (· ≤ reachBytes) = true)
    (hL : laidMetH Tryd.prog Rows.codeBackRow.laid W) :
    Calls Tryd.prog 3 args W fun e W' => ∃ v, e = .returned v ∧ Rows.codeBackSpec.post enc Tryd.prog Tryd.f3 false true false false W args v W' := by
  have hW' := hW
  obtain ⟨p, q, hA0, hV, rfl, hfz, hnd⟩ := hW
  have hA : DataW.TrodAll enc Tryd.prog W 0 (fun _ => true) true Tryd.f3.params.toList args.toList ds p := hA0
  rw [Tryd.params3] at hA hval
  obtain ⟨v0, vs0, d0, ds0, p0, q0, hargs, rfl, rfl, h0, r0⟩ := trodAll_cons hA
  obtain ⟨v1, vs1, d1, ds1, p1, q1, rfl, rfl, rfl, h1, r1⟩ := trodAll_cons r0
  obtain ⟨rfl, rfl, rfl⟩ := trodAll_nil r1
  obtain rfl : args = #[v0, v1] := by cases args; simp_all
  obtain ⟨rfl, rfl⟩ := trodVars_none hV
  have hsz : (DataW.weightsEach Tryd.prog [25, 3] [d0, d1]).all (· ≤ reachBytes) = true := hsz0
  obtain ⟨vars, hD⟩ := open_design (hval 0 25 v0 rfl rfl) h0 hsz (j := 0) rfl rfl
  obtain ⟨c0, c1, c2, c3, c4, c5, c6, a, b, rfl, hG, hmd⟩ := design_model hD
  obtain ⟨code, rfl, rfl, rfl, wf1⟩ := open_int Tryd.underlying3 (hval 1 3 v1 rfl rfl) h1
  have hT := tabAt hL
  refine (codeBack_walk c0 c1 c2 c3 c4 c5 c6 a b code W (tab_size hT) hT hG (bounds_i64 wf1) hmd).mono fun e W' ⟨he, hb⟩ => ⟨_, he, ?_⟩
  refine law_post (fun t ht => ?_) rfl (by kernel_rfl) hW' rfl rfl rfl hb
  rw [Tryd.params3] at ht
  simp only [List.mem_cons, List.not_mem_nil, or_false] at ht
  rcases ht with rfl | rfl
  · exact ⟨by kernel_rfl, of_decide_eq_true (by kernel_rfl)⟩
  · exact ⟨by kernel_rfl, of_decide_eq_true (by kernel_rfl)⟩

/-- A WORLD FOR THE WITNESS: the settled one, the table (block 0) holding what its initialiser lays. -/
noncomputable def codeBackWorld (os : Os) : World :=
  { World.holding Tryd.prog os ⟨#[], #[], []⟩ with heap := (World.holding Tryd.prog os ⟨#[], #[], []⟩).heap.modify 0 fun
      | .cells _ t frozen => .cells #[.int .i64 0, .int .i64 0, .int .i64 0, .int .i64 2, .int .i64 2, .int .i64 2, .int .i64 2, .int .i64 2, .int .i64 2, .int .i64 2, .int .i64 1, .int .i64 0, .int .i64 0, .int .i64 0, .int .i64 1, .int .i64 2, .int .i64 2, .int .i64 1, .int .i64 1] t frozen
      | o => o }
theorem codeBack_met (os : Os) : laidMet Tryd.prog Rows.codeBackRow.laid ((codeBackWorld os).forCall (fun _ _ => 0) ⟨#[], #[.agg #[.int .i64 0, .int .i64 0, .int .i64 0, .int .i64 0, .int .i64 0, .int .i64 0, .slice none 0 0], .int .i64 0], []⟩).memory :=
  laidMet_of_run' 8 (by kernel_rfl) (by kernel_rfl)
theorem codeBack_reads (os : Os) {H : Type} (enc : TypeId × Value → H) : ∃ places, DataW.whole enc Tryd.prog ((codeBackWorld os).forCall (fun _ _ => 0) ⟨#[], #[.agg #[.int .i64 0, .int .i64 0, .int .i64 0, .int .i64 0, .int .i64 0, .int .i64 0, .slice none 0 0], .int .i64 0], []⟩).memory Tryd.f3.params.toList Rows.codeBackSpec.vars false #[Value.agg #[.int .i64 0, .int .i64 0, .int .i64 0, .int .i64 0, .int .i64 0, .int .i64 0, .slice none 0 0], .int .i64 0].toList 8 = some ([.agg [.agg [.lit (.int .i64 0), .lit (.int .i64 0)], .agg [.lit (.int .i64 0), .lit (.int .i64 0)], .agg [.lit (.int .i64 0), .lit (.int .i64 0)], .nil], .lit (.int .i64 0)], [], places) :=
  ⟨[], by kernel_rfl⟩

set_option maxRecDepth 100000 in
theorem codeBack_lifted (os : Os) (started : os.Started) (H : Type) (enc : TypeId × Value → H) (F : Stop.Interp) :
    ReturnsInHanded {} Tryd.checked os 3 .any ((OpenSpec.ofChange Rows.codeBackSpec).preRow enc Tryd.prog Tryd.f3 Rows.codeBackRow.domain false Rows.codeBackRow.laid) (((OpenSpec.ofChange Rows.codeBackSpec).at F).post enc Tryd.prog Tryd.f3 false true false false) := by
  obtain ⟨places, hx⟩ := codeBack_reads os enc
  refine returnsInHanded_of_row (C := Tryd.checked) (s := OpenSpec.ofChange Rows.codeBackSpec) own started (by kernel_rfl) Tryd.func3
    (witness_row_at (enc := enc) (C := Tryd.checked) false (codeBackWorld os) #[.agg #[.int .i64 0, .int .i64 0, .int .i64 0, .int .i64 0, .int .i64 0, .int .i64 0, .slice none 0 0], .int .i64 0] rfl (by kernel_rfl) (by kernel_rfl) (by kernel_rfl)
      (OpenSpec.preRow_of_cond 8 hx (by kernel_rfl) (fun k hk => by cases hk) (by kernel_rfl) (codeBack_met os))) ?_
  intro W base args ds gs before hval hW _ _ hsz hL _ _
  exact codeBack_contract H enc W base args ds gs before hval hW hsz hL

theorem codeBack_said : Rows.CodeBackSaid :=
  OpenClaim.holds_of_cond 3 Tryd.f3 rfl rfl rfl rfl rfl rfl rfl ⟨rfl, rfl, rfl, rfl, rfl⟩ rfl rfl rfl rfl rfl (by kernel_rfl) Tryd.func3 (by kernel_rfl)
    (of_decide_eq_true (by kernel_rfl)) (by unfold Func.isWrapper; first | (rw [if_pos (by decide +kernel)]; kernel_rfl) | (rw [if_neg (by decide +kernel)]; exact ⟨rfl, rfl⟩))
    (fun os started H enc _ F => by rw [OpenClaim.pre_eq_preRow]; exact codeBack_lifted os started H enc F)

theorem codeBack_plain (f : FuncId) (fn : Func) (hf : Tryd.pinned.checked.prog.funcNamed "foretell/foretellkeep.CodeBack" = some f) (hfn : Tryd.pinned.checked.prog.funcs[f]? = some fn) :
    true = Tryd.pinned.checked.prog.looks [] ∧ ∀ (j : Nat) t, fn.params[j]? = some t → Tryd.pinned.checked.prog.wantsStandIn t = false := by
  obtain rfl : f = 3 := Option.some.inj ((show Tryd.prog.funcNamed "foretell/foretellkeep.CodeBack" = some 3 by kernel_rfl).symm.trans hf) |>.symm
  obtain rfl : fn = Tryd.f3 := (Option.some.inj (Tryd.func3.symm.trans hfn)).symm
  refine ⟨by kernel_rfl, fun j t ht => ?_⟩
  rw [Tryd.params3] at ht
  have ht' := Array.mem_of_getElem? ht
  simp only [List.mem_toArray, List.mem_cons, List.not_mem_nil, or_false] at ht'
  rcases ht' with rfl | rfl
  · exact (show Tryd.prog.wantsStandIn 25 = false by kernel_rfl)
  · exact (show Tryd.prog.wantsStandIn 3 = false by kernel_rfl)

/-- THE CARD. -/
theorem codeBack_card : Rows.CodeBackCardSaid :=
  Claim7.holds_tied_plain_at .later [] _ _ _ _ codeBack_said (fun _ h => by cases h) (by kernel_rfl) (fun _ h => by cases h) codeBack_row_tie rfl ⟨rfl, rfl⟩ (by kernel_rfl) rfl codeBack_plain (by kernel_rfl)
#print axioms codeBack_card
end Go.Proofs.YtfecdmehghdohaaDoor
