/-
  Proved: foretellkeep.EvalTruth answers true at every list of raw numbers and every three values (a truth is 0 or 1, and Not turns it), given that the table polish.partCounts reads as its initialiser lays it, which the card ties to the program's text. No other condition.
-/
import Derived.Test.YtlmghhfpoeocnaaDoorCards
import Derived.Test.YtlmghhfpoeocnaaDoorTie
import Derived.Test.YtlmghhfpoeocnaaDoorKeepEval
namespace Go.Proofs.YtlmghhfpoeocnaaDoor
open Go.ChangeShapes Go.WideShapes Go.ChangeAt Go.RowKit Go.Deep
open Terms Tm

set_option maxHeartbeats 1600000 in
set_option maxRecDepth 20000 in
theorem evalTruth_walk (rawv : Value) (rs : List (Int × Int)) (a b c : Int) (w : World) (hB : 0 < w.heap.size) (hT : TabAt w) (hR : Raws w w.heap.size rawv rs) (ia : I64 a) (ib : I64 b) (ic : I64 c) :
    Calls Tryd.prog 5 #[rawv, .agg #[.int .i64 a, .int .i64 b, .int .i64 c]] w fun e w' => e = .returned (.bool true) ∧ Below w.heap.size w w' := by
  have henv := fun w => env_any a b c w ia ib ic
  have hes := envL_s a b c
  generalize envL a b c = env at henv hes
  obtain ⟨ra, rn, rc, hra⟩ : ∃ a n c, rawv = .slice a n c := by obtain ⟨⟨a, c, h, _⟩, _, _⟩ := hR; exact ⟨_, _, _, h⟩
  obtain ⟨W0, hW0⟩ : ∃ W0, W0 = w.alloc (.cells #[.int .i64 a, .int .i64 b, .int .i64 c] 35) := ⟨_, rfl⟩
  have hb0 : Below w.heap.size w W0 := by rw [hW0]; exact (Below.refl _ _).alloc (Nat.le_refl _) _
  have hsz0 : W0.heap.size = w.heap.size + 1 := by rw [hW0]; simp
  have d0 : W0.cell? ⟨w.heap.size, 0, none⟩ = some (.int .i64 a) := by rw [hW0]; simp [go_sem]
  have d1 : W0.cell? ⟨w.heap.size, 1, none⟩ = some (.int .i64 b) := by rw [hW0]; simp [go_sem]
  have d2 : W0.cell? ⟨w.heap.size, 2, none⟩ = some (.int .i64 c) := by rw [hW0]; simp [go_sem]
  have htr := truthFn_any rawv rs 3 W0 (by omega) (by omega) (hR.later hb0)
  rw [hW0] at htr
  have HW0 := (show Hid _ from hW0)
  have HT : Hid (TabAt W0) := hT.below hb0 hB
  have HB0 : Hid (Below w.heap.size w W0) := hb0
  have hB0 : 0 < W0.heap.size := by omega
  have hBox : ∀ w', Below W0.heap.size W0 w' → w'.cell? ⟨w.heap.size, 0, none⟩ = some (.int .i64 a) ∧ w'.cell? ⟨w.heap.size, 1, none⟩ = some (.int .i64 b) ∧ w'.cell? ⟨w.heap.size, 2, none⟩ = some (.int .i64 c) := fun w' hw' =>
    ⟨(hw'.cell (p := ⟨w.heap.size, 0, none⟩) (by simp only; omega)).trans d0, (hw'.cell (p := ⟨w.heap.size, 1, none⟩) (by simp only; omega)).trans d1, (hw'.cell (p := ⟨w.heap.size, 2, none⟩) (by simp only; omega)).trans d2⟩
  have HBox := (show Hid _ from hBox)
  subst hra
  clear hW0 hR hT hb0 hBox d0 d1 d2 ia ib ic
  go_enter Tryd.func5, Tryd.ntmps5
  go_wp2_with (go_at_call 16; refine htr.mono ?_; rintro e w1 ⟨lv, l, rfl, htl, hll, hol, hb1⟩; obtain ⟨la, lc, rfl⟩ := owns_slice hol)
  rw [← HW0.out] at hb1
  have hov := opsV_of_owns hol
  obtain ⟨A, hA⟩ := htl.tree
  obtain ⟨x, hx, hx01⟩ := hA.eval env hes
  have hN := hA.not
  have hNx : (Tm.un 10 0 A).eval env = some (1 - x) := by simp only [Tm.eval, hx]
  have hsA : A.size ≤ 26 := by rw [← A.ops_length, hA.ops]; exact hll
  have hsN : (Tm.un 10 0 A).size ≤ 60 := by simp only [Tm.size]; omega
  have hT1 := HT.out.below hb1 hB0
  have hB1 := Nat.lt_of_lt_of_le hB0 hb1.size
  have hch := check_at _ A w1 hB1 hT1 hA.good (by omega) (by rw [hA.ops]; exact hov)
  rw [hA.typed, hA.kind] at hch
  have HOV : Hid (OpsV w1 (.slice la l.length lc) l) := hov
  have HA := (show Hid _ from hA)
  have HN := (show Hid _ from hN)
  have HX : Hid (A.eval env = some x ∧ (Tm.un 10 0 A).eval env = some (1 - x) ∧ (Tm.un 10 0 A).size ≤ 60 ∧ A.size ≤ 60 ∧ l.length ≤ 60 ∧ l ≠ []) := ⟨hx, hNx, hsN, by omega, by omega, by rw [← hA.ops]; exact A.ops_ne⟩
  have HES : Hid (EnvS env) := hes
  have HT1 : Hid (TabAt w1) := hT1
  have HL : Hid (l.length ≤ 60) := by show _ ≤ _; omega
  clear htr htl hol hov hx hNx hN hA hes hT1 hsN hsA hll
  obtain ⟨n, hn⟩ : ∃ n, n = l.length := ⟨_, rfl⟩
  rw [← hn] at hch HOV ⊢
  clear hn HL
  go_wp2_with (first | (go_at_call 9; refine hch.mono ?_; rintro e w2 ⟨rfl, hb2⟩; obtain ⟨k0, k1, k2⟩ := HBox.out w2 (hb1.trans (hb2.mono hb1.size))) | (go_at_call 17; refine (henv _).mono ?_; rintro e w3 ⟨ev, rfl, hie, hb3⟩; obtain ⟨ea, ec, rfl, hie2⟩ := hie))
  have hie : IntsV w3 (.slice ea env.length ec) env := ⟨ea, ec, rfl, hie2⟩
  have hb12 := hb1.trans (hb2.mono hb1.size)
  have hb13 := hb12.trans (hb3.mono hb12.size)
  have hev := eval_some (.slice la n lc) (.slice ea env.length ec) env A x w3 HX.out.1 (Nat.lt_of_lt_of_le hB0 hb13.size) (HT.out.below hb13 hB0) HES.out HA.out.good HA.out.typed HX.out.2.2.2.1 (by rw [HA.out.ops]; exact (HOV.out.below hb2).below hb3) hie
  have HOV3 : Hid (OpsV w3 (.slice la n lc) l) := (HOV.out.below hb2).below hb3
  clear hie hie2 hch k0 k1 k2
  go_wp2_with (go_at_call 13; refine hev.mono ?_; rintro e w4 ⟨rfl, hb4⟩)
  have hb14 := hb13.trans (hb4.mono hb13.size)
  have HOV4 : Hid (OpsV w4 (.slice la n lc) l) := HOV3.out.below hb4
  have hB4 : Below w4.heap.size w4 w4 := Below.refl _ _
  have hX4 : Below w4.heap.size w4 ((w4.alloc (.cells #[.slice la n lc] 22)).drew) := (hB4.alloc (Nat.le_refl _) _).drew
  have hS : ∀ w', Below w4.heap.size w4 w' → w'.cell? ⟨w.heap.size, 0, none⟩ = some (.int .i64 a) ∧ w'.cell? ⟨w.heap.size, 1, none⟩ = some (.int .i64 b) ∧ w'.cell? ⟨w.heap.size, 2, none⟩ = some (.int .i64 c) := fun w' hw' => HBox.out w' (hb14.trans (hw'.mono hb14.size))
  have hJ := joined1 10 w4.heap.size (.slice la n lc) l ((w4.alloc (.cells #[.slice la n lc] 22)).drew) (by simp [go_sem]) HX.out.2.2.2.2.1 HX.out.2.2.2.2.2 (HOV4.out.below hX4)
  have HT4 : Hid (TabAt w4) := HT.out.below hb14 hB0
  have hp4 : 0 < w4.heap.size := Nat.lt_of_lt_of_le hB0 hb14.size
  have hev4 : ∀ (w6 : World) (jv ev : Value), Below w4.heap.size w4 w6 → OpsV w6 jv ((10, 0) :: l) → IntsV w6 ev env → Calls Tryd.prog 13 #[jv, ev] w6 fun e w' => e = .returned (.tuple #[.int .i64 (1 - x), .int .i64 0]) ∧ Below w6.heap.size w6 w' := fun w6 jv ev hw6 ho hi =>
    eval_some jv ev env (.un 10 0 A) (1 - x) w6 HX.out.2.1 (Nat.lt_of_lt_of_le hp4 hw6.size) (HT4.out.below hw6 hp4) HES.out HN.out.good HN.out.typed HX.out.2.2.1 (by rw [HN.out.ops]; exact ho) hi
  have HB14 : Hid (Below w.heap.size w w4) := HB0.out.trans (hb14.mono HB0.out.size)
  clear hev hb12 hb13 hb14 hb1 hb2 hb3 hb4 hB1 hB0 hsz0
  generalize ((10, 0) :: l).length = m at hJ
  go_region_held3 (fun w' => w'.cell? ⟨w.heap.size, 0, none⟩ = some (.int .i64 a) ∧ w'.cell? ⟨w.heap.size, 1, none⟩ = some (.int .i64 b) ∧ w'.cell? ⟨w.heap.size, 2, none⟩ = some (.int .i64 c))
    (exact hS _ (by first | exact hB4 | exact hB4.drew | exact hX4 | exact hX4.trans (hb5.mono hX4.size) | exact (hX4.trans (hb5.mono hX4.size)).trans (hb6.mono (hX4.trans (hb5.mono hX4.size)).size) | exact ((hX4.trans (hb5.mono hX4.size)).trans (hb6.mono (hX4.trans (hb5.mono hX4.size)).size)).trans (hb7.mono ((hX4.trans (hb5.mono hX4.size)).trans (hb6.mono (hX4.trans (hb5.mono hX4.size)).size)).size)))
    (first | (go_at_call 18; refine hJ.mono ?_; rintro e w5 ⟨ja, jc, rfl, hb5, hov5⟩) | (go_at_call 17; refine (henv _).mono ?_; rintro e w6 ⟨ev6, rfl, hie6, hb6⟩; obtain ⟨ea6, ec6, rfl, hie7⟩ := hie6) | (go_at_call 13; refine (hev4 _ _ _ ((hX4.trans (hb5.mono hX4.size)).trans (hb6.mono (hX4.trans (hb5.mono hX4.size)).size)) (hov5.below hb6) ⟨ea6, ec6, rfl, hie7⟩).mono ?_; rintro e w7 ⟨rfl, hb7⟩))
  all_goals
    have hbf := ((hX4.trans (hb5.mono hX4.size)).trans (hb6.mono (hX4.trans (hb5.mono hX4.size)).size)).trans (hb7.mono ((hX4.trans (hb5.mono hX4.size)).trans (hb6.mono (hX4.trans (hb5.mono hX4.size)).size)).size)
    rcases hx01 with rfl | rfl
    all_goals
      go_wp2_with fail
      go_ret
      exact ⟨rfl, HB14.out.trans (hbf.mono HB14.out.size)⟩

theorem evalTruth_contract (H : Type) (enc : TypeId × Value → H) (W : World) (base : Nat) (args : Array Value) (ds gs : List (DataW H)) (before : List MemPlace)
    (hval : ∀ (j : Nat) t v, Tryd.f5.params[j]? = some t → args[j]? = some v → Value.okWide Tryd.prog W .any base t v)
    (hW : DataW.Whole enc Tryd.prog Tryd.f5.params.toList Rows.evalTruthSpec.vars false W args.toList ds gs before)
    (hsz0 : (DataW.weightsEach Tryd.prog (Tryd.f5.params.toList ++ (OpenSpec.ofChange Rows.evalTruthSpec).bare.plain.varTypes Tryd.prog) (ds ++ gs)).all (· ≤ reachBytes) = true)
    (hL : laidMetH Tryd.prog Rows.evalTruthRow.laid W) :
    Calls Tryd.prog 5 args W fun e W' => ∃ v, e = .returned v ∧ Rows.evalTruthSpec.post enc Tryd.prog Tryd.f5 false true false false W args v W' := by
  have hW' := hW
  obtain ⟨p, q, hA0, hV, rfl, hfz, hnd⟩ := hW
  have hA : DataW.TrodAll enc Tryd.prog W 0 (fun _ => true) true Tryd.f5.params.toList args.toList ds p := hA0
  rw [Tryd.params5] at hA hval
  obtain ⟨v0, vs0, d0, ds0, p0, q0, hargs, rfl, rfl, h0, r0⟩ := trodAll_cons hA
  obtain ⟨v1, vs1, d1, ds1, p1, q1, rfl, rfl, rfl, h1, r1⟩ := trodAll_cons r0
  obtain ⟨rfl, rfl, rfl⟩ := trodAll_nil r1
  obtain rfl : args = #[v0, v1] := by cases args; simp_all
  obtain ⟨rfl, rfl⟩ := trodVars_none hV
  have hsz : (DataW.weightsEach Tryd.prog [34, 35] [d0, d1]).all (· ≤ reachBytes) = true := hsz0
  obtain ⟨rs, hrs⟩ := open_raws (hval 0 34 v0 rfl rfl) h0 hsz (j := 0) rfl rfl
  obtain ⟨a, b, c, rfl, ia, ib, ic⟩ := open_arr3 (hval 1 35 v1 rfl rfl) h1
  have hT := tabAt hL
  refine (evalTruth_walk v0 rs a b c W (tab_size hT) hT hrs ia ib ic).mono fun e W' ⟨he, hb⟩ => ⟨_, he, ?_⟩
  refine law_post (fun t ht => ?_) rfl (by kernel_rfl) hW' rfl rfl rfl hb
  rw [Tryd.params5] at ht
  simp only [List.mem_cons, List.not_mem_nil, or_false] at ht
  rcases ht with rfl | rfl
  · exact ⟨by kernel_rfl, of_decide_eq_true (by kernel_rfl)⟩
  · exact ⟨by kernel_rfl, of_decide_eq_true (by kernel_rfl)⟩

/-- A WORLD FOR THE WITNESS: the settled one, the table (block 0) holding what its initialiser lays. -/
noncomputable def evalTruthWorld (os : Os) : World :=
  { World.holding Tryd.prog os ⟨#[], #[], []⟩ with heap := (World.holding Tryd.prog os ⟨#[], #[], []⟩).heap.modify 0 fun
      | .cells _ t frozen => .cells #[.int .i64 0, .int .i64 0, .int .i64 0, .int .i64 2, .int .i64 2, .int .i64 2, .int .i64 2, .int .i64 2, .int .i64 2, .int .i64 2, .int .i64 1, .int .i64 0, .int .i64 0, .int .i64 0, .int .i64 1, .int .i64 2, .int .i64 2, .int .i64 1, .int .i64 1] t frozen
      | o => o }
theorem evalTruth_met (os : Os) : laidMet Tryd.prog Rows.evalTruthRow.laid ((evalTruthWorld os).forCall (fun _ _ => 0) ⟨#[], #[.slice none 0 0, .agg #[.int .i64 0, .int .i64 0, .int .i64 0]], []⟩).memory :=
  laidMet_of_run' 8 (by kernel_rfl) (by kernel_rfl)
theorem evalTruth_reads (os : Os) {H : Type} (enc : TypeId × Value → H) : ∃ places, DataW.whole enc Tryd.prog ((evalTruthWorld os).forCall (fun _ _ => 0) ⟨#[], #[.slice none 0 0, .agg #[.int .i64 0, .int .i64 0, .int .i64 0]], []⟩).memory Tryd.f5.params.toList Rows.evalTruthSpec.vars false #[Value.slice none 0 0, .agg #[.int .i64 0, .int .i64 0, .int .i64 0]].toList 8 = some ([.nil, .agg [.lit (.int .i64 0), .lit (.int .i64 0), .lit (.int .i64 0)]], [], places) :=
  ⟨[], by kernel_rfl⟩

set_option maxRecDepth 100000 in
theorem evalTruth_lifted (os : Os) (started : os.Started) (H : Type) (enc : TypeId × Value → H) (F : Stop.Interp) :
    ReturnsInHanded {} Tryd.checked os 5 .any ((OpenSpec.ofChange Rows.evalTruthSpec).preRow enc Tryd.prog Tryd.f5 Rows.evalTruthRow.domain false Rows.evalTruthRow.laid) (((OpenSpec.ofChange Rows.evalTruthSpec).at F).post enc Tryd.prog Tryd.f5 false true false false) := by
  obtain ⟨places, hx⟩ := evalTruth_reads os enc
  refine returnsInHanded_of_row (C := Tryd.checked) (s := OpenSpec.ofChange Rows.evalTruthSpec) own started (by kernel_rfl) Tryd.func5
    (witness_row_at (enc := enc) (C := Tryd.checked) false (evalTruthWorld os) #[.slice none 0 0, .agg #[.int .i64 0, .int .i64 0, .int .i64 0]] rfl (by kernel_rfl) (by kernel_rfl) (by kernel_rfl)
      (OpenSpec.preRow_of_cond 8 hx (by kernel_rfl) (fun k hk => by cases hk) (by kernel_rfl) (evalTruth_met os))) ?_
  intro W base args ds gs before hval hW _ _ hsz hL _ _
  exact evalTruth_contract H enc W base args ds gs before hval hW hsz hL

theorem evalTruth_said : Rows.EvalTruthSaid :=
  OpenClaim.holds_of_cond 5 Tryd.f5 rfl rfl rfl rfl rfl rfl rfl ⟨rfl, rfl, rfl, rfl, rfl⟩ rfl rfl rfl rfl rfl (by kernel_rfl) Tryd.func5 (by kernel_rfl)
    (of_decide_eq_true (by kernel_rfl)) (by unfold Func.isWrapper; first | (rw [if_pos (by decide +kernel)]; kernel_rfl) | (rw [if_neg (by decide +kernel)]; exact ⟨rfl, rfl⟩))
    (fun os started H enc _ F => by rw [OpenClaim.pre_eq_preRow]; exact evalTruth_lifted os started H enc F)

theorem evalTruth_plain (f : FuncId) (fn : Func) (hf : Tryd.pinned.checked.prog.funcNamed "foretell/foretellkeep.EvalTruth" = some f) (hfn : Tryd.pinned.checked.prog.funcs[f]? = some fn) :
    true = Tryd.pinned.checked.prog.looks [] ∧ ∀ (j : Nat) t, fn.params[j]? = some t → Tryd.pinned.checked.prog.wantsStandIn t = false := by
  obtain rfl : f = 5 := Option.some.inj ((show Tryd.prog.funcNamed "foretell/foretellkeep.EvalTruth" = some 5 by kernel_rfl).symm.trans hf) |>.symm
  obtain rfl : fn = Tryd.f5 := (Option.some.inj (Tryd.func5.symm.trans hfn)).symm
  refine ⟨by kernel_rfl, fun j t ht => ?_⟩
  rw [Tryd.params5] at ht
  have ht' := Array.mem_of_getElem? ht
  simp only [List.mem_toArray, List.mem_cons, List.not_mem_nil, or_false] at ht'
  rcases ht' with rfl | rfl
  · exact (show Tryd.prog.wantsStandIn 34 = false by kernel_rfl)
  · exact (show Tryd.prog.wantsStandIn 35 = false by kernel_rfl)

/-- THE CARD. -/
theorem evalTruth_card : Rows.EvalTruthCardSaid :=
  Claim7.holds_tied_plain_at .later [] _ _ _ _ evalTruth_said (fun _ h => by cases h) (by kernel_rfl) (fun _ h => by cases h) evalTruth_row_tie rfl ⟨rfl, rfl⟩ (by kernel_rfl) rfl evalTruth_plain (by kernel_rfl)
#print axioms evalTruth_card
end Go.Proofs.YtlmghhfpoeocnaaDoor
