/-
  Proved: foretellkeep.CodeOrder answers true at every design and every two numbers (codes grow with the first variable, then with the second), given that the table polish.partCounts reads as its initialiser lays it, which the card ties to the program's text. No other condition.
-/
import Derived.Test.YtfecdmehghdohaaDoorCards
import Derived.Test.YtfecdmehghdohaaDoorTie
import Derived.Test.YtfecdmehghdohaaDoorRow
import Derived.Test.YtfecdmehghdohaaDoorKeepDesign
namespace Go.Proofs.YtfecdmehghdohaaDoor
open Go.ChangeShapes Go.WideShapes Go.ChangeAt Go.RowKit Go.Deep
open Terms Tm

set_option maxHeartbeats 3200000 in
set_option maxRecDepth 20000 in
theorem codeOrder_walk (c0 c1 c2 c3 c4 c5 c6 : Value) (a b : Vr) (x y : Int) (w : World) (hB : 0 < w.heap.size) (hT : TabAt w) (hG : GV a b) (hx : I64 x) (hy : I64 y)
    (hmd : ∀ w', Below w.heap.size w w' → Calls Tryd.prog 8 #[.agg #[c0, c1, c2, c3, c4, c5, c6]] w' fun e w2 => ∃ va vr, e = .returned (.agg #[va, vr]) ∧ Below w'.heap.size w' w2 ∧ GModel w2 va vr [a, b]) :
    Calls Tryd.prog 4 #[.agg #[c0, c1, c2, c3, c4, c5, c6], .int .i64 x, .int .i64 y] w fun e w' => e = .returned (.bool true) ∧ Below w.heap.size w w' := by
  have HT : Hid (∀ w', Below w.heap.size w w' → 0 < w'.heap.size ∧ TabAt w') := fun w' hb => ⟨Nat.lt_of_lt_of_le hB hb.size, hT.below hb hB⟩
  have hA : ∀ o, Below w.heap.size w (w.alloc o) := fun o => (Below.refl _ _).alloc (Nat.le_refl _) o
  clear hB hT
  go_enter Tryd.func4, Tryd.ntmps4
  go_wp2_with (go_at_call 8; refine (hmd _ (hA _)).mono ?_; rintro e w1 ⟨va, vr, rfl, hb1, hM⟩; obtain ⟨ao, cap, ro, rn, rc, rfl, rfl, hrn⟩ := hM.shape)
  obtain ⟨hbW, hk⟩ := kept (a := a) (b := b) (t := 29) HT.out ((hA _).trans (hb1.mono (hA _).size)) hM rfl
  generalize w1.alloc (.cells #[.slice ao 2 cap, .slice ro rn rc] 29) = W2 at hbW hk ⊢
  have HK : Hid (∀ w', Below W2.heap.size W2 w' → (0 < w'.heap.size ∧ TabAt w' ∧ GModel w' (.slice ao 2 cap) (.slice ro rn rc) [a, b]) ∧ w'.cell? ⟨w1.heap.size, 0, none⟩ = some (.slice ao 2 cap) ∧ w'.cell? ⟨w1.heap.size, 1, none⟩ = some (.slice ro rn rc)) := hk
  have HBW : Hid (Below w.heap.size w W2) := hbW
  obtain ⟨⟨z0, z1, z2⟩, z3, z4⟩ := hk W2 (Below.refl _ _)
  have hcn := kcount hG z0 z1 z2
  have hP := hG.prod
  have hpx := fun w => picked_is x (vspan a * vspan b) w hx (by omega) (by omega)
  have hxr := pk_range (n := x) (m := vspan a * vspan b) (by omega)
  generalize pk x (vspan a * vspan b) = c at hpx hxr
  have hpy := fun w => picked_is y (vspan a * vspan b) w hy (by omega) (by omega)
  have hyr := pk_range (n := y) (m := vspan a * vspan b) (by omega)
  generalize pk y (vspan a * vspan b) = d at hpy hyr
  have hvc := fun w' (hb : Below W2.heap.size W2 w') => kvalues hG hxr (hk w' hb).1.1 (hk w' hb).1.2.1 (hk w' hb).1.2.2
  have hvd := fun w' (hb : Below W2.heap.size W2 w') => kvalues hG hyr (hk w' hb).1.1 (hk w' hb).1.2.1 (hk w' hb).1.2.2
  have hlx := lex (s := vspan b) (x := c) (y := d) (by have := hG.sb; omega)
  generalize vspan a * vspan b = N at hP hpx hpy hxr hyr hvc hvd hcn
  obtain ⟨hp1, hp2⟩ := hP
  have HLX : Hid (c < d ↔ a.lo + c / vspan b < a.lo + d / vspan b ∨ a.lo + c / vspan b = a.lo + d / vspan b ∧ b.lo + c % vspan b < b.lo + d % vspan b) := by
    show _ ↔ _
    rw [hlx]; omega
  obtain ⟨p0, hp0⟩ : ∃ p, p = a.lo + c / vspan b := ⟨_, rfl⟩
  obtain ⟨p1, hp1'⟩ : ∃ p, p = b.lo + c % vspan b := ⟨_, rfl⟩
  obtain ⟨q0, hq0⟩ : ∃ p, p = a.lo + d / vspan b := ⟨_, rfl⟩
  obtain ⟨q1, hq1⟩ : ∃ p, p = b.lo + d % vspan b := ⟨_, rfl⟩
  have HC : Hid (cvals a b c = [p0, p1]) := by show _ = _; rw [hp0, hp1']; rfl
  have HD : Hid (cvals a b d = [q0, q1]) := by show _ = _; rw [hq0, hq1]; rfl
  rw [← hp0, ← hp1', ← hq0, ← hq1] at HLX
  clear hp0 hp1' hq0 hq1 hlx hk hbW hM hb1 hmd hx hy hG z0 z1 z2 hrn
  go_wp2_with (first | (go_at_call 9; refine hcn.mono ?_; rintro e w3 ⟨rfl, hb3⟩; obtain ⟨k30, k31⟩ := (HK.out w3 hb3).2) | (go_at_call_of 10 x; refine (hpx _).mono ?_; rintro e w9 ⟨rfl, rfl⟩) | (go_at_call_of 10 y; refine (hpy _).mono ?_; rintro e w9 ⟨rfl, rfl⟩) | (go_at_call_of 11 c; refine (hvc _ hb3).mono ?_; rintro e w4 ⟨B, rfl, hB4, hb4, hr4⟩; have hb24 := hb3.trans (hb4.mono hb3.size); obtain ⟨k40, k41⟩ := (HK.out w4 hb24).2; rw [HC.out] at hr4) | (go_at_call_of 11 d; refine (hvd _ hb24).mono ?_; rintro e w5 ⟨B5, rfl, hB5, hb5, hr5⟩; have hb25 := hb24.trans (hb5.mono hb24.size); rw [HD.out] at hr5; have d0 := hr5.cell (i := 0) (by omega); have d1 := hr5.cell (i := 1) (by omega); have e0 := (hb5.cell (p := ⟨B, 0, none⟩) hr4.lt).trans (hr4.cell (i := 0) (by omega)); have e1 := (hb5.cell (p := ⟨B, 1, none⟩) hr4.lt).trans (hr4.cell (i := 1) (by omega)); simp only [List.getD_cons_zero, List.getD_cons_succ] at d0 d1 e0 e1; clear hr4 hr5))
  clear hvc hvd hpx hpy hcn hb4 hb5 hB4 hB5 k30 k31 k40 k41 hxr hyr z3 z4 HC HD HK HT hA hp1 hp2
  have hX := HLX.out
  by_cases h1 : p0 < q0
  · have h2 : c < d := hX.2 (.inl h1)
    clear hX HLX
    go_region
    all_goals (try go_wp2_with fail)
    all_goals go_ret
    all_goals exact ⟨by first | rfl | simp [h1, h2], HBW.out.trans (hb25.drew.mono HBW.out.size)⟩
  · by_cases h3 : p0 = q0
    · by_cases h4 : p1 < q1
      · have h2 : c < d := hX.2 (.inr ⟨h3, h4⟩)
        clear hX HLX
        go_region
        all_goals (try go_wp2_with fail)
        all_goals go_ret
        all_goals exact ⟨by first | rfl | simp [h1, h2, h3, h4], HBW.out.trans (hb25.drew.mono HBW.out.size)⟩
      · have h2 : ¬ c < d := fun h => by have := hX.1 h; omega
        clear hX HLX
        go_region
        all_goals (try go_wp2_with fail)
        all_goals go_ret
        all_goals exact ⟨by first | rfl | simp [h1, h2, h3, h4], HBW.out.trans (hb25.drew.mono HBW.out.size)⟩
    · have h2 : ¬ c < d := fun h => by have := hX.1 h; omega
      have h3b : (p0 == q0) = false := by simp [h3]
      have h3c : ¬ q0 = p0 := fun h => h3 h.symm
      clear hX HLX
      go_region
      all_goals (try go_wp2_with fail)
      all_goals go_ret
      all_goals exact ⟨by first | rfl | simp [h1, h2, h3], HBW.out.trans (hb25.drew.mono HBW.out.size)⟩

theorem codeOrder_contract (H : Type) (enc : TypeId × Value → H) (W : World) (base : Nat) (args : Array Value) (ds gs : List (DataW H)) (before : List MemPlace)
    (hval : ∀ (j : Nat) t v, Tryd.f4.params[j]? = some t → args[j]? = some v → Value.okWide Tryd.prog W .any base t v)
    (hW : DataW.Whole enc Tryd.prog Tryd.f4.params.toList Rows.codeOrderSpec.vars false W args.toList ds gs before)
    (hsz0 : (DataW.weightsEach Tryd.prog (Tryd.f4.params.toList ++ (OpenSpec.ofChange Rows.codeOrderSpec).bare.plain.varTypes Tryd.prog) (ds ++ gs)).all (· ≤ reachBytes) = true)
    (hL : laidMetH Tryd.prog Rows.codeOrderRow.laid W) :
    Calls Tryd.prog 4 args W fun e W' => ∃ v, e = .returned v ∧ Rows.codeOrderSpec.post enc Tryd.prog Tryd.f4 false true false false W args v W' := by
  have hW' := hW
  obtain ⟨p, q, hA0, hV, rfl, hfz, hnd⟩ := hW
  have hA : DataW.TrodAll enc Tryd.prog W 0 (fun _ => true) true Tryd.f4.params.toList args.toList ds p := hA0
  rw [Tryd.params4] at hA hval
  obtain ⟨v0, vs0, d0, ds0, p0, q0, hargs, rfl, rfl, h0, r0⟩ := trodAll_cons hA
  obtain ⟨v1, vs1, d1, ds1, p1, q1, rfl, rfl, rfl, h1, r1⟩ := trodAll_cons r0
  obtain ⟨v2, vs2, d2, ds2, p2, q2, rfl, rfl, rfl, h2, r2⟩ := trodAll_cons r1
  obtain ⟨rfl, rfl, rfl⟩ := trodAll_nil r2
  obtain rfl : args = #[v0, v1, v2] := by cases args; simp_all
  obtain ⟨rfl, rfl⟩ := trodVars_none hV
  have hsz : (DataW.weightsEach Tryd.prog [25, 3, 3] [d0, d1, d2]).all (· ≤ reachBytes) = true := hsz0
  obtain ⟨vars, hD⟩ := open_design (hval 0 25 v0 rfl rfl) h0 hsz (j := 0) rfl rfl
  obtain ⟨c0, c1, c2, c3, c4, c5, c6, a, b, rfl, hG, hmd⟩ := design_model hD
  obtain ⟨x, rfl, rfl, rfl, wf1⟩ := open_int Tryd.underlying3 (hval 1 3 v1 rfl rfl) h1
  obtain ⟨y, rfl, rfl, rfl, wf2⟩ := open_int Tryd.underlying3 (hval 2 3 v2 rfl rfl) h2
  have hT := tabAt hL
  refine (codeOrder_walk c0 c1 c2 c3 c4 c5 c6 a b x y W (tab_size hT) hT hG (bounds_i64 wf1) (bounds_i64 wf2) hmd).mono fun e W' ⟨he, hb⟩ => ⟨_, he, ?_⟩
  refine law_post (fun t ht => ?_) rfl (by kernel_rfl) hW' rfl rfl rfl hb
  rw [Tryd.params4] at ht
  simp only [List.mem_cons, List.not_mem_nil, or_false] at ht
  rcases ht with rfl | rfl | rfl
  · exact ⟨by kernel_rfl, of_decide_eq_true (by kernel_rfl)⟩
  · exact ⟨by kernel_rfl, of_decide_eq_true (by kernel_rfl)⟩
  · exact ⟨by kernel_rfl, of_decide_eq_true (by kernel_rfl)⟩

/-- A WORLD FOR THE WITNESS: the settled one, the table (block 0) holding what its initialiser lays. -/
noncomputable def codeOrderWorld (os : Os) : World :=
  { World.holding Tryd.prog os ⟨#[], #[], []⟩ with heap := (World.holding Tryd.prog os ⟨#[], #[], []⟩).heap.modify 0 fun
      | .cells _ t frozen => .cells #[.int .i64 0, .int .i64 0, .int .i64 0, .int .i64 2, .int .i64 2, .int .i64 2, .int .i64 2, .int .i64 2, .int .i64 2, .int .i64 2, .int .i64 1, .int .i64 0, .int .i64 0, .int .i64 0, .int .i64 1, .int .i64 2, .int .i64 2, .int .i64 1, .int .i64 1] t frozen
      | o => o }
theorem codeOrder_met (os : Os) : laidMet Tryd.prog Rows.codeOrderRow.laid ((codeOrderWorld os).forCall (fun _ _ => 0) ⟨#[], #[.agg #[.int .i64 0, .int .i64 0, .int .i64 0, .int .i64 0, .int .i64 0, .int .i64 0, .slice none 0 0], .int .i64 0, .int .i64 0], []⟩).memory :=
  laidMet_of_run' 8 (by kernel_rfl) (by kernel_rfl)
theorem codeOrder_reads (os : Os) {H : Type} (enc : TypeId × Value → H) : ∃ places, DataW.whole enc Tryd.prog ((codeOrderWorld os).forCall (fun _ _ => 0) ⟨#[], #[.agg #[.int .i64 0, .int .i64 0, .int .i64 0, .int .i64 0, .int .i64 0, .int .i64 0, .slice none 0 0], .int .i64 0, .int .i64 0], []⟩).memory Tryd.f4.params.toList Rows.codeOrderSpec.vars false #[Value.agg #[.int .i64 0, .int .i64 0, .int .i64 0, .int .i64 0, .int .i64 0, .int .i64 0, .slice none 0 0], .int .i64 0, .int .i64 0].toList 8 = some ([.agg [.agg [.lit (.int .i64 0), .lit (.int .i64 0)], .agg [.lit (.int .i64 0), .lit (.int .i64 0)], .agg [.lit (.int .i64 0), .lit (.int .i64 0)], .nil], .lit (.int .i64 0), .lit (.int .i64 0)], [], places) :=
  ⟨[], by kernel_rfl⟩

set_option maxRecDepth 100000 in
theorem codeOrder_lifted (os : Os) (started : os.Started) (H : Type) (enc : TypeId × Value → H) (F : Stop.Interp) :
    ReturnsInHanded {} Tryd.checked os 4 .any ((OpenSpec.ofChange Rows.codeOrderSpec).preRow enc Tryd.prog Tryd.f4 Rows.codeOrderRow.domain false Rows.codeOrderRow.laid) (((OpenSpec.ofChange Rows.codeOrderSpec).at F).post enc Tryd.prog Tryd.f4 false true false false) := by
  obtain ⟨places, hx⟩ := codeOrder_reads os enc
  refine returnsInHanded_of_row (C := Tryd.checked) (s := OpenSpec.ofChange Rows.codeOrderSpec) own started (by kernel_rfl) Tryd.func4
    (witness_row_at (enc := enc) (C := Tryd.checked) false (codeOrderWorld os) #[.agg #[.int .i64 0, .int .i64 0, .int .i64 0, .int .i64 0, .int .i64 0, .int .i64 0, .slice none 0 0], .int .i64 0, .int .i64 0] rfl (by kernel_rfl) (by kernel_rfl) (by kernel_rfl)
      (OpenSpec.preRow_of_cond 8 hx (by kernel_rfl) (fun k hk => by cases hk) (by kernel_rfl) (codeOrder_met os))) ?_
  intro W base args ds gs before hval hW _ _ hsz hL _ _
  exact codeOrder_contract H enc W base args ds gs before hval hW hsz hL

theorem codeOrder_said : Rows.CodeOrderSaid :=
  OpenClaim.holds_of_cond 4 Tryd.f4 rfl rfl rfl rfl rfl rfl rfl ⟨rfl, rfl, rfl, rfl, rfl⟩ rfl rfl rfl rfl rfl (by kernel_rfl) Tryd.func4 (by kernel_rfl)
    (of_decide_eq_true (by kernel_rfl)) (by unfold Func.isWrapper; first | (rw [if_pos (by decide +kernel)]; kernel_rfl) | (rw [if_neg (by decide +kernel)]; exact ⟨rfl, rfl⟩))
    (fun os started H enc _ F => by rw [OpenClaim.pre_eq_preRow]; exact codeOrder_lifted os started H enc F)

theorem codeOrder_plain (f : FuncId) (fn : Func) (hf : Tryd.pinned.checked.prog.funcNamed "foretell/foretellkeep.CodeOrder" = some f) (hfn : Tryd.pinned.checked.prog.funcs[f]? = some fn) :
    true = Tryd.pinned.checked.prog.looks [] ∧ ∀ (j : Nat) t, fn.params[j]? = some t → Tryd.pinned.checked.prog.wantsStandIn t = false := by
  obtain rfl : f = 4 := Option.some.inj ((show Tryd.prog.funcNamed "foretell/foretellkeep.CodeOrder" = some 4 by kernel_rfl).symm.trans hf) |>.symm
  obtain rfl : fn = Tryd.f4 := (Option.some.inj (Tryd.func4.symm.trans hfn)).symm
  refine ⟨by kernel_rfl, fun j t ht => ?_⟩
  rw [Tryd.params4] at ht
  have ht' := Array.mem_of_getElem? ht
  simp only [List.mem_toArray, List.mem_cons, List.not_mem_nil, or_false] at ht'
  rcases ht' with rfl | rfl | rfl
  · exact (show Tryd.prog.wantsStandIn 25 = false by kernel_rfl)
  · exact (show Tryd.prog.wantsStandIn 3 = false by kernel_rfl)
  · exact (show Tryd.prog.wantsStandIn 3 = false by kernel_rfl)

/-- THE CARD. -/
theorem codeOrder_card : Rows.CodeOrderCardSaid :=
  Claim7.holds_tied_plain_at .later [] _ _ _ _ codeOrder_said (fun _ h => by cases h) (by kernel_rfl) (fun _ h => by cases h) codeOrder_row_tie rfl ⟨rfl, rfl⟩ (by kernel_rfl) rfl codeOrder_plain (by kernel_rfl)
#print axioms codeOrder_card
end Go.Proofs.YtfecdmehghdohaaDoor
