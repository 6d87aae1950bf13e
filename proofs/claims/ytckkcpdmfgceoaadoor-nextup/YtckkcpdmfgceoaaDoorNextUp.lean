/-
  Proved: foretellkeep.NextUp answers true at every design and every number (each state has a next one; they rise, and are states), given that the table polish.partCounts reads as its initialiser lays it, which the card ties to the program's text. No other condition.
-/
import Derived.Test.YtckkcpdmfgceoaaDoorCards
import Derived.Test.YtckkcpdmfgceoaaDoorTie
import Derived.Test.YtckkcpdmfgceoaaDoorRow
import Derived.Test.YtckkcpdmfgceoaaDoorKeepDesign
import Derived.Test.YtckkcpdmfgceoaaDoorLate
namespace Go.Proofs.YtckkcpdmfgceoaaDoor
open Go.ChangeShapes Go.WideShapes Go.ChangeAt Go.RowKit Go.Deep
open Terms Tm

set_option maxHeartbeats 12800000 in
set_option maxRecDepth 20000 in
theorem nextUp_walk (c0 c1 c2 c3 c4 c5 c6 : Value) (a b : Vr) (code : Int) (w : World) (hB : 0 < w.heap.size) (hT : TabAt w) (hG : GV a b) (hc : I64 code)
    (hmd : ∀ w', Below w.heap.size w w' → Calls Tryd.prog 9 #[.agg #[c0, c1, c2, c3, c4, c5, c6]] w' fun e w2 => ∃ va vr, e = .returned (.agg #[va, vr]) ∧ Below w'.heap.size w' w2 ∧ GModel w2 va vr [a, b]) :
    Calls Tryd.prog 3 #[.agg #[c0, c1, c2, c3, c4, c5, c6], .int .i64 code] w fun e w' => e = .returned (.bool true) ∧ Below w.heap.size w w' := by
  have HT : Hid (∀ w', Below w.heap.size w w' → 0 < w'.heap.size ∧ TabAt w') := fun w' hb => ⟨Nat.lt_of_lt_of_le hB hb.size, hT.below hb hB⟩
  have hA : ∀ o, Below w.heap.size w (w.alloc o) := fun o => (Below.refl _ _).alloc (Nat.le_refl _) o
  clear hB hT
  go_enter Tryd.func3, Tryd.ntmps3
  go_wp2_with (go_at_call 9; refine (hmd _ (hA _)).mono ?_; rintro e w1 ⟨va, vr, rfl, hb1, hM⟩; obtain ⟨ao, cap, ro, rn, rc, rfl, rfl, hrn⟩ := hM.shape)
  obtain ⟨hbW, hk⟩ := kept (a := a) (b := b) (t := 29) HT.out ((hA _).trans (hb1.mono (hA _).size)) hM rfl
  generalize w1.alloc (.cells #[.slice ao 2 cap, .slice ro rn rc] 29) = W2 at hbW hk ⊢
  have HK : Hid (∀ w', Below W2.heap.size W2 w' → (0 < w'.heap.size ∧ TabAt w' ∧ GModel w' (.slice ao 2 cap) (.slice ro rn rc) [a, b]) ∧ w'.cell? ⟨w1.heap.size, 0, none⟩ = some (.slice ao 2 cap) ∧ w'.cell? ⟨w1.heap.size, 1, none⟩ = some (.slice ro rn rc)) := hk
  have HBW : Hid (Below w.heap.size w W2) := hbW
  obtain ⟨⟨z0, z1, z2⟩, z3, z4⟩ := hk W2 (Below.refl _ _)
  have hcn := kcount hG z0 z1 z2
  have hP := hG.prod
  have hpk := fun w => picked_is code (vspan a * vspan b) w hc (by omega) (by omega)
  have hpr := pk_range (n := code) (m := vspan a * vspan b) (by omega)
  generalize pk code (vspan a * vspan b) = c at hpk hpr
  have hnx := fun w' (hb : Below W2.heap.size W2 w') => knext hG hpr (hk w' hb).1.1 (hk w' hb).1.2.1 (hk w' hb).1.2.2
  generalize vspan a * vspan b = N at hP hpk hpr hnx hcn
  obtain ⟨hp1, hp2⟩ := hP
  clear hk hbW hM hb1 hmd hc hG z0 z1 z2
  go_wp2_with (go_at_call 10; refine hcn.mono ?_; rintro e w3 ⟨rfl, hb3⟩; obtain ⟨k30, k31⟩ := (HK.out w3 hb3).2)
  have hnx3 := hnx w3.drew hb3.drew
  clear hnx hcn
  have hS : ∀ w', Below W2.heap.size W2 w' → w'.cell? ⟨w1.heap.size, 0, none⟩ = some (.slice ao 2 cap) ∧ w'.cell? ⟨w1.heap.size, 1, none⟩ = some (.slice ro rn rc) := fun w' hb => (HK.out w' hb).2
  go_region_held3 (fun w' => w'.cell? ⟨w1.heap.size, 0, none⟩ = some (.slice ao 2 cap) ∧ w'.cell? ⟨w1.heap.size, 1, none⟩ = some (.slice ro rn rc)) (exact hS _ (by first | exact hb3 | exact hb3.drew | exact hb3.drew.trans (hb4.mono hb3.drew.size))) (first | (go_at_call 12; refine (hpk _).mono ?_; rintro e w9 ⟨rfl, rfl⟩) | (go_at_call 11; refine hnx3.mono ?_; rintro e w4 ⟨v4, l, rfl, hb4, hI4, hU⟩; obtain ⟨vo, vc, rfl⟩ := hI4.shape))
  all_goals
    have hb24 := hb3.drew.trans (hb4.mono hb3.drew.size)
    obtain ⟨k40, k41⟩ := (HK.out w4 hb24).2
    obtain ⟨ln, hln⟩ : ∃ ln, ln = l.length := ⟨_, rfl⟩
    have HLN : Hid (ln = l.length) := hln
    have HI : Hid (IntsV w4 (.slice vo ln vc) l) := by rw [hln]; exact hI4
    have HU : Hid (UpTo l N rn) := hU
    have hf1 : 0 < ln := by rw [hln]; exact hU.some
    have hf2 : ln ≤ max rn 1 := by rw [hln]; exact hU.few
    have hb24s := hb24.size
    have hw14 : w1.heap.size < w4.heap.size := World.block_lt_of_cell? w4 ⟨w1.heap.size, 1, none⟩ k41
    rw [← hln]
    clear hln hI4 hU hnx3 hpk z3 z4 k30 k31 hb4
    go_wp2_with fail
    go_loopw [10] (fun i wr => ∃ k : Nat, k ≤ ln ∧ i = .int .i64 k ∧ ∃ q, wr = w4.drewN q) (fun i _ => ln - (intOf i).toNat)
    case atStart => exact ⟨0, Nat.zero_le _, rfl, 0, rfl⟩
    case round =>
      obtain ⟨k, hk, rfl, q, rfl⟩ := hrel
      by_cases hlt : k < ln
      · obtain ⟨vb, voff, rfl, hvl, hvc⟩ := HI.out.at (i := k) (by rw [← HLN.out]; exact hlt)
        obtain ⟨u0, u1⟩ := HU.out.at (i := k) (by rw [← HLN.out]; exact hlt)
        rcases Nat.eq_zero_or_pos k with hk0 | hk0
        · subst hk0
          generalize l.getD 0 0 = x at hvc u0 u1
          simp only [Nat.add_zero] at hvc
          go_wp2_with fail
          have n0 : ¬ x < 0 := by omega
          have n1 : ¬ N ≤ x := by omega
          have d0 : decide (x < 0) = false := decide_eq_false n0
          have d1 : decide (N ≤ x) = false := decide_eq_false n1
          clear HI HU hb24s hf1 hf2 HLN HK u0 u1 hS
          go_region
          all_goals go_wp2_with fail
          all_goals go_roundw
          case rel => exact ⟨1, by omega, by go_num, _, rfl⟩
          case measure => simp [intOf]; omega
        · obtain ⟨j, rfl⟩ : ∃ j, k = j + 1 := ⟨k - 1, by omega⟩
          have hln6 : ln ≤ 6 := by omega
          obtain ⟨vb2, voff2, e2, _, hvd⟩ := HI.out.at (i := j) (by rw [← HLN.out]; omega)
          obtain ⟨rfl, rfl⟩ : vb = vb2 ∧ voff = voff2 := by injection e2 with e2; injection e2 with h1 h2 h3; exact ⟨h1, h2⟩
          have hup := HU.out.up (i := j) (by rw [← HLN.out]; exact hlt)
          generalize l.getD (j + 1) 0 = x at hvc u0 u1 hup
          generalize l.getD j 0 = y at hvd hup
          clear e2
          go_wp2_with fail
          have n0 : ¬ x < 0 := by omega
          have n1 : ¬ N ≤ x := by omega
          have n2 : ¬ x ≤ y := by omega
          have j0 : (0 : Int) ≤ (j : Int) + 1 := by omega
          have j1 : (0 : Int) < (j : Int) + 1 := by omega
          have j2 : (j : Int) + 1 - 1 = j := by omega
          have j3 : (j : Int) + 1 < ln := by omega
          have j4 : (0 : Int) ≤ (j : Int) := by omega
          have j5 : (j : Int) < (ln : Int) := by omega
          have j7 : j < ln := by omega
          have j8 : IntKind.i64.wrap (j : Int) = j := wr64 (by omega) (by omega)
          have j6 : IntKind.i64.wrap ((j : Int) + 1 - 1) = j := by rw [j2]; exact wr64 (by omega) (by omega)
          have d0 : decide (x < 0) = false := decide_eq_false n0
          have d1 : decide (N ≤ x) = false := decide_eq_false n1
          have d2 : decide (x ≤ y) = false := decide_eq_false n2
          have d3 : decide ((0 : Int) < (j : Int) + 1) = true := decide_eq_true j1
          clear HI HU hb24s hf1 hf2 HLN HK u0 u1 hup hS
          go_region_held3 (fun w' => w'.cell? ⟨vb, voff + j, none⟩ = some (.int .i64 y) ∧ w'.cell? ⟨vb, voff + (j + 1), none⟩ = some (.int .i64 x)) (exact ⟨hvd, hvc⟩) (fail)
          all_goals go_wp2_with fail
          all_goals go_roundw
          case rel => exact ⟨j + 1 + 1, by omega, by go_num, _, rfl⟩
          case measure => simp [intOf]; omega
      · have hkn : k = ln := by omega
        subst hkn
        go_wp2_with fail
        all_goals go_ret
        all_goals exact ⟨by first | rfl | (simp; omega), HBW.out.trans ((below_drewN hb24 q).mono HBW.out.size)⟩

set_option maxRecDepth 20000 in
theorem nextUp_contract (H : Type) (enc : TypeId × Value → H) (W : World) (base : Nat) (args : Array Value) (ds gs : List (DataW H)) (before : List MemPlace)
    (hval : ∀ (j : Nat) t v, Tryd.f3.params[j]? = some t → args[j]? = some v → Value.okWide Tryd.prog W .any base t v)
    (hW : DataW.Whole enc Tryd.prog Tryd.f3.params.toList Rows.nextUpSpec.vars false W args.toList ds gs before)
    (hsz0 : (DataW.weightsEach Tryd.prog (Tryd.f3.params.toList ++ (OpenSpec.ofChange Rows.nextUpSpec).bare.plain.varTypes Tryd.prog) (ds ++ gs)).all (· ≤ reachBytes) = true)
    (hL : laidMetH Tryd.prog Rows.nextUpRow.laid W) :
    Calls Tryd.prog 3 args W fun e W' => ∃ v, e = .returned v ∧ Rows.nextUpSpec.post enc Tryd.prog Tryd.f3 false true false false W args v W' := by
  have hW' := hW
  obtain ⟨p, q, hA0, hV, rfl, hfz, hnd⟩ := hW
  have hA : DataW.TrodAll enc Tryd.prog W 0 (fun _ => true) true Tryd.f3.params.toList args.toList ds p := hA0
  rw [Tryd.params3] at hA hval
  obtain ⟨v0, vs0, d0, ds0, p0, q0, hargs, rfl, rfl, h0, r0⟩ := trodAll_cons hA
  obtain ⟨v1, vs1, d1, ds1, p1, q1, rfl, rfl, rfl, h1, r1⟩ := trodAll_cons r0
  obtain ⟨rfl, rfl, rfl⟩ := trodAll_nil r1
  obtain rfl : args = #[v0, v1] := by cases args; simp_all
  obtain ⟨rfl, rfl⟩ := trodVars_none hV
  have hsz : (DataW.weightsEach Tryd.prog [25, 3] [d0, d1]).all (· ≤ reachBytes) = true := hsz0
  obtain ⟨vars, hD⟩ := open_design (hval 0 25 v0 rfl rfl) h0 hsz (j := 0) rfl rfl
  obtain ⟨c0, c1, c2, c3, c4, c5, c6, a, b, rfl, hG, hmd⟩ := design_model hD
  obtain ⟨code, rfl, rfl, rfl, wf1⟩ := open_int Tryd.underlying3 (hval 1 3 v1 rfl rfl) h1
  have hT := tabAt hL
  refine (nextUp_walk c0 c1 c2 c3 c4 c5 c6 a b code W (tab_size hT) hT hG (bounds_i64 wf1) hmd).mono fun e W' ⟨he, hb⟩ => ⟨_, he, ?_⟩
  refine law_post (fun t ht => ?_) rfl (by kernel_rfl) hW' rfl rfl rfl hb
  rw [Tryd.params3] at ht
  simp only [List.mem_cons, List.not_mem_nil, or_false] at ht
  rcases ht with rfl | rfl
  · exact ⟨by kernel_rfl, of_decide_eq_true (by kernel_rfl)⟩
  · exact ⟨by kernel_rfl, of_decide_eq_true (by kernel_rfl)⟩

/-- A WORLD FOR THE WITNESS: the settled one, the table (block 0) holding what its initialiser lays. -/
noncomputable def nextUpWorld (os : Os) : World :=
  { World.holding Tryd.prog os ⟨#[], #[], []⟩ with heap := (World.holding Tryd.prog os ⟨#[], #[], []⟩).heap.modify 0 fun
      | .cells _ t frozen => .cells #[.int .i64 0, .int .i64 0, .int .i64 0, .int .i64 2, .int .i64 2, .int .i64 2, .int .i64 2, .int .i64 2, .int .i64 2, .int .i64 2, .int .i64 1, .int .i64 0, .int .i64 0, .int .i64 0, .int .i64 1, .int .i64 2, .int .i64 2, .int .i64 1, .int .i64 1] t frozen
      | o => o }
set_option maxRecDepth 20000 in
theorem nextUp_met (os : Os) : laidMet Tryd.prog Rows.nextUpRow.laid ((nextUpWorld os).forCall (fun _ _ => 0) ⟨#[], #[.agg #[.int .i64 0, .int .i64 0, .int .i64 0, .int .i64 0, .int .i64 0, .int .i64 0, .slice none 0 0], .int .i64 0], []⟩).memory :=
  laidMet_of_run' 8 (by kernel_rfl) (by kernel_rfl)
set_option maxRecDepth 20000 in
theorem nextUp_reads (os : Os) {H : Type} (enc : TypeId × Value → H) : ∃ places, DataW.whole enc Tryd.prog ((nextUpWorld os).forCall (fun _ _ => 0) ⟨#[], #[.agg #[.int .i64 0, .int .i64 0, .int .i64 0, .int .i64 0, .int .i64 0, .int .i64 0, .slice none 0 0], .int .i64 0], []⟩).memory Tryd.f3.params.toList Rows.nextUpSpec.vars false #[Value.agg #[.int .i64 0, .int .i64 0, .int .i64 0, .int .i64 0, .int .i64 0, .int .i64 0, .slice none 0 0], .int .i64 0].toList 8 = some ([.agg [.agg [.lit (.int .i64 0), .lit (.int .i64 0)], .agg [.lit (.int .i64 0), .lit (.int .i64 0)], .agg [.lit (.int .i64 0), .lit (.int .i64 0)], .nil], .lit (.int .i64 0)], [], places) :=
  ⟨[], by kernel_rfl⟩

set_option maxRecDepth 100000 in
theorem nextUp_lifted (os : Os) (started : os.Started) (H : Type) (enc : TypeId × Value → H) (F : Stop.Interp) :
    ReturnsInHanded {} Tryd.checked os 3 .any ((OpenSpec.ofChange Rows.nextUpSpec).preRow enc Tryd.prog Tryd.f3 Rows.nextUpRow.domain false Rows.nextUpRow.laid) (((OpenSpec.ofChange Rows.nextUpSpec).at F).post enc Tryd.prog Tryd.f3 false true false false) := by
  obtain ⟨places, hx⟩ := nextUp_reads os enc
  refine returnsInHanded_of_row (C := Tryd.checked) (s := OpenSpec.ofChange Rows.nextUpSpec) own started (by kernel_rfl) Tryd.func3
    (witness_row_at (enc := enc) (C := Tryd.checked) false (nextUpWorld os) #[.agg #[.int .i64 0, .int .i64 0, .int .i64 0, .int .i64 0, .int .i64 0, .int .i64 0, .slice none 0 0], .int .i64 0] rfl (by kernel_rfl) (by kernel_rfl) (by kernel_rfl)
      (OpenSpec.preRow_of_cond 8 hx (by kernel_rfl) (fun k hk => by cases hk) (by kernel_rfl) (nextUp_met os))) ?_
  intro W base args ds gs before hval hW _ _ hsz hL _ _
  exact nextUp_contract H enc W base args ds gs before hval hW hsz hL

set_option maxRecDepth 20000 in
theorem nextUp_said : Rows.NextUpSaid :=
  OpenClaim.holds_of_cond 3 Tryd.f3 rfl rfl rfl rfl rfl rfl rfl ⟨rfl, rfl, rfl, rfl, rfl⟩ rfl rfl rfl rfl rfl (by kernel_rfl) Tryd.func3 (by kernel_rfl)
    (of_decide_eq_true (by kernel_rfl)) (by unfold Func.isWrapper; first | (rw [if_pos (by decide +kernel)]; kernel_rfl) | (rw [if_neg (by decide +kernel)]; exact ⟨rfl, rfl⟩))
    (fun os started H enc _ F => by rw [OpenClaim.pre_eq_preRow]; exact nextUp_lifted os started H enc F)

set_option maxRecDepth 20000 in
theorem nextUp_plain (f : FuncId) (fn : Func) (hf : Tryd.pinned.checked.prog.funcNamed "foretell/foretellkeep.NextUp" = some f) (hfn : Tryd.pinned.checked.prog.funcs[f]? = some fn) :
    true = Tryd.pinned.checked.prog.looks [] ∧ ∀ (j : Nat) t, fn.params[j]? = some t → Tryd.pinned.checked.prog.wantsStandIn t = false := by
  obtain rfl : f = 3 := Option.some.inj ((show Tryd.prog.funcNamed "foretell/foretellkeep.NextUp" = some 3 by kernel_rfl).symm.trans hf) |>.symm
  obtain rfl : fn = Tryd.f3 := (Option.some.inj (Tryd.func3.symm.trans hfn)).symm
  refine ⟨by kernel_rfl, fun j t ht => ?_⟩
  rw [Tryd.params3] at ht
  have ht' := Array.mem_of_getElem? ht
  simp only [List.mem_toArray, List.mem_cons, List.not_mem_nil, or_false] at ht'
  rcases ht' with rfl | rfl
  · exact (show Tryd.prog.wantsStandIn 25 = false by kernel_rfl)
  · exact (show Tryd.prog.wantsStandIn 3 = false by kernel_rfl)

set_option maxRecDepth 20000 in
/-- THE CARD. -/
theorem nextUp_card : Rows.NextUpCardSaid :=
  Claim7.holds_tied_plain_at .later [] _ _ _ _ nextUp_said (fun _ h => by cases h) (by kernel_rfl) (fun _ h => by cases h) nextUp_row_tie rfl ⟨rfl, rfl⟩ (by kernel_rfl) rfl nextUp_plain (by kernel_rfl)
#print axioms nextUp_card
end Go.Proofs.YtckkcpdmfgceoaaDoor
