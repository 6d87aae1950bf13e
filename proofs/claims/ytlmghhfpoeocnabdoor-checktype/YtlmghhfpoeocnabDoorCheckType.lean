/-
  Proved: foretellkeep.CheckType answers true at every two lists of raw numbers (a number where a truth should be is told, and the other way round), given that the table polish.partCounts reads as its initialiser lays it, which the card ties to the program's text. No other condition.
-/
import Derived.Test.YtlmghhfpoeocnabDoorCards
import Derived.Test.YtlmghhfpoeocnabDoorTie
import Derived.Test.YtlmghhfpoeocnabDoorKeepEval
import Derived.Test.YtlmghhfpoeocnabDoorKeepCheck
import Derived.Test.YtlmghhfpoeocnabDoorNumber
namespace Go.Proofs.YtlmghhfpoeocnabDoor
open Go.ChangeShapes Go.WideShapes Go.ChangeAt Go.RowKit Go.Deep
open Terms Tm

set_option maxHeartbeats 3200000 in
theorem checkType_walk (rx ry : Value) (rsx rsy : List (Int × Int)) (w : World) (hB : 0 < w.heap.size) (hT : TabAt w) (hRx : Raws w w.heap.size rx rsx) (hRy : Raws w w.heap.size ry rsy) :
    Calls Tryd.prog 3 #[rx, ry] w fun e w' => e = .returned (.bool true) ∧ Below w.heap.size w w' := by
  obtain ⟨ra, rn, rc, hra⟩ : ∃ a n c, rx = .slice a n c := by obtain ⟨⟨a, c, h, _⟩, _, _⟩ := hRx; exact ⟨_, _, _, h⟩
  obtain ⟨sa, sn, sc, hsa⟩ : ∃ a n c, ry = .slice a n c := by obtain ⟨⟨a, c, h, _⟩, _, _⟩ := hRy; exact ⟨_, _, _, h⟩
  have htr := numberFn_any rx rsx 3 w (by omega) (by omega) hRx
  have HRY : Hid (Raws w w.heap.size ry rsy) := hRy
  have HT : Hid (TabAt w) := hT
  subst hra hsa
  clear hRx hRy hT
  go_enter Tryd.func3, Tryd.ntmps3
  go_wp2_with (go_at_call_of 6 rn; refine htr.mono ?_; rintro e w0 ⟨av, la, rfl, htl, hll, hol, hb1⟩; obtain ⟨aa, ac, rfl⟩ := owns_slice hol)
  have hova := opsV_of_owns hol
  have htr2 := truthFn_any _ rsy 3 w0 (by omega) (by omega) (HRY.out.later hb1)
  obtain ⟨A, hA⟩ := htl.tree (by omega)
  have hsA : A.size ≤ 26 := by rw [← A.ops_length, hA.ops]; omega
  have HNA : Hid (la.length ≤ 60 ∧ la ≠ []) := ⟨by omega, by rw [← hA.ops]; exact A.ops_ne⟩
  have HOA0 : Hid (OpsV w0 (.slice aa la.length ac) la) := hova
  obtain ⟨na, hna⟩ : ∃ n, n = la.length := ⟨_, rfl⟩
  rw [← hna] at HOA0 ⊢
  clear htr htl hol hova hll hna
  go_wp2_with (go_at_call_of 7 sn; refine htr2.mono ?_; rintro e w1 ⟨bv, lb, rfl, htl, hll, hol, hb2⟩; obtain ⟨ba, bc, rfl⟩ := owns_slice hol)
  have hovb := opsV_of_owns hol
  obtain ⟨B, hB'⟩ := htl.tree
  have hsB : B.size ≤ 26 := by rw [← B.ops_length, hB'.ops]; omega
  have HNB : Hid (lb.length ≤ 60 ∧ lb ≠ []) := ⟨by omega, by rw [← hB'.ops]; exact B.ops_ne⟩
  have HOA : Hid (∀ w', Below w1.heap.size w1 w' → OpsV w' (.slice aa na ac) la) := fun w' hw' => (HOA0.out.below hb2).below hw'
  have HOB : Hid (∀ w', Below w1.heap.size w1 w' → OpsV w' (.slice ba lb.length bc) lb) := fun w' hw' => hovb.below hw'
  obtain ⟨nb, hnb⟩ : ∃ n, n = lb.length := ⟨_, rfl⟩
  rw [← hnb] at HOB ⊢
  have hb01 := hb1.trans (hb2.mono hb1.size)
  have HTb : Hid (∀ w', Below w1.heap.size w1 w' → 0 < w'.heap.size ∧ TabAt w') := fun w' hw' => ⟨Nat.lt_of_lt_of_le hB (hb01.trans (hw'.mono hb01.size)).size, HT.out.below (hb01.trans (hw'.mono hb01.size)) hB⟩
  have HBw : Hid (Below w.heap.size w w1) := hb01
  have hB1 : Below w1.heap.size w1 w1 := Below.refl _ _
  have HT1 : Hid ((Tm.bi 8 0 B A).typed = false ∧ (Tm.bi 6 0 A B).typed = false ∧ (Tm.un 10 0 A).typed = false ∧ (Tm.bi 7 0 A A).typed = true) := by
    have t8 : tkT 8 = true := rfl
    have t6 : tkT 6 = false := rfl
    have t10 : tkT 10 = true := rfl
    have t7 : tkT 7 = false := rfl
    show _ ∧ _ ∧ _ ∧ _
    simp [Tm.typed, hA.typed, hB'.typed, hA.kind, hB'.kind, t8, t6, t10, t7]
  have HG : Hid ((Tm.bi 8 0 B A).Good 3 ∧ (Tm.bi 6 0 A B).Good 3 ∧ (Tm.un 10 0 A).Good 3 ∧ (Tm.bi 7 0 A A).Good 3 ∧ A.Good 3) :=
    ⟨⟨by omega, by omega, rfl, hB'.good, hA.good⟩, ⟨by omega, by omega, rfl, hA.good, hB'.good⟩, ⟨rfl, rfl, hA.good⟩, ⟨by omega, by omega, rfl, hA.good, hA.good⟩, hA.good⟩
  have HSZ : Hid ((Tm.bi 8 0 B A).size ≤ 60 ∧ (Tm.bi 6 0 A B).size ≤ 60 ∧ (Tm.un 10 0 A).size ≤ 60 ∧ (Tm.bi 7 0 A A).size ≤ 60 ∧ A.size ≤ 60) := by
    show _ ∧ _ ∧ _ ∧ _ ∧ _
    simp only [Tm.size]; omega
  have HO : Hid ((Tm.bi 8 0 B A).ops = (8, 0) :: (lb ++ la) ∧ (Tm.bi 6 0 A B).ops = (6, 0) :: (la ++ lb) ∧ (Tm.un 10 0 A).ops = (10, 0) :: la ∧ (Tm.bi 7 0 A A).ops = (7, 0) :: (la ++ la) ∧ A.ops = la) := by
    show _ ∧ _ ∧ _ ∧ _ ∧ _
    simp [Tm.ops, hA.ops, hB'.ops]
  have HK : Hid (A.typed = true ∧ mkT A.kind = false) := ⟨hA.typed, hA.kind⟩
  clear htr2 htl hol hovb hll hnb hb01 hb1 hb2 HRY HOA0 hA hB' hsA hsB HT
  -- And of a truth and a number
  have x1 : Below w1.heap.size w1 (w1.alloc (.cells #[.slice ba nb bc, .slice aa na ac] 23)) := hB1.alloc (Nat.le_refl _) _
  have hJ1 := joined2 8 w1.heap.size (.slice ba nb bc) (.slice aa na ac) lb la _ (by simp [go_sem]) (by simp [go_sem]) HNB.out.1 HNA.out.1 HNB.out.2 HNA.out.2 (HOB.out _ x1) (HOA.out _ x1)
  generalize ((8, 0) :: (lb ++ la)).length = m1 at hJ1
  go_wp2_with (go_at_call 9; refine hJ1.mono ?_; rintro e w2 ⟨ja1, jc1, rfl, hb2, hov1⟩)
  have c2 := x1.trans (hb2.mono x1.size)
  have hC1 := check_bad _ (.bi 8 0 B A) w2 HT1.out.1 (HTb.out _ c2).1 (HTb.out _ c2).2 HG.out.1 HSZ.out.1 (by rw [HO.out.1]; exact hov1)
  clear hJ1 hov1
  go_wp2_with (go_at_call 8; refine hC1.mono ?_; rintro e w3 ⟨rfl, hb3⟩)
  have c3 := c2.trans (hb3.mono c2.size)
  -- Eq of a number and a truth
  have x3 : Below w3.heap.size w3 (w3.alloc (.cells #[.slice aa na ac, .slice ba nb bc] 23)) := (Below.refl _ _).alloc (Nat.le_refl _) _
  have y3 := c3.trans (x3.mono c3.size)
  have hJ2 := joined2 6 w3.heap.size (.slice aa na ac) (.slice ba nb bc) la lb _ (by simp [go_sem]) (by simp [go_sem]) HNA.out.1 HNB.out.1 HNA.out.2 HNB.out.2 (HOA.out _ y3) (HOB.out _ y3)
  generalize ((6, 0) :: (la ++ lb)).length = m2 at hJ2
  clear hC1 x1 hb2 hb3
  go_wp2_with (go_at_call 9; refine hJ2.mono ?_; rintro e w4 ⟨ja2, jc2, rfl, hb4, hov2⟩)
  have c4 := y3.trans (hb4.mono y3.size)
  have hC2 := check_bad _ (.bi 6 0 A B) w4 HT1.out.2.1 (HTb.out _ c4).1 (HTb.out _ c4).2 HG.out.2.1 HSZ.out.2.1 (by rw [HO.out.2.1]; exact hov2)
  clear hJ2 hov2
  go_wp2_with (go_at_call 8; refine hC2.mono ?_; rintro e w5 ⟨rfl, hb5⟩)
  have c5 := c4.trans (hb5.mono c4.size)
  -- Not of a number
  have x5 : Below w5.heap.size w5 (w5.alloc (.cells #[.slice aa na ac] 23)) := (Below.refl _ _).alloc (Nat.le_refl _) _
  have y5 := c5.trans (x5.mono c5.size)
  have hJ3 := joined1 10 w5.heap.size (.slice aa na ac) la _ (by simp [go_sem]) HNA.out.1 HNA.out.2 (HOA.out _ y5)
  generalize ((10, 0) :: la).length = m3 at hJ3
  clear hC2 x3 y3 hb4 hb5
  go_wp2_with (go_at_call 9; refine hJ3.mono ?_; rintro e w6 ⟨ja3, jc3, rfl, hb6, hov3⟩)
  have c6 := y5.trans (hb6.mono y5.size)
  have hC3 := check_bad _ (.un 10 0 A) w6 HT1.out.2.2.1 (HTb.out _ c6).1 (HTb.out _ c6).2 HG.out.2.2.1 HSZ.out.2.2.1 (by rw [HO.out.2.2.1]; exact hov3)
  clear hJ3 hov3
  go_wp2_with (go_at_call_of 8 m3; refine hC3.mono ?_; rintro e w7 ⟨rfl, hb7⟩)
  have c7 := c6.trans (hb7.mono c6.size)
  have hC4 := check_good (.slice aa na ac) A false w7 HK.out.1 HK.out.2 (HTb.out _ c7).1 (HTb.out _ c7).2 HG.out.2.2.2.2 HSZ.out.2.2.2.2 (by rw [HO.out.2.2.2.2]; exact HOA.out _ c7)
  clear hC3 x5 y5 hb6 hb7
  go_wp2_with (go_at_call_of 8 na; refine hC4.mono ?_; rintro e w8 ⟨rfl, hb8⟩)
  have c8 := c7.trans (hb8.mono c7.size)
  -- Lt of a number and itself
  have x8 : Below w8.heap.size w8 (w8.alloc (.cells #[.slice aa na ac, .slice aa na ac] 23)) := (Below.refl _ _).alloc (Nat.le_refl _) _
  have y8 := c8.trans (x8.mono c8.size)
  have hJ5 := joined2 7 w8.heap.size (.slice aa na ac) (.slice aa na ac) la la _ (by simp [go_sem]) (by simp [go_sem]) HNA.out.1 HNA.out.1 HNA.out.2 HNA.out.2 (HOA.out _ y8) (HOA.out _ y8)
  generalize ((7, 0) :: (la ++ la)).length = m5 at hJ5
  clear hC4 hb8
  go_wp2_with (go_at_call 9; refine hJ5.mono ?_; rintro e w9 ⟨ja5, jc5, rfl, hb9, hov5⟩)
  have c9 := y8.trans (hb9.mono y8.size)
  have hC5 := check_good _ (.bi 7 0 A A) true w9 HT1.out.2.2.2 rfl (HTb.out _ c9).1 (HTb.out _ c9).2 HG.out.2.2.2.1 HSZ.out.2.2.2.1 (by rw [HO.out.2.2.2.1]; exact hov5)
  clear hJ5 hov5
  go_wp2_with (go_at_call 8; refine hC5.mono ?_; rintro e w10 ⟨rfl, hb10⟩)
  go_ret
  exact ⟨rfl, HBw.out.trans ((c9.trans (hb10.mono c9.size)).mono HBw.out.size)⟩

theorem checkType_contract (H : Type) (enc : TypeId × Value → H) (W : World) (base : Nat) (args : Array Value) (ds gs : List (DataW H)) (before : List MemPlace)
    (hval : ∀ (j : Nat) t v, Tryd.f3.params[j]? = some t → args[j]? = some v → Value.okWide Tryd.prog W .any base t v)
    (hW : DataW.Whole enc Tryd.prog Tryd.f3.params.toList Rows.checkTypeSpec.vars false W args.toList ds gs before)
    (hsz0 : (DataW.weightsEach Tryd.prog (Tryd.f3.params.toList ++ (OpenSpec.ofChange Rows.checkTypeSpec).bare.plain.varTypes Tryd.prog) (ds ++ gs)).all (· ≤ reachBytes) = true)
    (hL : laidMetH Tryd.prog Rows.checkTypeRow.laid W) :
    Calls Tryd.prog 3 args W fun e W' => ∃ v, e = .returned v ∧ Rows.checkTypeSpec.post enc Tryd.prog Tryd.f3 false true false false W args v W' := by
  have hW' := hW
  obtain ⟨p, q, hA0, hV, rfl, hfz, hnd⟩ := hW
  have hA : DataW.TrodAll enc Tryd.prog W 0 (fun _ => true) true Tryd.f3.params.toList args.toList ds p := hA0
  rw [Tryd.params3] at hA hval
  obtain ⟨v0, vs0, d0, ds0, p0, q0, hargs, rfl, rfl, h0, r0⟩ := trodAll_cons hA
  obtain ⟨v1, vs1, d1, ds1, p1, q1, rfl, rfl, rfl, h1, r1⟩ := trodAll_cons r0
  obtain ⟨rfl, rfl, rfl⟩ := trodAll_nil r1
  obtain rfl : args = #[v0, v1] := by cases args; simp_all
  obtain ⟨rfl, rfl⟩ := trodVars_none hV
  have hsz : (DataW.weightsEach Tryd.prog [22, 22] [d0, d1]).all (· ≤ reachBytes) = true := hsz0
  obtain ⟨rs, hrs⟩ := open_raws (hval 0 22 v0 rfl rfl) h0 hsz (j := 0) rfl rfl
  obtain ⟨ms, hms⟩ := open_raws (hval 1 22 v1 rfl rfl) h1 hsz (j := 1) rfl rfl
  have hT := tabAt hL
  refine (checkType_walk v0 v1 rs ms W (tab_size hT) hT hrs hms).mono fun e W' ⟨he, hb⟩ => ⟨_, he, ?_⟩
  refine law_post (fun t ht => ?_) rfl (by kernel_rfl) hW' rfl rfl rfl hb
  rw [Tryd.params3] at ht
  simp only [List.mem_cons, List.not_mem_nil, or_false] at ht
  rcases ht with rfl | rfl
  · exact ⟨by kernel_rfl, of_decide_eq_true (by kernel_rfl)⟩
  · exact ⟨by kernel_rfl, of_decide_eq_true (by kernel_rfl)⟩

/-- A WORLD FOR THE WITNESS: the settled one, the table (block 0) holding what its initialiser lays. -/
noncomputable def checkTypeWorld (os : Os) : World :=
  { World.holding Tryd.prog os ⟨#[], #[], []⟩ with heap := (World.holding Tryd.prog os ⟨#[], #[], []⟩).heap.modify 0 fun
      | .cells _ t frozen => .cells #[.int .i64 0, .int .i64 0, .int .i64 0, .int .i64 2, .int .i64 2, .int .i64 2, .int .i64 2, .int .i64 2, .int .i64 2, .int .i64 2, .int .i64 1, .int .i64 0, .int .i64 0, .int .i64 0, .int .i64 1, .int .i64 2, .int .i64 2, .int .i64 1, .int .i64 1] t frozen
      | o => o }
theorem checkType_met (os : Os) : laidMet Tryd.prog Rows.checkTypeRow.laid ((checkTypeWorld os).forCall (fun _ _ => 0) ⟨#[], #[.slice none 0 0, .slice none 0 0], []⟩).memory :=
  laidMet_of_run' 8 (by kernel_rfl) (by kernel_rfl)
theorem checkType_reads (os : Os) {H : Type} (enc : TypeId × Value → H) : ∃ places, DataW.whole enc Tryd.prog ((checkTypeWorld os).forCall (fun _ _ => 0) ⟨#[], #[.slice none 0 0, .slice none 0 0], []⟩).memory Tryd.f3.params.toList Rows.checkTypeSpec.vars false #[Value.slice none 0 0, .slice none 0 0].toList 8 = some ([.nil, .nil], [], places) :=
  ⟨[], by kernel_rfl⟩

set_option maxRecDepth 100000 in
theorem checkType_lifted (os : Os) (started : os.Started) (H : Type) (enc : TypeId × Value → H) (F : Stop.Interp) :
    ReturnsInHanded {} Tryd.checked os 3 .any ((OpenSpec.ofChange Rows.checkTypeSpec).preRow enc Tryd.prog Tryd.f3 Rows.checkTypeRow.domain false Rows.checkTypeRow.laid) (((OpenSpec.ofChange Rows.checkTypeSpec).at F).post enc Tryd.prog Tryd.f3 false true false false) := by
  obtain ⟨places, hx⟩ := checkType_reads os enc
  refine returnsInHanded_of_row (C := Tryd.checked) (s := OpenSpec.ofChange Rows.checkTypeSpec) own started (by kernel_rfl) Tryd.func3
    (witness_row_at (enc := enc) (C := Tryd.checked) false (checkTypeWorld os) #[.slice none 0 0, .slice none 0 0] rfl (by kernel_rfl) (by kernel_rfl) (by kernel_rfl)
      (OpenSpec.preRow_of_cond 8 hx (by kernel_rfl) (fun k hk => by cases hk) (by kernel_rfl) (checkType_met os))) ?_
  intro W base args ds gs before hval hW _ _ hsz hL _ _
  exact checkType_contract H enc W base args ds gs before hval hW hsz hL

theorem checkType_said : Rows.CheckTypeSaid :=
  OpenClaim.holds_of_cond 3 Tryd.f3 rfl rfl rfl rfl rfl rfl rfl ⟨rfl, rfl, rfl, rfl, rfl⟩ rfl rfl rfl rfl rfl (by kernel_rfl) Tryd.func3 (by kernel_rfl)
    (of_decide_eq_true (by kernel_rfl)) (by unfold Func.isWrapper; first | (rw [if_pos (by decide +kernel)]; kernel_rfl) | (rw [if_neg (by decide +kernel)]; exact ⟨rfl, rfl⟩))
    (fun os started H enc _ F => by rw [OpenClaim.pre_eq_preRow]; exact checkType_lifted os started H enc F)

theorem checkType_plain (f : FuncId) (fn : Func) (hf : Tryd.pinned.checked.prog.funcNamed "foretell/foretellkeep.CheckType" = some f) (hfn : Tryd.pinned.checked.prog.funcs[f]? = some fn) :
    true = Tryd.pinned.checked.prog.looks [] ∧ ∀ (j : Nat) t, fn.params[j]? = some t → Tryd.pinned.checked.prog.wantsStandIn t = false := by
  obtain rfl : f = 3 := Option.some.inj ((show Tryd.prog.funcNamed "foretell/foretellkeep.CheckType" = some 3 by kernel_rfl).symm.trans hf) |>.symm
  obtain rfl : fn = Tryd.f3 := (Option.some.inj (Tryd.func3.symm.trans hfn)).symm
  refine ⟨by kernel_rfl, fun j t ht => ?_⟩
  rw [Tryd.params3] at ht
  have ht' := Array.mem_of_getElem? ht
  simp only [List.mem_toArray, List.mem_cons, List.not_mem_nil, or_false] at ht'
  rcases ht' with rfl | rfl
  · exact (show Tryd.prog.wantsStandIn 22 = false by kernel_rfl)
  · exact (show Tryd.prog.wantsStandIn 22 = false by kernel_rfl)

/-- THE CARD. -/
theorem checkType_card : Rows.CheckTypeCardSaid :=
  Claim7.holds_tied_plain_at .later [] _ _ _ _ checkType_said (fun _ h => by cases h) (by kernel_rfl) (fun _ h => by cases h) checkType_row_tie rfl ⟨rfl, rfl⟩ (by kernel_rfl) rfl checkType_plain (by kernel_rfl)
#print axioms checkType_card
end Go.Proofs.YtlmghhfpoeocnabDoor
