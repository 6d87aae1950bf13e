/-
  Proved: foretelllaw.TapeRepairs answers true at every tape (tape.Repair answers as the document's P11.7 does, and changes nothing). No condition.
-/
import Derived.Test.YtojioopoblphfaaTMem
import Derived.Test.YtojioopoblphfaaTRep
namespace Go.Proofs.Ytojioopoblphfaa
open Go.ChangeShapes Go.WideShapes Go.ChangeAt Go.RowKit Go.Deep

set_option maxHeartbeats 1600000 in
set_option maxRecDepth 20000 in
theorem tapeRepairs_walk (bv : Value) (s : Int) (l : List UInt8) (w : World) (hl : l.length ≤ 140737488355328) (hV : BytesV w bv l) :
    Calls Try.prog 8 #[.agg #[bv, .int .i64 s]] w fun e w' => e = .returned (.bool true) ∧ Below w.heap.size w w' := by
  obtain ⟨ao, cap, rfl⟩ := hV.shape
  obtain ⟨m, s', c, hX, hY⟩ := (show ∃ (m : List UInt8) (s' c : Int), (∀ (ao : Option Addr) (cap : Nat) (w1 : World), Below w.heap.size w w1 → BytesV w1 (.slice ao l.length cap) l → Calls Try.prog 24 #[.agg #[.slice ao l.length cap, .int .i64 s]] w1 (TAns w1 m s' c)) ∧ (∀ (ao : Option Addr) (cap : Nat) (w1 : World), Below w.heap.size w w1 → BytesV w1 (.slice ao l.length cap) l → Calls Try.prog 25 #[.agg #[.slice ao l.length cap, .int .i64 s]] w1 (TAns w1 m s' c)) from by
    cases hm : mayB l.length s with
    | true => exact ⟨l.take (readL l).2, min s ((readL l).2 : Nat), 0, fun ao cap w1 _ h => repair_ok ao cap l s w1 hm h, fun ao cap w1 _ h => repaired_ok ao cap l s w1 hm h⟩
    | false => exact ⟨[], 0, 9, fun ao cap w1 _ _ => repair_bad ao cap l s w1 hm, fun ao cap w1 _ _ => repaired_bad ao cap l s w1 hm⟩)
  obtain ⟨hbA, hcA⟩ := Bc.arg w (.slice ao l.length cap) (.int .i64 s) 27
  have hcp := tapes_any ao cap l s (w.alloc (.cells #[.slice ao l.length cap, .int .i64 s] 27)) hl (hV.below hbA)
  have HA : Hid (∀ w1, Below (w.alloc (.cells #[.slice ao l.length cap, .int .i64 s] 27)).heap.size (w.alloc (.cells #[.slice ao l.length cap, .int .i64 s] 27)) w1 → Below w.heap.size w w1 ∧ Bc w1 w.heap.size (.slice ao l.length cap) (.int .i64 s)) := fun w1 hb => ⟨hbA.trans (hb.mono hbA.size), hcA.later hb⟩
  have HX : Hid (∀ (ao' : Option Addr) (cap' : Nat) (w1 : World), Below w.heap.size w w1 → BytesV w1 (.slice ao' l.length cap') l → Calls Try.prog 24 #[.agg #[.slice ao' l.length cap', .int .i64 s]] w1 fun e w' => ∃ xo xc, e = .returned (.tuple #[.agg #[.slice xo m.length xc, .int .i64 s'], .int .i64 c]) ∧ Below w1.heap.size w1 w' ∧ Hid (BytesV w' (.slice xo m.length xc) m)) := fun ao' cap' w1 hb h => (hX ao' cap' w1 hb h).mono fun e w' ⟨xo, xc, h1, h2, h3⟩ => ⟨xo, xc, h1, h2, bytesV_of_owns h3.out⟩
  have HY : Hid (∀ (w1 : World), Below w.heap.size w w1 → Calls Try.prog 25 #[.agg #[.slice ao l.length cap, .int .i64 s]] w1 fun e w' => ∃ xo xc, e = .returned (.tuple #[.agg #[.slice xo m.length xc, .int .i64 s'], .int .i64 c]) ∧ Below w1.heap.size w1 w' ∧ Hid (BytesV w' (.slice xo m.length xc) m)) := fun w1 hb => (hY ao cap w1 hb (hV.below hb)).mono fun e w' ⟨xo, xc, h1, h2, h3⟩ => ⟨xo, xc, h1, h2, bytesV_of_owns h3.out⟩
  have HS1 : Hid (∀ (ao bo : Option Addr) (ac bc : Nat) (w1 : World), BytesV w1 (.slice ao m.length ac) m → BytesV w1 (.slice bo m.length bc) m → Calls Try.prog 16 #[.agg #[.slice ao m.length ac, .int .i64 s'], .agg #[.slice bo m.length bc, .int .i64 s']] w1 fun e w' => e = .returned (.bool true) ∧ Below w1.heap.size w1 w') := fun ao bo ac bc w1 h1 h2 => sameTape_any ao bo ac bc m s' w1 h1 h2
  have HS2 : Hid (∀ (ac : Option Addr) (cc : Nat) (w1 : World), Below w.heap.size w w1 → BytesV w1 (.slice ac l.length cc) l → Calls Try.prog 16 #[.agg #[.slice ac l.length cc, .int .i64 s], .agg #[.slice ao l.length cap, .int .i64 s]] w1 fun e w' => e = .returned (.bool true) ∧ Below w1.heap.size w1 w') := fun ac cc w1 hb h1 => sameTape_any ac ao cc cap l s w1 h1 (hV.below hb)
  generalize m.length = k at *
  generalize l.length = n at *
  clear hV hX hY hbA hcA
  have tk1 := True.intro
  have tk2 := True.intro
  go_enter Try.func8, Try.ntmps8
  go_wp2_with (first | (go_at_call 12; refine hcp.mono ?_; rintro e w1 ⟨co, cc, rfl, hb1, hv1⟩; obtain ⟨hw1, ha1⟩ := HA.out w1 hb1; obtain ⟨_, p0, p1⟩ := id ha1; obtain ⟨hb1n, hc1n⟩ := Bc.arg w1 (.slice co n cc) (.int .i64 s) 27; have hw1n := hw1.trans (hb1n.mono hw1.size); have hx1 := HX.out co cc _ hw1n (hv1.below hb1n); have hv1n := hv1.below hb1n; have ha1n := ha1.later hb1n) | (go_at_call 24; refine hx1.mono ?_; rintro e w2 ⟨xo, xc, rfl, hb2, hv2⟩; have hw2 := hw1n.trans (hb2.mono hw1n.size); have ha2 := ha1n.later hb2; have hc2 := hc1n.later hb2; have hvc2 := hv1n.below hb2; obtain ⟨_, q0, q1⟩ := id ha2; obtain ⟨hb2n, hd2n⟩ := Bc.arg w2 (.slice xo k xc) (.int .i64 s') 27; have hw2n := hw2.trans (hb2n.mono hw2.size); have hy2 := HY.out _ hw2n; have ha2n := ha2.later hb2n; have hc2n := hc2.later hb2n; obtain ⟨_, o0, o1⟩ := id ha2n) | (go_at_call 25; refine hy2.mono ?_; rintro e w3 ⟨yo, yc, rfl, hb3, hv3⟩; have hw3 := hw2n.trans (hb3.mono hw2n.size); obtain ⟨hb3n, he3n⟩ := Bc.arg w3 (.slice yo k yc) (.int .i64 s') 27; have hw3n := hw3.trans (hb3n.mono hw3.size); have ha3 := (ha2n.later hb3).later hb3n; have hc3 := (hc2n.later hb3).later hb3n; have hd3 := (hd2n.later hb3).later hb3n; have hvc3 := ((hvc2.below hb2n).below hb3).below hb3n; have hvx3 := ((hv2.out.below hb2n).below hb3).below hb3n; have hvy3 := hv3.out.below hb3n; obtain ⟨_, d0, d1⟩ := id hd3; obtain ⟨_, e0, e1⟩ := id he3n; have hs3 := HS1.out xo yo xc yc _ hvx3 hvy3) | (clear tk1; go_at_call 16; refine hs3.mono ?_; rintro e w4 ⟨rfl, hb4⟩; have hw4 := hw3n.trans (hb4.mono hw3n.size); obtain ⟨_, g0, g1⟩ := ha3.later hb4; obtain ⟨_, t0, t1⟩ := hc3.later hb4; have hs4 := HS2.out co cc w4 hw4 (hvc3.below hb4)) | (clear tk2; go_at_call 16; refine hs4.mono ?_; rintro e w5 ⟨rfl, hb5⟩))
  all_goals go_ret
  all_goals exact ⟨by first | rfl | simp, hw4.trans (hb5.mono hw4.size)⟩

set_option maxRecDepth 20000 in
theorem tapeRepairs_contract (H : Type) (enc : TypeId × Value → H) (W : World) (base : Nat) (args : Array Value) (ds gs : List (DataW H)) (before : List MemPlace)
    (hval : ∀ (j : Nat) t v, Try.f8.params[j]? = some t → args[j]? = some v → Value.okWide Try.prog W .any base t v)
    (hW : DataW.Whole enc Try.prog Try.f8.params.toList Rows.tapeRepairsSpec.vars false W args.toList ds gs before)
    (hsz0 : (DataW.weightsEach Try.prog (Try.f8.params.toList ++ (OpenSpec.ofChange Rows.tapeRepairsSpec).bare.plain.varTypes Try.prog) (ds ++ gs)).all (· ≤ reachBytes) = true)
    (_hL : laidMetH Try.prog Rows.tapeRepairsRow.laid W) :
    Calls Try.prog 8 args W fun e W' => ∃ v, e = .returned v ∧ Rows.tapeRepairsSpec.post enc Try.prog Try.f8 false true false false W args v W' := by
  have hW' := hW
  obtain ⟨p, q, hA0, hV, rfl, hfz, hnd⟩ := hW
  have hA : DataW.TrodAll enc Try.prog W 0 (fun _ => true) true Try.f8.params.toList args.toList ds p := hA0
  rw [Try.params8] at hA hval
  obtain ⟨v0, vs0, d0, ds0, p0, q0, hargs, rfl, rfl, h0, r0⟩ := trodAll_cons hA
  obtain ⟨rfl, rfl, rfl⟩ := trodAll_nil r0
  obtain rfl : args = #[v0] := by cases args; simp_all
  obtain ⟨rfl, rfl⟩ := trodVars_none hV
  have hsz : (DataW.weightsEach Try.prog [27] [d0]).all (· ≤ reachBytes) = true := hsz0
  obtain ⟨bv, s, l, rfl, hV, hl⟩ := open_tape (hval 0 27 v0 rfl rfl) h0 hsz (j := 0) rfl rfl
  refine (tapeRepairs_walk bv s l W hl hV).mono fun e W' ⟨he, hb⟩ => ⟨_, he, ?_⟩
  refine law_post (fun t ht => ?_) rfl (by kernel_rfl) hW' rfl rfl rfl hb
  rw [Try.params8] at ht
  obtain rfl : t = 27 := by simpa using ht
  exact ⟨by kernel_rfl, of_decide_eq_true (by kernel_rfl)⟩

/-- A WORLD FOR THE WITNESS: the settled one. -/
noncomputable def tapeRepairsWorld (os : Os) : World := World.holding Try.prog os ⟨#[], #[], []⟩
set_option maxRecDepth 20000 in
theorem tapeRepairs_met (os : Os) : laidMet Try.prog Rows.tapeRepairsRow.laid ((tapeRepairsWorld os).forCall (fun _ _ => 0) ⟨#[], #[.agg #[.slice none 0 0, .int .i64 0]], []⟩).memory :=
  laidMet_of_run' 8 (by kernel_rfl) (by kernel_rfl)
set_option maxRecDepth 20000 in
theorem tapeRepairs_reads (os : Os) {H : Type} (enc : TypeId × Value → H) : ∃ places, DataW.whole enc Try.prog ((tapeRepairsWorld os).forCall (fun _ _ => 0) ⟨#[], #[.agg #[.slice none 0 0, .int .i64 0]], []⟩).memory Try.f8.params.toList Rows.tapeRepairsSpec.vars false #[Value.agg #[.slice none 0 0, .int .i64 0]].toList 8 = some ([.agg [.nil, .lit (.int .i64 0)]], [], places) :=
  ⟨[], by kernel_rfl⟩

set_option maxRecDepth 100000 in
theorem tapeRepairs_lifted (os : Os) (started : os.Started) (H : Type) (enc : TypeId × Value → H) (F : Stop.Interp) :
    ReturnsInHanded {} Try.checked os 8 .any ((OpenSpec.ofChange Rows.tapeRepairsSpec).preRow enc Try.prog Try.f8 Rows.tapeRepairsRow.domain false Rows.tapeRepairsRow.laid) (((OpenSpec.ofChange Rows.tapeRepairsSpec).at F).post enc Try.prog Try.f8 false true false false) := by
  obtain ⟨places, hx⟩ := tapeRepairs_reads os enc
  refine returnsInHanded_of_row (C := Try.checked) (s := OpenSpec.ofChange Rows.tapeRepairsSpec) own started (by kernel_rfl) Try.func8
    (witness_row_at (enc := enc) (C := Try.checked) false (tapeRepairsWorld os) #[.agg #[.slice none 0 0, .int .i64 0]] rfl (by kernel_rfl) (by kernel_rfl) (by kernel_rfl)
      (OpenSpec.preRow_of_cond 8 hx (by kernel_rfl) (fun k hk => by cases hk) (by kernel_rfl) (tapeRepairs_met os))) ?_
  intro W base args ds gs before hval hW _ _ hsz hL _ _
  exact tapeRepairs_contract H enc W base args ds gs before hval hW hsz hL

set_option maxRecDepth 20000 in
theorem tapeRepairs_said : Rows.TapeRepairsSaid :=
  OpenClaim.holds_of_cond 8 Try.f8 rfl rfl rfl rfl rfl rfl rfl ⟨rfl, rfl, rfl, rfl, rfl⟩ rfl rfl rfl rfl rfl (by kernel_rfl) Try.func8 (by kernel_rfl)
    (of_decide_eq_true (by kernel_rfl)) (by unfold Func.isWrapper; first | (rw [if_pos (by decide +kernel)]; kernel_rfl) | (rw [if_neg (by decide +kernel)]; exact ⟨rfl, rfl⟩))
    (fun os started H enc _ F => by rw [OpenClaim.pre_eq_preRow]; exact tapeRepairs_lifted os started H enc F)

#print axioms tapeRepairs_said
end Go.Proofs.Ytojioopoblphfaa
