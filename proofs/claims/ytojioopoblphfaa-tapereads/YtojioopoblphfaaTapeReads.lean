/-
  Proved: foretelllaw.TapeReads answers true at every tape (tape.Read answers as the document's P11.6 does, and changes nothing). No condition.
-/
import Derived.Test.YtojioopoblphfaaTMem
import Derived.Test.YtojioopoblphfaaTRep
namespace Go.Proofs.Ytojioopoblphfaa
open Go.ChangeShapes Go.WideShapes Go.ChangeAt Go.RowKit Go.Deep

theorem LisV.nil (w : World) : LisV w (.slice none 0 0) [] := ⟨[], none, 0, rfl, rfl, fun i hi => by simp at hi, fun h => absurd rfl h⟩
theorem run_small (d : List UInt8) : ∀ (k i : Nat), i < (run k d).1.length → ((run k d).1.getD i []).length ≤ 4000
  | 0, i, hi => by simp [run] at hi
  | k + 1, i, hi => by
    cases h : recAt (d.drop (run k d).2) with
    | none =>
      have e : run (k + 1) d = run k d := run_stay h 1
      rw [e] at hi ⊢
      exact run_small d k i hi
    | some l =>
      have e := run_go h
      rw [e] at hi ⊢
      have hl : l.length ≤ 4000 := by have := (recAt_some h).1; unfold wrC at this; split at this <;> omega
      rw [getD_app]
      split
      · rename_i hlt; exact run_small d k i hlt
      · have : i - (run k d).1.length = 0 := by simp at hi; omega
        rw [this]
        exact hl
theorem read_both (l : List UInt8) (s : Int) : ∃ (rs : List (List Int)) (n : Nat) (c : Int), rs.length ≤ 1048576 ∧ (∀ i, i < rs.length → (rs.getD i []).length ≤ 140737488355328) ∧
    (∀ (ao : Option Addr) (cap : Nat) (w1 : World), BytesV w1 (.slice ao l.length cap) l → Calls Try.prog 21 #[.agg #[.slice ao l.length cap, .int .i64 s]] w1 fun e w' => ∃ xo xc, e = .returned (.tuple #[.slice xo rs.length xc, .int .i64 n, .int .i64 c]) ∧ Below w1.heap.size w1 w' ∧ Hid (LisV w' (.slice xo rs.length xc) rs)) ∧
    (∀ (ao : Option Addr) (cap : Nat) (w1 : World), BytesV w1 (.slice ao l.length cap) l → Calls Try.prog 22 #[.agg #[.slice ao l.length cap, .int .i64 s]] w1 fun e w' => ∃ xo xc, e = .returned (.tuple #[.slice xo rs.length xc, .int .i64 n, .int .i64 c]) ∧ Below w1.heap.size w1 w' ∧ Hid (LisV w' (.slice xo rs.length xc) rs)) := by
  cases hm : mayB l.length s with
  | false => exact ⟨[], 0, 9, by simp, fun i hi => by simp at hi, fun ao cap w1 _ => (read_bad ao cap l s w1 hm).mono fun e w' ⟨h1, h2⟩ => ⟨none, 0, h1, h2, LisV.nil _⟩, fun ao cap w1 _ => (recsOf_bad ao cap l s w1 hm).mono fun e w' ⟨h1, h2⟩ => ⟨none, 0, h1, h2, LisV.nil _⟩⟩
  | true =>
    have hl : l.length ≤ 1048576 := by simp [mayB] at hm; omega
    have h1 := run_records l l.length
    have h2 := run_le l l.length
    exact ⟨(readL l).1, (readL l).2, 0, by show (run l.length l).1.length ≤ _; omega, fun i hi => by have := run_small l l.length i hi; show ((run l.length l).1.getD i []).length ≤ _; omega, fun ao cap w1 h => (read_ok ao cap l s w1 hm h).mono fun e w' ⟨xo, xc, h1, h2, h3⟩ => ⟨xo, xc, h1, h2, h3.out.v⟩, fun ao cap w1 h => (recsOf_ok ao cap l s w1 hm h).mono fun e w' ⟨xo, xc, h1, h2, h3⟩ => ⟨xo, xc, h1, h2, h3.out.v⟩⟩

set_option maxHeartbeats 1600000 in
set_option maxRecDepth 20000 in
theorem tapeReads_walk (bv : Value) (s : Int) (l : List UInt8) (w : World) (hl : l.length ≤ 140737488355328) (hV : BytesV w bv l) :
    Calls Try.prog 7 #[.agg #[bv, .int .i64 s]] w fun e w' => e = .returned (.bool true) ∧ Below w.heap.size w w' := by
  obtain ⟨ao, cap, rfl⟩ := hV.shape
  obtain ⟨rs, nn, c, hr1, hr2, hX, hY⟩ := read_both l s
  obtain ⟨hbA, hcA⟩ := Bc.arg w (.slice ao l.length cap) (.int .i64 s) 27
  have hcp := tapes_any ao cap l s (w.alloc (.cells #[.slice ao l.length cap, .int .i64 s] 27)) hl (hV.below hbA)
  have HA : Hid (∀ w1, Below (w.alloc (.cells #[.slice ao l.length cap, .int .i64 s] 27)).heap.size (w.alloc (.cells #[.slice ao l.length cap, .int .i64 s] 27)) w1 → Below w.heap.size w w1 ∧ Bc w1 w.heap.size (.slice ao l.length cap) (.int .i64 s)) := fun w1 hb => ⟨hbA.trans (hb.mono hbA.size), hcA.later hb⟩
  have HX : Hid (∀ (ao' : Option Addr) (cap' : Nat) (w1 : World), BytesV w1 (.slice ao' l.length cap') l → Calls Try.prog 21 #[.agg #[.slice ao' l.length cap', .int .i64 s]] w1 fun e w' => ∃ xo xc, e = .returned (.tuple #[.slice xo rs.length xc, .int .i64 nn, .int .i64 c]) ∧ Below w1.heap.size w1 w' ∧ Hid (LisV w' (.slice xo rs.length xc) rs)) := hX
  have HY : Hid (∀ (w1 : World), Below w.heap.size w w1 → Calls Try.prog 22 #[.agg #[.slice ao l.length cap, .int .i64 s]] w1 fun e w' => ∃ xo xc, e = .returned (.tuple #[.slice xo rs.length xc, .int .i64 nn, .int .i64 c]) ∧ Below w1.heap.size w1 w' ∧ Hid (LisV w' (.slice xo rs.length xc) rs)) := fun w1 hb => hY ao cap w1 (hV.below hb)
  have HS1 : Hid (∀ (ao bo : Option Addr) (ac bc : Nat) (w1 : World), LisV w1 (.slice ao rs.length ac) rs → LisV w1 (.slice bo rs.length bc) rs → Calls Try.prog 23 #[.slice ao rs.length ac, .slice bo rs.length bc] w1 fun e w' => e = .returned (.bool true) ∧ Below w1.heap.size w1 w') := fun ao bo ac bc w1 h1 h2 => sameLists_true ao bo ac bc rs w1 hr1 hr2 h1 h2
  have HS2 : Hid (∀ (ac : Option Addr) (cc : Nat) (w1 : World), Below w.heap.size w w1 → BytesV w1 (.slice ac l.length cc) l → Calls Try.prog 16 #[.agg #[.slice ac l.length cc, .int .i64 s], .agg #[.slice ao l.length cap, .int .i64 s]] w1 fun e w' => e = .returned (.bool true) ∧ Below w1.heap.size w1 w') := fun ac cc w1 hb h1 => sameTape_any ac ao cc cap l s w1 h1 (hV.below hb)
  generalize rs.length = k at *
  generalize l.length = n at *
  clear hV hX hY hbA hcA hr2
  go_enter Try.func7, Try.ntmps7
  go_wp2_with (first | (go_at_call 12; refine hcp.mono ?_; rintro e w1 ⟨co, cc, rfl, hb1, hv1⟩; obtain ⟨hw1, ha1⟩ := HA.out w1 hb1; obtain ⟨_, p0, p1⟩ := id ha1; obtain ⟨hb1n, hc1n⟩ := Bc.arg w1 (.slice co n cc) (.int .i64 s) 27; have hw1n := hw1.trans (hb1n.mono hw1.size); have hx1 := HX.out co cc _ (hv1.below hb1n); have hv1n := hv1.below hb1n; have ha1n := ha1.later hb1n) | (go_at_call 21; refine hx1.mono ?_; rintro e w2 ⟨xo, xc, rfl, hb2, hv2⟩; have hw2 := hw1n.trans (hb2.mono hw1n.size); have ha2 := ha1n.later hb2; have hc2 := hc1n.later hb2; have hvc2 := hv1n.below hb2; obtain ⟨_, q0, q1⟩ := id ha2; have hy2 := HY.out _ hw2) | (go_at_call 22; refine hy2.mono ?_; rintro e w3 ⟨yo, yc, rfl, hb3, hv3⟩; have hw3 := hw2.trans (hb3.mono hw2.size); have hs3 := HS1.out xo yo xc yc _ (hv2.out.below hb3) hv3.out) | (go_at_call 23; refine hs3.mono ?_; rintro e w4 ⟨rfl, hb4⟩; have hw4 := hw3.trans (hb4.mono hw3.size); obtain ⟨_, g0, g1⟩ := (ha2.later hb3).later hb4; obtain ⟨_, t0, t1⟩ := (hc2.later hb3).later hb4; have hs4 := HS2.out co cc w4 hw4 ((hvc2.below hb3).below hb4)) | (go_at_call 16; refine hs4.mono ?_; rintro e w5 ⟨rfl, hb5⟩))
  all_goals go_ret
  all_goals exact ⟨by first | rfl | simp, hw4.trans (hb5.mono hw4.size)⟩

set_option maxRecDepth 20000 in
theorem tapeReads_contract (H : Type) (enc : TypeId × Value → H) (W : World) (base : Nat) (args : Array Value) (ds gs : List (DataW H)) (before : List MemPlace)
    (hval : ∀ (j : Nat) t v, Try.f7.params[j]? = some t → args[j]? = some v → Value.okWide Try.prog W .any base t v)
    (hW : DataW.Whole enc Try.prog Try.f7.params.toList Rows.tapeReadsSpec.vars false W args.toList ds gs before)
    (hsz0 : (DataW.weightsEach Try.prog (Try.f7.params.toList ++ (OpenSpec.ofChange Rows.tapeReadsSpec).bare.plain.varTypes Try.prog) (ds ++ gs)).all (· ≤ reachBytes) = true)
    (_hL : laidMetH Try.prog Rows.tapeReadsRow.laid W) :
    Calls Try.prog 7 args W fun e W' => ∃ v, e = .returned v ∧ Rows.tapeReadsSpec.post enc Try.prog Try.f7 false true false false W args v W' := by
  have hW' := hW
  obtain ⟨p, q, hA0, hV, rfl, hfz, hnd⟩ := hW
  have hA : DataW.TrodAll enc Try.prog W 0 (fun _ => true) true Try.f7.params.toList args.toList ds p := hA0
  rw [Try.params7] at hA hval
  obtain ⟨v0, vs0, d0, ds0, p0, q0, hargs, rfl, rfl, h0, r0⟩ := trodAll_cons hA
  obtain ⟨rfl, rfl, rfl⟩ := trodAll_nil r0
  obtain rfl : args = #[v0] := by cases args; simp_all
  obtain ⟨rfl, rfl⟩ := trodVars_none hV
  have hsz : (DataW.weightsEach Try.prog [27] [d0]).all (· ≤ reachBytes) = true := hsz0
  obtain ⟨bv, s, l, rfl, hV, hl⟩ := open_tape (hval 0 27 v0 rfl rfl) h0 hsz (j := 0) rfl rfl
  refine (tapeReads_walk bv s l W hl hV).mono fun e W' ⟨he, hb⟩ => ⟨_, he, ?_⟩
  refine law_post (fun t ht => ?_) rfl (by kernel_rfl) hW' rfl rfl rfl hb
  rw [Try.params7] at ht
  obtain rfl : t = 27 := by simpa using ht
  exact ⟨by kernel_rfl, of_decide_eq_true (by kernel_rfl)⟩

/-- A WORLD FOR THE WITNESS: the settled one. -/
noncomputable def tapeReadsWorld (os : Os) : World := World.holding Try.prog os ⟨#[], #[], []⟩
set_option maxRecDepth 20000 in
theorem tapeReads_met (os : Os) : laidMet Try.prog Rows.tapeReadsRow.laid ((tapeReadsWorld os).forCall (fun _ _ => 0) ⟨#[], #[.agg #[.slice none 0 0, .int .i64 0]], []⟩).memory :=
  laidMet_of_run' 8 (by kernel_rfl) (by kernel_rfl)
set_option maxRecDepth 20000 in
theorem tapeReads_reads (os : Os) {H : Type} (enc : TypeId × Value → H) : ∃ places, DataW.whole enc Try.prog ((tapeReadsWorld os).forCall (fun _ _ => 0) ⟨#[], #[.agg #[.slice none 0 0, .int .i64 0]], []⟩).memory Try.f7.params.toList Rows.tapeReadsSpec.vars false #[Value.agg #[.slice none 0 0, .int .i64 0]].toList 8 = some ([.agg [.nil, .lit (.int .i64 0)]], [], places) :=
  ⟨[], by kernel_rfl⟩

set_option maxRecDepth 100000 in
theorem tapeReads_lifted (os : Os) (started : os.Started) (H : Type) (enc : TypeId × Value → H) (F : Stop.Interp) :
    ReturnsInHanded {} Try.checked os 7 .any ((OpenSpec.ofChange Rows.tapeReadsSpec).preRow enc Try.prog Try.f7 Rows.tapeReadsRow.domain false Rows.tapeReadsRow.laid) (((OpenSpec.ofChange Rows.tapeReadsSpec).at F).post enc Try.prog Try.f7 false true false false) := by
  obtain ⟨places, hx⟩ := tapeReads_reads os enc
  refine returnsInHanded_of_row (C := Try.checked) (s := OpenSpec.ofChange Rows.tapeReadsSpec) own started (by kernel_rfl) Try.func7
    (witness_row_at (enc := enc) (C := Try.checked) false (tapeReadsWorld os) #[.agg #[.slice none 0 0, .int .i64 0]] rfl (by kernel_rfl) (by kernel_rfl) (by kernel_rfl)
      (OpenSpec.preRow_of_cond 8 hx (by kernel_rfl) (fun k hk => by cases hk) (by kernel_rfl) (tapeReads_met os))) ?_
  intro W base args ds gs before hval hW _ _ hsz hL _ _
  exact tapeReads_contract H enc W base args ds gs before hval hW hsz hL

set_option maxRecDepth 20000 in
theorem tapeReads_said : Rows.TapeReadsSaid :=
  OpenClaim.holds_of_cond 7 Try.f7 rfl rfl rfl rfl rfl rfl rfl ⟨rfl, rfl, rfl, rfl, rfl⟩ rfl rfl rfl rfl rfl (by kernel_rfl) Try.func7 (by kernel_rfl)
    (of_decide_eq_true (by kernel_rfl)) (by unfold Func.isWrapper; first | (rw [if_pos (by decide +kernel)]; kernel_rfl) | (rw [if_neg (by decide +kernel)]; exact ⟨rfl, rfl⟩))
    (fun os started H enc _ F => by rw [OpenClaim.pre_eq_preRow]; exact tapeReads_lifted os started H enc F)

#print axioms tapeReads_said
end Go.Proofs.Ytojioopoblphfaa
