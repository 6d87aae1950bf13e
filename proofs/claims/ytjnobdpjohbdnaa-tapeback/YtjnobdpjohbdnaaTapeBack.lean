/-
  Proved: foretellkeep.TapeBack answers true at every list of lists of numbers (records are read as they were written). No condition.
-/
import Derived.Test.YtjnobdpjohbdnaaTMem
import Derived.Test.YtjnobdpjohbdnaaTBackM
import Derived.Test.YtjnobdpjohbdnaaTSameK
namespace Go.Proofs.Ytjnobdpjohbdnaa
open Go.ChangeShapes Go.WideShapes Go.ChangeAt Go.RowKit Go.Deep

theorem small_of {ls : List (List Int)} : ∀ i, i < (rsN ls).length → ((rsN ls).getD i []).length ≤ 140737488355328 := fun i hi => by
  have hm : (rsN ls).getD i [] ∈ rsN ls := by rw [List.getD_eq_getElem?_getD, List.getElem?_eq_getElem hi]; simp
  have := (rsN_small ls _ hm).1
  omega
set_option maxHeartbeats 1600000 in
set_option maxRecDepth 20000 in
theorem tapeBack_walk (v : Value) (ls : List (List Int)) (w : World) (hz : ls.length * 24 ≤ 140737488355328) (hV : ListsR w v ls) :
    Calls Try.prog 4 #[v] w fun e w' => e = .returned (.bool true) ∧ Below w.heap.size w w' := by
  obtain ⟨ao, cap, rfl⟩ : ∃ ao cap, v = .slice ao ls.length cap := by obtain ⟨_, a, c, h, _⟩ := id hV; exact ⟨a, c, h⟩
  have htp := taped_any _ ls w hz hV
  have hok : ∀ l ∈ rsN ls, wrC l = 0 := fun l hl => (rsN_small ls l hl).2
  have hrb := read_back hok
  have hge := bysN_ge (rsN ls)
  have hle := bysN_le (rsN ls) (fun l hl => (rsN_small ls l hl).1)
  have hrl := rsN_length ls
  have hbig : (bysN (rsN ls)).length ≤ 1048576 := by omega
  have HRd : Hid (∀ (ta : Option Addr) (tc : Nat) (w1 : World), BytesV w1 (.slice ta (bysN (rsN ls)).length tc) (bysN (rsN ls)) → Calls Try.prog 13 #[.agg #[.slice ta (bysN (rsN ls)).length tc, .int .i64 0]] w1 fun e w' => ∃ xo xc, e = .returned (.tuple #[.slice xo (rsN ls).length xc, .int .i64 ((bysN (rsN ls)).length : Nat), .int .i64 0]) ∧ Below w1.heap.size w1 w' ∧ Hid (LisV w' (.slice xo (rsN ls).length xc) (rsN ls))) := fun ta tc w1 h => (read_ok ta tc (bysN (rsN ls)) 0 w1 (by simp [mayB]; omega) h).mono fun e w' ⟨xo, xc, h1, h2, h3⟩ => by
    rw [hrb] at h1 h3
    exact ⟨xo, xc, h1, h2, h3.out.v⟩
  have HSm : Hid (∀ (ao bo : Option Addr) (ac bc : Nat) (w1 : World), LisV w1 (.slice ao (rsN ls).length ac) (rsN ls) → LisV w1 (.slice bo (rsN ls).length bc) (rsN ls) → Calls Try.prog 14 #[.slice ao (rsN ls).length ac, .slice bo (rsN ls).length bc] w1 fun e w' => e = .returned (.bool true) ∧ Below w1.heap.size w1 w') := fun ao bo ac bc w1 h1 h2 => sameListsK_true ao bo ac bc (rsN ls) w1 (by omega) small_of h1 h2
  have HBy : Hid (∀ (w1 : World) (b : Nat) (v : Value), w1.ownsRow b 5 1 v (bysN (rsN ls)).length (bvals (bysN (rsN ls))) → BytesV w1 v (bysN (rsN ls))) := fun w1 b v h => bytesV_of_owns h
  have htp' : Calls Try.prog 12 #[.slice ao ls.length cap] w fun e w' => ∃ ta tc a c, e = .returned (.tuple #[.agg #[.slice ta (bysN (rsN ls)).length tc, .int .i64 0], .slice a (rsN ls).length c, .bool true]) ∧ Below w.heap.size w w' ∧ Hid (w'.ownsRow w.heap.size 5 1 (.slice ta (bysN (rsN ls)).length tc) (bysN (rsN ls)).length (bvals (bysN (rsN ls))) ∧ LisO w' w.heap.size (.slice a (rsN ls).length c) (rsN ls)) := htp
  clear htp hok hrb hle hV hbig
  generalize bysN (rsN ls) = by1 at *
  generalize by1.length = bn at *
  generalize hrn : (rsN ls).length = rn at *
  clear hrn
  generalize rsN ls = rs at *
  generalize ls.length = n at *
  have hn8 : ¬ n = 0 → (8 : Int) ≤ (bn : Int) := fun h => by omega
  have hn0 : n = 0 ∨ (8 : Int) ≤ (bn : Int) := by omega
  clear hge hrl
  rcases hn0 with rfl | hb8
  all_goals
    go_enter Try.func4, Try.ntmps4
    go_wp2_with (first | (go_at_call 12; refine htp'.mono ?_; rintro e w1 ⟨ta, tc, a, c, rfl, hb1, HO1⟩; obtain ⟨hbn, hcn⟩ := Bc.arg w1 (.slice ta bn tc) (.int .i64 0) 29; have hrd := HRd.out ta tc _ ((HBy.out _ _ _ HO1.out.1).below hbn); have hb1n := hb1.trans (hbn.mono hb1.size)) | (go_at_call 13; refine hrd.mono ?_; rintro e w2 ⟨xo, xc, rfl, hb2, HX⟩; have hb2n := hb1n.trans (hb2.mono hb1n.size); obtain ⟨_, p0, p1⟩ := hcn.later hb2; have hsm := HSm.out xo a xc c w2 HX.out ((HO1.out.2.v.below hbn).below hb2); have hc2 := hcn.later hb2) | (go_at_call 14; refine hsm.mono ?_; rintro e w3 ⟨rfl, hb3⟩; obtain ⟨_, q0, q1⟩ := hc2.later hb3))
    all_goals go_ret
    all_goals exact ⟨by first | rfl | simp, hb2n.trans (hb3.mono hb2n.size)⟩

set_option maxRecDepth 20000 in
theorem tapeBack_contract (H : Type) (enc : TypeId × Value → H) (W : World) (base : Nat) (args : Array Value) (ds gs : List (DataW H)) (before : List MemPlace)
    (hval : ∀ (j : Nat) t v, Try.f4.params[j]? = some t → args[j]? = some v → Value.okWide Try.prog W .any base t v)
    (hW : DataW.Whole enc Try.prog Try.f4.params.toList Rows.tapeBackSpec.vars false W args.toList ds gs before)
    (hsz0 : (DataW.weightsEach Try.prog (Try.f4.params.toList ++ (OpenSpec.ofChange Rows.tapeBackSpec).bare.plain.varTypes Try.prog) (ds ++ gs)).all (· ≤ reachBytes) = true)
    (_hL : laidMetH Try.prog Rows.tapeBackRow.laid W) :
    Calls Try.prog 4 args W fun e W' => ∃ v, e = .returned v ∧ Rows.tapeBackSpec.post enc Try.prog Try.f4 false true false false W args v W' := by
  have hW' := hW
  obtain ⟨p, q, hA0, hV, rfl, hfz, hnd⟩ := hW
  have hA : DataW.TrodAll enc Try.prog W 0 (fun _ => true) true Try.f4.params.toList args.toList ds p := hA0
  rw [Try.params4] at hA hval
  obtain ⟨v0, vs0, d0, ds0, p0, q0, hargs, rfl, rfl, h0, r0⟩ := trodAll_cons hA
  obtain ⟨rfl, rfl, rfl⟩ := trodAll_nil r0
  obtain rfl : args = #[v0] := by cases args; simp_all
  obtain ⟨rfl, rfl⟩ := trodVars_none hV
  have hsz : (DataW.weightsEach Try.prog [27] [d0]).all (· ≤ reachBytes) = true := hsz0
  obtain ⟨ls, hV, hz⟩ := open_rawlists (hval 0 27 v0 rfl rfl) h0 hsz (j := 0) rfl rfl
  refine (tapeBack_walk v0 ls W hz hV).mono fun e W' ⟨he, hb⟩ => ⟨_, he, ?_⟩
  refine law_post (fun t ht => ?_) rfl (by kernel_rfl) hW' rfl rfl rfl hb
  rw [Try.params4] at ht
  obtain rfl : t = 27 := by simpa using ht
  exact ⟨by kernel_rfl, of_decide_eq_true (by kernel_rfl)⟩

/-- A WORLD FOR THE WITNESS: the settled one. -/
noncomputable def tapeBackWorld (os : Os) : World := World.holding Try.prog os ⟨#[], #[], []⟩
set_option maxRecDepth 20000 in
theorem tapeBack_met (os : Os) : laidMet Try.prog Rows.tapeBackRow.laid ((tapeBackWorld os).forCall (fun _ _ => 0) ⟨#[], #[.slice none 0 0], []⟩).memory :=
  laidMet_of_run' 8 (by kernel_rfl) (by kernel_rfl)
set_option maxRecDepth 20000 in
theorem tapeBack_reads (os : Os) {H : Type} (enc : TypeId × Value → H) : ∃ places, DataW.whole enc Try.prog ((tapeBackWorld os).forCall (fun _ _ => 0) ⟨#[], #[.slice none 0 0], []⟩).memory Try.f4.params.toList Rows.tapeBackSpec.vars false #[Value.slice none 0 0].toList 8 = some ([.nil], [], places) :=
  ⟨[], by kernel_rfl⟩

set_option maxRecDepth 100000 in
theorem tapeBack_lifted (os : Os) (started : os.Started) (H : Type) (enc : TypeId × Value → H) (F : Stop.Interp) :
    ReturnsInHanded {} Try.checked os 4 .any ((OpenSpec.ofChange Rows.tapeBackSpec).preRow enc Try.prog Try.f4 Rows.tapeBackRow.domain false Rows.tapeBackRow.laid) (((OpenSpec.ofChange Rows.tapeBackSpec).at F).post enc Try.prog Try.f4 false true false false) := by
  obtain ⟨places, hx⟩ := tapeBack_reads os enc
  refine returnsInHanded_of_row (C := Try.checked) (s := OpenSpec.ofChange Rows.tapeBackSpec) own started (by kernel_rfl) Try.func4
    (witness_row_at (enc := enc) (C := Try.checked) false (tapeBackWorld os) #[.slice none 0 0] rfl (by kernel_rfl) (by kernel_rfl) (by kernel_rfl)
      (OpenSpec.preRow_of_cond 8 hx (by kernel_rfl) (fun k hk => by cases hk) (by kernel_rfl) (tapeBack_met os))) ?_
  intro W base args ds gs before hval hW _ _ hsz hL _ _
  exact tapeBack_contract H enc W base args ds gs before hval hW hsz hL

set_option maxRecDepth 20000 in
theorem tapeBack_said : Rows.TapeBackSaid :=
  OpenClaim.holds_of_cond 4 Try.f4 rfl rfl rfl rfl rfl rfl rfl ⟨rfl, rfl, rfl, rfl, rfl⟩ rfl rfl rfl rfl rfl (by kernel_rfl) Try.func4 (by kernel_rfl)
    (of_decide_eq_true (by kernel_rfl)) (by unfold Func.isWrapper; first | (rw [if_pos (by decide +kernel)]; kernel_rfl) | (rw [if_neg (by decide +kernel)]; exact ⟨rfl, rfl⟩))
    (fun os started H enc _ F => by rw [OpenClaim.pre_eq_preRow]; exact tapeBack_lifted os started H enc F)

#print axioms tapeBack_said
end Go.Proofs.Ytjnobdpjohbdnaa
