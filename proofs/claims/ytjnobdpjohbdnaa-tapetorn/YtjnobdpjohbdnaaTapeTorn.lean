/-
  Proved: foretellkeep.TapeTorn answers true at every list of lists of numbers and every number (of a torn tape just the whole records are read). No condition.
-/
import Derived.Test.YtjnobdpjohbdnaaTMem
import Derived.Test.YtjnobdpjohbdnaaTPre
namespace Go.Proofs.Ytjnobdpjohbdnaa
open Go.ChangeShapes Go.WideShapes Go.ChangeAt Go.RowKit Go.Deep

set_option maxHeartbeats 1600000 in
set_option maxRecDepth 20000 in
theorem tapeTorn_walk (v : Value) (ls : List (List Int)) (x : Int) (w : World) (hx : I64 x) (hz : ls.length * 24 ≤ 140737488355328) (hV : ListsR w v ls) :
    Calls Try.prog 6 #[v, .int .i64 x] w fun e w' => e = .returned (.bool true) ∧ Below w.heap.size w w' := by
  obtain ⟨ao, cap, rfl⟩ : ∃ ao cap, v = .slice ao ls.length cap := by obtain ⟨_, a, c, h, _⟩ := id hV; exact ⟨a, c, h⟩
  have htp := taped_any _ ls w hz hV
  have hok : ∀ l ∈ rsN ls, wrC l = 0 := fun l hl => (rsN_small ls l hl).2
  have hle := bysN_le (rsN ls) (fun l hl => (rsN_small ls l hl).1)
  have hrl := rsN_length ls
  have hbig : (bysN (rsN ls)).length ≤ 560 := by omega
  have hpr := pk_range (n := x) (m := ((bysN (rsN ls)).length : Int) + 1) (by omega)
  obtain ⟨k, hk⟩ : ∃ k : Nat, pk x (((bysN (rsN ls)).length : Int) + 1) = (k : Int) := ⟨(pk x (((bysN (rsN ls)).length : Int) + 1)).toNat, by omega⟩
  have hkb : k ≤ (bysN (rsN ls)).length := by omega
  have hpk := fun w1 => picked_is x (((bysN (rsN ls)).length : Int) + 1) w1 hx (by omega) (by omega)
  rw [hk] at hpk
  obtain ⟨j, hj1, hj2, hj3⟩ := read_torn (rsN ls) hok k hkb
  have hnn : (readL ((bysN (rsN ls)).take k)).2 ≤ k := by
    have := run_le ((bysN (rsN ls)).take k) ((bysN (rsN ls)).take k).length
    have h2 : ((bysN (rsN ls)).take k).length = k := by rw [List.length_take]; omega
    show (run _ _).2 ≤ k
    omega
  have hjl : ((rsN ls).take j).length = j := by rw [List.length_take]; omega
  have HRd : Hid (∀ (ta : Option Addr) (w1 : World), BytesV w1 (.slice ta k k) ((bysN (rsN ls)).take k) → Calls Try.prog 13 #[.agg #[.slice ta k k, .int .i64 0]] w1 fun e w' => ∃ xo xc, e = .returned (.tuple #[.slice xo j xc, .int .i64 ((readL ((bysN (rsN ls)).take k)).2 : Nat), .int .i64 0]) ∧ Below w1.heap.size w1 w' ∧ Hid (LisV w' (.slice xo j xc) ((rsN ls).take j))) := fun ta w1 h => by
    have h2 : ((bysN (rsN ls)).take k).length = k := by rw [List.length_take]; omega
    have := read_ok ta k ((bysN (rsN ls)).take k) 0 w1 (by simp [mayB]; omega) (by rw [h2]; exact h)
    rw [h2] at this
    refine this.mono fun e w' ⟨xo, xc, g1, g2, g3⟩ => ?_
    rw [hj2, hjl] at g1 g3
    exact ⟨xo, xc, g1, g2, g3.out.v⟩
  have HSm : Hid (∀ (ao bo : Option Addr) (ac bc : Nat) (w1 : World), LisV w1 (.slice ao j ac) ((rsN ls).take j) → LisV w1 (.slice bo j bc) ((rsN ls).take j) → Calls Try.prog 14 #[.slice ao j ac, .slice bo j bc] w1 fun e w' => e = .returned (.bool true) ∧ Below w1.heap.size w1 w') := fun ao bo ac bc w1 h1 h2 => by
    have := sameListsK_true ao bo ac bc ((rsN ls).take j) w1 (by omega) small_take (by rw [hjl]; exact h1) (by rw [hjl]; exact h2)
    rw [hjl] at this
    exact this
  have HBy : Hid (∀ (w1 : World) (b : Nat) (ta : Option Addr) (tc : Nat), w1.ownsRow b 5 1 (.slice ta (bysN (rsN ls)).length tc) (bysN (rsN ls)).length (bvals (bysN (rsN ls))) → BytesV w1 (.slice ta k k) ((bysN (rsN ls)).take k)) := fun w1 b ta tc h => (bytesV_of_owns h).pre hkb
  have HLp : Hid (∀ (w1 : World) (b : Nat) (a : Option Addr) (c : Nat), LisO w1 b (.slice a (rsN ls).length c) (rsN ls) → LisV w1 (.slice a j c) ((rsN ls).take j) ∧ ((j : Int) ≤ (c : Int)) ∧ (a = none → c = 0)) := fun w1 b a c h => ⟨h.v.pre hj1, by have := h.room.1; omega, h.room.2⟩
  have htp' : Calls Try.prog 12 #[.slice ao ls.length cap] w fun e w' => ∃ ta tc a c, e = .returned (.tuple #[.agg #[.slice ta (bysN (rsN ls)).length tc, .int .i64 0], .slice a (rsN ls).length c, .bool true]) ∧ Below w.heap.size w w' ∧ Hid (w'.ownsRow w.heap.size 5 1 (.slice ta (bysN (rsN ls)).length tc) (bysN (rsN ls)).length (bvals (bysN (rsN ls))) ∧ LisO w' w.heap.size (.slice a (rsN ls).length c) (rsN ls)) := htp
  clear htp hok hle hV hj2 hjl hpr hk
  generalize (readL ((bysN (rsN ls)).take k)).2 = nn at *
  generalize hdk : (bysN (rsN ls)).take k = dk at *
  clear hdk
  generalize bysN (rsN ls) = by1 at *
  generalize by1.length = bn at *
  generalize hrn : (rsN ls).length = rn at *
  clear hrn
  generalize (rsN ls).take j = rj at *
  generalize rsN ls = rs at *
  generalize ls.length = n at *
  have hnk : (nn : Int) ≤ (k : Int) := by omega
  have hjr : (j : Int) ≤ (rn : Int) := by omega
  clear hrl hnn hj1
  have HEq : Hid (((j : Int) == (rn : Int)) = ((k : Int) == (bn : Int))) := by
    show _ = _
    by_cases h : j = rn
    · have h2 := hj3.1 h
      subst h h2
      simp
    · have h2 : ¬ k = bn := fun e => h (hj3.2 e)
      have e1 : ((j : Int) == (rn : Int)) = false := by simp; omega
      have e2 : ((k : Int) == (bn : Int)) = false := by simp; omega
      rw [e1, e2]
  clear hj3
  have k0 : (0 : Int) ≤ (k : Int) := by omega
  have j0 : (0 : Int) ≤ (j : Int) := by omega
  go_enter Try.func6, Try.ntmps6
  go_wp2_with (first | (go_at_call 12; refine htp'.mono ?_; rintro e w1 ⟨ta, tc, a, c, rfl, hb1, HO1⟩; obtain ⟨hbn, hcn⟩ := Bc.arg w1 (.slice ta bn tc) (.int .i64 0) 29; have hb1n := hb1.trans (hbn.mono hb1.size); obtain ⟨hlv, hjc, hac⟩ := HLp.out w1 _ a c HO1.out.2; obtain ⟨hbt, hat⟩ := owns_room HO1.out.1; have hkc : (k : Int) ≤ (tc : Int) := (by omega); have hrd := HRd.out ta _ ((HBy.out _ _ _ _ HO1.out.1).below hbn)) | (go_at_call 11; refine (hpk _).mono ?_; rintro e w2 ⟨rfl, HE2⟩; subst HE2) | (go_at_call 13; refine hrd.mono ?_; rintro e w3 ⟨xo, xc, rfl, hb3, HX⟩; have hb3n := hb1n.trans (hb3.mono hb1n.size); have hc3 := hcn.later hb3; obtain ⟨_, p0, p1⟩ := id hc3; have hsm := HSm.out xo a xc c w3 HX.out ((hlv.below hbn).below hb3)) | (go_at_call 14; refine hsm.mono ?_; rintro e w4 ⟨rfl, hb4⟩; obtain ⟨_, q0, q1⟩ := hc3.later hb4))
  all_goals go_ret
  all_goals exact ⟨by simp [HEq.out], hb3n.trans (hb4.mono hb3n.size)⟩

set_option maxRecDepth 20000 in
theorem tapeTorn_contract (H : Type) (enc : TypeId × Value → H) (W : World) (base : Nat) (args : Array Value) (ds gs : List (DataW H)) (before : List MemPlace)
    (hval : ∀ (j : Nat) t v, Try.f6.params[j]? = some t → args[j]? = some v → Value.okWide Try.prog W .any base t v)
    (hW : DataW.Whole enc Try.prog Try.f6.params.toList Rows.tapeTornSpec.vars false W args.toList ds gs before)
    (hsz0 : (DataW.weightsEach Try.prog (Try.f6.params.toList ++ (OpenSpec.ofChange Rows.tapeTornSpec).bare.plain.varTypes Try.prog) (ds ++ gs)).all (· ≤ reachBytes) = true)
    (_hL : laidMetH Try.prog Rows.tapeTornRow.laid W) :
    Calls Try.prog 6 args W fun e W' => ∃ v, e = .returned v ∧ Rows.tapeTornSpec.post enc Try.prog Try.f6 false true false false W args v W' := by
  have hW' := hW
  obtain ⟨p, q, hA0, hV, rfl, hfz, hnd⟩ := hW
  have hA : DataW.TrodAll enc Try.prog W 0 (fun _ => true) true Try.f6.params.toList args.toList ds p := hA0
  rw [Try.params6] at hA hval
  obtain ⟨v0, vs0, d0, ds0, p0, q0, hargs, rfl, rfl, h0, r0⟩ := trodAll_cons hA
  obtain ⟨v1, vs1, d1, ds1, p1, q1, rfl, rfl, rfl, h1, r1⟩ := trodAll_cons r0
  obtain ⟨rfl, rfl, rfl⟩ := trodAll_nil r1
  obtain rfl : args = #[v0, v1] := by cases args; simp_all
  obtain ⟨rfl, rfl⟩ := trodVars_none hV
  have hsz : (DataW.weightsEach Try.prog [27, 3] [d0, d1]).all (· ≤ reachBytes) = true := hsz0
  obtain ⟨ls, hV, hz⟩ := open_rawlists (hval 0 27 v0 rfl rfl) h0 hsz (j := 0) rfl rfl
  obtain ⟨x, rfl, rfl, rfl, wf1⟩ := open_int Try.underlying3 (hval 1 3 v1 rfl rfl) h1
  refine (tapeTorn_walk v0 ls x W (bounds_i64 wf1) hz hV).mono fun e W' ⟨he, hb⟩ => ⟨_, he, ?_⟩
  refine law_post (fun t ht => ?_) rfl (by kernel_rfl) hW' rfl rfl rfl hb
  rw [Try.params6] at ht
  simp only [List.mem_cons, List.not_mem_nil, or_false] at ht
  rcases ht with rfl | rfl
  · exact ⟨by kernel_rfl, of_decide_eq_true (by kernel_rfl)⟩
  · exact ⟨by kernel_rfl, of_decide_eq_true (by kernel_rfl)⟩

/-- A WORLD FOR THE WITNESS: the settled one. -/
noncomputable def tapeTornWorld (os : Os) : World := World.holding Try.prog os ⟨#[], #[], []⟩
set_option maxRecDepth 20000 in
theorem tapeTorn_met (os : Os) : laidMet Try.prog Rows.tapeTornRow.laid ((tapeTornWorld os).forCall (fun _ _ => 0) ⟨#[], #[.slice none 0 0, .int .i64 0], []⟩).memory :=
  laidMet_of_run' 8 (by kernel_rfl) (by kernel_rfl)
set_option maxRecDepth 20000 in
theorem tapeTorn_reads (os : Os) {H : Type} (enc : TypeId × Value → H) : ∃ places, DataW.whole enc Try.prog ((tapeTornWorld os).forCall (fun _ _ => 0) ⟨#[], #[.slice none 0 0, .int .i64 0], []⟩).memory Try.f6.params.toList Rows.tapeTornSpec.vars false #[Value.slice none 0 0, .int .i64 0].toList 8 = some ([.nil, .lit (.int .i64 0)], [], places) :=
  ⟨[], by kernel_rfl⟩

set_option maxRecDepth 100000 in
theorem tapeTorn_lifted (os : Os) (started : os.Started) (H : Type) (enc : TypeId × Value → H) (F : Stop.Interp) :
    ReturnsInHanded {} Try.checked os 6 .any ((OpenSpec.ofChange Rows.tapeTornSpec).preRow enc Try.prog Try.f6 Rows.tapeTornRow.domain false Rows.tapeTornRow.laid) (((OpenSpec.ofChange Rows.tapeTornSpec).at F).post enc Try.prog Try.f6 false true false false) := by
  obtain ⟨places, hx⟩ := tapeTorn_reads os enc
  refine returnsInHanded_of_row (C := Try.checked) (s := OpenSpec.ofChange Rows.tapeTornSpec) own started (by kernel_rfl) Try.func6
    (witness_row_at (enc := enc) (C := Try.checked) false (tapeTornWorld os) #[.slice none 0 0, .int .i64 0] rfl (by kernel_rfl) (by kernel_rfl) (by kernel_rfl)
      (OpenSpec.preRow_of_cond 8 hx (by kernel_rfl) (fun k hk => by cases hk) (by kernel_rfl) (tapeTorn_met os))) ?_
  intro W base args ds gs before hval hW _ _ hsz hL _ _
  exact tapeTorn_contract H enc W base args ds gs before hval hW hsz hL

set_option maxRecDepth 20000 in
theorem tapeTorn_said : Rows.TapeTornSaid :=
  OpenClaim.holds_of_cond 6 Try.f6 rfl rfl rfl rfl rfl rfl rfl ⟨rfl, rfl, rfl, rfl, rfl⟩ rfl rfl rfl rfl rfl (by kernel_rfl) Try.func6 (by kernel_rfl)
    (of_decide_eq_true (by kernel_rfl)) (by unfold Func.isWrapper; first | (rw [if_pos (by decide +kernel)]; kernel_rfl) | (rw [if_neg (by decide +kernel)]; exact ⟨rfl, rfl⟩))
    (fun os started H enc _ F => by rw [OpenClaim.pre_eq_preRow]; exact tapeTorn_lifted os started H enc F)

#print axioms tapeTorn_said
end Go.Proofs.Ytjnobdpjohbdnaa
