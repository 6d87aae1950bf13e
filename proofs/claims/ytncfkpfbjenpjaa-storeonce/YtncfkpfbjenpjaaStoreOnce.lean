/-
  Proved: foretellkeep.StoreOnce answers true at every list of numbers and number (what was added is there, once, and nothing else is). No condition.
-/
import Derived.Test.YtncfkpfbjenpjaaUMem
import Derived.Test.YtncfkpfbjenpjaaUStock
namespace Go.Proofs.Ytncfkpfbjenpjaa
open Go.ChangeShapes Go.WideShapes Go.ChangeAt Go.RowKit Go.Deep

set_option maxHeartbeats 1600000 in
set_option maxRecDepth 20000 in
theorem storeOnce_walk (v : Value) (l : List Int) (x : Int) (w : World) (hx : I64 x) (hV : IntsR w v l) :
    Calls Try.prog 3 #[v, .int .i64 x] w fun e w' => e = .returned (.bool true) ∧ Below w.heap.size w w' := by
  have hst := stocked_any v l w hV
  obtain ⟨ao, cap, rfl⟩ := hV.v.shape
  have hpk := fun w1 => picked_is x 500 w1 hx (by decide) (by decide)
  obtain ⟨hp0, hp5⟩ := pk_range (n := x) (m := 500) (by decide)
  generalize pk x 500 = y at *
  generalize l.length = ln at *
  clear hV
  unfold StoPost at hst
  have hst2 : Calls Try.prog 8 #[.slice ao ln cap] w fun e w' => ∃ (ks U : List Int) (m n kn : Nat) (o : Bool) (la : Option Addr) (lc : Nat) (ra : Option Addr) (rc : Nat) (ka : Option Addr) (kc : Nat), e = .returned (.tuple #[.agg #[.slice la m lc, .slice ra n rc], .slice ka kn kc, .bool true]) ∧ Below w.heap.size w w' ∧ kn ≤ 100 ∧
      Hid (∀ w1, Below w'.heap.size w' w1 → IntsV w1 (.slice ka kn kc) ks) ∧ Hid (ks.length = kn) ∧ Hid (U.length = kn) ∧ Hid (∀ q, q < kn → U.getD q 0 ∈ ks) ∧ Hid (∀ p, p + 1 < kn → U.getD p 0 < U.getD (p + 1) 0) ∧
      Hid (∀ w1, Below w'.heap.size w' w1 → Calls Try.prog 10 #[.agg #[.slice la m lc, .slice ra n rc], .int .i64 y] w1 fun e w2 => e = .returned (.tuple #[.bool o, .int .i64 0]) ∧ Below w1.heap.size w1 w2) ∧
      Hid (∀ w1, Below w'.heap.size w' w1 → Calls Try.prog 11 #[.agg #[.slice la m lc, .slice ra n rc]] w1 fun e w2 => ∃ uo uc, e = .returned (.tuple #[.slice uo kn uc, .int .i64 0]) ∧ Below w1.heap.size w1 w2 ∧ Hid (IntsV w2 (.slice uo kn uc) U)) ∧
      Hid (∀ w1, Below w'.heap.size w' w1 → Calls Try.prog 12 #[.slice ka kn kc, .int .i64 y] w1 fun e w2 => e = .returned (.bool o) ∧ w2 = w1) := hst.mono fun e w' ⟨lo, rs, ks, la, lc, ra, rc, ka, kc, h1, h2, h3, h4, h5, h6, h7, h8, _⟩ => by
    have hmay := h6.out.may
    have hperm := h6.out.keys
    have hU : (up (keysL lo rs)).length = ks.length := by rw [up_length]; exact hperm.length_eq
    have hrise : (up (keysL lo rs)).Pairwise (· < ·) := rise_of (up_sorted _) ((up_perm _).nodup_iff.2 hmay.nodup)
    have hhc : hasC lo rs y = (decide (y ∈ ks), 0) := by
      unfold hasC
      rw [if_pos hmay, if_pos ⟨hp0, by omega⟩]
      congr 1
      exact decide_eq_decide.2 hperm.mem_iff
    refine ⟨ks, up (keysL lo rs), lo.length, rs.length, ks.length, decide (y ∈ ks), la, lc, ra, rc, ka, kc, h1, h2, h7, fun w1 h => h5.out.below h, rfl, hU, fun q hq => hperm.mem_iff.1 ((up_perm _).mem_iff.1 (getD_mem (by rw [hU]; exact hq) 0)), fun p hp => adj_rise hrise (by rw [hU]; exact hp), fun w1 h => ?_, fun w1 h => ?_, fun w1 h => khas_any ka kc ks y w1 (by omega) (h5.out.below h)⟩
    · have := has_any lo rs y la ra lc rc w1 hmay.sz (h3.out.below h) (h4.out.below h)
      rw [hhc] at this
      exact this
    · have := all_any lo rs la ra lc rc w1 hmay.sz (h3.out.below h) (h4.out.below h)
      rw [allL_ok hmay, sC_ok hmay] at this
      unfold AlPost at this
      rw [hU] at this
      exact this
  clear hst
  go_enter Try.func3, Try.ntmps3
  go_wp2_with (first | (go_at_call 8; refine hst2.mono ?_; rintro e w1 ⟨ks, U, m, n, kn, o, la, lc, ra, rc, ka, kc, rfl, hb1, hk100, HKs, HKl, HUl, HUm, HUr, HHas, HAll, HHk⟩; obtain ⟨hbn, hcn⟩ := Bc.arg w1 (.slice la m lc) (.slice ra n rc) 25; obtain ⟨_, c0, c1⟩ := id hcn; have hha := HHas.out _ hbn; have hB1 := hb1.trans (hbn.mono hb1.size)) | (go_at_call 9; refine (hpk _).mono ?_; rintro e w0 ⟨rfl, rfl⟩) | (go_at_call 10; refine hha.mono ?_; rintro e w2 ⟨rfl, hb2⟩; have hbn2 := hbn.trans (hb2.mono hbn.size); obtain ⟨_, d0, d1⟩ := hcn.later hb2; have hal := HAll.out _ hbn2) | (go_at_call 11; refine hal.mono ?_; rintro e w3 ⟨uo, uc, rfl, hb3, hu3⟩; have hbn3 := hbn2.trans (hb3.mono hbn2.size); have hhk := HHk.out _ hbn3) | (go_at_call 12; refine hhk.mono ?_; rintro e w4 ⟨rfl, rfl⟩))
  have hB3 := hb1.trans (hbn3.mono hb1.size)
  have HU3 : Hid (∀ w5, Below w4.heap.size w4 w5 → IntsV w5 (.slice uo kn uc) U) := fun w5 h => hu3.out.below h
  have HKs3 : Hid (∀ w5, Below w4.heap.size w4 w5 → ∀ z, z ∈ ks → Calls Try.prog 12 #[.slice ka kn kc, .int .i64 z] w5 fun e w2 => e = .returned (.bool true) ∧ w2 = w5) := fun w5 h5 z hz => by
    have := khas_any ka kc ks z w5 (by have := HKl.out; omega) (by rw [HKl.out]; exact HKs.out _ (hbn3.trans (h5.mono hbn3.size)))
    rw [HKl.out, decide_eq_true hz] at this
    exact this
  clear hu3 hst2 hha hal hhk HHas HAll HHk HKs
  go_loopw [13] (fun j wr => ∃ q : Nat, q ≤ kn ∧ j = .int .i64 q ∧ Below w4.heap.size w4 wr) (fun j _ => kn - (intOf j).toNat)
  case atStart => exact ⟨0, Nat.zero_le _, rfl, Below.refl _ _⟩
  case round =>
    obtain ⟨q, hq, rfl, hBr⟩ := hrel
    by_cases hqr : q < kn
    · obtain ⟨b2, off2, rfl, _, _, hat⟩ := (HU3.out wr hBr).at (i := q) (by rw [HUl.out]; exact hqr)
      have e1 := hat q (by rw [HUl.out]; exact hqr)
      have hmem := HUm.out q hqr
      have hhas := fun nn => HKs3.out (wr.drewN nn) (below_drewN hBr nn) (U.getD q 0) hmem
      have i1 : (q : Int) < (kn : Int) := by omega
      rcases Nat.eq_zero_or_pos q with h0 | h0
      · have i0 : ¬ (0 : Int) < (q : Int) := by omega
        have i0n : decide (0 < q) = false := decide_eq_false (by omega)
        have i0m : ¬ 0 < q := by omega
        clear hat hmem h0
        generalize U.getD q 0 = z at *
        go_wp2_with fail
        go_quiet (first | (go_at_call 12; exact Calls.quiet_of_same (hhas _)))
        go_wp2_with fail
        go_roundw
        case rel => exact ⟨q + 1, by omega, by go_num, below_drewN hBr _⟩
        case measure => simp [intOf]; omega
      · obtain ⟨p, hp⟩ : ∃ p, p + 1 = q := ⟨q - 1, by omega⟩
        have e2 := hat p (by rw [HUl.out]; omega)
        have hri := HUr.out p (by omega)
        rw [hp] at hri
        have i0 : (0 : Int) < (q : Int) := by omega
        have i0n : decide (0 < q) = true := decide_eq_true h0
        have i2 : (p : Int) < (kn : Int) := by omega
        have i4 : (q : Int) - 1 = (p : Int) := by omega
        have i5 : IntKind.i64.wrap ((q : Int) - 1) = (p : Int) := by rw [i4, IntWalk.i64_left]; exact IntWalk.wrap64_in _ (by omega)
        have i6 : wrap64 ((q : Int) - 1) = (p : Int) := by rw [i4]; exact IntWalk.wrap64_in _ (by omega)
        clear hat hmem hp i4
        generalize U.getD q 0 = z at *
        generalize U.getD p 0 = y2 at *
        have hnle : ¬ z ≤ y2 := by omega
        have hnld : decide (z ≤ y2) = false := decide_eq_false hnle
        go_wp2_with fail
        go_quiet (first | (go_at_call 12; exact Calls.quiet_of_same (hhas _)))
        go_wp2_with fail
        go_roundw
        case rel => exact ⟨q + 1, by omega, by go_num, below_drewN hBr _⟩
        case measure => simp [intOf]; omega
    · obtain rfl : q = kn := by omega
      go_wp2_with fail
      go_ret
      exact ⟨rfl, hB3.trans (hBr.mono hB3.size)⟩

set_option maxRecDepth 20000 in
theorem storeOnce_contract (H : Type) (enc : TypeId × Value → H) (W : World) (base : Nat) (args : Array Value) (ds gs : List (DataW H)) (before : List MemPlace)
    (hval : ∀ (j : Nat) t v, Try.f3.params[j]? = some t → args[j]? = some v → Value.okWide Try.prog W .any base t v)
    (hW : DataW.Whole enc Try.prog Try.f3.params.toList Rows.storeOnceSpec.vars false W args.toList ds gs before)
    (hsz0 : (DataW.weightsEach Try.prog (Try.f3.params.toList ++ (OpenSpec.ofChange Rows.storeOnceSpec).bare.plain.varTypes Try.prog) (ds ++ gs)).all (· ≤ reachBytes) = true)
    (_hL : laidMetH Try.prog Rows.storeOnceRow.laid W) :
    Calls Try.prog 3 args W fun e W' => ∃ v, e = .returned v ∧ Rows.storeOnceSpec.post enc Try.prog Try.f3 false true false false W args v W' := by
  have hW' := hW
  obtain ⟨p, q, hA0, hV, rfl, hfz, hnd⟩ := hW
  have hA : DataW.TrodAll enc Try.prog W 0 (fun _ => true) true Try.f3.params.toList args.toList ds p := hA0
  rw [Try.params3] at hA hval
  obtain ⟨v0, vs0, d0, ds0, p0, q0, hargs, rfl, rfl, h0, r0⟩ := trodAll_cons hA
  obtain ⟨v1, vs1, d1, ds1, p1, q1, rfl, rfl, rfl, h1, r1⟩ := trodAll_cons r0
  obtain ⟨rfl, rfl, rfl⟩ := trodAll_nil r1
  obtain rfl : args = #[v0, v1] := by cases args; simp_all
  obtain ⟨rfl, rfl⟩ := trodVars_none hV
  have hsz : (DataW.weightsEach Try.prog [22, 3] [d0, d1]).all (· ≤ reachBytes) = true := hsz0
  obtain ⟨l, hV⟩ := open_raws (hval 0 22 v0 rfl rfl) h0 hsz (j := 0) rfl rfl
  obtain ⟨x, rfl, rfl, rfl, wf1⟩ := open_int Try.underlying3 (hval 1 3 v1 rfl rfl) h1
  refine (storeOnce_walk v0 l x W (bounds_i64 wf1) hV).mono fun e W' ⟨he, hb⟩ => ⟨_, he, ?_⟩
  refine law_post (fun t ht => ?_) rfl (by kernel_rfl) hW' rfl rfl rfl hb
  rw [Try.params3] at ht
  simp only [List.mem_cons, List.not_mem_nil, or_false] at ht
  rcases ht with rfl | rfl
  · exact ⟨by kernel_rfl, of_decide_eq_true (by kernel_rfl)⟩
  · exact ⟨by kernel_rfl, of_decide_eq_true (by kernel_rfl)⟩

/-- A WORLD FOR THE WITNESS: the settled one. -/
noncomputable def storeOnceWorld (os : Os) : World := World.holding Try.prog os ⟨#[], #[], []⟩
set_option maxRecDepth 20000 in
theorem storeOnce_met (os : Os) : laidMet Try.prog Rows.storeOnceRow.laid ((storeOnceWorld os).forCall (fun _ _ => 0) ⟨#[], #[.slice none 0 0, .int .i64 0], []⟩).memory :=
  laidMet_of_run' 8 (by kernel_rfl) (by kernel_rfl)
set_option maxRecDepth 20000 in
theorem storeOnce_reads (os : Os) {H : Type} (enc : TypeId × Value → H) : ∃ places, DataW.whole enc Try.prog ((storeOnceWorld os).forCall (fun _ _ => 0) ⟨#[], #[.slice none 0 0, .int .i64 0], []⟩).memory Try.f3.params.toList Rows.storeOnceSpec.vars false #[Value.slice none 0 0, .int .i64 0].toList 8 = some ([.nil, .lit (.int .i64 0)], [], places) :=
  ⟨[], by kernel_rfl⟩

set_option maxRecDepth 100000 in
theorem storeOnce_lifted (os : Os) (started : os.Started) (H : Type) (enc : TypeId × Value → H) (F : Stop.Interp) :
    ReturnsInHanded {} Try.checked os 3 .any ((OpenSpec.ofChange Rows.storeOnceSpec).preRow enc Try.prog Try.f3 Rows.storeOnceRow.domain false Rows.storeOnceRow.laid) (((OpenSpec.ofChange Rows.storeOnceSpec).at F).post enc Try.prog Try.f3 false true false false) := by
  obtain ⟨places, hx⟩ := storeOnce_reads os enc
  refine returnsInHanded_of_row (C := Try.checked) (s := OpenSpec.ofChange Rows.storeOnceSpec) own started (by kernel_rfl) Try.func3
    (witness_row_at (enc := enc) (C := Try.checked) false (storeOnceWorld os) #[.slice none 0 0, .int .i64 0] rfl (by kernel_rfl) (by kernel_rfl) (by kernel_rfl)
      (OpenSpec.preRow_of_cond 8 hx (by kernel_rfl) (fun k hk => by cases hk) (by kernel_rfl) (storeOnce_met os))) ?_
  intro W base args ds gs before hval hW _ _ hsz hL _ _
  exact storeOnce_contract H enc W base args ds gs before hval hW hsz hL

set_option maxRecDepth 20000 in
theorem storeOnce_said : Rows.StoreOnceSaid :=
  OpenClaim.holds_of_cond 3 Try.f3 rfl rfl rfl rfl rfl rfl rfl ⟨rfl, rfl, rfl, rfl, rfl⟩ rfl rfl rfl rfl rfl (by kernel_rfl) Try.func3 (by kernel_rfl)
    (of_decide_eq_true (by kernel_rfl)) (by unfold Func.isWrapper; first | (rw [if_pos (by decide +kernel)]; kernel_rfl) | (rw [if_neg (by decide +kernel)]; exact ⟨rfl, rfl⟩))
    (fun os started H enc _ F => by rw [OpenClaim.pre_eq_preRow]; exact storeOnce_lifted os started H enc F)

#print axioms storeOnce_said
end Go.Proofs.Ytncfkpfbjenpjaa
