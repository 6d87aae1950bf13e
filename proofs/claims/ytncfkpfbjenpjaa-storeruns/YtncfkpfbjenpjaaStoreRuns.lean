/-
  Proved: foretellkeep.StoreRuns answers true at every list of numbers (the runs of a store that grew grow shorter from the first to the last one; as many keys lie loose as do not fill a run). No condition.
-/
import Derived.Test.YtncfkpfbjenpjaaUMem
import Derived.Test.YtncfkpfbjenpjaaUStock
namespace Go.Proofs.Ytncfkpfbjenpjaa
open Go.ChangeShapes Go.WideShapes Go.ChangeAt Go.RowKit Go.Deep

set_option maxHeartbeats 1600000 in
set_option maxRecDepth 20000 in
theorem storeRuns_walk (v : Value) (l : List Int) (w : World) (hV : IntsR w v l) :
    Calls Try.prog 5 #[v] w fun e w' => e = .returned (.bool true) ∧ Below w.heap.size w w' := by
  have hst := stocked_any v l w hV
  obtain ⟨ao, cap, rfl⟩ := hV.v.shape
  generalize l.length = ln at *
  clear hV
  unfold StoPost at hst
  go_enter Try.func5, Try.ntmps5
  go_wp2_with (first | (go_at_call 8; refine hst.mono ?_; rintro e w1 ⟨lo, rs, ks, la, lc, ra, rc, ka, kc, rfl, hb1, hlo, hrs, hks, hS, hk1, hkr, hne⟩; obtain ⟨hbn, hcn⟩ := Bc.arg w1 (.slice la lo.length lc) (.slice ra rs.length rc) 25; obtain ⟨_, c0, c1⟩ := id hcn))
  obtain ⟨n, hn⟩ : ∃ n, rs.length = n := ⟨_, rfl⟩
  have HN : Hid (rs.length = n) := hn
  have hB1 := hb1.trans (hbn.mono hb1.size)
  have HR : Hid (LisV (w1.alloc (.cells #[.slice la lo.length lc, .slice ra rs.length rc] 25)) (.slice ra rs.length rc) rs) := hrs.out.below hbn
  have hr20 := hS.out.may.size.runs
  have HMo : Hid (∀ k, k < rs.length → (rs.getD k []).length % 8 = 0 ∧ (rs.getD k []).length ≤ 20000) := fun k h => ⟨hS.out.each _ (getD_mem h []), by have := mem_flat_le (getD_mem h []); have := hS.out.may.size.many; omega⟩
  have HDn : Hid (∀ k, k + 1 < rs.length → (rs.getD (k + 1) []).length < (rs.getD k []).length) := hS.out.down
  have hcnt := hS.out.count
  have hlow := hS.out.low
  have hm8 := hS.out.may.size.loose
  have HFl : Hid (∀ k, k < rs.length → (rs.take (k + 1)).flatten.length = (rs.take k).flatten.length + (rs.getD k []).length) := fun k h => flat_take h
  have HTot : Hid (∀ k, (rs.take k).flatten.length ≤ 20000) := fun k => by have := flat_take_le rs k; have := hS.out.may.size.many; omega
  have HAll : Hid (rs.take rs.length = rs) := List.take_length
  rw [hn] at HR c0 c1 hr20 HAll ⊢
  clear hn hlo hrs hks hkr hne hcn hst
  obtain ⟨W1, hW1⟩ : ∃ W1, W1 = w1.alloc (.cells #[.slice la lo.length lc, .slice ra n rc] 25) := ⟨_, rfl⟩
  have hB1' : Below w.heap.size w W1 := by have h := HN.out; rw [hW1, ← h]; exact hB1
  rw [← hW1] at HR c0 c1 ⊢
  clear hW1 hB1 hbn hb1
  generalize lo.length = m at *
  obtain ⟨kn, hkn⟩ : ∃ kn, ks.length = kn := ⟨_, rfl⟩
  have HC : Hid (m + rs.flatten.length = kn) := by rw [← hkn]; exact hcnt
  rw [hkn] at hlow hk1 ⊢
  have hlo2 : (kn : Int).tmod 8 = (m : Int) := by rw [Int.tmod_eq_emod_of_nonneg (by omega)]; omega
  clear hcnt hkn hS hlow
  go_loopw [6, 7] (fun s i wr => ∃ k : Nat, k ≤ n ∧ i = .int .i64 k ∧ s = .int .i64 ((m + (rs.take k).flatten.length : Nat) : Int) ∧ ∃ q, wr = W1.drewN q) (fun _ i _ => n - (intOf i).toNat)
  case atStart => exact ⟨0, Nat.zero_le _, rfl, rfl, 0, rfl⟩
  case round =>
    obtain ⟨k, hk, rfl, rfl, q, rfl⟩ := hrel
    by_cases hlt : k < n
    · have hlt2 : k < rs.length := by rw [HN.out]; exact hlt
      obtain ⟨b, off, rfl, hb, u, d1, hu⟩ := HR.out.at hlt2
      obtain ⟨uo, uc, rfl⟩ := hu.shape
      obtain ⟨hm1, hm2⟩ := HMo.out k hlt2
      have HF : Hid (m + (rs.take (k + 1)).flatten.length = m + (rs.take k).flatten.length + (rs.getD k []).length) := by show _ = _; rw [HFl.out k hlt2]; omega
      have hs20 : m + (rs.take k).flatten.length ≤ 20000 + m := by have := HTot.out k; omega
      have i1 : (k : Int) < (n : Int) := by omega
      rcases Nat.eq_zero_or_pos k with h0 | h0
      · clear hu
        generalize (rs.getD k []).length = rn at *
        generalize m + (rs.take k).flatten.length = sm at *
        have hmod : (rn : Int).tmod 8 = 0 := by rw [Int.tmod_eq_emod_of_nonneg (by omega)]; omega
        have i0 : ¬ (0 : Int) < (k : Int) := by omega
        have i0n : decide (0 < k) = false := decide_eq_false (by omega)
        have i0m : ¬ 0 < k := by omega
        clear hm1 h0
        go_wp2_with fail
        go_quiet (fail)
        go_wp2_with fail
        go_roundw
        case rel => exact ⟨k + 1, by omega, by go_num, by rw [HF.out]; simp, _, rfl⟩
        case measure => simp [intOf]; omega
      · obtain ⟨p, hp⟩ : ∃ p, p + 1 = k := ⟨k - 1, by omega⟩
        obtain ⟨b', off', e9, hb', u', d2, hu'⟩ := HR.out.at (i := p) (by rw [HN.out]; omega)
        obtain ⟨rfl, rfl⟩ : b = b' ∧ off = off' := by simpa using e9
        obtain ⟨vo, vc, rfl⟩ := hu'.shape
        have hdn := HDn.out p (by rw [hp]; exact hlt2)
        rw [hp] at hdn
        have hm3 := (HMo.out p (by rw [HN.out]; omega)).2
        clear hu hu'
        generalize (rs.getD k []).length = rn at *
        generalize (rs.getD p []).length = pn at *
        generalize m + (rs.take k).flatten.length = sm at *
        have hmod : (rn : Int).tmod 8 = 0 := by rw [Int.tmod_eq_emod_of_nonneg (by omega)]; omega
        have i0 : (0 : Int) < (k : Int) := by omega
        have i0n : decide (0 < k) = true := decide_eq_true h0
        have i2 : (p : Int) < (n : Int) := by omega
        have i4 : (k : Int) - 1 = (p : Int) := by omega
        have i5 : IntKind.i64.wrap ((k : Int) - 1) = (p : Int) := by rw [i4, IntWalk.i64_left]; exact IntWalk.wrap64_in _ (by omega)
        have i6 : wrap64 ((k : Int) - 1) = (p : Int) := by rw [i4]; exact IntWalk.wrap64_in _ (by omega)
        have hdi : ¬ (pn : Int) ≤ (rn : Int) := by omega
        have hdd : decide (pn ≤ rn) = false := decide_eq_false (by omega)
        clear hm1 hp i4
        go_wp2_with fail
        go_quiet (fail)
        go_wp2_with fail
        go_roundw
        case rel => exact ⟨k + 1, by omega, by go_num, by rw [HF.out]; simp, _, rfl⟩
        case measure => simp [intOf]; omega
    · obtain rfl : k = n := by omega
      rw [HAll.out, HC.out]
      go_wp2_with fail
      all_goals go_ret
      all_goals exact ⟨by first | rfl | simp, below_drewN hB1' _⟩

set_option maxRecDepth 20000 in
theorem storeRuns_contract (H : Type) (enc : TypeId × Value → H) (W : World) (base : Nat) (args : Array Value) (ds gs : List (DataW H)) (before : List MemPlace)
    (hval : ∀ (j : Nat) t v, Try.f5.params[j]? = some t → args[j]? = some v → Value.okWide Try.prog W .any base t v)
    (hW : DataW.Whole enc Try.prog Try.f5.params.toList Rows.storeRunsSpec.vars false W args.toList ds gs before)
    (hsz0 : (DataW.weightsEach Try.prog (Try.f5.params.toList ++ (OpenSpec.ofChange Rows.storeRunsSpec).bare.plain.varTypes Try.prog) (ds ++ gs)).all (· ≤ reachBytes) = true)
    (_hL : laidMetH Try.prog Rows.storeRunsRow.laid W) :
    Calls Try.prog 5 args W fun e W' => ∃ v, e = .returned v ∧ Rows.storeRunsSpec.post enc Try.prog Try.f5 false true false false W args v W' := by
  have hW' := hW
  obtain ⟨p, q, hA0, hV, rfl, hfz, hnd⟩ := hW
  have hA : DataW.TrodAll enc Try.prog W 0 (fun _ => true) true Try.f5.params.toList args.toList ds p := hA0
  rw [Try.params5] at hA hval
  obtain ⟨v0, vs0, d0, ds0, p0, q0, hargs, rfl, rfl, h0, r0⟩ := trodAll_cons hA
  obtain ⟨rfl, rfl, rfl⟩ := trodAll_nil r0
  obtain rfl : args = #[v0] := by cases args; simp_all
  obtain ⟨rfl, rfl⟩ := trodVars_none hV
  have hsz : (DataW.weightsEach Try.prog [22] [d0]).all (· ≤ reachBytes) = true := hsz0
  obtain ⟨l, hV⟩ := open_raws (hval 0 22 v0 rfl rfl) h0 hsz (j := 0) rfl rfl
  refine (storeRuns_walk v0 l W hV).mono fun e W' ⟨he, hb⟩ => ⟨_, he, ?_⟩
  refine law_post (fun t ht => ?_) rfl (by kernel_rfl) hW' rfl rfl rfl hb
  rw [Try.params5] at ht
  obtain rfl : t = 22 := by simpa using ht
  exact ⟨by kernel_rfl, of_decide_eq_true (by kernel_rfl)⟩

/-- A WORLD FOR THE WITNESS: the settled one. -/
noncomputable def storeRunsWorld (os : Os) : World := World.holding Try.prog os ⟨#[], #[], []⟩
set_option maxRecDepth 20000 in
theorem storeRuns_met (os : Os) : laidMet Try.prog Rows.storeRunsRow.laid ((storeRunsWorld os).forCall (fun _ _ => 0) ⟨#[], #[.slice none 0 0], []⟩).memory :=
  laidMet_of_run' 8 (by kernel_rfl) (by kernel_rfl)
set_option maxRecDepth 20000 in
theorem storeRuns_reads (os : Os) {H : Type} (enc : TypeId × Value → H) : ∃ places, DataW.whole enc Try.prog ((storeRunsWorld os).forCall (fun _ _ => 0) ⟨#[], #[.slice none 0 0], []⟩).memory Try.f5.params.toList Rows.storeRunsSpec.vars false #[Value.slice none 0 0].toList 8 = some ([.nil], [], places) :=
  ⟨[], by kernel_rfl⟩

set_option maxRecDepth 100000 in
theorem storeRuns_lifted (os : Os) (started : os.Started) (H : Type) (enc : TypeId × Value → H) (F : Stop.Interp) :
    ReturnsInHanded {} Try.checked os 5 .any ((OpenSpec.ofChange Rows.storeRunsSpec).preRow enc Try.prog Try.f5 Rows.storeRunsRow.domain false Rows.storeRunsRow.laid) (((OpenSpec.ofChange Rows.storeRunsSpec).at F).post enc Try.prog Try.f5 false true false false) := by
  obtain ⟨places, hx⟩ := storeRuns_reads os enc
  refine returnsInHanded_of_row (C := Try.checked) (s := OpenSpec.ofChange Rows.storeRunsSpec) own started (by kernel_rfl) Try.func5
    (witness_row_at (enc := enc) (C := Try.checked) false (storeRunsWorld os) #[.slice none 0 0] rfl (by kernel_rfl) (by kernel_rfl) (by kernel_rfl)
      (OpenSpec.preRow_of_cond 8 hx (by kernel_rfl) (fun k hk => by cases hk) (by kernel_rfl) (storeRuns_met os))) ?_
  intro W base args ds gs before hval hW _ _ hsz hL _ _
  exact storeRuns_contract H enc W base args ds gs before hval hW hsz hL

set_option maxRecDepth 20000 in
theorem storeRuns_said : Rows.StoreRunsSaid :=
  OpenClaim.holds_of_cond 5 Try.f5 rfl rfl rfl rfl rfl rfl rfl ⟨rfl, rfl, rfl, rfl, rfl⟩ rfl rfl rfl rfl rfl (by kernel_rfl) Try.func5 (by kernel_rfl)
    (of_decide_eq_true (by kernel_rfl)) (by unfold Func.isWrapper; first | (rw [if_pos (by decide +kernel)]; kernel_rfl) | (rw [if_neg (by decide +kernel)]; exact ⟨rfl, rfl⟩))
    (fun os started H enc _ F => by rw [OpenClaim.pre_eq_preRow]; exact storeRuns_lifted os started H enc F)

#print axioms storeRuns_said
end Go.Proofs.Ytncfkpfbjenpjaa
