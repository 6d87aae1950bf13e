/-
  Proved: foretellkeep.EndsNest answers true at every list of raw numbers (of a term that is grown of them, what begins inside ends inside), given that the table polish.partCounts reads as its initialiser lays it, which the card ties to the program's text. No other condition.
-/
import Derived.Test.YtkdbblchkkemgaaDoorCards
import Derived.Test.YtkdbblchkkemgaaDoorTie
import Derived.Test.YtkdbblchkkemgaaDoorGrown3
import Derived.Test.YtkdbblchkkemgaaDoorSplit
namespace Go.Proofs.YtkdbblchkkemgaaDoor
open Go.ChangeShapes Go.WideShapes Go.ChangeAt Go.RowKit Go.Deep
open Terms

/-- what begins behind a place and ahead of its end ends no later. -/
theorem nest {ks : List Int} {n i : Nat} (h : cnt ks 1 = .ok n) (hi : i < n) : i < endAt ks i ∧ endAt ks i ≤ n ∧ ∀ k, i < k → k < endAt ks i → endAt ks k ≤ endAt ks i := by
  obtain ⟨m, hm, h1, hle⟩ := cnt_in ks 1 n i h hi
  have e := endAt_ok hm
  refine ⟨by omega, by omega, fun k hk1 hk2 => ?_⟩
  obtain ⟨m', hm', _, hle'⟩ := cnt_in _ 1 m (k - i) hm (by omega)
  rw [List.drop_drop, show i + (k - i) = k by omega] at hm'
  have e' := endAt_ok hm'
  omega

set_option maxHeartbeats 1000000 in
theorem endsNest_walk (rawv : Value) (rs : List (Int × Int)) (w : World) (hB : 0 < w.heap.size) (hT : TabAt w) (hR : Raws w w.heap.size rawv rs) :
    Calls Tryd.prog 7 #[rawv] w fun e w' => e = .returned (.bool true) ∧ Below w.heap.size w w' := by
  have htr := truthFn_any rawv rs 3 w (by omega) (by omega) hR
  have HT : Hid (TabAt w) := hT
  clear hR hT
  go_enter Tryd.func7, Tryd.ntmps7
  go_wp2_with (go_at_call 21; refine htr.mono ?_; rintro e w1 ⟨c, t, rfl, ht, hlen, ho1, hb1⟩)
  have hv1 := opsV_of_owns ho1
  have hends := ends_any c _ w1 (Nat.lt_of_lt_of_le hB hb1.size) (HT.out.below hb1 hB) hv1.kinds
  have hz := ht.code (by omega)
  have HO : Hid (cnt (t.map Prod.fst) 1 = .ok t.length) := ht.one
  have hpos := (cnt_le _ _ _ HO.out).1
  obtain ⟨ca, cc, rfl⟩ := owns_slice ho1
  generalize hks : t.map Prod.fst = ks at *
  have hlk : ks.length = t.length := by rw [← hks, List.length_map]
  have hends2 : Calls Tryd.prog 12 #[.slice ca t.length cc] w1 fun e w' => Below w1.heap.size w1 w' ∧ ∃ B, w1.heap.size ≤ B ∧ e = .returned (.tuple #[.slice (some ⟨B, 0, none⟩) t.length t.length, .int .i64 0]) ∧ w'.rowIs B 3 t.length (fun q => .int .i64 (endAt ks q)) :=
    hends.mono fun e w' ⟨h1, _, h3⟩ => ⟨h1, by have := h3 hz; rwa [hlk] at this⟩
  clear hends hv1 ho1 htr hz hks hlk ht
  generalize t.length = n at *
  go_wp2_with (go_at_call 12; refine hends2.mono ?_; rintro e w2 ⟨hb2, B, hBw, rfl, hrow⟩; have hc0 := hrow.cell (i := 0) (by omega); have he0 : endAt ks 0 = n := (by have := endAt_ok (ks := ks) (q := 0) (m := n) (by rw [List.drop_zero]; exact HO.out); omega); rw [he0] at hc0)
  have HRow : Hid (w2.rowIs B 3 n (fun q => .int .i64 (endAt ks q))) := hrow
  have HB : Hid (Below w.heap.size w w2) := hb1.trans (hb2.mono hb1.size)
  clear hrow hends2 he0
  go_loopw [6] (fun i wr => ∃ k : Nat, k ≤ n ∧ i = .int .i64 k ∧ ∃ q, wr = w2.drewN q) (fun i _ => n - (intOf i).toNat)
  case atStart => exact ⟨0, Nat.zero_le _, rfl, 0, rfl⟩
  case round =>
    obtain ⟨k, hk, rfl, q, rfl⟩ := hrel
    by_cases hlt : k < n
    · obtain ⟨hn1, hn2, hn3⟩ := nest HO.out hlt
      have hck := HRow.out.cell hlt
      have HN3 : Hid (∀ j, k < j → j < endAt ks k → endAt ks j ≤ endAt ks k) := hn3
      obtain ⟨ek, hek⟩ : ∃ ek, ek = endAt ks k := ⟨_, rfl⟩
      rw [← hek] at hck hn1 hn2 HN3
      clear hn3 hek
      go_wp2_with fail
      go_loopw [7] (fun j wr => ∃ i : Nat, k < i ∧ i ≤ ek ∧ j = .int .i64 i ∧ ∃ q, wr = w2.drewN q) (fun j _ => ek - (intOf j).toNat)
      case atStart => exact ⟨k + 1, by omega, by omega, by go_num, q, rfl⟩
      case round =>
        obtain ⟨i, hi1, hi2, rfl, q', rfl⟩ := hrel
        by_cases hlt2 : i < ek
        · have hin : i < n := by omega
          have hci := HRow.out.cell hin
          have hle := HN3.out i hi1 hlt2
          generalize endAt ks i = ei at hci hle
          go_wp2_with fail
          go_quiet (fail)
          go_wp2_with fail
          go_roundw
          case rel => exact ⟨i + 1, by omega, by omega, by go_num, _, rfl⟩
          case measure => simp [intOf]; omega
        · go_wp2_with fail
          go_roundw
          case rel => exact ⟨k + 1, by omega, by go_num, _, rfl⟩
          case measure => simp [intOf]; omega
    · go_wp2_with fail
      go_ret
      exact ⟨rfl, below_drewN HB.out q⟩

theorem endsNest_contract (H : Type) (enc : TypeId × Value → H) (W : World) (base : Nat) (args : Array Value) (ds gs : List (DataW H)) (before : List MemPlace)
    (hval : ∀ (j : Nat) t v, Tryd.f7.params[j]? = some t → args[j]? = some v → Value.okWide Tryd.prog W .any base t v)
    (hW : DataW.Whole enc Tryd.prog Tryd.f7.params.toList Rows.endsNestSpec.vars false W args.toList ds gs before)
    (hsz0 : (DataW.weightsEach Tryd.prog (Tryd.f7.params.toList ++ (OpenSpec.ofChange Rows.endsNestSpec).bare.plain.varTypes Tryd.prog) (ds ++ gs)).all (· ≤ reachBytes) = true)
    (hL : laidMetH Tryd.prog Rows.endsNestRow.laid W) :
    Calls Tryd.prog 7 args W fun e W' => ∃ v, e = .returned v ∧ Rows.endsNestSpec.post enc Tryd.prog Tryd.f7 false true false false W args v W' := by
  have hW' := hW
  obtain ⟨p, q, hA0, hV, rfl, hfz, hnd⟩ := hW
  have hA : DataW.TrodAll enc Tryd.prog W 0 (fun _ => true) true Tryd.f7.params.toList args.toList ds p := hA0
  rw [Tryd.params7] at hA hval
  obtain ⟨v0, vs0, d0, ds0, p0, q0, hargs, rfl, rfl, h0, r0⟩ := trodAll_cons hA
  obtain ⟨rfl, rfl, rfl⟩ := trodAll_nil r0
  obtain rfl : args = #[v0] := by cases args; simp_all
  obtain ⟨rfl, rfl⟩ := trodVars_none hV
  have hsz : (DataW.weightsEach Tryd.prog [39] [d0]).all (· ≤ reachBytes) = true := hsz0
  obtain ⟨rs, hrs⟩ := open_raws (hval 0 39 v0 rfl rfl) h0 hsz (j := 0) rfl rfl
  have hT := tabAt hL
  refine (endsNest_walk v0 rs W (tab_size hT) hT hrs).mono fun e W' ⟨he, hb⟩ => ⟨_, he, ?_⟩
  refine law_post (fun t ht => ?_) rfl (by kernel_rfl) hW' rfl rfl rfl hb
  rw [Tryd.params7] at ht
  obtain rfl : t = 39 := by simpa using ht
  exact ⟨by kernel_rfl, of_decide_eq_true (by kernel_rfl)⟩

/-- A WORLD FOR THE WITNESS: the settled one, the table (block 0) holding what its initialiser lays. -/
noncomputable def endsNestWorld (os : Os) : World :=
  { World.holding Tryd.prog os ⟨#[], #[], []⟩ with heap := (World.holding Tryd.prog os ⟨#[], #[], []⟩).heap.modify 0 fun
      | .cells _ t frozen => .cells #[.int .i64 0, .int .i64 0, .int .i64 0, .int .i64 2, .int .i64 2, .int .i64 2, .int .i64 2, .int .i64 2, .int .i64 2, .int .i64 2, .int .i64 1, .int .i64 0, .int .i64 0, .int .i64 0, .int .i64 1, .int .i64 2, .int .i64 2, .int .i64 1, .int .i64 1] t frozen
      | o => o }
theorem endsNest_met (os : Os) : laidMet Tryd.prog Rows.endsNestRow.laid ((endsNestWorld os).forCall (fun _ _ => 0) ⟨#[], #[.slice none 0 0], []⟩).memory :=
  laidMet_of_run' 8 (by kernel_rfl) (by kernel_rfl)
theorem endsNest_reads (os : Os) {H : Type} (enc : TypeId × Value → H) : ∃ places, DataW.whole enc Tryd.prog ((endsNestWorld os).forCall (fun _ _ => 0) ⟨#[], #[.slice none 0 0], []⟩).memory Tryd.f7.params.toList Rows.endsNestSpec.vars false #[Value.slice none 0 0].toList 8 = some ([.nil], [], places) :=
  ⟨[], by kernel_rfl⟩

set_option maxRecDepth 100000 in
theorem endsNest_lifted (os : Os) (started : os.Started) (H : Type) (enc : TypeId × Value → H) (F : Stop.Interp) :
    ReturnsInHanded {} Tryd.checked os 7 .any ((OpenSpec.ofChange Rows.endsNestSpec).preRow enc Tryd.prog Tryd.f7 Rows.endsNestRow.domain false Rows.endsNestRow.laid) (((OpenSpec.ofChange Rows.endsNestSpec).at F).post enc Tryd.prog Tryd.f7 false true false false) := by
  obtain ⟨places, hx⟩ := endsNest_reads os enc
  refine returnsInHanded_of_row (C := Tryd.checked) (s := OpenSpec.ofChange Rows.endsNestSpec) own started (by kernel_rfl) Tryd.func7
    (witness_row_at (enc := enc) (C := Tryd.checked) false (endsNestWorld os) #[.slice none 0 0] rfl (by kernel_rfl) (by kernel_rfl) (by kernel_rfl)
      (OpenSpec.preRow_of_cond 8 hx (by kernel_rfl) (fun k hk => by cases hk) (by kernel_rfl) (endsNest_met os))) ?_
  intro W base args ds gs before hval hW _ _ hsz hL _ _
  exact endsNest_contract H enc W base args ds gs before hval hW hsz hL

theorem endsNest_said : Rows.EndsNestSaid :=
  OpenClaim.holds_of_cond 7 Tryd.f7 rfl rfl rfl rfl rfl rfl rfl ⟨rfl, rfl, rfl, rfl, rfl⟩ rfl rfl rfl rfl rfl (by kernel_rfl) Tryd.func7 (by kernel_rfl)
    (of_decide_eq_true (by kernel_rfl)) (by unfold Func.isWrapper; first | (rw [if_pos (by decide +kernel)]; kernel_rfl) | (rw [if_neg (by decide +kernel)]; exact ⟨rfl, rfl⟩))
    (fun os started H enc _ F => by rw [OpenClaim.pre_eq_preRow]; exact endsNest_lifted os started H enc F)

theorem endsNest_plain (f : FuncId) (fn : Func) (hf : Tryd.pinned.checked.prog.funcNamed "foretell/foretellkeep.EndsNest" = some f) (hfn : Tryd.pinned.checked.prog.funcs[f]? = some fn) :
    true = Tryd.pinned.checked.prog.looks [] ∧ ∀ (j : Nat) t, fn.params[j]? = some t → Tryd.pinned.checked.prog.wantsStandIn t = false := by
  obtain rfl : f = 7 := Option.some.inj ((show Tryd.prog.funcNamed "foretell/foretellkeep.EndsNest" = some 7 by kernel_rfl).symm.trans hf) |>.symm
  obtain rfl : fn = Tryd.f7 := (Option.some.inj (Tryd.func7.symm.trans hfn)).symm
  refine ⟨by kernel_rfl, fun j t ht => ?_⟩
  rw [Tryd.params7] at ht
  have ht' := Array.mem_of_getElem? ht
  simp only [List.mem_toArray, List.mem_cons, List.not_mem_nil, or_false] at ht'
  subst ht'
  exact (show Tryd.prog.wantsStandIn 39 = false by kernel_rfl)

/-- THE CARD. -/
theorem endsNest_card : Rows.EndsNestCardSaid :=
  Claim7.holds_tied_plain_at .later [] _ _ _ _ endsNest_said (fun _ h => by cases h) (by kernel_rfl) (fun _ h => by cases h) endsNest_row_tie rfl ⟨rfl, rfl⟩ (by kernel_rfl) rfl endsNest_plain (by kernel_rfl)
#print axioms endsNest_card
end Go.Proofs.YtkdbblchkkemgaaDoor
