/-
  Proved: foretellkeep.PolishOne answers true at every list of raw numbers and every int (a term that is grown of them is none when it is cut, nor with an op behind it), given that the table polish.partCounts reads as its initialiser lays it, which the card ties to the program's text. No other condition.
-/
import Derived.Test.YtkdbblchkkemgabDoorCards
import Derived.Test.YtkdbblchkkemgabDoorTie
import Derived.Test.YtkdbblchkkemgabDoorGrown3
import Derived.Test.YtkdbblchkkemgabDoorEndsV
namespace Go.Proofs.YtkdbblchkkemgabDoor
open Go.ChangeShapes Go.WideShapes Go.ChangeAt Go.RowKit Go.Deep
open Terms

/-- what is cut off too early is too short. -/
theorem cnt_cut (l : List Int) : ∀ (w m r : Nat), cnt l w = .ok m → r < m → cnt (l.take r) w = .no 4 := by
  induction l with
  | nil => intro w m r h hr; have := (cnt_le _ _ _ h).2; simp at this; omega
  | cons k r' ih =>
    intro w m r h hr
    cases w with
    | zero => rw [cnt_zero] at h; simp at h; omega
    | succ w =>
      cases r with
      | zero => rfl
      | succ r =>
        rw [cnt_cons] at h
        split at h
        · rename_i hk
          cases hc : cnt r' (w + pn k) with
          | no e => rw [hc] at h; simp [R.up] at h
          | ok m' =>
            rw [hc] at h
            simp only [R.up, R.ok.injEq] at h
            rw [List.take_succ_cons, cnt_cons, if_pos hk, ih _ m' r hc (by omega)]
            rfl
        · simp at h

theorem code_cut {ks : List Int} {n r : Nat} (h60 : ks.length ≤ 60) (h : cnt ks 1 = .ok n) (hr : r < n) : endsCode (ks.take r) = 4 := by
  unfold endsCode
  rw [if_neg (by simp; omega), cnt_cut _ _ _ _ h hr]
theorem code_more {t : List (Int × Int)} (ht : TruT 3 3 t) (h60 : t.length + 1 ≤ 60) : endsCode ((t ++ [(11, 0)]).map Prod.fst) = 3 := by
  have h := ht.count [11] 0
  rw [cnt_zero] at h
  unfold endsCode
  rw [if_neg (by simp; omega), List.map_append, show ([((11 : Int), (0 : Int))].map Prod.fst) = [11] from rfl, h]
  simp [R.up]

set_option maxHeartbeats 400000 in
theorem polishOne_walk (rawv : Value) (rs : List (Int × Int)) (cut : Int) (w : World) (hB : 0 < w.heap.size) (hT : TabAt w) (hc : I64 cut) (hR : Raws w w.heap.size rawv rs) :
    Calls Tryd.prog 3 #[rawv, .int .i64 cut] w fun e w' => e = .returned (.bool true) ∧ Below w.heap.size w w' := by
  have htr := truthFn_any rawv rs 3 w (by omega) (by omega) hR
  have HT : Hid (TabAt w) := hT
  clear hR hT
  obtain ⟨i0, hi, hz0, hz1, hz2⟩ := info_parts infoOp
  go_enter Tryd.func3, Tryd.ntmps3
  go_wp2_with (go_at_call 5; refine htr.mono ?_; rintro e w1 ⟨c, t, rfl, ht, hlen, ho1, hb1⟩; obtain ⟨n, hn⟩ : ∃ n, n = t.length := ⟨_, rfl⟩; rw [← hn] at ho1; have HN : Hid (n = t.length) := hn; clear hn; obtain ⟨ca0, cc0, rfl⟩ := owns_slice ho1)
  have hn := HN.out
  rw [hn] at ho1
  have hv1 := opsV_of_owns ho1
  have hone := ht.one
  have hpos := (cnt_le _ _ _ hone).1
  have hne : t ≠ [] := by intro h; subst h; simp at hpos
  have HV : Hid (OpsV w1 (.slice ca0 t.length cc0) t) := hv1
  obtain ⟨ca, cc, hsl, hcc, hat⟩ := hv1
  simp only [Value.slice.injEq] at hsl
  obtain ⟨rfl, _, rfl⟩ := hsl
  obtain ⟨gb, goff, rfl, hgl, hat⟩ := hat hne
  have hcap := hcc.1
  have HA : Hid (OpsAt w1 gb goff t) := hat
  have HTR : Hid (TruT 3 3 t) := ht
  have HT1 : Hid (TabAt w1) := HT.out.below hb1 hB
  have hB1 : 0 < w1.heap.size := Nat.lt_of_lt_of_le hB hb1.size
  rw [← hn] at hlen hpos hcap
  have hpk := picked_any cut (n : Int) w1 hc (by omega) (by omega)
  rw [← hn] at HV
  clear htr hone hne hat hcc ho1 ht hn
  go_wp2_with (go_at_call 7; refine hpk.mono ?_; rintro e w1' ⟨r0, hr0, hr1, rfl, rfl⟩; obtain ⟨r, rfl⟩ := Int.eq_ofNat_of_zero_le hr0)
  have hone := HTR.out.one
  have hK1 : Kinds w1' (.slice (some ⟨gb, goff, none⟩) r cc0) ((t.map Prod.fst).take r) := by
    have hrl : ((t.map Prod.fst).take r).length = r := by rw [List.length_take, List.length_map, ← HN.out]; omega
    refine ⟨_, cc0, by rw [hrl], fun _ => ⟨gb, goff, rfl, hgl, fun i hi => ?_⟩⟩
    rw [hrl] at hi
    have hi2 : i < t.length := by rw [← HN.out]; omega
    rw [(HA.out i hi2).1]
    simp [List.getD_eq_getElem?_getD, hi, hi2]
  have he1 := ends_v _ _ w1' hB1 HT1.out hK1
  rw [code_cut (by rw [List.length_map, ← HN.out]; omega) hone (by rw [← HN.out]; omega)] at he1
  clear hK1 hone hpk
  go_wp2_with (first | (go_at_call_of 6 r; refine he1.mono ?_; rintro e w2 ⟨ev, rfl, hb2, _⟩; have hsz2 := hb2.size) | (at_builtin; refine wpList_append_own _ rfl (.const (.slice none 0 0)) (.tmp 25) 23 rfl w2.heap.size 31 i0 (.agg #[.int .i64 0, .int .i64 0]) 2 16 Tryd.underlying23 hi hz0 hz1 hz2 rfl (by decide) _ _ _ rfl (World.ownsRow_nil _ _ _ _) ⟨gb, goff, none⟩ n cc0 (flat t) rfl (by rw [flat_length, ← HN.out]) (HA.out.below hb2 hgl).cells (flat_one t) (by unfold maxLen; omega) (by omega) (Nat.le_refl _) ?_; intro v1 w3 ho3 hg3 _) | (at_builtin; refine wpList_append_own _ rfl (.tmp 26) (.tmp 28) 23 rfl w2.heap.size 31 i0 (.agg #[.int .i64 0, .int .i64 0]) 2 16 Tryd.underlying23 hi hz0 hz1 hz2 rfl (by decide) _ _ _ rfl (ho3.alloc _) ⟨_, 0, none⟩ 1 1 [.int .i64 11, .int .i64 0] rfl rfl (two_new _ _ _ _) (flat_one [(11, 0)]) (by unfold maxLen; omega) (by omega) (by have := hg3.size; simp; omega) ?_; intro v2 w4 ho4 hg4 _))
  have hg3' : w2.grownBy w3 none := hg3
  have hg4' : (w3.alloc (.cells #[.int .i64 11, .int .i64 0] 31)).grownBy w4 v1.ownBlock := hg4
  rw [Nat.zero_add, List.nil_append] at ho4
  have hb13 : Below w1'.heap.size w1' w3 := hb2.trans (((Below.refl w2.heap.size w2).grown hg3' (Nat.le_refl _) (fun q hq => by simp at hq)).mono hsz2)
  have hsz3 := hg3.size
  have hb34 : Below w2.heap.size w3 w4 := ((Below.refl _ _).alloc (by omega) _).grown hg4' (by simp; omega) (fun q hq => (ho3.lt q hq).1)
  have hb14 : Below w1'.heap.size w1' w4 := hb13.trans (hb34.mono hsz2)
  have hov : OpsV w4 v2 (t ++ [(11, 0)]) := by
    refine opsV_of_owns (base := w2.heap.size) ?_
    have e : flat (t ++ [(11, 0)]) = flat t ++ [.int .i64 11, .int .i64 0] := by simp [flat]
    rw [e, List.length_append, ← HN.out]
    exact ho4
  have he2 := ends_v _ _ w4 (Nat.lt_of_lt_of_le hB1 hb14.size) (HT1.out.below hb14 hB1) hov.kinds
  rw [code_more HTR.out (by rw [← HN.out]; omega)] at he2
  clear he1 ho3 hg3 ho4 hg4 hg3' hg4' hov hb34
  go_wp2_with (go_at_call_of 6 v2; refine he2.mono ?_; rintro e w5 ⟨ev2, rfl, hb5, _⟩)
  have hb15 := hb14.trans (hb5.mono hb14.size)
  have he3 := ends_v _ _ w5 (Nat.lt_of_lt_of_le hB1 hb15.size) (HT1.out.below hb15 hB1) (HV.out.below hb15).kinds
  rw [HTR.out.code (by rw [← HN.out]; omega)] at he3
  clear he2
  go_wp2_with (go_at_call_of 6 cc0; refine he3.mono ?_; rintro e w6 ⟨ev3, rfl, hb6, _⟩)
  go_ret
  have hbw := hb1.trans (hb15.mono hb1.size)
  exact ⟨rfl, hbw.trans (hb6.mono hbw.size)⟩

theorem polishOne_contract (H : Type) (enc : TypeId × Value → H) (W : World) (base : Nat) (args : Array Value) (ds gs : List (DataW H)) (before : List MemPlace)
    (hval : ∀ (j : Nat) t v, Tryd.f3.params[j]? = some t → args[j]? = some v → Value.okWide Tryd.prog W .any base t v)
    (hW : DataW.Whole enc Tryd.prog Tryd.f3.params.toList Rows.polishOneSpec.vars false W args.toList ds gs before)
    (hsz0 : (DataW.weightsEach Tryd.prog (Tryd.f3.params.toList ++ (OpenSpec.ofChange Rows.polishOneSpec).bare.plain.varTypes Tryd.prog) (ds ++ gs)).all (· ≤ reachBytes) = true)
    (hL : laidMetH Tryd.prog Rows.polishOneRow.laid W) :
    Calls Tryd.prog 3 args W fun e W' => ∃ v, e = .returned v ∧ Rows.polishOneSpec.post enc Tryd.prog Tryd.f3 false true false false W args v W' := by
  have hW' := hW
  obtain ⟨p, q, hA0, hV, rfl, hfz, hnd⟩ := hW
  have hA : DataW.TrodAll enc Tryd.prog W 0 (fun _ => true) true Tryd.f3.params.toList args.toList ds p := hA0
  rw [Tryd.params3] at hA hval
  obtain ⟨v0, vs0, d0, ds0, p0, q0, hargs, rfl, rfl, h0, r0⟩ := trodAll_cons hA
  obtain ⟨v1, vs1, d1, ds1, p1, q1, rfl, rfl, rfl, h1, r1⟩ := trodAll_cons r0
  obtain ⟨rfl, rfl, rfl⟩ := trodAll_nil r1
  obtain rfl : args = #[v0, v1] := by cases args; simp_all
  obtain ⟨rfl, rfl⟩ := trodVars_none hV
  have hsz : (DataW.weightsEach Tryd.prog [22, 3] [d0, d1]).all (· ≤ reachBytes) = true := hsz0
  obtain ⟨rs, hrs⟩ := open_raws (hval 0 22 v0 rfl rfl) h0 hsz (j := 0) rfl rfl
  obtain ⟨a1, rfl, rfl, rfl, wf1⟩ := open_int Tryd.underlying3 (hval 1 3 v1 rfl rfl) h1
  have hc1 : I64 a1 := by simpa [I64, Lit.wf, IntKind.min, IntKind.max, IntKind.signed, IntKind.bits] using wf1
  have hT := tabAt hL
  refine (polishOne_walk v0 rs a1 W (tab_size hT) hT hc1 hrs).mono fun e W' ⟨he, hb⟩ => ⟨_, he, ?_⟩
  refine law_post (fun t ht => ?_) rfl (by kernel_rfl) hW' rfl rfl rfl hb
  rw [Tryd.params3] at ht
  simp only [List.mem_cons, List.not_mem_nil, or_false] at ht
  rcases ht with rfl | rfl
  · exact ⟨by kernel_rfl, of_decide_eq_true (by kernel_rfl)⟩
  · exact ⟨by kernel_rfl, of_decide_eq_true (by kernel_rfl)⟩

/-- A WORLD FOR THE WITNESS: the settled one, the table (block 0) holding what its initialiser lays. -/
noncomputable def polishOneWorld (os : Os) : World :=
  { World.holding Tryd.prog os ⟨#[], #[], []⟩ with heap := (World.holding Tryd.prog os ⟨#[], #[], []⟩).heap.modify 0 fun
      | .cells _ t frozen => .cells #[.int .i64 0, .int .i64 0, .int .i64 0, .int .i64 2, .int .i64 2, .int .i64 2, .int .i64 2, .int .i64 2, .int .i64 2, .int .i64 2, .int .i64 1, .int .i64 0, .int .i64 0, .int .i64 0, .int .i64 1, .int .i64 2, .int .i64 2, .int .i64 1, .int .i64 1] t frozen
      | o => o }
theorem polishOne_met (os : Os) : laidMet Tryd.prog Rows.polishOneRow.laid ((polishOneWorld os).forCall (fun _ _ => 0) ⟨#[], #[.slice none 0 0, .int .i64 0], []⟩).memory :=
  laidMet_of_run' 8 (by kernel_rfl) (by kernel_rfl)
theorem polishOne_reads (os : Os) {H : Type} (enc : TypeId × Value → H) : ∃ places, DataW.whole enc Tryd.prog ((polishOneWorld os).forCall (fun _ _ => 0) ⟨#[], #[.slice none 0 0, .int .i64 0], []⟩).memory Tryd.f3.params.toList Rows.polishOneSpec.vars false #[Value.slice none 0 0, .int .i64 0].toList 8 = some ([.nil, .lit (.int .i64 0)], [], places) :=
  ⟨[], by kernel_rfl⟩

set_option maxRecDepth 100000 in
theorem polishOne_lifted (os : Os) (started : os.Started) (H : Type) (enc : TypeId × Value → H) (F : Stop.Interp) :
    ReturnsInHanded {} Tryd.checked os 3 .any ((OpenSpec.ofChange Rows.polishOneSpec).preRow enc Tryd.prog Tryd.f3 Rows.polishOneRow.domain false Rows.polishOneRow.laid) (((OpenSpec.ofChange Rows.polishOneSpec).at F).post enc Tryd.prog Tryd.f3 false true false false) := by
  obtain ⟨places, hx⟩ := polishOne_reads os enc
  refine returnsInHanded_of_row (C := Tryd.checked) (s := OpenSpec.ofChange Rows.polishOneSpec) own started (by kernel_rfl) Tryd.func3
    (witness_row_at (enc := enc) (C := Tryd.checked) false (polishOneWorld os) #[.slice none 0 0, .int .i64 0] rfl (by kernel_rfl) (by kernel_rfl) (by kernel_rfl)
      (OpenSpec.preRow_of_cond 8 hx (by kernel_rfl) (fun k hk => by cases hk) (by kernel_rfl) (polishOne_met os))) ?_
  intro W base args ds gs before hval hW _ _ hsz hL _ _
  exact polishOne_contract H enc W base args ds gs before hval hW hsz hL

theorem polishOne_said : Rows.PolishOneSaid :=
  OpenClaim.holds_of_cond 3 Tryd.f3 rfl rfl rfl rfl rfl rfl rfl ⟨rfl, rfl, rfl, rfl, rfl⟩ rfl rfl rfl rfl rfl (by kernel_rfl) Tryd.func3 (by kernel_rfl)
    (of_decide_eq_true (by kernel_rfl)) (by unfold Func.isWrapper; first | (rw [if_pos (by decide +kernel)]; kernel_rfl) | (rw [if_neg (by decide +kernel)]; exact ⟨rfl, rfl⟩))
    (fun os started H enc _ F => by rw [OpenClaim.pre_eq_preRow]; exact polishOne_lifted os started H enc F)

theorem polishOne_plain (f : FuncId) (fn : Func) (hf : Tryd.pinned.checked.prog.funcNamed "foretell/foretellkeep.PolishOne" = some f) (hfn : Tryd.pinned.checked.prog.funcs[f]? = some fn) :
    true = Tryd.pinned.checked.prog.looks [] ∧ ∀ (j : Nat) t, fn.params[j]? = some t → Tryd.pinned.checked.prog.wantsStandIn t = false := by
  obtain rfl : f = 3 := Option.some.inj ((show Tryd.prog.funcNamed "foretell/foretellkeep.PolishOne" = some 3 by kernel_rfl).symm.trans hf) |>.symm
  obtain rfl : fn = Tryd.f3 := (Option.some.inj (Tryd.func3.symm.trans hfn)).symm
  refine ⟨by kernel_rfl, fun j t ht => ?_⟩
  rw [Tryd.params3] at ht
  have ht' := Array.mem_of_getElem? ht
  simp only [List.mem_toArray, List.mem_cons, List.not_mem_nil, or_false] at ht'
  rcases ht' with rfl | rfl
  · exact (show Tryd.prog.wantsStandIn 22 = false by kernel_rfl)
  · exact (show Tryd.prog.wantsStandIn 3 = false by kernel_rfl)

/-- THE CARD. -/
theorem polishOne_card : Rows.PolishOneCardSaid :=
  Claim7.holds_tied_plain_at .later [] _ _ _ _ polishOne_said (fun _ h => by cases h) (by kernel_rfl) (fun _ h => by cases h) polishOne_row_tie rfl ⟨rfl, rfl⟩ (by kernel_rfl) rfl polishOne_plain (by kernel_rfl)
#print axioms polishOne_card
end Go.Proofs.YtkdbblchkkemgabDoor
