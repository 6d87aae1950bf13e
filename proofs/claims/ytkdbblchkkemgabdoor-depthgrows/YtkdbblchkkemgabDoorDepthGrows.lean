/-
  Proved: foretellkeep.DepthGrows answers true at every two lists of raw numbers (a term is one deeper than its deepest part, and no deeper than it is long), given that the table polish.partCounts reads as its initialiser lays it, which the card ties to the program's text. No other condition.
-/
import Derived.Test.YtkdbblchkkemgabDoorCards
import Derived.Test.YtkdbblchkkemgabDoorTie
import Derived.Test.YtkdbblchkkemgabDoorGrown3
import Derived.Test.YtkdbblchkkemgabDoorDepth
import Derived.Test.YtkdbblchkkemgabDoorJoined
namespace Go.Proofs.YtkdbblchkkemgabDoor
open Go.ChangeShapes Go.WideShapes Go.ChangeAt Go.RowKit Go.Deep
open Terms

/-- And of two terms is one deeper than the deeper. -/
theorem D_and {a b : List (Int × Int)} (ha : TruT 3 3 a) (hb : TruT 3 3 b) : TruT 3 4 ((8, 0) :: (a ++ b)) ∧ D (((8, 0) :: (a ++ b)).map Prod.fst) = max (D (a.map Prod.fst)) (D (b.map Prod.fst)) + 1 := by
  have ht : TruT 3 4 ((8, 0) :: (a ++ b)) := .bin 3 8 a b (by omega) (by omega) ha hb
  refine ⟨ht, ?_⟩
  rw [D_eq ht.one]
  have hk : (((8, 0) :: (a ++ b)).map Prod.fst).getD 0 0 = (8 : Int) := rfl
  have hp : pn (8 : Int) = 2 := rfl
  rw [hk, hp]
  simp only [maxTo]
  have hd : (((8, 0) :: (a ++ b)).map Prod.fst) = 8 :: (a.map Prod.fst ++ b.map Prod.fst) := by simp
  have hca := ha.count (b.map Prod.fst) 0
  rw [cnt_zero] at hca
  simp only [R.up, Nat.zero_add] at hca
  have p0 : pos (((8, 0) :: (a ++ b)).map Prod.fst) 0 = 1 := pos_zero _
  have p1 : pos (((8, 0) :: (a ++ b)).map Prod.fst) 1 = 1 + a.length := pos_ok (by rw [hd]; exact hca)
  rw [p0, p1, hd]
  have d0 : (8 :: (a.map Prod.fst ++ b.map Prod.fst)).drop 1 = a.map Prod.fst ++ b.map Prod.fst := rfl
  have d1 : (8 :: (a.map Prod.fst ++ b.map Prod.fst)).drop (1 + a.length) = b.map Prod.fst := by
    rw [Nat.add_comm, List.drop_succ_cons]
    simp
  rw [d0, d1]
  have e := D_take _ (a.map Prod.fst ++ b.map Prod.fst) a.length a.length (Nat.le_refl _) hca (Nat.le_refl _)
  rw [show (a.map Prod.fst ++ b.map Prod.fst).take a.length = a.map Prod.fst by rw [List.take_append_of_le_length (by simp)]; exact List.take_of_length_le (by simp)] at e
  rw [← e]
  omega

theorem TruT.depth {t : List (Int × Int)} {d : Nat} (h : TruT 3 d t) (hl : t.length ≤ 60) : depthV (t.map Prod.fst) = D (t.map Prod.fst) ∧ 1 ≤ D (t.map Prod.fst) ∧ D (t.map Prod.fst) ≤ t.length := by
  refine ⟨by unfold depthV; rw [if_pos (h.code hl)], ?_, D_le _ _ _ (Nat.le_refl _) h.one⟩
  rw [D_eq h.one]
  omega

set_option maxHeartbeats 1000000 in
theorem depthGrows_walk (rawv morev : Value) (rs ms : List (Int × Int)) (w : World) (hB : 0 < w.heap.size) (hT : TabAt w) (hR : Raws w w.heap.size rawv rs) (hM : Raws w w.heap.size morev ms) :
    Calls Tryd.prog 4 #[rawv, morev] w fun e w' => e = .returned (.bool true) ∧ Below w.heap.size w w' := by
  have htr := truthFn_any rawv rs 3 w (by omega) (by omega) hR
  have HT : Hid (TabAt w) := hT
  have HM : Hid (Raws w w.heap.size morev ms) := hM
  clear hR hT hM
  go_enter Tryd.func4, Tryd.ntmps4
  go_wp2_with (go_at_call_of 5 rawv; refine htr.mono ?_; rintro e w1 ⟨a, ta, rfl, hta, hla, hoa, hb1⟩)
  have HM1 : Raws w1 w1.heap.size morev ms := by
    obtain ⟨⟨ao, cap, hv, h1⟩, h2, h3⟩ := HM.out.below hb1
    refine ⟨⟨ao, cap, hv, fun hne => ?_⟩, h2, h3⟩
    obtain ⟨b, off, hx, hlt, hat⟩ := h1 hne
    exact ⟨b, off, hx, Nat.lt_of_lt_of_le hlt hb1.size, hat⟩
  have htr2 := truthFn_any morev ms 3 w1 (by omega) (by omega) HM1
  have HOA : Hid (OpsV w1 a ta) := opsV_of_owns hoa
  obtain ⟨aa, ac, rfl⟩ := owns_slice hoa
  clear htr hoa HM1
  go_wp2_with (go_at_call_of 5 morev; refine htr2.mono ?_; rintro e w2 ⟨b, tb, rfl, htb, hlb, hob, hb2⟩)
  have hb12 := hb1.trans (hb2.mono hb1.size)
  have HOB : Hid (OpsV w2 b tb) := opsV_of_owns hob
  have HOA2 : Hid (OpsV w2 (.slice aa ta.length ac) ta) := HOA.out.below hb2
  obtain ⟨ba, bc, rfl⟩ := owns_slice hob
  have hd1 := depth_any _ _ w2 (Nat.lt_of_lt_of_le hB hb12.size) (HT.out.below hb12 hB) HOA2.out.kinds
  obtain ⟨da1, da2, da3⟩ := hta.depth (by omega)
  obtain ⟨db1, db2, db3⟩ := htb.depth (by omega)
  obtain ⟨hab, hdab⟩ := D_and hta htb
  have hlab : ((8, 0) :: (ta ++ tb)).length ≤ 60 := by simp; omega
  obtain ⟨dc1, dc2, dc3⟩ := hab.depth hlab
  rw [da1, hta.code (by omega)] at hd1
  have HCB : Hid (endsCode (tb.map Prod.fst) = 0 ∧ depthV (tb.map Prod.fst) = D (tb.map Prod.fst)) := ⟨htb.code (by omega), db1⟩
  have HCC : Hid (endsCode (((8, 0) :: (ta ++ tb)).map Prod.fst) = 0 ∧ depthV (((8, 0) :: (ta ++ tb)).map Prod.fst) = max (D (ta.map Prod.fst)) (D (tb.map Prod.fst)) + 1) := ⟨hab.code hlab, by rw [dc1, hdab]⟩
  have HLB : Hid (tb.length ≤ 26) := hlb
  have HNA : Hid (ta ≠ []) := by intro h; subst h; have := (cnt_le _ _ _ hta.one).1; simp at this
  have HNB : Hid (tb ≠ []) := by intro h; subst h; have := (cnt_le _ _ _ htb.one).1; simp at this
  clear htr2 hob hta htb hdab hab hlab da1 db1 dc1 dc2 dc3 hlb
  obtain ⟨na, hna⟩ : ∃ na, na = ta.length := ⟨_, rfl⟩
  obtain ⟨nb, hnb⟩ : ∃ nb, nb = tb.length := ⟨_, rfl⟩
  have HNa : Hid (na = ta.length) := hna
  have HNb : Hid (nb = tb.length) := hnb
  generalize hDa : D (ta.map Prod.fst) = dA at *
  generalize hDb : D (tb.map Prod.fst) = dB at *
  clear hDa hDb
  have HLA : Hid (ta.length ≤ 26) := hla
  have hla2 : dA ≤ 26 := by omega
  have hlb2 : dB ≤ 26 := by have := HLB.out; omega
  rw [← hna] at hd1 hla da3 HOA2 ⊢
  rw [← hnb] at HOB ⊢
  clear hna hnb db3 HOA HM
  have HB12 : Hid (Below w.heap.size w w2) := hb12
  clear hb12 hb1 hb2
  go_wp2_with (go_at_call_of 8 ac; refine hd1.mono ?_; rintro e w3 ⟨rfl, hb3⟩)
  have hb13 := HB12.out.trans (hb3.mono HB12.out.size)
  have hd2 := depth_any _ _ w3 (Nat.lt_of_lt_of_le hB hb13.size) (HT.out.below hb13 hB) (HOB.out.below hb3).kinds
  rw [HCB.out.1, HCB.out.2] at hd2
  clear hd1
  go_wp2_with (go_at_call_of 8 bc; refine hd2.mono ?_; rintro e w4 ⟨rfl, hb4⟩)
  have hb24 := hb3.trans (hb4.mono hb3.size)
  have hb5 : Below w4.heap.size w4 (w4.alloc (.cells #[.slice aa na ac, .slice ba nb bc] 23)) := (Below.refl _ _).alloc (Nat.le_refl _) _
  have hTV : TermsV (w4.alloc (.cells #[.slice aa na ac, .slice ba nb bc] 23)) (.slice (some ⟨w4.heap.size, 0, none⟩) 2 2) [ta, tb] := by
    refine ⟨_, 2, rfl, fun _ => ⟨w4.heap.size, 0, rfl, by simp, fun i hi => ?_⟩⟩
    match i, hi with
    | 0, _ => exact ⟨.slice aa na ac, by simp [go_sem], (HOA2.out.below hb24).below hb5⟩
    | 1, _ => exact ⟨.slice ba nb bc, by simp [go_sem], (HOB.out.below hb24).below hb5⟩
  have hj := joined_any 8 _ [ta, tb] _ (by simp) (fun i hi => by
    have h1 := HLA.out
    have h2 := HLB.out
    match i, hi with
    | 0, _ => simp
    | 1, _ => simp; omega
    | 2, _ => simp; omega) (fun i hi => by
    match i, hi with
    | 0, _ => exact HNA.out
    | 1, _ => exact HNB.out) hTV
  clear hd2 hTV
  go_wp2_with (go_at_call 9; refine hj.mono ?_; rintro e w6 ⟨jv, rfl, hb6, hoj⟩)
  have hfl : [ta, tb].flatten = ta ++ tb := by simp
  rw [hfl] at hoj
  have hb56 := hb5.trans (hb6.mono hb5.size)
  have hb26 := hb24.trans (hb56.mono hb24.size)
  have hb16 := HB12.out.trans (hb26.mono HB12.out.size)
  have hd3 := depth_any _ _ w6 (Nat.lt_of_lt_of_le hB hb16.size) (HT.out.below hb16 hB) (opsV_of_owns hoj).kinds
  rw [HCC.out.1, HCC.out.2] at hd3
  clear hj hoj hfl hb5 hb56 hb6
  have hmx : max dA dB = dA ∨ max dA dB = dB := by omega
  have hm1 : dA ≤ max dA dB := by omega
  have hm2 : dB ≤ max dA dB := by omega
  generalize max dA dB = mx at *
  go_wp2_with (go_at_call_of 8 jv; refine hd3.mono ?_; rintro e w7 ⟨rfl, hb7⟩)
  all_goals go_ret
  all_goals refine ⟨?_, hb16.trans (hb7.mono hb16.size)⟩
  all_goals first
    | rfl
    | (simp; omega)
    | (exfalso; omega)

theorem depthGrows_contract (H : Type) (enc : TypeId × Value → H) (W : World) (base : Nat) (args : Array Value) (ds gs : List (DataW H)) (before : List MemPlace)
    (hval : ∀ (j : Nat) t v, Tryd.f4.params[j]? = some t → args[j]? = some v → Value.okWide Tryd.prog W .any base t v)
    (hW : DataW.Whole enc Tryd.prog Tryd.f4.params.toList Rows.depthGrowsSpec.vars false W args.toList ds gs before)
    (hsz0 : (DataW.weightsEach Tryd.prog (Tryd.f4.params.toList ++ (OpenSpec.ofChange Rows.depthGrowsSpec).bare.plain.varTypes Tryd.prog) (ds ++ gs)).all (· ≤ reachBytes) = true)
    (hL : laidMetH Tryd.prog Rows.depthGrowsRow.laid W) :
    Calls Tryd.prog 4 args W fun e W' => ∃ v, e = .returned v ∧ Rows.depthGrowsSpec.post enc Tryd.prog Tryd.f4 false true false false W args v W' := by
  have hW' := hW
  obtain ⟨p, q, hA0, hV, rfl, hfz, hnd⟩ := hW
  have hA : DataW.TrodAll enc Tryd.prog W 0 (fun _ => true) true Tryd.f4.params.toList args.toList ds p := hA0
  rw [Tryd.params4] at hA hval
  obtain ⟨v0, vs0, d0, ds0, p0, q0, hargs, rfl, rfl, h0, r0⟩ := trodAll_cons hA
  obtain ⟨v1, vs1, d1, ds1, p1, q1, rfl, rfl, rfl, h1, r1⟩ := trodAll_cons r0
  obtain ⟨rfl, rfl, rfl⟩ := trodAll_nil r1
  obtain rfl : args = #[v0, v1] := by cases args; simp_all
  obtain ⟨rfl, rfl⟩ := trodVars_none hV
  have hsz : (DataW.weightsEach Tryd.prog [22, 22] [d0, d1]).all (· ≤ reachBytes) = true := hsz0
  obtain ⟨rs, hrs⟩ := open_raws (hval 0 22 v0 rfl rfl) h0 hsz (j := 0) rfl rfl
  obtain ⟨ms, hms⟩ := open_raws (hval 1 22 v1 rfl rfl) h1 hsz (j := 1) rfl rfl
  have hT := tabAt hL
  refine (depthGrows_walk v0 v1 rs ms W (tab_size hT) hT hrs hms).mono fun e W' ⟨he, hb⟩ => ⟨_, he, ?_⟩
  refine law_post (fun t ht => ?_) rfl (by kernel_rfl) hW' rfl rfl rfl hb
  rw [Tryd.params4] at ht
  simp only [List.mem_cons, List.not_mem_nil, or_false] at ht
  rcases ht with rfl | rfl
  · exact ⟨by kernel_rfl, of_decide_eq_true (by kernel_rfl)⟩
  · exact ⟨by kernel_rfl, of_decide_eq_true (by kernel_rfl)⟩

/-- A WORLD FOR THE WITNESS: the settled one, the table (block 0) holding what its initialiser lays. -/
noncomputable def depthGrowsWorld (os : Os) : World :=
  { World.holding Tryd.prog os ⟨#[], #[], []⟩ with heap := (World.holding Tryd.prog os ⟨#[], #[], []⟩).heap.modify 0 fun
      | .cells _ t frozen => .cells #[.int .i64 0, .int .i64 0, .int .i64 0, .int .i64 2, .int .i64 2, .int .i64 2, .int .i64 2, .int .i64 2, .int .i64 2, .int .i64 2, .int .i64 1, .int .i64 0, .int .i64 0, .int .i64 0, .int .i64 1, .int .i64 2, .int .i64 2, .int .i64 1, .int .i64 1] t frozen
      | o => o }
theorem depthGrows_met (os : Os) : laidMet Tryd.prog Rows.depthGrowsRow.laid ((depthGrowsWorld os).forCall (fun _ _ => 0) ⟨#[], #[.slice none 0 0, .slice none 0 0], []⟩).memory :=
  laidMet_of_run' 8 (by kernel_rfl) (by kernel_rfl)
theorem depthGrows_reads (os : Os) {H : Type} (enc : TypeId × Value → H) : ∃ places, DataW.whole enc Tryd.prog ((depthGrowsWorld os).forCall (fun _ _ => 0) ⟨#[], #[.slice none 0 0, .slice none 0 0], []⟩).memory Tryd.f4.params.toList Rows.depthGrowsSpec.vars false #[Value.slice none 0 0, .slice none 0 0].toList 8 = some ([.nil, .nil], [], places) :=
  ⟨[], by kernel_rfl⟩

set_option maxRecDepth 100000 in
theorem depthGrows_lifted (os : Os) (started : os.Started) (H : Type) (enc : TypeId × Value → H) (F : Stop.Interp) :
    ReturnsInHanded {} Tryd.checked os 4 .any ((OpenSpec.ofChange Rows.depthGrowsSpec).preRow enc Tryd.prog Tryd.f4 Rows.depthGrowsRow.domain false Rows.depthGrowsRow.laid) (((OpenSpec.ofChange Rows.depthGrowsSpec).at F).post enc Tryd.prog Tryd.f4 false true false false) := by
  obtain ⟨places, hx⟩ := depthGrows_reads os enc
  refine returnsInHanded_of_row (C := Tryd.checked) (s := OpenSpec.ofChange Rows.depthGrowsSpec) own started (by kernel_rfl) Tryd.func4
    (witness_row_at (enc := enc) (C := Tryd.checked) false (depthGrowsWorld os) #[.slice none 0 0, .slice none 0 0] rfl (by kernel_rfl) (by kernel_rfl) (by kernel_rfl)
      (OpenSpec.preRow_of_cond 8 hx (by kernel_rfl) (fun k hk => by cases hk) (by kernel_rfl) (depthGrows_met os))) ?_
  intro W base args ds gs before hval hW _ _ hsz hL _ _
  exact depthGrows_contract H enc W base args ds gs before hval hW hsz hL

theorem depthGrows_said : Rows.DepthGrowsSaid :=
  OpenClaim.holds_of_cond 4 Tryd.f4 rfl rfl rfl rfl rfl rfl rfl ⟨rfl, rfl, rfl, rfl, rfl⟩ rfl rfl rfl rfl rfl (by kernel_rfl) Tryd.func4 (by kernel_rfl)
    (of_decide_eq_true (by kernel_rfl)) (by unfold Func.isWrapper; first | (rw [if_pos (by decide +kernel)]; kernel_rfl) | (rw [if_neg (by decide +kernel)]; exact ⟨rfl, rfl⟩))
    (fun os started H enc _ F => by rw [OpenClaim.pre_eq_preRow]; exact depthGrows_lifted os started H enc F)

theorem depthGrows_plain (f : FuncId) (fn : Func) (hf : Tryd.pinned.checked.prog.funcNamed "foretell/foretellkeep.DepthGrows" = some f) (hfn : Tryd.pinned.checked.prog.funcs[f]? = some fn) :
    true = Tryd.pinned.checked.prog.looks [] ∧ ∀ (j : Nat) t, fn.params[j]? = some t → Tryd.pinned.checked.prog.wantsStandIn t = false := by
  obtain rfl : f = 4 := Option.some.inj ((show Tryd.prog.funcNamed "foretell/foretellkeep.DepthGrows" = some 4 by kernel_rfl).symm.trans hf) |>.symm
  obtain rfl : fn = Tryd.f4 := (Option.some.inj (Tryd.func4.symm.trans hfn)).symm
  refine ⟨by kernel_rfl, fun j t ht => ?_⟩
  rw [Tryd.params4] at ht
  have ht' := Array.mem_of_getElem? ht
  simp only [List.mem_toArray, List.mem_cons, List.not_mem_nil, or_false] at ht'
  rcases ht' with rfl | rfl
  · exact (show Tryd.prog.wantsStandIn 22 = false by kernel_rfl)
  · exact (show Tryd.prog.wantsStandIn 22 = false by kernel_rfl)

/-- THE CARD. -/
theorem depthGrows_card : Rows.DepthGrowsCardSaid :=
  Claim7.holds_tied_plain_at .later [] _ _ _ _ depthGrows_said (fun _ h => by cases h) (by kernel_rfl) (fun _ h => by cases h) depthGrows_row_tie rfl ⟨rfl, rfl⟩ (by kernel_rfl) rfl depthGrows_plain (by kernel_rfl)
#print axioms depthGrows_card
end Go.Proofs.YtkdbblchkkemgabDoor
