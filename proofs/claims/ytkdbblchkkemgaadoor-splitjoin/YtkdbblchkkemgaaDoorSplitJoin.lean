/-
  Proved: foretellkeep.SplitJoin answers true at every list of raw numbers (an op and its parts are the term that is grown of them), given that the table polish.partCounts reads as its initialiser lays it, which the card ties to the program's text. No other condition.
-/
import Derived.Test.YtkdbblchkkemgaaDoorCards
import Derived.Test.YtkdbblchkkemgaaDoorTie
import Derived.Test.YtkdbblchkkemgaaDoorGrown3
import Derived.Test.YtkdbblchkkemgaaDoorDepth
import Derived.Test.YtkdbblchkkemgaaDoorKeepSame
namespace Go.Proofs.YtkdbblchkkemgaaDoor
open Go.ChangeShapes Go.WideShapes Go.ChangeAt Go.RowKit Go.Deep
open Terms

theorem take_seg {α : Type} (l : List α) {a b : Nat} (h : a ≤ b) : l.take b = l.take a ++ seg l a b := by
  unfold seg
  rw [show b = a + (b - a) by omega, List.take_add, show a + (b - a) - a = b - a by omega]

set_option maxHeartbeats 2000000 in
theorem splitJoin_walk (rawv : Value) (rs : List (Int × Int)) (w : World) (hB : 0 < w.heap.size) (hT : TabAt w) (hR : Raws w w.heap.size rawv rs) :
    Calls Tryd.prog 8 #[rawv] w fun e w' => e = .returned (.bool true) ∧ Below w.heap.size w w' := by
  have htr := truthFn_any rawv rs 3 w (by omega) (by omega) hR
  have HT : Hid (TabAt w) := hT
  clear hR hT
  obtain ⟨i0, hi, hz0, hz1, hz2⟩ := info_parts infoOp
  go_enter Tryd.func8, Tryd.ntmps8
  go_wp2_with (go_at_call 21; refine htr.mono ?_; rintro e w1 ⟨c, t, rfl, ht, hlen, ho1, hb1⟩)
  have hv1 := opsV_of_owns ho1
  have hsp := split_any c t w1 (Nat.lt_of_lt_of_le hB hb1.size) (HT.out.below hb1 hB) hv1
  have hz := ht.code (by omega)
  have hone := ht.one
  have hpos := (cnt_le _ _ _ hone).1
  have hne : t ≠ [] := by intro h; subst h; simp at hpos
  have HV : Hid (OpsV w1 c t) := hv1
  obtain ⟨ca, cc, rfl, _, hat⟩ := hv1
  obtain ⟨gb, goff, rfl, hgl, hat⟩ := hat hne
  obtain ⟨k0, v0⟩ := hat 0 (by omega)
  rw [Nat.zero_mul, Nat.add_zero] at k0 v0
  have hks0 : (t.map Prod.fst).getD 0 0 = (t.getD 0 (0, 0)).1 := by cases t <;> rfl
  obtain ⟨_, hok, hn1, _⟩ := one_head hone
  have HS : Hid (splitL t = splitTo t (pn ((t.map Prod.fst).getD 0 0))) := by show _ = _; unfold splitL; rw [if_pos hz]
  have H1 : Hid (t.take 1 = [t.getD 0 (0, 0)]) := by
    show _ = _
    cases t with
    | nil => exact absurd rfl hne
    | cons x r => rfl
  have HO : Hid (cnt (t.map Prod.fst) 1 = .ok t.length) := hone
  have hsp2 : Calls Tryd.prog 16 #[.slice (some ⟨gb, goff, none⟩) t.length cc] w1 fun e w' => ∃ v', e = .returned (.tuple #[v', .int .i64 0]) ∧ Below w1.heap.size w1 w' ∧ TermsV w' v' (splitTo t (pn ((t.map Prod.fst).getD 0 0))) :=
    hsp.mono fun e w' ⟨v', a, b, c⟩ => ⟨v', by rw [hz] at a; exact a, b, by rw [HS.out] at c; exact c⟩
  have hpa := fun (wx : World) (hTx : TabAt wx) => parts_ok ((t.map Prod.fst).getD 0 0) wx hTx hok
  rw [hks0] at hpa
  obtain ⟨np, hnp⟩ : ∃ np, np = pn ((t.map Prod.fst).getD 0 0) := ⟨_, rfl⟩
  have HP : Hid (np = pn ((t.map Prod.fst).getD 0 0)) := hnp
  have hnp' := hnp
  rw [hks0] at hnp'
  rw [← hnp] at hsp2
  rw [← hnp'] at hpa
  have hnp2 : np ≤ 2 := by rw [hnp]; exact pn_le _
  have HB1 : Hid (Below w.heap.size w w1) := hb1
  have HTR : Hid (TruT 3 3 t) := ht
  obtain ⟨xy, hxy⟩ : ∃ xy, xy = t.getD 0 (0, 0) := ⟨_, rfl⟩
  rw [← hxy] at k0 v0 hpa H1
  obtain ⟨x, y⟩ := xy
  simp only at k0 v0 hpa
  clear hsp hz hone hne hat hks0 hok HS hnp hnp' hb1 ht ho1 htr hxy hn1
  have hT1 : TabAt w1 := HT.out.below HB1.out hB
  have HT1 : Hid (TabAt w1) := hT1
  clear hT1
  go_wp2_with (first | (go_at_call 16; refine hsp2.mono ?_; rintro e w2 ⟨tv, rfl, hb2, htv⟩; have hT2 := HT1.out.below hb2 (Nat.lt_of_lt_of_le hB HB1.out.size); have k2 := (hb2.cell (p := ⟨gb, goff, none⟩) hgl).trans k0; have v2 := (hb2.cell (p := ⟨gb, goff + 1, none⟩) hgl).trans v0; obtain ⟨ta, tc, htvs, htat⟩ := htv; rw [splitTo_len] at htvs; subst htvs) | (go_at_call 9; refine (hpa _ hT2).mono ?_; rintro e w2' ⟨rfl, rfl⟩))
  have HTA := (show Hid _ from htat)
  have HV2 : Hid (OpsV w2' (.slice (some ⟨gb, goff, none⟩) t.length cc) t) := HV.out.below hb2
  have HT2 : Hid (TabAt w2') := hT2
  have hsz2 : 0 < w2'.heap.size := Nat.lt_of_lt_of_le (Nat.lt_of_lt_of_le hB HB1.out.size) hb2.size
  clear htat hT2 hpa hsp2 k0 v0 k2 v2
  go_loopw [8, 9] (fun bk c wr => ∃ i : Nat, i ≤ np ∧ c = .int .i64 i ∧ wr.ownsRow w2'.heap.size 43 2 bk (pos (t.map Prod.fst) i) (flat (t.take (pos (t.map Prod.fst) i))) ∧ Below w2'.heap.size w2' wr) (fun _ c _ => np - (intOf c).toNat)
  case atStart =>
    refine ⟨0, Nat.zero_le _, rfl, ?_, (Below.refl _ _).alloc (Nat.le_refl _) _⟩
    rw [pos_zero, H1.out]
    exact World.ownsRow_lit w2' #[.int .i64 x, .int .i64 y] 1 (Nat.le_refl _) (by unfold maxLen; omega) rfl
  case round =>
    obtain ⟨i, hile, rfl, hown, hbel⟩ := hrel
    by_cases hlt : i < np
    · obtain ⟨b, off, rfl, hbl, hcs⟩ := HTA.out (by intro h; have := congrArg List.length h; rw [splitTo_len] at this; simp at this; omega)
      obtain ⟨u, hu, hou⟩ := hcs i (by rw [splitTo_len]; exact hlt)
      have hgd : (splitTo t np).getD i [] = seg t (pos (t.map Prod.fst) i) (pos (t.map Prod.fst) (i + 1)) := by
        unfold splitTo
        rw [List.getD_eq_getElem?_getD, List.getElem?_map, List.getElem?_range hlt]
        rfl
      rw [hgd] at hou
      obtain ⟨p1, _, p3⟩ := part_term (by omega) HO.out (j := i) (by rw [← HP.out]; exact hlt)
      obtain ⟨hp1, m, hm, hm1, hp2, _, hp4⟩ := one_step HO.out (j := i) (by rw [← HP.out]; exact hlt)
      have hlen : (seg t (pos (t.map Prod.fst) i) (pos (t.map Prod.fst) (i + 1))).length = m := by rw [seg_length hp4]; omega
      have HTK : Hid (t.take (pos (t.map Prod.fst) (i + 1)) = t.take (pos (t.map Prod.fst) i) ++ seg t (pos (t.map Prod.fst) i) (pos (t.map Prod.fst) (i + 1))) := take_seg t (by omega)
      have houw := hou.below hbel
      have hsz := hbel.size
      have hends : Calls Tryd.prog 12 #[u] wr fun e w' => Below wr.heap.size wr w' ∧ ∃ v, e = .returned (.tuple #[v, .int .i64 0]) :=
        (ends_any u _ wr (by omega) (HT2.out.below hbel hsz2) houw.kinds).mono fun e w' ⟨h1, _, h3⟩ => ⟨h1, by obtain ⟨B, _, h, _⟩ := h3 (by rw [seg_map]; exact p1); exact ⟨_, h⟩⟩
      have hcu := (hbel.cell (p := ⟨b, off + i, none⟩) hbl).trans hu
      have hblr : b < wr.heap.size := by omega
      obtain ⟨ua, uc, hus, _, huat⟩ := houw
      obtain ⟨ub, uoff, rfl, hubl, huat⟩ := huat (by intro h; rw [h] at hlen; simp at hlen; omega)
      subst hus
      rw [hlen] at hends hcu
      have HUA : Hid (OpsAt wr ub uoff (seg t (pos (t.map Prod.fst) i) (pos (t.map Prod.fst) (i + 1)))) := huat
      have HLN : Hid ((seg t (pos (t.map Prod.fst) i) (pos (t.map Prod.fst) (i + 1))).length = m) := hlen
      have HPM : Hid (pos (t.map Prod.fst) (i + 1) = pos (t.map Prod.fst) i + m) := hp2
      clear hgd hou hu hcs p1 p3 hlen hm hp2 huat
      obtain ⟨p', hp'⟩ : ∃ p', p' = pos (t.map Prod.fst) (i + 1) := ⟨_, rfl⟩
      rw [← hp'] at hp4 HTK HUA HLN HPM
      have HQ : Hid (p' = pos (t.map Prod.fst) (i + 1)) := hp'
      clear hp'
      generalize pos (t.map Prod.fst) i = p at *
      go_wp2_with (first | (go_at_call 12; refine hends.mono ?_; rintro e w3 ⟨hb3, ev, rfl⟩; have hcu3 := (hb3.cell (p := ⟨b, off + i, none⟩) hblr).trans hcu; have hown3 := owns_later hown hb3 (Nat.le_refl _)) | (at_builtin; refine wpList_append_own _ rfl (.tmp 59) (.tmp 63) 26 rfl w2'.heap.size 43 i0 (.agg #[.int .i64 0, .int .i64 0]) 2 16 Tryd.underlying26 hi hz0 hz1 hz2 rfl (by decide) _ _ _ rfl hown3 ⟨ub, uoff, none⟩ m uc (flat (seg t p p')) rfl ?c0 ?c1 (flat_one _) ?c3 ?c4 ?c5 ?_))
      case c0 => rw [flat_length, HLN.out]
      case c1 => exact (HUA.out.below hb3 hubl).cells
      case c3 => unfold maxLen; have := HPM.out; omega
      case c4 => have := HPM.out; omega
      case c5 => have := hb3.size; omega
      intro v' w4 hown' hgrow _
      have hsz3 := hb3.size
      have hb4 : Below w2'.heap.size w2' w4 := (hbel.trans (hb3.mono hsz)).grown hgrow (by omega) (fun q hq => (hown3.lt q hq).1)
      have ho4 : w4.ownsRow w2'.heap.size 43 2 v' p' (flat (t.take p')) := by
        rw [HTK.out, flat_append]
        have e : p' = p + m := HPM.out
        rw [show w4.ownsRow w2'.heap.size 43 2 v' p' = w4.ownsRow w2'.heap.size 43 2 v' (p + m) by rw [e]]
        exact hown'
      clear hown' hgrow hown hown3 hends
      go_wp2
      go_roundw
      case rel => exact ⟨i + 1, by omega, by go_num, by rw [← HQ.out]; exact ho4, hb4⟩
      case measure => simp [intOf]; omega
    · have hin : i = np := by omega
      subst hin
      have hl : pos (t.map Prod.fst) i = t.length := by rw [HP.out]; exact one_last HO.out
      rw [hl, List.take_length] at hown
      have hso := keepSameOps_b _ _ t wr (by omega) (opsV_of_owns hown) (HV2.out.below hbel)
      have HBW : Hid (Below w.heap.size w wr) := HB1.out.trans ((hb2.trans (hbel.mono hb2.size)).mono HB1.out.size)
      clear hlt hile hown
      go_wp2_with (go_at_call 22; refine hso.mono ?_; rintro e w5 ⟨rfl, hb5⟩)
      go_ret
      exact ⟨rfl, HBW.out.trans (hb5.mono HBW.out.size)⟩

theorem splitJoin_contract (H : Type) (enc : TypeId × Value → H) (W : World) (base : Nat) (args : Array Value) (ds gs : List (DataW H)) (before : List MemPlace)
    (hval : ∀ (j : Nat) t v, Tryd.f8.params[j]? = some t → args[j]? = some v → Value.okWide Tryd.prog W .any base t v)
    (hW : DataW.Whole enc Tryd.prog Tryd.f8.params.toList Rows.splitJoinSpec.vars false W args.toList ds gs before)
    (hsz0 : (DataW.weightsEach Tryd.prog (Tryd.f8.params.toList ++ (OpenSpec.ofChange Rows.splitJoinSpec).bare.plain.varTypes Tryd.prog) (ds ++ gs)).all (· ≤ reachBytes) = true)
    (hL : laidMetH Tryd.prog Rows.splitJoinRow.laid W) :
    Calls Tryd.prog 8 args W fun e W' => ∃ v, e = .returned v ∧ Rows.splitJoinSpec.post enc Tryd.prog Tryd.f8 false true false false W args v W' := by
  have hW' := hW
  obtain ⟨p, q, hA0, hV, rfl, hfz, hnd⟩ := hW
  have hA : DataW.TrodAll enc Tryd.prog W 0 (fun _ => true) true Tryd.f8.params.toList args.toList ds p := hA0
  rw [Tryd.params8] at hA hval
  obtain ⟨v0, vs0, d0, ds0, p0, q0, hargs, rfl, rfl, h0, r0⟩ := trodAll_cons hA
  obtain ⟨rfl, rfl, rfl⟩ := trodAll_nil r0
  obtain rfl : args = #[v0] := by cases args; simp_all
  obtain ⟨rfl, rfl⟩ := trodVars_none hV
  have hsz : (DataW.weightsEach Tryd.prog [39] [d0]).all (· ≤ reachBytes) = true := hsz0
  obtain ⟨rs, hrs⟩ := open_raws (hval 0 39 v0 rfl rfl) h0 hsz (j := 0) rfl rfl
  have hT := tabAt hL
  refine (splitJoin_walk v0 rs W (tab_size hT) hT hrs).mono fun e W' ⟨he, hb⟩ => ⟨_, he, ?_⟩
  refine law_post (fun t ht => ?_) rfl (by kernel_rfl) hW' rfl rfl rfl hb
  rw [Tryd.params8] at ht
  obtain rfl : t = 39 := by simpa using ht
  exact ⟨by kernel_rfl, of_decide_eq_true (by kernel_rfl)⟩

/-- A WORLD FOR THE WITNESS: the settled one, the table (block 0) holding what its initialiser lays. -/
noncomputable def splitJoinWorld (os : Os) : World :=
  { World.holding Tryd.prog os ⟨#[], #[], []⟩ with heap := (World.holding Tryd.prog os ⟨#[], #[], []⟩).heap.modify 0 fun
      | .cells _ t frozen => .cells #[.int .i64 0, .int .i64 0, .int .i64 0, .int .i64 2, .int .i64 2, .int .i64 2, .int .i64 2, .int .i64 2, .int .i64 2, .int .i64 2, .int .i64 1, .int .i64 0, .int .i64 0, .int .i64 0, .int .i64 1, .int .i64 2, .int .i64 2, .int .i64 1, .int .i64 1] t frozen
      | o => o }
theorem splitJoin_met (os : Os) : laidMet Tryd.prog Rows.splitJoinRow.laid ((splitJoinWorld os).forCall (fun _ _ => 0) ⟨#[], #[.slice none 0 0], []⟩).memory :=
  laidMet_of_run' 8 (by kernel_rfl) (by kernel_rfl)
theorem splitJoin_reads (os : Os) {H : Type} (enc : TypeId × Value → H) : ∃ places, DataW.whole enc Tryd.prog ((splitJoinWorld os).forCall (fun _ _ => 0) ⟨#[], #[.slice none 0 0], []⟩).memory Tryd.f8.params.toList Rows.splitJoinSpec.vars false #[Value.slice none 0 0].toList 8 = some ([.nil], [], places) :=
  ⟨[], by kernel_rfl⟩

set_option maxRecDepth 100000 in
theorem splitJoin_lifted (os : Os) (started : os.Started) (H : Type) (enc : TypeId × Value → H) (F : Stop.Interp) :
    ReturnsInHanded {} Tryd.checked os 8 .any ((OpenSpec.ofChange Rows.splitJoinSpec).preRow enc Tryd.prog Tryd.f8 Rows.splitJoinRow.domain false Rows.splitJoinRow.laid) (((OpenSpec.ofChange Rows.splitJoinSpec).at F).post enc Tryd.prog Tryd.f8 false true false false) := by
  obtain ⟨places, hx⟩ := splitJoin_reads os enc
  refine returnsInHanded_of_row (C := Tryd.checked) (s := OpenSpec.ofChange Rows.splitJoinSpec) own started (by kernel_rfl) Tryd.func8
    (witness_row_at (enc := enc) (C := Tryd.checked) false (splitJoinWorld os) #[.slice none 0 0] rfl (by kernel_rfl) (by kernel_rfl) (by kernel_rfl)
      (OpenSpec.preRow_of_cond 8 hx (by kernel_rfl) (fun k hk => by cases hk) (by kernel_rfl) (splitJoin_met os))) ?_
  intro W base args ds gs before hval hW _ _ hsz hL _ _
  exact splitJoin_contract H enc W base args ds gs before hval hW hsz hL

theorem splitJoin_said : Rows.SplitJoinSaid :=
  OpenClaim.holds_of_cond 8 Tryd.f8 rfl rfl rfl rfl rfl rfl rfl ⟨rfl, rfl, rfl, rfl, rfl⟩ rfl rfl rfl rfl rfl (by kernel_rfl) Tryd.func8 (by kernel_rfl)
    (of_decide_eq_true (by kernel_rfl)) (by unfold Func.isWrapper; first | (rw [if_pos (by decide +kernel)]; kernel_rfl) | (rw [if_neg (by decide +kernel)]; exact ⟨rfl, rfl⟩))
    (fun os started H enc _ F => by rw [OpenClaim.pre_eq_preRow]; exact splitJoin_lifted os started H enc F)

theorem splitJoin_plain (f : FuncId) (fn : Func) (hf : Tryd.pinned.checked.prog.funcNamed "foretell/foretellkeep.SplitJoin" = some f) (hfn : Tryd.pinned.checked.prog.funcs[f]? = some fn) :
    true = Tryd.pinned.checked.prog.looks [] ∧ ∀ (j : Nat) t, fn.params[j]? = some t → Tryd.pinned.checked.prog.wantsStandIn t = false := by
  obtain rfl : f = 8 := Option.some.inj ((show Tryd.prog.funcNamed "foretell/foretellkeep.SplitJoin" = some 8 by kernel_rfl).symm.trans hf) |>.symm
  obtain rfl : fn = Tryd.f8 := (Option.some.inj (Tryd.func8.symm.trans hfn)).symm
  refine ⟨by kernel_rfl, fun j t ht => ?_⟩
  rw [Tryd.params8] at ht
  have ht' := Array.mem_of_getElem? ht
  simp only [List.mem_toArray, List.mem_cons, List.not_mem_nil, or_false] at ht'
  subst ht'
  exact (show Tryd.prog.wantsStandIn 39 = false by kernel_rfl)

/-- THE CARD. -/
theorem splitJoin_card : Rows.SplitJoinCardSaid :=
  Claim7.holds_tied_plain_at .later [] _ _ _ _ splitJoin_said (fun _ h => by cases h) (by kernel_rfl) (fun _ h => by cases h) splitJoin_row_tie rfl ⟨rfl, rfl⟩ (by kernel_rfl) rfl splitJoin_plain (by kernel_rfl)
#print axioms splitJoin_card
end Go.Proofs.YtkdbblchkkemgaaDoor
