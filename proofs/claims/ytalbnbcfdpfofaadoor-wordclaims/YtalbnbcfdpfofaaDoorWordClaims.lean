/-
  Proved: foretelllaw.WordClaims answers true at every list of ops, every word and every number of propositions (word.Claims answers as the document's P6.5 does), given that the table polish.partCounts reads as its initialiser lays it, which the card ties to the program's text. No other condition.
-/
import Derived.Test.YtalbnbcfdpfofaaDoorCards
import Derived.Test.YtalbnbcfdpfofaaDoorTie
import Derived.Test.YtalbnbcfdpfofaaDoorRow
import Derived.Test.YtalbnbcfdpfofaaDoorOpsOf
import Derived.Test.YtalbnbcfdpfofaaDoorIntsOf
import Derived.Test.YtalbnbcfdpfofaaDoorSameInts
import Derived.Test.YtalbnbcfdpfofaaDoorLettersOf
import Derived.Test.YtalbnbcfdpfofaaDoorWClm2
import Derived.Test.YtalbnbcfdpfofaaDoorLate
namespace Go.Proofs.YtalbnbcfdpfofaaDoor
open Go.ChangeShapes Go.WideShapes Go.ChangeAt Go.RowKit Go.Deep
open Terms

set_option maxHeartbeats 1600000 in
set_option maxRecDepth 20000 in
theorem wordClaims_walk (v sv lv : Value) (l : List (Int × Int)) (ss ll : List (List Bool)) (props : Int) (w : World) (hlz : l.length * 16 ≤ 140737488355328) (hB : 0 < w.heap.size) (hT : TabAt w) (hV : OpsV w v l) (hzs : LetSz ss) (hzl : LetSz ll) (hS : LettersW w sv ss) (hL : LettersW w lv ll) :
    Calls Tryd.prog 4 #[v, .agg #[sv, lv], .int .i64 props] w fun e w' => e = .returned (.bool true) ∧ Below w.heap.size w w' := by
  obtain ⟨r, x, hrl, hH, hR⟩ : ∃ (r : List Int) (x : Int), r.length ≤ 140737488355328 ∧ (∀ w1 v' sv' lv', 0 < w1.heap.size → TabAt w1 → OpsV w1 v' l → LettersV w1 sv' ss → LettersV w1 lv' ll → Calls Tryd.prog 11 #[v', .agg #[sv', lv'], .int .i64 props] w1 fun e w' => ∃ cv, e = .returned (.tuple #[cv, .int .i64 x]) ∧ Below w1.heap.size w1 w' ∧ Hid (IntsV w' cv r)) ∧ ∀ w1 v' sv' lv', OpsV w1 v' l → LettersV w1 sv' ss → LettersV w1 lv' ll → Calls Tryd.prog 12 #[v', .agg #[sv', lv'], .int .i64 props] w1 fun e w' => ∃ cv, e = .returned (.tuple #[cv, .int .i64 x]) ∧ Below w1.heap.size w1 w' ∧ Hid (IntsV w' cv r) := by
    by_cases hc : mocode props l ss ll = 0
    · obtain ⟨t, hwf, hto⟩ := tree_of (code_zero (lcode_zero (mocode_zero hc).1).2.2.1).2
      obtain ⟨_, h12, h1, hl12, _⟩ := wcode_zero (mocode_zero hc).2
      refine ⟨clmL (aheadL l) (fun q => (t.sub q).hb (sig (ss ++ ll) ss.length)) (ss.length + ll.length), 0, by unfold clmL; simp; omega, fun w1 v' sv' lv' h1 h2 h3 h4 h5 => (claims_ok v' sv' lv' l ss ll props t w1 h1 h2 h3 h4 h5 hc hwf hto).mono fun e w' ⟨rb, e1, e2, e3⟩ => ⟨_, e1, e2, ?_⟩, fun w1 v' sv' lv' h3 h4 h5 => (rclaims_ok v' sv' lv' l ss ll props t w1 h3 h4 h5 hc hwf hto).mono fun e w' ⟨cv, e1, e2, e3⟩ => ⟨_, e1, e2, ?_⟩⟩
      · refine ⟨some ⟨rb, 0, none⟩, _, by unfold clmL; simp; rfl, fun _ => ⟨rb, 0, rfl, e3.out.lt, fun i hi => ?_⟩⟩
        rw [show (clmL (aheadL l) (fun q => (t.sub q).hb (sig (ss ++ ll) ss.length)) (ss.length + ll.length)).length = ss.length + ll.length by unfold clmL; simp] at hi
        rw [Nat.zero_add, e3.out.cell hi]
        simp [clmL, List.getD_eq_getElem?_getD, hi]
      · refine intsV_of_owns (base := w1.heap.size) ?_
        rw [show (clmL (aheadL l) (fun q => (t.sub q).hb (sig (ss ++ ll) ss.length)) (ss.length + ll.length)).length = ss.length + ll.length by unfold clmL; simp]
        exact e3.out
    · exact ⟨[], mocode props l ss ll, by simp, fun w1 v' sv' lv' h1 h2 h3 h4 h5 => (claims_bad v' sv' lv' l ss ll props w1 h1 h2 h3 hzs.le hzl.le h4 h5 hc).mono fun e w' ⟨e1, e2⟩ => ⟨_, e1, e2, none, 0, rfl, fun h => absurd rfl h⟩, fun w1 v' sv' lv' h3 h4 h5 => (rclaims_bad v' sv' lv' l ss ll props w1 h3 hzs.le hzl.le h4 h5 hc).mono fun e w' ⟨e1, e2⟩ => ⟨_, e1, e2, none, 0, rfl, fun h => absurd rfl h⟩⟩
  obtain ⟨so, sc, rfl⟩ := hS.v.shape
  obtain ⟨lo, lc, rfl⟩ := hL.v.shape
  obtain ⟨W0, hW0⟩ : ∃ W0, W0 = w.alloc (.cells #[.slice so ss.length sc, .slice lo ll.length lc] 25) := ⟨_, rfl⟩
  have hA : Below w.heap.size w W0 := by rw [hW0]; exact (Below.refl _ _).alloc (Nat.le_refl _) _
  have hz0 : W0.heap.size = w.heap.size + 1 := by rw [hW0]; simp
  have d0 : W0.cell? ⟨w.heap.size, 0, none⟩ = some (.slice so ss.length sc) := by rw [hW0]; simp [go_sem]
  have d1 : W0.cell? ⟨w.heap.size, 1, none⟩ = some (.slice lo ll.length lc) := by rw [hW0]; simp [go_sem]
  have HOp : Hid (∀ Y, Below W0.heap.size W0 Y → Calls Tryd.prog 7 #[v] Y fun e w' => ∃ dv, e = .returned dv ∧ Below Y.heap.size Y w' ∧ w'.ownsRow Y.heap.size 48 2 dv l.length (flat l)) := fun Y hb => (ops_any v l Y hlz (hV.below (hA.trans (hb.mono hA.size)))).mono fun e w' ⟨dv, h1, h2, h3⟩ => ⟨dv, h1, h2, h3⟩
  have HWo : Hid (∀ w1, Below W0.heap.size W0 w1 → Calls Tryd.prog 5 #[.agg #[.slice so ss.length sc, .slice lo ll.length lc]] w1 fun e w' => ∃ xo xc yo yc, e = .returned (.agg #[.slice xo ss.length xc, .slice yo ll.length yc]) ∧ Below w1.heap.size w1 w' ∧ Hid (LettersV w' (.slice xo ss.length xc) ss ∧ LettersV w' (.slice yo ll.length yc) ll)) := fun w1 hb' => by
    have hb := hA.trans (hb'.mono hA.size)
    refine (words_any _ _ ss ll w1 hzs hzl (hS.below hb) (hL.below hb)).mono fun e w' ⟨sv', lv', h1, h2, h3⟩ => ?_
    obtain ⟨xo, xc, rfl⟩ := h3.out.1.shape
    obtain ⟨yo, yc, rfl⟩ := h3.out.2.shape
    exact ⟨xo, xc, yo, yc, h1, h2, h3⟩
  have HD : ∀ w1, Below W0.heap.size W0 w1 → w1.cell? ⟨w.heap.size, 0, none⟩ = some (.slice so ss.length sc) ∧ w1.cell? ⟨w.heap.size, 1, none⟩ = some (.slice lo ll.length lc) ∧ Below W0.heap.size W0 w1 := fun w1 hb => ⟨(hb.cell (p := ⟨w.heap.size, 0, none⟩) (by show w.heap.size < _; omega)).trans d0, (hb.cell (p := ⟨w.heap.size, 1, none⟩) (by show w.heap.size < _; omega)).trans d1, hb⟩
  have HH : Hid (∀ w0 w1 w2 v' xo xc yo yc, Below W0.heap.size W0 w1 → w1.ownsRow w0 48 2 v' l.length (flat l) → Below w1.heap.size w1 w2 → LettersV w2 (.slice xo ss.length xc) ss ∧ LettersV w2 (.slice yo ll.length yc) ll → Calls Tryd.prog 11 #[v', .agg #[.slice xo ss.length xc, .slice yo ll.length yc], .int .i64 props] w2 fun e w' => ∃ co cc, e = .returned (.tuple #[.slice co r.length cc, .int .i64 x]) ∧ Below w2.heap.size w2 w' ∧ Hid (IntsV w' (.slice co r.length cc) r)) := fun w0 w1 w2 v' xo xc yo yc h1 ho h2 hl => by
    have h02 := hA.trans ((h1.trans (h2.mono h1.size)).mono hA.size)
    exact (hH w2 v' _ _ (Nat.lt_of_lt_of_le hB h02.size) (hT.below h02 hB) ((opsV_of_owns ho).below h2) hl.1 hl.2).mono fun e w' ⟨cv, e1, e2, e3⟩ => by
      obtain ⟨co, cc, rfl, _⟩ := id e3.out
      exact ⟨co, cc, e1, e2, e3⟩
  have HR : Hid (∀ w1, Below W0.heap.size W0 w1 → Calls Tryd.prog 12 #[v, .agg #[.slice so ss.length sc, .slice lo ll.length lc], .int .i64 props] w1 fun e w' => ∃ co cc, e = .returned (.tuple #[.slice co r.length cc, .int .i64 x]) ∧ Below w1.heap.size w1 w' ∧ Hid (IntsV w' (.slice co r.length cc) r)) := fun w1 hb' => (hR w1 _ _ _ (hV.below (hA.trans (hb'.mono hA.size))) (hS.v.below (hA.trans (hb'.mono hA.size))) (hL.v.below (hA.trans (hb'.mono hA.size)))).mono fun e w' ⟨cv, e1, e2, e3⟩ => by
    obtain ⟨co, cc, rfl, _⟩ := id e3.out
    exact ⟨co, cc, e1, e2, e3⟩
  have HSm : Hid (∀ w1 a b, IntsV w1 a r → IntsV w1 b r → Calls Tryd.prog 13 #[a, b] w1 fun e w' => e = .returned (.bool true) ∧ Below w1.heap.size w1 w') := fun w1 a b h1 h2 => sameInts_b a b r w1 hrl h1 h2
  obtain ⟨vo, vc, rfl, _⟩ := id hV
  have hB0 : Below W0.heap.size W0 W0 := Below.refl _ _
  have HV : Hid (W0 = w.alloc (.cells #[.slice so ss.length sc, .slice lo ll.length lc] 25)) := hW0
  generalize ss.length = sn at *
  generalize ll.length = ln at *
  generalize r.length = rn at *
  clear hS hL hzs hzl hz0 hH hR hV hT hlz d0 d1 hW0 hrl
  go_enter Tryd.func4, Tryd.ntmps4
  go_wp2_with fail
  rw [← HV.out]
  go_region_held3 (fun Y => Y.cell? ⟨w.heap.size, 0, none⟩ = some (.slice so sn sc) ∧ Y.cell? ⟨w.heap.size, 1, none⟩ = some (.slice lo ln lc) ∧ Below W0.heap.size W0 Y)
    (exact HD _ (by first | exact hB0 | exact hB0.drew | exact hb03 | exact hb02 | exact hb01))
    (first | (go_at_call 7; refine (HOp.out _ hB0.drew).mono ?_; rintro e w1 ⟨dv, rfl, hb1, ho1⟩; obtain ⟨dd, dc, rfl⟩ := owns_slice ho1; have hb01 := hB0.drew.trans (hb1.mono hB0.drew.size)) | (go_at_call 5; refine (HWo.out _ hb01).mono ?_; rintro e w2 ⟨xo, xc, yo, yc, rfl, hb2, HL⟩; have hb02 := hb01.trans (hb2.mono hb01.size); have hc1 := HH.out _ w1 w2 _ _ _ _ _ hb01 ho1 hb2 HL.out) | (go_at_call 11; refine hc1.mono ?_; rintro e w3 ⟨co, cc, rfl, hb3, HI3⟩; have hb03 := hb02.trans (hb3.mono hb02.size)))
  obtain ⟨g0, g1, _⟩ := HD w3 hb03
  have hr3 := HR.out w3 hb03
  go_wp2_with (first | (go_at_call 12; refine hr3.mono ?_; rintro e w4 ⟨go, gc, rfl, hb4, HI4⟩; have hs4 := HSm.out w4 _ _ (HI3.out.below hb4) HI4.out) | (go_at_call 13; refine hs4.mono ?_; rintro e w5 ⟨rfl, hb5⟩))
  go_ret
  have hbw3 := hA.trans (hb03.mono hA.size)
  exact ⟨by first | rfl | simp, (hbw3.trans (hb4.mono hbw3.size)).trans (hb5.mono (hbw3.trans (hb4.mono hbw3.size)).size)⟩

set_option maxRecDepth 20000 in
theorem wordClaims_contract (H : Type) (enc : TypeId × Value → H) (W : World) (base : Nat) (args : Array Value) (ds gs : List (DataW H)) (before : List MemPlace)
    (hval : ∀ (j : Nat) t v, Tryd.f4.params[j]? = some t → args[j]? = some v → Value.okWide Tryd.prog W .any base t v)
    (hW : DataW.Whole enc Tryd.prog Tryd.f4.params.toList Rows.wordClaimsSpec.vars false W args.toList ds gs before)
    (hsz0 : (DataW.weightsEach Tryd.prog (Tryd.f4.params.toList ++ (OpenSpec.ofChange Rows.wordClaimsSpec).bare.plain.varTypes Tryd.prog) (ds ++ gs)).all (· ≤ reachBytes) = true)
    (hL : laidMetH Tryd.prog Rows.wordClaimsRow.laid W) :
    Calls Tryd.prog 4 args W fun e W' => ∃ v, e = .returned v ∧ Rows.wordClaimsSpec.post enc Tryd.prog Tryd.f4 false true false false W args v W' := by
  have hW' := hW
  obtain ⟨p, q, hA0, hV, rfl, hfz, hnd⟩ := hW
  have hA : DataW.TrodAll enc Tryd.prog W 0 (fun _ => true) true Tryd.f4.params.toList args.toList ds p := hA0
  rw [Tryd.params4] at hA hval
  obtain ⟨v0, vs0, d0, ds0, p0, q0, hargs, rfl, rfl, h0, r0⟩ := trodAll_cons hA
  obtain ⟨v1, vs1, d1, ds1, p1, q1, rfl, rfl, rfl, h1, r1⟩ := trodAll_cons r0
  obtain ⟨v2, vs2, d2, ds2, p2, q2, rfl, rfl, rfl, h2, r2⟩ := trodAll_cons r1
  obtain ⟨rfl, rfl, rfl⟩ := trodAll_nil r2
  obtain rfl : args = #[v0, v1, v2] := by cases args; simp_all
  obtain ⟨rfl, rfl⟩ := trodVars_none hV
  have hsz : (DataW.weightsEach Tryd.prog [22, 25, 3] [d0, d1, d2]).all (· ≤ reachBytes) = true := hsz0
  obtain ⟨l, hl, hlenl⟩ := open_ops (hval 0 22 v0 rfl rfl) h0 hsz (j := 0) rfl rfl
  obtain ⟨sv, lv, ss, ll, rfl, hss, hll, hzs, hzl⟩ := open_word (hval 1 25 v1 rfl rfl) h1 hsz (j := 1) rfl rfl
  obtain ⟨props, rfl, rfl, rfl, wf2⟩ := open_int Tryd.underlying3 (hval 2 3 v2 rfl rfl) h2
  have hT := tabAt hL
  refine (wordClaims_walk v0 sv lv l ss ll props W hlenl (tab_size hT) hT hl hzs hzl hss hll).mono fun e W' ⟨he, hb⟩ => ⟨_, he, ?_⟩
  refine law_post (fun t ht => ?_) rfl (by kernel_rfl) hW' rfl rfl rfl hb
  rw [Tryd.params4] at ht
  simp only [List.mem_cons, List.not_mem_nil, or_false] at ht
  rcases ht with rfl | rfl | rfl
  · exact ⟨by kernel_rfl, of_decide_eq_true (by kernel_rfl)⟩
  · exact ⟨by kernel_rfl, of_decide_eq_true (by kernel_rfl)⟩
  · exact ⟨by kernel_rfl, of_decide_eq_true (by kernel_rfl)⟩

/-- A WORLD FOR THE WITNESS: the settled one, the table (block 0) holding what its initialiser lays. -/
noncomputable def wordClaimsWorld (os : Os) : World :=
  { World.holding Tryd.prog os ⟨#[], #[], []⟩ with heap := (World.holding Tryd.prog os ⟨#[], #[], []⟩).heap.modify 0 fun
      | .cells _ t frozen => .cells #[.int .i64 0, .int .i64 0, .int .i64 0, .int .i64 2, .int .i64 2, .int .i64 2, .int .i64 2, .int .i64 2, .int .i64 2, .int .i64 2, .int .i64 1, .int .i64 0, .int .i64 0, .int .i64 0, .int .i64 1, .int .i64 2, .int .i64 2, .int .i64 1, .int .i64 1] t frozen
      | o => o }
theorem wordClaims_met (os : Os) : laidMet Tryd.prog Rows.wordClaimsRow.laid ((wordClaimsWorld os).forCall (fun _ _ => 0) ⟨#[], #[.slice none 0 0, .agg #[.slice none 0 0, .slice none 0 0], .int .i64 0], []⟩).memory :=
  laidMet_of_run' 8 (by kernel_rfl) (by kernel_rfl)
theorem wordClaims_reads (os : Os) {H : Type} (enc : TypeId × Value → H) : ∃ places, DataW.whole enc Tryd.prog ((wordClaimsWorld os).forCall (fun _ _ => 0) ⟨#[], #[.slice none 0 0, .agg #[.slice none 0 0, .slice none 0 0], .int .i64 0], []⟩).memory Tryd.f4.params.toList Rows.wordClaimsSpec.vars false #[Value.slice none 0 0, .agg #[.slice none 0 0, .slice none 0 0], .int .i64 0].toList 8 = some ([.nil, .agg [.nil, .nil], .lit (.int .i64 0)], [], places) :=
  ⟨[], by kernel_rfl⟩

set_option maxRecDepth 100000 in
theorem wordClaims_lifted (os : Os) (started : os.Started) (H : Type) (enc : TypeId × Value → H) (F : Stop.Interp) :
    ReturnsInHanded {} Tryd.checked os 4 .any ((OpenSpec.ofChange Rows.wordClaimsSpec).preRow enc Tryd.prog Tryd.f4 Rows.wordClaimsRow.domain false Rows.wordClaimsRow.laid) (((OpenSpec.ofChange Rows.wordClaimsSpec).at F).post enc Tryd.prog Tryd.f4 false true false false) := by
  obtain ⟨places, hx⟩ := wordClaims_reads os enc
  refine returnsInHanded_of_row (C := Tryd.checked) (s := OpenSpec.ofChange Rows.wordClaimsSpec) own started (by kernel_rfl) Tryd.func4
    (witness_row_at (enc := enc) (C := Tryd.checked) false (wordClaimsWorld os) #[.slice none 0 0, .agg #[.slice none 0 0, .slice none 0 0], .int .i64 0] rfl (by kernel_rfl) (by kernel_rfl) (by kernel_rfl)
      (OpenSpec.preRow_of_cond 8 hx (by kernel_rfl) (fun k hk => by cases hk) (by kernel_rfl) (wordClaims_met os))) ?_
  intro W base args ds gs before hval hW _ _ hsz hL _ _
  exact wordClaims_contract H enc W base args ds gs before hval hW hsz hL

theorem wordClaims_said : Rows.WordClaimsSaid :=
  OpenClaim.holds_of_cond 4 Tryd.f4 rfl rfl rfl rfl rfl rfl rfl ⟨rfl, rfl, rfl, rfl, rfl⟩ rfl rfl rfl rfl rfl (by kernel_rfl) Tryd.func4 (by kernel_rfl)
    (of_decide_eq_true (by kernel_rfl)) (by unfold Func.isWrapper; first | (rw [if_pos (by decide +kernel)]; kernel_rfl) | (rw [if_neg (by decide +kernel)]; exact ⟨rfl, rfl⟩))
    (fun os started H enc _ F => by rw [OpenClaim.pre_eq_preRow]; exact wordClaims_lifted os started H enc F)

theorem wordClaims_plain (f : FuncId) (fn : Func) (hf : Tryd.pinned.checked.prog.funcNamed "foretell/foretelllaw.WordClaims" = some f) (hfn : Tryd.pinned.checked.prog.funcs[f]? = some fn) :
    true = Tryd.pinned.checked.prog.looks [] ∧ ∀ (j : Nat) t, fn.params[j]? = some t → Tryd.pinned.checked.prog.wantsStandIn t = false := by
  obtain rfl : f = 4 := Option.some.inj ((show Tryd.prog.funcNamed "foretell/foretelllaw.WordClaims" = some 4 by kernel_rfl).symm.trans hf) |>.symm
  obtain rfl : fn = Tryd.f4 := (Option.some.inj (Tryd.func4.symm.trans hfn)).symm
  refine ⟨by kernel_rfl, fun j t ht => ?_⟩
  rw [Tryd.params4] at ht
  have ht' := Array.mem_of_getElem? ht
  simp only [List.mem_toArray, List.mem_cons, List.not_mem_nil, or_false] at ht'
  rcases ht' with rfl | rfl | rfl
  · exact (show Tryd.prog.wantsStandIn 22 = false by kernel_rfl)
  · exact (show Tryd.prog.wantsStandIn 25 = false by kernel_rfl)
  · exact (show Tryd.prog.wantsStandIn 3 = false by kernel_rfl)

/-- THE CARD. -/
theorem wordClaims_card : Rows.WordClaimsCardSaid :=
  Claim7.holds_tied_plain_at .later [] _ _ _ _ wordClaims_said (fun _ h => by cases h) (by kernel_rfl) (fun _ h => by cases h) wordClaims_row_tie rfl ⟨rfl, rfl⟩ (by kernel_rfl) rfl wordClaims_plain (by kernel_rfl)
#print axioms wordClaims_card
end Go.Proofs.YtalbnbcfdpfofaaDoor
