/-
  Proved: foretelllaw.WordMoments answers true at every list of ops, every word and every number of propositions (word.Moments answers as the document's P6.3 does, and leaves the word as it was), given that the table polish.partCounts reads as its initialiser lays it, which the card ties to the program's text. No other condition.
-/
import Derived.Test.YtalbnbcfdpfofaaDoorCards
import Derived.Test.YtalbnbcfdpfofaaDoorTie
import Derived.Test.YtalbnbcfdpfofaaDoorRow
import Derived.Test.YtalbnbcfdpfofaaDoorOpsOf
import Derived.Test.YtalbnbcfdpfofaaDoorLettersOf
import Derived.Test.YtalbnbcfdpfofaaDoorWMom
import Derived.Test.YtalbnbcfdpfofaaDoorRefMom
import Derived.Test.YtalbnbcfdpfofaaDoorWMomWalk
namespace Go.Proofs.YtalbnbcfdpfofaaDoor
open Go.ChangeShapes Go.WideShapes Go.ChangeAt Go.RowKit Go.Deep
open Terms

set_option maxHeartbeats 1600000 in
set_option maxRecDepth 20000 in
theorem wordMoments_walk (v sv lv : Value) (l : List (Int × Int)) (ss ll : List (List Bool)) (props : Int) (w : World) (hlz : l.length * 16 ≤ 140737488355328) (hB : 0 < w.heap.size) (hT : TabAt w) (hV : OpsV w v l) (hzs : LetSz ss) (hzl : LetSz ll) (hS : LettersW w sv ss) (hL : LettersW w lv ll) :
    Calls Tryd.prog 3 #[v, .agg #[sv, lv], .int .i64 props] w fun e w' => e = .returned (.bool true) ∧ Below w.heap.size w w' := by
  obtain ⟨r, x, hrl, hH, hR⟩ : ∃ (r : List Bool) (x : Int), r.length ≤ 140737488355328 ∧ (∀ w1 v' sv' lv', 0 < w1.heap.size → TabAt w1 → OpsV w1 v' l → LettersV w1 sv' ss → LettersV w1 lv' ll → Calls Tryd.prog 6 #[v', .agg #[sv', lv'], .int .i64 props] w1 fun e w' => ∃ mo mc, e = .returned (.tuple #[.slice mo r.length mc, .int .i64 x]) ∧ Below w1.heap.size w1 w' ∧ Hid (BoolsV w' (.slice mo r.length mc) r)) ∧ ∀ w1 v' sv' lv', OpsV w1 v' l → LettersV w1 sv' ss → LettersV w1 lv' ll → Calls Tryd.prog 8 #[v', .agg #[sv', lv'], .int .i64 props] w1 fun e w' => ∃ mo mc, e = .returned (.tuple #[.slice mo r.length mc, .int .i64 x]) ∧ Below w1.heap.size w1 w' ∧ Hid (BoolsV w' (.slice mo r.length mc) r) := by
    by_cases hc : mocode props l ss ll = 0
    · obtain ⟨t, hwf, hto⟩ := tree_of (code_zero (lcode_zero (mocode_zero hc).1).2.2.1).2
      obtain ⟨_, h12, _, hl12, _⟩ := wcode_zero (mocode_zero hc).2
      have hlen : ((List.range (ss.length + ll.length)).map (t.hb (sig (ss ++ ll) ss.length))).length = ss.length + ll.length := by simp
      refine ⟨(List.range (ss.length + ll.length)).map (t.hb (sig (ss ++ ll) ss.length)), 0, by rw [hlen]; omega, fun w1 v' sv' lv' h1 h2 h3 h4 h5 => (moments_ok v' sv' lv' l ss ll props t w1 h1 h2 h3 h4 h5 hc hwf hto).mono fun e w' ⟨rb, q1, q2, q3⟩ => ⟨_, _, by rw [hlen]; exact q1, q2, by rw [hlen]; exact q3.out.boolsV⟩, fun w1 v' sv' lv' h3 h4 h5 => (rmoments_ok v' sv' lv' l ss ll props t w1 h3 h4 h5 hc hwf hto).mono fun e w' ⟨rb, rc, q1, q2, q3⟩ => ⟨_, _, by rw [hlen]; exact q1, q2, by rw [hlen]; exact q3.out.boolsC rc⟩⟩
    · exact ⟨[], mocode props l ss ll, by simp, fun w1 v' sv' lv' h1 h2 h3 h4 h5 => (moments_bad v' sv' lv' l ss ll props w1 h1 h2 h3 hzs.le hzl.le h4 h5 hc).mono fun e w' ⟨q1, q2⟩ => ⟨none, 0, q1, q2, ⟨none, 0, rfl, fun h => absurd rfl h⟩⟩, fun w1 v' sv' lv' h3 h4 h5 => (rmoments_bad v' sv' lv' l ss ll props w1 h3 hzs.le hzl.le h4 h5 hc).mono fun e w' ⟨q1, q2⟩ => ⟨none, 0, q1, q2, ⟨none, 0, rfl, fun h => absurd rfl h⟩⟩⟩
  exact wordMoments_walk0 v sv lv l ss ll props w hlz hB hT hV hzs hzl hS hL r x hrl hH hR

set_option maxRecDepth 20000 in
theorem wordMoments_contract (H : Type) (enc : TypeId × Value → H) (W : World) (base : Nat) (args : Array Value) (ds gs : List (DataW H)) (before : List MemPlace)
    (hval : ∀ (j : Nat) t v, Tryd.f3.params[j]? = some t → args[j]? = some v → Value.okWide Tryd.prog W .any base t v)
    (hW : DataW.Whole enc Tryd.prog Tryd.f3.params.toList Rows.wordMomentsSpec.vars false W args.toList ds gs before)
    (hsz0 : (DataW.weightsEach Tryd.prog (Tryd.f3.params.toList ++ (OpenSpec.ofChange Rows.wordMomentsSpec).bare.plain.varTypes Tryd.prog) (ds ++ gs)).all (· ≤ reachBytes) = true)
    (hL : laidMetH Tryd.prog Rows.wordMomentsRow.laid W) :
    Calls Tryd.prog 3 args W fun e W' => ∃ v, e = .returned v ∧ Rows.wordMomentsSpec.post enc Tryd.prog Tryd.f3 false true false false W args v W' := by
  have hW' := hW
  obtain ⟨p, q, hA0, hV, rfl, hfz, hnd⟩ := hW
  have hA : DataW.TrodAll enc Tryd.prog W 0 (fun _ => true) true Tryd.f3.params.toList args.toList ds p := hA0
  rw [Tryd.params3] at hA hval
  obtain ⟨v0, vs0, d0, ds0, p0, q0, hargs, rfl, rfl, h0, r0⟩ := trodAll_cons hA
  obtain ⟨v1, vs1, d1, ds1, p1, q1, rfl, rfl, rfl, h1, r1⟩ := trodAll_cons r0
  obtain ⟨v2, vs2, d2, ds2, p2, q2, rfl, rfl, rfl, h2, r2⟩ := trodAll_cons r1
  obtain ⟨rfl, rfl, rfl⟩ := trodAll_nil r2
  obtain rfl : args = #[v0, v1, v2] := by cases args; simp_all
  obtain ⟨rfl, rfl⟩ := trodVars_none hV
  have hsz : (DataW.weightsEach Tryd.prog [22, 25, 3] [d0, d1, d2]).all (· ≤ reachBytes) = true := hsz0
  obtain ⟨l, hl, hlenl⟩ := open_ops (hval 0 22 v0 rfl rfl) h0 hsz (j := 0) rfl rfl
  obtain ⟨sv, lv, ss, ll, rfl, hss, hll, hzs, hzl⟩ := open_word (hval 1 25 v1 rfl rfl) h1 hsz (j := 1) rfl rfl
  obtain ⟨props, rfl, rfl, rfl, wf2⟩ := open_int Tryd.underlying3 (hval 2 3 v2 rfl rfl) h2
  have hT := tabAt hL
  refine (wordMoments_walk v0 sv lv l ss ll props W hlenl (tab_size hT) hT hl hzs hzl hss hll).mono fun e W' ⟨he, hb⟩ => ⟨_, he, ?_⟩
  refine law_post (fun t ht => ?_) rfl (by kernel_rfl) hW' rfl rfl rfl hb
  rw [Tryd.params3] at ht
  simp only [List.mem_cons, List.not_mem_nil, or_false] at ht
  rcases ht with rfl | rfl | rfl
  · exact ⟨by kernel_rfl, of_decide_eq_true (by kernel_rfl)⟩
  · exact ⟨by kernel_rfl, of_decide_eq_true (by kernel_rfl)⟩
  · exact ⟨by kernel_rfl, of_decide_eq_true (by kernel_rfl)⟩

/-- A WORLD FOR THE WITNESS: the settled one, the table (block 0) holding what its initialiser lays. -/
noncomputable def wordMomentsWorld (os : Os) : World :=
  { World.holding Tryd.prog os ⟨#[], #[], []⟩ with heap := (World.holding Tryd.prog os ⟨#[], #[], []⟩).heap.modify 0 fun
      | .cells _ t frozen => .cells #[.int .i64 0, .int .i64 0, .int .i64 0, .int .i64 2, .int .i64 2, .int .i64 2, .int .i64 2, .int .i64 2, .int .i64 2, .int .i64 2, .int .i64 1, .int .i64 0, .int .i64 0, .int .i64 0, .int .i64 1, .int .i64 2, .int .i64 2, .int .i64 1, .int .i64 1] t frozen
      | o => o }
theorem wordMoments_met (os : Os) : laidMet Tryd.prog Rows.wordMomentsRow.laid ((wordMomentsWorld os).forCall (fun _ _ => 0) ⟨#[], #[.slice none 0 0, .agg #[.slice none 0 0, .slice none 0 0], .int .i64 0], []⟩).memory :=
  laidMet_of_run' 8 (by kernel_rfl) (by kernel_rfl)
theorem wordMoments_reads (os : Os) {H : Type} (enc : TypeId × Value → H) : ∃ places, DataW.whole enc Tryd.prog ((wordMomentsWorld os).forCall (fun _ _ => 0) ⟨#[], #[.slice none 0 0, .agg #[.slice none 0 0, .slice none 0 0], .int .i64 0], []⟩).memory Tryd.f3.params.toList Rows.wordMomentsSpec.vars false #[Value.slice none 0 0, .agg #[.slice none 0 0, .slice none 0 0], .int .i64 0].toList 8 = some ([.nil, .agg [.nil, .nil], .lit (.int .i64 0)], [], places) :=
  ⟨[], by kernel_rfl⟩

set_option maxRecDepth 100000 in
theorem wordMoments_lifted (os : Os) (started : os.Started) (H : Type) (enc : TypeId × Value → H) (F : Stop.Interp) :
    ReturnsInHanded {} Tryd.checked os 3 .any ((OpenSpec.ofChange Rows.wordMomentsSpec).preRow enc Tryd.prog Tryd.f3 Rows.wordMomentsRow.domain false Rows.wordMomentsRow.laid) (((OpenSpec.ofChange Rows.wordMomentsSpec).at F).post enc Tryd.prog Tryd.f3 false true false false) := by
  obtain ⟨places, hx⟩ := wordMoments_reads os enc
  refine returnsInHanded_of_row (C := Tryd.checked) (s := OpenSpec.ofChange Rows.wordMomentsSpec) own started (by kernel_rfl) Tryd.func3
    (witness_row_at (enc := enc) (C := Tryd.checked) false (wordMomentsWorld os) #[.slice none 0 0, .agg #[.slice none 0 0, .slice none 0 0], .int .i64 0] rfl (by kernel_rfl) (by kernel_rfl) (by kernel_rfl)
      (OpenSpec.preRow_of_cond 8 hx (by kernel_rfl) (fun k hk => by cases hk) (by kernel_rfl) (wordMoments_met os))) ?_
  intro W base args ds gs before hval hW _ _ hsz hL _ _
  exact wordMoments_contract H enc W base args ds gs before hval hW hsz hL

theorem wordMoments_said : Rows.WordMomentsSaid :=
  OpenClaim.holds_of_cond 3 Tryd.f3 rfl rfl rfl rfl rfl rfl rfl ⟨rfl, rfl, rfl, rfl, rfl⟩ rfl rfl rfl rfl rfl (by kernel_rfl) Tryd.func3 (by kernel_rfl)
    (of_decide_eq_true (by kernel_rfl)) (by unfold Func.isWrapper; first | (rw [if_pos (by decide +kernel)]; kernel_rfl) | (rw [if_neg (by decide +kernel)]; exact ⟨rfl, rfl⟩))
    (fun os started H enc _ F => by rw [OpenClaim.pre_eq_preRow]; exact wordMoments_lifted os started H enc F)

theorem wordMoments_plain (f : FuncId) (fn : Func) (hf : Tryd.pinned.checked.prog.funcNamed "foretell/foretelllaw.WordMoments" = some f) (hfn : Tryd.pinned.checked.prog.funcs[f]? = some fn) :
    true = Tryd.pinned.checked.prog.looks [] ∧ ∀ (j : Nat) t, fn.params[j]? = some t → Tryd.pinned.checked.prog.wantsStandIn t = false := by
  obtain rfl : f = 3 := Option.some.inj ((show Tryd.prog.funcNamed "foretell/foretelllaw.WordMoments" = some 3 by kernel_rfl).symm.trans hf) |>.symm
  obtain rfl : fn = Tryd.f3 := (Option.some.inj (Tryd.func3.symm.trans hfn)).symm
  refine ⟨by kernel_rfl, fun j t ht => ?_⟩
  rw [Tryd.params3] at ht
  have ht' := Array.mem_of_getElem? ht
  simp only [List.mem_toArray, List.mem_cons, List.not_mem_nil, or_false] at ht'
  rcases ht' with rfl | rfl | rfl
  · exact (show Tryd.prog.wantsStandIn 22 = false by kernel_rfl)
  · exact (show Tryd.prog.wantsStandIn 25 = false by kernel_rfl)
  · exact (show Tryd.prog.wantsStandIn 3 = false by kernel_rfl)

/-- THE CARD. -/
theorem wordMoments_card : Rows.WordMomentsCardSaid :=
  Claim7.holds_tied_plain_at .later [] _ _ _ _ wordMoments_said (fun _ h => by cases h) (by kernel_rfl) (fun _ h => by cases h) wordMoments_row_tie rfl ⟨rfl, rfl⟩ (by kernel_rfl) rfl wordMoments_plain (by kernel_rfl)
#print axioms wordMoments_card
end Go.Proofs.YtalbnbcfdpfofaaDoor
