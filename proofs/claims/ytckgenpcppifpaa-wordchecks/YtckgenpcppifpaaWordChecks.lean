/-
  Proved: foretelllaw.WordChecks answers true at every word and every number of propositions (word.Check answers as the document's P6.1 does). No condition.
-/
import Derived.Test.YtckgenpcppifpaaRowP
import Derived.Test.YtckgenpcppifpaaLettersOf
import Derived.Test.YtckgenpcppifpaaWCheck
import Derived.Test.YtckgenpcppifpaaRefWord0
namespace Go.Proofs.Ytckgenpcppifpaa
open Go.ChangeShapes Go.WideShapes Go.ChangeAt Go.RowKit Go.Deep
open Terms

set_option maxHeartbeats 800000 in
set_option maxRecDepth 20000 in
theorem wordChecks_walk (sv lv : Value) (ss ll : List (List Bool)) (props : Int) (w : World) (hzs : LetSz ss) (hzl : LetSz ll) (hS : LettersW w sv ss) (hL : LettersW w lv ll) :
    Calls Try.prog 3 #[.agg #[sv, lv], .int .i64 props] w fun e w' => e = .returned (.bool true) ∧ Below w.heap.size w w' := by
  obtain ⟨so, sc, rfl⟩ := hS.v.shape
  obtain ⟨lo, lc, rfl⟩ := hL.v.shape
  obtain ⟨W0, hW0⟩ : ∃ W0, W0 = w.alloc (.cells #[.slice so ss.length sc, .slice lo ll.length lc] 24) := ⟨_, rfl⟩
  have hA : Below w.heap.size w W0 := by rw [hW0]; exact (Below.refl _ _).alloc (Nat.le_refl _) _
  have hz0 : W0.heap.size = w.heap.size + 1 := by rw [hW0]; simp
  have d0 : W0.cell? ⟨w.heap.size, 0, none⟩ = some (.slice so ss.length sc) := by rw [hW0]; simp [go_sem]
  have d1 : W0.cell? ⟨w.heap.size, 1, none⟩ = some (.slice lo ll.length lc) := by rw [hW0]; simp [go_sem]
  have hwo := words_any _ _ ss ll W0 hzs hzl (hS.below hA) (hL.below hA)
  have hch := fun w1 sv' lv' (h : LettersV w1 sv' ss ∧ LettersV w1 lv' ll) => wcheck_any sv' lv' ss ll props w1 hzs.le hzl.le h.1 h.2
  have hrf := fun w1 (hb : Below w.heap.size w w1) => wfault_any _ _ ss ll props w1 hzs.le hzl.le (hS.v.below hb) (hL.v.below hb)
  have hwo2 : Calls Try.prog 5 #[.agg #[.slice so ss.length sc, .slice lo ll.length lc]] W0 fun e w' => ∃ xo xc yo yc, e = .returned (.agg #[.slice xo ss.length xc, .slice yo ll.length yc]) ∧ Below W0.heap.size W0 w' ∧ Hid (LettersV w' (.slice xo ss.length xc) ss ∧ LettersV w' (.slice yo ll.length yc) ll) := hwo.mono fun e w' ⟨sv', lv', h1, h2, h3⟩ => by
    obtain ⟨xo, xc, rfl⟩ := h3.out.1.shape
    obtain ⟨yo, yc, rfl⟩ := h3.out.2.shape
    exact ⟨xo, xc, yo, yc, h1, h2, h3⟩
  have HD : Hid (∀ w1, Below W0.heap.size W0 w1 → Below w.heap.size w w1 ∧ w1.cell? ⟨w.heap.size, 0, none⟩ = some (.slice so ss.length sc) ∧ w1.cell? ⟨w.heap.size, 1, none⟩ = some (.slice lo ll.length lc)) := fun w1 hb => ⟨hA.trans (hb.mono hA.size), (hb.cell (p := ⟨w.heap.size, 0, none⟩) (by show w.heap.size < _; omega)).trans d0, (hb.cell (p := ⟨w.heap.size, 1, none⟩) (by show w.heap.size < _; omega)).trans d1⟩
  generalize wcode props ss ll = x at *
  generalize ss.length = sn at *
  generalize ll.length = ln at *
  clear hwo hS hL hzs hzl hz0
  subst hW0
  go_enter Try.func3, Try.ntmps3
  go_wp2_with (first | (go_at_call 5; refine hwo2.mono ?_; rintro e w1 ⟨xo, xc, yo, yc, rfl, hb1, HL⟩; have hc1 := hch w1 _ _ HL.out) | (go_at_call 4; refine hc1.mono ?_; rintro e w2 ⟨rfl, hb2⟩; obtain ⟨hb12, e0, e1⟩ := HD.out w2 (hb1.trans (hb2.mono hb1.size)); have hr2 := hrf w2 hb12) | (go_at_call 6; refine hr2.mono ?_; rintro e w3 ⟨rfl, hb3⟩))
  go_ret
  exact ⟨by first | rfl | simp, hb12.trans (hb3.mono hb12.size)⟩

set_option maxRecDepth 20000 in
theorem wordChecks_contract (H : Type) (enc : TypeId × Value → H) (W : World) (base : Nat) (args : Array Value) (ds gs : List (DataW H)) (before : List MemPlace)
    (hval : ∀ (j : Nat) t v, Try.f3.params[j]? = some t → args[j]? = some v → Value.okWide Try.prog W .any base t v)
    (hW : DataW.Whole enc Try.prog Try.f3.params.toList Rows.wordChecksSpec.vars false W args.toList ds gs before)
    (hsz0 : (DataW.weightsEach Try.prog (Try.f3.params.toList ++ (OpenSpec.ofChange Rows.wordChecksSpec).bare.plain.varTypes Try.prog) (ds ++ gs)).all (· ≤ reachBytes) = true)
    (_hL : laidMetH Try.prog Rows.wordChecksRow.laid W) :
    Calls Try.prog 3 args W fun e W' => ∃ v, e = .returned v ∧ Rows.wordChecksSpec.post enc Try.prog Try.f3 false true false false W args v W' := by
  have hW' := hW
  obtain ⟨p, q, hA0, hV, rfl, hfz, hnd⟩ := hW
  have hA : DataW.TrodAll enc Try.prog W 0 (fun _ => true) true Try.f3.params.toList args.toList ds p := hA0
  rw [Try.params3] at hA hval
  obtain ⟨v0, vs0, d0, ds0, p0, q0, hargs, rfl, rfl, h0, r0⟩ := trodAll_cons hA
  obtain ⟨v1, vs1, d1, ds1, p1, q1, rfl, rfl, rfl, h1, r1⟩ := trodAll_cons r0
  obtain ⟨rfl, rfl, rfl⟩ := trodAll_nil r1
  obtain rfl : args = #[v0, v1] := by cases args; simp_all
  obtain ⟨rfl, rfl⟩ := trodVars_none hV
  have hsz : (DataW.weightsEach Try.prog [24, 3] [d0, d1]).all (· ≤ reachBytes) = true := hsz0
  obtain ⟨sv, lv, ss, ll, rfl, hss, hll, hzs, hzl⟩ := open_word (hval 0 24 v0 rfl rfl) h0 hsz (j := 0) rfl rfl
  obtain ⟨props, rfl, rfl, rfl, wf1⟩ := open_int Try.underlying3 (hval 1 3 v1 rfl rfl) h1
  refine (wordChecks_walk sv lv ss ll props W hzs hzl hss hll).mono fun e W' ⟨he, hb⟩ => ⟨_, he, ?_⟩
  refine law_post (fun t ht => ?_) rfl (by kernel_rfl) hW' rfl rfl rfl hb
  rw [Try.params3] at ht
  simp only [List.mem_cons, List.not_mem_nil, or_false] at ht
  rcases ht with rfl | rfl
  · exact ⟨by kernel_rfl, of_decide_eq_true (by kernel_rfl)⟩
  · exact ⟨by kernel_rfl, of_decide_eq_true (by kernel_rfl)⟩

/-- A WORLD FOR THE WITNESS: the settled one. -/
noncomputable def wordChecksWorld (os : Os) : World := World.holding Try.prog os ⟨#[], #[], []⟩
theorem wordChecks_met (os : Os) : laidMet Try.prog Rows.wordChecksRow.laid ((wordChecksWorld os).forCall (fun _ _ => 0) ⟨#[], #[.agg #[.slice none 0 0, .slice none 0 0], .int .i64 0], []⟩).memory :=
  laidMet_of_run' 8 (by kernel_rfl) (by kernel_rfl)
theorem wordChecks_reads (os : Os) {H : Type} (enc : TypeId × Value → H) : ∃ places, DataW.whole enc Try.prog ((wordChecksWorld os).forCall (fun _ _ => 0) ⟨#[], #[.agg #[.slice none 0 0, .slice none 0 0], .int .i64 0], []⟩).memory Try.f3.params.toList Rows.wordChecksSpec.vars false #[Value.agg #[.slice none 0 0, .slice none 0 0], .int .i64 0].toList 8 = some ([.agg [.nil, .nil], .lit (.int .i64 0)], [], places) :=
  ⟨[], by kernel_rfl⟩

set_option maxRecDepth 100000 in
theorem wordChecks_lifted (os : Os) (started : os.Started) (H : Type) (enc : TypeId × Value → H) (F : Stop.Interp) :
    ReturnsInHanded {} Try.checked os 3 .any ((OpenSpec.ofChange Rows.wordChecksSpec).preRow enc Try.prog Try.f3 Rows.wordChecksRow.domain false Rows.wordChecksRow.laid) (((OpenSpec.ofChange Rows.wordChecksSpec).at F).post enc Try.prog Try.f3 false true false false) := by
  obtain ⟨places, hx⟩ := wordChecks_reads os enc
  refine returnsInHanded_of_row (C := Try.checked) (s := OpenSpec.ofChange Rows.wordChecksSpec) own started (by kernel_rfl) Try.func3
    (witness_row_at (enc := enc) (C := Try.checked) false (wordChecksWorld os) #[.agg #[.slice none 0 0, .slice none 0 0], .int .i64 0] rfl (by kernel_rfl) (by kernel_rfl) (by kernel_rfl)
      (OpenSpec.preRow_of_cond 8 hx (by kernel_rfl) (fun k hk => by cases hk) (by kernel_rfl) (wordChecks_met os))) ?_
  intro W base args ds gs before hval hW _ _ hsz hL _ _
  exact wordChecks_contract H enc W base args ds gs before hval hW hsz hL

theorem wordChecks_said : Rows.WordChecksSaid :=
  OpenClaim.holds_of_cond 3 Try.f3 rfl rfl rfl rfl rfl rfl rfl ⟨rfl, rfl, rfl, rfl, rfl⟩ rfl rfl rfl rfl rfl (by kernel_rfl) Try.func3 (by kernel_rfl)
    (of_decide_eq_true (by kernel_rfl)) (by unfold Func.isWrapper; first | (rw [if_pos (by decide +kernel)]; kernel_rfl) | (rw [if_neg (by decide +kernel)]; exact ⟨rfl, rfl⟩))
    (fun os started H enc _ F => by rw [OpenClaim.pre_eq_preRow]; exact wordChecks_lifted os started H enc F)

#print axioms wordChecks_said
end Go.Proofs.Ytckgenpcppifpaa
