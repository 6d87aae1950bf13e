/-
  Proved: foretelllaw.StepLetters answers true at every model, every list of terms and every code (step.Letter answers as the document's P4.3 does), given that the table polish.partCounts reads as its initialiser lays it, which the card ties to the program's text. No other condition.
-/
import Derived.Test.YtfgadcofijgghaaDoorCards
import Derived.Test.YtfgadcofijgghaaDoorTie
import Derived.Test.YtfgadcofijgghaaDoorRow
import Derived.Test.YtfgadcofijgghaaDoorModelOpen
import Derived.Test.YtfgadcofijgghaaDoorModelsOf
import Derived.Test.YtfgadcofijgghaaDoorLate
namespace Go.Proofs.YtfgadcofijgghaaDoor
open Go.ChangeShapes Go.WideShapes Go.ChangeAt Go.RowKit Go.Deep
open Terms Tm

set_option maxHeartbeats 3200000 in
set_option maxRecDepth 20000 in
theorem stepLetters_walk (va vr pv : Value) (m : Mo) (ps : List (List (Int × Int))) (code : Int) (w : World) (hB : 0 < w.heap.size) (hT : TabAt w) (hV : ModelV w va vr m) (hZ : MoSz m) (hP : TermsV w pv ps) (hp1 : ps.length * 24 ≤ 140737488355328) (hp2 : ∀ i, i < ps.length → (ps.getD i []).length * 16 ≤ 140737488355328) :
    Calls Tryd.prog 5 #[.agg #[va, vr], pv, .int .i64 code] w fun e w' => e = .returned (.bool true) ∧ Below w.heap.size w w' := by
  have hA : ∀ o, Below w.heap.size w (w.alloc o) := fun o => (Below.refl _ _).alloc (Nat.le_refl _) o
  have hmo := fun o => models_any va vr m (w.alloc o) hZ (hV.below (hA o))
  have hte := fun w1 (hb : Below w.heap.size w w1) => terms_any pv ps w1 hp1 hp2 (hP.below hb)
  have HV : Hid (ModelV w va vr m) := hV
  have HP : Hid (TermsV w pv ps) := hP
  have HT : Hid (TabAt w) := hT
  obtain ⟨ao, cap, rfl⟩ := hV.1.shape
  obtain ⟨ro, rc, rfl⟩ := hV.2.shape
  obtain ⟨po, pc, rfl⟩ := hP.shape
  generalize m.vars.length = n at *
  generalize m.rules.length = rn at *
  obtain ⟨pn, hpn⟩ : ∃ pn, pn = ps.length := ⟨_, rfl⟩
  have HPN : Hid (pn = ps.length) := hpn
  rw [← hpn] at hte HP ⊢
  clear hV hT hP hpn hp2
  go_enter Tryd.func5, Tryd.ntmps5
  go_wp2_with (first | (go_at_call 7; refine (hmo _).mono ?_; rintro e w1 ⟨va', vr', rfl, hb1, hV1⟩; obtain ⟨ao1, cap1, rfl⟩ := hV1.1.shape; obtain ⟨ro1, rc1, rfl⟩ := hV1.2.shape; have hbw1 := (hA _).trans (hb1.mono (hA _).size)) | (go_at_call 15; refine (hte _ hbw1).mono ?_; rintro e w2 ⟨tv, rfl, hb2, ho2⟩; have hT2 := ho2.termsV; obtain ⟨to, tc, htv⟩ := hT2.shape; rw [← HPN.out] at htv; subst htv))
  have hbw2 := hbw1.trans (hb2.mono hbw1.size)
  have hcc := letter_any _ _ _ m ps code w2 (Nat.lt_of_lt_of_le hB hbw2.size) (HT.out.below hbw2 hB) (hV1.below hb2) hT2
  have hrr := fun w3 (hb : Below w.heap.size w w3) => rletter_any _ _ _ m ps code w3 hp1 (HV.out.below hb) (HP.out.below hb)
  have hc0 : w1.cell? ⟨w.heap.size, 0, none⟩ = some (.slice ao n cap) := (hb1.cell (p := ⟨w.heap.size, 0, none⟩) (by simp)).trans (by simp [go_sem])
  have hc1 : w1.cell? ⟨w.heap.size, 1, none⟩ = some (.slice ro rn rc) := (hb1.cell (p := ⟨w.heap.size, 1, none⟩) (by simp)).trans (by simp [go_sem])
  have hs1 : w.heap.size < w1.heap.size := (by have := hb1.size; simp at this; omega)
  have hc20 := (hb2.cell (p := ⟨w.heap.size, 0, none⟩) hs1).trans hc0
  have hc21 := (hb2.cell (p := ⟨w.heap.size, 1, none⟩) hs1).trans hc1
  have hs2 := Nat.lt_of_lt_of_le hs1 hb2.size
  have HLL : Hid ((letL m ps code).length ≤ 140737488355328) := by
    show _ ≤ _
    unfold letL
    split
    · rw [List.length_map]; omega
    · simp
  generalize letC m ps code = x at hcc hrr
  generalize letL m ps code = lt at hcc hrr HLL
  clear hmo hte hV1 ho2 hT2 hb1 hb2 hc0 hc1
  go_wp2_with (first | (go_at_call 14; refine hcc.mono ?_; rintro e w3 ⟨lv, rfl, hb3, hL3⟩; obtain ⟨lo, lc, rfl, hl3⟩ := hL3; have hbw3 := hbw2.trans (hb3.mono hbw2.size); have hc30 := (hb3.cell (p := ⟨w.heap.size, 0, none⟩) hs2).trans hc20; have hc31 := (hb3.cell (p := ⟨w.heap.size, 1, none⟩) hs2).trans hc21) | (go_at_call 16; refine (hrr _ hbw3).mono ?_; rintro e w4 ⟨kv, rfl, hb4, hL4⟩; obtain ⟨ko, kc, rfl, hl4⟩ := hL4; have hst := (sameTruths_b (.slice lo lt.length lc) (.slice ko lt.length kc) lt w4 HLL.out (BoolsV.below ⟨lo, lc, rfl, hl3⟩ hb4) ⟨ko, kc, rfl, hl4⟩)) | (go_at_call 17; refine hst.mono ?_; rintro e w5 ⟨rfl, hb5⟩))
  all_goals go_ret
  all_goals exact ⟨by first | rfl | simp, (hbw3.trans (hb4.mono hbw3.size)).trans (hb5.mono (hbw3.trans (hb4.mono hbw3.size)).size)⟩

set_option maxRecDepth 20000 in
theorem stepLetters_contract (H : Type) (enc : TypeId × Value → H) (W : World) (base : Nat) (args : Array Value) (ds gs : List (DataW H)) (before : List MemPlace)
    (hval : ∀ (j : Nat) t v, Tryd.f5.params[j]? = some t → args[j]? = some v → Value.okWide Tryd.prog W .any base t v)
    (hW : DataW.Whole enc Tryd.prog Tryd.f5.params.toList Rows.stepLettersSpec.vars false W args.toList ds gs before)
    (hsz0 : (DataW.weightsEach Tryd.prog (Tryd.f5.params.toList ++ (OpenSpec.ofChange Rows.stepLettersSpec).bare.plain.varTypes Tryd.prog) (ds ++ gs)).all (· ≤ reachBytes) = true)
    (hL : laidMetH Tryd.prog Rows.stepLettersRow.laid W) :
    Calls Tryd.prog 5 args W fun e W' => ∃ v, e = .returned v ∧ Rows.stepLettersSpec.post enc Tryd.prog Tryd.f5 false true false false W args v W' := by
  have hW' := hW
  obtain ⟨p, q, hA0, hV, rfl, hfz, hnd⟩ := hW
  have hA : DataW.TrodAll enc Tryd.prog W 0 (fun _ => true) true Tryd.f5.params.toList args.toList ds p := hA0
  rw [Tryd.params5] at hA hval
  obtain ⟨v0, vs0, d0, ds0, p0, q0, hargs, rfl, rfl, h0, r0⟩ := trodAll_cons hA
  obtain ⟨v1, vs1, d1, ds1, p1, q1, rfl, rfl, rfl, h1, r1⟩ := trodAll_cons r0
  obtain ⟨v2, vs2, d2, ds2, p2, q2, rfl, rfl, rfl, h2, r2⟩ := trodAll_cons r1
  obtain ⟨rfl, rfl, rfl⟩ := trodAll_nil r2
  obtain rfl : args = #[v0, v1, v2] := by cases args; simp_all
  obtain ⟨rfl, rfl⟩ := trodVars_none hV
  have hsz : (DataW.weightsEach Tryd.prog [25, 37, 3] [d0, d1, d2]).all (· ≤ reachBytes) = true := hsz0
  obtain ⟨va, vr, m, rfl, hV, hZ⟩ := open_model (hval 0 25 v0 rfl rfl) h0 hsz (j := 0) rfl rfl
  obtain ⟨ps, hP, hp1, hp2⟩ := open_terms (hval 1 37 v1 rfl rfl) h1 hsz (j := 1) rfl rfl
  obtain ⟨code, rfl, rfl, rfl, wf2⟩ := open_int Tryd.underlying3 (hval 2 3 v2 rfl rfl) h2
  have hT := tabAt hL
  refine (stepLetters_walk va vr v1 m ps code W (tab_size hT) hT hV hZ hP hp1 hp2).mono fun e W' ⟨he, hb⟩ => ⟨_, he, ?_⟩
  refine law_post (fun t ht => ?_) rfl (by kernel_rfl) hW' rfl rfl rfl hb
  rw [Tryd.params5] at ht
  simp only [List.mem_cons, List.not_mem_nil, or_false] at ht
  rcases ht with rfl | rfl | rfl
  · exact ⟨by kernel_rfl, of_decide_eq_true (by kernel_rfl)⟩
  · exact ⟨by kernel_rfl, of_decide_eq_true (by kernel_rfl)⟩
  · exact ⟨by kernel_rfl, of_decide_eq_true (by kernel_rfl)⟩

/-- A WORLD FOR THE WITNESS: the settled one, the table (block 0) holding what its initialiser lays. -/
noncomputable def stepLettersWorld (os : Os) : World :=
  { World.holding Tryd.prog os ⟨#[], #[], []⟩ with heap := (World.holding Tryd.prog os ⟨#[], #[], []⟩).heap.modify 0 fun
      | .cells _ t frozen => .cells #[.int .i64 0, .int .i64 0, .int .i64 0, .int .i64 2, .int .i64 2, .int .i64 2, .int .i64 2, .int .i64 2, .int .i64 2, .int .i64 2, .int .i64 1, .int .i64 0, .int .i64 0, .int .i64 0, .int .i64 1, .int .i64 2, .int .i64 2, .int .i64 1, .int .i64 1] t frozen
      | o => o }
set_option maxRecDepth 20000 in
theorem stepLetters_met (os : Os) : laidMet Tryd.prog Rows.stepLettersRow.laid ((stepLettersWorld os).forCall (fun _ _ => 0) ⟨#[], #[.agg #[.slice none 0 0, .slice none 0 0], .slice none 0 0, .int .i64 0], []⟩).memory :=
  laidMet_of_run' 8 (by kernel_rfl) (by kernel_rfl)
set_option maxRecDepth 20000 in
theorem stepLetters_reads (os : Os) {H : Type} (enc : TypeId × Value → H) : ∃ places, DataW.whole enc Tryd.prog ((stepLettersWorld os).forCall (fun _ _ => 0) ⟨#[], #[.agg #[.slice none 0 0, .slice none 0 0], .slice none 0 0, .int .i64 0], []⟩).memory Tryd.f5.params.toList Rows.stepLettersSpec.vars false #[Value.agg #[.slice none 0 0, .slice none 0 0], .slice none 0 0, .int .i64 0].toList 8 = some ([.agg [.nil, .nil], .nil, .lit (.int .i64 0)], [], places) :=
  ⟨[], by kernel_rfl⟩

set_option maxRecDepth 100000 in
theorem stepLetters_lifted (os : Os) (started : os.Started) (H : Type) (enc : TypeId × Value → H) (F : Stop.Interp) :
    ReturnsInHanded {} Tryd.checked os 5 .any ((OpenSpec.ofChange Rows.stepLettersSpec).preRow enc Tryd.prog Tryd.f5 Rows.stepLettersRow.domain false Rows.stepLettersRow.laid) (((OpenSpec.ofChange Rows.stepLettersSpec).at F).post enc Tryd.prog Tryd.f5 false true false false) := by
  obtain ⟨places, hx⟩ := stepLetters_reads os enc
  refine returnsInHanded_of_row (C := Tryd.checked) (s := OpenSpec.ofChange Rows.stepLettersSpec) own started (by kernel_rfl) Tryd.func5
    (witness_row_at (enc := enc) (C := Tryd.checked) false (stepLettersWorld os) #[.agg #[.slice none 0 0, .slice none 0 0], .slice none 0 0, .int .i64 0] rfl (by kernel_rfl) (by kernel_rfl) (by kernel_rfl)
      (OpenSpec.preRow_of_cond 8 hx (by kernel_rfl) (fun k hk => by cases hk) (by kernel_rfl) (stepLetters_met os))) ?_
  intro W base args ds gs before hval hW _ _ hsz hL _ _
  exact stepLetters_contract H enc W base args ds gs before hval hW hsz hL

set_option maxRecDepth 20000 in
theorem stepLetters_said : Rows.StepLettersSaid :=
  OpenClaim.holds_of_cond 5 Tryd.f5 rfl rfl rfl rfl rfl rfl rfl ⟨rfl, rfl, rfl, rfl, rfl⟩ rfl rfl rfl rfl rfl (by kernel_rfl) Tryd.func5 (by kernel_rfl)
    (of_decide_eq_true (by kernel_rfl)) (by unfold Func.isWrapper; first | (rw [if_pos (by decide +kernel)]; kernel_rfl) | (rw [if_neg (by decide +kernel)]; exact ⟨rfl, rfl⟩))
    (fun os started H enc _ F => by rw [OpenClaim.pre_eq_preRow]; exact stepLetters_lifted os started H enc F)

set_option maxRecDepth 20000 in
theorem stepLetters_plain (f : FuncId) (fn : Func) (hf : Tryd.pinned.checked.prog.funcNamed "foretell/foretelllaw.StepLetters" = some f) (hfn : Tryd.pinned.checked.prog.funcs[f]? = some fn) :
    true = Tryd.pinned.checked.prog.looks [] ∧ ∀ (j : Nat) t, fn.params[j]? = some t → Tryd.pinned.checked.prog.wantsStandIn t = false := by
  obtain rfl : f = 5 := Option.some.inj ((show Tryd.prog.funcNamed "foretell/foretelllaw.StepLetters" = some 5 by kernel_rfl).symm.trans hf) |>.symm
  obtain rfl : fn = Tryd.f5 := (Option.some.inj (Tryd.func5.symm.trans hfn)).symm
  refine ⟨by kernel_rfl, fun j t ht => ?_⟩
  rw [Tryd.params5] at ht
  have ht' := Array.mem_of_getElem? ht
  simp only [List.mem_toArray, List.mem_cons, List.not_mem_nil, or_false] at ht'
  rcases ht' with rfl | rfl | rfl
  · exact (show Tryd.prog.wantsStandIn 25 = false by kernel_rfl)
  · exact (show Tryd.prog.wantsStandIn 37 = false by kernel_rfl)
  · exact (show Tryd.prog.wantsStandIn 3 = false by kernel_rfl)

set_option maxRecDepth 20000 in
/-- THE CARD. -/
theorem stepLetters_card : Rows.StepLettersCardSaid :=
  Claim7.holds_tied_plain_at .later [] _ _ _ _ stepLetters_said (fun _ h => by cases h) (by kernel_rfl) (fun _ h => by cases h) stepLetters_row_tie rfl ⟨rfl, rfl⟩ (by kernel_rfl) rfl stepLetters_plain (by kernel_rfl)
#print axioms stepLetters_card
end Go.Proofs.YtfgadcofijgghaaDoor
