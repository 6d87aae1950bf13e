/-
  Proved: foretelllaw.ModelCodes answers true at every model and every list of numbers (model.Code answers as the document's P3.7 does, and leaves the numbers as they were), given that the table polish.partCounts reads as its initialiser lays it, which the card ties to the program's text. No other condition.
-/
import Derived.Test.YtacbeejkpajhjaaDoorCards
import Derived.Test.YtacbeejkpajhjaaDoorTie
import Derived.Test.YtacbeejkpajhjaaDoorRow
import Derived.Test.YtacbeejkpajhjaaDoorIntsOpen
import Derived.Test.YtacbeejkpajhjaaDoorModelsOf
import Derived.Test.YtacbeejkpajhjaaDoorMCode
import Derived.Test.YtacbeejkpajhjaaDoorRefCode
import Derived.Test.YtacbeejkpajhjaaDoorSameInts
namespace Go.Proofs.YtacbeejkpajhjaaDoor
open Go.ChangeShapes Go.WideShapes Go.ChangeAt Go.RowKit Go.Deep
open Terms Tm

set_option maxHeartbeats 1600000 in
theorem modelCodes_walk (va vr lv : Value) (m : Mo) (l : List Int) (w : World) (hB : 0 < w.heap.size) (hT : TabAt w) (hV : ModelV w va vr m) (hZ : MoSz m) (hI : IntsW w lv l) (hL : l.length * 8 ≤ 140737488355328) :
    Calls Tryd.prog 6 #[.agg #[va, vr], lv] w fun e w' => e = .returned (.bool true) ∧ Below w.heap.size w w' := by
  have hA : ∀ o, Below w.heap.size w (w.alloc o) := fun o => (Below.refl _ _).alloc (Nat.le_refl _) o
  have hin := fun o => ints_any lv l (w.alloc o) hL (hI.below (hA o))
  have hmo := fun w1 (hb : Below w.heap.size w w1) => models_any va vr m w1 hZ (hV.below hb)
  have HV : Hid (ModelV w va vr m) := hV
  have HI : Hid (IntsV w lv l) := hI.v
  have HT : Hid (TabAt w) := hT
  obtain ⟨ao, cap, rfl⟩ := hV.1.shape
  obtain ⟨ro, rc, rfl⟩ := hV.2.shape
  obtain ⟨lo, lc, rfl⟩ := hI.v.shape
  generalize m.vars.length = n at *
  generalize m.rules.length = rn at *
  obtain ⟨ln, hln⟩ : ∃ ln, ln = l.length := ⟨_, rfl⟩
  have HLN : Hid (ln = l.length) := hln
  rw [← hln] at hin hL HI ⊢
  clear hV hT hI hln
  go_enter Tryd.func6, Tryd.ntmps6
  go_wp2_with (first | (go_at_call 18; refine (hin _).mono ?_; rintro e w1 ⟨cv, rfl, hb1, ho1⟩; obtain ⟨co, cc, rfl⟩ := owns_slice ho1; have hbw1 := (hA _).trans (hb1.mono (hA _).size); have hc0 : w1.cell? ⟨w.heap.size, 0, none⟩ = some (.slice ao n cap) := (hb1.cell (p := ⟨w.heap.size, 0, none⟩) (by simp)).trans (by simp [go_sem]); have hc1 : w1.cell? ⟨w.heap.size, 1, none⟩ = some (.slice ro rn rc) := (hb1.cell (p := ⟨w.heap.size, 1, none⟩) (by simp)).trans (by simp [go_sem]); have hs1 : w.heap.size < w1.heap.size := (by have := hb1.size; simp at this; omega)) | (go_at_call 9; refine (hmo _ hbw1).mono ?_; rintro e w2 ⟨va', vr', rfl, hb2, hV2⟩; obtain ⟨ao1, cap1, rfl⟩ := hV2.1.shape; obtain ⟨ro1, rc1, rfl⟩ := hV2.2.shape))
  have hbw2 := hbw1.trans (hb2.mono hbw1.size)
  have hIc : IntsV w1 (.slice co ln cc) l := intsV_of_owns (by rw [← HLN.out]; exact ho1)
  have hIc2 := hIc.below hb2
  have hcc := mcodes_any _ _ _ m l w2 (Nat.lt_of_lt_of_le hB hbw2.size) (HT.out.below hbw2 hB) hV2 hIc2
  have hrr := fun w3 (hb : Below w.heap.size w w3) => rcodes_any _ _ _ m l w3 (HV.out.below hb) (HI.out.below hb)
  have hc20 := (hb2.cell (p := ⟨w.heap.size, 0, none⟩) hs1).trans hc0
  have hc21 := (hb2.cell (p := ⟨w.heap.size, 1, none⟩) hs1).trans hc1
  have hs2 := Nat.lt_of_lt_of_le hs1 hb2.size
  have hsm := fun w4 (hb : Below w.heap.size w w4) (hb' : Below w2.heap.size w2 w4) => sameInts_b _ _ l w4 (by have := HLN.out; omega) (hIc2.below hb') (HI.out.below hb)
  generalize ccode m l = x at hcc hrr
  generalize cval m l = y at hcc hrr
  clear hin hmo hV2 ho1 hIc hIc2 hb1 hb2 hc0 hc1
  go_wp2_with (first | (go_at_call 19; refine hcc.mono ?_; rintro e w3 ⟨rfl, hb3⟩; have hbw3 := hbw2.trans (hb3.mono hbw2.size); have hc30 := (hb3.cell (p := ⟨w.heap.size, 0, none⟩) hs2).trans hc20; have hc31 := (hb3.cell (p := ⟨w.heap.size, 1, none⟩) hs2).trans hc21) | (go_at_call 20; refine (hrr _ hbw3).mono ?_; rintro e w4 ⟨rfl, hb4⟩; have hbw4 := hbw3.trans (hb4.mono hbw3.size); have hbx4 := hb3.trans (hb4.mono hb3.size)) | (go_at_call 21; refine (hsm _ hbw4 hbx4).mono ?_; rintro e w5 ⟨rfl, hb5⟩))
  all_goals go_ret
  all_goals exact ⟨by first | rfl | simp, hbw4.trans (hb5.mono hbw4.size)⟩

theorem modelCodes_contract (H : Type) (enc : TypeId × Value → H) (W : World) (base : Nat) (args : Array Value) (ds gs : List (DataW H)) (before : List MemPlace)
    (hval : ∀ (j : Nat) t v, Tryd.f6.params[j]? = some t → args[j]? = some v → Value.okWide Tryd.prog W .any base t v)
    (hW : DataW.Whole enc Tryd.prog Tryd.f6.params.toList Rows.modelCodesSpec.vars false W args.toList ds gs before)
    (hsz0 : (DataW.weightsEach Tryd.prog (Tryd.f6.params.toList ++ (OpenSpec.ofChange Rows.modelCodesSpec).bare.plain.varTypes Tryd.prog) (ds ++ gs)).all (· ≤ reachBytes) = true)
    (hL : laidMetH Tryd.prog Rows.modelCodesRow.laid W) :
    Calls Tryd.prog 6 args W fun e W' => ∃ v, e = .returned v ∧ Rows.modelCodesSpec.post enc Tryd.prog Tryd.f6 false true false false W args v W' := by
  have hW' := hW
  obtain ⟨p, q, hA0, hV, rfl, hfz, hnd⟩ := hW
  have hA : DataW.TrodAll enc Tryd.prog W 0 (fun _ => true) true Tryd.f6.params.toList args.toList ds p := hA0
  rw [Tryd.params6] at hA hval
  obtain ⟨v0, vs0, d0, ds0, p0, q0, hargs, rfl, rfl, h0, r0⟩ := trodAll_cons hA
  obtain ⟨v1, vs1, d1, ds1, p1, q1, rfl, rfl, rfl, h1, r1⟩ := trodAll_cons r0
  obtain ⟨rfl, rfl, rfl⟩ := trodAll_nil r1
  obtain rfl : args = #[v0, v1] := by cases args; simp_all
  obtain ⟨rfl, rfl⟩ := trodVars_none hV
  have hsz : (DataW.weightsEach Tryd.prog [25, 37] [d0, d1]).all (· ≤ reachBytes) = true := hsz0
  obtain ⟨va, vr, m, rfl, hV, hZ⟩ := open_model (hval 0 25 v0 rfl rfl) h0 hsz (j := 0) rfl rfl
  obtain ⟨l, hI, hLn⟩ := open_intsW (hval 1 37 v1 rfl rfl) h1 hsz (j := 1) rfl rfl
  have hT := tabAt hL
  refine (modelCodes_walk va vr v1 m l W (tab_size hT) hT hV hZ hI hLn).mono fun e W' ⟨he, hb⟩ => ⟨_, he, ?_⟩
  refine law_post (fun t ht => ?_) rfl (by kernel_rfl) hW' rfl rfl rfl hb
  rw [Tryd.params6] at ht
  simp only [List.mem_cons, List.not_mem_nil, or_false] at ht
  rcases ht with rfl | rfl
  · exact ⟨by kernel_rfl, of_decide_eq_true (by kernel_rfl)⟩
  · exact ⟨by kernel_rfl, of_decide_eq_true (by kernel_rfl)⟩

/-- A WORLD FOR THE WITNESS: the settled one, the table (block 0) holding what its initialiser lays. -/
noncomputable def modelCodesWorld (os : Os) : World :=
  { World.holding Tryd.prog os ⟨#[], #[], []⟩ with heap := (World.holding Tryd.prog os ⟨#[], #[], []⟩).heap.modify 0 fun
      | .cells _ t frozen => .cells #[.int .i64 0, .int .i64 0, .int .i64 0, .int .i64 2, .int .i64 2, .int .i64 2, .int .i64 2, .int .i64 2, .int .i64 2, .int .i64 2, .int .i64 1, .int .i64 0, .int .i64 0, .int .i64 0, .int .i64 1, .int .i64 2, .int .i64 2, .int .i64 1, .int .i64 1] t frozen
      | o => o }
theorem modelCodes_met (os : Os) : laidMet Tryd.prog Rows.modelCodesRow.laid ((modelCodesWorld os).forCall (fun _ _ => 0) ⟨#[], #[.agg #[.slice none 0 0, .slice none 0 0], .slice none 0 0], []⟩).memory :=
  laidMet_of_run' 8 (by kernel_rfl) (by kernel_rfl)
theorem modelCodes_reads (os : Os) {H : Type} (enc : TypeId × Value → H) : ∃ places, DataW.whole enc Tryd.prog ((modelCodesWorld os).forCall (fun _ _ => 0) ⟨#[], #[.agg #[.slice none 0 0, .slice none 0 0], .slice none 0 0], []⟩).memory Tryd.f6.params.toList Rows.modelCodesSpec.vars false #[Value.agg #[.slice none 0 0, .slice none 0 0], .slice none 0 0].toList 8 = some ([.agg [.nil, .nil], .nil], [], places) :=
  ⟨[], by kernel_rfl⟩

set_option maxRecDepth 100000 in
theorem modelCodes_lifted (os : Os) (started : os.Started) (H : Type) (enc : TypeId × Value → H) (F : Stop.Interp) :
    ReturnsInHanded {} Tryd.checked os 6 .any ((OpenSpec.ofChange Rows.modelCodesSpec).preRow enc Tryd.prog Tryd.f6 Rows.modelCodesRow.domain false Rows.modelCodesRow.laid) (((OpenSpec.ofChange Rows.modelCodesSpec).at F).post enc Tryd.prog Tryd.f6 false true false false) := by
  obtain ⟨places, hx⟩ := modelCodes_reads os enc
  refine returnsInHanded_of_row (C := Tryd.checked) (s := OpenSpec.ofChange Rows.modelCodesSpec) own started (by kernel_rfl) Tryd.func6
    (witness_row_at (enc := enc) (C := Tryd.checked) false (modelCodesWorld os) #[.agg #[.slice none 0 0, .slice none 0 0], .slice none 0 0] rfl (by kernel_rfl) (by kernel_rfl) (by kernel_rfl)
      (OpenSpec.preRow_of_cond 8 hx (by kernel_rfl) (fun k hk => by cases hk) (by kernel_rfl) (modelCodes_met os))) ?_
  intro W base args ds gs before hval hW _ _ hsz hL _ _
  exact modelCodes_contract H enc W base args ds gs before hval hW hsz hL

theorem modelCodes_said : Rows.ModelCodesSaid :=
  OpenClaim.holds_of_cond 6 Tryd.f6 rfl rfl rfl rfl rfl rfl rfl ⟨rfl, rfl, rfl, rfl, rfl⟩ rfl rfl rfl rfl rfl (by kernel_rfl) Tryd.func6 (by kernel_rfl)
    (of_decide_eq_true (by kernel_rfl)) (by unfold Func.isWrapper; first | (rw [if_pos (by decide +kernel)]; kernel_rfl) | (rw [if_neg (by decide +kernel)]; exact ⟨rfl, rfl⟩))
    (fun os started H enc _ F => by rw [OpenClaim.pre_eq_preRow]; exact modelCodes_lifted os started H enc F)

theorem modelCodes_plain (f : FuncId) (fn : Func) (hf : Tryd.pinned.checked.prog.funcNamed "foretell/foretelllaw.ModelCodes" = some f) (hfn : Tryd.pinned.checked.prog.funcs[f]? = some fn) :
    true = Tryd.pinned.checked.prog.looks [] ∧ ∀ (j : Nat) t, fn.params[j]? = some t → Tryd.pinned.checked.prog.wantsStandIn t = false := by
  obtain rfl : f = 6 := Option.some.inj ((show Tryd.prog.funcNamed "foretell/foretelllaw.ModelCodes" = some 6 by kernel_rfl).symm.trans hf) |>.symm
  obtain rfl : fn = Tryd.f6 := (Option.some.inj (Tryd.func6.symm.trans hfn)).symm
  refine ⟨by kernel_rfl, fun j t ht => ?_⟩
  rw [Tryd.params6] at ht
  have ht' := Array.mem_of_getElem? ht
  simp only [List.mem_toArray, List.mem_cons, List.not_mem_nil, or_false] at ht'
  rcases ht' with rfl | rfl
  · exact (show Tryd.prog.wantsStandIn 25 = false by kernel_rfl)
  · exact (show Tryd.prog.wantsStandIn 37 = false by kernel_rfl)

/-- THE CARD. -/
theorem modelCodes_card : Rows.ModelCodesCardSaid :=
  Claim7.holds_tied_plain_at .later [] _ _ _ _ modelCodes_said (fun _ h => by cases h) (by kernel_rfl) (fun _ h => by cases h) modelCodes_row_tie rfl ⟨rfl, rfl⟩ (by kernel_rfl) rfl modelCodes_plain (by kernel_rfl)
#print axioms modelCodes_card
end Go.Proofs.YtacbeejkpajhjaaDoor
