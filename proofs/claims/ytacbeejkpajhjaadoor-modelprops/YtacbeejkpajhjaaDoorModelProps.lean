/-
  Proved: foretelllaw.ModelProps answers true at every model and every list of terms (model.Props answers as the document's P3.5 does), given that the table polish.partCounts reads as its initialiser lays it, which the card ties to the program's text. No other condition.
-/
import Derived.Test.YtacbeejkpajhjaaDoorCards
import Derived.Test.YtacbeejkpajhjaaDoorTie
import Derived.Test.YtacbeejkpajhjaaDoorRow
import Derived.Test.YtacbeejkpajhjaaDoorModelOpen
import Derived.Test.YtacbeejkpajhjaaDoorModelsOf
import Derived.Test.YtacbeejkpajhjaaDoorMProps
namespace Go.Proofs.YtacbeejkpajhjaaDoor
open Go.ChangeShapes Go.WideShapes Go.ChangeAt Go.RowKit Go.Deep
open Terms Tm

set_option maxHeartbeats 1600000 in
theorem modelProps_walk (va vr pv : Value) (m : Mo) (ps : List (List (Int × Int))) (w : World) (hB : 0 < w.heap.size) (hT : TabAt w) (hV : ModelV w va vr m) (hZ : MoSz m) (hP : TermsV w pv ps) (hp1 : ps.length * 24 ≤ 140737488355328) (hp2 : ∀ i, i < ps.length → (ps.getD i []).length * 16 ≤ 140737488355328) :
    Calls Tryd.prog 4 #[.agg #[va, vr], pv] w fun e w' => e = .returned (.bool true) ∧ Below w.heap.size w w' := by
  have hA : ∀ o, Below w.heap.size w (w.alloc o) := fun o => (Below.refl _ _).alloc (Nat.le_refl _) o
  have hmo := fun o => models_any va vr m (w.alloc o) hZ (hV.below (hA o))
  have hte := fun w1 (hb : Below w.heap.size w w1) => terms_any pv ps w1 hp1 hp2 (hP.below hb)
  have HV : Hid (ModelV w va vr m) := hV
  have HP : Hid (TermsV w pv ps) := hP
  have HT : Hid (TabAt w) := hT
  obtain ⟨ao, cap, rfl⟩ := hV.1.shape
  obtain ⟨ro, rc, rfl⟩ := hV.2.shape
  obtain ⟨po, pc, rfl⟩ := hP.shape
  generalize m.vars.length = n at *
  generalize m.rules.length = rn at *
  obtain ⟨pn, hpn⟩ : ∃ pn, pn = ps.length := ⟨_, rfl⟩
  have HPN : Hid (pn = ps.length) := hpn
  rw [← hpn] at hte HP ⊢
  clear hV hT hP hpn hp2
  go_enter Tryd.func4, Tryd.ntmps4
  go_wp2_with (first | (go_at_call 9; refine (hmo _).mono ?_; rintro e w1 ⟨va', vr', rfl, hb1, hV1⟩; obtain ⟨ao1, cap1, rfl⟩ := hV1.1.shape; obtain ⟨ro1, rc1, rfl⟩ := hV1.2.shape; have hbw1 := (hA _).trans (hb1.mono (hA _).size)) | (go_at_call 14; refine (hte _ hbw1).mono ?_; rintro e w2 ⟨tv, rfl, hb2, ho2⟩; have hT2 := ho2.termsV; obtain ⟨to, tc, htv⟩ := hT2.shape; rw [← HPN.out] at htv; subst htv))
  have hbw2 := hbw1.trans (hb2.mono hbw1.size)
  have hcc := mprops_any _ _ _ m ps w2 (Nat.lt_of_lt_of_le hB hbw2.size) (HT.out.below hbw2 hB) (hV1.below hb2) hT2
  have hrr := fun w3 (hb : Below w.heap.size w w3) => rprops_any _ _ _ m ps w3 hp1 (HV.out.below hb) (HP.out.below hb)
  have hc0 : w1.cell? ⟨w.heap.size, 0, none⟩ = some (.slice ao n cap) := (hb1.cell (p := ⟨w.heap.size, 0, none⟩) (by simp)).trans (by simp [go_sem])
  have hc1 : w1.cell? ⟨w.heap.size, 1, none⟩ = some (.slice ro rn rc) := (hb1.cell (p := ⟨w.heap.size, 1, none⟩) (by simp)).trans (by simp [go_sem])
  have hs1 : w.heap.size < w1.heap.size := (by have := hb1.size; simp at this; omega)
  have hc20 := (hb2.cell (p := ⟨w.heap.size, 0, none⟩) hs1).trans hc0
  have hc21 := (hb2.cell (p := ⟨w.heap.size, 1, none⟩) hs1).trans hc1
  have hs2 := Nat.lt_of_lt_of_le hs1 hb2.size
  generalize pcode m ps = x at hcc hrr
  clear hmo hte hV1 ho2 hT2 hb1 hb2 hc0 hc1
  go_wp2_with (first | (go_at_call 13; refine hcc.mono ?_; rintro e w3 ⟨rfl, hb3⟩; have hbw3 := hbw2.trans (hb3.mono hbw2.size); have hc30 := (hb3.cell (p := ⟨w.heap.size, 0, none⟩) hs2).trans hc20; have hc31 := (hb3.cell (p := ⟨w.heap.size, 1, none⟩) hs2).trans hc21) | (go_at_call 15; refine (hrr _ hbw3).mono ?_; rintro e w4 ⟨rfl, hb4⟩))
  all_goals go_ret
  all_goals exact ⟨by first | rfl | simp, hbw3.trans (hb4.mono hbw3.size)⟩

theorem modelProps_contract (H : Type) (enc : TypeId × Value → H) (W : World) (base : Nat) (args : Array Value) (ds gs : List (DataW H)) (before : List MemPlace)
    (hval : ∀ (j : Nat) t v, Tryd.f4.params[j]? = some t → args[j]? = some v → Value.okWide Tryd.prog W .any base t v)
    (hW : DataW.Whole enc Tryd.prog Tryd.f4.params.toList Rows.modelPropsSpec.vars false W args.toList ds gs before)
    (hsz0 : (DataW.weightsEach Tryd.prog (Tryd.f4.params.toList ++ (OpenSpec.ofChange Rows.modelPropsSpec).bare.plain.varTypes Tryd.prog) (ds ++ gs)).all (· ≤ reachBytes) = true)
    (hL : laidMetH Tryd.prog Rows.modelPropsRow.laid W) :
    Calls Tryd.prog 4 args W fun e W' => ∃ v, e = .returned v ∧ Rows.modelPropsSpec.post enc Tryd.prog Tryd.f4 false true false false W args v W' := by
  have hW' := hW
  obtain ⟨p, q, hA0, hV, rfl, hfz, hnd⟩ := hW
  have hA : DataW.TrodAll enc Tryd.prog W 0 (fun _ => true) true Tryd.f4.params.toList args.toList ds p := hA0
  rw [Tryd.params4] at hA hval
  obtain ⟨v0, vs0, d0, ds0, p0, q0, hargs, rfl, rfl, h0, r0⟩ := trodAll_cons hA
  obtain ⟨v1, vs1, d1, ds1, p1, q1, rfl, rfl, rfl, h1, r1⟩ := trodAll_cons r0
  obtain ⟨rfl, rfl, rfl⟩ := trodAll_nil r1
  obtain rfl : args = #[v0, v1] := by cases args; simp_all
  obtain ⟨rfl, rfl⟩ := trodVars_none hV
  have hsz : (DataW.weightsEach Tryd.prog [25, 31] [d0, d1]).all (· ≤ reachBytes) = true := hsz0
  obtain ⟨va, vr, m, rfl, hV, hZ⟩ := open_model (hval 0 25 v0 rfl rfl) h0 hsz (j := 0) rfl rfl
  obtain ⟨ps, hP, hp1, hp2⟩ := open_terms (hval 1 31 v1 rfl rfl) h1 hsz (j := 1) rfl rfl
  have hT := tabAt hL
  refine (modelProps_walk va vr v1 m ps W (tab_size hT) hT hV hZ hP hp1 hp2).mono fun e W' ⟨he, hb⟩ => ⟨_, he, ?_⟩
  refine law_post (fun t ht => ?_) rfl (by kernel_rfl) hW' rfl rfl rfl hb
  rw [Tryd.params4] at ht
  simp only [List.mem_cons, List.not_mem_nil, or_false] at ht
  rcases ht with rfl | rfl
  · exact ⟨by kernel_rfl, of_decide_eq_true (by kernel_rfl)⟩
  · exact ⟨by kernel_rfl, of_decide_eq_true (by kernel_rfl)⟩

/-- A WORLD FOR THE WITNESS: the settled one, the table (block 0) holding what its initialiser lays. -/
noncomputable def modelPropsWorld (os : Os) : World :=
  { World.holding Tryd.prog os ⟨#[], #[], []⟩ with heap := (World.holding Tryd.prog os ⟨#[], #[], []⟩).heap.modify 0 fun
      | .cells _ t frozen => .cells #[.int .i64 0, .int .i64 0, .int .i64 0, .int .i64 2, .int .i64 2, .int .i64 2, .int .i64 2, .int .i64 2, .int .i64 2, .int .i64 2, .int .i64 1, .int .i64 0, .int .i64 0, .int .i64 0, .int .i64 1, .int .i64 2, .int .i64 2, .int .i64 1, .int .i64 1] t frozen
      | o => o }
theorem modelProps_met (os : Os) : laidMet Tryd.prog Rows.modelPropsRow.laid ((modelPropsWorld os).forCall (fun _ _ => 0) ⟨#[], #[.agg #[.slice none 0 0, .slice none 0 0], .slice none 0 0], []⟩).memory :=
  laidMet_of_run' 8 (by kernel_rfl) (by kernel_rfl)
theorem modelProps_reads (os : Os) {H : Type} (enc : TypeId × Value → H) : ∃ places, DataW.whole enc Tryd.prog ((modelPropsWorld os).forCall (fun _ _ => 0) ⟨#[], #[.agg #[.slice none 0 0, .slice none 0 0], .slice none 0 0], []⟩).memory Tryd.f4.params.toList Rows.modelPropsSpec.vars false #[Value.agg #[.slice none 0 0, .slice none 0 0], .slice none 0 0].toList 8 = some ([.agg [.nil, .nil], .nil], [], places) :=
  ⟨[], by kernel_rfl⟩

set_option maxRecDepth 100000 in
theorem modelProps_lifted (os : Os) (started : os.Started) (H : Type) (enc : TypeId × Value → H) (F : Stop.Interp) :
    ReturnsInHanded {} Tryd.checked os 4 .any ((OpenSpec.ofChange Rows.modelPropsSpec).preRow enc Tryd.prog Tryd.f4 Rows.modelPropsRow.domain false Rows.modelPropsRow.laid) (((OpenSpec.ofChange Rows.modelPropsSpec).at F).post enc Tryd.prog Tryd.f4 false true false false) := by
  obtain ⟨places, hx⟩ := modelProps_reads os enc
  refine returnsInHanded_of_row (C := Tryd.checked) (s := OpenSpec.ofChange Rows.modelPropsSpec) own started (by kernel_rfl) Tryd.func4
    (witness_row_at (enc := enc) (C := Tryd.checked) false (modelPropsWorld os) #[.agg #[.slice none 0 0, .slice none 0 0], .slice none 0 0] rfl (by kernel_rfl) (by kernel_rfl) (by kernel_rfl)
      (OpenSpec.preRow_of_cond 8 hx (by kernel_rfl) (fun k hk => by cases hk) (by kernel_rfl) (modelProps_met os))) ?_
  intro W base args ds gs before hval hW _ _ hsz hL _ _
  exact modelProps_contract H enc W base args ds gs before hval hW hsz hL

theorem modelProps_said : Rows.ModelPropsSaid :=
  OpenClaim.holds_of_cond 4 Tryd.f4 rfl rfl rfl rfl rfl rfl rfl ⟨rfl, rfl, rfl, rfl, rfl⟩ rfl rfl rfl rfl rfl (by kernel_rfl) Tryd.func4 (by kernel_rfl)
    (of_decide_eq_true (by kernel_rfl)) (by unfold Func.isWrapper; first | (rw [if_pos (by decide +kernel)]; kernel_rfl) | (rw [if_neg (by decide +kernel)]; exact ⟨rfl, rfl⟩))
    (fun os started H enc _ F => by rw [OpenClaim.pre_eq_preRow]; exact modelProps_lifted os started H enc F)

theorem modelProps_plain (f : FuncId) (fn : Func) (hf : Tryd.pinned.checked.prog.funcNamed "foretell/foretelllaw.ModelProps" = some f) (hfn : Tryd.pinned.checked.prog.funcs[f]? = some fn) :
    true = Tryd.pinned.checked.prog.looks [] ∧ ∀ (j : Nat) t, fn.params[j]? = some t → Tryd.pinned.checked.prog.wantsStandIn t = false := by
  obtain rfl : f = 4 := Option.some.inj ((show Tryd.prog.funcNamed "foretell/foretelllaw.ModelProps" = some 4 by kernel_rfl).symm.trans hf) |>.symm
  obtain rfl : fn = Tryd.f4 := (Option.some.inj (Tryd.func4.symm.trans hfn)).symm
  refine ⟨by kernel_rfl, fun j t ht => ?_⟩
  rw [Tryd.params4] at ht
  have ht' := Array.mem_of_getElem? ht
  simp only [List.mem_toArray, List.mem_cons, List.not_mem_nil, or_false] at ht'
  rcases ht' with rfl | rfl
  · exact (show Tryd.prog.wantsStandIn 25 = false by kernel_rfl)
  · exact (show Tryd.prog.wantsStandIn 31 = false by kernel_rfl)

/-- THE CARD. -/
theorem modelProps_card : Rows.ModelPropsCardSaid :=
  Claim7.holds_tied_plain_at .later [] _ _ _ _ modelProps_said (fun _ h => by cases h) (by kernel_rfl) (fun _ h => by cases h) modelProps_row_tie rfl ⟨rfl, rfl⟩ (by kernel_rfl) rfl modelProps_plain (by kernel_rfl)
#print axioms modelProps_card
end Go.Proofs.YtacbeejkpajhjaaDoor
