/-
  Proved: foretellkeep.ModelSpan answers true at every design and every number (the number of states is the product of the values; another variable makes it as much greater), given that the table polish.partCounts reads as its initialiser lays it, which the card ties to the program's text. No other condition.
-/
import Derived.Test.YtfecdmehghdohaaDoorCards
import Derived.Test.YtfecdmehghdohaaDoorTie
import Derived.Test.YtfecdmehghdohaaDoorRow
import Derived.Test.YtfecdmehghdohaaDoorKeepDesign
import Derived.Test.YtfecdmehghdohaaDoorKeepMore
namespace Go.Proofs.YtfecdmehghdohaaDoor
open Go.ChangeShapes Go.WideShapes Go.ChangeAt Go.RowKit Go.Deep
open Terms Tm

set_option maxHeartbeats 3200000 in
set_option maxRecDepth 20000 in
theorem modelSpan_walk (c0 c1 c2 c3 c4 c5 c6 : Value) (a b : Vr) (x : Int) (w : World) (hB : 0 < w.heap.size) (hT : TabAt w) (hG : GV a b) (hx : I64 x)
    (hmd : ∀ w', Below w.heap.size w w' → Calls Tryd.prog 8 #[.agg #[c0, c1, c2, c3, c4, c5, c6]] w' fun e w2 => ∃ va vr, e = .returned (.agg #[va, vr]) ∧ Below w'.heap.size w' w2 ∧ GModel w2 va vr [a, b]) :
    Calls Tryd.prog 6 #[.agg #[c0, c1, c2, c3, c4, c5, c6], .int .i64 x] w fun e w' => e = .returned (.bool true) ∧ Below w.heap.size w w' := by
  have HT : Hid (∀ w', Below w.heap.size w w' → 0 < w'.heap.size ∧ TabAt w') := fun w' hb => ⟨Nat.lt_of_lt_of_le hB hb.size, hT.below hb hB⟩
  have hA : ∀ o, Below w.heap.size w (w.alloc o) := fun o => (Below.refl _ _).alloc (Nat.le_refl _) o
  clear hB hT
  go_enter Tryd.func6, Tryd.ntmps6
  go_wp2_with (go_at_call 8; refine (hmd _ (hA _)).mono ?_; rintro e w1 ⟨va, vr, rfl, hb1, hM⟩; obtain ⟨ao, cap, ro, rn, rc, rfl, rfl, hrn⟩ := hM.shape)
  obtain ⟨hbW, hk⟩ := kept (a := a) (b := b) (t := 29) HT.out ((hA _).trans (hb1.mono (hA _).size)) hM rfl
  have hb12 : Below w1.heap.size w1 (w1.alloc (.cells #[.slice ao 2 cap, .slice ro rn rc] 29)) := (Below.refl _ _).alloc (Nat.le_refl _) _
  have hs12 : w1.heap.size < (w1.alloc (.cells #[.slice ao 2 cap, .slice ro rn rc] 29)).heap.size := by simp
  have hsw1 : w.heap.size ≤ w1.heap.size := ((hA _).trans (hb1.mono (hA _).size)).size
  have hwf : (w1.alloc (.cells #[.slice ao 2 cap, .slice ro rn rc] 29)).frozen? ⟨w1.heap.size, 0, none⟩ = false := by simp [go_sem]
  have HBw1 : Hid (Below w.heap.size w w1) := (hA _).trans (hb1.mono (hA _).size)
  have HR1 : Hid (GRules w1 (.slice ro rn rc)) := hM.rules
  generalize w1.alloc (.cells #[.slice ao 2 cap, .slice ro rn rc] 29) = W2 at hbW hk hb12 hs12 hwf ⊢
  have HB12 : Hid (Below w1.heap.size w1 W2) := hb12
  have HK : Hid (∀ w', Below W2.heap.size W2 w' → (0 < w'.heap.size ∧ TabAt w' ∧ GModel w' (.slice ao 2 cap) (.slice ro rn rc) [a, b]) ∧ w'.cell? ⟨w1.heap.size, 0, none⟩ = some (.slice ao 2 cap) ∧ w'.cell? ⟨w1.heap.size, 1, none⟩ = some (.slice ro rn rc)) := hk
  have HBW : Hid (Below w.heap.size w W2) := hbW
  obtain ⟨⟨z0, z1, z2⟩, z3, z4⟩ := hk W2 (Below.refl _ _)
  have hcn := kcount hG z0 z1 z2
  obtain ⟨p, off, rfl, hp, hva, hvb⟩ := kvars z2
  have HV : Hid (∀ w', Below W2.heap.size W2 w' → VarAt w' p off a ∧ VarAt w' p (off + 4) b) := fun w' hb => ⟨hva.below hb hp, hvb.below hb hp⟩
  have hpx := fun w => picked_is x 8 w hx (by omega) (by omega)
  have hxr := pk_range (n := x) (m := 8) (by omega)
  generalize pk x 8 = k at hpx hxr
  obtain ⟨hk0, hk1⟩ := hxr
  have HG : Hid (GV a b) := hG
  have hN := hG.prod
  generalize hNN : vspan a * vspan b = N at hcn hN
  have HNN : Hid (vspan a * vspan b = N) := hNN
  obtain ⟨hN0, hN1⟩ := hN
  clear hNN hva hvb hk hbW hM hb1 hmd hx hG z0 z1 z2 hrn hA hb12
  obtain ⟨iv, hiv, hv0, hv1, hv2⟩ := info_parts infoVar
  have HVF : Hid (∀ w', Below W2.heap.size W2 w' → ∀ ad, (some ⟨p, off, none⟩ : Option Addr) = some ad → ∀ j u, (vflat [a, b])[j]? = some u → w'.cell? (ad.add j) = some u) := fun w' hb ad he => by
    injection he with he
    subst he
    refine vflat_cells fun i hi => ?_
    have hj2 : i = 0 ∨ i = 1 := by simp at hi; omega
    rcases hj2 with rfl | rfl
    · exact (HV.out w' hb).1
    · exact (HV.out w' hb).2
  go_wp2_with (first | (go_at_call_of 9 p; refine hcn.mono ?_; rintro e w3 ⟨rfl, hb3⟩; obtain ⟨k30, k31⟩ := (HK.out w3 hb3).2) | (go_at_call_of 10 x; refine (hpx _).mono ?_; rintro e w9 ⟨rfl, rfl⟩) | (at_builtin; refine wpList_copy rfl (.const (.slice none 0 0)) (.tmp 22) 26 rfl W2.heap.size 43 iv _ 4 40 Tryd.underlying26 hiv hv0 hv1 hv2 rfl (by decide) rfl (some ⟨p, off, none⟩) 2 cap (vflat [a, b]) rfl (fun h => by cases h) rfl (HVF.out _ hb3) (vflat_one _) (by decide) (by decide) hb3.size ?_; intro v5 w5 ho5 hg5; obtain ⟨g, cp, rfl, hg, hgl⟩ := ho5.form (by decide); have hb5 : Below W2.heap.size W2 w5 := hb3.grown hg5 hb3.size (fun k hk => by cases hk)) | (at_builtin; refine wpList_append_lies _ rfl (.tmp 23) (.tmp 27) 26 rfl W2.heap.size 43 iv _ 4 40 Tryd.underlying26 hiv hv0 hv1 hv2 rfl (by decide) (.slice (some ⟨g, 0, none⟩) 2 cp) 2 (vflat [a, b]) rfl (ho5.alloc _) ⟨w5.heap.size, 0, none⟩ 1 1 [.string ⟨#[122]⟩, .int .i64 0, .int .i64 (1 + k - 1), .int .i64 0] rfl rfl (four_new _ _ _ _ _ _) (by intro u hu; simp at hu; rcases hu with rfl | rfl | rfl | rfl <;> rfl) (by decide) (by decide) (by decide) (by simp; have := hb5.size; omega) (w5.heap.size + 1) (by simp) ?_; intro g6 cp6 w6 ho6 hg6 hat6 hgl6; have hb6 : Below W2.heap.size W2 w6 := (hb5.alloc hb5.size _).grown hg6 (by simp; have := hb5.size; omega) (fun q hq => by simp [Value.ownBlock] at hq; omega); have k60 := (HK.out w6 hb6).2.1; have k61 := (HK.out w6 hb6).2.2; have kf6 := (hb6.frozen (p := ⟨w1.heap.size, 0, none⟩) hs12).trans hwf))
  obtain ⟨hg6l, hcp6, va0, va1, va2⟩ := vars_three (c := ⟨bZ, 0, 1 + k - 1, 0⟩) ho6
  have hne : g6 ≠ w1.heap.size := by
    rcases hat6 with hat6 | hat6
    · simp [Value.ownBlock] at hat6; omega
    · have := hb5.size; omega
  have m0 := World.cell?_setCell_same w6 ⟨w1.heap.size, 0, none⟩ (.slice (some ⟨g6, 0, none⟩) 3 cp6) k60
  have m1 : (w6.setCell ⟨w1.heap.size, 0, none⟩ (.slice (some ⟨g6, 0, none⟩) 3 cp6)).cell? ⟨w1.heap.size, 1, none⟩ = some (.slice ro rn rc) := by rw [World.cell?_setCell_other _ _ _ _ (by simp)]; exact k61
  have va0 := va0.setOther (q := w1.heap.size) (i := 0) hne (.slice (some ⟨g6, 0, none⟩) 3 cp6)
  have va1 := va1.setOther (q := w1.heap.size) (i := 0) hne (.slice (some ⟨g6, 0, none⟩) 3 cp6)
  have va2 := va2.setOther (q := w1.heap.size) (i := 0) hne (.slice (some ⟨g6, 0, none⟩) 3 cp6)
  have hb17 : Below w1.heap.size w1 (w6.setCell ⟨w1.heap.size, 0, none⟩ (.slice (some ⟨g6, 0, none⟩) 3 cp6)) := (HB12.out.trans (hb6.mono HB12.out.size)).setCell (Nat.le_refl _) _
  have hgl7 : g6 < (w6.setCell ⟨w1.heap.size, 0, none⟩ (.slice (some ⟨g6, 0, none⟩) 3 cp6)).heap.size := by simpa using hg6l
  have hw17 : w1.heap.size < (w6.setCell ⟨w1.heap.size, 0, none⟩ (.slice (some ⟨g6, 0, none⟩) 3 cp6)).heap.size := by have := hb6.size; simp; omega
  generalize w6.setCell ⟨w1.heap.size, 0, none⟩ (.slice (some ⟨g6, 0, none⟩) 3 cp6) = W7 at m0 m1 va0 va1 va2 hb17 hgl7 hw17 ⊢
  have hbw7 := HBw1.out.trans (hb17.mono HBw1.out.size)
  have hc3 := kcount3 HG.out (k := 1 + k) (by omega) (HT.out W7 hbw7).1 (HT.out W7 hbw7).2 (three_vars hgl7 hcp6 va0 va1 va2) (HR1.out.below hb17)
  rw [HNN.out] at hc3
  have hprod : (a.hi - a.lo + 1) * (b.hi - b.lo + 1) = N := HNN.out
  have hNk : N ≤ N * (1 + k) ∧ N * (1 + k) ≤ 128 := by
    have h1 := Int.mul_le_mul hN1 (show 1 + k ≤ 8 by omega) (by omega) (by omega)
    have h2 := Int.mul_le_mul (Int.le_refl N) (show 1 ≤ 1 + k by omega) (by omega) (by omega)
    omega
  have hga : (-1 ≤ a.lo ∧ a.lo ≤ 1) ∧ -1 ≤ a.hi ∧ a.hi ≤ 4 := by have h := HG.out; obtain ⟨na, nb, p0, p1, p2, p3, p4, p5, q0, q1, q2, q3, q4, q5⟩ := h; omega
  have hgb : (-1 ≤ b.lo ∧ b.lo ≤ 1) ∧ -1 ≤ b.hi ∧ b.hi ≤ 4 := by have h := HG.out; obtain ⟨na, nb, p0, p1, p2, p3, p4, p5, q0, q1, q2, q3, q4, q5⟩ := h; omega
  obtain ⟨⟨ga0, ga1⟩, ga2, ga3⟩ := hga
  obtain ⟨⟨gb0, gb1⟩, gb2, gb3⟩ := hgb
  obtain ⟨hNk0, hNk1⟩ := hNk
  have HVV : Hid (∀ w', Below W7.heap.size W7 w' → (VarAt w' g6 0 a ∧ VarAt w' g6 4 b) ∧ w'.cell? ⟨w1.heap.size, 0, none⟩ = some (.slice (some ⟨g6, 0, none⟩) 3 cp6)) := fun w' hb => ⟨⟨va0.below hb hgl7, va1.below hb hgl7⟩, (hb.cell (p := ⟨w1.heap.size, 0, none⟩) hw17).trans m0⟩
  have HBW7 : Hid (Below w.heap.size w W7) := hbw7
  clear va0 va1 va2 hb17 hgl7 hw17 hbw7 ho6 hg6 hat6 hgl6 hb6 k60 k61 kf6 ho5 hg5 hg hgl hb5 k30 k31 hb3 HVF HV HK z3 z4 hwf hs12 hp hcn hpx hne hg6l hcp6 hiv hv0 hv1 hv2 HBW HB12 HBw1 HR1 HT HG
  go_wp2_with (go_at_call_of 9 g6; refine hc3.mono ?_; rintro e w8 ⟨rfl, hb8⟩; obtain ⟨⟨⟨a0, a1, a2, a3⟩, b0, b1, b2, b3⟩, m80⟩ := HVV.out w8 hb8)
  simp only [Nat.zero_add, Nat.reduceAdd] at a1 a2 a3 b1 b2 b3
  go_region
  all_goals (try go_wp2_with fail)
  all_goals go_ret
  all_goals exact ⟨by first | rfl | simp, HBW7.out.trans (hb8.drew.mono HBW7.out.size)⟩

theorem modelSpan_contract (H : Type) (enc : TypeId × Value → H) (W : World) (base : Nat) (args : Array Value) (ds gs : List (DataW H)) (before : List MemPlace)
    (hval : ∀ (j : Nat) t v, Tryd.f6.params[j]? = some t → args[j]? = some v → Value.okWide Tryd.prog W .any base t v)
    (hW : DataW.Whole enc Tryd.prog Tryd.f6.params.toList Rows.modelSpanSpec.vars false W args.toList ds gs before)
    (hsz0 : (DataW.weightsEach Tryd.prog (Tryd.f6.params.toList ++ (OpenSpec.ofChange Rows.modelSpanSpec).bare.plain.varTypes Tryd.prog) (ds ++ gs)).all (· ≤ reachBytes) = true)
    (hL : laidMetH Tryd.prog Rows.modelSpanRow.laid W) :
    Calls Tryd.prog 6 args W fun e W' => ∃ v, e = .returned v ∧ Rows.modelSpanSpec.post enc Tryd.prog Tryd.f6 false true false false W args v W' := by
  have hW' := hW
  obtain ⟨p, q, hA0, hV, rfl, hfz, hnd⟩ := hW
  have hA : DataW.TrodAll enc Tryd.prog W 0 (fun _ => true) true Tryd.f6.params.toList args.toList ds p := hA0
  rw [Tryd.params6] at hA hval
  obtain ⟨v0, vs0, d0, ds0, p0, q0, hargs, rfl, rfl, h0, r0⟩ := trodAll_cons hA
  obtain ⟨v1, vs1, d1, ds1, p1, q1, rfl, rfl, rfl, h1, r1⟩ := trodAll_cons r0
  obtain ⟨rfl, rfl, rfl⟩ := trodAll_nil r1
  obtain rfl : args = #[v0, v1] := by cases args; simp_all
  obtain ⟨rfl, rfl⟩ := trodVars_none hV
  have hsz : (DataW.weightsEach Tryd.prog [25, 3] [d0, d1]).all (· ≤ reachBytes) = true := hsz0
  obtain ⟨vars, hD⟩ := open_design (hval 0 25 v0 rfl rfl) h0 hsz (j := 0) rfl rfl
  obtain ⟨c0, c1, c2, c3, c4, c5, c6, a, b, rfl, hG, hmd⟩ := design_model hD
  obtain ⟨x, rfl, rfl, rfl, wf1⟩ := open_int Tryd.underlying3 (hval 1 3 v1 rfl rfl) h1
  have hT := tabAt hL
  refine (modelSpan_walk c0 c1 c2 c3 c4 c5 c6 a b x W (tab_size hT) hT hG (bounds_i64 wf1) hmd).mono fun e W' ⟨he, hb⟩ => ⟨_, he, ?_⟩
  refine law_post (fun t ht => ?_) rfl (by kernel_rfl) hW' rfl rfl rfl hb
  rw [Tryd.params6] at ht
  simp only [List.mem_cons, List.not_mem_nil, or_false] at ht
  rcases ht with rfl | rfl
  · exact ⟨by kernel_rfl, of_decide_eq_true (by kernel_rfl)⟩
  · exact ⟨by kernel_rfl, of_decide_eq_true (by kernel_rfl)⟩

/-- A WORLD FOR THE WITNESS: the settled one, the table (block 0) holding what its initialiser lays. -/
noncomputable def modelSpanWorld (os : Os) : World :=
  { World.holding Tryd.prog os ⟨#[], #[], []⟩ with heap := (World.holding Tryd.prog os ⟨#[], #[], []⟩).heap.modify 0 fun
      | .cells _ t frozen => .cells #[.int .i64 0, .int .i64 0, .int .i64 0, .int .i64 2, .int .i64 2, .int .i64 2, .int .i64 2, .int .i64 2, .int .i64 2, .int .i64 2, .int .i64 1, .int .i64 0, .int .i64 0, .int .i64 0, .int .i64 1, .int .i64 2, .int .i64 2, .int .i64 1, .int .i64 1] t frozen
      | o => o }
theorem modelSpan_met (os : Os) : laidMet Tryd.prog Rows.modelSpanRow.laid ((modelSpanWorld os).forCall (fun _ _ => 0) ⟨#[], #[.agg #[.int .i64 0, .int .i64 0, .int .i64 0, .int .i64 0, .int .i64 0, .int .i64 0, .slice none 0 0], .int .i64 0], []⟩).memory :=
  laidMet_of_run' 8 (by kernel_rfl) (by kernel_rfl)
theorem modelSpan_reads (os : Os) {H : Type} (enc : TypeId × Value → H) : ∃ places, DataW.whole enc Tryd.prog ((modelSpanWorld os).forCall (fun _ _ => 0) ⟨#[], #[.agg #[.int .i64 0, .int .i64 0, .int .i64 0, .int .i64 0, .int .i64 0, .int .i64 0, .slice none 0 0], .int .i64 0], []⟩).memory Tryd.f6.params.toList Rows.modelSpanSpec.vars false #[Value.agg #[.int .i64 0, .int .i64 0, .int .i64 0, .int .i64 0, .int .i64 0, .int .i64 0, .slice none 0 0], .int .i64 0].toList 8 = some ([.agg [.agg [.lit (.int .i64 0), .lit (.int .i64 0)], .agg [.lit (.int .i64 0), .lit (.int .i64 0)], .agg [.lit (.int .i64 0), .lit (.int .i64 0)], .nil], .lit (.int .i64 0)], [], places) :=
  ⟨[], by kernel_rfl⟩

set_option maxRecDepth 100000 in
theorem modelSpan_lifted (os : Os) (started : os.Started) (H : Type) (enc : TypeId × Value → H) (F : Stop.Interp) :
    ReturnsInHanded {} Tryd.checked os 6 .any ((OpenSpec.ofChange Rows.modelSpanSpec).preRow enc Tryd.prog Tryd.f6 Rows.modelSpanRow.domain false Rows.modelSpanRow.laid) (((OpenSpec.ofChange Rows.modelSpanSpec).at F).post enc Tryd.prog Tryd.f6 false true false false) := by
  obtain ⟨places, hx⟩ := modelSpan_reads os enc
  refine returnsInHanded_of_row (C := Tryd.checked) (s := OpenSpec.ofChange Rows.modelSpanSpec) own started (by kernel_rfl) Tryd.func6
    (witness_row_at (enc := enc) (C := Tryd.checked) false (modelSpanWorld os) #[.agg #[.int .i64 0, .int .i64 0, .int .i64 0, .int .i64 0, .int .i64 0, .int .i64 0, .slice none 0 0], .int .i64 0] rfl (by kernel_rfl) (by kernel_rfl) (by kernel_rfl)
      (OpenSpec.preRow_of_cond 8 hx (by kernel_rfl) (fun k hk => by cases hk) (by kernel_rfl) (modelSpan_met os))) ?_
  intro W base args ds gs before hval hW _ _ hsz hL _ _
  exact modelSpan_contract H enc W base args ds gs before hval hW hsz hL

theorem modelSpan_said : Rows.ModelSpanSaid :=
  OpenClaim.holds_of_cond 6 Tryd.f6 rfl rfl rfl rfl rfl rfl rfl ⟨rfl, rfl, rfl, rfl, rfl⟩ rfl rfl rfl rfl rfl (by kernel_rfl) Tryd.func6 (by kernel_rfl)
    (of_decide_eq_true (by kernel_rfl)) (by unfold Func.isWrapper; first | (rw [if_pos (by decide +kernel)]; kernel_rfl) | (rw [if_neg (by decide +kernel)]; exact ⟨rfl, rfl⟩))
    (fun os started H enc _ F => by rw [OpenClaim.pre_eq_preRow]; exact modelSpan_lifted os started H enc F)

theorem modelSpan_plain (f : FuncId) (fn : Func) (hf : Tryd.pinned.checked.prog.funcNamed "foretell/foretellkeep.ModelSpan" = some f) (hfn : Tryd.pinned.checked.prog.funcs[f]? = some fn) :
    true = Tryd.pinned.checked.prog.looks [] ∧ ∀ (j : Nat) t, fn.params[j]? = some t → Tryd.pinned.checked.prog.wantsStandIn t = false := by
  obtain rfl : f = 6 := Option.some.inj ((show Tryd.prog.funcNamed "foretell/foretellkeep.ModelSpan" = some 6 by kernel_rfl).symm.trans hf) |>.symm
  obtain rfl : fn = Tryd.f6 := (Option.some.inj (Tryd.func6.symm.trans hfn)).symm
  refine ⟨by kernel_rfl, fun j t ht => ?_⟩
  rw [Tryd.params6] at ht
  have ht' := Array.mem_of_getElem? ht
  simp only [List.mem_toArray, List.mem_cons, List.not_mem_nil, or_false] at ht'
  rcases ht' with rfl | rfl
  · exact (show Tryd.prog.wantsStandIn 25 = false by kernel_rfl)
  · exact (show Tryd.prog.wantsStandIn 3 = false by kernel_rfl)

/-- THE CARD. -/
theorem modelSpan_card : Rows.ModelSpanCardSaid :=
  Claim7.holds_tied_plain_at .later [] _ _ _ _ modelSpan_said (fun _ h => by cases h) (by kernel_rfl) (fun _ h => by cases h) modelSpan_row_tie rfl ⟨rfl, rfl⟩ (by kernel_rfl) rfl modelSpan_plain (by kernel_rfl)
#print axioms modelSpan_card
end Go.Proofs.YtfecdmehghdohaaDoor
