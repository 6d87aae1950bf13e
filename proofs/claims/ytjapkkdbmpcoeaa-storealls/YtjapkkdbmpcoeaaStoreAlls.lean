/-
  Proved: foretelllaw.StoreAlls answers true at every store (store.All answers as the document's P12.4 does, and changes nothing). No condition.
-/
import Derived.Test.YtjapkkdbmpcoeaaUMem
import Derived.Test.YtjapkkdbmpcoeaaURef5
namespace Go.Proofs.Ytjapkkdbmpcoeaa
open Go.ChangeShapes Go.WideShapes Go.ChangeAt Go.RowKit Go.Deep

theorem allL_len (lo : List Int) (rs : List (List Int)) : (allL lo rs).length ≤ 20000 := by
  by_cases h : May lo rs
  · rw [allL_ok h, up_length, keysL, List.length_append]; have := h.size.many; omega
  · rw [allL_bad h]; simp
set_option maxHeartbeats 800000 in
set_option maxRecDepth 20000 in
theorem storeAlls_walk (lv rv : Value) (lo : List Int) (rs : List (List Int)) (w : World) (hz : StSz lo rs) (hL : IntsV w lv lo) (hR : LisV w rv rs) :
    Calls Try.prog 6 #[.agg #[lv, rv]] w fun e w' => e = .returned (.bool true) ∧ Below w.heap.size w w' := by
  obtain ⟨la, lc, rfl⟩ := hL.shape
  obtain ⟨ra, rc, rfl⟩ := hR.shape
  obtain ⟨hbA, hcA⟩ := Bc.arg w (.slice la lo.length lc) (.slice ra rs.length rc) 25
  have hcp := stores_any lo rs la ra lc rc (w.alloc (.cells #[.slice la lo.length lc, .slice ra rs.length rc] 25)) hz (hL.below hbA) (hR.below hbA)
  have HA : Hid (∀ w1, Below (w.alloc (.cells #[.slice la lo.length lc, .slice ra rs.length rc] 25)).heap.size (w.alloc (.cells #[.slice la lo.length lc, .slice ra rs.length rc] 25)) w1 → Below w.heap.size w w1 ∧ Bc w1 w.heap.size (.slice la lo.length lc) (.slice ra rs.length rc)) := fun w1 hb => ⟨hbA.trans (hb.mono hbA.size), hcA.later hb⟩
  have HX : Hid (∀ (xo yo : Option Addr) (xc yc : Nat) (w1 : World), IntsV w1 (.slice xo lo.length xc) lo → LisV w1 (.slice yo rs.length yc) rs → Calls Try.prog 15 #[.agg #[.slice xo lo.length xc, .slice yo rs.length yc]] w1 (AlPost w1 (allL lo rs) (sC lo rs))) := fun xo yo xc yc w1 h1 h2 => all_any lo rs xo yo xc yc w1 hz h1 h2
  have HY : Hid (∀ (w1 : World), Below w.heap.size w w1 → Calls Try.prog 16 #[.agg #[.slice la lo.length lc, .slice ra rs.length rc]] w1 (AlPost w1 (allL lo rs) (sC lo rs))) := fun w1 h => rall_any lo rs la ra lc rc w1 hz (hL.below h) (hR.below h)
  have HS1 : Hid (∀ (va vb : Value) (w1 : World), IntsV w1 va (allL lo rs) → IntsV w1 vb (allL lo rs) → Calls Try.prog 17 #[va, vb] w1 fun e w' => e = .returned (.bool true) ∧ ∃ n, w' = w1.drewN n) := fun va vb w1 h1 h2 => sameInts_true va vb _ w1 (by have := allL_len lo rs; omega) h1 h2
  have HS2 : Hid (∀ (xo yo : Option Addr) (xc yc : Nat) (w1 : World), Below w.heap.size w w1 → IntsV w1 (.slice xo lo.length xc) lo → LisV w1 (.slice yo rs.length yc) rs → Calls Try.prog 14 #[.agg #[.slice xo lo.length xc, .slice yo rs.length yc], .agg #[.slice la lo.length lc, .slice ra rs.length rc]] w1 fun e w' => e = .returned (.bool true) ∧ Below w1.heap.size w1 w') := fun xo yo xc yc w1 hb h1 h2 => sameStore_true xo la yo ra xc lc yc rc lo rs w1 hz h1 (hL.below hb) h2 (hR.below hb)
  unfold AlPost at HX HY
  generalize sC lo rs = c at *
  generalize (allL lo rs).length = an at *
  generalize lo.length = m at *
  generalize rs.length = n at *
  clear hL hR hz hcA hbA
  go_enter Try.func6, Try.ntmps6
  go_wp2_with (first | (go_at_call 8; refine hcp.mono ?_; rintro e w1 ⟨xo, xc, yo, yc, rfl, hb1, hx1, hy1⟩; obtain ⟨hbn, hcn⟩ := Bc.arg w1 (.slice xo m xc) (.slice yo n yc) 25; have hx1n := hx1.out.below hbn; have hy1n := hy1.out.below hbn; have hb1n := hb1.trans (hbn.mono hb1.size); obtain ⟨_, p0, p1⟩ := id hcn; have hch := HX.out xo yo xc yc _ hx1n hy1n) | (go_at_call 15; refine hch.mono ?_; rintro e w2 ⟨zo, zc, rfl, hb2, hv2⟩; have hb02 := hb1n.trans (hb2.mono hb1n.size); obtain ⟨hw2, hcc2⟩ := HA.out w2 hb02; obtain ⟨_, q0, q1⟩ := id hcc2; have hcn2 := hcn.later hb2; have hx2 := hx1n.below hb2; have hy2n := hy1n.below hb2; have hy2 := HY.out w2 hw2) | (go_at_call 16; refine hy2.mono ?_; rintro e w3 ⟨uo, uc, rfl, hb3, hv3⟩; have hw3 := hw2.trans (hb3.mono hw2.size); have hs3 := HS1.out _ _ _ (hv2.out.below hb3) hv3.out) | (go_at_call 17; refine hs3.mono ?_; rintro e w4 ⟨rfl, q, rfl⟩; have hb4 : Below w3.heap.size w3 (w3.drewN q) := below_drewN (Below.refl _ _) q; have hw4 := hw3.trans (hb4.mono hw3.size); obtain ⟨_, g0, g1⟩ := (hcc2.later hb3).later hb4; obtain ⟨_, t0, t1⟩ := (hcn2.later hb3).later hb4; have hs4 := HS2.out xo yo xc yc _ hw4 ((hx2.below hb3).below hb4) ((hy2n.below hb3).below hb4)) | (go_at_call 14; refine hs4.mono ?_; rintro e w5 ⟨rfl, hb5⟩))
  all_goals go_ret
  all_goals exact ⟨by first | rfl | simp, hw4.trans (hb5.mono hw4.size)⟩

set_option maxRecDepth 20000 in
theorem storeAlls_contract (H : Type) (enc : TypeId × Value → H) (W : World) (base : Nat) (args : Array Value) (ds gs : List (DataW H)) (before : List MemPlace)
    (hval : ∀ (j : Nat) t v, Try.f6.params[j]? = some t → args[j]? = some v → Value.okWide Try.prog W .any base t v)
    (hW : DataW.Whole enc Try.prog Try.f6.params.toList Rows.storeAllsSpec.vars false W args.toList ds gs before)
    (hsz0 : (DataW.weightsEach Try.prog (Try.f6.params.toList ++ (OpenSpec.ofChange Rows.storeAllsSpec).bare.plain.varTypes Try.prog) (ds ++ gs)).all (· ≤ reachBytes) = true)
    (_hL : laidMetH Try.prog Rows.storeAllsRow.laid W) :
    Calls Try.prog 6 args W fun e W' => ∃ v, e = .returned v ∧ Rows.storeAllsSpec.post enc Try.prog Try.f6 false true false false W args v W' := by
  have hW' := hW
  obtain ⟨p, q, hA0, hV, rfl, hfz, hnd⟩ := hW
  have hA : DataW.TrodAll enc Try.prog W 0 (fun _ => true) true Try.f6.params.toList args.toList ds p := hA0
  rw [Try.params6] at hA hval
  obtain ⟨v0, vs0, d0, ds0, p0, q0, hargs, rfl, rfl, h0, r0⟩ := trodAll_cons hA
  obtain ⟨rfl, rfl, rfl⟩ := trodAll_nil r0
  obtain rfl : args = #[v0] := by cases args; simp_all
  obtain ⟨rfl, rfl⟩ := trodVars_none hV
  have hsz : (DataW.weightsEach Try.prog [25] [d0]).all (· ≤ reachBytes) = true := hsz0
  obtain ⟨lv, rv, lo, rs, rfl, hL1, hR1, hz⟩ := open_store (hval 0 25 v0 rfl rfl) h0 hsz (j := 0) rfl rfl
  refine (storeAlls_walk lv rv lo rs W hz hL1 hR1).mono fun e W' ⟨he, hb⟩ => ⟨_, he, ?_⟩
  refine law_post (fun t ht => ?_) rfl (by kernel_rfl) hW' rfl rfl rfl hb
  rw [Try.params6] at ht
  obtain rfl : t = 25 := by simpa using ht
  exact ⟨by kernel_rfl, of_decide_eq_true (by kernel_rfl)⟩

/-- A WORLD FOR THE WITNESS: the settled one. -/
noncomputable def storeAllsWorld (os : Os) : World := World.holding Try.prog os ⟨#[], #[], []⟩
set_option maxRecDepth 20000 in
theorem storeAlls_met (os : Os) : laidMet Try.prog Rows.storeAllsRow.laid ((storeAllsWorld os).forCall (fun _ _ => 0) ⟨#[], #[.agg #[.slice none 0 0, .slice none 0 0]], []⟩).memory :=
  laidMet_of_run' 8 (by kernel_rfl) (by kernel_rfl)
set_option maxRecDepth 20000 in
theorem storeAlls_reads (os : Os) {H : Type} (enc : TypeId × Value → H) : ∃ places, DataW.whole enc Try.prog ((storeAllsWorld os).forCall (fun _ _ => 0) ⟨#[], #[.agg #[.slice none 0 0, .slice none 0 0]], []⟩).memory Try.f6.params.toList Rows.storeAllsSpec.vars false #[Value.agg #[.slice none 0 0, .slice none 0 0]].toList 8 = some ([.agg [.nil, .nil]], [], places) :=
  ⟨[], by kernel_rfl⟩

set_option maxRecDepth 100000 in
theorem storeAlls_lifted (os : Os) (started : os.Started) (H : Type) (enc : TypeId × Value → H) (F : Stop.Interp) :
    ReturnsInHanded {} Try.checked os 6 .any ((OpenSpec.ofChange Rows.storeAllsSpec).preRow enc Try.prog Try.f6 Rows.storeAllsRow.domain false Rows.storeAllsRow.laid) (((OpenSpec.ofChange Rows.storeAllsSpec).at F).post enc Try.prog Try.f6 false true false false) := by
  obtain ⟨places, hx⟩ := storeAlls_reads os enc
  refine returnsInHanded_of_row (C := Try.checked) (s := OpenSpec.ofChange Rows.storeAllsSpec) own started (by kernel_rfl) Try.func6
    (witness_row_at (enc := enc) (C := Try.checked) false (storeAllsWorld os) #[.agg #[.slice none 0 0, .slice none 0 0]] rfl (by kernel_rfl) (by kernel_rfl) (by kernel_rfl)
      (OpenSpec.preRow_of_cond 8 hx (by kernel_rfl) (fun k hk => by cases hk) (by kernel_rfl) (storeAlls_met os))) ?_
  intro W base args ds gs before hval hW _ _ hsz hL _ _
  exact storeAlls_contract H enc W base args ds gs before hval hW hsz hL

set_option maxRecDepth 20000 in
theorem storeAlls_said : Rows.StoreAllsSaid :=
  OpenClaim.holds_of_cond 6 Try.f6 rfl rfl rfl rfl rfl rfl rfl ⟨rfl, rfl, rfl, rfl, rfl⟩ rfl rfl rfl rfl rfl (by kernel_rfl) Try.func6 (by kernel_rfl)
    (of_decide_eq_true (by kernel_rfl)) (by unfold Func.isWrapper; first | (rw [if_pos (by decide +kernel)]; kernel_rfl) | (rw [if_neg (by decide +kernel)]; exact ⟨rfl, rfl⟩))
    (fun os started H enc _ F => by rw [OpenClaim.pre_eq_preRow]; exact storeAlls_lifted os started H enc F)

#print axioms storeAlls_said
end Go.Proofs.Ytjapkkdbmpcoeaa
