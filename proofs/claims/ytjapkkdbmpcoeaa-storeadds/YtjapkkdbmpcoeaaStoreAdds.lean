/-
  Proved: foretelllaw.StoreAdds answers true at every store and number (store.Add answers as the document's P12.3 does, and changes nothing). No condition.
-/
import Derived.Test.YtjapkkdbmpcoeaaUMem
import Derived.Test.YtjapkkdbmpcoeaaURef7
namespace Go.Proofs.Ytjapkkdbmpcoeaa
open Go.ChangeShapes Go.WideShapes Go.ChangeAt Go.RowKit Go.Deep

set_option maxHeartbeats 1600000 in
set_option maxRecDepth 20000 in
theorem storeAdds_walk (lv rv : Value) (lo : List Int) (rs : List (List Int)) (x : Int) (w : World) (hz : StSz lo rs) (hL : IntsV w lv lo) (hR : LisV w rv rs) :
    Calls Try.prog 5 #[.agg #[lv, rv], .int .i64 x] w fun e w' => e = .returned (.bool true) ∧ Below w.heap.size w w' := by
  obtain ⟨la, lc, rfl⟩ := hL.shape
  obtain ⟨ra, rc, rfl⟩ := hR.shape
  obtain ⟨hbA, hcA⟩ := Bc.arg w (.slice la lo.length lc) (.slice ra rs.length rc) 25
  have hcp := stores_any lo rs la ra lc rc (w.alloc (.cells #[.slice la lo.length lc, .slice ra rs.length rc] 25)) hz (hL.below hbA) (hR.below hbA)
  have HA : Hid (∀ w1, Below (w.alloc (.cells #[.slice la lo.length lc, .slice ra rs.length rc] 25)).heap.size (w.alloc (.cells #[.slice la lo.length lc, .slice ra rs.length rc] 25)) w1 → Below w.heap.size w w1 ∧ Bc w1 w.heap.size (.slice la lo.length lc) (.slice ra rs.length rc)) := fun w1 hb => ⟨hbA.trans (hb.mono hbA.size), hcA.later hb⟩
  have HX : Hid (∀ (xo yo : Option Addr) (xc yc : Nat) (w1 : World), IntsV w1 (.slice xo lo.length xc) lo → LisV w1 (.slice yo rs.length yc) rs → Calls Try.prog 12 #[.agg #[.slice xo lo.length xc, .slice yo rs.length yc], .int .i64 x] w1 (AdPost w1 (addC lo rs x))) := fun xo yo xc yc w1 h1 h2 => add_any lo rs x xo yo xc yc w1 hz h1 h2
  have HY : Hid (∀ (w1 : World), Below w.heap.size w w1 → Calls Try.prog 13 #[.agg #[.slice la lo.length lc, .slice ra rs.length rc], .int .i64 x] w1 (AdPost w1 (addC lo rs x))) := fun w1 h => radd_any lo rs x la ra lc rc w1 hz (hL.below h) (hR.below h)
  have hzz := addC_sz x hz
  obtain ⟨⟨lo2, rs2, o, c⟩, hac⟩ : ∃ r, addC lo rs x = r := ⟨_, rfl⟩
  rw [hac] at HX HY hzz
  have HS1 : Hid (∀ (la lb ra rb : Option Addr) (lc ld rc rd : Nat) (w1 : World), IntsV w1 (.slice la lo2.length lc) lo2 → IntsV w1 (.slice lb lo2.length ld) lo2 → LisV w1 (.slice ra rs2.length rc) rs2 → LisV w1 (.slice rb rs2.length rd) rs2 → Calls Try.prog 14 #[.agg #[.slice la lo2.length lc, .slice ra rs2.length rc], .agg #[.slice lb lo2.length ld, .slice rb rs2.length rd]] w1 fun e w' => e = .returned (.bool true) ∧ Below w1.heap.size w1 w') := fun la lb ra rb lc ld rc rd w1 h1 h2 h3 h4 => sameStore_true la lb ra rb lc ld rc rd lo2 rs2 w1 hzz h1 h2 h3 h4
  have HS2 : Hid (∀ (xo yo : Option Addr) (xc yc : Nat) (w1 : World), Below w.heap.size w w1 → IntsV w1 (.slice xo lo.length xc) lo → LisV w1 (.slice yo rs.length yc) rs → Calls Try.prog 14 #[.agg #[.slice xo lo.length xc, .slice yo rs.length yc], .agg #[.slice la lo.length lc, .slice ra rs.length rc]] w1 fun e w' => e = .returned (.bool true) ∧ Below w1.heap.size w1 w') := fun xo yo xc yc w1 hb h1 h2 => sameStore_true xo la yo ra xc lc yc rc lo rs w1 hz h1 (hL.below hb) h2 (hR.below hb)
  unfold AdPost at HX HY
  simp only at HX HY
  generalize lo2.length = m2 at *
  generalize rs2.length = n2 at *
  generalize lo.length = m at *
  generalize rs.length = n at *
  clear hL hR hz hcA hbA hzz hac
  have tk1 := True.intro
  have tk2 := True.intro
  go_enter Try.func5, Try.ntmps5
  go_wp2_with (first | (go_at_call 8; refine hcp.mono ?_; rintro e w1 ⟨xo, xc, yo, yc, rfl, hb1, hx1, hy1⟩; obtain ⟨hbn, hcn⟩ := Bc.arg w1 (.slice xo m xc) (.slice yo n yc) 25; have hx1n := hx1.out.below hbn; have hy1n := hy1.out.below hbn; have hb1n := hb1.trans (hbn.mono hb1.size); obtain ⟨_, p0, p1⟩ := id hcn; have hch := HX.out xo yo xc yc _ hx1n hy1n) | (go_at_call 12; refine hch.mono ?_; rintro e w2 ⟨zo, zc, uo, uc, rfl, hb2, hv2, hr2⟩; obtain ⟨hbn2, hcn2⟩ := Bc.arg w2 (.slice zo m2 zc) (.slice uo n2 uc) 25; have hb2n := hb2.trans (hbn2.mono hb2.size); have hv2n := hv2.out.below hbn2; have hr2n := hr2.out.below hbn2; have hb02 := hb1n.trans (hb2n.mono hb1n.size); obtain ⟨hw2, hcc2⟩ := HA.out _ hb02; obtain ⟨_, q0, q1⟩ := id hcc2; have hcnn2 := hcn.later hb2n; have hx2 := hx1n.below hb2n; have hy2n := hy1n.below hb2n; have hy2 := HY.out _ hw2) | (go_at_call 13; refine hy2.mono ?_; rintro e w3 ⟨fo, fc, ho, hc, rfl, hb3, hv3, hr3⟩; obtain ⟨hbn3, hcn3⟩ := Bc.arg w3 (.slice fo m2 fc) (.slice ho n2 hc) 25; have hb3n := hb3.trans (hbn3.mono hb3.size); have hw3 := hw2.trans (hb3n.mono hw2.size); obtain ⟨_, i0, i1⟩ := id hcn3; have hcn23 := hcn2.later hb3n; obtain ⟨_, j0, j1⟩ := id hcn23; have hs3 := HS1.out zo fo uo ho zc fc uc hc _ (hv2n.below hb3n) (hv3.out.below hbn3) (hr2n.below hb3n) (hr3.out.below hbn3)) | (clear tk1; go_at_call 14; refine hs3.mono ?_; rintro e w4 ⟨rfl, hb4⟩; have hw4 := hw3.trans (hb4.mono hw3.size); obtain ⟨_, g0, g1⟩ := (hcc2.later hb3n).later hb4; obtain ⟨_, t0, t1⟩ := (hcnn2.later hb3n).later hb4; have hs4 := HS2.out xo yo xc yc _ hw4 ((hx2.below hb3n).below hb4) ((hy2n.below hb3n).below hb4)) | (clear tk2; go_at_call 14; refine hs4.mono ?_; rintro e w5 ⟨rfl, hb5⟩))
  all_goals go_ret
  all_goals exact ⟨by first | rfl | simp, hw4.trans (hb5.mono hw4.size)⟩

set_option maxRecDepth 20000 in
theorem storeAdds_contract (H : Type) (enc : TypeId × Value → H) (W : World) (base : Nat) (args : Array Value) (ds gs : List (DataW H)) (before : List MemPlace)
    (hval : ∀ (j : Nat) t v, Try.f5.params[j]? = some t → args[j]? = some v → Value.okWide Try.prog W .any base t v)
    (hW : DataW.Whole enc Try.prog Try.f5.params.toList Rows.storeAddsSpec.vars false W args.toList ds gs before)
    (hsz0 : (DataW.weightsEach Try.prog (Try.f5.params.toList ++ (OpenSpec.ofChange Rows.storeAddsSpec).bare.plain.varTypes Try.prog) (ds ++ gs)).all (· ≤ reachBytes) = true)
    (_hL : laidMetH Try.prog Rows.storeAddsRow.laid W) :
    Calls Try.prog 5 args W fun e W' => ∃ v, e = .returned v ∧ Rows.storeAddsSpec.post enc Try.prog Try.f5 false true false false W args v W' := by
  have hW' := hW
  obtain ⟨p, q, hA0, hV, rfl, hfz, hnd⟩ := hW
  have hA : DataW.TrodAll enc Try.prog W 0 (fun _ => true) true Try.f5.params.toList args.toList ds p := hA0
  rw [Try.params5] at hA hval
  obtain ⟨v0, vs0, d0, ds0, p0, q0, hargs, rfl, rfl, h0, r0⟩ := trodAll_cons hA
  obtain ⟨v1, vs1, d1, ds1, p1, q1, rfl, rfl, rfl, h1, r1⟩ := trodAll_cons r0
  obtain ⟨rfl, rfl, rfl⟩ := trodAll_nil r1
  obtain rfl : args = #[v0, v1] := by cases args; simp_all
  obtain ⟨rfl, rfl⟩ := trodVars_none hV
  have hsz : (DataW.weightsEach Try.prog [25, 3] [d0, d1]).all (· ≤ reachBytes) = true := hsz0
  obtain ⟨lv, rv, lo, rs, rfl, hL1, hR1, hz⟩ := open_store (hval 0 25 v0 rfl rfl) h0 hsz (j := 0) rfl rfl
  obtain ⟨x, rfl, rfl, rfl, wf1⟩ := open_int Try.underlying3 (hval 1 3 v1 rfl rfl) h1
  refine (storeAdds_walk lv rv lo rs x W hz hL1 hR1).mono fun e W' ⟨he, hb⟩ => ⟨_, he, ?_⟩
  refine law_post (fun t ht => ?_) rfl (by kernel_rfl) hW' rfl rfl rfl hb
  rw [Try.params5] at ht
  simp only [List.mem_cons, List.not_mem_nil, or_false] at ht
  rcases ht with rfl | rfl
  · exact ⟨by kernel_rfl, of_decide_eq_true (by kernel_rfl)⟩
  · exact ⟨by kernel_rfl, of_decide_eq_true (by kernel_rfl)⟩

/-- A WORLD FOR THE WITNESS: the settled one. -/
noncomputable def storeAddsWorld (os : Os) : World := World.holding Try.prog os ⟨#[], #[], []⟩
set_option maxRecDepth 20000 in
theorem storeAdds_met (os : Os) : laidMet Try.prog Rows.storeAddsRow.laid ((storeAddsWorld os).forCall (fun _ _ => 0) ⟨#[], #[.agg #[.slice none 0 0, .slice none 0 0], .int .i64 0], []⟩).memory :=
  laidMet_of_run' 8 (by kernel_rfl) (by kernel_rfl)
set_option maxRecDepth 20000 in
theorem storeAdds_reads (os : Os) {H : Type} (enc : TypeId × Value → H) : ∃ places, DataW.whole enc Try.prog ((storeAddsWorld os).forCall (fun _ _ => 0) ⟨#[], #[.agg #[.slice none 0 0, .slice none 0 0], .int .i64 0], []⟩).memory Try.f5.params.toList Rows.storeAddsSpec.vars false #[Value.agg #[.slice none 0 0, .slice none 0 0], .int .i64 0].toList 8 = some ([.agg [.nil, .nil], .lit (.int .i64 0)], [], places) :=
  ⟨[], by kernel_rfl⟩

set_option maxRecDepth 100000 in
theorem storeAdds_lifted (os : Os) (started : os.Started) (H : Type) (enc : TypeId × Value → H) (F : Stop.Interp) :
    ReturnsInHanded {} Try.checked os 5 .any ((OpenSpec.ofChange Rows.storeAddsSpec).preRow enc Try.prog Try.f5 Rows.storeAddsRow.domain false Rows.storeAddsRow.laid) (((OpenSpec.ofChange Rows.storeAddsSpec).at F).post enc Try.prog Try.f5 false true false false) := by
  obtain ⟨places, hx⟩ := storeAdds_reads os enc
  refine returnsInHanded_of_row (C := Try.checked) (s := OpenSpec.ofChange Rows.storeAddsSpec) own started (by kernel_rfl) Try.func5
    (witness_row_at (enc := enc) (C := Try.checked) false (storeAddsWorld os) #[.agg #[.slice none 0 0, .slice none 0 0], .int .i64 0] rfl (by kernel_rfl) (by kernel_rfl) (by kernel_rfl)
      (OpenSpec.preRow_of_cond 8 hx (by kernel_rfl) (fun k hk => by cases hk) (by kernel_rfl) (storeAdds_met os))) ?_
  intro W base args ds gs before hval hW _ _ hsz hL _ _
  exact storeAdds_contract H enc W base args ds gs before hval hW hsz hL

set_option maxRecDepth 20000 in
theorem storeAdds_said : Rows.StoreAddsSaid :=
  OpenClaim.holds_of_cond 5 Try.f5 rfl rfl rfl rfl rfl rfl rfl ⟨rfl, rfl, rfl, rfl, rfl⟩ rfl rfl rfl rfl rfl (by kernel_rfl) Try.func5 (by kernel_rfl)
    (of_decide_eq_true (by kernel_rfl)) (by unfold Func.isWrapper; first | (rw [if_pos (by decide +kernel)]; kernel_rfl) | (rw [if_neg (by decide +kernel)]; exact ⟨rfl, rfl⟩))
    (fun os started H enc _ F => by rw [OpenClaim.pre_eq_preRow]; exact storeAdds_lifted os started H enc F)

#print axioms storeAdds_said
end Go.Proofs.Ytjapkkdbmpcoeaa
