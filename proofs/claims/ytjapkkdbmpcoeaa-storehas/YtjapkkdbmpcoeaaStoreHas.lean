/-
  Proved: foretelllaw.StoreHas answers true at every store and number (store.Has answers as the document's P12.2 does). No condition.
-/
import Derived.Test.YtjapkkdbmpcoeaaUMem
import Derived.Test.YtjapkkdbmpcoeaaURef5
namespace Go.Proofs.Ytjapkkdbmpcoeaa
open Go.ChangeShapes Go.WideShapes Go.ChangeAt Go.RowKit Go.Deep

set_option maxHeartbeats 800000 in
set_option maxRecDepth 20000 in
theorem storeHas_walk (lv rv : Value) (lo : List Int) (rs : List (List Int)) (x : Int) (w : World) (hz : StSz lo rs) (hL : IntsV w lv lo) (hR : LisV w rv rs) :
    Calls Try.prog 4 #[.agg #[lv, rv], .int .i64 x] w fun e w' => e = .returned (.bool true) ∧ Below w.heap.size w w' := by
  obtain ⟨la, lc, rfl⟩ := hL.shape
  obtain ⟨ra, rc, rfl⟩ := hR.shape
  obtain ⟨hbA, hcA⟩ := Bc.arg w (.slice la lo.length lc) (.slice ra rs.length rc) 25
  have hcp := stores_any lo rs la ra lc rc (w.alloc (.cells #[.slice la lo.length lc, .slice ra rs.length rc] 25)) hz (hL.below hbA) (hR.below hbA)
  have HA : Hid (∀ w1, Below (w.alloc (.cells #[.slice la lo.length lc, .slice ra rs.length rc] 25)).heap.size (w.alloc (.cells #[.slice la lo.length lc, .slice ra rs.length rc] 25)) w1 → Below w.heap.size w w1 ∧ Bc w1 w.heap.size (.slice la lo.length lc) (.slice ra rs.length rc)) := fun w1 hb => ⟨hbA.trans (hb.mono hbA.size), hcA.later hb⟩
  have HX : Hid (∀ (xo yo : Option Addr) (xc yc : Nat) (w1 : World), IntsV w1 (.slice xo lo.length xc) lo → LisV w1 (.slice yo rs.length yc) rs → Calls Try.prog 10 #[.agg #[.slice xo lo.length xc, .slice yo rs.length yc], .int .i64 x] w1 fun e w' => e = .returned (.tuple #[.bool (hasC lo rs x).1, .int .i64 (hasC lo rs x).2]) ∧ Below w1.heap.size w1 w') := fun xo yo xc yc w1 h1 h2 => has_any lo rs x xo yo xc yc w1 hz h1 h2
  have HY : Hid (∀ (w1 : World), Below w.heap.size w w1 → Calls Try.prog 11 #[.agg #[.slice la lo.length lc, .slice ra rs.length rc], .int .i64 x] w1 fun e w' => e = .returned (.tuple #[.bool (hasC lo rs x).1, .int .i64 (hasC lo rs x).2]) ∧ Below w1.heap.size w1 w') := fun w1 h => rin_any lo rs x la ra lc rc w1 hz (hL.below h) (hR.below h)
  generalize (hasC lo rs x).1 = o at *
  generalize (hasC lo rs x).2 = c at *
  generalize lo.length = m at *
  generalize rs.length = n at *
  clear hL hR hz hcA hbA
  go_enter Try.func4, Try.ntmps4
  go_wp2_with (first | (go_at_call 8; refine hcp.mono ?_; rintro e w1 ⟨xo, xc, yo, yc, rfl, hb1, hx1, hy1⟩; have hch := HX.out xo yo xc yc w1 hx1.out hy1.out) | (go_at_call 10; refine hch.mono ?_; rintro e w2 ⟨rfl, hb2⟩; have hb02 := hb1.trans (hb2.mono hb1.size); obtain ⟨hw2, ⟨_, p0, p1⟩⟩ := HA.out w2 hb02; have hy2 := HY.out w2 hw2) | (go_at_call 11; refine hy2.mono ?_; rintro e w3 ⟨rfl, hb3⟩))
  all_goals go_ret
  all_goals exact ⟨by first | rfl | simp, hw2.trans (hb3.mono hw2.size)⟩

set_option maxRecDepth 20000 in
theorem storeHas_contract (H : Type) (enc : TypeId × Value → H) (W : World) (base : Nat) (args : Array Value) (ds gs : List (DataW H)) (before : List MemPlace)
    (hval : ∀ (j : Nat) t v, Try.f4.params[j]? = some t → args[j]? = some v → Value.okWide Try.prog W .any base t v)
    (hW : DataW.Whole enc Try.prog Try.f4.params.toList Rows.storeHasSpec.vars false W args.toList ds gs before)
    (hsz0 : (DataW.weightsEach Try.prog (Try.f4.params.toList ++ (OpenSpec.ofChange Rows.storeHasSpec).bare.plain.varTypes Try.prog) (ds ++ gs)).all (· ≤ reachBytes) = true)
    (_hL : laidMetH Try.prog Rows.storeHasRow.laid W) :
    Calls Try.prog 4 args W fun e W' => ∃ v, e = .returned v ∧ Rows.storeHasSpec.post enc Try.prog Try.f4 false true false false W args v W' := by
  have hW' := hW
  obtain ⟨p, q, hA0, hV, rfl, hfz, hnd⟩ := hW
  have hA : DataW.TrodAll enc Try.prog W 0 (fun _ => true) true Try.f4.params.toList args.toList ds p := hA0
  rw [Try.params4] at hA hval
  obtain ⟨v0, vs0, d0, ds0, p0, q0, hargs, rfl, rfl, h0, r0⟩ := trodAll_cons hA
  obtain ⟨v1, vs1, d1, ds1, p1, q1, rfl, rfl, rfl, h1, r1⟩ := trodAll_cons r0
  obtain ⟨rfl, rfl, rfl⟩ := trodAll_nil r1
  obtain rfl : args = #[v0, v1] := by cases args; simp_all
  obtain ⟨rfl, rfl⟩ := trodVars_none hV
  have hsz : (DataW.weightsEach Try.prog [25, 3] [d0, d1]).all (· ≤ reachBytes) = true := hsz0
  obtain ⟨lv, rv, lo, rs, rfl, hL1, hR1, hz⟩ := open_store (hval 0 25 v0 rfl rfl) h0 hsz (j := 0) rfl rfl
  obtain ⟨x, rfl, rfl, rfl, wf1⟩ := open_int Try.underlying3 (hval 1 3 v1 rfl rfl) h1
  refine (storeHas_walk lv rv lo rs x W hz hL1 hR1).mono fun e W' ⟨he, hb⟩ => ⟨_, he, ?_⟩
  refine law_post (fun t ht => ?_) rfl (by kernel_rfl) hW' rfl rfl rfl hb
  rw [Try.params4] at ht
  simp only [List.mem_cons, List.not_mem_nil, or_false] at ht
  rcases ht with rfl | rfl
  · exact ⟨by kernel_rfl, of_decide_eq_true (by kernel_rfl)⟩
  · exact ⟨by kernel_rfl, of_decide_eq_true (by kernel_rfl)⟩

/-- A WORLD FOR THE WITNESS: the settled one. -/
noncomputable def storeHasWorld (os : Os) : World := World.holding Try.prog os ⟨#[], #[], []⟩
set_option maxRecDepth 20000 in
theorem storeHas_met (os : Os) : laidMet Try.prog Rows.storeHasRow.laid ((storeHasWorld os).forCall (fun _ _ => 0) ⟨#[], #[.agg #[.slice none 0 0, .slice none 0 0], .int .i64 0], []⟩).memory :=
  laidMet_of_run' 8 (by kernel_rfl) (by kernel_rfl)
set_option maxRecDepth 20000 in
theorem storeHas_reads (os : Os) {H : Type} (enc : TypeId × Value → H) : ∃ places, DataW.whole enc Try.prog ((storeHasWorld os).forCall (fun _ _ => 0) ⟨#[], #[.agg #[.slice none 0 0, .slice none 0 0], .int .i64 0], []⟩).memory Try.f4.params.toList Rows.storeHasSpec.vars false #[Value.agg #[.slice none 0 0, .slice none 0 0], .int .i64 0].toList 8 = some ([.agg [.nil, .nil], .lit (.int .i64 0)], [], places) :=
  ⟨[], by kernel_rfl⟩

set_option maxRecDepth 100000 in
theorem storeHas_lifted (os : Os) (started : os.Started) (H : Type) (enc : TypeId × Value → H) (F : Stop.Interp) :
    ReturnsInHanded {} Try.checked os 4 .any ((OpenSpec.ofChange Rows.storeHasSpec).preRow enc Try.prog Try.f4 Rows.storeHasRow.domain false Rows.storeHasRow.laid) (((OpenSpec.ofChange Rows.storeHasSpec).at F).post enc Try.prog Try.f4 false true false false) := by
  obtain ⟨places, hx⟩ := storeHas_reads os enc
  refine returnsInHanded_of_row (C := Try.checked) (s := OpenSpec.ofChange Rows.storeHasSpec) own started (by kernel_rfl) Try.func4
    (witness_row_at (enc := enc) (C := Try.checked) false (storeHasWorld os) #[.agg #[.slice none 0 0, .slice none 0 0], .int .i64 0] rfl (by kernel_rfl) (by kernel_rfl) (by kernel_rfl)
      (OpenSpec.preRow_of_cond 8 hx (by kernel_rfl) (fun k hk => by cases hk) (by kernel_rfl) (storeHas_met os))) ?_
  intro W base args ds gs before hval hW _ _ hsz hL _ _
  exact storeHas_contract H enc W base args ds gs before hval hW hsz hL

set_option maxRecDepth 20000 in
theorem storeHas_said : Rows.StoreHasSaid :=
  OpenClaim.holds_of_cond 4 Try.f4 rfl rfl rfl rfl rfl rfl rfl ⟨rfl, rfl, rfl, rfl, rfl⟩ rfl rfl rfl rfl rfl (by kernel_rfl) Try.func4 (by kernel_rfl)
    (of_decide_eq_true (by kernel_rfl)) (by unfold Func.isWrapper; first | (rw [if_pos (by decide +kernel)]; kernel_rfl) | (rw [if_neg (by decide +kernel)]; exact ⟨rfl, rfl⟩))
    (fun os started H enc _ F => by rw [OpenClaim.pre_eq_preRow]; exact storeHas_lifted os started H enc F)

#print axioms storeHas_said
end Go.Proofs.Ytjapkkdbmpcoeaa
