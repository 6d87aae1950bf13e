/-
  Proved: foretelllaw.SearchChecks answers true at every list of moves (search.Check answers as the document's P13.1 does). No condition.
-/
import Derived.Test.YtkncpnfhenmonaaSMem
import Derived.Test.YtkncpnfhenmonaaSCk
namespace Go.Proofs.Ytkncpnfhenmonaa
open Go.ChangeShapes Go.WideShapes Go.ChangeAt Go.RowKit Go.Deep

set_option maxHeartbeats 800000 in
set_option maxRecDepth 20000 in
theorem searchChecks_walk (v : Value) (l : List (Int × Int)) (w : World) (hl : l.length * 16 ≤ 140737488355328) (hV : OpsV w v l) :
    Calls Try.prog 3 #[v] w fun e w' => e = .returned (.bool true) ∧ Below w.heap.size w w' := by
  obtain ⟨ao, cap, rfl, _⟩ := id hV
  have hcp : Calls Try.prog 5 #[.slice ao l.length cap] w fun e w' => ∃ xo xc, e = .returned (.slice xo l.length xc) ∧ Below w.heap.size w w' ∧ Hid (OpsV w' (.slice xo l.length xc) l) := (moves_any _ l w hl hV).mono fun e w' ⟨v', h1, h2, h3⟩ => by
    obtain ⟨xo, xc, rfl⟩ := owns_slice h3
    exact ⟨xo, xc, h1, h2, opsV_of_owns h3⟩
  have HX : Hid (∀ (xo : Option Addr) (xc : Nat) (w1 : World), OpsV w1 (.slice xo l.length xc) l → Calls Try.prog 4 #[.slice xo l.length xc] w1 fun e w' => e = .returned (.int .i64 (mvC l)) ∧ Below w1.heap.size w1 w') := fun xo xc w1 h1 => check_any xo xc l w1 hl h1
  have HY : Hid (∀ (w1 : World), Below w.heap.size w w1 → Calls Try.prog 6 #[.slice ao l.length cap] w1 fun e w' => e = .returned (.int .i64 (mvC l)) ∧ Below w1.heap.size w1 w') := fun w1 h => fault_any ao cap l w1 hl (hV.below h)
  generalize mvC l = c at *
  generalize l.length = m at *
  clear hV
  go_enter Try.func3, Try.ntmps3
  go_wp2_with (first | (go_at_call 5; refine hcp.mono ?_; rintro e w1 ⟨xo, xc, rfl, hb1, hx1⟩; have hch := HX.out xo xc w1 hx1.out) | (go_at_call 4; refine hch.mono ?_; rintro e w2 ⟨rfl, hb2⟩; have hb02 := hb1.trans (hb2.mono hb1.size); have hy2 := HY.out w2 hb02) | (go_at_call 6; refine hy2.mono ?_; rintro e w3 ⟨rfl, hb3⟩))
  all_goals go_ret
  all_goals exact ⟨by first | rfl | simp, hb02.trans (hb3.mono hb02.size)⟩

set_option maxRecDepth 20000 in
theorem searchChecks_contract (H : Type) (enc : TypeId × Value → H) (W : World) (base : Nat) (args : Array Value) (ds gs : List (DataW H)) (before : List MemPlace)
    (hval : ∀ (j : Nat) t v, Try.f3.params[j]? = some t → args[j]? = some v → Value.okWide Try.prog W .any base t v)
    (hW : DataW.Whole enc Try.prog Try.f3.params.toList Rows.searchChecksSpec.vars false W args.toList ds gs before)
    (hsz0 : (DataW.weightsEach Try.prog (Try.f3.params.toList ++ (OpenSpec.ofChange Rows.searchChecksSpec).bare.plain.varTypes Try.prog) (ds ++ gs)).all (· ≤ reachBytes) = true)
    (_hL : laidMetH Try.prog Rows.searchChecksRow.laid W) :
    Calls Try.prog 3 args W fun e W' => ∃ v, e = .returned v ∧ Rows.searchChecksSpec.post enc Try.prog Try.f3 false true false false W args v W' := by
  have hW' := hW
  obtain ⟨p, q, hA0, hV, rfl, hfz, hnd⟩ := hW
  have hA : DataW.TrodAll enc Try.prog W 0 (fun _ => true) true Try.f3.params.toList args.toList ds p := hA0
  rw [Try.params3] at hA hval
  obtain ⟨v0, vs0, d0, ds0, p0, q0, hargs, rfl, rfl, h0, r0⟩ := trodAll_cons hA
  obtain ⟨rfl, rfl, rfl⟩ := trodAll_nil r0
  obtain rfl : args = #[v0] := by cases args; simp_all
  obtain ⟨rfl, rfl⟩ := trodVars_none hV
  have hsz : (DataW.weightsEach Try.prog [22] [d0]).all (· ≤ reachBytes) = true := hsz0
  obtain ⟨l, hV, hl⟩ := open_ops (hval 0 22 v0 rfl rfl) h0 hsz (j := 0) rfl rfl
  refine (searchChecks_walk v0 l W hl hV).mono fun e W' ⟨he, hb⟩ => ⟨_, he, ?_⟩
  refine law_post (fun t ht => ?_) rfl (by kernel_rfl) hW' rfl rfl rfl hb
  rw [Try.params3] at ht
  obtain rfl : t = 22 := by simpa using ht
  exact ⟨by kernel_rfl, of_decide_eq_true (by kernel_rfl)⟩

/-- A WORLD FOR THE WITNESS: the settled one. -/
noncomputable def searchChecksWorld (os : Os) : World := World.holding Try.prog os ⟨#[], #[], []⟩
set_option maxRecDepth 20000 in
theorem searchChecks_met (os : Os) : laidMet Try.prog Rows.searchChecksRow.laid ((searchChecksWorld os).forCall (fun _ _ => 0) ⟨#[], #[.slice none 0 0], []⟩).memory :=
  laidMet_of_run' 8 (by kernel_rfl) (by kernel_rfl)
set_option maxRecDepth 20000 in
theorem searchChecks_reads (os : Os) {H : Type} (enc : TypeId × Value → H) : ∃ places, DataW.whole enc Try.prog ((searchChecksWorld os).forCall (fun _ _ => 0) ⟨#[], #[.slice none 0 0], []⟩).memory Try.f3.params.toList Rows.searchChecksSpec.vars false #[Value.slice none 0 0].toList 8 = some ([.nil], [], places) :=
  ⟨[], by kernel_rfl⟩

set_option maxRecDepth 100000 in
theorem searchChecks_lifted (os : Os) (started : os.Started) (H : Type) (enc : TypeId × Value → H) (F : Stop.Interp) :
    ReturnsInHanded {} Try.checked os 3 .any ((OpenSpec.ofChange Rows.searchChecksSpec).preRow enc Try.prog Try.f3 Rows.searchChecksRow.domain false Rows.searchChecksRow.laid) (((OpenSpec.ofChange Rows.searchChecksSpec).at F).post enc Try.prog Try.f3 false true false false) := by
  obtain ⟨places, hx⟩ := searchChecks_reads os enc
  refine returnsInHanded_of_row (C := Try.checked) (s := OpenSpec.ofChange Rows.searchChecksSpec) own started (by kernel_rfl) Try.func3
    (witness_row_at (enc := enc) (C := Try.checked) false (searchChecksWorld os) #[.slice none 0 0] rfl (by kernel_rfl) (by kernel_rfl) (by kernel_rfl)
      (OpenSpec.preRow_of_cond 8 hx (by kernel_rfl) (fun k hk => by cases hk) (by kernel_rfl) (searchChecks_met os))) ?_
  intro W base args ds gs before hval hW _ _ hsz hL _ _
  exact searchChecks_contract H enc W base args ds gs before hval hW hsz hL

set_option maxRecDepth 20000 in
theorem searchChecks_said : Rows.SearchChecksSaid :=
  OpenClaim.holds_of_cond 3 Try.f3 rfl rfl rfl rfl rfl rfl rfl ⟨rfl, rfl, rfl, rfl, rfl⟩ rfl rfl rfl rfl rfl (by kernel_rfl) Try.func3 (by kernel_rfl)
    (of_decide_eq_true (by kernel_rfl)) (by unfold Func.isWrapper; first | (rw [if_pos (by decide +kernel)]; kernel_rfl) | (rw [if_neg (by decide +kernel)]; exact ⟨rfl, rfl⟩))
    (fun os started H enc _ F => by rw [OpenClaim.pre_eq_preRow]; exact searchChecks_lifted os started H enc F)

#print axioms searchChecks_said
end Go.Proofs.Ytkncpnfhenmonaa
