/-
  Proved: foretelllaw.SccChecks answers true at every graph (scc.Check answers as the document's P8.1 does). No condition.
-/
import Derived.Test.YtohdmjbahapapaaRowP
import Derived.Test.YtohdmjbahapapaaGCopy
import Derived.Test.YtohdmjbahapapaaRefGraph
namespace Go.Proofs.Ytohdmjbahapapaa
open Go.ChangeShapes Go.WideShapes Go.ChangeAt Go.RowKit Go.Deep
open Terms

set_option maxHeartbeats 1600000 in
set_option maxRecDepth 20000 in
theorem sccChecks_walk (sv nv bv : Value) (g : Gr) (w : World) (hZ : GrSz g) (hG : GraphW w sv nv bv g) :
    Calls Try.prog 3 #[.agg #[sv, .int .i64 g.init, nv, bv, .int .i64 g.many]] w fun e w' => e = .returned (.bool true) ∧ Below w.heap.size w w' := by
  obtain ⟨so, sc, rfl⟩ : ∃ so sc, sv = .slice so g.spots.length sc := by obtain ⟨a, c, h, _⟩ := hG.spots; exact ⟨a, c, h⟩
  obtain ⟨no, nc, rfl⟩ := hG.v.next.shape
  obtain ⟨bo, bc, rfl⟩ : ∃ bo bc, bv = .slice bo g.sets.length bc := by obtain ⟨a, c, h, _⟩ := hG.sets; exact ⟨a, c, h⟩
  obtain ⟨W0, hW0⟩ : ∃ W0, W0 = w.alloc (.cells #[.slice so g.spots.length sc, .int .i64 g.init, .slice no g.next.length nc, .slice bo g.sets.length bc, .int .i64 g.many] 26) := ⟨_, rfl⟩
  have hA : Below w.heap.size w W0 := by rw [hW0]; exact (Below.refl _ _).alloc (Nat.le_refl _) _
  have hs0 : w.heap.size < W0.heap.size := by rw [hW0]; simp
  have HD : Hid (∀ w1, Below W0.heap.size W0 w1 → Below w.heap.size w w1 ∧ w1.cell? ⟨w.heap.size, 0, none⟩ = some (.slice so g.spots.length sc) ∧ w1.cell? ⟨w.heap.size, 1, none⟩ = some (.int .i64 g.init) ∧ w1.cell? ⟨w.heap.size, 2, none⟩ = some (.slice no g.next.length nc) ∧ w1.cell? ⟨w.heap.size, 3, none⟩ = some (.slice bo g.sets.length bc) ∧ w1.cell? ⟨w.heap.size, 4, none⟩ = some (.int .i64 g.many)) := fun w1 hb => by
    have c : ∀ j, w1.cell? ⟨w.heap.size, j, none⟩ = W0.cell? ⟨w.heap.size, j, none⟩ := fun j => hb.cell (p := ⟨w.heap.size, j, none⟩) hs0
    refine ⟨hA.trans (hb.mono hA.size), (c _).trans ?_, (c _).trans ?_, (c _).trans ?_, (c _).trans ?_, (c _).trans ?_⟩ <;> (rw [hW0]; simp [go_sem])
  have hz1 : g.spots.length ≤ 140737488355328 := by have := hZ.spots; omega
  have hz2 : g.next.length ≤ 140737488355328 := hZ.next.le
  have hz3 : g.sets.length ≤ 140737488355328 := by have := hZ.sets; omega
  have hzn : ∀ i, i < g.next.length → (g.next.getD i []).length ≤ 140737488355328 := fun i hi => by have := hZ.next.2 i hi; omega
  have hgr := graphs_any so no bo sc nc bc g W0 hZ (hG.below hA)
  have hch := fun w1 so' sc' no' nc' bo' bc' (h : GraphV w1 (.slice so' g.spots.length sc') (.slice no' g.next.length nc') (.slice bo' g.sets.length bc') g) => scheck_any so' no' bo' sc' nc' bc' g w1 hz1 hz2 hz3 hzn h
  have hrf := fun w1 (hb : Below w.heap.size w w1) => gfault_any so no bo sc nc bc g w1 hz1 hz2 hz3 hzn (hG.v.below hb)
  generalize gcode g = x at *
  generalize g.spots.length = sn at *
  generalize g.next.length = nn at *
  generalize g.sets.length = bn at *
  generalize g.init = gi at *
  generalize g.many = gm at *
  clear hG hZ hz1 hz2 hz3 hzn hs0
  subst hW0
  go_enter Try.func3, Try.ntmps3
  go_wp2_with (first | (go_at_call 9; refine hgr.mono ?_; rintro e w1 ⟨so', sc', no', nc', bo', bc', rfl, hb1, HO⟩; have hc1 := hch w1 _ _ _ _ _ _ HO.out.v) | (go_at_call 8; refine hc1.mono ?_; rintro e w2 ⟨rfl, hb2⟩; obtain ⟨hb12, e0, e1, e2, e3, e4⟩ := HD.out w2 (hb1.trans (hb2.mono hb1.size)); have hr2 := hrf w2 hb12) | (go_at_call 10; refine hr2.mono ?_; rintro e w3 ⟨rfl, hb3⟩))
  go_ret
  exact ⟨by first | rfl | simp, hb12.trans (hb3.mono hb12.size)⟩

set_option maxRecDepth 20000 in
theorem sccChecks_contract (H : Type) (enc : TypeId × Value → H) (W : World) (base : Nat) (args : Array Value) (ds gs : List (DataW H)) (before : List MemPlace)
    (hval : ∀ (j : Nat) t v, Try.f3.params[j]? = some t → args[j]? = some v → Value.okWide Try.prog W .any base t v)
    (hW : DataW.Whole enc Try.prog Try.f3.params.toList Rows.sccChecksSpec.vars false W args.toList ds gs before)
    (hsz0 : (DataW.weightsEach Try.prog (Try.f3.params.toList ++ (OpenSpec.ofChange Rows.sccChecksSpec).bare.plain.varTypes Try.prog) (ds ++ gs)).all (· ≤ reachBytes) = true)
    (_hL : laidMetH Try.prog Rows.sccChecksRow.laid W) :
    Calls Try.prog 3 args W fun e W' => ∃ v, e = .returned v ∧ Rows.sccChecksSpec.post enc Try.prog Try.f3 false true false false W args v W' := by
  have hW' := hW
  obtain ⟨p, q, hA0, hV, rfl, hfz, hnd⟩ := hW
  have hA : DataW.TrodAll enc Try.prog W 0 (fun _ => true) true Try.f3.params.toList args.toList ds p := hA0
  rw [Try.params3] at hA hval
  obtain ⟨v0, vs0, d0, ds0, p0, q0, hargs, rfl, rfl, h0, r0⟩ := trodAll_cons hA
  obtain ⟨rfl, rfl, rfl⟩ := trodAll_nil r0
  obtain rfl : args = #[v0] := by cases args; simp_all
  obtain ⟨rfl, rfl⟩ := trodVars_none hV
  have hsz : (DataW.weightsEach Try.prog [26] [d0]).all (· ≤ reachBytes) = true := hsz0
  obtain ⟨sv, nv, bv, g, rfl, hG, hZ⟩ := open_graph (hval 0 26 v0 rfl rfl) h0 hsz (j := 0) rfl rfl
  refine (sccChecks_walk sv nv bv g W hZ hG).mono fun e W' ⟨he, hb⟩ => ⟨_, he, ?_⟩
  refine law_post (fun t ht => ?_) rfl (by kernel_rfl) hW' rfl rfl rfl hb
  rw [Try.params3] at ht
  obtain rfl : t = 26 := by simpa using ht
  exact ⟨by kernel_rfl, of_decide_eq_true (by kernel_rfl)⟩

/-- A WORLD FOR THE WITNESS: the settled one. -/
noncomputable def sccChecksWorld (os : Os) : World := World.holding Try.prog os ⟨#[], #[], []⟩
set_option maxRecDepth 20000 in
theorem sccChecks_met (os : Os) : laidMet Try.prog Rows.sccChecksRow.laid ((sccChecksWorld os).forCall (fun _ _ => 0) ⟨#[], #[.agg #[.slice none 0 0, .int .i64 0, .slice none 0 0, .slice none 0 0, .int .i64 0]], []⟩).memory :=
  laidMet_of_run' 8 (by kernel_rfl) (by kernel_rfl)
set_option maxRecDepth 20000 in
theorem sccChecks_reads (os : Os) {H : Type} (enc : TypeId × Value → H) : ∃ places, DataW.whole enc Try.prog ((sccChecksWorld os).forCall (fun _ _ => 0) ⟨#[], #[.agg #[.slice none 0 0, .int .i64 0, .slice none 0 0, .slice none 0 0, .int .i64 0]], []⟩).memory Try.f3.params.toList Rows.sccChecksSpec.vars false #[Value.agg #[.slice none 0 0, .int .i64 0, .slice none 0 0, .slice none 0 0, .int .i64 0]].toList 8 = some ([.agg [.nil, .lit (.int .i64 0), .nil, .nil, .lit (.int .i64 0)]], [], places) :=
  ⟨[], by kernel_rfl⟩

set_option maxRecDepth 100000 in
theorem sccChecks_lifted (os : Os) (started : os.Started) (H : Type) (enc : TypeId × Value → H) (F : Stop.Interp) :
    ReturnsInHanded {} Try.checked os 3 .any ((OpenSpec.ofChange Rows.sccChecksSpec).preRow enc Try.prog Try.f3 Rows.sccChecksRow.domain false Rows.sccChecksRow.laid) (((OpenSpec.ofChange Rows.sccChecksSpec).at F).post enc Try.prog Try.f3 false true false false) := by
  obtain ⟨places, hx⟩ := sccChecks_reads os enc
  refine returnsInHanded_of_row (C := Try.checked) (s := OpenSpec.ofChange Rows.sccChecksSpec) own started (by kernel_rfl) Try.func3
    (witness_row_at (enc := enc) (C := Try.checked) false (sccChecksWorld os) #[.agg #[.slice none 0 0, .int .i64 0, .slice none 0 0, .slice none 0 0, .int .i64 0]] rfl (by kernel_rfl) (by kernel_rfl) (by kernel_rfl)
      (OpenSpec.preRow_of_cond 8 hx (by kernel_rfl) (fun k hk => by cases hk) (by kernel_rfl) (sccChecks_met os))) ?_
  intro W base args ds gs before hval hW _ _ hsz hL _ _
  exact sccChecks_contract H enc W base args ds gs before hval hW hsz hL

set_option maxRecDepth 20000 in
theorem sccChecks_said : Rows.SccChecksSaid :=
  OpenClaim.holds_of_cond 3 Try.f3 rfl rfl rfl rfl rfl rfl rfl ⟨rfl, rfl, rfl, rfl, rfl⟩ rfl rfl rfl rfl rfl (by kernel_rfl) Try.func3 (by kernel_rfl)
    (of_decide_eq_true (by kernel_rfl)) (by unfold Func.isWrapper; first | (rw [if_pos (by decide +kernel)]; kernel_rfl) | (rw [if_neg (by decide +kernel)]; exact ⟨rfl, rfl⟩))
    (fun os started H enc _ F => by rw [OpenClaim.pre_eq_preRow]; exact sccChecks_lifted os started H enc F)

#print axioms sccChecks_said
end Go.Proofs.Ytohdmjbahapapaa
