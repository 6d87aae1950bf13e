/-
  Proved: foretelllaw.SccFairs answers true at every graph whose bulk is at most 1048576 (scc.Fair answers as the document's P8.4 does). The bound is the given statement's own; no other condition.
-/
import Derived.Test.YtknneajaklcjdaaRowP
import Derived.Test.YtknneajaklcjdaaGCopy
import Derived.Test.YtknneajaklcjdaaGOpenB
import Derived.Test.YtknneajaklcjdaaRefFair
namespace Go.Proofs.Ytknneajaklcjdaa
open Go.ChangeShapes Go.WideShapes Go.ChangeAt Go.RowKit Go.Deep
open Terms

theorem fair_both {g : Gr} (hz : GrLe g) (hT : totN (nxt g) g.next.length ≤ 1099511627776) : ∃ (x y : Int), (∀ (so no bo : Option Addr) (sc nc bc : Nat) (w : World), GraphV w (.slice so g.spots.length sc) (.slice no g.next.length nc) (.slice bo g.sets.length bc) g → Calls Try.prog 11 #[.agg #[.slice so g.spots.length sc, .int .i64 g.init, .slice no g.next.length nc, .slice bo g.sets.length bc, .int .i64 g.many]] w fun e w' => e = .returned (.tuple #[.int .i64 x, .int .i64 y]) ∧ Below w.heap.size w w') ∧
    ∀ (so no bo : Option Addr) (sc nc bc : Nat) (w : World), GraphV w (.slice so g.spots.length sc) (.slice no g.next.length nc) (.slice bo g.sets.length bc) g → Calls Try.prog 12 #[.agg #[.slice so g.spots.length sc, .int .i64 g.init, .slice no g.next.length nc, .slice bo g.sets.length bc, .int .i64 g.many]] w fun e w' => e = .returned (.tuple #[.int .i64 x, .int .i64 y]) ∧ Below w.heap.size w w' := by
  by_cases hc : gcode g = 0
  · have hn := (gcode_zero hc).head.next
    exact ⟨fairV g, fairC g, fun so no bo sc nc bc w h => sfair_ok so no bo sc nc bc g w hz h hc, fun so no bo sc nc bc w h => rfair_ok so no bo sc nc bc g w hz h hc (by rw [← hn]; exact hT)⟩
  · exact ⟨0, 9, fun so no bo sc nc bc w h => sfair_bad so no bo sc nc bc g w hz h hc, fun so no bo sc nc bc w h => rfair_bad so no bo sc nc bc g w hz h hc⟩

set_option maxHeartbeats 1600000 in
set_option maxRecDepth 20000 in
theorem sccFairs_walk (sv nv bv : Value) (g : Gr) (w : World) (hZ : GrSz g) (hG : GraphW w sv nv bv g) (hT : totN (nxt g) g.next.length ≤ 1099511627776) :
    Calls Try.prog 4 #[.agg #[sv, .int .i64 g.init, nv, bv, .int .i64 g.many]] w fun e w' => e = .returned (.bool true) ∧ Below w.heap.size w w' := by
  obtain ⟨so, sc, rfl⟩ : ∃ so sc, sv = .slice so g.spots.length sc := by obtain ⟨a, c, h, _⟩ := hG.spots; exact ⟨a, c, h⟩
  obtain ⟨no, nc, rfl⟩ := hG.v.next.shape
  obtain ⟨bo, bc, rfl⟩ : ∃ bo bc, bv = .slice bo g.sets.length bc := by obtain ⟨a, c, h, _⟩ := hG.sets; exact ⟨a, c, h⟩
  obtain ⟨W0, hW0⟩ : ∃ W0, W0 = w.alloc (.cells #[.slice so g.spots.length sc, .int .i64 g.init, .slice no g.next.length nc, .slice bo g.sets.length bc, .int .i64 g.many] 26) := ⟨_, rfl⟩
  have hA : Below w.heap.size w W0 := by rw [hW0]; exact (Below.refl _ _).alloc (Nat.le_refl _) _
  have hs0 : w.heap.size < W0.heap.size := by rw [hW0]; simp
  have HD : Hid (∀ w1, Below W0.heap.size W0 w1 → Below w.heap.size w w1 ∧ w1.cell? ⟨w.heap.size, 0, none⟩ = some (.slice so g.spots.length sc) ∧ w1.cell? ⟨w.heap.size, 1, none⟩ = some (.int .i64 g.init) ∧ w1.cell? ⟨w.heap.size, 2, none⟩ = some (.slice no g.next.length nc) ∧ w1.cell? ⟨w.heap.size, 3, none⟩ = some (.slice bo g.sets.length bc) ∧ w1.cell? ⟨w.heap.size, 4, none⟩ = some (.int .i64 g.many)) := fun w1 hb => by
    have c : ∀ j, w1.cell? ⟨w.heap.size, j, none⟩ = W0.cell? ⟨w.heap.size, j, none⟩ := fun j => hb.cell (p := ⟨w.heap.size, j, none⟩) hs0
    refine ⟨hA.trans (hb.mono hA.size), (c _).trans ?_, (c _).trans ?_, (c _).trans ?_, (c _).trans ?_, (c _).trans ?_⟩ <;> (rw [hW0]; simp [go_sem])
  have hz1 : g.spots.length ≤ 140737488355328 := by have := hZ.spots; omega
  have hz2 : g.next.length ≤ 140737488355328 := hZ.next.le
  have hz3 : g.sets.length ≤ 140737488355328 := by have := hZ.sets; omega
  have hzn : ∀ i, i < g.next.length → (g.next.getD i []).length ≤ 140737488355328 := fun i hi => by have := hZ.next.2 i hi; omega
  have hgr := graphs_any so no bo sc nc bc g W0 hZ (hG.below hA)
  obtain ⟨x, y, hcc, hrr⟩ := fair_both ⟨hz1, hz2, hz3, hzn⟩ hT
  have hch := fun w1 so' sc' no' nc' bo' bc' (h : GraphV w1 (.slice so' g.spots.length sc') (.slice no' g.next.length nc') (.slice bo' g.sets.length bc') g) => hcc so' no' bo' sc' nc' bc' w1 h
  have hrf := fun w1 (hb : Below w.heap.size w w1) => hrr so no bo sc nc bc w1 (hG.v.below hb)
  generalize g.spots.length = sn at *
  generalize g.next.length = nn at *
  generalize g.sets.length = bn at *
  generalize g.init = gi at *
  generalize g.many = gm at *
  clear hG hZ hz1 hz2 hz3 hzn hs0 hcc hrr hT
  subst hW0
  go_enter Try.func4, Try.ntmps4
  go_wp2_with (first | (go_at_call 6; refine hgr.mono ?_; rintro e w1 ⟨so', sc', no', nc', bo', bc', rfl, hb1, HO⟩; have hc1 := hch w1 _ _ _ _ _ _ HO.out.v) | (go_at_call 11; refine hc1.mono ?_; rintro e w2 ⟨rfl, hb2⟩; obtain ⟨hb12, e0, e1, e2, e3, e4⟩ := HD.out w2 (hb1.trans (hb2.mono hb1.size)); have hr2 := hrf w2 hb12) | (go_at_call 12; refine hr2.mono ?_; rintro e w3 ⟨rfl, hb3⟩))
  go_ret
  exact ⟨by first | rfl | simp, hb12.trans (hb3.mono hb12.size)⟩

set_option maxRecDepth 20000 in
theorem sccFairs_contract (H : Type) (enc : TypeId × Value → H) (W : World) (base : Nat) (args : Array Value) (ds gs : List (DataW H)) (before : List MemPlace)
    (hval : ∀ (j : Nat) t v, Try.f4.params[j]? = some t → args[j]? = some v → Value.okWide Try.prog W .any base t v)
    (hW : DataW.Whole enc Try.prog Try.f4.params.toList Rows.sccFairsSpec.vars false W args.toList ds gs before)
    (hsz0 : (DataW.weightsEach Try.prog (Try.f4.params.toList ++ (Rows.OpenSpec.upto Rows.sccFairsSpec).bare.plain.varTypes Try.prog) (ds ++ gs)).all (· ≤ reachBytes) = true)
    (hk : Rows.uptoSmall H (ds ++ gs) = true)
    (_hL : laidMetH Try.prog Rows.sccFairsUptoRow.laid W) :
    Calls Try.prog 4 args W fun e W' => ∃ v, e = .returned v ∧ Rows.sccFairsSpec.post enc Try.prog Try.f4 false true false false W args v W' := by
  have hW' := hW
  obtain ⟨p, q, hA0, hV, rfl, hfz, hnd⟩ := hW
  have hA : DataW.TrodAll enc Try.prog W 0 (fun _ => true) true Try.f4.params.toList args.toList ds p := hA0
  rw [Try.params4] at hA hval
  obtain ⟨v0, vs0, d0, ds0, p0, q0, hargs, rfl, rfl, h0, r0⟩ := trodAll_cons hA
  obtain ⟨rfl, rfl, rfl⟩ := trodAll_nil r0
  obtain rfl : args = #[v0] := by cases args; simp_all
  obtain ⟨rfl, rfl⟩ := trodVars_none hV
  have hsz : (DataW.weightsEach Try.prog [26] [d0]).all (· ≤ reachBytes) = true := hsz0
  have hbk : Rows.uptoBulk d0 ≤ 1048576 := by
    have h9 : Rows.uptoBulkAll ([d0] ++ []) ≤ 1048576 := of_decide_eq_true hk
    simp only [List.append_nil, Rows.uptoBulkAll] at h9
    omega
  obtain ⟨sv, nv, bv, g, rfl, hG, hZ, hT0⟩ := open_graphB (hval 0 26 v0 rfl rfl) h0 hsz (j := 0) rfl rfl
  have hT : totN (nxt g) g.next.length ≤ 1099511627776 := by omega
  refine (sccFairs_walk sv nv bv g W hZ hG hT).mono fun e W' ⟨he, hb⟩ => ⟨_, he, ?_⟩
  refine law_post (fun t ht => ?_) rfl (by kernel_rfl) hW' rfl rfl rfl hb
  rw [Try.params4] at ht
  obtain rfl : t = 26 := by simpa using ht
  exact ⟨by kernel_rfl, of_decide_eq_true (by kernel_rfl)⟩

/-- A WORLD FOR THE WITNESS: the settled one. -/
noncomputable def sccFairsWorld (os : Os) : World := World.holding Try.prog os ⟨#[], #[], []⟩
set_option maxRecDepth 20000 in
theorem sccFairs_met (os : Os) : laidMet Try.prog Rows.sccFairsUptoRow.laid ((sccFairsWorld os).forCall (fun _ _ => 0) ⟨#[], #[.agg #[.slice none 0 0, .int .i64 0, .slice none 0 0, .slice none 0 0, .int .i64 0]], []⟩).memory :=
  laidMet_of_run' 8 (by kernel_rfl) (by kernel_rfl)
set_option maxRecDepth 20000 in
theorem sccFairs_reads (os : Os) {H : Type} (enc : TypeId × Value → H) : ∃ places, DataW.whole enc Try.prog ((sccFairsWorld os).forCall (fun _ _ => 0) ⟨#[], #[.agg #[.slice none 0 0, .int .i64 0, .slice none 0 0, .slice none 0 0, .int .i64 0]], []⟩).memory Try.f4.params.toList Rows.sccFairsSpec.vars false #[Value.agg #[.slice none 0 0, .int .i64 0, .slice none 0 0, .slice none 0 0, .int .i64 0]].toList 8 = some ([.agg [.nil, .lit (.int .i64 0), .nil, .nil, .lit (.int .i64 0)]], [], places) :=
  ⟨[], by kernel_rfl⟩

set_option maxRecDepth 100000 in
theorem sccFairs_lifted (os : Os) (started : os.Started) (H : Type) (enc : TypeId × Value → H) (F : Stop.Interp) :
    ReturnsInHanded {} Try.checked os 4 .any ((Rows.OpenSpec.upto Rows.sccFairsSpec).preRow enc Try.prog Try.f4 Rows.sccFairsUptoRow.domain false Rows.sccFairsUptoRow.laid) (((Rows.OpenSpec.upto Rows.sccFairsSpec).at F).post enc Try.prog Try.f4 false true false false) := by
  obtain ⟨places, hx⟩ := sccFairs_reads os enc
  refine returnsInHanded_of_row (C := Try.checked) (s := Rows.OpenSpec.upto Rows.sccFairsSpec) own started (by kernel_rfl) Try.func4
    (witness_row_at (enc := enc) (C := Try.checked) false (sccFairsWorld os) #[.agg #[.slice none 0 0, .int .i64 0, .slice none 0 0, .slice none 0 0, .int .i64 0]] rfl (by kernel_rfl) (by kernel_rfl) (by kernel_rfl)
      (OpenSpec.preRow_of_cond 8 hx (by kernel_rfl) (fun k hk => by cases hk; kernel_rfl) (by kernel_rfl) (sccFairs_met os))) ?_
  intro W base args ds gs before hval hW _ hcond hsz hL _ _
  exact sccFairs_contract H enc W base args ds gs before hval hW hsz (hcond _ rfl) hL

set_option maxRecDepth 20000 in
theorem sccFairs_said : Rows.SccFairsUptoSaid :=
  OpenClaim.holds_of_cond 4 Try.f4 rfl rfl rfl rfl rfl rfl rfl ⟨rfl, rfl, rfl, rfl, rfl⟩ rfl rfl rfl rfl rfl (by kernel_rfl) Try.func4 (by kernel_rfl)
    (of_decide_eq_true (by kernel_rfl)) (by unfold Func.isWrapper; first | (rw [if_pos (by decide +kernel)]; kernel_rfl) | (rw [if_neg (by decide +kernel)]; exact ⟨rfl, rfl⟩))
    (fun os started H enc _ F => by rw [OpenClaim.pre_eq_preRow]; exact sccFairs_lifted os started H enc F)

#print axioms sccFairs_said
end Go.Proofs.Ytknneajaklcjdaa
