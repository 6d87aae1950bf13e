/-
  Proved: foretelllaw.SccLassos answers true at every graph whose bulk is at most 1048576 (scc.Lasso answers as the document's P8.5 lets it, and changes none of its arguments). The bound is the given statement's own; no other condition.
-/
import Derived.Test.YtknneajaklcjdaaRowP
import Derived.Test.YtknneajaklcjdaaGCopy
import Derived.Test.YtknneajaklcjdaaGSame
import Derived.Test.YtknneajaklcjdaaGOpenB
import Derived.Test.YtknneajaklcjdaaRefFits
namespace Go.Proofs.Ytknneajaklcjdaa
open Go.ChangeShapes Go.WideShapes Go.ChangeAt Go.RowKit Go.Deep
open Terms

/-- what Lasso answers where there is one. -/
def LasY (g : Gr) (w' : World) (so : Option Addr) (sl sc : Nat) (lo : Option Addr) (ll lc : Nat) : Prop := ∃ st lp, sl = st.length ∧ ll = lp.length ∧ st.length ≤ 20000 ∧ lp.length ≤ 2000000 ∧ LassoOk g st lp ∧ NatsV w' (.slice so sl sc) st ∧ NatsV w' (.slice lo ll lc) lp
theorem lasso_both {g : Gr} (hz : GrLe g) (hT : totN (nxt g) g.next.length ≤ 1099511627776) : (∃ x : Int, gcode g = 0 ∧ (∀ (so no bo : Option Addr) (sc nc bc : Nat) (w : World), GraphV w (.slice so g.spots.length sc) (.slice no g.next.length nc) (.slice bo g.sets.length bc) g → Calls Try.prog 13 #[.agg #[.slice so g.spots.length sc, .int .i64 g.init, .slice no g.next.length nc, .slice bo g.sets.length bc, .int .i64 g.many]] w fun e w' => ∃ ao sl ac lo ll lc, e = .returned (.tuple #[.agg #[.slice ao sl ac, .slice lo ll lc], .int .i64 0]) ∧ Below w.heap.size w w' ∧ Hid (LasY g w' ao sl ac lo ll lc)) ∧
    ∀ (so no bo : Option Addr) (sc nc bc : Nat) (w : World), GraphV w (.slice so g.spots.length sc) (.slice no g.next.length nc) (.slice bo g.sets.length bc) g → Calls Try.prog 12 #[.agg #[.slice so g.spots.length sc, .int .i64 g.init, .slice no g.next.length nc, .slice bo g.sets.length bc, .int .i64 g.many]] w fun e w' => e = .returned (.tuple #[.int .i64 x, .int .i64 0]) ∧ Below w.heap.size w w') ∨
    ∃ (x q : Int), (q = 9 ∨ q = 11) ∧ (∀ (so no bo : Option Addr) (sc nc bc : Nat) (w : World), GraphV w (.slice so g.spots.length sc) (.slice no g.next.length nc) (.slice bo g.sets.length bc) g → Calls Try.prog 13 #[.agg #[.slice so g.spots.length sc, .int .i64 g.init, .slice no g.next.length nc, .slice bo g.sets.length bc, .int .i64 g.many]] w fun e w' => e = .returned (.tuple #[.agg #[.slice none 0 0, .slice none 0 0], .int .i64 q]) ∧ Below w.heap.size w w') ∧
    ∀ (so no bo : Option Addr) (sc nc bc : Nat) (w : World), GraphV w (.slice so g.spots.length sc) (.slice no g.next.length nc) (.slice bo g.sets.length bc) g → Calls Try.prog 12 #[.agg #[.slice so g.spots.length sc, .int .i64 g.init, .slice no g.next.length nc, .slice bo g.sets.length bc, .int .i64 g.many]] w fun e w' => e = .returned (.tuple #[.int .i64 x, .int .i64 q]) ∧ Below w.heap.size w w' := by
  by_cases hc : gcode g = 0
  · have hn := (gcode_zero hc).head.next
    have hrf := fun (so no bo : Option Addr) (sc nc bc : Nat) (w : World) h => rfair_ok so no bo sc nc bc g w hz h hc (by rw [← hn]; exact hT)
    by_cases hq : fairC g = 0
    · rw [hq] at hrf
      refine .inl ⟨fairV g, hc, fun so no bo sc nc bc w h => (slasso_ok so no bo sc nc bc g w hz h hc).mono ?_, hrf⟩
      rintro e w' ⟨v, c, rfl, hb, HV⟩
      rcases HV.out with ⟨h1, h2, h3⟩ | ⟨h1, h2, so, sc, lo, lc, st, lp, h3, h4⟩
      · rw [hq] at h2
        cases h2
      · rw [h1, h3]
        exact ⟨_, _, _, _, _, _, rfl, hb, st, lp, rfl, rfl, h4⟩
    · have h11 : fairC g = 11 := by unfold fairC at hq ⊢; split at hq <;> simp_all
      rw [h11] at hrf
      refine .inr ⟨fairV g, 11, .inr rfl, fun so no bo sc nc bc w h => (slasso_ok so no bo sc nc bc g w hz h hc).mono ?_, hrf⟩
      rintro e w' ⟨v, c, rfl, hb, HV⟩
      rcases HV.out with ⟨h1, h2, h3⟩ | ⟨h1, h2, h3⟩
      · rw [h1, h3]
        exact ⟨rfl, hb⟩
      · exact absurd h2 (by rw [h11]; decide)
  · exact .inr ⟨0, 9, .inl rfl, fun so no bo sc nc bc w h => slasso_bad so no bo sc nc bc g w hz h hc, fun so no bo sc nc bc w h => rfair_bad so no bo sc nc bc g w hz h hc⟩

set_option maxHeartbeats 1600000 in
set_option maxRecDepth 20000 in
theorem sccLassos_walk (sv nv bv : Value) (g : Gr) (w : World) (hZ : GrSz g) (hG : GraphW w sv nv bv g) (hT : totN (nxt g) g.next.length ≤ 1099511627776) :
    Calls Try.prog 5 #[.agg #[sv, .int .i64 g.init, nv, bv, .int .i64 g.many]] w fun e w' => e = .returned (.bool true) ∧ Below w.heap.size w w' := by
  obtain ⟨so, sc, rfl⟩ : ∃ so sc, sv = .slice so g.spots.length sc := by obtain ⟨a, c, h, _⟩ := hG.spots; exact ⟨a, c, h⟩
  obtain ⟨no, nc, rfl⟩ := hG.v.next.shape
  obtain ⟨bo, bc, rfl⟩ : ∃ bo bc, bv = .slice bo g.sets.length bc := by obtain ⟨a, c, h, _⟩ := hG.sets; exact ⟨a, c, h⟩
  obtain ⟨W0, hW0⟩ : ∃ W0, W0 = w.alloc (.cells #[.slice so g.spots.length sc, .int .i64 g.init, .slice no g.next.length nc, .slice bo g.sets.length bc, .int .i64 g.many] 26) := ⟨_, rfl⟩
  have hA : Below w.heap.size w W0 := by rw [hW0]; exact (Below.refl _ _).alloc (Nat.le_refl _) _
  have hs0 : w.heap.size < W0.heap.size := by rw [hW0]; simp
  have HD : Hid (∀ w1, Below W0.heap.size W0 w1 → Below w.heap.size w w1 ∧ w1.cell? ⟨w.heap.size, 0, none⟩ = some (.slice so g.spots.length sc) ∧ w1.cell? ⟨w.heap.size, 1, none⟩ = some (.int .i64 g.init) ∧ w1.cell? ⟨w.heap.size, 2, none⟩ = some (.slice no g.next.length nc) ∧ w1.cell? ⟨w.heap.size, 3, none⟩ = some (.slice bo g.sets.length bc) ∧ w1.cell? ⟨w.heap.size, 4, none⟩ = some (.int .i64 g.many)) := fun w1 hb => by
    have c : ∀ j, w1.cell? ⟨w.heap.size, j, none⟩ = W0.cell? ⟨w.heap.size, j, none⟩ := fun j => hb.cell (p := ⟨w.heap.size, j, none⟩) hs0
    refine ⟨hA.trans (hb.mono hA.size), (c _).trans ?_, (c _).trans ?_, (c _).trans ?_, (c _).trans ?_, (c _).trans ?_⟩ <;> (rw [hW0]; simp [go_sem])
  have hz1 : g.spots.length ≤ 140737488355328 := by have := hZ.spots; omega
  have hz2 : g.next.length ≤ 140737488355328 := hZ.next.le
  have hz3 : g.sets.length ≤ 140737488355328 := by have := hZ.sets; omega
  have hzn : ∀ i, i < g.next.length → (g.next.getD i []).length ≤ 140737488355328 := fun i hi => by have := hZ.next.2 i hi; omega
  have hgr := graphs_any so no bo sc nc bc g W0 hZ (hG.below hA)
  have hlb := lasso_both ⟨hz1, hz2, hz3, hzn⟩ hT
  have HFt : Hid (gcode g = 0 → ∀ (w2 w1 : World) (ao lo : Option Addr) (sl ac ll lc : Nat), Below w.heap.size w w1 → Below w2.heap.size w2 w1 → LasY g w2 ao sl ac lo ll lc → Calls Try.prog 14 #[.agg #[.slice so g.spots.length sc, .int .i64 g.init, .slice no g.next.length nc, .slice bo g.sets.length bc, .int .i64 g.many], .agg #[.slice ao sl ac, .slice lo ll lc]] w1 fun e w' => e = .returned (.bool true) ∧ Below w1.heap.size w1 w') := fun hc w2 w1 ao lo sl ac ll lc hb hb2 hL => by
    obtain ⟨st, lp, rfl, rfl, h1, h2, h3, h4, h5⟩ := hL
    exact lfits_true so no bo ao lo sc nc bc ac lc g st lp w1 (hG.v.below hb) hc (by rw [← (gcode_zero hc).head.next]; exact hT) h1 h2 h3 (h4.below hb2) (h5.below hb2)
  have HC : Hid (∀ (w1 : World) (so' no' bo' : Option Addr) (sc' nc' bc' : Nat), GraphV w1 (.slice so' g.spots.length sc') (.slice no' g.next.length nc') (.slice bo' g.sets.length bc') g → (∀ W, Below (w1.alloc (.cells #[.slice so' g.spots.length sc', .int .i64 g.init, .slice no' g.next.length nc', .slice bo' g.sets.length bc', .int .i64 g.many] 26)).heap.size (w1.alloc (.cells #[.slice so' g.spots.length sc', .int .i64 g.init, .slice no' g.next.length nc', .slice bo' g.sets.length bc', .int .i64 g.many] 26)) W → (W.cell? ⟨w1.heap.size, 0, none⟩ = some (.slice so' g.spots.length sc') ∧ W.cell? ⟨w1.heap.size, 1, none⟩ = some (.int .i64 g.init) ∧ W.cell? ⟨w1.heap.size, 2, none⟩ = some (.slice no' g.next.length nc') ∧ W.cell? ⟨w1.heap.size, 3, none⟩ = some (.slice bo' g.sets.length bc') ∧ W.cell? ⟨w1.heap.size, 4, none⟩ = some (.int .i64 g.many)) ∧ GraphV W (.slice so' g.spots.length sc') (.slice no' g.next.length nc') (.slice bo' g.sets.length bc') g)) := fun w1 so' no' bo' sc' nc' bc' hv W hb => by
    have hl : w1.heap.size < (w1.alloc (.cells #[.slice so' g.spots.length sc', .int .i64 g.init, .slice no' g.next.length nc', .slice bo' g.sets.length bc', .int .i64 g.many] 26)).heap.size := by simp
    have c : ∀ j, W.cell? ⟨w1.heap.size, j, none⟩ = (w1.alloc (.cells #[.slice so' g.spots.length sc', .int .i64 g.init, .slice no' g.next.length nc', .slice bo' g.sets.length bc', .int .i64 g.many] 26)).cell? ⟨w1.heap.size, j, none⟩ := fun j => hb.cell (p := ⟨w1.heap.size, j, none⟩) hl
    refine ⟨⟨(c _).trans ?_, (c _).trans ?_, (c _).trans ?_, (c _).trans ?_, (c _).trans ?_⟩, (hv.below ((Below.refl _ _).alloc (Nat.le_refl _) _)).below hb⟩ <;> simp [go_sem]
  have HA : Hid (∀ (w2 : World) (x y : Value) W, Below (w2.alloc (.cells #[x, y] 37)).heap.size (w2.alloc (.cells #[x, y] 37)) W → W.cell? ⟨w2.heap.size, 0, none⟩ = some x ∧ W.cell? ⟨w2.heap.size, 1, none⟩ = some y) := fun w2 x y W hb => by
    have hl : w2.heap.size < (w2.alloc (.cells #[x, y] 37)).heap.size := by simp
    have c : ∀ j, W.cell? ⟨w2.heap.size, j, none⟩ = (w2.alloc (.cells #[x, y] 37)).cell? ⟨w2.heap.size, j, none⟩ := fun j => hb.cell (p := ⟨w2.heap.size, j, none⟩) hl
    refine ⟨(c _).trans ?_, (c _).trans ?_⟩ <;> simp [go_sem]
  have HN : Hid (∀ (w2 : World) o, Below w2.heap.size w2 (w2.alloc o)) := fun w2 o => (Below.refl _ _).alloc (Nat.le_refl _) _
  have hG1 := fun (w1 : World) so' sc' no' nc' bo' bc' (h : GraphV w1 (.slice so' g.spots.length sc') (.slice no' g.next.length nc') (.slice bo' g.sets.length bc') g) => h.below ((Below.refl _ _).alloc (Nat.le_refl _) (.cells #[.slice so' g.spots.length sc', .int .i64 g.init, .slice no' g.next.length nc', .slice bo' g.sets.length bc', .int .i64 g.many] 26))
  have hGw := fun w1 (hb : Below w.heap.size w w1) => hG.v.below hb
  have hsg := fun w5 so' sc' no' nc' bo' bc' (hb : Below w.heap.size w w5) (h : GraphV w5 (.slice so' g.spots.length sc') (.slice no' g.next.length nc') (.slice bo' g.sets.length bc') g) => sameGraph_b so' no' bo' so no bo sc' nc' bc' sc nc bc g w5 hZ h (hG.v.below hb)
  generalize g.spots.length = sn at *
  generalize g.next.length = nn at *
  generalize g.sets.length = bn at *
  generalize g.init = gi at *
  generalize g.many = gm at *
  clear hG hZ hz1 hz2 hz3 hzn hs0 hT
  subst hW0
  rcases hlb with ⟨x, hgc, hcc, hrr⟩ | ⟨x, q, hq, hcc, hrr⟩
  · have hft := HFt.out hgc
    clear HFt hgc
    go_enter Try.func5, Try.ntmps5
    go_wp2_with (first | (go_at_call 6; refine hgr.mono ?_; rintro e w1 ⟨so', sc', no', nc', bo', bc', rfl, hb1, HO⟩; have hc1 := hcc so' no' bo' sc' nc' bc' _ (hG1 w1 _ _ _ _ _ _ HO.out.v); have HC1 := HC.out w1 so' no' bo' sc' nc' bc' HO.out.v; have hb11 := hb1.trans ((HN.out w1 (.cells #[.slice so' sn sc', .int .i64 gi, .slice no' nn nc', .slice bo' bn bc', .int .i64 gm] 26)).mono hb1.size)) | (go_at_call 13; refine hc1.mono ?_; rintro e w2 ⟨ao, sl, ac, lo, ll, lc, rfl, hb2, HY⟩; have hb3 := HN.out w2 (.cells #[.slice ao sl ac, .slice lo ll lc] 37); have HA1 := HA.out w2 (.slice ao sl ac) (.slice lo ll lc); have hb23 := hb2.trans (hb3.mono hb2.size); obtain ⟨hb13, e0, e1, e2, e3, e4⟩ := HD.out _ (hb11.trans (hb23.mono hb11.size)); have hr3 := hrr so no bo sc nc bc _ (hGw _ hb13)) | (go_at_call 12; refine hr3.mono ?_; rintro e w4 ⟨rfl, hb4⟩; have hb24 := hb23.trans (hb4.mono hb23.size); obtain ⟨⟨c0, c1, c2, c3, c4⟩, hv4⟩ := HC1 w4 hb24; obtain ⟨hb14, f0, f1, f2, f3, f4⟩ := HD.out w4 (hb11.trans (hb24.mono hb11.size)); have hg4 := hsg w4 so' sc' no' nc' bo' bc' hb14 hv4) | (go_at_call 10; refine hg4.mono ?_; rintro e w5 ⟨rfl, hb5⟩; have hb45 := hb4.trans (hb5.mono hb4.size); obtain ⟨p0, p1⟩ := HA1 w5 hb45; have hb15 := hb14.trans (hb5.mono hb14.size); obtain ⟨_, u0, u1, u2, u3, u4⟩ := HD.out w5 (hb11.trans ((hb24.trans (hb5.mono hb24.size)).mono hb11.size)); have hf5 := hft w2 w5 ao lo sl ac ll lc hb15 (hb3.trans (hb45.mono hb3.size)) HY.out) | (go_at_call 14; refine hf5.mono ?_; rintro e w6 ⟨rfl, hb6⟩))
    all_goals go_ret
    all_goals exact ⟨by first | rfl | simp, hb15.trans (hb6.mono hb15.size)⟩
  · have hq0 : ¬ q = 0 := by omega
    clear HFt
    go_enter Try.func5, Try.ntmps5
    go_wp2_with (first | (go_at_call 6; refine hgr.mono ?_; rintro e w1 ⟨so', sc', no', nc', bo', bc', rfl, hb1, HO⟩; have hc1 := hcc so' no' bo' sc' nc' bc' _ (hG1 w1 _ _ _ _ _ _ HO.out.v); have HC1 := HC.out w1 so' no' bo' sc' nc' bc' HO.out.v; have hb11 := hb1.trans ((HN.out w1 (.cells #[.slice so' sn sc', .int .i64 gi, .slice no' nn nc', .slice bo' bn bc', .int .i64 gm] 26)).mono hb1.size)) | (go_at_call 13; refine hc1.mono ?_; rintro e w2 ⟨rfl, hb2⟩; have hb3 := HN.out w2 (.cells #[.slice none 0 0, .slice none 0 0] 37); have HA1 := HA.out w2 (.slice none 0 0) (.slice none 0 0); have hb23 := hb2.trans (hb3.mono hb2.size); obtain ⟨hb13, e0, e1, e2, e3, e4⟩ := HD.out _ (hb11.trans (hb23.mono hb11.size)); have hr3 := hrr so no bo sc nc bc _ (hGw _ hb13)) | (go_at_call 12; refine hr3.mono ?_; rintro e w4 ⟨rfl, hb4⟩; have hb24 := hb23.trans (hb4.mono hb23.size); obtain ⟨⟨c0, c1, c2, c3, c4⟩, hv4⟩ := HC1 w4 hb24; obtain ⟨hb14, f0, f1, f2, f3, f4⟩ := HD.out w4 (hb11.trans (hb24.mono hb11.size)); have hg4 := hsg w4 so' sc' no' nc' bo' bc' hb14 hv4) | (go_at_call 10; refine hg4.mono ?_; rintro e w5 ⟨rfl, hb5⟩; have hb45 := hb4.trans (hb5.mono hb4.size); obtain ⟨p0, p1⟩ := HA1 w5 hb45; have hb15 := hb14.trans (hb5.mono hb14.size)))
    all_goals go_ret
    all_goals exact ⟨by first | rfl | simp [hq0], hb15⟩

set_option maxRecDepth 20000 in
theorem sccLassos_contract (H : Type) (enc : TypeId × Value → H) (W : World) (base : Nat) (args : Array Value) (ds gs : List (DataW H)) (before : List MemPlace)
    (hval : ∀ (j : Nat) t v, Try.f5.params[j]? = some t → args[j]? = some v → Value.okWide Try.prog W .any base t v)
    (hW : DataW.Whole enc Try.prog Try.f5.params.toList Rows.sccLassosSpec.vars false W args.toList ds gs before)
    (hsz0 : (DataW.weightsEach Try.prog (Try.f5.params.toList ++ (Rows.OpenSpec.upto Rows.sccLassosSpec).bare.plain.varTypes Try.prog) (ds ++ gs)).all (· ≤ reachBytes) = true)
    (hk : Rows.uptoSmall H (ds ++ gs) = true)
    (_hL : laidMetH Try.prog Rows.sccLassosUptoRow.laid W) :
    Calls Try.prog 5 args W fun e W' => ∃ v, e = .returned v ∧ Rows.sccLassosSpec.post enc Try.prog Try.f5 false true false false W args v W' := by
  have hW' := hW
  obtain ⟨p, q, hA0, hV, rfl, hfz, hnd⟩ := hW
  have hA : DataW.TrodAll enc Try.prog W 0 (fun _ => true) true Try.f5.params.toList args.toList ds p := hA0
  rw [Try.params5] at hA hval
  obtain ⟨v0, vs0, d0, ds0, p0, q0, hargs, rfl, rfl, h0, r0⟩ := trodAll_cons hA
  obtain ⟨rfl, rfl, rfl⟩ := trodAll_nil r0
  obtain rfl : args = #[v0] := by cases args; simp_all
  obtain ⟨rfl, rfl⟩ := trodVars_none hV
  have hsz : (DataW.weightsEach Try.prog [26] [d0]).all (· ≤ reachBytes) = true := hsz0
  have hbk : Rows.uptoBulk d0 ≤ 1048576 := by
    have h9 : Rows.uptoBulkAll ([d0] ++ []) ≤ 1048576 := of_decide_eq_true hk
    simp only [List.append_nil, Rows.uptoBulkAll] at h9
    omega
  obtain ⟨sv, nv, bv, g, rfl, hG, hZ, hT0⟩ := open_graphB (hval 0 26 v0 rfl rfl) h0 hsz (j := 0) rfl rfl
  have hT : totN (nxt g) g.next.length ≤ 1099511627776 := by omega
  refine (sccLassos_walk sv nv bv g W hZ hG hT).mono fun e W' ⟨he, hb⟩ => ⟨_, he, ?_⟩
  refine law_post (fun t ht => ?_) rfl (by kernel_rfl) hW' rfl rfl rfl hb
  rw [Try.params5] at ht
  obtain rfl : t = 26 := by simpa using ht
  exact ⟨by kernel_rfl, of_decide_eq_true (by kernel_rfl)⟩

/-- A WORLD FOR THE WITNESS: the settled one. -/
noncomputable def sccLassosWorld (os : Os) : World := World.holding Try.prog os ⟨#[], #[], []⟩
set_option maxRecDepth 20000 in
theorem sccLassos_met (os : Os) : laidMet Try.prog Rows.sccLassosUptoRow.laid ((sccLassosWorld os).forCall (fun _ _ => 0) ⟨#[], #[.agg #[.slice none 0 0, .int .i64 0, .slice none 0 0, .slice none 0 0, .int .i64 0]], []⟩).memory :=
  laidMet_of_run' 8 (by kernel_rfl) (by kernel_rfl)
set_option maxRecDepth 20000 in
theorem sccLassos_reads (os : Os) {H : Type} (enc : TypeId × Value → H) : ∃ places, DataW.whole enc Try.prog ((sccLassosWorld os).forCall (fun _ _ => 0) ⟨#[], #[.agg #[.slice none 0 0, .int .i64 0, .slice none 0 0, .slice none 0 0, .int .i64 0]], []⟩).memory Try.f5.params.toList Rows.sccLassosSpec.vars false #[Value.agg #[.slice none 0 0, .int .i64 0, .slice none 0 0, .slice none 0 0, .int .i64 0]].toList 8 = some ([.agg [.nil, .lit (.int .i64 0), .nil, .nil, .lit (.int .i64 0)]], [], places) :=
  ⟨[], by kernel_rfl⟩

set_option maxRecDepth 100000 in
theorem sccLassos_lifted (os : Os) (started : os.Started) (H : Type) (enc : TypeId × Value → H) (F : Stop.Interp) :
    ReturnsInHanded {} Try.checked os 5 .any ((Rows.OpenSpec.upto Rows.sccLassosSpec).preRow enc Try.prog Try.f5 Rows.sccLassosUptoRow.domain false Rows.sccLassosUptoRow.laid) (((Rows.OpenSpec.upto Rows.sccLassosSpec).at F).post enc Try.prog Try.f5 false true false false) := by
  obtain ⟨places, hx⟩ := sccLassos_reads os enc
  refine returnsInHanded_of_row (C := Try.checked) (s := Rows.OpenSpec.upto Rows.sccLassosSpec) own started (by kernel_rfl) Try.func5
    (witness_row_at (enc := enc) (C := Try.checked) false (sccLassosWorld os) #[.agg #[.slice none 0 0, .int .i64 0, .slice none 0 0, .slice none 0 0, .int .i64 0]] rfl (by kernel_rfl) (by kernel_rfl) (by kernel_rfl)
      (OpenSpec.preRow_of_cond 8 hx (by kernel_rfl) (fun k hk => by cases hk; kernel_rfl) (by kernel_rfl) (sccLassos_met os))) ?_
  intro W base args ds gs before hval hW _ hcond hsz hL _ _
  exact sccLassos_contract H enc W base args ds gs before hval hW hsz (hcond _ rfl) hL

set_option maxRecDepth 20000 in
theorem sccLassos_said : Rows.SccLassosUptoSaid :=
  OpenClaim.holds_of_cond 5 Try.f5 rfl rfl rfl rfl rfl rfl rfl ⟨rfl, rfl, rfl, rfl, rfl⟩ rfl rfl rfl rfl rfl (by kernel_rfl) Try.func5 (by kernel_rfl)
    (of_decide_eq_true (by kernel_rfl)) (by unfold Func.isWrapper; first | (rw [if_pos (by decide +kernel)]; kernel_rfl) | (rw [if_neg (by decide +kernel)]; exact ⟨rfl, rfl⟩))
    (fun os started H enc _ F => by rw [OpenClaim.pre_eq_preRow]; exact sccLassos_lifted os started H enc F)

#print axioms sccLassos_said
end Go.Proofs.Ytknneajaklcjdaa
