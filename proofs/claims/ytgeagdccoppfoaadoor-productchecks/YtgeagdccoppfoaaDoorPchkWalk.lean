/-
  The walk of the law ProductChecks.
-/
import Derived.Test.YtgeagdccoppfoaaDoorTasksOf
namespace Go.Proofs.YtgeagdccoppfoaaDoor
open Go.ChangeShapes Go.WideShapes Go.ChangeAt Go.RowKit Go.Deep
open Terms Tm

theorem four_kept {w w' : World} {x0 x1 x2 x3 : Value} {t : TypeId} (h : Below (w.alloc (.cells #[x0, x1, x2, x3] t)).heap.size (w.alloc (.cells #[x0, x1, x2, x3] t)) w') : w'.cell? ⟨w.heap.size, 0, none⟩ = some x0 ∧ w'.cell? ⟨w.heap.size, 1, none⟩ = some x1 ∧ w'.cell? ⟨w.heap.size, 2, none⟩ = some x2 ∧ w'.cell? ⟨w.heap.size, 3, none⟩ = some x3 := ⟨(h.cell (p := ⟨w.heap.size, 0, none⟩) (by simp)).trans (by simp [go_sem]), (h.cell (p := ⟨w.heap.size, 1, none⟩) (by simp)).trans (by simp [go_sem]), (h.cell (p := ⟨w.heap.size, 2, none⟩) (by simp)).trans (by simp [go_sem]), (h.cell (p := ⟨w.heap.size, 3, none⟩) (by simp)).trans (by simp [go_sem])⟩

set_option maxHeartbeats 1600000 in
set_option maxRecDepth 20000 in
theorem productChecks_walk (va vr pv fv : Value) (m : Mo) (ps : List (List (Int × Int))) (l : List (Int × Int)) (w : World) (hB : 0 < w.heap.size) (hT : TabAt w) (hZ : TkSz m ps l) (hV : TaskV w va vr pv fv m ps l) :
    Calls Tryd.prog 3 #[.agg #[va, vr, pv, fv]] w fun e w' => e = .returned (.bool true) ∧ Below w.heap.size w w' := by
  obtain ⟨ao, ac, rfl⟩ := hV.mo.1.shape
  obtain ⟨ro, rc, rfl⟩ := hV.mo.2.shape
  obtain ⟨po, pc, rfl⟩ := hV.ps.shape
  obtain ⟨fo, fc, rfl, _⟩ := id hV.fo
  have HTk : Hid (∀ w1, Below w.heap.size w w1 → Calls Tryd.prog 4 #[.agg #[.slice ao m.vars.length ac, .slice ro m.rules.length rc, .slice po ps.length pc, .slice fo l.length fc]] w1 fun e w' => ∃ ao vn ac ro rn rc po pn pc fo fn fc, e = .returned (.agg #[.slice ao vn ac, .slice ro rn rc, .slice po pn pc, .slice fo fn fc]) ∧ Below w1.heap.size w1 w' ∧ Hid (TaskV w' (.slice ao vn ac) (.slice ro rn rc) (.slice po pn pc) (.slice fo fn fc) m ps l)) := fun w1 h => tasks_any _ _ _ _ m ps l w1 hZ (hV.below h)
  have HCk : Hid (∀ w1 va vr pv fv, Below w.heap.size w w1 → TaskV w1 va vr pv fv m ps l → Calls Tryd.prog 5 #[.agg #[va, vr, pv, fv]] w1 fun e w' => e = .returned (.int .i64 (tkcode m ps l)) ∧ Below w1.heap.size w1 w') := fun w1 va vr pv fv h hv => pcheck_any va vr pv fv m ps l w1 (Nat.lt_of_lt_of_le hB h.size) (hT.below h hB) hv
  have HRf : Hid (∀ w1, Below w.heap.size w w1 → Calls Tryd.prog 6 #[.agg #[.slice ao m.vars.length ac, .slice ro m.rules.length rc, .slice po ps.length pc, .slice fo l.length fc]] w1 fun e w' => e = .returned (.int .i64 (tkcode m ps l)) ∧ Below w1.heap.size w1 w') := fun w1 h => taskFault_any _ _ _ _ m ps l w1 hZ.p1 (hV.below h)
  have HSm : Hid (∀ w1 va vr pv fv, Below w.heap.size w w1 → TaskV w1 va vr pv fv m ps l → Calls Tryd.prog 7 #[.agg #[va, vr, pv, fv], .agg #[.slice ao m.vars.length ac, .slice ro m.rules.length rc, .slice po ps.length pc, .slice fo l.length fc]] w1 fun e w' => e = .returned (.bool true) ∧ Below w1.heap.size w1 w') := fun w1 va vr pv fv h hv => sameTask_b va vr pv fv _ _ _ _ m ps l w1 hZ hv (hV.below h)
  have hA : ∀ o, Below w.heap.size w (w.alloc o) := fun o => (Below.refl _ _).alloc (Nat.le_refl _) o
  generalize tkcode m ps l = x at *
  generalize m.vars.length = vn at *
  generalize m.rules.length = rn at *
  generalize ps.length = pn at *
  generalize l.length = fn at *
  clear hV hZ hT
  have htk := HTk.out _ (hA (.cells #[.slice ao vn ac, .slice ro rn rc, .slice po pn pc, .slice fo fn fc] 29))
  go_enter Tryd.func3, Tryd.ntmps3
  go_wp2_with (first
    | (go_at_call 4; refine htk.mono ?_; rintro e w1 ⟨a1, n1, c1, a2, n2, c2, a3, n3, c3, a4, n4, c4, rfl, hb1, HV1⟩; have hbw1 := (hA _).trans (hb1.mono (hA _).size); have hb1A : Below w1.heap.size w1 (w1.alloc (.cells #[.slice a1 n1 c1, .slice a2 n2 c2, .slice a3 n3 c3, .slice a4 n4 c4] 29)) := (Below.refl _ _).alloc (Nat.le_refl _) _; have hck := HCk.out _ _ _ _ _ (hbw1.trans (hb1A.mono hbw1.size)) (HV1.out.below hb1A))
    | (go_at_call 5; refine hck.mono ?_; rintro e w2 ⟨rfl, hb2⟩; have hb12 : Below w1.heap.size w1 w2 := hb1A.trans (hb2.mono hb1A.size); have hbw2 := hbw1.trans (hb12.mono hbw1.size); have q2 := four_kept (hb1.trans (hb12.mono hb1.size)); obtain ⟨k0, k1, k2, k3⟩ := q2; have hrf := HRf.out w2 hbw2)
    | (go_at_call 6; refine hrf.mono ?_; rintro e w3 ⟨rfl, hb3⟩; have hb13 := hb12.trans (hb3.mono hb12.size); have hbw3 := hbw1.trans (hb13.mono hbw1.size); have q3 := four_kept (hb1.trans (hb13.mono hb1.size)); obtain ⟨g0, g1, g2, g3⟩ := q3; have q4 := four_kept (hb2.trans (hb3.mono hb2.size)); obtain ⟨y0, y1, y2, y3⟩ := q4; have hsm := HSm.out w3 _ _ _ _ hbw3 (HV1.out.below hb13))
    | (go_at_call 7; refine hsm.mono ?_; rintro e w4 ⟨rfl, hb4⟩))
  go_ret
  exact ⟨by first | rfl | simp, hbw3.trans (hb4.mono hbw3.size)⟩
end Go.Proofs.YtgeagdccoppfoaaDoor
