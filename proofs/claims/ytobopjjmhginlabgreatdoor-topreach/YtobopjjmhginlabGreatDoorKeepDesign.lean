import Derived.Test.YtobopjjmhginlabGreatDoorDesignOpen
import Derived.Test.YtobopjjmhginlabGreatDoorKeepStates
namespace Go.Proofs.YtobopjjmhginlabGreatDoor
open Go.ChangeShapes Go.WideShapes Go.ChangeAt Go.RowKit Go.Deep
open Terms Tm
set_option maxHeartbeats 6400000
set_option maxRecDepth 20000
theorem PlansV.below {w w' : World} {v : Value} {l : List Pl} (h : PlansV w v l) (hb : Below w.heap.size w w') : PlansV w' v l := SlV.imp h hb.size fun b _ _ hlt _ ⟨⟨u, h1, h2⟩, h3, h4, ⟨u', h5, h6⟩, h7⟩ =>
  ⟨⟨u, (hb.cell (p := ⟨b, _, none⟩) hlt).trans h1, h2.mv hb⟩, (hb.cell (p := ⟨b, _, none⟩) hlt).trans h3, h4, ⟨u', (hb.cell (p := ⟨b, _, none⟩) hlt).trans h5, h6.mv hb⟩, (hb.cell (p := ⟨b, _, none⟩) hlt).trans h7⟩
theorem design_rules {w : World} {v : Value} {vars : List Vr} (h : DesignV w v vars) : ∃ c0 c1 c2 c3 c4 c5 c6 a b rules, v = .agg #[c0, c1, c2, c3, c4, c5, c6] /\ GV a b /\
    ∀ w', Below w.heap.size w w' -> Calls Tryz.prog 17 #[.agg #[c0, c1, c2, c3, c4, c5, c6]] w' fun e w2 => ∃ va vr, e = .returned (.agg #[va, vr]) /\ Below w'.heap.size w' w2 /\ GModelR w2 va vr [a, b] rules := by
  obtain ⟨sp0, sp1, lw0, lw1, iv0, iv1, pv, ps, rfl, hI, hP, rfl⟩ := h; obtain ⟨a, b, he, hG⟩ := gvars_gv sp0 sp1 lw0 lw1 iv0 iv1; refine ⟨_, _, _, _, _, _, _, a, b, (ps.take 5).map gplF, rfl, hG, fun w' hb => ?_⟩
  rw [<- he]; exact modelFn_any sp0 sp1 lw0 lw1 iv0 iv1 pv ps w' hI (hP.below hb)
theorem design_model {w : World} {v : Value} {vars : List Vr} (h : DesignV w v vars) : ∃ c0 c1 c2 c3 c4 c5 c6 a b, v = .agg #[c0, c1, c2, c3, c4, c5, c6] /\ GV a b /\
    ∀ w', Below w.heap.size w w' -> Calls Tryz.prog 17 #[.agg #[c0, c1, c2, c3, c4, c5, c6]] w' fun e w2 => ∃ va vr, e = .returned (.agg #[va, vr]) /\ Below w'.heap.size w' w2 /\ GModel w2 va vr [a, b] := by
  obtain ⟨c0, c1, c2, c3, c4, c5, c6, a, b, rules, h1, h2, h3⟩ := design_rules h; exact ⟨c0, c1, c2, c3, c4, c5, c6, a, b, h1, h2, fun w' hb => (h3 w' hb).mono fun _ _ ⟨va, vr, g1, g2, g3⟩ => ⟨va, vr, g1, g2, g3.gm⟩⟩
end Go.Proofs.YtobopjjmhginlabGreatDoor
