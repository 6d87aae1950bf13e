import Derived.Test.YtobopjjmhginlaaGreatDoorLogicBack
import Derived.Deep.RegionHeld3
namespace Go.Proofs.YtobopjjmhginlaaGreatDoor
open Go.ChangeShapes Go.WideShapes Go.ChangeAt Go.RowKit Go.Deep Go.Shelf
set_option maxHeartbeats 6400000
set_option maxRecDepth 20000
theorem upon_in {P : Program} (L n : Nat) {o : Oper} {a : Act} {next : Act -> World -> Prop} {Q : Exit -> Act -> World -> Prop} {r : Result Next} (h : o.upon P a next Q r) : o.uponIn (Fence.wide.inRound L) n P a next Q r := by
  have hd : ∀ m : Nat, (Fence.wide.inRound L).depth.isSome = true -> 1 <= m := fun m h => by simp [Fence.wide, Fence.inRound] at h
  cases r with
  | halt x w' => cases x <;> first | exact h | exact h.elim
  | ok x w' =>
    cases x with
    | value v => exact h
    | skip => exact h
    | defer d => exact h
    | enter f args => exact ⟨hd _, CallsIn.inRound L ((callsIn_wide.2 h).mono fun e w'' he => by cases e <;> exact he)⟩
    | row row args => exact ⟨hd _, fun c cs _ => by obtain ⟨v, w'', h1, h2⟩ := h c cs; exact ⟨v, w'', h1, stepsIn_wide.2 h2⟩⟩
    | _ => exact (h : False).elim
theorem any_in {P : Program} (L n : Nat) {md : Region.Mode} {ops : Array Oper} {Q : Exit -> Act -> World -> Prop} (hd : ∀ (i : Nat) (o : Oper), ops[i]? = some o -> ∀ c, o.op ≠ Op.defer c) (hQ : LetsOut Q -> False) :
    ∀ (fuel : Nat) (listed : Array Bool) (a : Act) (w : World), wpAny P md ops Q fuel listed a w -> wpAnyIn (Fence.wide.inRound L) n P md ops Q fuel listed a w := by
  intro fuel
  induction fuel with
  | zero => intro listed a w h; exact h
  | succ fuel ih =>
    intro listed a w h; refine ⟨h.1, fun i hi => ?_⟩
    have h1 := wpOp_mono (K' := wpAnyIn (Fence.wide.inRound L) n P md ops Q fuel (listed.setIfInBounds i true)) (fun a' w' h' => ih _ a' w' h') (h.2 i hi)
    unfold wpOp at h1; unfold wpOpIn
    cases ho : ops[i]? with
    | none => simp only [ho] at h1 ⊢; exact h1
    | some o =>
      simp only [ho] at h1 ⊢
      split
      · rename_i hw
        rw [if_pos hw] at h1
        rcases h1 with h1 | ⟨_, h1⟩
        · refine ⟨fun f _ => trivial, ?_⟩
          rw [Oper.semAt_eq _ _ _ (hd i o ho)]; exact upon_in L n h1
        · exact (hQ h1).elim
      · rename_i hw
        rw [if_neg hw] at h1; exact ⟨fun f _ => trivial, h1⟩
theorem region_round {P : Program} {L n id : Nat} {ops : Array Oper} {Q : Exit -> Act -> World -> Prop} {a : Act} {w : World} (S : World -> Prop) (hm : P.follows .mixedOrders = true) (hd : ∀ (i : Nat) (o : Oper), ops[i]? = some o -> ∀ c, o.op ≠ Op.defer c) (hQ : LetsOut Q -> False)
    (h : wpAnyH P .any ops Q S ops.size (Array.replicate ops.size false) a w.drew) : (Code.region id ops true).wpIn (Fence.wide.inRound L) n P Q a w :=
  wpIn_region_any hm (any_in L n hd hQ _ _ _ _ (wpAny_of_held _ _ _ _ h))
theorem wpOp_call {P : Program} {ops : Array Oper} {Q : Exit -> Act -> World -> Prop} {i : Nat} {K : Act -> World -> Prop} {a : Act} {w : World} {o : Oper} {f : FuncId} {args : Array Value} {R : Ending -> World -> Prop} (hi : ops[i]? = some o) (hw : Region.wanted o (yielded ops a.tmps) = true) (hr : (execOp a.eval o).run P w = .ok (.enter f args) w) (h : Calls P f args w R)
    (hR : ∀ e w', R e w' -> ∃ v, e = .returned v /\ K (a.put o.dst v) w') : wpOp P ops Q i K a w := by
  unfold wpOp; simp only [hi]; rw [if_pos hw]; refine Or.inl ?_
  unfold Oper.wp; rw [hr]; refine h.mono fun e w' he => ?_
  obtain ⟨v, rfl, hk⟩ := hR e w' he; exact hk
theorem wpOp_skip {P : Program} {ops : Array Oper} {Q : Exit -> Act -> World -> Prop} {i : Nat} {K : Act -> World -> Prop} {a : Act} {w w' : World} {o : Oper} (hi : ops[i]? = some o) (hw : Region.wanted o (yielded ops a.tmps) = true) (hr : (execOp a.eval o).run P w = .ok .skip w') (h : K (a.put o.dst undef) w') : wpOp P ops Q i K a w := by
  unfold wpOp; simp only [hi]; rw [if_pos hw]; refine Or.inl ?_
  unfold Oper.wp; rw [hr]; exact h
end Go.Proofs.YtobopjjmhginlaaGreatDoor
