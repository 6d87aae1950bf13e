import Derived.Test.YtobopjjmhginlaaGreatDoorGraphC
namespace Go.Proofs.YtobopjjmhginlaaGreatDoor
open Go.ChangeShapes Go.WideShapes Go.ChangeAt Go.RowKit Go.Deep
open Terms
set_option maxHeartbeats 6400000
set_option maxRecDepth 20000
def sN (g : Gr) (x : Nat) : Nat := (g.sets.getD x 0).toNat
def mN (g : Gr) : Nat := g.many.toNat
def Mut (g : Gr) (x y : Nat) : Prop := Way (nxt g) x y /\ Way (nxt g) y x
def FairX (g : Gr) (x : Nat) : Prop := (∃ a b, Mut g x a /\ Mut g x b /\ b ∈ nxt g a) /\ ∀ i, i < mN g -> ∃ a, Mut g x a /\ (sN g a).testBit i = true
def ReachX (g : Gr) (x : Nat) : Prop := ∃ f ∈ List.range g.init.toNat, Way (nxt g) f x
open Classical in
noncomputable def fairR (g : Gr) : Option Nat := (List.range g.spots.length).find? fun x => decide (ReachX g x /\ FairX g x)
noncomputable def fairV (g : Gr) : Int := (fairR g).getD 0
noncomputable def fairC (g : Gr) : Int := if (fairR g).isSome = true then 0 else 11
theorem fair_some {g : Gr} {x : Nat} (hx : x < g.spots.length) (h : ReachX g x /\ FairX g x) : fairC g = 0 := by
  classical
  unfold fairC; rw [if_pos]; unfold fairR; rw [List.find?_isSome]
  exact ⟨x, List.mem_range.2 hx, decide_eq_true h⟩
def Trail (nx : Nat -> List Nat) : List Nat -> Prop
  | [] => True
  | [_] => True
  | a :: b :: l => b ∈ nx a /\ Trail nx (b :: l)
theorem Trail.way {nx : Nat -> List Nat} : ∀ {l : List Nat}, Trail nx l -> l ≠ [] -> Way nx (l.getD 0 0) (l.getD (l.length - 1) 0)
  | [], _, h => absurd rfl h
  | [_], _, _ => .stay
  | a :: b :: l, h, _ => by
    have h1 := Trail.way (l := b :: l) h.2 (by simp)
    have h2 : Way nx a b := Way.one h.1; have h3 := h2.trans h1; simpa using h3
structure LassoOk (g : Gr) (st lp : List Nat) : Prop where
  ne : lp ≠ []
  trail : Trail (nxt g) (st ++ lp ++ [lp.getD 0 0])
  head : ((st ++ lp).getD 0 0 : Int) < g.init
  lt : ∀ x ∈ st ++ lp, x < g.spots.length
  bits : ∀ i, i < mN g -> ∃ x ∈ lp, (sN g x).testBit i = true
end Go.Proofs.YtobopjjmhginlaaGreatDoor
