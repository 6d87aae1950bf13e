import Derived.Test.YtobopjjmhginlaaGreatDoorFairD
import Derived.Test.YtobopjjmhginlaaGreatDoorSFair0
namespace Go.Proofs.YtobopjjmhginlaaGreatDoor
open Go.ChangeShapes Go.WideShapes Go.ChangeAt Go.RowKit Go.Deep
open Terms
set_option maxHeartbeats 6400000
set_option maxRecDepth 20000
theorem Mut.lt {g : Gr} (hg : GOk g) {x y : Nat} (hx : x < g.spots.length) (h : Mut g x y) : y < g.spots.length := h.1.lt (fun _ hi _ hk => nxt_lt hg hi hk) hx
def PzOk (g : Gr) (pz : Nat -> Nat) : Prop := ∀ x, x < g.spots.length -> PartIs (nxt g) x (pz x : Int)
theorem PzOk.iff {g : Gr} {pz : Nat -> Nat} (h : PzOk g pz) {x y : Nat} (hx : x < g.spots.length) (hy : y < g.spots.length) : pz x = pz y ↔ Mut g x y := by
  obtain ⟨z, h1, h2, h3, h4⟩ := h x hx; obtain ⟨z', g1, g2, g3, g4⟩ := h y hy
  constructor
  · intro e
    have : z = z' := by omega
    subst this; exact ⟨h2.trans g3, g2.trans h3⟩
  · rintro ⟨a, b⟩
    have e1 := h4 z' (a.trans g2) (g3.trans b); have e2 := g4 z (b.trans h2) (h3.trans a); omega
theorem PzOk.le {g : Gr} {pz : Nat -> Nat} (h : PzOk g pz) {x : Nat} (hx : x < g.spots.length) : pz x <= x := by
  obtain ⟨z, h1, h2, h3, h4⟩ := h x hx; have := h4 x .stay .stay; omega
theorem PartsOk.pz {g : Gr} {pt : Nat -> Int} (h : PartsOk g pt) : PzOk g (fun x => (pt x).toNat) /\ ∀ x, x < g.spots.length -> pt x = ((pt x).toNat : Int) := by
  have h1 : ∀ x, x < g.spots.length -> pt x = ((pt x).toNat : Int) := fun x hx => by
    obtain ⟨z, h1, _⟩ := h x hx; omega
  exact ⟨fun x hx => by have := h x hx; rw [h1 x hx] at this; exact this, h1⟩
open Classical in
theorem fairB_x {g : Gr} (hg : GOk g) {pz : Nat -> Nat} (h : PzOk g pz) {x : Nat} (hx : x < g.spots.length) : fairB g pz x = decide (FairX g x) := by
  unfold fairB; rw [decide_eq_decide]
  constructor
  · rintro ⟨⟨a, ha, hp, b, hb, hq⟩, h2⟩
    have hbl := nxt_lt hg ha hb; refine ⟨⟨a, b, (h.iff hx ha).1 hp.symm, (h.iff hx hbl).1 hq.symm, hb⟩, fun i hi => ?_⟩
    obtain ⟨y, hy, h3, h4⟩ := h2 i hi; exact ⟨y, (h.iff hx hy).1 h3.symm, h4⟩
  · rintro ⟨⟨a, b, h1, h2, h3⟩, h4⟩
    have hal := h1.lt hg hx; have hbl := h2.lt hg hx; refine ⟨⟨a, hal, ((h.iff hx hal).2 h1).symm, b, h3, ((h.iff hx hbl).2 h2).symm⟩, fun i hi => ?_⟩
    obtain ⟨y, hy, h5⟩ := h4 i hi; have hyl := hy.lt hg hx; exact ⟨y, hyl, ((h.iff hx hyl).2 hy).symm, h5⟩
theorem find_none {p : Nat -> Bool} {n : Nat} (hno : ∀ j, j < n -> p j = false) : (List.range n).find? p = none := by
  rw [List.find?_eq_none]
  intro a ha; rw [hno a (List.mem_range.1 ha)]; simp
open Classical in
theorem fair_none {g : Gr} (hno : ∀ j, j < g.spots.length -> ¬ (ReachX g j /\ FairX g j)) : fairV g = 0 /\ fairC g = 11 := by
  have e : fairR g = none := find_none (fun j hj => decide_eq_false (hno j hj))
  unfold fairV fairC; rw [e]; exact ⟨rfl, rfl⟩
end Go.Proofs.YtobopjjmhginlaaGreatDoor
