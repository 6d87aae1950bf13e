import Derived.Test.YtobopjjmhginlaaGreatDoorPPl
import Derived.Test.YtobopjjmhginlaaGreatDoorPMeets
import Derived.Test.YtobopjjmhginlaaGreatDoorPBeh
namespace Go.Proofs.YtobopjjmhginlaaGreatDoor
open Go.ChangeShapes Go.WideShapes Go.ChangeAt Go.RowKit Go.Deep Go.Maps
open Terms Tm
set_option maxHeartbeats 6400000
set_option maxRecDepth 20000
section
variable {w w1 w2 : World} {base A lm : Nat} {S : List (Int × Int)} {N : List (List Int)} {T : List Int} {init many : Int} {sv nv tv nv' tv' : Value}
theorem AtX.appN {us : List Value} {r : List Int} {ao : Option Addr} {c : Nat} (h : AtX w1 base A lm S N T init many sv nv tv) (hus : w1.ownsRow base 37 1 nv N.length us /\ us.length = N.length /\ ∀ i, i < N.length -> ∃ ao c, us.getD i (.slice none 0 0) = .slice ao (N.getD i []).length c /\ IntsV w1 (.slice ao (N.getD i []).length c) (N.getD i []) /\ RowTy w1 (.slice ao (N.getD i []).length c) 3 /\ ∀ a, ao = some a -> tv.ownBlock ≠ some a.block /\ base <= a.block)
    (hr : IntsV w1 (.slice ao r.length c) r) (hty : RowTy w1 (.slice ao r.length c) 3) (hap : ∀ a, ao = some a -> tv.ownBlock ≠ some a.block /\ base <= a.block) (hg : w1.grownBy w2 nv.ownBlock) (ho : w2.ownsRow base 37 1 nv' (N.length + 1) (us ++ [.slice ao r.length c])) : AtX (w2.setCell ⟨A, 2, none⟩ nv') base A lm S (N ++ [r]) T init many sv nv' tv := by
  obtain ⟨n1, n2, n3⟩ := hus; obtain ⟨es, cl, em⟩ := h.lies.isMap; have hc : Chg (fun i => i = A \/ nv.ownBlock = some i) w1 (w2.setCell ⟨A, 2, none⟩ nv') := ((Chg.grown hg).weaken (fun i _ e => .inr e)).trans2 (Chg.setCell w2 _ _) (fun i _ e => .inl e)
  have hno : ∀ i t, (i = A \/ nv.ownBlock = some i) -> TyB w1 i t -> t = 83 \/ t = 37 := fun i t z ht => by
    rcases z with rfl | e
    · exact .inl (ht.eq h.ty)
    · exact .inr (ht.eq (owns_ty n1 e).2)
  have hni : ∀ i, (i = A \/ nv.ownBlock = some i) -> ¬ TyB w1 i 3 := fun i z ht => by
    rcases hno i _ z ht with e | e
    · exact absurd e (by decide)
    · exact absurd e (by decide)
  have hns : ∀ i, (i = A \/ nv.ownBlock = some i) -> ¬ TyB w1 i 87 := fun i z ht => by
    rcases hno i _ z ht with e | e
    · exact absurd e (by decide)
    · exact absurd e (by decide)
  have hnm : ∀ i, (i = A \/ nv.ownBlock = some i) -> i ≠ lm := fun i z e => by
    subst e
    rcases z with rfl | e
    · exact h.ty.no_map em
    · exact (owns_ty n1 e).2.no_map em
  have hbx : w2.heap[A]? = some (atB sv nv tv init many lm) := (hg.block A h.lt fun e => by have := h.ty.eq (owns_ty n1 e.symm).2; exact absurd this (by decide)).trans h.box
  have hA2 : TyB w2 A 83 := ⟨_, _, hbx⟩; refine ⟨atB_set2 w2 hbx nv', h.bA, h.bl, h.lies.kept (hc.block lm h.lies.lt (fun z => hnm _ z rfl)), owns_chg h.sp hc (fun g e z => hns g z (owns_ty h.sp e).2), ⟨us ++ [.slice ao r.length c], ?_, by simp [n2], fun i hi => ?_⟩, owns_chg h.st hc (fun g e z => hni g z (owns_ty h.st e).2)⟩
  · rw [List.length_append, List.length_singleton]
    exact owns_chg ho (Chg.setCell w2 _ _) (fun g e z => by
      have h1 := (owns_ty ho e).2; have z' : g = A := z; subst z'
      exact absurd (h1.eq hA2) (by decide))
  · have hget : ∀ (α : Type) (x y : List α) (d : α) (j : Nat), (x ++ y).getD j d = if j < x.length then x.getD j d else y.getD (j - x.length) d := fun α x y d j => by
      by_cases hj : j < x.length
      · rw [if_pos hj]; simp [List.getD_eq_getElem?_getD, List.getElem?_append_left hj]
      · rw [if_neg hj]; simp [List.getD_eq_getElem?_getD, List.getElem?_append_right (Nat.le_of_not_lt hj)]
    by_cases hlt : i < N.length
    · obtain ⟨ao', c', e1, e2, e3, e4⟩ := n3 i hlt
      have hz : ∀ a, ao' = some a -> ¬ (a.block = A \/ nv.ownBlock = some a.block) := fun a e z => hni _ z (by subst e; exact e3.ty)
      rw [hget, hget, n2, if_pos hlt, if_pos hlt]; exact ⟨ao', c', e1, e2.chg hc hz, e3.chg hc hz, e4⟩
    · have hi2 : i = N.length := by simp at hi; omega
      have hz : ∀ a, ao = some a -> ¬ (a.block = A \/ nv.ownBlock = some a.block) := fun a e z => hni _ z (by subst e; exact hty.ty)
      rw [hget, hget, n2, if_neg hlt, if_neg hlt, hi2, Nat.sub_self]; exact ⟨ao, c, rfl, hr.chg hc hz, hty.chg hc hz, hap⟩
theorem AtX.appT {x : Int} (h : AtX w1 base A lm S N T init many sv nv tv) (hg : w1.grownBy w2 tv.ownBlock) (ho : w2.ownsRow base 3 1 tv' (T.length + 1) (ivals T ++ [.int .i64 x])) (hown : tv'.ownBlock = tv.ownBlock \/ ∃ g, tv'.ownBlock = some g /\ w1.heap.size <= g) : AtX (w2.setCell ⟨A, 3, none⟩ tv') base A lm S N (T ++ [x]) init many sv nv tv' := by
  obtain ⟨us, n1, n2, n3⟩ := id h.nx; obtain ⟨es, cl, em⟩ := h.lies.isMap; have hc : Chg (fun i => i = A \/ tv.ownBlock = some i) w1 (w2.setCell ⟨A, 3, none⟩ tv') := ((Chg.grown hg).weaken (fun i _ e => .inr e)).trans2 (Chg.setCell w2 _ _) (fun i _ e => .inl e)
  have hno : ∀ i t, (i = A \/ tv.ownBlock = some i) -> TyB w1 i t -> t = 83 \/ t = 3 := fun i t z ht => by
    rcases z with rfl | e
    · exact .inl (ht.eq h.ty)
    · exact .inr (ht.eq (owns_ty h.st e).2)
  have hnl : ∀ i, (i = A \/ tv.ownBlock = some i) -> ¬ TyB w1 i 37 := fun i z ht => by
    rcases hno i _ z ht with e | e
    · exact absurd e (by decide)
    · exact absurd e (by decide)
  have hns : ∀ i, (i = A \/ tv.ownBlock = some i) -> ¬ TyB w1 i 87 := fun i z ht => by
    rcases hno i _ z ht with e | e
    · exact absurd e (by decide)
    · exact absurd e (by decide)
  have hnm : ∀ i, (i = A \/ tv.ownBlock = some i) -> i ≠ lm := fun i z e => by
    subst e
    rcases z with rfl | e
    · exact h.ty.no_map em
    · exact (owns_ty h.st e).2.no_map em
  have hbx : w2.heap[A]? = some (atB sv nv tv init many lm) := (hg.block A h.lt fun e => by have := h.ty.eq (owns_ty h.st e.symm).2; exact absurd this (by decide)).trans h.box
  have hA2 : TyB w2 A 83 := ⟨_, _, hbx⟩; refine ⟨atB_set3 w2 hbx tv', h.bA, h.bl, h.lies.kept (hc.block lm h.lies.lt (fun z => hnm _ z rfl)), owns_chg h.sp hc (fun g e z => hns g z (owns_ty h.sp e).2), ⟨us, owns_chg n1 hc (fun g e z => hnl g z (owns_ty n1 e).2), n2, fun i hi => ?_⟩, ?_⟩
  · obtain ⟨ao', c', e1, e2, e3, e4⟩ := n3 i hi
    have hz : ∀ a, ao' = some a -> ¬ (a.block = A \/ tv.ownBlock = some a.block) := fun a e z => by
      rcases z with z | z
      · subst e
        have := e3.ty; rw [z] at this; exact absurd (this.eq h.ty) (by decide)
      · exact (e4 a e).1 z
    refine ⟨ao', c', e1, e2.chg hc hz, e3.chg hc hz, fun a e => ⟨fun e5 => ?_, (e4 a e).2⟩⟩
    rcases hown with h1 | ⟨g, h1, h2⟩
    · rw [h1] at e5
      exact (e4 a e).1 e5
    · rw [h1] at e5
      injection e5 with e5
      subst e; have := e3.ty.lt; omega
  · have e : ivals (T ++ [x]) = ivals T ++ [.int .i64 x] := by simp [ivals]
    rw [e, List.length_append, List.length_singleton]
    exact owns_chg ho (Chg.setCell w2 _ _) (fun g e z => by
      have h1 := (owns_ty ho e).2; have z' : g = A := z; subst z'
      exact absurd (h1.eq hA2) (by decide))
end
section
variable {Pz Pz' : Nat -> Prop} {w0 w w' : World} {B bs bl n : Nat} {va vr pv fv : Value} {m : Mo} {ps : List (List (Int × Int))} {l : List (Int × Int)} {ho : Option Addr} {hc : Nat}
theorem SvOk.chg2 {Z : Nat -> Prop} (h : SvOk Pz w0 w B bs bl n va vr pv fv m ps l ho hc) (hs : Chg Z w w') (hz : ∀ i, Z i -> w0.heap.size <= i /\ i ≠ B /\ i ≠ bs /\ i ≠ bl /\ ¬ TyB w i 4 /\ (TyB w i 3 -> ¬ Pz i)) (hp : ∀ b, b < w.heap.size -> Pz b -> Pz' b) (hup : ∀ b, w'.heap.size <= b -> Pz' b) : SvOk Pz' w0 w' B bs bl n va vr pv fv m ps l ho hc := by
  have k := h.chg hs hz; obtain ⟨f, h1, h2⟩ := h.st; have zs : ¬ Z bs := fun z => (hz _ z).2.2.1 rfl
  refine ⟨k.box, k.bel, k.lo1, k.lo2, k.ne, k.ah, k.aty, hup, fun a e => hp _ (by have := h.aty; rw [e] at this; exact this.ty.lt) (h.aP a e), ⟨f, h1.chg hs zs, fun kl v hv => ?_⟩, k.li⟩
  obtain ⟨code, e1, e2, e3⟩ := h2 kl v hv; obtain ⟨lo, lc, no, nc, so, sc, g1, g2, g3, g4, g5, g6, g7, g8, g9⟩ := e3.chg hs fun i z => (hz i z).2.2.2.2
  obtain ⟨lo', lc', no', nc', so', sc', g1', _, _, _, _, g6', g7', _, _⟩ := e3; rw [g1] at g1'; simp only [Value.agg.injEq, Array.mk.injEq, List.cons.injEq, Value.slice.injEq, and_true, true_and] at g1'; obtain ⟨⟨rfl, rfl⟩, ⟨rfl, rfl⟩, rfl, rfl⟩ := g1'
  exact ⟨code, e1, e2, lo, lc, no, nc, so, sc, g1, g2, g3, g4, g5, g6, g7, fun a e => by subst e; exact hp _ g6'.ty.lt (g8 a rfl), fun a e => by subst e; exact hp _ g7'.ty.lt (g9 a rfl)⟩
end
def offT (tv : Value) : Nat -> Prop := fun b => tv.ownBlock ≠ some b
structure ExW (w0 w : World) (base A lm B bs bl n : Nat) (va vr pv fv : Value) (m : Mo) (ps : List (List (Int × Int))) (l : List (Int × Int)) (ho : Option Addr) (hc : Nat) (S : List (Int × Int)) (N : List (List Int)) (T : List Int) (init many : Int) (sv nv tv : Value) : Prop where
  su : SvOk (offT tv) w0 w B bs bl n va vr pv fv m ps l ho hc
  tl : AtX w base A lm S N T init many sv nv tv
  lo : w0.heap.size <= base /\ B < base /\ bs < base /\ bl < base
section
variable {w0 w w' w1 w2 : World} {base A lm B bs bl n n' : Nat} {va vr pv fv : Value} {m : Mo} {ps : List (List (Int × Int))} {l : List (Int × Int)} {ho : Option Addr} {hc : Nat} {S S' : List (Int × Int)} {N : List (List Int)} {T : List Int} {init many : Int} {sv sv' nv tv nv' tv' : Value}
theorem ExW.below (h : ExW w0 w base A lm B bs bl n va vr pv fv m ps l ho hc S N T init many sv nv tv) (hb : Below w.heap.size w w') : ExW w0 w' base A lm B bs bl n va vr pv fv m ps l ho hc S N T init many sv nv tv := ⟨h.su.below hb, h.tl.below hb, h.lo⟩
theorem ExW.call (h : ExW w0 w base A lm B bs bl n va vr pv fv m ps l ho hc S N T init many sv nv tv) (hs : Sk bs bl w w') (hv : SvOk (offT tv) w0 w' B bs bl n' va vr pv fv m ps l ho hc) : ExW w0 w' base A lm B bs bl n' va vr pv fv m ps l ho hc S N T init many sv nv tv :=
  ⟨hv, h.tl.sk hs h.su.two (by have := h.tl.bl; have := h.lo; omega) (by have := h.tl.bl; have := h.lo; omega), h.lo⟩
theorem ExW.far (h : ExW w0 w base A lm B bs bl n va vr pv fv m ps l ho hc S N T init many sv nv tv) {i : Nat} (hi : base <= i) : w0.heap.size <= i /\ i ≠ B /\ i ≠ bs /\ i ≠ bl := by
  have := h.lo; omega
theorem ExW.put (h : ExW w0 w base A lm B bs bl n va vr pv fv m ps l ho hc S N T init many sv nv tv) (hs : Chg (atZ A lm sv) w w') (hX : AtX w' base A lm S' N T init many sv' nv tv) : ExW w0 w' base A lm B bs bl n va vr pv fv m ps l ho hc S' N T init many sv' nv tv := by
  refine ⟨h.su.chg hs fun i z => ?_, hX, h.lo⟩
  obtain ⟨es, c, em⟩ := h.tl.lies.isMap
  rcases z with rfl | rfl | e
  · obtain ⟨a, b, c, d⟩ := h.far h.tl.bA
    exact ⟨a, b, c, d, fun ht => absurd (ht.eq h.tl.ty) (by decide), fun ht => absurd (ht.eq h.tl.ty) (by decide)⟩
  · obtain ⟨a, b, c, d⟩ := h.far h.tl.bl
    exact ⟨a, b, c, d, fun ht => absurd em ht.no_map, fun ht => absurd em ht.no_map⟩
  · obtain ⟨o1, o2⟩ := owns_ty h.tl.sp e
    obtain ⟨a, b, c, d⟩ := h.far o1; exact ⟨a, b, c, d, fun ht => absurd (ht.eq o2) (by decide), fun ht => absurd (ht.eq o2) (by decide)⟩
theorem ExW.appN {us : List Value} {r : List Int} {ao : Option Addr} {c : Nat} (h : ExW w0 w1 base A lm B bs bl n va vr pv fv m ps l ho hc S N T init many sv nv tv) (hus : w1.ownsRow base 37 1 nv N.length us /\ us.length = N.length /\ ∀ i, i < N.length -> ∃ ao c, us.getD i (.slice none 0 0) = .slice ao (N.getD i []).length c /\ IntsV w1 (.slice ao (N.getD i []).length c) (N.getD i []) /\ RowTy w1 (.slice ao (N.getD i []).length c) 3 /\ ∀ a, ao = some a -> tv.ownBlock ≠ some a.block /\ base <= a.block)
    (hr : IntsV w1 (.slice ao r.length c) r) (hty : RowTy w1 (.slice ao r.length c) 3) (hap : ∀ a, ao = some a -> tv.ownBlock ≠ some a.block /\ base <= a.block) (hg : w1.grownBy w2 nv.ownBlock) (ho' : w2.ownsRow base 37 1 nv' (N.length + 1) (us ++ [.slice ao r.length c])) : ExW w0 (w2.setCell ⟨A, 2, none⟩ nv') base A lm B bs bl n va vr pv fv m ps l ho hc S (N ++ [r]) T init many sv nv' tv := by
  have hch : Chg (fun i => i = A \/ nv.ownBlock = some i) w1 (w2.setCell ⟨A, 2, none⟩ nv') := ((Chg.grown hg).weaken (fun i _ e => .inr e)).trans2 (Chg.setCell w2 _ _) (fun i _ e => .inl e)
  refine ⟨h.su.chg hch fun i z => ?_, h.tl.appN hus hr hty hap hg ho', h.lo⟩
  rcases z with rfl | e
  · obtain ⟨a, b, c, d⟩ := h.far h.tl.bA
    exact ⟨a, b, c, d, fun ht => absurd (ht.eq h.tl.ty) (by decide), fun ht => absurd (ht.eq h.tl.ty) (by decide)⟩
  · obtain ⟨o1, o2⟩ := owns_ty hus.1 e
    obtain ⟨a, b, c, d⟩ := h.far o1; exact ⟨a, b, c, d, fun ht => absurd (ht.eq o2) (by decide), fun ht => absurd (ht.eq o2) (by decide)⟩
theorem ExW.appT {x : Int} (h : ExW w0 w1 base A lm B bs bl n va vr pv fv m ps l ho hc S N T init many sv nv tv) (hg : w1.grownBy w2 tv.ownBlock) (ho' : w2.ownsRow base 3 1 tv' (T.length + 1) (ivals T ++ [.int .i64 x])) (hown : tv'.ownBlock = tv.ownBlock \/ ∃ g, tv'.ownBlock = some g /\ w1.heap.size <= g) : ExW w0 (w2.setCell ⟨A, 3, none⟩ tv') base A lm B bs bl n va vr pv fv m ps l ho hc S N (T ++ [x]) init many sv nv tv' := by
  have hch : Chg (fun i => i = A \/ tv.ownBlock = some i) w1 (w2.setCell ⟨A, 3, none⟩ tv') := ((Chg.grown hg).weaken (fun i _ e => .inr e)).trans2 (Chg.setCell w2 _ _) (fun i _ e => .inl e)
  have hX := h.tl.appT hg ho' hown; refine ⟨h.su.chg2 hch (fun i z => ?_) (fun b hb hp => ?_) (fun b hb e => ?_), hX, h.lo⟩
  · rcases z with rfl | e
    · obtain ⟨a, b, c, d⟩ := h.far h.tl.bA
      exact ⟨a, b, c, d, fun ht => absurd (ht.eq h.tl.ty) (by decide), fun ht => absurd (ht.eq h.tl.ty) (by decide)⟩
    · obtain ⟨o1, o2⟩ := owns_ty h.tl.st e
      obtain ⟨a, b, c, d⟩ := h.far o1; exact ⟨a, b, c, d, fun ht => absurd (ht.eq o2) (by decide), fun _ hp => hp e⟩
  · intro e
    rcases hown with h1 | ⟨g, h1, h2⟩
    · rw [h1] at e
      exact hp e
    · rw [h1] at e
      injection e with e
      omega
  · have := (owns_ty hX.st e).2.lt
    omega
end
end Go.Proofs.YtobopjjmhginlaaGreatDoor
