/-
  Joined out of PGo0, PGo, PBhd, PEx0, PEx, RefAhead, RefCount, RefCode, RefFirst, RefWorked, RefEval, in their order: a claim bears at most so many files.
-/
import Derived.Test.YtihmcoikgkacoaaGreatDoorLateD
import Derived.Test.YtihmcoikgkacoaaGreatDoorRefLook
import Derived.Test.YtihmcoikgkacoaaGreatDoorLogicRead
import Derived.Test.YtihmcoikgkacoaaGreatDoorRefModel
import Derived.Test.YtihmcoikgkacoaaGreatDoorLateB
import Derived.Test.YtihmcoikgkacoaaGreatDoorRefExpr2
import Derived.Test.YtihmcoikgkacoaaGreatDoorIntsOf
/-
  An atlas and a survey side by side: what going through a spot leaves.
-/
namespace Go.Proofs.YtihmcoikgkacoaaGreatDoor
open Go.ChangeShapes Go.WideShapes Go.ChangeAt Go.RowKit Go.Deep Go.Maps
open Terms Tm

section
variable {w w1 w2 : World} {base A lm : Nat} {S : List (Int × Int)} {N : List (List Int)} {T : List Int} {init many : Int} {sv nv tv nv' tv' : Value}
set_option maxRecDepth 20000 in
/-- one more list of places. -/
theorem AtX.appN {us : List Value} {r : List Int} {ao : Option Addr} {c : Nat} (h : AtX w1 base A lm S N T init many sv nv tv) (hus : w1.ownsRow base 40 1 nv N.length us ∧ us.length = N.length ∧ ∀ i, i < N.length → ∃ ao c, us.getD i (.slice none 0 0) = .slice ao (N.getD i []).length c ∧ IntsV w1 (.slice ao (N.getD i []).length c) (N.getD i []) ∧ RowTy w1 (.slice ao (N.getD i []).length c) 3 ∧ ∀ a, ao = some a → tv.ownBlock ≠ some a.block ∧ base ≤ a.block)
    (hr : IntsV w1 (.slice ao r.length c) r) (hty : RowTy w1 (.slice ao r.length c) 3) (hap : ∀ a, ao = some a → tv.ownBlock ≠ some a.block ∧ base ≤ a.block) (hg : w1.grownBy w2 nv.ownBlock) (ho : w2.ownsRow base 40 1 nv' (N.length + 1) (us ++ [.slice ao r.length c])) : AtX (w2.setCell ⟨A, 2, none⟩ nv') base A lm S (N ++ [r]) T init many sv nv' tv := by
  obtain ⟨n1, n2, n3⟩ := hus
  obtain ⟨es, cl, em⟩ := h.lies.isMap
  have hc : Chg (fun i => i = A ∨ nv.ownBlock = some i) w1 (w2.setCell ⟨A, 2, none⟩ nv') := ((Chg.grown hg).weaken (fun i _ e => .inr e)).trans2 (Chg.setCell w2 _ _) (fun i _ e => .inl e)
  have hno : ∀ i t, (i = A ∨ nv.ownBlock = some i) → TyB w1 i t → t = 75 ∨ t = 40 := fun i t z ht => by
    rcases z with rfl | e
    · exact .inl (ht.eq h.ty)
    · exact .inr (ht.eq (owns_ty n1 e).2)
  have hni : ∀ i, (i = A ∨ nv.ownBlock = some i) → ¬ TyB w1 i 3 := fun i z ht => by
    rcases hno i _ z ht with e | e
    · exact absurd e (by decide)
    · exact absurd e (by decide)
  have hns : ∀ i, (i = A ∨ nv.ownBlock = some i) → ¬ TyB w1 i 31 := fun i z ht => by
    rcases hno i _ z ht with e | e
    · exact absurd e (by decide)
    · exact absurd e (by decide)
  have hnm : ∀ i, (i = A ∨ nv.ownBlock = some i) → i ≠ lm := fun i z e => by
    subst e
    rcases z with rfl | e
    · exact h.ty.no_map em
    · exact (owns_ty n1 e).2.no_map em
  have hbx : w2.heap[A]? = some (atB sv nv tv init many lm) := (hg.block A h.lt fun e => by have := h.ty.eq (owns_ty n1 e.symm).2; exact absurd this (by decide)).trans h.box
  have hA2 : TyB w2 A 75 := ⟨_, _, hbx⟩
  refine ⟨atB_set2 w2 hbx nv', h.bA, h.bl, h.lies.kept (hc.block lm h.lies.lt (fun z => hnm _ z rfl)), owns_chg h.sp hc (fun g e z => hns g z (owns_ty h.sp e).2), ⟨us ++ [.slice ao r.length c], ?_, by simp [n2], fun i hi => ?_⟩, owns_chg h.st hc (fun g e z => hni g z (owns_ty h.st e).2)⟩
  · rw [List.length_append, List.length_singleton]
    exact owns_chg ho (Chg.setCell w2 _ _) (fun g e z => by
      have h1 := (owns_ty ho e).2
      have z' : g = A := z
      subst z'
      exact absurd (h1.eq hA2) (by decide))
  · have hget : ∀ (α : Type) (x y : List α) (d : α) (j : Nat), (x ++ y).getD j d = if j < x.length then x.getD j d else y.getD (j - x.length) d := fun α x y d j => by
      by_cases hj : j < x.length
      · rw [if_pos hj]; simp [List.getD_eq_getElem?_getD, List.getElem?_append_left hj]
      · rw [if_neg hj]; simp [List.getD_eq_getElem?_getD, List.getElem?_append_right (Nat.le_of_not_lt hj)]
    by_cases hlt : i < N.length
    · obtain ⟨ao', c', e1, e2, e3, e4⟩ := n3 i hlt
      have hz : ∀ a, ao' = some a → ¬ (a.block = A ∨ nv.ownBlock = some a.block) := fun a e z => hni _ z (by subst e; exact e3.ty)
      rw [hget, hget, n2, if_pos hlt, if_pos hlt]
      exact ⟨ao', c', e1, e2.chg hc hz, e3.chg hc hz, e4⟩
    · have hi2 : i = N.length := by simp at hi; omega
      have hz : ∀ a, ao = some a → ¬ (a.block = A ∨ nv.ownBlock = some a.block) := fun a e z => hni _ z (by subst e; exact hty.ty)
      rw [hget, hget, n2, if_neg hlt, if_neg hlt, hi2, Nat.sub_self]
      exact ⟨ao, c, rfl, hr.chg hc hz, hty.chg hc hz, hap⟩
set_option maxRecDepth 20000 in
/-- one more set. -/
theorem AtX.appT {x : Int} (h : AtX w1 base A lm S N T init many sv nv tv) (hg : w1.grownBy w2 tv.ownBlock) (ho : w2.ownsRow base 3 1 tv' (T.length + 1) (ivals T ++ [.int .i64 x])) (hown : tv'.ownBlock = tv.ownBlock ∨ ∃ g, tv'.ownBlock = some g ∧ w1.heap.size ≤ g) : AtX (w2.setCell ⟨A, 3, none⟩ tv') base A lm S N (T ++ [x]) init many sv nv tv' := by
  obtain ⟨us, n1, n2, n3⟩ := id h.nx
  obtain ⟨es, cl, em⟩ := h.lies.isMap
  have hc : Chg (fun i => i = A ∨ tv.ownBlock = some i) w1 (w2.setCell ⟨A, 3, none⟩ tv') := ((Chg.grown hg).weaken (fun i _ e => .inr e)).trans2 (Chg.setCell w2 _ _) (fun i _ e => .inl e)
  have hno : ∀ i t, (i = A ∨ tv.ownBlock = some i) → TyB w1 i t → t = 75 ∨ t = 3 := fun i t z ht => by
    rcases z with rfl | e
    · exact .inl (ht.eq h.ty)
    · exact .inr (ht.eq (owns_ty h.st e).2)
  have hnl : ∀ i, (i = A ∨ tv.ownBlock = some i) → ¬ TyB w1 i 40 := fun i z ht => by
    rcases hno i _ z ht with e | e
    · exact absurd e (by decide)
    · exact absurd e (by decide)
  have hns : ∀ i, (i = A ∨ tv.ownBlock = some i) → ¬ TyB w1 i 31 := fun i z ht => by
    rcases hno i _ z ht with e | e
    · exact absurd e (by decide)
    · exact absurd e (by decide)
  have hnm : ∀ i, (i = A ∨ tv.ownBlock = some i) → i ≠ lm := fun i z e => by
    subst e
    rcases z with rfl | e
    · exact h.ty.no_map em
    · exact (owns_ty h.st e).2.no_map em
  have hbx : w2.heap[A]? = some (atB sv nv tv init many lm) := (hg.block A h.lt fun e => by have := h.ty.eq (owns_ty h.st e.symm).2; exact absurd this (by decide)).trans h.box
  have hA2 : TyB w2 A 75 := ⟨_, _, hbx⟩
  refine ⟨atB_set3 w2 hbx tv', h.bA, h.bl, h.lies.kept (hc.block lm h.lies.lt (fun z => hnm _ z rfl)), owns_chg h.sp hc (fun g e z => hns g z (owns_ty h.sp e).2), ⟨us, owns_chg n1 hc (fun g e z => hnl g z (owns_ty n1 e).2), n2, fun i hi => ?_⟩, ?_⟩
  · obtain ⟨ao', c', e1, e2, e3, e4⟩ := n3 i hi
    have hz : ∀ a, ao' = some a → ¬ (a.block = A ∨ tv.ownBlock = some a.block) := fun a e z => by
      rcases z with z | z
      · subst e
        have := e3.ty
        rw [z] at this
        exact absurd (this.eq h.ty) (by decide)
      · exact (e4 a e).1 z
    refine ⟨ao', c', e1, e2.chg hc hz, e3.chg hc hz, fun a e => ⟨fun e5 => ?_, (e4 a e).2⟩⟩
    rcases hown with h1 | ⟨g, h1, h2⟩
    · rw [h1] at e5
      exact (e4 a e).1 e5
    · rw [h1] at e5
      injection e5 with e5
      subst e
      have := e3.ty.lt
      omega
  · have e : ivals (T ++ [x]) = ivals T ++ [.int .i64 x] := by simp [ivals]
    rw [e, List.length_append, List.length_singleton]
    exact owns_chg ho (Chg.setCell w2 _ _) (fun g e z => by
      have h1 := (owns_ty ho e).2
      have z' : g = A := z
      subst z'
      exact absurd (h1.eq hA2) (by decide))
end
section
variable {Pz Pz' : Nat → Prop} {w0 w w' : World} {B bs bl n : Nat} {va vr pv fv : Value} {m : Mo} {ps : List (List (Int × Int))} {l : List (Int × Int)} {ho : Option Addr} {hc : Nat}
set_option maxRecDepth 20000 in
/-- a survey stays, and other blocks are not its own. -/
theorem SvOk.chg2 {Z : Nat → Prop} (h : SvOk Pz w0 w B bs bl n va vr pv fv m ps l ho hc) (hs : Chg Z w w') (hz : ∀ i, Z i → w0.heap.size ≤ i ∧ i ≠ B ∧ i ≠ bs ∧ i ≠ bl ∧ ¬ TyB w i 4 ∧ (TyB w i 3 → ¬ Pz i)) (hp : ∀ b, b < w.heap.size → Pz b → Pz' b) (hup : ∀ b, w'.heap.size ≤ b → Pz' b) : SvOk Pz' w0 w' B bs bl n va vr pv fv m ps l ho hc := by
  have k := h.chg hs hz
  obtain ⟨f, h1, h2⟩ := h.st
  have zs : ¬ Z bs := fun z => (hz _ z).2.2.1 rfl
  refine ⟨k.box, k.bel, k.lo1, k.lo2, k.ne, k.ah, k.aty, hup, fun a e => hp _ (by have := h.aty; rw [e] at this; exact this.ty.lt) (h.aP a e), ⟨f, h1.chg hs zs, fun kl v hv => ?_⟩, k.li⟩
  obtain ⟨code, e1, e2, e3⟩ := h2 kl v hv
  obtain ⟨lo, lc, no, nc, so, sc, g1, g2, g3, g4, g5, g6, g7, g8, g9⟩ := e3.chg hs fun i z => (hz i z).2.2.2.2
  obtain ⟨lo', lc', no', nc', so', sc', g1', _, _, _, _, g6', g7', _, _⟩ := e3
  rw [g1] at g1'
  simp only [Value.agg.injEq, Array.mk.injEq, List.cons.injEq, Value.slice.injEq, and_true, true_and] at g1'
  obtain ⟨⟨rfl, rfl⟩, ⟨rfl, rfl⟩, rfl, rfl⟩ := g1'
  exact ⟨code, e1, e2, lo, lc, no, nc, so, sc, g1, g2, g3, g4, g5, g6, g7, fun a e => by subst e; exact hp _ g6'.ty.lt (g8 a rfl), fun a e => by subst e; exact hp _ g7'.ty.lt (g9 a rfl)⟩
end
/-- not in the row of sets. -/
def offT (tv : Value) : Nat → Prop := fun b => tv.ownBlock ≠ some b
/-- A SURVEY AND AN ATLAS. -/
structure ExW (w0 w : World) (base A lm B bs bl n : Nat) (va vr pv fv : Value) (m : Mo) (ps : List (List (Int × Int))) (l : List (Int × Int)) (ho : Option Addr) (hc : Nat) (S : List (Int × Int)) (N : List (List Int)) (T : List Int) (init many : Int) (sv nv tv : Value) : Prop where
  su : SvOk (offT tv) w0 w B bs bl n va vr pv fv m ps l ho hc
  tl : AtX w base A lm S N T init many sv nv tv
  lo : w0.heap.size ≤ base ∧ B < base ∧ bs < base ∧ bl < base
section
variable {w0 w w' w1 w2 : World} {base A lm B bs bl n n' : Nat} {va vr pv fv : Value} {m : Mo} {ps : List (List (Int × Int))} {l : List (Int × Int)} {ho : Option Addr} {hc : Nat} {S S' : List (Int × Int)} {N : List (List Int)} {T : List Int} {init many : Int} {sv sv' nv tv nv' tv' : Value}
set_option maxRecDepth 20000 in
theorem ExW.below (h : ExW w0 w base A lm B bs bl n va vr pv fv m ps l ho hc S N T init many sv nv tv) (hb : Below w.heap.size w w') : ExW w0 w' base A lm B bs bl n va vr pv fv m ps l ho hc S N T init many sv nv tv := ⟨h.su.below hb, h.tl.below hb, h.lo⟩
set_option maxRecDepth 20000 in
theorem ExW.mono (h : ExW w0 w base A lm B bs bl n va vr pv fv m ps l ho hc S N T init many sv nv tv) (hn : n ≤ n') : ExW w0 w base A lm B bs bl n' va vr pv fv m ps l ho hc S N T init many sv nv tv := ⟨h.su.mono hn, h.tl, h.lo⟩
set_option maxRecDepth 20000 in
/-- a call of the survey. -/
theorem ExW.call (h : ExW w0 w base A lm B bs bl n va vr pv fv m ps l ho hc S N T init many sv nv tv) (hs : Sk bs bl w w') (hv : SvOk (offT tv) w0 w' B bs bl n' va vr pv fv m ps l ho hc) : ExW w0 w' base A lm B bs bl n' va vr pv fv m ps l ho hc S N T init many sv nv tv :=
  ⟨hv, h.tl.sk hs h.su.two (by have := h.tl.bl; have := h.lo; omega) (by have := h.tl.bl; have := h.lo; omega), h.lo⟩
set_option maxRecDepth 20000 in
theorem ExW.far (h : ExW w0 w base A lm B bs bl n va vr pv fv m ps l ho hc S N T init many sv nv tv) {i : Nat} (hi : base ≤ i) : w0.heap.size ≤ i ∧ i ≠ B ∧ i ≠ bs ∧ i ≠ bl := by
  have := h.lo
  omega
set_option maxRecDepth 20000 in
/-- places are told. -/
theorem ExW.put (h : ExW w0 w base A lm B bs bl n va vr pv fv m ps l ho hc S N T init many sv nv tv) (hs : Chg (atZ A lm sv) w w') (hX : AtX w' base A lm S' N T init many sv' nv tv) : ExW w0 w' base A lm B bs bl n va vr pv fv m ps l ho hc S' N T init many sv' nv tv := by
  refine ⟨h.su.chg hs fun i z => ?_, hX, h.lo⟩
  obtain ⟨es, c, em⟩ := h.tl.lies.isMap
  rcases z with rfl | rfl | e
  · obtain ⟨a, b, c, d⟩ := h.far h.tl.bA
    exact ⟨a, b, c, d, fun ht => absurd (ht.eq h.tl.ty) (by decide), fun ht => absurd (ht.eq h.tl.ty) (by decide)⟩
  · obtain ⟨a, b, c, d⟩ := h.far h.tl.bl
    exact ⟨a, b, c, d, fun ht => absurd em ht.no_map, fun ht => absurd em ht.no_map⟩
  · obtain ⟨o1, o2⟩ := owns_ty h.tl.sp e
    obtain ⟨a, b, c, d⟩ := h.far o1
    exact ⟨a, b, c, d, fun ht => absurd (ht.eq o2) (by decide), fun ht => absurd (ht.eq o2) (by decide)⟩
set_option maxRecDepth 20000 in
theorem ExW.appN {us : List Value} {r : List Int} {ao : Option Addr} {c : Nat} (h : ExW w0 w1 base A lm B bs bl n va vr pv fv m ps l ho hc S N T init many sv nv tv) (hus : w1.ownsRow base 40 1 nv N.length us ∧ us.length = N.length ∧ ∀ i, i < N.length → ∃ ao c, us.getD i (.slice none 0 0) = .slice ao (N.getD i []).length c ∧ IntsV w1 (.slice ao (N.getD i []).length c) (N.getD i []) ∧ RowTy w1 (.slice ao (N.getD i []).length c) 3 ∧ ∀ a, ao = some a → tv.ownBlock ≠ some a.block ∧ base ≤ a.block)
    (hr : IntsV w1 (.slice ao r.length c) r) (hty : RowTy w1 (.slice ao r.length c) 3) (hap : ∀ a, ao = some a → tv.ownBlock ≠ some a.block ∧ base ≤ a.block) (hg : w1.grownBy w2 nv.ownBlock) (ho' : w2.ownsRow base 40 1 nv' (N.length + 1) (us ++ [.slice ao r.length c])) : ExW w0 (w2.setCell ⟨A, 2, none⟩ nv') base A lm B bs bl n va vr pv fv m ps l ho hc S (N ++ [r]) T init many sv nv' tv := by
  have hch : Chg (fun i => i = A ∨ nv.ownBlock = some i) w1 (w2.setCell ⟨A, 2, none⟩ nv') := ((Chg.grown hg).weaken (fun i _ e => .inr e)).trans2 (Chg.setCell w2 _ _) (fun i _ e => .inl e)
  refine ⟨h.su.chg hch fun i z => ?_, h.tl.appN hus hr hty hap hg ho', h.lo⟩
  rcases z with rfl | e
  · obtain ⟨a, b, c, d⟩ := h.far h.tl.bA
    exact ⟨a, b, c, d, fun ht => absurd (ht.eq h.tl.ty) (by decide), fun ht => absurd (ht.eq h.tl.ty) (by decide)⟩
  · obtain ⟨o1, o2⟩ := owns_ty hus.1 e
    obtain ⟨a, b, c, d⟩ := h.far o1
    exact ⟨a, b, c, d, fun ht => absurd (ht.eq o2) (by decide), fun ht => absurd (ht.eq o2) (by decide)⟩
set_option maxRecDepth 20000 in
theorem ExW.appT {x : Int} (h : ExW w0 w1 base A lm B bs bl n va vr pv fv m ps l ho hc S N T init many sv nv tv) (hg : w1.grownBy w2 tv.ownBlock) (ho' : w2.ownsRow base 3 1 tv' (T.length + 1) (ivals T ++ [.int .i64 x])) (hown : tv'.ownBlock = tv.ownBlock ∨ ∃ g, tv'.ownBlock = some g ∧ w1.heap.size ≤ g) : ExW w0 (w2.setCell ⟨A, 3, none⟩ tv') base A lm B bs bl n va vr pv fv m ps l ho hc S N (T ++ [x]) init many sv nv tv' := by
  have hch : Chg (fun i => i = A ∨ tv.ownBlock = some i) w1 (w2.setCell ⟨A, 3, none⟩ tv') := ((Chg.grown hg).weaken (fun i _ e => .inr e)).trans2 (Chg.setCell w2 _ _) (fun i _ e => .inl e)
  have hX := h.tl.appT hg ho' hown
  refine ⟨h.su.chg2 hch (fun i z => ?_) (fun b hb hp => ?_) (fun b hb e => ?_), hX, h.lo⟩
  · rcases z with rfl | e
    · obtain ⟨a, b, c, d⟩ := h.far h.tl.bA
      exact ⟨a, b, c, d, fun ht => absurd (ht.eq h.tl.ty) (by decide), fun ht => absurd (ht.eq h.tl.ty) (by decide)⟩
    · obtain ⟨o1, o2⟩ := owns_ty h.tl.st e
      obtain ⟨a, b, c, d⟩ := h.far o1
      exact ⟨a, b, c, d, fun ht => absurd (ht.eq o2) (by decide), fun _ hp => hp e⟩
  · intro e
    rcases hown with h1 | ⟨g, h1, h2⟩
    · rw [h1] at e
      exact hp e
    · rw [h1] at e
      injection e with e
      omega
  · have := (owns_ty hX.st e).2.lt
    omega
end
end Go.Proofs.YtihmcoikgkacoaaGreatDoor

/-
  The contract of the atlas' goThrough.
-/
namespace Go.Proofs.YtihmcoikgkacoaaGreatDoor
open Go.ChangeShapes Go.WideShapes Go.ChangeAt Go.RowKit Go.Deep Go.Maps
open Terms Tm

set_option maxRecDepth 20000 in
theorem infoIL : (Tryz.prog.info? 40).map (fun i => (i.zero, i.size, i.bytes)) = some (some (.slice none 0 0), 1, 24) := by kernel_rfl
set_option maxRecDepth 20000 in
theorem xfo_mem {l : List (Int × Int)} {x : List Bool} {c : Int} {y : List Bool} {st : Int} {p : Int × Int} : ∀ k, p ∈ foTo l x c y st k → p.1 = st ∧ ∃ d : Nat, d < k ∧ p.2 = (d : Int) ∧ folR l x c y (d : Int) = true
  | 0, h => by simp [foTo] at h
  | k + 1, h => by
    rw [foTo] at h
    split at h
    · next hf =>
      rw [List.mem_append, List.mem_singleton] at h
      rcases h with h | rfl
      · obtain ⟨h1, d, h2, h3⟩ := xfo_mem k h
        exact ⟨h1, d, by omega, h3⟩
      · exact ⟨rfl, k, by omega, rfl, hf⟩
    · obtain ⟨h1, d, h2, h3⟩ := xfo_mem k h
      exact ⟨h1, d, by omega, h3⟩
set_option maxRecDepth 20000 in
theorem xbe_mem {m : Mo} {ps : List (List (Int × Int))} {l : List (Int × Int)} {code c : Int} {p : Int × Int} : ∀ i, i ≤ (nextL m code).length → p ∈ behTo m ps l code c i → p.1 ∈ nextL m code ∧ ∃ d : Nat, d < 2 ^ (aheadL l).length ∧ p.2 = (d : Int) ∧ folR l (letL m ps code) c (letL m ps p.1) (d : Int) = true
  | 0, _, h => by simp [behTo] at h
  | i + 1, hi, h => by
    rw [behTo, List.mem_append] at h
    rcases h with h | h
    · exact xbe_mem i (by omega) h
    · obtain ⟨h1, d, h2, h3, h4⟩ := xfo_mem _ h
      refine ⟨?_, d, h2, h3, by rw [h1]; exact h4⟩
      rw [h1, List.getD_eq_getElem?_getD, List.getElem?_eq_getElem (by omega)]
      exact List.getElem_mem _
set_option maxRecDepth 20000 in
/-- the spots behind a spot are spots. -/
theorem behL_spot {m : Mo} {ps : List (List (Int × Int))} {l : List (Int × Int)} {code c : Int} (hm : mcode m = 0) (hcr : 0 ≤ code ∧ code < prodTo m.vars m.vars.length) {p : Int × Int} (h : p ∈ behL m ps l code c) : (0 ≤ p.1 ∧ p.1 < prodTo m.vars m.vars.length) ∧ ∃ d : Nat, d < 2 ^ (aheadL l).length ∧ p.2 = (d : Int) := by
  obtain ⟨h1, d, h2, h3, _⟩ := xbe_mem _ (Nat.le_refl _) h
  exact ⟨nextL_st hm hcr h1, d, h2, h3⟩
set_option maxRecDepth 20000 in
theorem behL_len {m : Mo} {ps : List (List (Int × Int))} {l : List (Int × Int)} {code c : Int} (hm : mcode m = 0) (hcr : 0 ≤ code ∧ code < prodTo m.vars m.vars.length) (h6 : (aheadL l).length ≤ 6) : (behL m ps l code c).length ≤ 262144 := by
  have h1 := behTo_len (m := m) (ps := ps) (l := l) (Nat.pow_le_pow_right (show 0 < 2 by decide) h6) code c (nextL m code).length
  have h2 := nextL_len hm hcr
  unfold behL
  omega
set_option maxRecDepth 20000 in
theorem spot_I64 {m : Mo} {ps : List (List (Int × Int))} {l : List (Int × Int)} (hk : tkcode m ps l = 0) {p : Int × Int} (h : (0 ≤ p.1 ∧ p.1 < prodTo m.vars m.vars.length) ∧ ∃ d : Nat, d < 2 ^ (aheadL l).length ∧ p.2 = (d : Int)) : I64s p := by
  obtain ⟨hp0, hl0⟩ := tk_zero hk
  obtain ⟨hm0, _⟩ := pcode_m hp0
  obtain ⟨_, _, _, _, h6⟩ := lcode_zero hl0
  have hpr := ((mcode_vars hm0).prod (Nat.le_refl m.vars.length)).2
  have hN64 : 2 ^ (aheadL l).length ≤ 64 := Nat.pow_le_pow_right (show 0 < 2 by decide) h6
  obtain ⟨h1, d, h2, h3⟩ := h
  unfold I64s
  omega

/-- what goThrough leaves. -/
def GoPost (w0 : World) (base A lm B bs bl n : Nat) (va vr pv fv : Value) (m : Mo) (ps : List (List (Int × Int))) (l : List (Int × Int)) (ho : Option Addr) (hc : Nat) (S : List (Int × Int)) (N : List (List Int)) (T : List Int) (init many : Int) (code : Int) (c : Nat) (e : Ending) (w' : World) : Prop :=
  e = .returned (.int .i64 (if 20000 < (plTo S (behL m ps l code (c : Int))).length then 12 else 0)) ∧ ∃ sv nv tv, Hid (ExW w0 w' base A lm B bs bl (n + 300001) va vr pv fv m ps l ho hc (plTo S (behL m ps l code (c : Int))) (N ++ [plIx S (behL m ps l code (c : Int))]) (T ++ [metN l (letL m ps code) (c : Int)]) init many sv nv tv)

set_option maxHeartbeats 6400000 in
set_option maxRecDepth 20000 in
/-- THE CONTRACT OF goThrough. -/
theorem goThrough_any (w0 w : World) (base A lm B bs bl n : Nat) (va vr pv fv : Value) (m : Mo) (ps : List (List (Int × Int))) (l : List (Int × Int)) (ho : Option Addr) (hc : Nat) (S : List (Int × Int)) (N : List (List Int)) (T : List Int) (init many : Int) (sv nv tv : Value) (code : Int) (c : Nat) (hB : 0 < w0.heap.size) (hT : TabAt w0) (hV : TaskV w0 va vr pv fv m ps l) (hk : tkcode m ps l = 0) (hX : ExW w0 w base A lm B bs bl n va vr pv fv m ps l ho hc S N T init many sv nv tv) (hn : n + 600000 < 1000000000000) (hcr : 0 ≤ code ∧ code < prodTo m.vars m.vars.length) (hcN : c < 2 ^ (aheadL l).length) (hzS : S.length ≤ 20000) (hzN : N.length ≤ 20000) (hzT : T.length ≤ 20000) :
    Calls Tryz.prog 28 #[.pointer (some ⟨A, 0, none⟩), .pointer (some ⟨B, 0, none⟩), .agg #[.int .i64 code, .int .i64 (c : Int)]] w (GoPost w0 base A lm B bs bl n va vr pv fv m ps l ho hc S N T init many code c) := by
  obtain ⟨hp0, hl0⟩ := tk_zero hk
  obtain ⟨hm0, _⟩ := pcode_m hp0
  obtain ⟨_, _, _, _, h6⟩ := lcode_zero hl0
  have hpr := ((mcode_vars hm0).prod (Nat.le_refl m.vars.length)).2
  have hI : -9223372036854775808 ≤ code ∧ code ≤ 9223372036854775807 := by omega
  have hbl := behL_len (ps := ps) (c := (c : Int)) hm0 hcr h6
  have hIs : ∀ j, j < (behL m ps l code (c : Int)).length → I64s ((behL m ps l code (c : Int)).getD j (0, 0)) := fun j hj => spot_I64 hk (behL_spot hm0 hcr (c := (c : Int)) (ps := ps) (by rw [List.getD_eq_getElem?_getD, List.getElem?_eq_getElem hj]; exact List.getElem_mem _))
  have hw0 := wcode_yes hm0 hcr
  obtain ⟨W1, hW1⟩ : ∃ W1, W1 = w.alloc (.cells #[.int .i64 code, .int .i64 (c : Int)] 31) := ⟨_, rfl⟩
  have hb1 : Below w.heap.size w W1 := by rw [hW1]; exact (Below.refl _ _).alloc (Nat.le_refl _) _
  have hs1 : W1.cell? ⟨w.heap.size, 0, none⟩ = some (.int .i64 code) ∧ W1.cell? ⟨w.heap.size, 1, none⟩ = some (.int .i64 (c : Int)) := by rw [hW1]; constructor <;> simp [go_sem]
  have hX1 := hX.below hb1
  have hbe : Calls Tryz.prog 15 #[.pointer (some ⟨B, 0, none⟩), .agg #[.int .i64 code, .int .i64 (c : Int)]] W1 fun e w2 => ∃ so sc, e = .returned (.tuple #[.slice so (behL m ps l code (c : Int)).length sc, .int .i64 0]) ∧ (w2.cell? ⟨w.heap.size, 0, none⟩ = some (.int .i64 code) ∧ w2.cell? ⟨w.heap.size, 1, none⟩ = some (.int .i64 (c : Int))) ∧ Hid (ExW w0 w2 base A lm B bs bl (n + 300000) va vr pv fv m ps l ho hc S N T init many sv nv tv ∧ SpO w2 W1.heap.size (.slice so (behL m ps l code (c : Int)).length sc) (behL m ps l code (c : Int))) :=
    (behind_in w0 W1 B bs bl n va vr pv fv m ps l ho hc code c hI hB hT hV hk hX1.su (by omega) hcr hcN).mono fun e w2 ⟨h1, h2, h3⟩ => by
      rcases h3 with ⟨_, so, sc, h4, h5⟩ | ⟨h4, _⟩
      · exact ⟨so, sc, h4, ⟨h1.cell hX1.su.two hs1.1, h1.cell hX1.su.two hs1.2⟩, hX1.call h1 h2.out, h5.out⟩
      · exact absurd hw0 h4
  have HMe : Hid (∀ w2, ExW w0 w2 base A lm B bs bl (n + 300000) va vr pv fv m ps l ho hc S N T init many sv nv tv → Calls Tryz.prog 55 #[.pointer (some ⟨B, 0, none⟩), .agg #[.int .i64 code, .int .i64 (c : Int)]] w2 fun e w3 => e = .returned (.tuple #[.int .i64 (metN l (letL m ps code) (c : Int)), .int .i64 0]) ∧ Hid (ExW w0 w3 base A lm B bs bl (n + 300001) va vr pv fv m ps l ho hc S N T init many sv nv tv ∧ ∀ so sc, SpO w2 W1.heap.size (.slice so (behL m ps l code (c : Int)).length sc) (behL m ps l code (c : Int)) → SpO w3 W1.heap.size (.slice so (behL m ps l code (c : Int)).length sc) (behL m ps l code (c : Int)))) := fun w2 hx =>
    (meets_in w0 w2 B bs bl (n + 300000) va vr pv fv m ps l ho hc code c hI hB hT hV hk hx.su (by omega) hcr hcN).mono fun e w3 ⟨h1, h2, h3⟩ => ⟨h1, hx.call h2 h3.out, fun so sc h => h.sk h2 hx.su.two⟩
  have HPl : Hid (∀ w3 so sc, ExW w0 w3 base A lm B bs bl (n + 300001) va vr pv fv m ps l ho hc S N T init many sv nv tv → SpO w3 W1.heap.size (.slice so (behL m ps l code (c : Int)).length sc) (behL m ps l code (c : Int)) → Calls Tryz.prog 27 #[.pointer (some ⟨A, 0, none⟩), .slice so (behL m ps l code (c : Int)).length sc] w3.drew fun e w4 => e = .returned (.slice (some ⟨w3.heap.size, 0, none⟩) (behL m ps l code (c : Int)).length (behL m ps l code (c : Int)).length) ∧ ∃ us sv', w4.cell? ⟨A, 2, none⟩ = some nv ∧ (w4.alloc (.cells #[.slice (some ⟨w3.heap.size, 0, none⟩) (behL m ps l code (c : Int)).length (behL m ps l code (c : Int)).length] 40)).cell? ⟨A, 2, none⟩ = some nv ∧ (w4.alloc (.cells #[.slice (some ⟨w3.heap.size, 0, none⟩) (behL m ps l code (c : Int)).length (behL m ps l code (c : Int)).length] 40)).ownsRow base 40 1 nv N.length us ∧ base ≤ (w4.alloc (.cells #[.slice (some ⟨w3.heap.size, 0, none⟩) (behL m ps l code (c : Int)).length (behL m ps l code (c : Int)).length] 40)).heap.size ∧ Hid (∀ g cap w9, World.ownsRow w9 base 40 1 (.slice (some ⟨g, 0, none⟩) (N.length + 1) cap) (N.length + 1) (us ++ [.slice (some ⟨w3.heap.size, 0, none⟩) (behL m ps l code (c : Int)).length (behL m ps l code (c : Int)).length]) → (w4.alloc (.cells #[.slice (some ⟨w3.heap.size, 0, none⟩) (behL m ps l code (c : Int)).length (behL m ps l code (c : Int)).length] 40)).grownBy w9 nv.ownBlock → (w9.cell? ⟨A, 2, none⟩ = some nv ∧ w9.frozen? ⟨A, 2, none⟩ = false) ∧ ExW w0 (w9.setCell ⟨A, 2, none⟩ (.slice (some ⟨g, 0, none⟩) (N.length + 1) cap)) base A lm B bs bl (n + 300001) va vr pv fv m ps l ho hc (plTo S (behL m ps l code (c : Int))) (N ++ [plIx S (behL m ps l code (c : Int))]) T init many sv' (.slice (some ⟨g, 0, none⟩) (N.length + 1) cap) tv)) := fun w3 so sc hx hsp => by
    have hbd : Below w3.heap.size w3 w3.drew := (Below.refl _ _).drew
    have hx3 := hx.below hbd
    have hsp3 := hsp.later hbd (Nat.le_refl _)
    have hsep : ∀ a, so = some a → ¬ atZ A lm sv a.block := fun a e z => by
      have hge := owns_ge hsp a _ _ (by rw [e])
      rcases z with z | z | z
      · have := hX1.tl.lt; omega
      · have := hX1.tl.lies.lt; omega
      · have := (owns_ty hX1.tl.sp z).2.lt; omega
    refine (places_any w3.drew base A lm S N T init many sv nv tv _ so sc hx3.tl hsp3.v hsep hIs (by omega)).mono fun e w4 ⟨h1, sv', h2, h3, h4, h5, h6⟩ => ?_
    have hx4 := hx3.put h5 h2
    have hba : Below w4.heap.size w4 (w4.alloc (.cells #[.slice (some ⟨w3.heap.size, 0, none⟩) (behL m ps l code (c : Int)).length (behL m ps l code (c : Int)).length] 40)) := (Below.refl _ _).alloc (Nat.le_refl _) _
    have hx5 := hx4.below hba
    obtain ⟨us, hus⟩ := id hx5.tl.nx
    have hbs3 : base ≤ w3.heap.size := hx.tl.base_le
    refine ⟨h1, us, sv', (atB_cells hx4.tl.box).2.2.1, (atB_cells hx5.tl.box).2.2.1, hus.1, hx5.tl.base_le, fun g cap w9 g1 g2 => ⟨?_, ?_⟩⟩
    · have hbx : w9.heap[A]? = some (atB sv' nv tv init many lm) := (g2.block A hx5.tl.lt fun e => by have := hx5.tl.ty.eq (owns_ty hus.1 e.symm).2; exact absurd this (by decide)).trans hx5.tl.box
      exact ⟨(atB_cells hbx).2.2.1, atB_free hbx 2⟩
    · have e : (behL m ps l code (c : Int)).length = (plIx S (behL m ps l code (c : Int))).length := (plIx_len _ _).symm
      have hr5 := h3.below hba
      have ht5 := h4.below hba
      have hr6 : IntsV (w4.alloc (.cells #[.slice (some ⟨w3.heap.size, 0, none⟩) (behL m ps l code (c : Int)).length (behL m ps l code (c : Int)).length] 40)) (.slice (some ⟨w3.heap.size, 0, none⟩) (plIx S (behL m ps l code (c : Int))).length (behL m ps l code (c : Int)).length) (plIx S (behL m ps l code (c : Int))) := by rw [← e]; exact hr5
      have ht6 : RowTy (w4.alloc (.cells #[.slice (some ⟨w3.heap.size, 0, none⟩) (behL m ps l code (c : Int)).length (behL m ps l code (c : Int)).length] 40)) (.slice (some ⟨w3.heap.size, 0, none⟩) (plIx S (behL m ps l code (c : Int))).length (behL m ps l code (c : Int)).length) 3 := by rw [← e]; exact ht5
      refine hx5.appN hus hr6 ht6 (fun a ea => ?_) g2 (by rw [← e]; exact g1)
      injection ea with ea
      subst ea
      refine ⟨fun e2 => ?_, hbs3⟩
      have := (owns_ty hx.tl.st e2).2.lt
      simp only at this
      omega
  clear hX hX1 hT hV hk hp0 hl0 hm0 hIs hw0
  unfold GoPost
  generalize behL m ps l code (c : Int) = beh at *
  generalize metN l (letL m ps code) (c : Int) = mt at *
  have HPn : Hid (∀ w' sv nv tv N T n, ExW w0 w' base A lm B bs bl n va vr pv fv m ps l ho hc (plTo S beh) N T init many sv nv tv → ∃ vo vc, sv = .slice vo (plTo S beh).length vc) := fun w' sv nv tv N T n h => h.tl.sp.shape
  have hpn : (plTo S beh).length ≤ 300000 := by have := (plTo_length beh S).2; omega
  generalize plTo S beh = PS at *
  generalize plIx S beh = PI at *
  generalize hbn : beh.length = bn at *
  have HTs : Hid (∀ w' sv nv n S N, ExW w0 w' base A lm B bs bl n va vr pv fv m ps l ho hc S N T init many sv nv tv → ∃ xo xc, tv = .slice xo T.length xc) := fun w' sv nv n S N h => owns_slice h.tl.st
  have HNs : Hid (∀ w', ExW w0 w' base A lm B bs bl (n + 300000) va vr pv fv m ps l ho hc S N T init many sv nv tv → ∃ xo xc, nv = .slice xo N.length xc) := fun w' h => by
    obtain ⟨us, h1, _⟩ := h.tl.nx
    exact owns_slice h1
  obtain ⟨i0, hi, hz0, hz1, hz2⟩ := info_parts infoIL
  obtain ⟨j0, hj, jz0, jz1, jz2⟩ := info_parts infoInt
  go_enter Tryz.func28, Tryz.ntmps28
  go_upto_region 7 with (first | (go_at_call 15; rw [← hW1]; refine hbe.mono ?_; rintro e w2 ⟨so, sc, rfl, ⟨b0, b1⟩, HX2⟩; have hme := HMe.out w2 HX2.out.1) | (go_at_call 55; refine hme.mono ?_; rintro e w3 ⟨rfl, HX3⟩))
  have hpl := HPl.out w3 so sc HX3.out.1 (HX3.out.2 so sc HX2.out.2)
  have a2 : w3.cell? ⟨A, 2, none⟩ = some nv := (atB_cells HX3.out.1.tl.box).2.2.1
  obtain ⟨no, nc, rfl⟩ := HNs.out w2 HX2.out.1
  clear hbe hme HMe HPl HX2 HX3 HNs hs1 b0 b1
  go_cut [] (fun wx => ∃ sv' nv', Hid (ExW w0 wx base A lm B bs bl (n + 300001) va vr pv fv m ps l ho hc PS (N ++ [PI]) T init many sv' nv' tv))
  case first =>
    go_region_law (first
      | (refine step_append_lies _ (by rfl) (.tmp 33) (.tmp 37) 39 (by rfl) base 40 i0 _ 1 24 Tryz.underlying39 hi hz0 hz1 hz2 (by rfl) (by decide) (.slice no N.length nc) N.length us (by rfl) hown4 ⟨w4.heap.size, 0, none⟩ 1 1 [.slice (some ⟨w3.heap.size, 0, none⟩) bn bn] (by rfl) (by rfl) (cell_one_new _ _ _) (by intro u hu; simp at hu; subst hu; rfl) (by decide) (by unfold maxLen; omega) (by omega) hba4 _ rfl ?_; intro g9 cap9 w9 hown hgrow hat hlt9; obtain ⟨⟨z0, zf⟩, hx9⟩ := HN4.out g9 cap9 w9 hown hgrow; have HX9 := (show Hid _ from hx9); clear hx9 hown hgrow hat)
      | (go_simp; go_at_call 27; refine hpl.mono ?_; rintro e w4 ⟨rfl, us, sv4, y0, y1, hown4, hba4, HN4⟩))
    all_goals go_wp2_with fail
    all_goals go_meet
    all_goals exact ⟨_, _, HX9⟩
  case rest =>
    obtain ⟨sv5, nv5, HX5⟩ := hcut
    obtain ⟨xo, xc, rfl⟩ := HTs.out wc sv5 nv5 _ PS _ HX5.out
    obtain ⟨vo5, vc5, rfl⟩ := HPn.out wc _ _ _ _ _ _ HX5.out
    have hba : Below wc.heap.size wc (wc.alloc (.cells #[.int .i64 mt] 3)) := (Below.refl _ _).alloc (Nat.le_refl _) _
    have hx6 := HX5.out.below hba
    have hown6 : World.ownsRow (wc.alloc (.cells #[.int .i64 mt] 3)) base 3 1 (.slice xo T.length xc) T.length (ivals T) := hx6.tl.st
    have hbs6 := hx6.tl.base_le
    have a3 : wc.cell? ⟨A, 3, none⟩ = some (.slice xo T.length xc) := (atB_cells HX5.out.tl.box).2.2.2.1
    have HT6 : Hid (∀ g cap w9, World.ownsRow w9 base 3 1 (.slice (some ⟨g, 0, none⟩) (T.length + 1) cap) (T.length + 1) (ivals T ++ [.int .i64 mt]) → (wc.alloc (.cells #[.int .i64 mt] 3)).grownBy w9 (Value.slice xo T.length xc).ownBlock → ((Value.slice xo T.length xc).ownBlock = some g ∨ g = (wc.alloc (.cells #[.int .i64 mt] 3)).heap.size) → (w9.cell? ⟨A, 3, none⟩ = some (.slice xo T.length xc) ∧ w9.frozen? ⟨A, 3, none⟩ = false) ∧ (w9.setCell ⟨A, 3, none⟩ (.slice (some ⟨g, 0, none⟩) (T.length + 1) cap)).cell? ⟨A, 0, none⟩ = some (.slice vo5 PS.length vc5) ∧ Hid (ExW w0 (w9.setCell ⟨A, 3, none⟩ (.slice (some ⟨g, 0, none⟩) (T.length + 1) cap)) base A lm B bs bl (n + 300001) va vr pv fv m ps l ho hc PS (N ++ [PI]) (T ++ [mt]) init many (.slice vo5 PS.length vc5) nv5 (.slice (some ⟨g, 0, none⟩) (T.length + 1) cap))) := fun g cap w9 h1 h2 h3 => by
      have hbx : w9.heap[A]? = some (atB (.slice vo5 PS.length vc5) nv5 (.slice xo T.length xc) init many lm) := (h2.block A hx6.tl.lt fun e => by have := hx6.tl.ty.eq (owns_ty hx6.tl.st e.symm).2; exact absurd this (by decide)).trans hx6.tl.box
      have hxx := hx6.appT h2 h1 (by
        rcases h3 with h | h
        · exact .inl (by rw [h]; rfl)
        · exact .inr ⟨g, rfl, by omega⟩)
      exact ⟨⟨(atB_cells hbx).2.2.2.1, atB_free hbx 3⟩, (atB_cells hxx.tl.box).1, hxx⟩
    clear hx6 HX5 HTs HPn
    by_cases hfull : 20000 < PS.length
    · have hfi : (20000 : Int) < (PS.length : Int) := by omega
      go_wp2_with (first | (at_builtin; refine wpList_append_lies _ rfl (.tmp 47) (.tmp 49) 40 rfl base 3 j0 _ 1 8 Tryz.underlying40 hj jz0 jz1 jz2 rfl (by decide) (.slice xo T.length xc) T.length (ivals T) rfl hown6 ⟨wc.heap.size, 0, none⟩ 1 1 [.int .i64 mt] rfl rfl (cell_one_new _ _ _) (by intro u hu; simp at hu; subst hu; rfl) (by decide) (by unfold maxLen; omega) (by omega) hbs6 _ rfl ?_; intro g9 cap9 w9 hown hgrow hat hlt9; obtain ⟨⟨z0, zf⟩, z1, HX9⟩ := HT6.out g9 cap9 w9 hown hgrow hat; clear hown hgrow hat))
      go_ret
      exact ⟨by first | rfl | simp [hfull], _, _, _, HX9⟩
    · have hfi : ¬ (20000 : Int) < (PS.length : Int) := by omega
      go_wp2_with (first | (at_builtin; refine wpList_append_lies _ rfl (.tmp 47) (.tmp 49) 40 rfl base 3 j0 _ 1 8 Tryz.underlying40 hj jz0 jz1 jz2 rfl (by decide) (.slice xo T.length xc) T.length (ivals T) rfl hown6 ⟨wc.heap.size, 0, none⟩ 1 1 [.int .i64 mt] rfl rfl (cell_one_new _ _ _) (by intro u hu; simp at hu; subst hu; rfl) (by decide) (by unfold maxLen; omega) (by omega) hbs6 _ rfl ?_; intro g9 cap9 w9 hown hgrow hat hlt9; obtain ⟨⟨z0, zf⟩, z1, HX9⟩ := HT6.out g9 cap9 w9 hown hgrow hat; clear hown hgrow hat))
      go_ret
      exact ⟨by first | rfl | simp [hfull], _, _, _, HX9⟩
end Go.Proofs.YtihmcoikgkacoaaGreatDoor

/-
  The contract of product.Behind.
-/
namespace Go.Proofs.YtihmcoikgkacoaaGreatDoor
open Go.ChangeShapes Go.WideShapes Go.ChangeAt Go.RowKit Go.Deep Go.Maps
open Terms Tm
variable {Pz : Nat → Prop}

theorem belowD (w : World) (q : Nat) : Below w.heap.size w (w.drewN q) := ⟨rfl, rfl, rfl, Nat.le_refl _, fun _ _ => rfl⟩
/-- a survey that was just made. -/
theorem SvOk.made {w0 w w' : World} {n : Nat} {va vr pv fv : Value} {m : Mo} {ps : List (List (Int × Int))} {l : List (Int × Int)} {ho : Option Addr} {hc : Nat} (hb : Below w0.heap.size w0 w) (hb2 : Below w.heap.size w w') (hn : w.heap.size ≤ n) (hs : SurvAt w' (n + 2) va vr pv fv (.slice ho (aheadL l).length hc) n (n + 1))
    (ho' : w'.ownsRow w.heap.size 3 1 (.slice ho (aheadL l).length hc) (aheadL l).length (ivals (aheadL l))) (h1 : w'.heap[n]? = some (.map #[] 0)) (h2 : w'.heap[n + 1]? = some (.map #[] 0)) : SvOk (fun _ => True) w0 w' (n + 2) n (n + 1) 0 va vr pv fv m ps l ho hc := by
  have := hb.size
  exact ⟨hs, hb.trans (hb2.mono hb.size), by omega, by omega, by omega, intsV_of_owns ho', RowTy.owns ho', fun _ _ => trivial, fun _ _ => trivial, ⟨_, MapIs.new _ h1, fun kl v h => by simp at h⟩, ⟨_, MapIs.new _ h2, fun kl v h => by simp at h⟩⟩

/-- what Behind answers. -/
noncomputable def bhC (m : Mo) (ps : List (List (Int × Int))) (l : List (Int × Int)) (code c : Int) : Int := by classical exact if tkcode m ps l = 0 then (if 0 ≤ c ∧ c < ((2 ^ (aheadL l).length : Nat) : Int) then wcode m code else 9) else tkcode m ps l
noncomputable def bhL (m : Mo) (ps : List (List (Int × Int))) (l : List (Int × Int)) (code c : Int) : List (Int × Int) := by classical exact if bhC m ps l code c = 0 then behL m ps l code c else []
theorem bhC_bad {m : Mo} {ps : List (List (Int × Int))} {l : List (Int × Int)} {code c : Int} (h : tkcode m ps l ≠ 0) : bhC m ps l code c = tkcode m ps l := by unfold bhC; rw [if_neg h]
theorem bhC_no {m : Mo} {ps : List (List (Int × Int))} {l : List (Int × Int)} {code c : Int} (h : tkcode m ps l = 0) (h2 : ¬ (0 ≤ c ∧ c < ((2 ^ (aheadL l).length : Nat) : Int))) : bhC m ps l code c = 9 := by unfold bhC; rw [if_pos h, if_neg h2]
theorem bhC_ok {m : Mo} {ps : List (List (Int × Int))} {l : List (Int × Int)} {code c : Int} (h : tkcode m ps l = 0) (h2 : 0 ≤ c ∧ c < ((2 ^ (aheadL l).length : Nat) : Int)) : bhC m ps l code c = wcode m code := by unfold bhC; rw [if_pos h, if_pos h2]
theorem bhL_bad {m : Mo} {ps : List (List (Int × Int))} {l : List (Int × Int)} {code c : Int} (h : bhC m ps l code c ≠ 0) : bhL m ps l code c = [] := by unfold bhL; rw [if_neg h]
theorem bhL_ok {m : Mo} {ps : List (List (Int × Int))} {l : List (Int × Int)} {code c : Int} (h : bhC m ps l code c = 0) : bhL m ps l code c = behL m ps l code c := by unfold bhL; rw [if_pos h]
def BdPost (w : World) (m : Mo) (ps : List (List (Int × Int))) (l : List (Int × Int)) (code c : Int) (e : Ending) (w' : World) : Prop := ∃ so sc, e = .returned (.tuple #[.slice so (bhL m ps l code c).length sc, .int .i64 (bhC m ps l code c)]) ∧ Below w.heap.size w w' ∧ Hid (SpO w' w.heap.size (.slice so (bhL m ps l code c).length sc) (bhL m ps l code c))

set_option maxHeartbeats 1600000 in
set_option maxRecDepth 20000 in
theorem pbehind_bad (va vr pv fv : Value) (m : Mo) (ps : List (List (Int × Int))) (l : List (Int × Int)) (code c : Int) (w : World) (hB : 0 < w.heap.size) (hT : TabAt w) (hV : TaskV w va vr pv fv m ps l) (hk : tkcode m ps l ≠ 0) :
    Calls Tryz.prog 5 #[.agg #[va, vr, pv, fv], .agg #[.int .i64 code, .int .i64 c]] w (BdPost w m ps l code c) := by
  unfold BdPost
  rw [bhL_bad (by rw [bhC_bad hk]; exact hk), bhC_bad hk]
  obtain ⟨ao, ac, rfl⟩ := hV.mo.1.shape
  obtain ⟨ro, rc, rfl⟩ := hV.mo.2.shape
  obtain ⟨po, pc, rfl⟩ := hV.ps.shape
  obtain ⟨fo, fc, rfl, _⟩ := id hV.fo
  have hA : ∀ o o', Below w.heap.size w ((w.alloc o).alloc o') := fun o o' => ((Below.refl _ _).alloc (Nat.le_refl _) o).alloc (by simp) o'
  have hsv := surveyOf_bad _ _ _ _ m ps l _ (Nat.lt_of_lt_of_le hB (hA (.cells #[.slice ao m.vars.length ac, .slice ro m.rules.length rc, .slice po ps.length pc, .slice fo l.length fc] 29) (.cells #[.int .i64 code, .int .i64 c] 31)).size) (hT.below (hA _ _) hB) (hV.below (hA _ _)) hk
  generalize tkcode m ps l = tc at *
  generalize m.vars.length = vn at *
  generalize m.rules.length = rn at *
  generalize ps.length = pn at *
  generalize l.length = fn at *
  clear hV hT
  go_enter Tryz.func5, Tryz.ntmps5
  go_wp2_with (first | (go_at_call 13; refine hsv.mono ?_; rintro e w1 ⟨rfl, hb1⟩; have hbw := (hA _ _).trans (hb1.mono (hA _ _).size)))
  go_ret2
  exact ⟨none, 0, rfl, hbw, SpO.nil _ _⟩

set_option maxHeartbeats 1600000 in
set_option maxRecDepth 20000 in
theorem pbehind_no (va vr pv fv : Value) (m : Mo) (ps : List (List (Int × Int))) (l : List (Int × Int)) (code c : Int) (w : World) (hB : 0 < w.heap.size) (hT : TabAt w) (hV : TaskV w va vr pv fv m ps l) (hk : tkcode m ps l = 0) (hno : ¬ (0 ≤ c ∧ c < ((2 ^ (aheadL l).length : Nat) : Int))) :
    Calls Tryz.prog 5 #[.agg #[va, vr, pv, fv], .agg #[.int .i64 code, .int .i64 c]] w (BdPost w m ps l code c) := by
  unfold BdPost
  rw [bhL_bad (by rw [bhC_no hk hno]; decide), bhC_no hk hno]
  have h6 := (lcode_zero (tk_zero hk).2).2.2.2.2
  obtain ⟨ao, ac, rfl⟩ := hV.mo.1.shape
  obtain ⟨ro, rc, rfl⟩ := hV.mo.2.shape
  obtain ⟨po, pc, rfl⟩ := hV.ps.shape
  obtain ⟨fo, fc, rfl, _⟩ := id hV.fo
  have hA : ∀ o o', Below w.heap.size w ((w.alloc o).alloc o') := fun o o' => ((Below.refl _ _).alloc (Nat.le_refl _) o).alloc (by simp) o'
  have hsv := surveyOf_ok _ _ _ _ m ps l _ (Nat.lt_of_lt_of_le hB (hA (.cells #[.slice ao m.vars.length ac, .slice ro m.rules.length rc, .slice po ps.length pc, .slice fo l.length fc] 29) (.cells #[.int .i64 code, .int .i64 c] 31)).size) (hT.below (hA _ _) hB) (hV.below (hA _ _)) hk
  have HCl : Hid (∀ (w' : World) (B bs bl : Nat) (ho : Option Addr) (hc : Nat), SurvAt w' B (.slice ao m.vars.length ac) (.slice ro m.rules.length rc) (.slice po ps.length pc) (.slice fo l.length fc) (.slice ho (aheadL l).length hc) bs bl → ∀ q, Calls Tryz.prog 14 #[.pointer (some ⟨B, 0, none⟩)] (w'.drewN q) fun e w'' => e = .returned (.int .i64 ((2 ^ (aheadL l).length : Nat) : Int)) ∧ w'' = w'.drewN q) := fun w' B bs bl ho hc h q => claims_any B _ _ _ _ ho _ hc bs bl (w'.drewN q) h6 (h.later (belowD _ _))
  have HSp : Hid (∀ (o o' : Obj) (w' : World), o' = .cells #[.int .i64 code, .int .i64 c] 31 → Below ((w.alloc o).alloc o').heap.size ((w.alloc o).alloc o') w' → w'.cell? ⟨w.heap.size + 1, 0, none⟩ = some (.int .i64 code) ∧ w'.cell? ⟨w.heap.size + 1, 1, none⟩ = some (.int .i64 c)) := fun o o' w' e h => by
    subst e
    exact ⟨(h.cell (p := ⟨w.heap.size + 1, 0, none⟩) (by simp)).trans (by simp [go_sem]), (h.cell (p := ⟨w.heap.size + 1, 1, none⟩) (by simp)).trans (by simp [go_sem])⟩
  unfold SurvPost at hsv
  generalize 2 ^ (aheadL l).length = N at *
  generalize (aheadL l).length = an at *
  generalize m.vars.length = vn at *
  generalize m.rules.length = rn at *
  generalize ps.length = pn at *
  generalize l.length = fn at *
  clear hV hT hk
  go_enter Tryz.func5, Tryz.ntmps5
  go_wp2_with (first | (go_at_call 13; refine hsv.mono ?_; rintro e w1 ⟨n, ho, hc, rfl, hb1, _, _, HSv, _, _⟩; have hbw := (hA _ _).trans (hb1.mono (hA _ _).size); have hcl := HCl.out w1 _ _ _ _ _ HSv.out; obtain ⟨s0, s1⟩ := HSp.out _ _ w1 rfl hb1))
  by_cases h0 : c < 0
  · have h0d : decide (c < 0) = true := decide_eq_true h0
    go_quiet (first | (go_at_call 14; exact Calls.quiet_of_same (hcl _)))
    go_wp2_with fail
    go_ret2
    exact ⟨none, 0, rfl, ⟨hbw.os, hbw.tape, hbw.output, hbw.size, hbw.block⟩, SpO.nil _ _⟩
  · have h0d : decide (c < 0) = false := decide_eq_false h0
    have h1 : (N : Int) ≤ c := by omega
    have h1d : decide ((N : Int) ≤ c) = true := decide_eq_true h1
    go_quiet (first | (go_at_call 14; exact Calls.quiet_of_same (hcl _)))
    go_wp2_with fail
    go_ret2
    exact ⟨none, 0, rfl, ⟨hbw.os, hbw.tape, hbw.output, hbw.size, hbw.block⟩, SpO.nil _ _⟩

set_option maxHeartbeats 1600000 in
set_option maxRecDepth 20000 in
theorem pbehind_ok (va vr pv fv : Value) (m : Mo) (ps : List (List (Int × Int))) (l : List (Int × Int)) (code : Int) (c : Nat) (hI : -9223372036854775808 ≤ code ∧ code ≤ 9223372036854775807) (w : World) (hB : 0 < w.heap.size) (hT : TabAt w) (hV : TaskV w va vr pv fv m ps l) (hk : tkcode m ps l = 0) (hcN : c < 2 ^ (aheadL l).length) :
    Calls Tryz.prog 5 #[.agg #[va, vr, pv, fv], .agg #[.int .i64 code, .int .i64 (c : Int)]] w (BdPost w m ps l code (c : Int)) := by
  unfold BdPost
  have hbc := bhC_ok (code := code) hk (c := (c : Int)) ⟨by omega, by omega⟩
  have h6 := (lcode_zero (tk_zero hk).2).2.2.2.2
  have hm0 := (pcode_m (tk_zero hk).1).1
  obtain ⟨ao, ac, rfl⟩ := hV.mo.1.shape
  obtain ⟨ro, rc, rfl⟩ := hV.mo.2.shape
  obtain ⟨po, pc, rfl⟩ := hV.ps.shape
  obtain ⟨fo, fc, rfl, _⟩ := id hV.fo
  have hA : ∀ o o', Below w.heap.size w ((w.alloc o).alloc o') := fun o o' => ((Below.refl _ _).alloc (Nat.le_refl _) o).alloc (by simp) o'
  have hsv := surveyOf_ok _ _ _ _ m ps l _ (Nat.lt_of_lt_of_le hB (hA (.cells #[.slice ao m.vars.length ac, .slice ro m.rules.length rc, .slice po ps.length pc, .slice fo l.length fc] 29) (.cells #[.int .i64 code, .int .i64 (c : Int)] 31)).size) (hT.below (hA _ _) hB) (hV.below (hA _ _)) hk
  have HCl : Hid (∀ (w' : World) (B bs bl : Nat) (ho : Option Addr) (hc : Nat), SurvAt w' B (.slice ao m.vars.length ac) (.slice ro m.rules.length rc) (.slice po ps.length pc) (.slice fo l.length fc) (.slice ho (aheadL l).length hc) bs bl → ∀ q, Calls Tryz.prog 14 #[.pointer (some ⟨B, 0, none⟩)] (w'.drewN q) fun e w'' => e = .returned (.int .i64 ((2 ^ (aheadL l).length : Nat) : Int)) ∧ w'' = w'.drewN q) := fun w' B bs bl ho hc h q => claims_any B _ _ _ _ ho _ hc bs bl (w'.drewN q) h6 (h.later (belowD _ _))
  have HSp : Hid (∀ (o o' : Obj) (w' : World), o' = .cells #[.int .i64 code, .int .i64 (c : Int)] 31 → Below ((w.alloc o).alloc o').heap.size ((w.alloc o).alloc o') w' → w'.cell? ⟨w.heap.size + 1, 0, none⟩ = some (.int .i64 code) ∧ w'.cell? ⟨w.heap.size + 1, 1, none⟩ = some (.int .i64 (c : Int))) := fun o o' w' e h => by
    subst e
    exact ⟨(h.cell (p := ⟨w.heap.size + 1, 0, none⟩) (by simp)).trans (by simp [go_sem]), (h.cell (p := ⟨w.heap.size + 1, 1, none⟩) (by simp)).trans (by simp [go_sem])⟩
  have HBh : Hid (∀ (w' : World) (n : Nat) (ho : Option Addr) (hc : Nat), Below w.heap.size w w' → SvOk (fun _ => True) w w' (n + 2) n (n + 1) 0 (.slice ao m.vars.length ac) (.slice ro m.rules.length rc) (.slice po ps.length pc) (.slice fo l.length fc) m ps l ho hc → Calls Tryz.prog 15 #[.pointer (some ⟨n + 2, 0, none⟩), .agg #[.int .i64 code, .int .i64 (c : Int)]] w' fun e w'' => ∃ so sc, e = .returned (.tuple #[.slice so (bhL m ps l code (c : Int)).length sc, .int .i64 (bhC m ps l code (c : Int))]) ∧ Below w.heap.size w w'' ∧ Hid (SpO w'' w.heap.size (.slice so (bhL m ps l code (c : Int)).length sc) (bhL m ps l code (c : Int)))) := fun w' n ho hc hb hS => by
    by_cases hcr : 0 ≤ code ∧ code < prodTo m.vars m.vars.length
    · refine (behind_in w w' (n + 2) n (n + 1) 0 _ _ _ _ m ps l ho hc code c hI hB hT hV hk hS (by omega) hcr hcN).mono fun e w'' ⟨h1, h2, h3⟩ => ?_
      have hw0 := wcode_yes hm0 hcr
      rcases h3 with ⟨_, so, sc, h4, h5⟩ | ⟨h4, _⟩
      · rw [bhL_ok (by rw [hbc, hw0]), hbc, hw0]
        exact ⟨so, sc, h4, h2.out.bel, owns_mono h5.out hb.size⟩
      · exact absurd hw0 h4
    · refine (behind_out w w' (n + 2) n (n + 1) 0 _ _ _ _ m ps l ho hc code (c : Int) hI hB hT hV hk hS (by omega) (by rw [wcode_no hm0 hcr]; decide)).mono fun e w'' ⟨h1, h2, h3⟩ => ?_
      have hw9 := wcode_no hm0 hcr
      rcases h3 with ⟨h4, _⟩ | ⟨_, h4⟩
      · rw [hw9] at h4; exact absurd h4 (by decide)
      · rw [bhL_bad (by rw [hbc, hw9]; decide), hbc]
        exact ⟨none, 0, h4, h2.out.bel, SpO.nil _ _⟩
  have HMd : Hid (∀ (o o' : Obj) (w' : World) (n : Nat) (ho : Option Addr) (hc : Nat), Below ((w.alloc o).alloc o').heap.size ((w.alloc o).alloc o') w' → ((w.alloc o).alloc o').heap.size ≤ n → SurvAt w' (n + 2) (.slice ao m.vars.length ac) (.slice ro m.rules.length rc) (.slice po ps.length pc) (.slice fo l.length fc) (.slice ho (aheadL l).length hc) n (n + 1) → w'.ownsRow ((w.alloc o).alloc o').heap.size 3 1 (.slice ho (aheadL l).length hc) (aheadL l).length (ivals (aheadL l)) → w'.heap[n]? = some (.map #[] 0) ∧ w'.heap[n + 1]? = some (.map #[] 0) → ∀ q, SvOk (fun _ => True) w (w'.drewN q) (n + 2) n (n + 1) 0 (.slice ao m.vars.length ac) (.slice ro m.rules.length rc) (.slice po ps.length pc) (.slice fo l.length fc) m ps l ho hc) := fun o o' w' n ho hc h1 h2 h3 h4 h5 q => (SvOk.made (hA o o') h1 h2 h3 h4 h5.1 h5.2).below (belowD _ _)
  have hci : (c : Int) < ((2 ^ (aheadL l).length : Nat) : Int) := by omega
  unfold SurvPost at hsv
  generalize (bhL m ps l code (c : Int)) = bhl at *
  generalize bhC m ps l code (c : Int) = bhc at *
  generalize ivals (aheadL l) = iv at *
  generalize 2 ^ (aheadL l).length = N at *
  generalize (aheadL l).length = an at *
  generalize m.vars.length = vn at *
  generalize m.rules.length = rn at *
  generalize ps.length = pn at *
  generalize l.length = fn at *
  generalize bhl.length = bn at *
  clear hV hT hk hbc
  go_enter Tryz.func5, Tryz.ntmps5
  go_wp2_with (first | (go_at_call 13; refine hsv.mono ?_; rintro e w1 ⟨n, ho, hc, rfl, hb1, hn1, _, HSv, HOw, HMp⟩; have hbw := (hA _ _).trans (hb1.mono (hA _ _).size); have hcl := HCl.out w1 _ _ _ _ _ HSv.out; obtain ⟨s0, s1⟩ := HSp.out _ _ w1 rfl hb1; have HSk := (show Hid _ from HMd.out _ _ w1 n ho hc hb1 hn1 HSv.out HOw.out HMp.out)))
  have h0 : ¬ (c : Int) < 0 := by omega
  have h1 : ¬ (N : Int) ≤ (c : Int) := by omega
  have h1n : ¬ N ≤ c := by omega
  have h0d : decide ((c : Int) < 0) = false := decide_eq_false h0
  have h1d : decide ((N : Int) ≤ (c : Int)) = false := decide_eq_false h1
  go_quiet (first | (go_at_call 14; exact Calls.quiet_of_same (hcl _)))
  have hbe := fun q => HBh.out (w1.drewN q) n ho hc ⟨hbw.os, hbw.tape, hbw.output, hbw.size, hbw.block⟩ (HSk.out q)
  clear hcl HSk
  go_wp2_with (first | (go_at_call 15; refine (hbe _).mono ?_; rintro e w2 ⟨so, sc, rfl, hb2, HO⟩))
  go_ret2
  exact ⟨so, sc, rfl, hb2, HO⟩
/-- THE CONTRACT OF product.Behind. -/
theorem pbehind_any (va vr pv fv : Value) (m : Mo) (ps : List (List (Int × Int))) (l : List (Int × Int)) (code c : Int) (hI : -9223372036854775808 ≤ code ∧ code ≤ 9223372036854775807) (w : World) (hB : 0 < w.heap.size) (hT : TabAt w) (hV : TaskV w va vr pv fv m ps l) :
    Calls Tryz.prog 5 #[.agg #[va, vr, pv, fv], .agg #[.int .i64 code, .int .i64 c]] w (BdPost w m ps l code c) := by
  by_cases hk : tkcode m ps l = 0
  · by_cases hc : 0 ≤ c ∧ c < ((2 ^ (aheadL l).length : Nat) : Int)
    · obtain ⟨k, rfl⟩ : ∃ k : Nat, c = (k : Int) := ⟨c.toNat, by omega⟩
      exact pbehind_ok va vr pv fv m ps l code k hI w hB hT hV hk (by omega)
    · exact pbehind_no va vr pv fv m ps l code c w hB hT hV hk hc
  · exact pbehind_bad va vr pv fv m ps l code c w hB hT hV hk
end Go.Proofs.YtihmcoikgkacoaaGreatDoor

/-
  Exploring a task, as mathematics and as it lies.
-/
namespace Go.Proofs.YtihmcoikgkacoaaGreatDoor
open Go.ChangeShapes Go.WideShapes Go.ChangeAt Go.RowKit Go.Deep Go.Maps
open Terms Tm

/-- a spot of a task. -/
def spOk (m : Mo) (l : List (Int × Int)) (p : Int × Int) : Prop := (0 ≤ p.1 ∧ p.1 < prodTo m.vars m.vars.length) ∧ ∃ d : Nat, d < 2 ^ (aheadL l).length ∧ p.2 = (d : Int)
noncomputable def xpBh (m : Mo) (ps : List (List (Int × Int))) (l : List (Int × Int)) (p : Int × Int) : List (Int × Int) := behL m ps l p.1 p.2
/-- the spots behind k rounds. -/
noncomputable def xpP (m : Mo) (ps : List (List (Int × Int))) (l : List (Int × Int)) (k : Nat) : List (Int × Int) := exS (begL m ps l) (xpBh m ps l) k
noncomputable def xpAt (m : Mo) (ps : List (List (Int × Int))) (l : List (Int × Int)) (k : Nat) : Int × Int := (xpP m ps l k).getD k (0, 0)
noncomputable def xpN (m : Mo) (ps : List (List (Int × Int))) (l : List (Int × Int)) : Nat → List (List Int)
  | 0 => []
  | k + 1 => xpN m ps l k ++ [plIx (xpP m ps l k) (xpBh m ps l (xpAt m ps l k))]
noncomputable def xpT (m : Mo) (ps : List (List (Int × Int))) (l : List (Int × Int)) : Nat → List Int
  | 0 => []
  | k + 1 => xpT m ps l k ++ [metN l (letL m ps (xpAt m ps l k).1) (xpAt m ps l k).2]
section
variable {m : Mo} {ps : List (List (Int × Int))} {l : List (Int × Int)}
set_option maxRecDepth 20000 in
theorem xpP_succ (k : Nat) : xpP m ps l (k + 1) = plTo (xpP m ps l k) (xpBh m ps l (xpAt m ps l k)) := rfl
set_option maxRecDepth 20000 in
theorem xpN_len : ∀ k, (xpN m ps l k).length = k
  | 0 => rfl
  | k + 1 => by rw [xpN, List.length_append, xpN_len k]; rfl
set_option maxRecDepth 20000 in
theorem xpT_len : ∀ k, (xpT m ps l k).length = k
  | 0 => rfl
  | k + 1 => by rw [xpT, List.length_append, xpT_len k]; rfl
set_option maxRecDepth 20000 in
theorem xbg_mem {p : Int × Int} : ∀ k, p ∈ begTo m ps l k → p.1 = begC m ∧ ∃ d : Nat, d < k ∧ p.2 = (d : Int) ∧ tru l (letL m ps (begC m)) (d : Int) 0 ≠ true
  | 0, h => by simp [begTo] at h
  | k + 1, h => by
    rw [begTo] at h
    split at h
    · obtain ⟨h1, d, h2, h3⟩ := xbg_mem k h
      exact ⟨h1, d, by omega, h3⟩
    · next hf =>
      rw [List.mem_append, List.mem_singleton] at h
      rcases h with h | rfl
      · obtain ⟨h1, d, h2, h3⟩ := xbg_mem k h
        exact ⟨h1, d, by omega, h3⟩
      · exact ⟨rfl, k, by omega, rfl, hf⟩
set_option maxRecDepth 20000 in
theorem begL_spot (hk : tkcode m ps l = 0) {p : Int × Int} (h : p ∈ begL m ps l) : spOk m l p := by
  obtain ⟨h1, d, h2, h3, _⟩ := xbg_mem _ h
  exact ⟨by rw [h1]; exact tk_beg hk, d, h2, h3⟩
set_option maxRecDepth 20000 in
theorem xpBh_spot (hk : tkcode m ps l = 0) {s p : Int × Int} (hs : spOk m l s) (h : p ∈ xpBh m ps l s) : spOk m l p := behL_spot (pcode_m (tk_zero hk).1).1 hs.1 h
set_option maxRecDepth 20000 in
theorem xpP_zero (hk : tkcode m ps l = 0) : ∀ p ∈ xpP m ps l 0, spOk m l p := fun p hp => by
  rcases (plTo_iff _ _ _).1 hp with h | h
  · exact absurd h List.not_mem_nil
  · exact begL_spot hk h
set_option maxRecDepth 20000 in
theorem xpAt_mem {k : Nat} (h : k < (xpP m ps l k).length) : xpAt m ps l k ∈ xpP m ps l k := by
  unfold xpAt
  rw [List.getD_eq_getElem?_getD, List.getElem?_eq_getElem h]
  exact List.getElem_mem _
set_option maxRecDepth 20000 in
theorem xpP_next (hk : tkcode m ps l = 0) {k : Nat} (hl : k < (xpP m ps l k).length) (h : ∀ p ∈ xpP m ps l k, spOk m l p) : ∀ p ∈ xpP m ps l (k + 1), spOk m l p := fun p hp => by
  rw [xpP_succ] at hp
  rcases (plTo_iff _ _ _).1 hp with h1 | h1
  · exact h p h1
  · exact xpBh_spot hk (h _ (xpAt_mem hl)) h1
end
/-- all was gone through. -/
def ExDone (m : Mo) (ps : List (List (Int × Int))) (l : List (Int × Int)) (K : Nat) : Prop := (xpP m ps l K).length = K ∧ K ≤ 20000 ∧ (∀ j, j < K → j < (xpP m ps l j).length) ∧ ∀ p ∈ xpP m ps l K, spOk m l p
/-- there were too many. -/
def ExFull (m : Mo) (ps : List (List (Int × Int))) (l : List (Int × Int)) : Prop := ∃ k, (∀ j, j ≤ k → j < (xpP m ps l j).length) ∧ 20000 < (xpP m ps l (k + 1)).length
/-- a graph as it was explored. -/
def GrX (w : World) (base : Nat) (m : Mo) (ps : List (List (Int × Int))) (l : List (Int × Int)) (K : Nat) (sv nv tv : Value) : Prop := SpO w base sv (xpP m ps l K) ∧ LsAt w base nv tv (xpN m ps l K) ∧ w.ownsRow base 3 1 tv (xpT m ps l K).length (ivals (xpT m ps l K))
/-- WHAT EXPLORE ANSWERS. -/
def ExAns (w : World) (m : Mo) (ps : List (List (Int × Int))) (l : List (Int × Int)) (e : Ending) (w' : World) : Prop :=
  (tkcode m ps l = 0 ∧ ∃ K, ExDone m ps l K ∧ ∃ sv nv tv, e = .returned (.tuple #[.agg #[sv, .int .i64 ((begL m ps l).length : Nat), nv, tv, .int .i64 ((aheadL l).length : Nat)], .int .i64 0]) ∧ Below w.heap.size w w' ∧ Hid (GrX w' w.heap.size m ps l K sv nv tv)) ∨
  (tkcode m ps l = 0 ∧ ExFull m ps l ∧ e = .returned (.tuple #[.agg #[.slice none 0 0, .int .i64 0, .slice none 0 0, .slice none 0 0, .int .i64 0], .int .i64 12]) ∧ Below w.heap.size w w') ∨
  (tkcode m ps l ≠ 0 ∧ e = .returned (.tuple #[.agg #[.slice none 0 0, .int .i64 0, .slice none 0 0, .slice none 0 0, .int .i64 0], .int .i64 (tkcode m ps l)]) ∧ Below w.heap.size w w')
set_option maxRecDepth 20000 in
theorem ex_not_both {m : Mo} {ps : List (List (Int × Int))} {l : List (Int × Int)} {K : Nat} (h : ExDone m ps l K) : ¬ ExFull m ps l := by
  rintro ⟨k, h1, h2⟩
  obtain ⟨d1, d2, _, _⟩ := h
  by_cases hk : k + 1 ≤ K
  · have := (exS_le (begL m ps l) (xpBh m ps l) hk).length_le
    unfold xpP at h2 d1
    omega
  · have := h1 K (by omega)
    omega
/-- the box of a graph. -/
def grB (sv nv tv : Value) (init many : Int) : Obj := .cells #[sv, .int .i64 init, nv, tv, .int .i64 many] 42 (0, 0)
section
variable {w w' : World} {X : Nat} {sv nv tv : Value} {init many : Int}
set_option maxRecDepth 20000 in
theorem grB_cells (hb : w.heap[X]? = some (grB sv nv tv init many)) : w.cell? ⟨X, 0, none⟩ = some sv ∧ w.cell? ⟨X, 1, none⟩ = some (.int .i64 init) ∧ w.cell? ⟨X, 2, none⟩ = some nv ∧ w.cell? ⟨X, 3, none⟩ = some tv ∧ w.cell? ⟨X, 4, none⟩ = some (.int .i64 many) := by
  unfold grB at hb
  refine ⟨?_, ?_, ?_, ?_, ?_⟩ <;> simp [World.cell?, hb]
set_option maxRecDepth 20000 in
theorem grB_free (hb : w.heap[X]? = some (grB sv nv tv init many)) (i : Nat) : w.frozen? ⟨X, i, none⟩ = false := by
  unfold grB at hb
  simp [World.frozen?, hb]
set_option maxRecDepth 20000 in
/-- a graph's box is written. -/
theorem chg_box (w : World) (X : Nat) (a b c d e : Value) : Chg (fun i => i = X) w (((((w.setCell ⟨X, 0, none⟩ a).setCell ⟨X, 1, none⟩ b).setCell ⟨X, 2, none⟩ c).setCell ⟨X, 3, none⟩ d).setCell ⟨X, 4, none⟩ e) :=
  (((((Chg.setCell w ⟨X, 0, none⟩ a).trans (Chg.setCell _ ⟨X, 1, none⟩ b)).trans (Chg.setCell _ ⟨X, 2, none⟩ c)).trans (Chg.setCell _ ⟨X, 3, none⟩ d)).trans (Chg.setCell _ ⟨X, 4, none⟩ e))
set_option maxRecDepth 20000 in
theorem GrX.chg {base K : Nat} {m : Mo} {ps : List (List (Int × Int))} {l : List (Int × Int)} (h : GrX w base m ps l K sv nv tv) (hs : Chg (fun i => i = X) w w') (ht : TyB w X 42) : GrX w' base m ps l K sv nv tv := by
  obtain ⟨h1, h2, h3⟩ := h
  obtain ⟨us, n1, _⟩ := id h2
  have hno : ∀ g t, TyB w g t → t ≠ 42 → g ≠ X := fun g t hg hn e => hn (hg.eq (e ▸ ht))
  exact ⟨owns_chg h1 hs (fun g e => hno g _ (owns_ty h1 e).2 (by decide)), h2.chg hs (fun i z => ⟨fun e => hno i _ (owns_ty n1 e).2 (by decide) z, fun _ _ _ _ _ hi => hno i _ hi (by decide) z⟩), owns_chg h3 hs (fun g e => hno g _ (owns_ty h3 e).2 (by decide))⟩
set_option maxRecDepth 20000 in
theorem LsAt.mono {base base' : Nat} {N : List (List Int)} (h : LsAt w base nv tv N) (hb : base' ≤ base) : LsAt w base' nv tv N := by
  obtain ⟨us, h1, h2, h3⟩ := h
  refine ⟨us, owns_mono h1 hb, h2, fun i hi => ?_⟩
  obtain ⟨ao, c, e1, e2, e3, e4⟩ := h3 i hi
  exact ⟨ao, c, e1, e2, e3, fun a e => ⟨(e4 a e).1, Nat.le_trans hb (e4 a e).2⟩⟩
end
end Go.Proofs.YtihmcoikgkacoaaGreatDoor

/-
  The contract of product.Explore.
-/
namespace Go.Proofs.YtihmcoikgkacoaaGreatDoor
open Go.ChangeShapes Go.WideShapes Go.ChangeAt Go.RowKit Go.Deep Go.Maps
open Terms Tm

set_option maxHeartbeats 1600000 in
set_option maxRecDepth 20000 in
theorem explore_bad (va vr pv fv : Value) (m : Mo) (ps : List (List (Int × Int))) (l : List (Int × Int)) (w : World) (hB : 0 < w.heap.size) (hT : TabAt w) (hV : TaskV w va vr pv fv m ps l) (hk : tkcode m ps l ≠ 0) :
    Calls Tryz.prog 9 #[.agg #[va, vr, pv, fv]] w (ExAns w m ps l) := by
  unfold ExAns
  obtain ⟨ao, ac, rfl⟩ := hV.mo.1.shape
  obtain ⟨ro, rc, rfl⟩ := hV.mo.2.shape
  obtain ⟨po, pc, rfl⟩ := hV.ps.shape
  obtain ⟨fo, fc, rfl, _⟩ := id hV.fo
  obtain ⟨W0, hW0⟩ : ∃ W0, W0 = (w.alloc (.cells #[.slice ao m.vars.length ac, .slice ro m.rules.length rc, .slice po ps.length pc, .slice fo l.length fc] 29)).alloc (.cells #[.slice none 0 0, .int .i64 0, .slice none 0 0, .slice none 0 0, .int .i64 0] 42) := ⟨_, rfl⟩
  have hbW : Below w.heap.size w W0 := by rw [hW0]; exact ((Below.refl _ _).alloc (Nat.le_refl _) _).alloc (by simp) _
  have hzW : W0.heap.size = w.heap.size + 2 := by rw [hW0]; simp
  have hX0 : W0.heap[w.heap.size + 1]? = some (grB (.slice none 0 0) (.slice none 0 0) (.slice none 0 0) 0 0) := by
    rw [hW0]
    have := (MapKept.heap_alloc (w.alloc (.cells #[.slice ao m.vars.length ac, .slice ro m.rules.length rc, .slice po ps.length pc, .slice fo l.length fc] 29)) (.cells #[.slice none 0 0, .int .i64 0, .slice none 0 0, .slice none 0 0, .int .i64 0] 42)).1
    rw [World.size_alloc] at this
    exact this
  have hsv := surveyOf_bad _ _ _ _ m ps l W0 (Nat.lt_of_lt_of_le hB hbW.size) (hT.below hbW hB) (hV.below hbW) hk
  have HFin : Hid (∀ w1, Below W0.heap.size W0 w1 → (w1.cell? ⟨w.heap.size + 1, 0, none⟩ = some (.slice none 0 0) ∧ w1.cell? ⟨w.heap.size + 1, 1, none⟩ = some (.int .i64 0) ∧ w1.cell? ⟨w.heap.size + 1, 2, none⟩ = some (.slice none 0 0) ∧ w1.cell? ⟨w.heap.size + 1, 3, none⟩ = some (.slice none 0 0) ∧ w1.cell? ⟨w.heap.size + 1, 4, none⟩ = some (.int .i64 0)) ∧ (∀ i, w1.frozen? ⟨w.heap.size + 1, i, none⟩ = false) ∧ Below w.heap.size w w1) := fun w1 h => by
    have hb := (h.block (w.heap.size + 1) (by omega)).trans hX0
    exact ⟨grB_cells hb, grB_free hb, hbW.trans (h.mono hbW.size)⟩
  have HK : Hid (tkcode m ps l ≠ 0) := hk
  generalize tkcode m ps l = tc at *
  generalize m.vars.length = vn at *
  generalize m.rules.length = rn at *
  generalize ps.length = pn at *
  generalize l.length = fn at *
  clear hV hT
  go_enter Tryz.func9, Tryz.ntmps9
  go_wp2_with (first | (go_at_call 13; rw [← hW0]; refine hsv.mono ?_; rintro e w1 ⟨rfl, hb1⟩; obtain ⟨⟨x0, x1, x2, x3, x4⟩, xf, hbw⟩ := HFin.out w1 hb1; have f0 := xf 0; have f1 := xf 1; have f2 := xf 2; have f3 := xf 3; have f4 := xf 4))
  have hbF : Below w.heap.size w (((((w1.setCell ⟨w.heap.size + 1, 0, none⟩ (.slice none 0 0)).setCell ⟨w.heap.size + 1, 1, none⟩ (.int .i64 0)).setCell ⟨w.heap.size + 1, 2, none⟩ (.slice none 0 0)).setCell ⟨w.heap.size + 1, 3, none⟩ (.slice none 0 0)).setCell ⟨w.heap.size + 1, 4, none⟩ (.int .i64 0)) := hbw.trans ((chg_box w1 (w.heap.size + 1) _ _ _ _ _).below (fun i e => by omega) (by have := hbw.size; omega))
  refine bodyPost_ret (v := .tuple #[.agg #[.slice none 0 0, .int .i64 0, .slice none 0 0, .slice none 0 0, .int .i64 0], .int .i64 tc]) ?_ rfl (.inr (.inr ⟨HK.out, rfl, hbF⟩))
  simp [results, Tryz.results9, go_sem, x0, x1, x2, x3, x4]

set_option maxHeartbeats 1600000 in
set_option maxRecDepth 20000 in
/-- the atlas is made, and holds where runs begin. -/
theorem ex_start (W0 w1 w2 : World) (n : Nat) (va vr pv fv : Value) (m : Mo) (ps : List (List (Int × Int))) (l : List (Int × Int)) (ho : Option Addr) (hc : Nat) (so : Option Addr) (sc : Nat) (hk : tkcode m ps l = 0) (hb1 : Below W0.heap.size W0 w1) (hn : W0.heap.size ≤ n) (hs : SurvAt w1 (n + 2) va vr pv fv (.slice ho (aheadL l).length hc) n (n + 1)) (hor : w1.ownsRow W0.heap.size 3 1 (.slice ho (aheadL l).length hc) (aheadL l).length (ivals (aheadL l))) (hm : w1.heap[n]? = some (.map #[] 0) ∧ w1.heap[n + 1]? = some (.map #[] 0)) (hb2 : Below w1.heap.size w1 w2) (hsp : SpO w2 w1.heap.size (.slice so (begL m ps l).length sc) (begL m ps l)) :
    Calls Tryz.prog 27 #[.pointer (some ⟨w2.heap.size + 1, 0, none⟩), .slice so (begL m ps l).length sc] ((w2.alloc (.map #[] 0)).alloc (.cells #[.slice none 0 0, .int .i64 ((begL m ps l).length : Nat), .slice none 0 0, .slice none 0 0, .int .i64 ((aheadL l).length : Nat), .map (some w2.heap.size)] 75)) fun e w3 => ∃ v sv, e = .returned v ∧ Hid (ExW W0 w3 w2.heap.size (w2.heap.size + 1) w2.heap.size (n + 2) n (n + 1) (0 * 300001) va vr pv fv m ps l ho hc (xpP m ps l 0) (xpN m ps l 0) (xpT m ps l 0) ((begL m ps l).length : Nat) ((aheadL l).length : Nat) sv (.slice none 0 0) (.slice none 0 0)) := by
  have hbl := begL_len hk
  have hv1 : SvOk (fun _ => True) W0 w1 (n + 2) n (n + 1) 0 va vr pv fv m ps l ho hc := SvOk.made (Below.refl _ _) hb1 hn hs hor hm.1 hm.2
  have hv2 := hv1.below hb2
  have hl1 := hv2.box.lt
  have hl2 : n < w2.heap.size := by omega
  obtain ⟨WA, hWA⟩ : ∃ WA, WA = (w2.alloc (.map #[] 0)).alloc (.cells #[.slice none 0 0, .int .i64 ((begL m ps l).length : Nat), .slice none 0 0, .slice none 0 0, .int .i64 ((aheadL l).length : Nat), .map (some w2.heap.size)] 75) := ⟨_, rfl⟩
  have hbA : Below w2.heap.size w2 WA := by rw [hWA]; exact ((Below.refl _ _).alloc (Nat.le_refl _) _).alloc (by simp) _
  have hmA : WA.heap[w2.heap.size]? = some (.map #[] 0) := by
    rw [hWA, Below.heap_alloc _ _ _ (by simp)]
    exact (MapKept.heap_alloc w2 _).1
  have hxA : WA.heap[w2.heap.size + 1]? = some (atB (.slice none 0 0) (.slice none 0 0) (.slice none 0 0) ((begL m ps l).length : Nat) ((aheadL l).length : Nat) w2.heap.size) := by
    rw [hWA]
    have := (MapKept.heap_alloc (w2.alloc (.map #[] 0)) (.cells #[.slice none 0 0, .int .i64 ((begL m ps l).length : Nat), .slice none 0 0, .slice none 0 0, .int .i64 ((aheadL l).length : Nat), .map (some w2.heap.size)] 75)).1
    rw [World.size_alloc] at this
    exact this
  have hX : ExW W0 WA w2.heap.size (w2.heap.size + 1) w2.heap.size (n + 2) n (n + 1) (0 * 300001) va vr pv fv m ps l ho hc [] (xpN m ps l 0) (xpT m ps l 0) ((begL m ps l).length : Nat) ((aheadL l).length : Nat) (.slice none 0 0) (.slice none 0 0) (.slice none 0 0) := by
    refine ⟨((hv2.re (Pz' := offT (.slice none 0 0)) (fun _ _ _ e => by simp [Value.ownBlock] at e) (fun _ _ e => by simp [Value.ownBlock] at e)).below hbA).mono (by omega), ⟨hxA, by omega, Nat.le_refl _, LiesAt.new hmA, SpO.nil _ _, ⟨[], World.ownsRow_nil _ _ _ _, rfl, fun i hi => by simp [xpN] at hi⟩, World.ownsRow_nil _ _ _ _⟩, ?_, ?_, ?_, ?_⟩
    · have := hv2.bel.size; omega
    · omega
    · omega
    · omega
  have hsv := (hsp.later hbA (Nat.le_refl _)).v
  have hIs : ∀ j, j < (begL m ps l).length → I64s ((begL m ps l).getD j (0, 0)) := fun j hj => spot_I64 hk (begL_spot hk (by rw [List.getD_eq_getElem?_getD, List.getElem?_eq_getElem hj]; exact List.getElem_mem _))
  have hsep : ∀ a, so = some a → ¬ atZ (w2.heap.size + 1) w2.heap.size (.slice none 0 0) a.block := fun a e z => by
    have hlt : a.block < w2.heap.size := by
      rcases hsp.2 with ⟨h0, _⟩ | ⟨g, cap, cur, h1, _, h3, _⟩
      · rw [e] at h0; simp at h0
      · rw [e] at h1
        injection h1 with h1 _ _
        injection h1 with h1
        subst h1
        exact (Array.getElem?_eq_some_iff.1 h3).1
    rcases z with z | z | z
    · omega
    · omega
    · simp [Value.ownBlock] at z
  rw [← hWA]
  refine (places_any WA w2.heap.size (w2.heap.size + 1) w2.heap.size [] _ _ _ _ _ _ _ _ so sc hX.tl hsv hsep hIs (by simp; omega)).mono fun e w3 ⟨h1, sv', h2, h3, h4, h5, h6⟩ => ?_
  exact ⟨_, sv', h1, hX.put h5 h2⟩

set_option maxHeartbeats 1600000 in
set_option maxRecDepth 20000 in
/-- a round. -/
theorem ex_round (W0 wr : World) (base A lm B bs bl k : Nat) (va vr pv fv : Value) (m : Mo) (ps : List (List (Int × Int))) (l : List (Int × Int)) (ho : Option Addr) (hc : Nat) (init many : Int) (sv nv tv : Value) (hB : 0 < W0.heap.size) (hT : TabAt W0) (hV : TaskV W0 va vr pv fv m ps l) (hk : tkcode m ps l = 0) (hX : ExW W0 wr base A lm B bs bl (k * 300001) va vr pv fv m ps l ho hc (xpP m ps l k) (xpN m ps l k) (xpT m ps l k) init many sv nv tv) (hlt : k < (xpP m ps l k).length) (hz : (xpP m ps l k).length ≤ 20000) (hsp : ∀ p ∈ xpP m ps l k, spOk m l p) :
    Calls Tryz.prog 28 #[.pointer (some ⟨A, 0, none⟩), .pointer (some ⟨B, 0, none⟩), .agg #[.int .i64 (xpAt m ps l k).1, .int .i64 (xpAt m ps l k).2]] wr fun e w' => e = .returned (.int .i64 (if 20000 < (xpP m ps l (k + 1)).length then 12 else 0)) ∧ ∃ sv nv tv, Hid (ExW W0 w' base A lm B bs bl ((k + 1) * 300001) va vr pv fv m ps l ho hc (xpP m ps l (k + 1)) (xpN m ps l (k + 1)) (xpT m ps l (k + 1)) init many sv nv tv) := by
  obtain ⟨h1, d, h2, h3⟩ := hsp _ (xpAt_mem hlt)
  have hgo := goThrough_any W0 wr base A lm B bs bl (k * 300001) va vr pv fv m ps l ho hc (xpP m ps l k) (xpN m ps l k) (xpT m ps l k) init many sv nv tv (xpAt m ps l k).1 d hB hT hV hk hX (by omega) h1 h2 hz (by rw [xpN_len]; omega) (by rw [xpT_len]; omega)
  unfold GoPost at hgo
  rw [← h3] at hgo
  refine hgo.mono fun e w' ⟨g1, sv', nv', tv', g2⟩ => ⟨g1, sv', nv', tv', ?_⟩
  have e1 : (k + 1) * 300001 = k * 300001 + 300001 := by omega
  rw [e1]
  exact g2

set_option maxHeartbeats 3200000 in
set_option maxRecDepth 20000 in
theorem explore_ok (va vr pv fv : Value) (m : Mo) (ps : List (List (Int × Int))) (l : List (Int × Int)) (w : World) (hB : 0 < w.heap.size) (hT : TabAt w) (hV : TaskV w va vr pv fv m ps l) (hk : tkcode m ps l = 0) :
    Calls Tryz.prog 9 #[.agg #[va, vr, pv, fv]] w (ExAns w m ps l) := by
  unfold ExAns
  obtain ⟨ao, ac, rfl⟩ := hV.mo.1.shape
  obtain ⟨ro, rc, rfl⟩ := hV.mo.2.shape
  obtain ⟨po, pc, rfl⟩ := hV.ps.shape
  obtain ⟨fo, fc, rfl, _⟩ := id hV.fo
  obtain ⟨W0, hW0⟩ : ∃ W0, W0 = (w.alloc (.cells #[.slice ao m.vars.length ac, .slice ro m.rules.length rc, .slice po ps.length pc, .slice fo l.length fc] 29)).alloc (.cells #[.slice none 0 0, .int .i64 0, .slice none 0 0, .slice none 0 0, .int .i64 0] 42) := ⟨_, rfl⟩
  have hbW : Below w.heap.size w W0 := by rw [hW0]; exact ((Below.refl _ _).alloc (Nat.le_refl _) _).alloc (by simp) _
  have hzW : W0.heap.size = w.heap.size + 2 := by rw [hW0]; simp
  have hX0 : W0.heap[w.heap.size + 1]? = some (grB (.slice none 0 0) (.slice none 0 0) (.slice none 0 0) 0 0) := by
    rw [hW0]
    have := (MapKept.heap_alloc (w.alloc (.cells #[.slice ao m.vars.length ac, .slice ro m.rules.length rc, .slice po ps.length pc, .slice fo l.length fc] 29)) (.cells #[.slice none 0 0, .int .i64 0, .slice none 0 0, .slice none 0 0, .int .i64 0] 42)).1
    rw [World.size_alloc] at this
    exact this
  have hB0 : 0 < W0.heap.size := Nat.lt_of_lt_of_le hB hbW.size
  have hT0 := hT.below hbW hB
  have hV0 := hV.below hbW
  have hsv := surveyOf_ok _ _ _ _ m ps l W0 hB0 hT0 hV0 hk
  have HFin : Hid (∀ w1, Below W0.heap.size W0 w1 → (w1.cell? ⟨w.heap.size + 1, 0, none⟩ = some (.slice none 0 0) ∧ w1.cell? ⟨w.heap.size + 1, 1, none⟩ = some (.int .i64 0) ∧ w1.cell? ⟨w.heap.size + 1, 2, none⟩ = some (.slice none 0 0) ∧ w1.cell? ⟨w.heap.size + 1, 3, none⟩ = some (.slice none 0 0) ∧ w1.cell? ⟨w.heap.size + 1, 4, none⟩ = some (.int .i64 0)) ∧ (∀ i, w1.frozen? ⟨w.heap.size + 1, i, none⟩ = false) ∧ TyB w1 (w.heap.size + 1) 42 ∧ Below w.heap.size w w1) := fun w1 h => by
    have hb := (h.block (w.heap.size + 1) (by omega)).trans hX0
    exact ⟨grB_cells hb, grB_free hb, ⟨_, _, hb⟩, hbW.trans (h.mono hbW.size)⟩
  have HBe : Hid (∀ (w1 : World) (B bs bl : Nat) (ho : Option Addr) (hcp : Nat), Below W0.heap.size W0 w1 → SurvAt w1 B (.slice ao m.vars.length ac) (.slice ro m.rules.length rc) (.slice po ps.length pc) (.slice fo l.length fc) (.slice ho (aheadL l).length hcp) bs bl → Calls Tryz.prog 26 #[.pointer (some ⟨B, 0, none⟩)] w1 fun e w' => ∃ so sc, e = .returned (.tuple #[.slice so (begL m ps l).length sc, .int .i64 0]) ∧ Below w1.heap.size w1 w' ∧ Hid (SpO w' w1.heap.size (.slice so (begL m ps l).length sc) (begL m ps l))) := fun w1 B bs bl ho hcp h hs => begin_any B _ _ _ _ m ps l ho hcp bs bl w1 (Nat.lt_of_lt_of_le hB0 h.size) (hT0.below h hB0) (hV0.below h) hk hs
  have HSt := (show Hid _ from fun (w1 w2 : World) (n : Nat) (ho : Option Addr) (hc : Nat) (so : Option Addr) (sc : Nat) => ex_start W0 w1 w2 n (.slice ao m.vars.length ac) (.slice ro m.rules.length rc) (.slice po ps.length pc) (.slice fo l.length fc) m ps l ho hc so sc hk)
  have HRd := (show Hid _ from fun (wr : World) (base A lm B bs bl k : Nat) (ho : Option Addr) (hc : Nat) (sv nv tv : Value) => ex_round W0 wr base A lm B bs bl k (.slice ao m.vars.length ac) (.slice ro m.rules.length rc) (.slice po ps.length pc) (.slice fo l.length fc) m ps l ho hc ((begL m ps l).length : Nat) ((aheadL l).length : Nat) sv nv tv hB0 hT0 hV0 hk)
  have HP0 : Hid ((∀ p ∈ xpP m ps l 0, spOk m l p) ∧ (xpP m ps l 0).length ≤ 20000) := ⟨xpP_zero hk, by
    have h1 := (plTo_length (begL m ps l) []).2
    have h2 := begL_len hk
    have e : xpP m ps l 0 = plTo [] (begL m ps l) := rfl
    rw [e]
    simp at h1
    omega⟩
  have HPn : Hid (∀ k, k < (xpP m ps l k).length → (∀ p ∈ xpP m ps l k, spOk m l p) → ∀ p ∈ xpP m ps l (k + 1), spOk m l p) := fun k h1 h2 => xpP_next hk h1 h2
  have HK : Hid (tkcode m ps l = 0) := hk
  have hbn := begL_len hk
  have han := (lcode_zero (tk_zero hk).2).2.2.2.2
  unfold SurvPost at hsv
  clear hV hT hV0 hT0 hk
  generalize hbl : (begL m ps l).length = bn at *
  generalize hal : (aheadL l).length = an at *
  generalize m.vars.length = vn at *
  generalize m.rules.length = rn at *
  generalize ps.length = pn at *
  generalize l.length = fn at *
  have hmm := @run_makeMap Tryz.prog
  go_enter Tryz.func9, Tryz.ntmps9
  go_upto_region 8 with (first | (go_at_call 13; rw [← hW0]; refine hsv.mono ?_; rintro e w1 ⟨n, ho, hcp, rfl, hb1, hn1, _, HS, HO, HM⟩; have hbe := HBe.out w1 _ _ _ _ _ hb1 HS.out) | (go_at_call 26; refine hbe.mono ?_; rintro e w2 ⟨so, sc, rfl, hb2, HSp⟩; have hst := HSt.out w1 w2 n ho hcp so sc hb1 hn1 HS.out HO.out HM.out hb2 HSp.out; have x4 := (HS.out.later hb2).c4))
  go_wp2_with (first | (go_at_call 27; refine hst.mono ?_; rintro e w3 ⟨v3, sv3, rfl, HX3⟩))
  generalize hA : w2.heap.size + 1 = A at *
  generalize hlm : w2.heap.size = lm at *
  generalize hBn : n + 2 = B at *
  generalize hbs : n + 1 = bl at *
  clear hst hsv hbe HSt HBe HS HO HM HSp x4 hb1 hb2 hmm hlm
  go_loopw [8] (fun i wr => ∃ k pk : Nat, i = .int .i64 k ∧ k ≤ pk ∧ pk ≤ 20000 ∧ Hid ((xpP m ps l k).length = pk ∧ (∀ p ∈ xpP m ps l k, spOk m l p) ∧ ∀ j, j < k → j < (xpP m ps l j).length) ∧ ∃ vo vc nv tv, Hid (ExW W0 wr lm A lm B n bl (k * 300001) (.slice ao vn ac) (.slice ro rn rc) (.slice po pn pc) (.slice fo fn fc) m ps l ho hcp (xpP m ps l k) (xpN m ps l k) (xpT m ps l k) (bn : Nat) (an : Nat) (.slice vo pk vc) nv tv)) (fun i _ => 20001 - (intOf i).toNat)
  case atStart =>
    obtain ⟨vo, vc, e⟩ := HX3.out.tl.sp.shape
    refine ⟨0, (xpP m ps l 0).length, rfl, Nat.zero_le _, HP0.out.2, ⟨rfl, HP0.out.1, fun j hj => by omega⟩, vo, vc, .slice none 0 0, .slice none 0 0, ?_⟩
    rw [← e]
    exact HX3.out
  case round =>
    obtain ⟨k, pk, rfl, hkp, hpk, HK2, vo, vc, nv, tv, HX⟩ := hrel
    obtain ⟨a0, a1, a2, a3, a4, a5⟩ := atB_cells HX.out.tl.box
    by_cases hlt : k < pk
    · have hki : (k : Int) < (pk : Int) := by omega
      have hlt2 : k < (xpP m ps l k).length := by rw [HK2.out.1]; exact hlt
      obtain ⟨b, off, rfl, _, c0, c1⟩ := HX.out.tl.sp.v.get hlt2
      have hrd := HRd.out wr lm A lm B n bl k ho hcp _ nv tv HX.out hlt2 (by rw [HK2.out.1]; exact hpk) HK2.out.2.1
      have HKn : Hid ((∀ p ∈ xpP m ps l (k + 1), spOk m l p) ∧ ∀ j, j < k + 1 → j < (xpP m ps l j).length) := ⟨HPn.out k hlt2 HK2.out.2.1, fun j hj => by
        by_cases h : j < k
        · exact HK2.out.2.2 j h
        · obtain rfl : j = k := by omega
          exact hlt2⟩
      have e1 : (xpP m ps l k).getD k (0, 0) = xpAt m ps l k := rfl
      rw [e1] at c0 c1
      clear e1 HX HRd hlt2
      generalize xpAt m ps l k = s at *
      obtain ⟨x, y⟩ := s
      simp only at c0 c1 hrd
      by_cases hfull : 20000 < (xpP m ps l (k + 1)).length
      · rw [if_pos hfull] at hrd
        have HFu : Hid (ExFull m ps l) := ⟨k, fun j hj => HKn.out.2 j (by omega), hfull⟩
        clear hfull HKn HK2
        go_wp2_with (first | (go_at_call 28; refine hrd.mono ?_; rintro e w4 ⟨rfl, sv4, nv4, tv4, HX4⟩; obtain ⟨⟨x0, x1, x2, x3, x4⟩, xf, _, hbw⟩ := HFin.out w4 HX4.out.su.bel; have f0 := xf 0; have f1 := xf 1; have f2 := xf 2; have f3 := xf 3; have f4 := xf 4))
        have hbF : Below w.heap.size w (((((w4.setCell ⟨w.heap.size + 1, 0, none⟩ (.slice none 0 0)).setCell ⟨w.heap.size + 1, 1, none⟩ (.int .i64 0)).setCell ⟨w.heap.size + 1, 2, none⟩ (.slice none 0 0)).setCell ⟨w.heap.size + 1, 3, none⟩ (.slice none 0 0)).setCell ⟨w.heap.size + 1, 4, none⟩ (.int .i64 0)) := hbw.trans ((chg_box w4 (w.heap.size + 1) _ _ _ _ _).below (fun i e => by omega) (by have := hbw.size; omega))
        refine bodyPost_ret (v := .tuple #[.agg #[.slice none 0 0, .int .i64 0, .slice none 0 0, .slice none 0 0, .int .i64 0], .int .i64 12]) ?_ rfl (.inr (.inl ⟨HK.out, HFu.out, rfl, hbF⟩))
        simp [results, Tryz.results9, go_sem, x0, x1, x2, x3, x4]
      · rw [if_neg hfull] at hrd
        have HLe : Hid ((xpP m ps l (k + 1)).length ≤ 20000 ∧ pk ≤ (xpP m ps l (k + 1)).length) := ⟨by omega, by
          rw [← HK2.out.1]
          exact (exS_pre (begL m ps l) (xpBh m ps l) k).length_le⟩
        clear hfull HK2
        go_wp2_with (first | (go_at_call 28; refine hrd.mono ?_; rintro e w4 ⟨rfl, sv4, nv4, tv4, HX4⟩))
        go_roundw
        case rel =>
          obtain ⟨vo4, vc4, e⟩ := HX4.out.tl.sp.shape
          refine ⟨k + 1, (xpP m ps l (k + 1)).length, by go_num, by have := HLe.out.2; omega, HLe.out.1, ⟨rfl, HKn.out⟩, vo4, vc4, nv4, tv4, ?_⟩
          rw [← e]
          exact HX4.out
        case measure => simp [intOf]; omega
    · obtain rfl : k = pk := by omega
      obtain ⟨⟨x0, x1, x2, x3, x4⟩, xf, hty, hbw⟩ := HFin.out wr HX.out.su.bel
      have f0 := xf 0
      have f1 := xf 1
      have f2 := xf 2
      have f3 := xf 3
      have f4 := xf 4
      have HDn : Hid (ExDone m ps l k) := ⟨HK2.out.1, hpk, HK2.out.2.2, HK2.out.2.1⟩
      have HG : Hid (GrX wr w.heap.size m ps l k (.slice vo k vc) nv tv) := by
        have hle : w.heap.size ≤ lm := by have := HX.out.lo.1; have := hbW.size; omega
        exact ⟨owns_mono HX.out.tl.sp hle, HX.out.tl.nx.mono hle, owns_mono HX.out.tl.st hle⟩
      obtain ⟨no, nn, nc, rfl⟩ : ∃ no nn nc, nv = .slice no nn nc := by
        obtain ⟨us, h1, _⟩ := HX.out.tl.nx
        obtain ⟨x, y, e⟩ := owns_slice h1
        exact ⟨_, _, _, e⟩
      obtain ⟨xo, xn, xc, rfl⟩ : ∃ xo xn xc, tv = .slice xo xn xc := by
        obtain ⟨x, y, e⟩ := owns_slice HX.out.tl.st
        exact ⟨_, _, _, e⟩
      have HBF : Hid (∀ w8, Chg (fun i => i = w.heap.size + 1) wr w8 → Below w.heap.size w w8 ∧ GrX w8 w.heap.size m ps l k (.slice vo k vc) (.slice no nn nc) (.slice xo xn xc)) := fun w8 h => ⟨hbw.trans (h.below (fun i e => by omega) (by have := hbw.size; omega)), HG.out.chg h hty⟩
      clear HX HK2 HRd HG hty
      go_wp2_with fail
      obtain ⟨r1, r2⟩ := HBF.out _ (chg_box wr (w.heap.size + 1) _ _ _ _ _)
      refine bodyPost_ret (v := .tuple #[.agg #[.slice vo k vc, .int .i64 (bn : Nat), .slice no nn nc, .slice xo xn xc, .int .i64 (an : Nat)], .int .i64 0]) ?_ rfl (.inl ⟨HK.out, k, HDn.out, _, _, _, rfl, r1, r2⟩)
      simp [results, Tryz.results9, go_sem, x0, x1, x2, x3, x4]
set_option maxRecDepth 20000 in
/-- THE CONTRACT OF product.Explore. -/
theorem explore_any (va vr pv fv : Value) (m : Mo) (ps : List (List (Int × Int))) (l : List (Int × Int)) (w : World) (hB : 0 < w.heap.size) (hT : TabAt w) (hV : TaskV w va vr pv fv m ps l) :
    Calls Tryz.prog 9 #[.agg #[va, vr, pv, fv]] w (ExAns w m ps l) := by
  by_cases hk : tkcode m ps l = 0
  · exact explore_ok va vr pv fv m ps l w hB hT hV hk
  · exact explore_bad va vr pv fv m ps l w hB hT hV hk
end Go.Proofs.YtihmcoikgkacoaaGreatDoor

/-
  The contract of the document's own AheadOf.
-/
namespace Go.Proofs.YtihmcoikgkacoaaGreatDoor
open Go.ChangeShapes Go.WideShapes Go.ChangeAt Go.RowKit Go.Deep
open Terms

theorem refl_post {α : Prop} (h : α) : α := h

set_option maxHeartbeats 800000 in
set_option maxRecDepth 20000 in
/-- THE CONTRACT OF the document's AheadOf. -/
theorem aheadOf_any (v : Value) (l : List (Int × Int)) (props : Int) (w : World) (hV : OpsV w v l) :
    Calls Tryz.prog 30 #[v, .int .i64 props] w fun e w' => ∃ av, e = .returned (.tuple #[av, .int .i64 (lcode props l)]) ∧ Below w.heap.size w w' ∧ w'.ownsRow w.heap.size 3 1 av (ahL props l).length (ivals (ahL props l)) := by
  have hff := fault_any v l props w hV
  by_cases hz : lcode props l = 0
  · obtain ⟨_, _, hz0', _, _⟩ := lcode_zero hz
    obtain ⟨hne, h60⟩ := ends_ne hz0'
    rw [List.length_map] at h60
    obtain ⟨ao, cap, rfl, h0, h⟩ := hV
    obtain ⟨b, off, rfl, hblt, hat⟩ := h (by rintro rfl; exact hne rfl)
    rw [hz] at hff
    have HLd : Hid (ahL props l = aheadTo l l.length) := by show _ = _; unfold ahL aheadL; rw [if_pos hz]
    have HA : Hid (OpsAt w b off l) := hat
    rw [hz]
    obtain ⟨n, hn⟩ : ∃ n, n = l.length := ⟨_, rfl⟩
    have HN : Hid (n = l.length) := hn
    rw [← hn] at h60 HLd hff ⊢
    obtain ⟨i0, hi, hz0, hz1, hz2⟩ := info_parts infoInt
    clear h0 h hat hne hz hn hz0'
    go_enter Tryz.func30, Tryz.ntmps30
    go_wp2_with (go_at_call 43; refine hff.mono ?_; rintro e w1 ⟨rfl, hb1⟩)
    have hs1 := hb1.size
    clear hff
    go_loopw [7, 8] (fun out i wr => ∃ k : Nat, k ≤ n ∧ i = .int .i64 k ∧ Hid (wr.ownsRow w1.heap.size 3 1 out (aheadTo l k).length (ivals (aheadTo l k))) ∧ Below w1.heap.size w1 wr) (fun _ i _ => n - (intOf i).toNat)
    case atStart => exact ⟨0, Nat.zero_le _, rfl, World.ownsRow_nil _ _ _ _, Below.refl _ _⟩
    case round =>
      obtain ⟨k, hk, rfl, HOw, hbel⟩ := hrel
      have hbw := hb1.trans (hbel.mono hb1.size)
      have hlen := aheadTo_length l k
      have hown := HOw.out
      obtain ⟨aao, aac, rfl⟩ := owns_slice hown
      by_cases hlt : k < n
      · obtain ⟨c0, c1⟩ := (HA.out.below hbw hblt) k (by rw [← HN.out]; exact hlt)
        have HY : Hid (lookB (l.getD k (0, 0)).1 = true → aheadTo l (k + 1) = aheadTo l k ++ [(k : Int)]) := aheadTo_yes
        have HNo : Hid (lookB (l.getD k (0, 0)).1 = false → aheadTo l (k + 1) = aheadTo l k) := aheadTo_no
        generalize l.getD k (0, 0) = xy at c0 c1 HY HNo
        obtain ⟨x, y⟩ := xy
        simp only at c0 c1 HY HNo
        have hlk := fun w => rlook_any x w
        obtain ⟨L, hL⟩ : ∃ L, L = (aheadTo l k).length := ⟨_, rfl⟩
        have HL : Hid (L = (aheadTo l k).length) := hL
        rw [← hL] at hlen hown ⊢
        clear hL HA HOw
        cases hb : lookB x with
        | true =>
          have HAh := (show Hid _ from HY.out hb)
          rw [hb] at hlk
          have h63 : L + 1 ≤ maxLen := by unfold maxLen; omega
          have hkb : (L + 1) * 8 ≤ 140737488355328 := by omega
          have hbase : ∀ o, w1.heap.size ≤ (wr.alloc o).heap.size := fun o => by have := hbel.size; simp; omega
          clear HY HNo hb
          go_wp2_with (first | (go_at_call 50; refine (hlk _).mono ?_; rintro e w3 ⟨rfl, rfl⟩) | (at_builtin; refine wpList_append_own _ rfl _ _ 40 rfl w1.heap.size 3 i0 (.int .i64 0) 1 8 Tryz.underlying40 hi hz0 hz1 hz2 rfl (by decide) _ _ _ rfl (hown.alloc _) ⟨_, 0, none⟩ 1 1 _ rfl rfl (cell_one_new _ _ _) (by intro u hu; simp at hu; subst hu; rfl) h63 hkb (hbase _) ?_; intro v5 w5 hown5 hgrow5 _; obtain ⟨g5, cp5, rfl⟩ := owns_more hown5))
          have hb5 : Below w1.heap.size w1 w5 := (hbel.alloc hbel.size _).grown hgrow5 (hbase _) (owns_block hown)
          refine ⟨⟨k + 1, hlt, by first | rfl | simp, ?_, hb5⟩, by simp [intOf]; omega⟩
          show World.ownsRow _ _ _ _ _ _ _
          rw [HAh.out, List.length_append, ← HL.out]
          rw [show ivals (aheadTo l k ++ [(k : Int)]) = ivals (aheadTo l k) ++ [.int .i64 (k : Int)] by simp [ivals]]
          exact hown5
        | false =>
          have HAh := (show Hid _ from HNo.out hb)
          rw [hb] at hlk
          clear HY HNo hb
          have HO2 : Hid (wr.ownsRow w1.heap.size 3 1 (.slice aao L aac) L (ivals (aheadTo l k))) := hown
          go_wp2_with (go_at_call 50; refine (hlk _).mono ?_; rintro e w3 ⟨rfl, rfl⟩)
          refine ⟨⟨k + 1, hlt, by first | rfl | simp, ?_, hbel⟩, by simp [intOf]; omega⟩
          show World.ownsRow _ _ _ _ _ _ _
          rw [HAh.out, ← HL.out]
          exact HO2.out
      · have hkn : k = n := by omega
        subst hkn
        obtain ⟨L, hL⟩ : ∃ L, L = (aheadTo l k).length := ⟨_, rfl⟩
        have HL : Hid (L = (aheadTo l k).length) := hL
        rw [← hL] at hlen hown ⊢
        clear hL HA HOw
        have HO2 : Hid (wr.ownsRow w1.heap.size 3 1 (.slice aao L aac) L (ivals (aheadTo l k))) := hown
        clear hown
        go_wp2_with fail
        go_ret2
        refine ⟨_, rfl, hbw, ?_⟩
        rw [HLd.out, ← HL.out]
        exact owns_mono HO2.out hs1
  · obtain ⟨ao, cap, rfl, _⟩ := hV
    have HLd : Hid (ahL props l = []) := by show _ = _; unfold ahL; rw [if_neg hz]
    generalize lcode props l = x at *
    go_enter Tryz.func30, Tryz.ntmps30
    go_wp2_with (go_at_call 43; refine hff.mono ?_; rintro e w1 ⟨rfl, hb1⟩)
    go_ret2
    exact ⟨_, rfl, hb1, by rw [HLd.out]; exact World.ownsRow_nil _ _ _ _⟩
end Go.Proofs.YtihmcoikgkacoaaGreatDoor

/-
  The contracts of the document's own behindVar, StateCount.
-/
namespace Go.Proofs.YtihmcoikgkacoaaGreatDoor
open Go.ChangeShapes Go.WideShapes Go.ChangeAt Go.RowKit Go.Deep
open Terms Tm

set_option maxHeartbeats 1600000 in
theorem behindVar_any (va : Value) (ro : Option Addr) (rn rc : Nat) (l : List Vr) (a : Nat) (w : World) (hok : VarsOk l) (ha : a ≤ l.length) (hV : VarsV w va l) :
    Calls Tryz.prog 45 #[.agg #[va, .slice ro rn rc], .int .i64 ((a : Int) - 1)] w fun e w' => e = .returned (.int .i64 (segP l a)) ∧ Below w.heap.size w w' := by
  obtain ⟨ao, cap, rfl⟩ := hV.shape
  have HV : Hid (VarsV w (.slice ao l.length cap) l) := hV
  have HOK : Hid (VarsOk l) := hok
  have h6 := hok.1
  unfold segP
  obtain ⟨n, hn⟩ : ∃ n, n = l.length := ⟨_, rfl⟩
  have HN : Hid (n = l.length) := hn
  rw [← hn] at h6 ha HV ⊢
  clear hV hn hok
  have hA : Below w.heap.size w (w.alloc (.cells #[.slice ao n cap, .slice ro rn rc] 25)) := (Below.refl _ _).alloc (Nat.le_refl _) _
  go_enter Tryz.func45, Tryz.ntmps45
  go_wp2
  go_loopw [5, 6] (fun st i wr => ∃ c : Nat, a + c ≤ n ∧ i = .int .i64 ((a + c : Nat) : Int) ∧ st = .int .i64 (prodSeg l a c) ∧ ∃ d, wr = (w.alloc (.cells #[.slice ao n cap, .slice ro rn rc] 25)).drewN d) (fun _ i _ => n - (intOf i).toNat)
  case atStart => exact ⟨0, by omega, by first | rfl | (congr 1; omega) | go_num, rfl, 0, rfl⟩
  case round =>
    obtain ⟨c, hc, rfl, rfl, d, rfl⟩ := hrel
    by_cases hlt : a + c < n
    · obtain ⟨b, off, rfl, hblt, hat⟩ := HV.out.at (i := a + c) (by rw [← HN.out]; exact hlt)
      obtain ⟨c0, c1, c2, c3⟩ := hat.below hA hblt
      have hpb1 := prodSeg_pos HOK.out (a := a) (c := c) (by rw [← HN.out]; exact hc)
      have hpb2 := prodSeg_le HOK.out (a := a) (c := c) (by rw [← HN.out]; exact hc)
      have hvb := HOK.out.at (j := a + c) (by rw [← HN.out]; exact hlt)
      have HPr : Hid (prodSeg l a (c + 1) = prodSeg l a c * vspan (l.getD (a + c) vr0)) := rfl
      generalize prodSeg l a c = st at *
      generalize l.getD (a + c) vr0 = x at *
      obtain ⟨s, lo, hi, ini⟩ := x
      simp only [vspan] at c0 c1 c2 c3 HPr hvb
      obtain ⟨hv1, hv2, hv3, hv4, hv5, hv6, hv7⟩ := hvb
      have hm1 : 1 ≤ st * (hi - lo + 1) := by have := Int.mul_le_mul hpb1 hv1 (by omega) (by omega); simpa using this
      have hm2 : st * (hi - lo + 1) ≤ 262144 := by have := Int.mul_le_mul hpb2 hv2 (by omega) (by omega); simpa using this
      obtain ⟨k, hk⟩ : ∃ k, k = a + c := ⟨_, rfl⟩
      have HK : Hid (k = a + c) := hk
      rw [← hk] at hlt c0 c1 c2 c3 ⊢
      clear hat hk
      have hi0 : (0 : Int) ≤ (k : Int) := Int.natCast_nonneg _
      have hi1 : (k : Int) < (n : Int) := by omega
      have hw1 : IntKind.i64.wrap (hi - lo) = hi - lo := wr64 (by omega) (by omega)
      have hw2 : IntKind.i64.wrap (hi - lo + 1) = hi - lo + 1 := wr64 (by omega) (by omega)
      have hw3 : IntKind.i64.wrap (st * (hi - lo + 1)) = st * (hi - lo + 1) := wr64 (by omega) (by omega)
      go_wp2_with fail
      go_quiet (fail)
      go_wp2_with fail
      go_roundw
      case rel => exact ⟨c + 1, by have := HK.out; omega, by have := HK.out; congr 1; omega, by rw [HPr.out], _, rfl⟩
      case measure => simp [intOf]; omega
    · have hce : c = n - a := by omega
      subst hce
      go_wp2_with fail
      go_ret
      exact ⟨rfl, below_drewN hA _⟩
/-- THE CONTRACT OF StateCount. -/
theorem rcount_any (va vr : Value) (m : Mo) (w : World) (hV : ModelV w va vr m) :
    Calls Tryz.prog 20 #[.agg #[va, vr]] w fun e w' => e = .returned (.tuple #[.int .i64 (if mcode m = 0 then prodTo m.vars m.vars.length else 0), .int .i64 (mcode m)]) ∧ Below w.heap.size w w' := by
  have hA : ∀ o, Below w.heap.size w (w.alloc o) := fun o => (Below.refl _ _).alloc (Nat.le_refl _) o
  have hch := fun o => rmodel_any va vr m (w.alloc o) (hV.below (hA o))
  have HV : Hid (ModelV w va vr m) := hV
  obtain ⟨ao, cap, rfl⟩ := hV.1.shape
  obtain ⟨ro, rc, rfl⟩ := hV.2.shape
  clear hV
  by_cases hz : mcode m = 0
  · have hok := mcode_vars hz
    have hcn := (fun w1 (hb : Below w.heap.size w w1) => behindVar_any _ ro m.rules.length rc m.vars 0 w1 hok (Nat.zero_le _) (HV.out.1.below hb))
    rw [segP_zero, show ((0 : Nat) : Int) - 1 = -1 by decide] at hcn
    rw [hz] at hch ⊢
    rw [if_pos rfl]
    generalize prodTo m.vars m.vars.length = N at *
    generalize m.vars.length = n at *
    generalize m.rules.length = rn at *
    clear hz hok HV
    go_enter Tryz.func20, Tryz.ntmps20
    go_wp2_with (first | (go_at_call 44; refine (hch _).mono ?_; rintro e w1 ⟨rfl, hb1⟩; have hcb0 : w1.cell? ⟨w.heap.size, 0, none⟩ = some (.slice ao n cap) := (hb1.cell (p := ⟨w.heap.size, 0, none⟩) (by simp)).trans (by simp [go_sem]); have hcb1 : w1.cell? ⟨w.heap.size, 1, none⟩ = some (.slice ro rn rc) := (hb1.cell (p := ⟨w.heap.size, 1, none⟩) (by simp)).trans (by simp [go_sem]); have hbw := (hA _).trans (hb1.mono (hA _).size)) | (go_at_call 45; refine (hcn _ hbw).mono ?_; rintro e w2 ⟨rfl, hb2⟩))
    go_ret2
    exact ⟨rfl, hbw.trans (hb2.mono hbw.size)⟩
  · rw [if_neg hz]
    generalize mcode m = x at *
    generalize m.vars.length = n at *
    generalize m.rules.length = rn at *
    clear HV
    go_enter Tryz.func20, Tryz.ntmps20
    go_wp2_with (go_at_call 44; refine (hch _).mono ?_; rintro e w1 ⟨rfl, hb1⟩)
    go_ret2
    exact ⟨rfl, (hA _).trans (hb1.mono (hA _).size)⟩
end Go.Proofs.YtihmcoikgkacoaaGreatDoor

/-
  The contract of the document's own CodeOf.
-/
namespace Go.Proofs.YtihmcoikgkacoaaGreatDoor
open Go.ChangeShapes Go.WideShapes Go.ChangeAt Go.RowKit Go.Deep
open Terms Tm

theorem rcode_bad (va vr vv : Value) (m : Mo) (w : World) (hV : ModelV w va vr m) (io : Option Addr) (il ic : Nat) (hv : vv = .slice io il ic) (h : mcode m ≠ 0) :
    Calls Tryz.prog 69 #[.agg #[va, vr], vv] w fun e w' => e = .returned (.tuple #[.int .i64 0, .int .i64 (mcode m)]) ∧ Below w.heap.size w w' := by
  subst hv
  have hA : ∀ o, Below w.heap.size w (w.alloc o) := fun o => (Below.refl _ _).alloc (Nat.le_refl _) o
  have hch := fun o => rmodel_any va vr m (w.alloc o) (hV.below (hA o))
  obtain ⟨ao, cap, rfl⟩ := hV.1.shape
  obtain ⟨ro, rc, rfl⟩ := hV.2.shape
  generalize mcode m = x at *
  generalize m.vars.length = n at *
  generalize m.rules.length = rn at *
  clear hV
  go_enter Tryz.func69, Tryz.ntmps69
  go_wp2_with (go_at_call 44; refine (hch _).mono ?_; rintro e w1 ⟨rfl, hb1⟩)
  go_ret2
  exact ⟨rfl, (hA _).trans (hb1.mono (hA _).size)⟩
theorem rcode_len (va vr vv : Value) (m : Mo) (w : World) (hV : ModelV w va vr m) (io : Option Addr) (il ic : Nat) (hv : vv = .slice io il ic) (h : mcode m = 0) (hl : il ≠ m.vars.length) :
    Calls Tryz.prog 69 #[.agg #[va, vr], vv] w fun e w' => e = .returned (.tuple #[.int .i64 0, .int .i64 9]) ∧ Below w.heap.size w w' := by
  subst hv
  have hA : ∀ o, Below w.heap.size w (w.alloc o) := fun o => (Below.refl _ _).alloc (Nat.le_refl _) o
  have hch := fun o => rmodel_any va vr m (w.alloc o) (hV.below (hA o))
  rw [h] at hch
  obtain ⟨ao, cap, rfl⟩ := hV.1.shape
  obtain ⟨ro, rc, rfl⟩ := hV.2.shape
  generalize m.vars.length = n at *
  generalize m.rules.length = rn at *
  have hne : ((il : Int) == (n : Int)) = false := by rw [beq_eq_false_iff_ne]; omega
  clear hV h
  go_enter Tryz.func69, Tryz.ntmps69
  go_wp2_with (go_at_call 44; refine (hch _).mono ?_; rintro e w1 ⟨rfl, hb1⟩; have hcb : w1.cell? ⟨w.heap.size, 0, none⟩ = some (.slice ao n cap) := (hb1.cell (p := ⟨w.heap.size, 0, none⟩) (by simp)).trans (by simp [go_sem]))
  all_goals first | (exfalso; omega) | go_ret2
  all_goals exact ⟨rfl, (hA _).trans (hb1.mono (hA _).size)⟩

set_option maxHeartbeats 3200000 in
theorem rcode_loop (va vr vv : Value) (m : Mo) (vals : List Int) (w : World) (hV : ModelV w va vr m) (hI : IntsV w vv vals) (h : mcode m = 0) (hlen : vals.length = m.vars.length) :
    Calls Tryz.prog 69 #[.agg #[va, vr], vv] w fun e w' => e = .returned (.tuple #[.int .i64 (cval m vals), .int .i64 (ccode m vals)]) ∧ Below w.heap.size w w' := by
  have hA : ∀ o, Below w.heap.size w (w.alloc o) := fun o => (Below.refl _ _).alloc (Nat.le_refl _) o
  have hch := fun o => rmodel_any va vr m (w.alloc o) (hV.below (hA o))
  rw [h] at hch
  have hok := mcode_vars h
  have HOK : Hid (VarsOk m.vars) := hok
  have h6 := hok.1
  obtain ⟨ao, cap, rfl⟩ := hV.1.shape
  obtain ⟨ro, rc, rfl⟩ := hV.2.shape
  obtain ⟨io, icap, rfl⟩ := hI.shape
  have hbv := (fun w1 (hb : Below w.heap.size w w1) a (ha : a ≤ m.vars.length) => behindVar_any (.slice ao m.vars.length cap) ro m.rules.length rc m.vars a w1 hok ha (hV.1.below hb))
  have HBV := (show Hid _ from hbv)
  have HV : Hid (VarsV w (.slice ao m.vars.length cap) m.vars) := hV.1
  have HI : Hid (IntsV w (.slice io vals.length icap) vals) := hI
  have HYes : Hid ((∀ i, i < m.vars.length → inB m.vars vals i) → ccode m vals = 0 ∧ cval m vals = sumTo m.vars vals m.vars.length) := fun hin => by
    have h1 := ccode_yes h ⟨hlen, hin⟩
    exact ⟨h1, by unfold cval; rw [if_pos h1, sum_all]⟩
  have HNo : Hid (∀ k, k < m.vars.length → ¬ inB m.vars vals k → ccode m vals = 9 ∧ cval m vals = 0) := fun k hk hin => by
    have h1 := ccode_no h (vals := vals) (fun h => hin (h.2 k hk))
    exact ⟨h1, by unfold cval; rw [h1, if_neg (by decide)]⟩
  have HLen : Hid (vals.length = m.vars.length) := hlen
  obtain ⟨n, hn⟩ : ∃ n, n = m.vars.length := ⟨_, rfl⟩
  have HN : Hid (n = m.vars.length) := hn
  rw [hlen] at HI ⊢
  rw [← hn] at h6 hch HBV HV HI HYes HNo ⊢
  generalize m.rules.length = rn at *
  generalize ccode m vals = cc at *
  generalize cval m vals = cv at *
  clear hV hI hbv hlen hn hok h
  go_enter Tryz.func69, Tryz.ntmps69
  go_wp2_with (go_at_call 44; refine (hch _).mono ?_; rintro e w1 ⟨rfl, hb1⟩; have hcb : w1.cell? ⟨w.heap.size, 0, none⟩ = some (.slice ao n cap) := (hb1.cell (p := ⟨w.heap.size, 0, none⟩) (by simp)).trans (by simp [go_sem]))
  have hb1' : Below (w.heap.size + 1) (w.alloc (.cells #[.slice ao n cap, .slice ro rn rc] 25)) w1 := hb1.mono (by simp)
  clear hch hcb hb1
  go_loopw [7, 8] (fun st i wr => ∃ k : Nat, k ≤ n ∧ i = .int .i64 k ∧ st = .int .i64 (sumTo m.vars vals k) ∧ Hid (∀ i, i < k → inB m.vars vals i) ∧ Below (w.heap.size + 1) (w.alloc (.cells #[.slice ao n cap, .slice ro rn rc] 25)) wr) (fun _ i _ => n - (intOf i).toNat)
  case atStart => exact ⟨0, Nat.zero_le _, rfl, rfl, fun j hj => by omega, hb1'⟩
  case round =>
    obtain ⟨k, hk, rfl, rfl, HJ, hbelB⟩ := hrel
    clear hb1'
    have hbel := (hA _).trans (hbelB.mono (Nat.le_succ _))
    have hszb : w.heap.size + 1 ≤ wr.heap.size := by have := hbelB.size; simp at this; omega
    have hlb : w.heap.size < wr.heap.size := by omega
    have cb := (hbelB.cell (p := ⟨w.heap.size, 0, none⟩) (by simp)).trans (show _ = some (.slice ao n cap) by simp [go_sem])
    have cb1 := (hbelB.cell (p := ⟨w.heap.size, 1, none⟩) (by simp)).trans (show _ = some (.slice ro rn rc) by simp [go_sem])
    by_cases hlt : k < n
    · obtain ⟨b, off, rfl, hblt, hat⟩ := HV.out.at (i := k) (by rw [← HN.out]; exact hlt)
      obtain ⟨ib, ioff, rfl, hilt, hic⟩ := HI.out.at (i := k) (by rw [HLen.out, ← HN.out]; exact hlt)
      obtain ⟨c0, c1, c2, c3⟩ := hat.below hbel hblt
      have hic2 := (hbel.cell (p := ⟨ib, ioff + k, none⟩) hilt).trans hic
      have HNk := (show Hid _ from HNo.out k hlt)
      unfold inB at HNk
      have hsb := sum_bounds HOK.out (k := k) (by rw [← HN.out]; exact hk) HJ.out
      have hgb := segP_bounds HOK.out (i := k + 1) (by rw [← HN.out]; exact hlt)
      have hvb := HOK.out.at (j := k) (by rw [← HN.out]; exact hlt)
      have HPr : Hid (sumTo m.vars vals (k + 1) = sumTo m.vars vals k + (vals.getD k 0 - (m.vars.getD k vr0).lo) * segP m.vars (k + 1)) := rfl
      have HJ3 : Hid ((m.vars.getD k vr0).lo ≤ vals.getD k 0 ∧ vals.getD k 0 ≤ (m.vars.getD k vr0).hi → ∀ i, i < k + 1 → inB m.vars vals i) := fun h i hi => by
        by_cases hik : i = k
        · subst hik; exact h
        · exact HJ.out i (by omega)
      have hbvk := (fun w1 hb => HBV.out w1 hb (k + 1) (by omega))
      rw [show ((k + 1 : Nat) : Int) - 1 = (k : Int) by omega] at hbvk
      generalize sumTo m.vars vals k = st at *
      generalize segP m.vars (k + 1) = sg at *
      generalize m.vars.getD k vr0 = x at *
      generalize vals.getD k 0 = y at *
      obtain ⟨s, lo, hi, ini⟩ := x
      simp only [vspan] at c0 c1 c2 c3 HNk HJ3 HPr hvb
      obtain ⟨hv1, hv2, hv3, hv4, hv5, hv6, hv7⟩ := hvb
      clear hat hic HJ
      have hi0 : (0 : Int) ≤ (k : Int) := Int.natCast_nonneg _
      have hi1 : (k : Int) < (n : Int) := by omega
      have hin0 := fun w => in_any y lo hi w
      have hbo : b < wr.heap.size := by omega
      have hio : ib < wr.heap.size := by omega
      by_cases hin : lo ≤ y ∧ y ≤ hi
      · rw [decide_eq_true hin] at hin0
        have HJ4 := (show Hid _ from HJ3.out hin)
        obtain ⟨hy1, hy2⟩ := hin
        have hm1 : 0 ≤ (y - lo) * sg := Int.mul_nonneg (by omega) (by omega)
        have hm2 : (y - lo) * sg ≤ 262144 := by
          have := Int.mul_le_mul (show y - lo ≤ 64 by omega) hgb.2 (by omega) (by omega); simpa using this
        have hw1 : IntKind.i64.wrap (y - lo) = y - lo := wr64 (by omega) (by omega)
        have hw2 : IntKind.i64.wrap ((y - lo) * sg) = (y - lo) * sg := wr64 (by omega) (by omega)
        have hw3 : IntKind.i64.wrap (st + (y - lo) * sg) = st + (y - lo) * sg := wr64 (by omega) (by omega)
        clear HJ3 HNk HNo HYes HBV
        go_wp2_with fail
        go_quiet ((go_at_call 22; exact Calls.quiet_of_same (hin0 _)))
        go_wp2_with fail
        have hB0 : Below wr.heap.size wr (wr.drewN nq) := below_drewN (Below.refl _ _) _
        have hbvk2 := fun w2 (hb2 : Below wr.heap.size wr w2) => hbvk w2 (hbel.trans (hb2.mono hbel.size))
        have hS0 : ∀ w', Below wr.heap.size wr w' → w'.cell? ⟨w.heap.size, 0, none⟩ = some (.slice (some ⟨b, off, none⟩) n cap) ∧ w'.cell? ⟨w.heap.size, 1, none⟩ = some (.slice ro rn rc) ∧ w'.cell? ⟨b, off + k * 4 + 1, none⟩ = some (.int .i64 lo) ∧ w'.cell? ⟨ib, ioff + k, none⟩ = some (.int .i64 y) := fun w' hw' =>
          ⟨(hw'.cell (p := ⟨w.heap.size, 0, none⟩) hlb).trans cb, (hw'.cell (p := ⟨w.heap.size, 1, none⟩) hlb).trans cb1, (hw'.cell (p := ⟨b, off + k * 4 + 1, none⟩) hbo).trans c1, (hw'.cell (p := ⟨ib, ioff + k, none⟩) hio).trans hic2⟩
        clear hbvk cb cb1 c0 c1 c2 c3 hic2
        go_region_held3 (fun w' => w'.cell? ⟨w.heap.size, 0, none⟩ = some (.slice (some ⟨b, off, none⟩) n cap) ∧ w'.cell? ⟨w.heap.size, 1, none⟩ = some (.slice ro rn rc) ∧ w'.cell? ⟨b, off + k * 4 + 1, none⟩ = some (.int .i64 lo) ∧ w'.cell? ⟨ib, ioff + k, none⟩ = some (.int .i64 y))
          (exact hS0 _ (by first | exact hB0 | exact hB0.drew | exact hB0.drew.trans (hb2.mono (by simp))))
          (first | (go_at_call 45; refine (hbvk2 _ hB0.drew).mono ?_; rintro e w2 ⟨rfl, hb2⟩))
        go_wp2_with fail
        go_roundw
        case rel => exact ⟨k + 1, hlt, by go_num, by rw [HPr.out], HJ4, hbelB.trans ((hB0.drew.trans (hb2.mono (by simp))).mono hszb)⟩
        case measure => simp [intOf]; omega
      · rw [decide_eq_false hin] at hin0
        have HR := (show Hid _ from HNk.out hin)
        clear hin HJ3 HNk HNo HYes HBV hbvk
        go_wp2_with fail
        go_quiet ((go_at_call 22; exact Calls.quiet_of_same (hin0 _)))
        go_wp2_with fail
        go_ret2
        rw [HR.out.1, HR.out.2]
        exact ⟨rfl, below_drewN hbel _⟩
    · have hkn : k = n := by omega
      subst hkn
      have HR := (show Hid _ from HYes.out HJ.out)
      generalize sumTo m.vars vals k = cd at *
      clear HJ HYes HNo HBV
      go_wp2
      go_ret2
      rw [HR.out.1, HR.out.2]
      exact ⟨rfl, hbel⟩

/-- THE CONTRACT OF CodeOf. -/
theorem rcodes_any (va vr vv : Value) (m : Mo) (vals : List Int) (w : World) (hV : ModelV w va vr m) (hI : IntsV w vv vals) :
    Calls Tryz.prog 69 #[.agg #[va, vr], vv] w fun e w' => e = .returned (.tuple #[.int .i64 (cval m vals), .int .i64 (ccode m vals)]) ∧ Below w.heap.size w w' := by
  obtain ⟨io, ic, hv⟩ := hI.shape
  by_cases h : mcode m = 0
  · by_cases hl : vals.length = m.vars.length
    · exact rcode_loop va vr vv m vals w hV hI h hl
    · have h9 := ccode_no h (vals := vals) (fun h => hl h.1)
      unfold cval
      rw [h9, if_neg (by decide)]
      exact rcode_len va vr vv m w hV io _ ic hv h hl
  · have h9 := ccode_bad (vals := vals) h
    unfold cval
    rw [h9, if_neg h]
    exact rcode_bad va vr vv m w hV io _ ic hv h
end Go.Proofs.YtihmcoikgkacoaaGreatDoor

/-
  The contract of the document's own FirstCode.
-/
namespace Go.Proofs.YtihmcoikgkacoaaGreatDoor
open Go.ChangeShapes Go.WideShapes Go.ChangeAt Go.RowKit Go.Deep
open Terms Tm

theorem ivals_inits {l : List Vr} {k : Nat} (h : k < l.length) : ivals (initsL (l.take (k + 1))) = ivals (initsL (l.take k)) ++ [.int .i64 (l.getD k vr0).ini] := by
  rw [List.take_succ_eq_append_getElem h, List.getD_eq_getElem?_getD, List.getElem?_eq_getElem h]
  simp only [ivals, initsL, List.map_append, List.map_cons, List.map_nil, Option.getD_some]

set_option maxHeartbeats 1600000 in
/-- THE CONTRACT OF FirstCode. -/
theorem rfirst_any (va vr : Value) (m : Mo) (w : World) (hz : m.vars.length * 40 ≤ 140737488355328) (hV : ModelV w va vr m) :
    Calls Tryz.prog 56 #[.agg #[va, vr]] w fun e w' => e = .returned (.tuple #[.int .i64 (if mcode m = 0 then codeTo m.vars (initsL m.vars) m.vars.length else 0), .int .i64 (mcode m)]) ∧ Below w.heap.size w w' := by
  have hres : ccode m (initsL m.vars) = mcode m ∧ cval m (initsL m.vars) = if mcode m = 0 then codeTo m.vars (initsL m.vars) m.vars.length else 0 := by
    by_cases h : mcode m = 0
    · have h1 := ccode_yes h (vals := initsL m.vars) ⟨by simp [initsL], inits_in (mcode_vars h)⟩
      refine ⟨by rw [h1, h], ?_⟩
      unfold cval
      rw [h1, if_pos rfl, if_pos h]
    · have h1 := ccode_bad (vals := initsL m.vars) h
      refine ⟨h1, ?_⟩
      unfold cval
      rw [h1, if_neg h]
  have hcf := (fun vv w1 (hb : Below w.heap.size w w1) (hI : IntsV w1 vv (initsL m.vars)) => rcodes_any va vr vv m (initsL m.vars) w1 (hV.below hb) hI)
  rw [hres.1, hres.2] at hcf
  have HCF := (show Hid _ from hcf)
  have HV : Hid (VarsV w va m.vars) := hV.1
  obtain ⟨ao, cap, rfl⟩ := hV.1.shape
  obtain ⟨ro, rc, rfl⟩ := hV.2.shape
  generalize (if mcode m = 0 then codeTo m.vars (initsL m.vars) m.vars.length else 0) = res at *
  generalize mcode m = x at *
  obtain ⟨n, hn⟩ : ∃ n, n = m.vars.length := ⟨_, rfl⟩
  have HN : Hid (n = m.vars.length) := hn
  rw [← hn] at hz HCF HV ⊢
  generalize m.rules.length = rn at *
  obtain ⟨i0, hi, hz0, hz1, hz2⟩ := info_parts infoInt
  clear hV hn hcf hres
  have hA : Below w.heap.size w (w.alloc (.cells #[.slice ao n cap, .slice ro rn rc] 25)) := (Below.refl _ _).alloc (Nat.le_refl _) _
  go_enter Tryz.func56, Tryz.ntmps56
  go_wp2
  go_loopw [4, 5] (fun vv i wr => ∃ k : Nat, k ≤ n ∧ i = .int .i64 k ∧ Hid (wr.ownsRow (w.heap.size + 1) 3 1 vv k (ivals (initsL (m.vars.take k)))) ∧ Below (w.heap.size + 1) (w.alloc (.cells #[.slice ao n cap, .slice ro rn rc] 25)) wr) (fun _ i _ => n - (intOf i).toNat)
  case atStart => exact ⟨0, Nat.zero_le _, rfl, World.ownsRow_nil _ _ _ _, Below.refl _ _⟩
  case round =>
    obtain ⟨k, hk, rfl, HOwn, hbelB⟩ := hrel
    have hbel := hA.trans (hbelB.mono (Nat.le_succ _))
    have hszb : w.heap.size + 1 ≤ wr.heap.size := by have := hbelB.size; simp at this; omega
    have hlb : w.heap.size < wr.heap.size := by omega
    have cb := (hbelB.cell (p := ⟨w.heap.size, 0, none⟩) (by simp)).trans (show _ = some (.slice ao n cap) by simp [go_sem])
    have cb1 := (hbelB.cell (p := ⟨w.heap.size, 1, none⟩) (by simp)).trans (show _ = some (.slice ro rn rc) by simp [go_sem])
    by_cases hlt : k < n
    · obtain ⟨b, off, rfl, hblt, hat⟩ := HV.out.at (i := k) (by rw [← HN.out]; exact hlt)
      obtain ⟨c0, c1, c2, c3⟩ := hat.below hbel hblt
      have HSn := (show Hid _ from ivals_inits (l := m.vars) (k := k) (by rw [← HN.out]; exact hlt))
      generalize m.vars.getD k vr0 = x at *
      obtain ⟨s, lo, hi', ini⟩ := x
      simp only at c0 c1 c2 c3 HSn
      have hown := HOwn.out
      have hnb := hown.lt
      have hown2 := fun o => hown.alloc o
      have h63 : k + 1 ≤ maxLen := by unfold maxLen; omega
      have hkb : (k + 1) * 8 ≤ 140737488355328 := by omega
      have hbase : ∀ o, w.heap.size + 1 ≤ (wr.alloc o).heap.size := fun o => by simp; omega
      clear hat hown
      go_wp2_with (at_builtin; refine wpList_append_own _ rfl (.tmp 15) (.tmp 22) 40 rfl (w.heap.size + 1) 3 i0 (.int .i64 0) 1 8 Tryz.underlying40 hi hz0 hz1 hz2 rfl (by decide) _ k _ rfl (hown2 _) ⟨wr.heap.size, 0, none⟩ 1 1 [.int .i64 ini] rfl rfl (cell_one_new _ _ _) (by intro u hu; simp at hu; subst hu; rfl) h63 hkb (hbase _) ?_)
      intro v' w4 hown' hgrow _
      have hb4 : Below (w.heap.size + 1) (w.alloc (.cells #[.slice (some ⟨b, off, none⟩) n cap, .slice ro rn rc] 25)) w4 := (hbelB.alloc hszb _).grown hgrow (by simp; omega) (fun q hq => (hnb q hq).1)
      have HO4 : Hid (w4.ownsRow (w.heap.size + 1) 3 1 v' (k + 1) (ivals (initsL (m.vars.take (k + 1))))) := by
        show World.ownsRow _ _ _ _ _ _ _
        rw [HSn.out]
        exact hown'
      clear hown' hgrow hown2
      go_wp2
      go_roundw
      case rel => exact ⟨k + 1, hlt, by go_num, HO4, hb4⟩
      case measure => simp [intOf]; omega
    · have hkn : k = n := by omega
      subst hkn
      have hown := HOwn.out
      obtain ⟨vo, vc, rfl⟩ := owns_slice hown
      have hI : IntsV wr (.slice vo k vc) (initsL m.vars) := by
        rw [List.take_of_length_le (by rw [← HN.out]; omega)] at hown
        exact intsV_of_owns (by rw [show (initsL m.vars).length = k by simp [initsL, HN.out]]; exact hown)
      have hcf := HCF.out _ wr hbel hI
      clear hI hown HOwn HCF
      go_wp2_with (go_at_call 69; refine hcf.mono ?_; rintro e w2 ⟨rfl, hb2⟩)
      go_ret2
      exact ⟨rfl, hbel.trans (hb2.mono hbel.size)⟩
end Go.Proofs.YtihmcoikgkacoaaGreatDoor

/-
  The contract of the document's own worked.
-/
namespace Go.Proofs.YtihmcoikgkacoaaGreatDoor
open Go.ChangeShapes Go.WideShapes Go.ChangeAt Go.RowKit Go.Deep
open Terms Tm

def wkN (r : Option Int) : Int := match r with
  | some x => x
  | none => 0
def wkC (r : Option Int) : Int := match r with
  | some _ => 0
  | none => 8

/-- what the row of the parts' values is, when those from k on are in it. -/
def RowF (t : Tm) (env : List Int) (base np : Nat) (vao : Option Addr) (wr : World) (k : Nat) : Prop :=
  np = 0 ∨ ∃ g, vao = some ⟨g, 0, none⟩ ∧ base ≤ g ∧ g < wr.heap.size ∧ (∀ j, j < np → wr.frozen? ⟨g, j, none⟩ = false ∧ ∃ u, wr.cell? ⟨g, j, none⟩ = some u) ∧ (∀ j, k ≤ j → j < np → ∃ x, (t.kids.getD j t).eval env = some x ∧ wr.cell? ⟨g, j, none⟩ = some (.int .i64 x))
theorem RowF.later {t : Tm} {env : List Int} {base np k : Nat} {vao : Option Addr} {w w' : World} (h : RowF t env base np vao w k) (hb : Below w.heap.size w w') : RowF t env base np vao w' k := by
  rcases h with h | ⟨g, h1, h2, h3, h4, h5⟩
  · exact .inl h
  · refine .inr ⟨g, h1, h2, Nat.lt_of_lt_of_le h3 hb.size, fun j hj => ?_, fun j hk hj => ?_⟩
    · obtain ⟨f, u, c⟩ := h4 j hj
      exact ⟨(hb.frozen (p := ⟨g, j, none⟩) h3).trans f, u, (hb.cell (p := ⟨g, j, none⟩) h3).trans c⟩
    · obtain ⟨x, e, c⟩ := h5 j hk hj
      exact ⟨x, e, (hb.cell (p := ⟨g, j, none⟩) h3).trans c⟩
theorem RowF.store {t : Tm} {env : List Int} {base np k g : Nat} {x : Int} {w : World} (h : RowF t env base np (some ⟨g, 0, none⟩) w (k + 1)) (hk : k < np) (hx : (t.kids.getD k t).eval env = some x) : RowF t env base np (some ⟨g, 0, none⟩) (w.setCell ⟨g, k, none⟩ (.int .i64 x)) k := by
  rcases h with h | ⟨g', h1, h2, h3, h4, h5⟩
  · omega
  · obtain rfl : g = g' := by simpa using h1
    refine .inr ⟨g, rfl, h2, by simpa using h3, fun j hj => ?_, fun j hkj hj => ?_⟩
    · obtain ⟨f, u, c⟩ := h4 j hj
      refine ⟨by simpa [go_sem] using f, ?_⟩
      by_cases hjk : j = k
      · subst hjk; exact ⟨.int .i64 x, by simp [go_sem, c]⟩
      · exact ⟨u, by rw [← c]; exact World.cell?_setCell_other _ _ _ _ (by intro h; injection h with _ h2; omega)⟩
    · by_cases hjk : j = k
      · subst hjk
        obtain ⟨f, u, c⟩ := h4 j hj
        exact ⟨x, hx, by simp [go_sem, c]⟩
      · obtain ⟨y, e, c⟩ := h5 j (by omega) hj
        exact ⟨y, e, by rw [← c]; exact World.cell?_setCell_other _ _ _ _ (by intro h; injection h with _ h2; omega)⟩

theorem wrE {x : Int} (h1 : -9223372036854775808 ≤ x) (h2 : x ≤ 9223372036854775807) : IntKind.i64.wrap x = x := by
  rw [IntWalk.i64_left]
  exact IntWalk.wrap64_in x ⟨h1, h2⟩
theorem mul_big {x y : Int} (hx : -1000000 ≤ x ∧ x ≤ 1000000) (hy : -1000000 ≤ y ∧ y ≤ 1000000) : -1000000000000 ≤ x * y ∧ x * y ≤ 1000000000000 := by
  have h : (x * y).natAbs ≤ 1000000000000 := by
    rw [Int.natAbs_mul]
    exact Nat.mul_le_mul (show x.natAbs ≤ 1000000 by omega) (show y.natAbs ≤ 1000000 by omega)
  omega
theorem IntsV.atE {w : World} {ao : Option Addr} {cap n : Nat} {l : List Int} (h : IntsV w (.slice ao n cap) l) {i : Nat} (hi : i < l.length) : ∃ b off, ao = some ⟨b, off, none⟩ ∧ b < w.heap.size ∧ w.cell? ⟨b, off + i, none⟩ = some (.int .i64 (l.getD i 0)) := by
  obtain ⟨ao', cap', h1, h3⟩ := h
  injection h1 with e1 e2 e3
  subst e1
  obtain ⟨b, off, e, hb, hh⟩ := h3 (by intro h; subst h; simp at hi)
  exact ⟨b, off, e, hb, hh i hi⟩
theorem eval_kid_none {t : Tm} {env : List Int} {k : Nat} (hk : k < t.kids.length) (h : (t.kids.getD k t).eval env = none) : t.eval env = none := by
  cases t with
  | leaf a b => simp [kids] at hk
  | un a b s =>
    have : k = 0 := by simp [kids] at hk; exact hk
    subst this
    simp only [kids, List.getD_cons_zero] at h
    simp [eval, h]
  | bi a b s u =>
    have hk2 : k = 0 ∨ k = 1 := by simp [kids] at hk; omega
    rcases hk2 with rfl | rfl
    · simp only [kids, List.getD_cons_zero] at h
      simp [eval, h]
    · simp only [kids, List.getD_cons_succ, List.getD_cons_zero] at h
      cases hs : s.eval env <;> simp [eval, h, hs]

set_option maxHeartbeats 1600000 in
set_option maxRecDepth 20000 in
theorem worked_any (eao : Option Addr) (ecap en : Nat) (env : List Int) (hev : Hid (EnvOk env)) (hen : Hid (env.length = en)) (d : Nat) : ∀ (t : Tm) (v : Value) (w : World), t.size ≤ d → t.size ≤ 60 → t.Good en → t.typed = true → OpsV w v t.ops → IntsV w (.slice eao en ecap) env →
    Calls Tryz.prog 68 #[v, .slice eao en ecap] w fun e w' => e = .returned (.tuple #[.int .i64 (wkN (t.eval env)), .int .i64 (wkC (t.eval env))]) ∧ Below w.heap.size w w' := by
  induction d with
  | zero => intro t v w hd; have := t.size_pos; omega
  | succ d ih =>
    intro t v w hd h60 hg hty hV hE
    have hsp := splitOf_any v t.ops w hV
    rw [splitL_tree hg.wf h60, tree_code hg.wf h60] at hsp
    obtain ⟨i0, hi, hz0, hz1, hz2⟩ := info_parts infoInt
    have HV : Hid (OpsV w v t.ops) := hV
    have HE : Hid (IntsV w (.slice eao en ecap) env) := hE
    have HGT : Hid (t.Good en ∧ t.typed = true) := ⟨hg, hty⟩
    obtain ⟨va, vn, vc, hvs⟩ : ∃ a n c, v = .slice a n c := by obtain ⟨a, c, rfl, _⟩ := hV; exact ⟨_, _, _, rfl⟩
    subst hvs
    have hk2 := t.kids_le
    have HS : Hid (∀ i, i < t.kids.length → (t.kids.getD i t).size ≤ d ∧ (t.kids.getD i t).size ≤ 60 ∧ (t.kids.getD i t).Good en ∧ (t.kids.getD i t).typed = true) := fun i hi => by
      have := t.kid_at hi
      exact ⟨by omega, by omega, hg.kid hi, ((typed_kids t).1 hty i hi).2⟩
    obtain ⟨np, hnp⟩ : ∃ np, np = t.kids.length := ⟨_, rfl⟩
    have HNP : Hid (np = t.kids.length) := hnp
    rw [← hnp] at hk2
    obtain ⟨res, hres⟩ : ∃ res, t.eval env = res := ⟨_, rfl⟩
    rw [hres]
    have HRS : Hid (t.eval env = res) := hres
    clear hV hE hnp hres hg hty
    go_enter Tryz.func68, Tryz.ntmps68
    go_wp2_with (go_at_call 88; refine hsp.mono ?_; rintro e w1 ⟨tv, rfl, hb1, ht⟩; obtain ⟨tao, tcap, htv, htat⟩ := ht; rw [List.length_map, ← HNP.out] at htv; subst htv)
    have HT := (show Hid _ from htat)
    clear htat hsp
    go_loopw [8, 9] (fun vv c wr => ∃ i : Nat, i ≤ np ∧ c = .int .i64 i ∧ wr.ownsRow w1.heap.size 3 1 vv i (List.replicate i (.int .i64 0)) ∧ Below w1.heap.size w1 wr) (fun _ c _ => np - (intOf c).toNat)
    case atStart => exact ⟨0, Nat.zero_le _, rfl, World.ownsRow_nil _ _ _ _, Below.refl _ _⟩
    case round =>
      obtain ⟨i, hile, rfl, hown, hbel⟩ := hrel
      by_cases hlt : i < np
      · have hsz := hbel.size
        go_wp2_with (at_builtin; refine wpList_append_own _ rfl (.tmp 26) (.tmp 27) 40 rfl w1.heap.size 3 i0 (.int .i64 0) 1 8 Tryz.underlying40 hi hz0 hz1 hz2 rfl (by decide) _ _ _ rfl (hown.alloc _) ⟨_, 0, none⟩ 1 1 [.int .i64 0] rfl rfl (cell_one_new _ _ _) ?c2 ?c3 ?c4 ?c5 ?_)
        case c2 => intro u hu; simp at hu; subst hu; rfl
        case c3 => unfold maxLen; omega
        case c4 => omega
        case c5 => simp; omega
        intro v' w4 hown' hgrow _
        have hb4 : Below w1.heap.size w1 w4 := (hbel.alloc (by omega) _).grown hgrow (by simp; omega) (fun q hq => (hown.lt q hq).1)
        have ho4 : w4.ownsRow w1.heap.size 3 1 v' (i + 1) (List.replicate (i + 1) (.int .i64 0)) := by
          rw [List.replicate_succ']; exact hown'
        clear hown' hgrow hown
        go_wp2
        go_roundw
        case rel => exact ⟨i + 1, by omega, by go_num, ho4, hb4⟩
        case measure => simp [intOf]; omega
      · have hin : i = np := by omega
        subst hin
        clear hlt hile
        generalize wr = wo at *
        go_wp2_with fail
        obtain ⟨vao, vcap, rfl⟩ := owns_slice hown
        have HR0 : Hid (RowF t env w1.heap.size i vao wo i) := by
          show RowF _ _ _ _ _ _ _
          rcases hown.2 with ⟨h1, h2⟩ | ⟨g, cap, cur, h1, h2, h3, h4⟩
          · exact .inl h2
          · injection h1 with e1 e2 e3
            refine .inr ⟨g, e1, h2, (Array.getElem?_eq_some_iff.1 h3).1, fun j hj => ⟨by simp [World.frozen?, h3], ?_⟩, fun j hkj hj => by omega⟩
            exact ⟨.int .i64 0, by rw [e1, e3] at hown; rw [hown.cellAt j (by omega)]; simp [hj]⟩
        have HBo : Hid (Below w1.heap.size w1 wo) := hbel
        clear hown hbel
        go_loopw [10] (fun c wr => ∃ k : Nat, k ≤ i ∧ c = .int .i64 ((k : Int) - 1) ∧ Below w1.heap.size w1 wr ∧ Hid (RowF t env w1.heap.size i vao wr k)) (fun c _ => ((intOf c) + 1).toNat)
        case atStart => exact ⟨i, Nat.le_refl _, by go_num, HBo.out, HR0.out⟩
        case round =>
          obtain ⟨k, hki, rfl, hbel, HR⟩ := hrel
          by_cases hk : 0 < k
          · obtain ⟨k, rfl⟩ : ∃ k', k = k' + 1 := ⟨k - 1, by omega⟩
            rw [show (((k + 1 : Nat) : Int) - 1) = (k : Int) by omega]
            have hltk : k < t.kids.length := by rw [← HNP.out]; omega
            obtain ⟨tb, toff, rfl, hbl, hcs⟩ := HT.out (by intro h; have := congrArg List.length h; rw [List.length_map] at this; simp at this; rw [this] at hltk; simp at hltk)
            obtain ⟨u, hu, hou⟩ := hcs k (by rw [List.length_map]; exact hltk)
            have hgd : (t.kids.map ops).getD k [] = (t.kids.getD k t).ops := by
              rw [List.getD_eq_getElem?_getD, List.getElem?_map, List.getD_eq_getElem?_getD, List.getElem?_eq_getElem hltk]
              rfl
            rw [hgd] at hou
            obtain ⟨hs1, hs2, hs3, hs4⟩ := HS.out k hltk
            have hbw := hb1.trans (hbel.mono hb1.size)
            have hrec := ih (t.kids.getD k t) u wr hs1 hs2 hs3 hs4 (hou.below hbel) (HE.out.below hbw)
            clear ih
            have hcu := (hbel.cell (p := ⟨tb, toff + k, none⟩) hbl).trans hu
            obtain ⟨ua, un, uc, hus⟩ : ∃ a n c, u = .slice a n c := by obtain ⟨a, c, rfl, _⟩ := hou; exact ⟨_, _, _, rfl⟩
            subst hus
            have HBw : Hid (Below w.heap.size w wr) := hbw
            have HBe : Hid (Below w1.heap.size w1 wr) := hbel
            cases hx : (t.kids.getD k t).eval env with
            | none =>
              rw [hx] at hrec
              have HX : Hid (res = none) := by
                show _ = _
                rw [← HRS.out]
                exact eval_kid_none hltk hx
              simp only [wkN, wkC] at hrec
              clear hgd hou hu hcs hs1 hs2 hs3 hs4 hx hbel hbw
              go_wp2_with (go_at_call 68; refine hrec.mono ?_; rintro e w2 ⟨rfl, hb2⟩)
              go_ret2
              rw [HX.out]
              exact ⟨rfl, HBw.out.trans (hb2.mono HBw.out.size)⟩
            | some x =>
              rw [hx] at hrec
              simp only [wkN, wkC] at hrec
              obtain ⟨g, rfl, hg1, hg2, hg3, _⟩ := HR.out.resolve_left (by omega)
              have HX : Hid ((t.kids.getD k t).eval env = some x) := hx
              have HFZ := (show Hid _ from hg3 k (by omega))
              clear hgd hou hu hcs hs1 hs2 hs3 hs4 hx hbel hbw hg3
              go_wp2_with (go_at_call 68; refine hrec.mono ?_; rintro e w2 ⟨rfl, hb2⟩; obtain ⟨hf0, u0, hc0⟩ := HFZ.out; have hf2 := (hb2.frozen (p := ⟨g, k, none⟩) hg2).trans hf0; have hc2 := (hb2.cell (p := ⟨g, k, none⟩) hg2).trans hc0)
              go_roundw
              case rel => exact ⟨k, by omega, by go_num, (HBe.out.trans (hb2.mono HBe.out.size)).setCell (p := ⟨g, k, none⟩) hg1 _, RowF.store (HR.out.later hb2) (by omega) HX.out⟩
              case measure => simp [intOf]
          · have hk0 : k = 0 := by omega
            subst hk0
            have hbw := hb1.trans (hbel.mono hb1.size)
            obtain ⟨bo, bcap, hbe, _, hbh⟩ := HV.out
            obtain ⟨b, off, rfl, hblt, hbat⟩ := hbh t.ops_ne
            injection hbe with e1 e2 e3
            subst e1 e2 e3
            have hhd := hbat 0 (by rw [ops_length]; exact t.size_pos)
            rw [t.ops_head] at hhd
            simp only [Nat.zero_mul, Nat.add_zero] at hhd
            have c0 := (hbw.cell (p := ⟨b, off, none⟩) hblt).trans hhd.1
            have c1 := (hbw.cell (p := ⟨b, off + 1, none⟩) hblt).trans hhd.2
            have hln : 0 < t.ops.length := by rw [ops_length]; exact t.size_pos
            generalize hol : t.ops.length = ol at *
            have HHE : Hid (IntsV wr (.slice eao en ecap) env) := HE.out.below hbw
            have hrow := HR.out
            clear hbat hbh hol hhd HV HT HS HR HR0 HBo ih hk hki
            cases t with
            | leaf k v =>
              have hi0 : i = 0 := HNP.out
              subst hi0
              simp only [kind, val] at c0 c1
              have HRv : Hid (res = some (if k = 1 then v else if k = 2 then env.getD v.toNat 0 else if k = 11 then 1 else 0)) := HRS.out.symm
              have hgd : (k = 1 ∧ -1000 ≤ v ∧ v ≤ 1000) ∨ (k = 2 ∧ 0 ≤ v ∧ v ≤ (en : Int) - 1) ∨ ((k = 11 ∨ k = 12) ∧ v = 0) := HGT.out.1
              clear HRS HGT HNP hrow
              rcases hgd with ⟨rfl, hv1, hv2⟩ | ⟨rfl, hv1, hv2⟩ | ⟨rfl | rfl, rfl⟩
              · have hin := fun w => in_any v (-1000000) 1000000 w
                rw [decide_eq_true (show -1000000 ≤ v ∧ v ≤ 1000000 by omega)] at hin
                go_wp2_with (go_at_call 22; refine (hin _).mono ?_; rintro e w2 ⟨rfl, rfl⟩)
                go_ret2
                rw [HRv.out]
                exact ⟨rfl, hbw⟩
              · obtain ⟨j, rfl⟩ : ∃ j : Nat, v = (j : Int) := ⟨v.toNat, by omega⟩
                have hj : j < env.length := by rw [hen.out]; omega
                obtain ⟨eb, eoff, hea, _, hec⟩ := (show IntsV wr (.slice eao en ecap) env from HHE.out) |> fun h => IntsV.atE h hj
                subst hea
                have hb := hev.out j hj
                have HEV : Hid (res = some (env.getD j 0)) := by show _ = _; rw [HRv.out]; simp
                generalize env.getD j 0 = y at *
                have hin := fun w => in_any y (-1000000) 1000000 w
                rw [decide_eq_true hb] at hin
                have hj0 : (0 : Int) ≤ (j : Int) := Int.natCast_nonneg _
                have hj1 : (j : Int) < (en : Int) := by omega
                clear HRv HHE
                go_wp2_with (go_at_call 22; refine (hin _).mono ?_; rintro e w2 ⟨rfl, rfl⟩)
                go_ret2
                rw [HEV.out]
                exact ⟨rfl, hbw⟩
              · have hin := fun w => in_any 1 (-1000000) 1000000 w
                rw [decide_eq_true (by omega)] at hin
                go_wp2_with (go_at_call 22; refine (hin _).mono ?_; rintro e w2 ⟨rfl, rfl⟩)
                go_ret2
                rw [HRv.out]
                exact ⟨rfl, hbw⟩
              · have hin := fun w => in_any 0 (-1000000) 1000000 w
                rw [decide_eq_true (by omega)] at hin
                go_wp2_with (go_at_call 22; refine (hin _).mono ?_; rintro e w2 ⟨rfl, rfl⟩)
                go_ret2
                rw [HRv.out]
                exact ⟨rfl, hbw⟩
            | un k v a =>
              have hi0 : i = 1 := HNP.out
              subst hi0
              obtain ⟨g, rfl, hg1, hg2, _, hg4⟩ := hrow.resolve_left (by omega)
              obtain ⟨x, hx, cx⟩ := hg4 0 (Nat.le_refl _) (by omega)
              simp only [kids, List.getD_cons_zero] at hx
              obtain ⟨hgk, hgv, hga⟩ := HGT.out.1
              have hty := HGT.out.2
              simp only [typed, Bool.and_eq_true, beq_iff_eq] at hty
              subst hgk hgv
              have hxx := (eval_le hev.out hen.out hga hty.2 x hx).2 (by rw [hty.1]; rfl)
              have HRv : Hid (res = some (1 - x)) := by show _ = _; rw [← HRS.out]; simp [eval, hx]
              simp only [kind, val] at c0 c1
              clear HRS HGT HNP hrow hg4 hx hga hty HHE
              rcases hxx with rfl | rfl
              · have hin := fun w => in_any 1 (-1000000) 1000000 w
                rw [decide_eq_true (by omega)] at hin
                go_wp2_with (go_at_call 22; refine (hin _).mono ?_; rintro e w2 ⟨rfl, rfl⟩)
                go_ret2
                rw [HRv.out]
                exact ⟨rfl, hbw⟩
              · have hin := fun w => in_any 0 (-1000000) 1000000 w
                rw [decide_eq_true (by omega)] at hin
                go_wp2_with (go_at_call 22; refine (hin _).mono ?_; rintro e w2 ⟨rfl, rfl⟩)
                go_ret2
                rw [HRv.out]
                exact ⟨rfl, hbw⟩
            | bi k v a a' =>
              have hi0 : i = 2 := HNP.out
              subst hi0
              obtain ⟨g, rfl, hg1, hg2, _, hg4⟩ := hrow.resolve_left (by omega)
              obtain ⟨x, hx, cx⟩ := hg4 0 (Nat.zero_le _) (by omega)
              obtain ⟨y, hy, cy⟩ := hg4 1 (Nat.zero_le _) (by omega)
              simp only [kids, List.getD_cons_zero, List.getD_cons_succ] at hx hy
              obtain ⟨hk3, hk9, hgv, hga, hga'⟩ := HGT.out.1
              have hty := HGT.out.2
              simp only [typed, Bool.and_eq_true, beq_iff_eq] at hty
              subst hgv
              have hxb := eval_le hev.out hen.out hga hty.1.2 x hx
              have hyb := eval_le hev.out hen.out hga' hty.2.2 y hy
              rw [hty.1.1] at hxb
              rw [hty.2.1] at hyb
              have HRv : Hid (res = lid (bin k x y)) := by show _ = _; rw [← HRS.out]; simp [eval, hx, hy]
              simp only [kind, val] at c0 c1
              obtain ⟨⟨hx1, hx2⟩, hxt⟩ := hxb
              obtain ⟨⟨hy1, hy2⟩, hyt⟩ := hyb
              clear HRS HGT HNP hrow hg4 hx hy hga hga' hty HHE
              have hm1 : -1000000000000 ≤ x * y ∧ x * y ≤ 1000000000000 := mul_big ⟨hx1, hx2⟩ ⟨hy1, hy2⟩
              have hkk : k = 3 ∨ k = 4 ∨ k = 5 ∨ k = 6 ∨ k = 7 ∨ k = 8 ∨ k = 9 := by omega
              rcases hkk with rfl | rfl | rfl | rfl | rfl | rfl | rfl
              · have hw : IntKind.i64.wrap (x + y) = x + y := wrE (by omega) (by omega)
                have hbn : bin 3 x y = x + y := rfl
                rw [hbn] at HRv
                have hin := fun w => in_any (x + y) (-1000000) 1000000 w
                by_cases hr : -1000000 ≤ x + y ∧ x + y ≤ 1000000
                · rw [decide_eq_true hr] at hin
                  have HR2 : Hid (res = some (x + y)) := by show _ = _; rw [HRv.out]; unfold lid; rw [if_pos hr]
                  clear HRv hbn
                  go_wp2_with fail
                  go_quiet (fail)
                  go_wp2_with (go_at_call 22; refine (hin _).mono ?_; rintro e w2 ⟨rfl, rfl⟩)
                  go_ret2
                  rw [HR2.out]
                  exact ⟨rfl, below_drewN hbw _⟩
                · rw [decide_eq_false hr] at hin
                  have HR2 : Hid (res = none) := by show _ = _; rw [HRv.out]; unfold lid; rw [if_neg hr]
                  clear HRv hbn hr
                  go_wp2_with fail
                  go_quiet (fail)
                  go_wp2_with (go_at_call 22; refine (hin _).mono ?_; rintro e w2 ⟨rfl, rfl⟩)
                  go_ret2
                  rw [HR2.out]
                  exact ⟨rfl, below_drewN hbw _⟩
              · have hw : IntKind.i64.wrap (x - y) = x - y := wrE (by omega) (by omega)
                have hbn : bin 4 x y = x - y := rfl
                rw [hbn] at HRv
                have hin := fun w => in_any (x - y) (-1000000) 1000000 w
                by_cases hr : -1000000 ≤ x - y ∧ x - y ≤ 1000000
                · rw [decide_eq_true hr] at hin
                  have HR2 : Hid (res = some (x - y)) := by show _ = _; rw [HRv.out]; unfold lid; rw [if_pos hr]
                  clear HRv hbn
                  go_wp2_with fail
                  go_quiet (fail)
                  go_wp2_with (go_at_call 22; refine (hin _).mono ?_; rintro e w2 ⟨rfl, rfl⟩)
                  go_ret2
                  rw [HR2.out]
                  exact ⟨rfl, below_drewN hbw _⟩
                · rw [decide_eq_false hr] at hin
                  have HR2 : Hid (res = none) := by show _ = _; rw [HRv.out]; unfold lid; rw [if_neg hr]
                  clear HRv hbn hr
                  go_wp2_with fail
                  go_quiet (fail)
                  go_wp2_with (go_at_call 22; refine (hin _).mono ?_; rintro e w2 ⟨rfl, rfl⟩)
                  go_ret2
                  rw [HR2.out]
                  exact ⟨rfl, below_drewN hbw _⟩
              · have hw : IntKind.i64.wrap (x * y) = x * y := wrE (by omega) (by omega)
                have hbn : bin 5 x y = x * y := rfl
                rw [hbn] at HRv
                have hin := fun w => in_any (x * y) (-1000000) 1000000 w
                by_cases hr : -1000000 ≤ x * y ∧ x * y ≤ 1000000
                · rw [decide_eq_true hr] at hin
                  have HR2 : Hid (res = some (x * y)) := by show _ = _; rw [HRv.out]; unfold lid; rw [if_pos hr]
                  clear HRv hbn
                  go_wp2_with fail
                  go_quiet (fail)
                  go_wp2_with (go_at_call 22; refine (hin _).mono ?_; rintro e w2 ⟨rfl, rfl⟩)
                  go_ret2
                  rw [HR2.out]
                  exact ⟨rfl, below_drewN hbw _⟩
                · rw [decide_eq_false hr] at hin
                  have HR2 : Hid (res = none) := by show _ = _; rw [HRv.out]; unfold lid; rw [if_neg hr]
                  clear HRv hbn hr
                  go_wp2_with fail
                  go_quiet (fail)
                  go_wp2_with (go_at_call 22; refine (hin _).mono ?_; rintro e w2 ⟨rfl, rfl⟩)
                  go_ret2
                  rw [HR2.out]
                  exact ⟨rfl, below_drewN hbw _⟩
              · have hbn : bin 6 x y = if x = y then 1 else 0 := rfl
                rw [hbn] at HRv
                by_cases hc : x = y
                · have hin := fun w => in_any 1 (-1000000) 1000000 w
                  rw [decide_eq_true (by omega)] at hin
                  have HR2 : Hid (res = some 1) := by show _ = _; rw [HRv.out, if_pos hc]; rfl
                  clear HRv hbn
                  subst hc
                  go_wp2_with fail
                  go_quiet (fail)
                  go_wp2_with (go_at_call 22; refine (hin _).mono ?_; rintro e w2 ⟨rfl, rfl⟩)
                  go_ret2
                  rw [HR2.out]
                  exact ⟨rfl, below_drewN hbw _⟩
                · have hin := fun w => in_any 0 (-1000000) 1000000 w
                  rw [decide_eq_true (by omega)] at hin
                  have HR2 : Hid (res = some 0) := by show _ = _; rw [HRv.out, if_neg hc]; rfl
                  have hne : (x == y) = false := by simpa using hc
                  clear HRv hbn
                  go_wp2_with fail
                  go_quiet (fail)
                  go_wp2_with (go_at_call 22; refine (hin _).mono ?_; rintro e w2 ⟨rfl, rfl⟩)
                  go_ret2
                  rw [HR2.out]
                  exact ⟨rfl, below_drewN hbw _⟩
              · have hbn : bin 7 x y = if x < y then 1 else 0 := rfl
                rw [hbn] at HRv
                by_cases hc : x < y
                · have hin := fun w => in_any 1 (-1000000) 1000000 w
                  rw [decide_eq_true (by omega)] at hin
                  have HR2 : Hid (res = some 1) := by show _ = _; rw [HRv.out, if_pos hc]; rfl
                  clear HRv hbn
                  skip
                  go_wp2_with fail
                  go_quiet (fail)
                  go_wp2_with (go_at_call 22; refine (hin _).mono ?_; rintro e w2 ⟨rfl, rfl⟩)
                  go_ret2
                  rw [HR2.out]
                  exact ⟨rfl, below_drewN hbw _⟩
                · have hin := fun w => in_any 0 (-1000000) 1000000 w
                  rw [decide_eq_true (by omega)] at hin
                  have HR2 : Hid (res = some 0) := by show _ = _; rw [HRv.out, if_neg hc]; rfl
                  skip
                  clear HRv hbn
                  go_wp2_with fail
                  go_quiet (fail)
                  go_wp2_with (go_at_call 22; refine (hin _).mono ?_; rintro e w2 ⟨rfl, rfl⟩)
                  go_ret2
                  rw [HR2.out]
                  exact ⟨rfl, below_drewN hbw _⟩
              · have hxx := hxt rfl
                have hyy := hyt rfl
                rcases hxx with rfl | rfl <;> rcases hyy with rfl | rfl
                · have hin := fun w => in_any 0 (-1000000) 1000000 w
                  rw [decide_eq_true (by omega)] at hin
                  have HR2 : Hid (res = some 0) := by show _ = _; rw [HRv.out]; rfl
                  clear HRv
                  go_wp2_with (go_at_call 22; refine (hin _).mono ?_; rintro e w2 ⟨rfl, rfl⟩)
                  go_ret2
                  rw [HR2.out]
                  exact ⟨rfl, hbw⟩
                · have hin := fun w => in_any 0 (-1000000) 1000000 w
                  rw [decide_eq_true (by omega)] at hin
                  have HR2 : Hid (res = some 0) := by show _ = _; rw [HRv.out]; rfl
                  clear HRv
                  go_wp2_with (go_at_call 22; refine (hin _).mono ?_; rintro e w2 ⟨rfl, rfl⟩)
                  go_ret2
                  rw [HR2.out]
                  exact ⟨rfl, hbw⟩
                · have hin := fun w => in_any 0 (-1000000) 1000000 w
                  rw [decide_eq_true (by omega)] at hin
                  have HR2 : Hid (res = some 0) := by show _ = _; rw [HRv.out]; rfl
                  clear HRv
                  go_wp2_with (go_at_call 22; refine (hin _).mono ?_; rintro e w2 ⟨rfl, rfl⟩)
                  go_ret2
                  rw [HR2.out]
                  exact ⟨rfl, hbw⟩
                · have hin := fun w => in_any 1 (-1000000) 1000000 w
                  rw [decide_eq_true (by omega)] at hin
                  have HR2 : Hid (res = some 1) := by show _ = _; rw [HRv.out]; rfl
                  clear HRv
                  go_wp2_with (go_at_call 22; refine (hin _).mono ?_; rintro e w2 ⟨rfl, rfl⟩)
                  go_ret2
                  rw [HR2.out]
                  exact ⟨rfl, hbw⟩
              · have hxx := hxt rfl
                have hyy := hyt rfl
                rcases hxx with rfl | rfl <;> rcases hyy with rfl | rfl
                · have hin := fun w => in_any 0 (-1000000) 1000000 w
                  rw [decide_eq_true (by omega)] at hin
                  have HR2 : Hid (res = some 0) := by show _ = _; rw [HRv.out]; rfl
                  clear HRv
                  go_wp2_with (go_at_call 22; refine (hin _).mono ?_; rintro e w2 ⟨rfl, rfl⟩)
                  go_ret2
                  rw [HR2.out]
                  exact ⟨rfl, hbw⟩
                · have hin := fun w => in_any 1 (-1000000) 1000000 w
                  rw [decide_eq_true (by omega)] at hin
                  have HR2 : Hid (res = some 1) := by show _ = _; rw [HRv.out]; rfl
                  clear HRv
                  go_wp2_with (go_at_call 22; refine (hin _).mono ?_; rintro e w2 ⟨rfl, rfl⟩)
                  go_ret2
                  rw [HR2.out]
                  exact ⟨rfl, hbw⟩
                · have hin := fun w => in_any 1 (-1000000) 1000000 w
                  rw [decide_eq_true (by omega)] at hin
                  have HR2 : Hid (res = some 1) := by show _ = _; rw [HRv.out]; rfl
                  clear HRv
                  go_wp2_with (go_at_call 22; refine (hin _).mono ?_; rintro e w2 ⟨rfl, rfl⟩)
                  go_ret2
                  rw [HR2.out]
                  exact ⟨rfl, hbw⟩
                · have hin := fun w => in_any 1 (-1000000) 1000000 w
                  rw [decide_eq_true (by omega)] at hin
                  have HR2 : Hid (res = some 1) := by show _ = _; rw [HRv.out]; rfl
                  clear HRv
                  go_wp2_with (go_at_call 22; refine (hin _).mono ?_; rintro e w2 ⟨rfl, rfl⟩)
                  go_ret2
                  rw [HR2.out]
                  exact ⟨rfl, hbw⟩
end Go.Proofs.YtihmcoikgkacoaaGreatDoor

/-
  The contract of the document's own Evaluated.
-/
namespace Go.Proofs.YtihmcoikgkacoaaGreatDoor
open Go.ChangeShapes Go.WideShapes Go.ChangeAt Go.RowKit Go.Deep
open Terms Tm

set_option maxHeartbeats 1600000 in
/-- THE CONTRACT OF Evaluated. -/
theorem evaluated_any (v ev : Value) (l : List (Int × Int)) (env : List Int) (t : Tm) (w : World) (hV : OpsV w v l) (hE : IntsV w ev env) (ht : endsCode (l.map Prod.fst) = 0 → t.Wf ∧ t.ops = l) :
    Calls Tryz.prog 47 #[v, ev] w fun e w' => e = .returned (.tuple #[.int .i64 (evalN l t env), .int .i64 (evalC l t env)]) ∧ Below w.heap.size w w' := by
  have hch := exprChecked_any v l env.length t w hV ht
  obtain ⟨va, vc, rfl⟩ : ∃ ao cap, v = .slice ao l.length cap := by obtain ⟨ao, cap, h, _⟩ := hV; exact ⟨ao, cap, h⟩
  obtain ⟨eao, ecap, rfl⟩ : ∃ ao cap, ev = .slice ao env.length cap := by obtain ⟨ao, cap, h, _⟩ := hE; exact ⟨ao, cap, h⟩
  by_cases hx : xcode env.length l t = 0
  · obtain ⟨h0, h6, hops, hg, htt, h60⟩ := xcode_zero hx ht
    have HWK : Hid (EnvOk env → ∀ w1, Below w.heap.size w w1 → Calls Tryz.prog 68 #[.slice va l.length vc, .slice eao env.length ecap] w1 fun e w' => e = .returned (.tuple #[.int .i64 (wkN (t.eval env)), .int .i64 (wkC (t.eval env))]) ∧ Below w1.heap.size w1 w') :=
      fun hok w1 hb => worked_any eao ecap env.length env hok rfl _ t _ w1 (Nat.le_refl _) h60 hg htt (by rw [hops]; exact hV.below hb) (hE.below hb)
    have HE : Hid (IntsV w (.slice eao env.length ecap) env) := hE
    have HBad : Hid (envBad env = true → evalN l t env = 0 ∧ evalC l t env = 2) := fun h => by
      unfold evalN evalC
      simp [hx, h]
    have HOk : Hid (envBad env = false → evalN l t env = wkN (t.eval env) ∧ evalC l t env = wkC (t.eval env)) := fun h => by
      unfold evalN evalC wkN wkC
      simp only [hx, h]
      cases t.eval env <;> simp
    rw [hx] at hch
    generalize (decide ((0 : Int) = 0) && mkT t.kind) = bb at hch
    generalize evalN l t env = rn at *
    generalize evalC l t env = rc at *
    generalize wkN (t.eval env) = kn at *
    generalize wkC (t.eval env) = kc at *
    obtain ⟨n, hn⟩ : ∃ n, n = env.length := ⟨_, rfl⟩
    have HN : Hid (n = env.length) := hn
    rw [← hn] at h6 hch HWK HE ⊢
    generalize l.length = ln at *
    clear hV hE ht hx hops hg htt h60 h0 hn
    go_enter Tryz.func47, Tryz.ntmps47
    go_wp2_with (go_at_call 67; refine hch.mono ?_; rintro e w1 ⟨rfl, hb1⟩)
    go_loopw [8] (fun i wr => ∃ k : Nat, k ≤ n ∧ i = .int .i64 k ∧ Hid (∀ j, j < k → -1000000 ≤ env.getD j 0 ∧ env.getD j 0 ≤ 1000000) ∧ wr = w1) (fun i _ => n - (intOf i).toNat)
    case atStart => exact ⟨0, Nat.zero_le _, rfl, fun j hj => by omega, rfl⟩
    case round =>
      obtain ⟨k, hk, rfl, HJ, rfl⟩ := hrel
      by_cases hlt : k < n
      · obtain ⟨b, off, rfl, hblt, hc⟩ := IntsV.atE HE.out (i := k) (by rw [← HN.out]; exact hlt)
        have hc2 := (hb1.cell (p := ⟨b, off + k, none⟩) hblt).trans hc
        have HBk : Hid (¬ (-1000000 ≤ env.getD k 0 ∧ env.getD k 0 ≤ 1000000) → rn = 0 ∧ rc = 2) := fun h => HBad.out (envBad_at (by rw [← HN.out]; exact hlt) h)
        have HJ2 : Hid (-1000000 ≤ env.getD k 0 ∧ env.getD k 0 ≤ 1000000 → ∀ j, j < k + 1 → -1000000 ≤ env.getD j 0 ∧ env.getD j 0 ≤ 1000000) := fun h j hj => by
          by_cases hjk : j = k
          · subst hjk; exact h
          · exact HJ.out j (by omega)
        generalize env.getD k 0 = y at *
        have hin := fun w => in_any y (-1000000) 1000000 w
        clear hc HJ HWK hch
        by_cases hr : -1000000 ≤ y ∧ y ≤ 1000000
        · rw [decide_eq_true hr] at hin
          have HJ3 := (show Hid _ from HJ2.out hr)
          clear HJ2 HBk hr
          go_wp2_with (go_at_call 22; refine (hin _).mono ?_; rintro e w2 ⟨rfl, rfl⟩)
          go_roundw
          case rel => exact ⟨k + 1, hlt, by go_num, HJ3, by first | rfl | trivial⟩
          case measure => simp [intOf]; omega
        · rw [decide_eq_false hr] at hin
          have HR := (show Hid _ from HBk.out hr)
          clear HJ2 HBk hr
          go_wp2_with (go_at_call 22; refine (hin _).mono ?_; rintro e w2 ⟨rfl, rfl⟩)
          go_ret2
          rw [HR.out.1, HR.out.2]
          exact ⟨rfl, hb1⟩
      · have hok : ∀ i, i < env.length → -1000000 ≤ env.getD i 0 ∧ env.getD i 0 ≤ 1000000 := fun i hi => HJ.out i (by have := HN.out; omega)
        have HR := (show Hid _ from HOk.out (envBad_ok hok))
        have hwk := HWK.out hok _ hb1
        clear HJ HWK HOk HBad hok hch
        go_wp2_with (go_at_call 68; refine hwk.mono ?_; rintro e w2 ⟨rfl, hb2⟩)
        go_ret2
        rw [HR.out.1, HR.out.2]
        exact ⟨rfl, hb1.trans (hb2.mono hb1.size)⟩
  · have h1 : evalN l t env = 0 ∧ evalC l t env = xcode env.length l t := by
      unfold evalN evalC
      simp [hx]
    rw [h1.1, h1.2]
    generalize xcode env.length l t = x at *
    rw [show (decide (x = 0) && mkT t.kind) = false by simp [hx]] at hch
    generalize env.length = n at *
    generalize l.length = ln at *
    clear hV hE ht h1
    go_enter Tryz.func47, Tryz.ntmps47
    go_wp2_with (go_at_call 67; refine hch.mono ?_; rintro e w1 ⟨rfl, hb1⟩)
    go_ret2
    exact ⟨rfl, hb1⟩
end Go.Proofs.YtihmcoikgkacoaaGreatDoor
