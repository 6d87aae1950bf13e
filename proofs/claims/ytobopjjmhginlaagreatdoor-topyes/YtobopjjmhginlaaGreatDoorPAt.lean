import Derived.Test.YtobopjjmhginlaaGreatDoorPChg
import Derived.Test.YtobopjjmhginlaaGreatDoorExKey
namespace Go.Proofs.YtobopjjmhginlaaGreatDoor
open Go.ChangeShapes Go.WideShapes Go.ChangeAt Go.RowKit Go.Deep Go.Maps
open Terms Tm
set_option maxHeartbeats 6400000
set_option maxRecDepth 20000
def atB (sv nv tv : Value) (init many : Int) (lm : Nat) : Obj := .cells #[sv, .int .i64 init, nv, tv, .int .i64 many, .map (some lm)] 83 (0, 0)
def LsAt (w : World) (base : Nat) (nv tv : Value) (N : List (List Int)) : Prop :=
  ∃ us : List Value, w.ownsRow base 37 1 nv N.length us /\ us.length = N.length /\ ∀ i, i < N.length -> ∃ ao c, us.getD i (.slice none 0 0) = .slice ao (N.getD i []).length c /\ IntsV w (.slice ao (N.getD i []).length c) (N.getD i []) /\ RowTy w (.slice ao (N.getD i []).length c) 3 /\ ∀ a, ao = some a -> tv.ownBlock ≠ some a.block /\ base <= a.block
structure AtX (w : World) (base A lm : Nat) (S : List (Int × Int)) (N : List (List Int)) (T : List Int) (init many : Int) (sv nv tv : Value) : Prop where
  box : w.heap[A]? = some (atB sv nv tv init many lm)
  bA : base <= A
  bl : base <= lm
  lies : LiesAt w lm S
  sp : SpO w base sv S
  nx : LsAt w base nv tv N
  st : w.ownsRow base 3 1 tv T.length (ivals T)
section
variable {w w' : World} {base A lm : Nat} {S : List (Int × Int)} {N : List (List Int)} {T : List Int} {init many : Int} {sv nv tv : Value}
theorem LsAt.chg {Z : Nat -> Prop} (h : LsAt w base nv tv N) (hs : Chg Z w w') (h1 : ∀ i, Z i -> nv.ownBlock ≠ some i /\ ∀ ao : Option Addr, ∀ a, ao = some a -> i = a.block -> tv.ownBlock ≠ some i -> ¬ TyB w i 3) : LsAt w' base nv tv N := by
  obtain ⟨us, h2, h3, h4⟩ := h; refine ⟨us, owns_chg h2 hs (fun g e z => (h1 g z).1 e), h3, fun i hi => ?_⟩
  obtain ⟨ao, c, e1, e2, e3, e4⟩ := h4 i hi; have hz : ∀ a, ao = some a -> ¬ Z a.block := fun a e z => (h1 _ z).2 ao a e rfl (e4 a e).1 (by subst e; exact e3.ty)
  exact ⟨ao, c, e1, e2.chg hs hz, e3.chg hs hz, e4⟩
theorem AtX.ty (h : AtX w base A lm S N T init many sv nv tv) : TyB w A 83 := ⟨_, _, h.box⟩
theorem LiesAt.isMap {b : Nat} (h : LiesAt w b S) : ∃ es c, w.heap[b]? = some (.map es c) := by
  obtain ⟨f, h1, _⟩ := h; exact h1.isMap
theorem LiesAt.lt {b : Nat} (h : LiesAt w b S) : b < w.heap.size := by
  obtain ⟨es, c, h⟩ := h.isMap; exact (Array.getElem?_eq_some_iff.1 h).1
theorem AtX.lt (h : AtX w base A lm S N T init many sv nv tv) : A < w.heap.size := h.ty.lt
theorem AtX.base_le (h : AtX w base A lm S N T init many sv nv tv) : base <= w.heap.size := by have := h.lt; have := h.bA; omega
theorem AtX.chg {Z : Nat -> Prop} (h : AtX w base A lm S N T init many sv nv tv) (hs : Chg Z w w') (hz : ∀ i, Z i -> i ≠ A /\ i ≠ lm /\ ¬ TyB w i 87 /\ ¬ TyB w i 37 /\ ¬ TyB w i 3) : AtX w' base A lm S N T init many sv nv tv := by
  have zA : ¬ Z A := fun z => (hz _ z).1 rfl
  have zl : ¬ Z lm := fun z => (hz _ z).2.1 rfl
  obtain ⟨us, n1, n2, n3⟩ := id h.nx; refine ⟨(hs.block A h.lt zA).trans h.box, h.bA, h.bl, h.lies.kept (hs.block lm h.lies.lt zl), owns_chg h.sp hs (fun g e z => (hz g z).2.2.1 (owns_ty h.sp e).2), h.nx.chg hs fun i z => ⟨fun e => (hz i z).2.2.2.1 (owns_ty n1 e).2, fun _ _ _ _ _ => (hz i z).2.2.2.2⟩, owns_chg h.st hs (fun g e z => (hz g z).2.2.2.2 (owns_ty h.st e).2)⟩
theorem AtX.below (h : AtX w base A lm S N T init many sv nv tv) (hb : Below w.heap.size w w') : AtX w' base A lm S N T init many sv nv tv := h.chg (Chg.of (Z := fun _ => False) hb) fun _ z => z.elim
theorem AtX.sk {bs bl' : Nat} (h : AtX w base A lm S N T init many sv nv tv) (hs : Sk bs bl' w w') (hm : TwoMaps w bs bl') (h1 : lm ≠ bs) (h2 : lm ≠ bl') : AtX w' base A lm S N T init many sv nv tv := by
  obtain ⟨⟨es, c, e1⟩, ⟨es', c', e2⟩⟩ := hm; refine h.chg hs.chg fun i z => ?_
  have hno : ∀ t, ¬ TyB w i t := fun t ht => by
    rcases z with rfl | rfl
    · exact ht.no_map e1
    · exact ht.no_map e2
  refine ⟨fun e => hno _ (e ▸ h.ty), fun e => ?_, hno _, hno _, hno _⟩
  rcases z with rfl | rfl
  · exact h1 e.symm
  · exact h2 e.symm
def atZ (A lm : Nat) (sv : Value) : Nat -> Prop := fun i => i = A \/ i = lm \/ sv.ownBlock = some i
theorem AtX.put {S' : List (Int × Int)} {sv' : Value} (h : AtX w base A lm S N T init many sv nv tv) (hs : Chg (atZ A lm sv) w w') (hbx : w'.heap[A]? = some (atB sv' nv tv init many lm)) (hl : LiesAt w' lm S') (hsp : SpO w' base sv' S') : AtX w' base A lm S' N T init many sv' nv tv := by
  obtain ⟨es, c, em⟩ := h.lies.isMap
  have hno : ∀ i t, atZ A lm sv i -> TyB w i t -> t = 83 \/ t = 87 := fun i t z ht => by
    rcases z with rfl | rfl | e
    · exact .inl (ht.eq h.ty)
    · exact absurd em ht.no_map
    · exact .inr (ht.eq (owns_ty h.sp e).2)
  have hni : ∀ i, atZ A lm sv i -> ¬ TyB w i 3 := fun i z ht => by
    rcases hno i _ z ht with e | e
    · exact absurd e (by decide)
    · exact absurd e (by decide)
  have hnl : ∀ i, atZ A lm sv i -> ¬ TyB w i 37 := fun i z ht => by
    rcases hno i _ z ht with e | e
    · exact absurd e (by decide)
    · exact absurd e (by decide)
  obtain ⟨us, n1, n2, n3⟩ := id h.nx; exact ⟨hbx, h.bA, h.bl, hl, hsp, h.nx.chg hs fun i z => ⟨fun e => hnl i z (owns_ty n1 e).2, fun _ _ _ _ _ => hni i z⟩, owns_chg h.st hs (fun g e z => hni g z (owns_ty h.st e).2)⟩
theorem atB_set0 (w : World) (hb : w.heap[A]? = some (atB sv nv tv init many lm)) (v : Value) : (w.setCell ⟨A, 0, none⟩ v).heap[A]? = some (atB v nv tv init many lm) := by
  unfold atB at *; simp [World.setCell, Array.getElem?_modify, hb]
theorem atB_set2 (w : World) (hb : w.heap[A]? = some (atB sv nv tv init many lm)) (v : Value) : (w.setCell ⟨A, 2, none⟩ v).heap[A]? = some (atB sv v tv init many lm) := by
  unfold atB at *; simp [World.setCell, Array.getElem?_modify, hb]
theorem atB_set3 (w : World) (hb : w.heap[A]? = some (atB sv nv tv init many lm)) (v : Value) : (w.setCell ⟨A, 3, none⟩ v).heap[A]? = some (atB sv nv v init many lm) := by
  unfold atB at *; simp [World.setCell, Array.getElem?_modify, hb]
theorem atB_cells (hb : w.heap[A]? = some (atB sv nv tv init many lm)) : w.cell? ⟨A, 0, none⟩ = some sv /\ w.cell? ⟨A, 1, none⟩ = some (.int .i64 init) /\ w.cell? ⟨A, 2, none⟩ = some nv /\ w.cell? ⟨A, 3, none⟩ = some tv /\ w.cell? ⟨A, 4, none⟩ = some (.int .i64 many) /\ w.cell? ⟨A, 5, none⟩ = some (.map (some lm)) := by
  unfold atB at hb; refine ⟨?_, ?_, ?_, ?_, ?_, ?_⟩ <;> simp [World.cell?, hb]
theorem atB_free (hb : w.heap[A]? = some (atB sv nv tv init many lm)) (i : Nat) : w.frozen? ⟨A, i, none⟩ = false := by
  unfold atB at hb; simp [World.frozen?, hb]
end
end Go.Proofs.YtobopjjmhginlaaGreatDoor
