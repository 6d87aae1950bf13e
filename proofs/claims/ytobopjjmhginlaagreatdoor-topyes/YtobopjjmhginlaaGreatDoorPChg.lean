import Derived.Test.YtobopjjmhginlaaGreatDoorPState
namespace Go.Proofs.YtobopjjmhginlaaGreatDoor
open Go.ChangeShapes Go.WideShapes Go.ChangeAt Go.RowKit Go.Deep Go.Maps
open Terms Tm
set_option maxHeartbeats 6400000
set_option maxRecDepth 20000
structure Chg (Z : Nat -> Prop) (w w' : World) : Prop where
  os : w'.os = w.os
  tape : w'.tape = w.tape
  output : w'.output = w.output
  size : w.heap.size <= w'.heap.size
  block : ∀ i, i < w.heap.size -> ¬ Z i -> w'.heap[i]? = w.heap[i]?
theorem Chg.trans {Z : Nat -> Prop} {a b c : World} (h : Chg Z a b) (k : Chg Z b c) : Chg Z a c :=
  ⟨k.os.trans h.os, k.tape.trans h.tape, k.output.trans h.output, Nat.le_trans h.size k.size, fun i hi hz => (k.block i (Nat.lt_of_lt_of_le hi h.size) hz).trans (h.block i hi hz)⟩
theorem Chg.trans2 {Z Z' : Nat -> Prop} {a b c : World} (h : Chg Z a b) (k : Chg Z' b c) (hz : ∀ i, i < a.heap.size -> Z' i -> Z i) : Chg Z a c :=
  ⟨k.os.trans h.os, k.tape.trans h.tape, k.output.trans h.output, Nat.le_trans h.size k.size, fun i hi hn => (k.block i (Nat.lt_of_lt_of_le hi h.size) (fun h2 => hn (hz i hi h2))).trans (h.block i hi hn)⟩
theorem Chg.weaken {Z Z' : Nat -> Prop} {a b : World} (h : Chg Z a b) (hz : ∀ i, i < a.heap.size -> Z i -> Z' i) : Chg Z' a b :=
  ⟨h.os, h.tape, h.output, h.size, fun i hi hn => h.block i hi (fun h2 => hn (hz i hi h2))⟩
theorem Chg.of {Z : Nat -> Prop} {w w' : World} (h : Below w.heap.size w w') : Chg Z w w' := ⟨h.os, h.tape, h.output, h.size, fun i hi _ => h.block i hi⟩
theorem Chg.grown {w w' : World} {own : Option Nat} (h : w.grownBy w' own) : Chg (fun i => own = some i) w w' :=
  ⟨h.os, h.tape, h.output, h.size, fun i hi hz => h.block i hi (fun e => hz e.symm)⟩
theorem Chg.setCell (w : World) (p : Addr) (v : Value) : Chg (fun i => i = p.block) w (w.setCell p v) :=
  ⟨rfl, rfl, rfl, by simp, fun i _ hz => RowKit.Below.heap_setCell _ _ _ _ hz⟩
theorem Chg.below {Z : Nat -> Prop} {base : Nat} {w w' : World} (h : Chg Z w w') (hz : ∀ i, Z i -> base <= i) (hb : base <= w.heap.size) : Below base w w' :=
  ⟨h.os, h.tape, h.output, h.size, fun i hi => h.block i (by omega) (fun h2 => by have := hz i h2; omega)⟩
theorem Chg.cell {Z : Nat -> Prop} {w w' : World} (h : Chg Z w w') {p : Addr} {v : Value} (hp : w.cell? p = some v) (hz : ¬ Z p.block) : w'.cell? p = some v := by
  rw [World.cell?_of_block (h.block p.block (World.block_lt_of_cell? w p hp) hz)]
  exact hp
theorem Sk.chg {bs bl : Nat} {w w' : World} (h : Sk bs bl w w') : Chg (fun i => i = bs \/ i = bl) w w' :=
  ⟨h.os, h.tape, h.output, h.size, fun i hi hz => h.block i hi (fun e => hz (.inl e)) (fun e => hz (.inr e))⟩
def TyB (w : World) (i : Nat) (t : TypeId) : Prop := ∃ cs fr, w.heap[i]? = some (.cells cs t fr)
theorem TyB.lt {w : World} {i : Nat} {t : TypeId} (h : TyB w i t) : i < w.heap.size := by
  obtain ⟨cs, fr, h⟩ := h; exact (Array.getElem?_eq_some_iff.1 h).1
theorem TyB.eq {w : World} {i : Nat} {t t' : TypeId} (h : TyB w i t) (h' : TyB w i t') : t = t' := by
  obtain ⟨cs, fr, h⟩ := h; obtain ⟨cs', fr', h'⟩ := h'; rw [h] at h'
  injection h' with h'
  injection h' with _ h' _
theorem TyB.no_map {w : World} {i : Nat} {t : TypeId} (h : TyB w i t) {es : Array MapEntry} {c : Nat} : w.heap[i]? ≠ some (.map es c) := by
  obtain ⟨cs, fr, h⟩ := h; rw [h]
  simp
theorem RowTy.ty {w : World} {t : TypeId} {a : Addr} {n c : Nat} (h : RowTy w (.slice (some a) n c) t) : TyB w a.block t := h a n c rfl
theorem IntsV.chg {Z : Nat -> Prop} {w w' : World} {ao : Option Addr} {n c : Nat} {x : List Int} (h : IntsV w (.slice ao n c) x) (hs : Chg Z w w') (hz : ∀ a, ao = some a -> ¬ Z a.block) : IntsV w' (.slice ao n c) x := by
  obtain ⟨ao', cap, e, h⟩ := h
  injection e with e1 e2 e3
  subst e1 e2 e3; refine ⟨ao, c, rfl, fun hne => ?_⟩
  obtain ⟨b, off, rfl, hlt, hat⟩ := h hne; exact ⟨b, off, rfl, Nat.lt_of_lt_of_le hlt hs.size, fun i hi => hs.cell (hat i hi) (hz ⟨b, off, none⟩ rfl)⟩
theorem BoolsV.chg {Z : Nat -> Prop} {w w' : World} {ao : Option Addr} {n c : Nat} {x : List Bool} (h : BoolsV w (.slice ao n c) x) (hs : Chg Z w w') (hz : ∀ a, ao = some a -> ¬ Z a.block) : BoolsV w' (.slice ao n c) x := by
  obtain ⟨ao', cap, e, h⟩ := h
  injection e with e1 e2 e3
  subst e1 e2 e3; refine ⟨ao, c, rfl, fun hne => ?_⟩
  obtain ⟨b, off, rfl, hlt, hat⟩ := h hne; exact ⟨b, off, rfl, Nat.lt_of_lt_of_le hlt hs.size, fun i hi => hs.cell (hat i hi) (hz ⟨b, off, none⟩ rfl)⟩
theorem RowTy.chg {Z : Nat -> Prop} {w w' : World} {ao : Option Addr} {n c : Nat} {t : TypeId} (h : RowTy w (.slice ao n c) t) (hs : Chg Z w w') (hz : ∀ a, ao = some a -> ¬ Z a.block) : RowTy w' (.slice ao n c) t := by
  intro a k c' e
  injection e with e1 e2 e3
  subst e1 e2 e3; obtain ⟨cs, fr, h1⟩ := h a n c rfl; exact ⟨cs, fr, (hs.block _ (Array.getElem?_eq_some_iff.1 h1).1 (hz a rfl)).trans h1⟩
theorem owns_chg {Z : Nat -> Prop} {w w' : World} {base : Nat} {e : TypeId} {s n : Nat} {v : Value} {xs : List Value} (h : w.ownsRow base e s v n xs) (hs : Chg Z w w') (hz : ∀ g, v.ownBlock = some g -> ¬ Z g) : w'.ownsRow base e s v n xs := by
  refine ⟨h.1, ?_⟩
  rcases h.2 with h0 | ⟨g, cap, cur, h1, h2, h3, h4⟩
  · exact .inl h0
  · refine .inr ⟨g, cap, cur, h1, h2, ?_, h4⟩
    rw [hs.block g (Array.getElem?_eq_some_iff.1 h3).1 (hz g (by rw [h1]; simp [Value.ownBlock]))]
    exact h3
theorem owns_ty {w : World} {base : Nat} {e : TypeId} {s n : Nat} {v : Value} {xs : List Value} (h : w.ownsRow base e s v n xs) {g : Nat} (hg : v.ownBlock = some g) : base <= g /\ TyB w g e := by
  rcases h.2 with ⟨h0, _⟩ | ⟨g', cap', cur, h1, h2, h3, _⟩
  · rw [h0] at hg; simp [Value.ownBlock] at hg
  · rw [h1] at hg
    simp [Value.ownBlock] at hg
    subst hg; exact ⟨h2, cur, _, h3⟩
theorem MapIs.chg {Z : Nat -> Prop} {w w' : World} {kt : TypeId} {b n : Nat} {f : Lit -> Option Value} (h : MapIs w kt b n f) (hs : Chg Z w w') (hz : ¬ Z b) : MapIs w' kt b n f := h.kept (hs.block b h.lt hz)
section
variable {Pz : Nat -> Prop} {w0 w w' : World} {B bs bl n : Nat} {va vr pv fv : Value} {m : Mo} {ps : List (List (Int × Int))} {l : List (Int × Int)} {ho : Option Addr} {hc : Nat}
theorem StOk.chg {Z : Nat -> Prop} {code : Int} {v : Value} (h : StOk Pz w m ps l code v) (hs : Chg Z w w') (hz : ∀ i, Z i -> ¬ TyB w i 4 /\ (TyB w i 3 -> ¬ Pz i)) : StOk Pz w' m ps l code v := by
  obtain ⟨lo, lc, no, nc, so, sc, h1, h2, h3, h4, h5, h6, h7, h8, h9⟩ := h; have z1 : ∀ a, lo = some a -> ¬ Z a.block := fun a e z => by subst e; exact (hz _ z).1 h5.ty
  have z2 : ∀ a, no = some a -> ¬ Z a.block := fun a e z => by subst e; exact (hz _ z).2 h6.ty (h8 a rfl)
  have z3 : ∀ a, so = some a -> ¬ Z a.block := fun a e z => by subst e; exact (hz _ z).2 h7.ty (h9 a rfl)
  exact ⟨lo, lc, no, nc, so, sc, h1, h2.chg hs z1, h3.chg hs z2, h4.chg hs z3, h5.chg hs z1, h6.chg hs z2, h7.chg hs z3, h8, h9⟩
theorem SvOk.chg {Z : Nat -> Prop} (h : SvOk Pz w0 w B bs bl n va vr pv fv m ps l ho hc) (hs : Chg Z w w') (hz : ∀ i, Z i -> w0.heap.size <= i /\ i ≠ B /\ i ≠ bs /\ i ≠ bl /\ ¬ TyB w i 4 /\ (TyB w i 3 -> ¬ Pz i)) : SvOk Pz w0 w' B bs bl n va vr pv fv m ps l ho hc := by
  have zB : ¬ Z B := fun z => (hz _ z).2.1 rfl
  have zs : ¬ Z bs := fun z => (hz _ z).2.2.1 rfl
  have zl : ¬ Z bl := fun z => (hz _ z).2.2.2.1 rfl
  have za : ∀ a, ho = some a -> ¬ Z a.block := fun a e z => (hz _ z).2.2.2.2.2 (by have := h.aty; rw [e] at this; exact this.ty) (h.aP a e)
  obtain ⟨f, h1, h2⟩ := h.st; obtain ⟨q, h3, h4⟩ := h.li
  refine ⟨⟨Nat.lt_of_lt_of_le h.box.lt hs.size, hs.cell h.box.c0 zB, hs.cell h.box.c1 zB, hs.cell h.box.c2 zB, hs.cell h.box.c3 zB, hs.cell h.box.c4 zB, hs.cell h.box.c5 zB, hs.cell h.box.c6 zB⟩, h.bel.trans (hs.below (fun i z => (hz i z).1) h.bel.size), h.lo1, h.lo2, h.ne, h.ah.chg hs za, h.aty.chg hs za, fun b hb => h.up b (Nat.le_trans hs.size hb), h.aP, ⟨f, h1.chg hs zs, fun kl v hv => ?_⟩, ⟨q, h3.chg hs zl, h4⟩⟩
  obtain ⟨code, e1, e2, e3⟩ := h2 kl v hv; exact ⟨code, e1, e2, e3.chg hs fun i z => (hz i z).2.2.2.2⟩
theorem StOk.re {Pz' : Nat -> Prop} {code : Int} {v : Value} (h : StOk Pz w m ps l code v) (hp : ∀ b, b < w.heap.size -> Pz b -> Pz' b) : StOk Pz' w m ps l code v := by
  obtain ⟨lo, lc, no, nc, so, sc, h1, h2, h3, h4, h5, h6, h7, h8, h9⟩ := h; exact ⟨lo, lc, no, nc, so, sc, h1, h2, h3, h4, h5, h6, h7, fun a e => by subst e; exact hp _ h6.ty.lt (h8 a rfl), fun a e => by subst e; exact hp _ h7.ty.lt (h9 a rfl)⟩
theorem SvOk.re {Pz' : Nat -> Prop} (h : SvOk Pz w0 w B bs bl n va vr pv fv m ps l ho hc) (hp : ∀ b, b < w.heap.size -> Pz b -> Pz' b) (hup : ∀ b, w.heap.size <= b -> Pz' b) : SvOk Pz' w0 w B bs bl n va vr pv fv m ps l ho hc := by
  obtain ⟨f, h1, h2⟩ := h.st; refine ⟨h.box, h.bel, h.lo1, h.lo2, h.ne, h.ah, h.aty, hup, fun a e => hp _ (by have := h.aty; rw [e] at this; exact this.ty.lt) (h.aP a e), ⟨f, h1, fun kl v hv => ?_⟩, h.li⟩
  obtain ⟨code, e1, e2, e3⟩ := h2 kl v hv; exact ⟨code, e1, e2, e3.re hp⟩
end
end Go.Proofs.YtobopjjmhginlaaGreatDoor
