/-
  Plain mathematics of a loop through a fair part.
-/
import Derived.Test.YtknneajaklcjdaaSWay
namespace Go.Proofs.Ytknneajaklcjdaa
open Go.ChangeShapes Go.WideShapes Go.ChangeAt Go.RowKit Go.Deep
open Terms

theorem andnot_nat0 : ∀ a, a < 64 → ∀ b, b < 64 → decide (bits BinOp.andNot IntKind.i64 ((a : Nat) : Int) ((b : Nat) : Int) = 0) = decide (b ||| a = b) := by decide +kernel
/-- what some places meet. -/
def orL (s : Nat → Nat) (m : Nat) (l : List Nat) : Nat := l.foldl (fun a x => a ||| s x) m
theorem orL_snoc (s : Nat → Nat) (m : Nat) (l : List Nat) (x : Nat) : orL s m (l ++ [x]) = orL s m l ||| s x := by simp [orL]
theorem orL_append (s : Nat → Nat) (m : Nat) (l k : List Nat) : orL s m (l ++ k) = orL s (orL s m l) k := by simp [orL]
theorem orL_bit {s : Nat → Nat} {i : Nat} : ∀ (l : List Nat) (m : Nat), (orL s m l).testBit i = true ↔ m.testBit i = true ∨ ∃ x ∈ l, (s x).testBit i = true
  | [], m => by simp [orL]
  | a :: l, m => by
    have := orL_bit (s := s) (i := i) l (m ||| s a)
    show (orL s (m ||| s a) l).testBit i = true ↔ _
    rw [this, Nat.testBit_or, Bool.or_eq_true]
    constructor
    · rintro ((h | h) | ⟨x, hx, h⟩)
      · exact .inl h
      · exact .inr ⟨a, by simp, h⟩
      · exact .inr ⟨x, by simp [hx], h⟩
    · rintro (h | ⟨x, hx, h⟩)
      · exact .inl (.inl h)
      · rcases List.mem_cons.1 hx with rfl | hx
        · exact .inl (.inr h)
        · exact .inr ⟨x, hx, h⟩
theorem orL_lt {s : Nat → Nat} {k : Nat} : ∀ (l : List Nat) (m : Nat), m < 2 ^ k → (∀ x ∈ l, s x < 2 ^ k) → orL s m l < 2 ^ k
  | [], _, hm, _ => hm
  | a :: l, m, hm, h => orL_lt l (m ||| s a) (Nat.or_lt_two_pow hm (h a (by simp))) (fun x hx => h x (by simp [hx]))
theorem orL_le {s : Nat → Nat} : ∀ (l : List Nat) (m : Nat), m ≤ orL s m l
  | [], _ => Nat.le_refl _
  | a :: l, m => Nat.le_trans Nat.left_le_or (orL_le l (m ||| s a))
theorem orL_grows {s : Nat → Nat} {m x : Nat} {l : List Nat} (hx : x ∈ l) (h : m ||| s x ≠ m) : m < orL s m l := by
  refine Nat.lt_of_le_of_ne (orL_le l m) fun e => h (Nat.eq_of_testBit_eq fun i => ?_)
  rw [Nat.testBit_or]
  cases hm : m.testBit i with
  | true => rfl
  | false =>
    cases hs : (s x).testBit i with
    | false => rfl
    | true =>
      have := (orL_bit (s := s) (i := i) l m).2 (.inr ⟨x, hx, hs⟩)
      rw [← e, hm] at this
      cases this
theorem new_bit {m a i : Nat} (hm : m.testBit i = false) (ha : a.testBit i = true) : m ||| a ≠ m := fun e => by
  have : (m ||| a).testBit i = true := by rw [Nat.testBit_or, ha]; simp
  rw [e, hm] at this
  cases this
theorem Trail.append {nx : Nat → List Nat} : ∀ {a b : List Nat}, Trail nx a → Trail nx b → (a ≠ [] → b ≠ [] → b.getD 0 0 ∈ nx (a.getD (a.length - 1) 0)) → Trail nx (a ++ b)
  | [], _, _, hb, _ => hb
  | [x], [], _, _, _ => trivial
  | [x], y :: b, _, hb, h => ⟨h (by simp) (by simp), hb⟩
  | x :: y :: a, b, ha, hb, h => ⟨ha.1, Trail.append (a := y :: a) ha.2 hb (fun _ hn => by simpa using h (by simp) hn)⟩
theorem Trail.left {nx : Nat → List Nat} : ∀ {a b : List Nat}, Trail nx (a ++ b) → Trail nx a
  | [], _, _ => trivial
  | [_], _, _ => trivial
  | _ :: y :: a, _, h => ⟨h.1, Trail.left (a := y :: a) h.2⟩
/-- inside of a part. -/
def InPart (g : Gr) (f : Nat) (ins : Nat → Bool) : Prop := ∀ x, x < g.spots.length → (ins x = true ↔ Mut g f x)
theorem Mut.trans {g : Gr} {x y z : Nat} (h : Mut g x y) (k : Mut g y z) : Mut g x z := ⟨h.1.trans k.1, k.2.trans h.2⟩
theorem Mut.symm {g : Gr} {x y : Nat} (h : Mut g x y) : Mut g y x := ⟨h.2, h.1⟩
/-- between places of one part one need not leave it. -/
theorem inner_way {g : Gr} {f : Nat} {ins : Nat → Bool} (hg : GOk g) (hf : f < g.spots.length) (hi : InPart g f ins) {x y : Nat} (hx : Mut g f x) (hw : Way (nxt g) x y) (hy : Way (nxt g) y f) : Way (fun i => (nxt g i).filter ins) x y := by
  induction hw with
  | stay => exact .stay
  | step hw hk ih =>
    rename_i j k
    have hj : Way (nxt g) j f := (Way.one hk).trans hy
    have hkm : Mut g f k := ⟨(hx.1.trans hw).step hk, hy⟩
    exact (ih hj).step (List.mem_filter.2 ⟨hk, (hi k (hkm.lt hg hf)).2 hkm⟩)
/-- from a place of a part to another one, by one step at least. -/
theorem step_way {g : Gr} {f : Nat} {ins want : Nat → Bool} (hg : GOk g) (hf : f < g.spots.length) (hi : InPart g f ins) {x k y : Nat} (hx : Mut g f x) (hk : k ∈ nxt g x) (hky : Way (nxt g) k y) (hy : Mut g f y) (hw : want y = true) (hno : NoWay ins want (nxt g) (nxt g x)) : False := by
  have hkm : Mut g f k := ⟨hx.1.step hk, hky.trans hy.2⟩
  have := hno k hk ((hi k (hkm.lt hg hf)).2 hkm) y (inner_way hg hf hi hkm hky hy.2)
  rw [hw] at this
  cases this
/-- THE LOOP, UNDER WAY. -/
structure LpOk (g : Gr) (f : Nat) (lp : List Nat) (met : Nat) : Prop where
  ne : lp ≠ []
  head : lp.getD 0 0 = f
  trail : Trail (nxt g) lp
  mem : ∀ x ∈ lp, Mut g f x ∧ x < g.spots.length
  met : met = orL (sN g) 0 lp
theorem last_mem {l : List Nat} (h : l ≠ []) : l.getD (l.length - 1) 0 ∈ l := by
  have : 0 < l.length := by
    cases l with
    | nil => exact absurd rfl h
    | cons a l => simp
  rw [List.getD_eq_getElem?_getD, List.getElem?_eq_getElem (by omega)]
  exact List.getElem_mem _
theorem LpOk.start {g : Gr} {f : Nat} (hf : f < g.spots.length) : LpOk g f [f] (sN g f) := ⟨by simp, rfl, trivial, fun x hx => by simp at hx; subst hx; exact ⟨⟨.stay, .stay⟩, hf⟩, by simp [orL]⟩
theorem LpOk.lt {g : Gr} {f : Nat} {lp : List Nat} {met : Nat} (hg : GOk g) (h : LpOk g f lp met) : met < 2 ^ mN g := by
  rw [h.met]
  exact orL_lt lp 0 (Nat.pow_pos (by decide)) fun x hx => (hg.sN (h.mem x hx).2).2
/-- there is a way to a new set. -/
theorem LpOk.more {g : Gr} {f : Nat} {lp : List Nat} {met : Nat} {ins want : Nat → Bool} (hg : GOk g) (hf : f < g.spots.length) (hF : FairX g f) (hi : InPart g f ins) (h : LpOk g f lp met) (hm : met ≠ 2 ^ mN g - 1) (hw : ∀ x, x < g.spots.length → want x = decide (met ||| sN g x ≠ met)) : ¬ NoWay ins want (nxt g) (nxt g (lp.getD (lp.length - 1) 0)) := fun hno => by
  have hlm := last_mem h.ne
  obtain ⟨hl1, hl2⟩ := h.mem _ hlm
  have hbit : ∃ i, i < mN g ∧ met.testBit i = false := by
    apply Classical.byContradiction
    intro hc
    refine hm ((full_bits (h.lt hg)).2 fun i hi => ?_)
    cases e : met.testBit i with
    | true => rfl
    | false => exact absurd ⟨i, hi, e⟩ hc
  obtain ⟨i, hi1, hi2⟩ := hbit
  obtain ⟨a, ha, hab⟩ := hF.2 i hi1
  have han := ha.lt hg hf
  have hwa : want a = true := by rw [hw a han]; exact decide_eq_true (new_bit hi2 hab)
  have hwy : Way (nxt g) (lp.getD (lp.length - 1) 0) a := hl1.2.trans ha.1
  rcases hwy.first with e | ⟨k, hk, hka⟩
  · have : met.testBit i = true := by rw [h.met]; exact (orL_bit lp 0).2 (.inr ⟨_, hlm, by rw [e]; exact hab⟩)
    rw [hi2] at this
    cases this
  · exact step_way hg hf hi hl1 hk hka ha hwa hno
/-- there is a way home. -/
theorem LpOk.home {g : Gr} {f : Nat} {lp : List Nat} {met : Nat} {ins want : Nat → Bool} (hg : GOk g) (hf : f < g.spots.length) (hF : FairX g f) (hi : InPart g f ins) (h : LpOk g f lp met) (hw : ∀ x, x < g.spots.length → want x = decide (x = f)) : ¬ NoWay ins want (nxt g) (nxt g (lp.getD (lp.length - 1) 0)) := fun hno => by
  have hlm := last_mem h.ne
  obtain ⟨hl1, hl2⟩ := h.mem _ hlm
  have hwf : want f = true := by rw [hw f hf]; simp
  have hff : Mut g f f := ⟨.stay, .stay⟩
  rcases hl1.2.first with e | ⟨k, hk, hka⟩
  · obtain ⟨a, b, ha, hb, hab⟩ := hF.1
    have hxa : Way (nxt g) (lp.getD (lp.length - 1) 0) a := by rw [e]; exact ha.1
    rcases hxa.first with e2 | ⟨k, hk, hka⟩
    · exact step_way hg hf hi hl1 (k := b) (by rw [e2]; exact hab) hb.2 hff hwf hno
    · exact step_way hg hf hi hl1 hk (hka.trans ha.2) hff hwf hno
  · exact step_way hg hf hi hl1 hk hka hff hwf hno
theorem getD_append_zero {a b : List Nat} (h : a ≠ []) : (a ++ b).getD 0 0 = a.getD 0 0 := by
  cases a with
  | nil => exact absurd rfl h
  | cons x a => rfl
theorem LpOk.put {g : Gr} {f : Nat} {lp l : List Nat} {met : Nat} {ins want : Nat → Bool} (hi : InPart g f ins) (h : LpOk g f lp met) (hl : WayOk g.spots.length ins want (nxt g) (nxt g (lp.getD (lp.length - 1) 0)) l) (hw : ∀ x, x < g.spots.length → want x = decide (met ||| sN g x ≠ met)) : LpOk g f (lp ++ l) (orL (sN g) met l) ∧ met < orL (sN g) met l := by
  refine ⟨⟨by simp [h.ne], (getD_append_zero h.ne).trans h.head, h.trail.append hl.trail (fun _ _ => hl.head), fun x hx => ?_, by rw [orL_append, ← h.met]⟩, ?_⟩
  · rcases List.mem_append.1 hx with hx | hx
    · exact h.mem x hx
    · obtain ⟨h1, h2⟩ := hl.ins x hx
      exact ⟨(hi x h2).1 h1, h2⟩
  · have hm := last_mem hl.ne
    have h1 := hl.last
    rw [hw _ (hl.ins _ hm).2] at h1
    exact orL_grows hm (of_decide_eq_true h1)
/-- A LOOP THROUGH A FAIR PART. -/
structure LoopOk (g : Gr) (f : Nat) (l : List Nat) : Prop where
  ne : l ≠ []
  head : l.getD 0 0 = f
  trail : Trail (nxt g) (l ++ [f])
  lt : ∀ x ∈ l, x < g.spots.length
  bits : ∀ i, i < mN g → ∃ x ∈ l, (sN g x).testBit i = true
theorem LpOk.close {g : Gr} {f : Nat} {lp l : List Nat} {met : Nat} {ins want : Nat → Bool} (hg : GOk g) (h : LpOk g f lp met) (hm : met = 2 ^ mN g - 1) (hl : WayOk g.spots.length ins want (nxt g) (nxt g (lp.getD (lp.length - 1) 0)) l) (hw : ∀ x, x < g.spots.length → want x = decide (x = f)) : LoopOk g f (lp ++ l.take (l.length - 1)) := by
  have hlm := last_mem hl.ne
  have e1 : l.getD (l.length - 1) 0 = f := by
    have := hl.last
    rw [hw _ (hl.ins _ hlm).2] at this
    exact of_decide_eq_true this
  have hpos : 0 < l.length := by
    cases l with
    | nil => exact absurd rfl hl.ne
    | cons a l => simp
  have e2 : l.take (l.length - 1) ++ [f] = l := by
    rw [← e1]
    have h3 : l = l.take (l.length - 1 + 1) := by rw [List.take_of_length_le (by omega)]
    conv => rhs; rw [h3, List.take_succ_eq_append_getElem (by omega)]
    rw [List.getD_eq_getElem?_getD, List.getElem?_eq_getElem (by omega)]; rfl
  refine ⟨by simp [h.ne], (getD_append_zero h.ne).trans h.head, ?_, fun x hx => ?_, fun i hi => ?_⟩
  · rw [List.append_assoc, e2]
    exact h.trail.append hl.trail (fun _ _ => hl.head)
  · rcases List.mem_append.1 hx with hx | hx
    · exact (h.mem x hx).2
    · exact (hl.ins x (List.mem_of_mem_take hx)).2
  · have h1 := (full_bits (h.lt hg)).1 hm i hi
    rw [h.met] at h1
    rcases (orL_bit lp 0).1 h1 with h2 | ⟨x, hx, h2⟩
    · simp at h2
    · exact ⟨x, List.mem_append.2 (.inl hx), h2⟩
end Go.Proofs.Ytknneajaklcjdaa
