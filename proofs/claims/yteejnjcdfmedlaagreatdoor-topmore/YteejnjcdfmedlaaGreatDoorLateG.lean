/-
  Joined out of LoopM, SLoop, SLasso, VcStates, Anyway, AnyOps, VCheck, WClm, ClaimM, ClaimM2, in their order: a claim bears at most so many files.
-/
import Derived.Test.YteejnjcdfmedlaaGreatDoorLateF
import Derived.Test.YteejnjcdfmedlaaGreatDoorLateE
import Derived.Test.YteejnjcdfmedlaaGreatDoorMem
import Derived.Deep.AppendLies
import Derived.Laws.AppendOwnNone
import Derived.Test.YteejnjcdfmedlaaGreatDoorLateC
import Derived.Test.YteejnjcdfmedlaaGreatDoorLateA
import Derived.Test.YteejnjcdfmedlaaGreatDoorLateB
namespace Go.Proofs.YteejnjcdfmedlaaGreatDoor
open Go.ChangeShapes Go.WideShapes Go.ChangeAt Go.RowKit Go.Deep
open Terms
set_option maxHeartbeats 6400000
set_option maxRecDepth 20000
theorem andnot_nat0 : ∀ a, a < 64 -> ∀ b, b < 64 -> decide (bits BinOp.andNot IntKind.i64 ((a : Nat) : Int) ((b : Nat) : Int) = 0) = decide (b ||| a = b) := by decide +kernel
def orL (s : Nat -> Nat) (m : Nat) (l : List Nat) : Nat := l.foldl (fun a x => a ||| s x) m
theorem orL_snoc (s : Nat -> Nat) (m : Nat) (l : List Nat) (x : Nat) : orL s m (l ++ [x]) = orL s m l ||| s x := by simp [orL]
theorem orL_append (s : Nat -> Nat) (m : Nat) (l k : List Nat) : orL s m (l ++ k) = orL s (orL s m l) k := by simp [orL]
theorem orL_bit {s : Nat -> Nat} {i : Nat} : ∀ (l : List Nat) (m : Nat), (orL s m l).testBit i = true ↔ m.testBit i = true \/ ∃ x ∈ l, (s x).testBit i = true
 | [], m => by simp [orL]
 | a :: l, m => by
  have := orL_bit (s := s) (i := i) l (m ||| s a)
  show (orL s (m ||| s a) l).testBit i = true ↔ _
  rw [this, Nat.testBit_or, Bool.or_eq_true]
  constructor
  ·rintro ((h | h) | ⟨x, hx, h⟩)
   ·exact .inl h
   ·exact .inr ⟨a, by simp, h⟩
   ·exact .inr ⟨x, by simp [hx], h⟩
  ·rintro (h | ⟨x, hx, h⟩)
   ·exact .inl (.inl h)
   ·rcases List.mem_cons.1 hx with rfl | hx
    ·exact .inl (.inr h)
    ·exact .inr ⟨x, hx, h⟩
theorem orL_lt {s : Nat -> Nat} {k : Nat} : ∀ (l : List Nat) (m : Nat), m < 2 ^ k -> (∀ x ∈ l, s x < 2 ^ k) -> orL s m l < 2 ^ k
 | [], _, hm, _ => hm
 | a :: l, m, hm, h => orL_lt l (m ||| s a) (Nat.or_lt_two_pow hm (h a (by simp))) (fun x hx => h x (by simp [hx]))
theorem orL_le {s : Nat -> Nat} : ∀ (l : List Nat) (m : Nat), m <= orL s m l
 | [], _ => Nat.le_refl _
 | a :: l, m => Nat.le_trans Nat.left_le_or (orL_le l (m ||| s a))
theorem orL_grows {s : Nat -> Nat} {m x : Nat} {l : List Nat} (hx : x ∈ l) (h : m ||| s x ≠ m) : m < orL s m l := by
 refine Nat.lt_of_le_of_ne (orL_le l m) fun e => h (Nat.eq_of_testBit_eq fun i => ?_)
 rw [Nat.testBit_or]
 cases hm : m.testBit i with
 | true => rfl
 | false =>
  cases hs : (s x).testBit i with
  | false => rfl
  | true =>
   have := (orL_bit (s := s) (i := i) l m).2 (.inr ⟨x, hx, hs⟩); rw [<- e, hm] at this
   cases this
theorem new_bit {m a i : Nat} (hm : m.testBit i = false) (ha : a.testBit i = true) : m ||| a ≠ m := fun e => by
 have : (m ||| a).testBit i = true := by rw [Nat.testBit_or, ha]; simp
 rw [e, hm] at this
 cases this
theorem Trail.append {nx : Nat -> List Nat} : ∀ {a b : List Nat}, Trail nx a -> Trail nx b -> (a ≠ [] -> b ≠ [] -> b.getD 0 0 ∈ nx (a.getD (a.length - 1) 0)) -> Trail nx (a ++ b)
 | [], _, _, hb, _ => hb
 | [x], [], _, _, _ => trivial
 | [x], y :: b, _, hb, h => ⟨h (by simp) (by simp), hb⟩
 | x :: y :: a, b, ha, hb, h => ⟨ha.1, Trail.append (a := y :: a) ha.2 hb (fun _ hn => by simpa using h (by simp) hn)⟩
def InPart (g : Gr) (f : Nat) (ins : Nat -> Bool) : Prop := ∀ x, x < g.spots.length -> (ins x = true ↔ Mut g f x)
theorem Mut.symm {g : Gr} {x y : Nat} (h : Mut g x y) : Mut g y x := ⟨h.2, h.1⟩
theorem inner_way {g : Gr} {f : Nat} {ins : Nat -> Bool} (hg : GOk g) (hf : f < g.spots.length) (hi : InPart g f ins) {x y : Nat} (hx : Mut g f x) (hw : Way (nxt g) x y) (hy : Way (nxt g) y f) : Way (fun i => (nxt g i).filter ins) x y := by
 induction hw with
 | stay => exact .stay
 | step hw hk ih =>
  rename_i j k; have hj : Way (nxt g) j f := (Way.one hk).trans hy; have hkm : Mut g f k := ⟨(hx.1.trans hw).step hk, hy⟩; exact (ih hj).step (List.mem_filter.2 ⟨hk, (hi k (hkm.lt hg hf)).2 hkm⟩)
theorem step_way {g : Gr} {f : Nat} {ins want : Nat -> Bool} (hg : GOk g) (hf : f < g.spots.length) (hi : InPart g f ins) {x k y : Nat} (hx : Mut g f x) (hk : k ∈ nxt g x) (hky : Way (nxt g) k y) (hy : Mut g f y) (hw : want y = true) (hno : NoWay ins want (nxt g) (nxt g x)) : False := by
 have hkm : Mut g f k := ⟨hx.1.step hk, hky.trans hy.2⟩; have := hno k hk ((hi k (hkm.lt hg hf)).2 hkm) y (inner_way hg hf hi hkm hky hy.2); rw [hw] at this
 cases this
structure LpOk (g : Gr) (f : Nat) (lp : List Nat) (met : Nat) : Prop where
 ne : lp ≠ []
 head : lp.getD 0 0 = f
 trail : Trail (nxt g) lp
 mem : ∀ x ∈ lp, Mut g f x /\ x < g.spots.length
 met : met = orL (sN g) 0 lp
theorem last_mem {l : List Nat} (h : l ≠ []) : l.getD (l.length - 1) 0 ∈ l := by
 have : 0 < l.length := by
  cases l with
  | nil => exact absurd rfl h
  | cons a l => simp
 rw [List.getD_eq_getElem?_getD, List.getElem?_eq_getElem (by omega)]
 exact List.getElem_mem _
theorem LpOk.start {g : Gr} {f : Nat} (hf : f < g.spots.length) : LpOk g f [f] (sN g f) := ⟨by simp, rfl, trivial, fun x hx => by simp at hx; subst hx; exact ⟨⟨.stay, .stay⟩, hf⟩, by simp [orL]⟩
theorem LpOk.lt {g : Gr} {f : Nat} {lp : List Nat} {met : Nat} (hg : GOk g) (h : LpOk g f lp met) : met < 2 ^ mN g := by
 rw [h.met]; exact orL_lt lp 0 (Nat.pow_pos (by decide)) fun x hx => (hg.sN (h.mem x hx).2).2
theorem LpOk.more {g : Gr} {f : Nat} {lp : List Nat} {met : Nat} {ins want : Nat -> Bool} (hg : GOk g) (hf : f < g.spots.length) (hF : FairX g f) (hi : InPart g f ins) (h : LpOk g f lp met) (hm : met ≠ 2 ^ mN g - 1) (hw : ∀ x, x < g.spots.length -> want x = decide (met ||| sN g x ≠ met)) : ¬ NoWay ins want (nxt g) (nxt g (lp.getD (lp.length - 1) 0)) := fun hno => by
 have hlm := last_mem h.ne; obtain ⟨hl1, hl2⟩ := h.mem _ hlm
 have hbit : ∃ i, i < mN g /\ met.testBit i = false := by
  apply Classical.byContradiction
  intro hc; refine hm ((full_bits (h.lt hg)).2 fun i hi => ?_)
  cases e : met.testBit i with
  | true => rfl
  | false => exact absurd ⟨i, hi, e⟩ hc
 obtain ⟨i, hi1, hi2⟩ := hbit; obtain ⟨a, ha, hab⟩ := hF.2 i hi1; have han := ha.lt hg hf; have hwa : want a = true := by rw [hw a han]; exact decide_eq_true (new_bit hi2 hab)
 have hwy : Way (nxt g) (lp.getD (lp.length - 1) 0) a := hl1.2.trans ha.1
 rcases hwy.first with e | ⟨k, hk, hka⟩
 ·have : met.testBit i = true := by rw [h.met]; exact (orL_bit lp 0).2 (.inr ⟨_, hlm, by rw [e]; exact hab⟩)
  rw [hi2] at this
  cases this
 ·exact step_way hg hf hi hl1 hk hka ha hwa hno
theorem LpOk.home {g : Gr} {f : Nat} {lp : List Nat} {met : Nat} {ins want : Nat -> Bool} (hg : GOk g) (hf : f < g.spots.length) (hF : FairX g f) (hi : InPart g f ins) (h : LpOk g f lp met) (hw : ∀ x, x < g.spots.length -> want x = decide (x = f)) : ¬ NoWay ins want (nxt g) (nxt g (lp.getD (lp.length - 1) 0)) := fun hno => by
 have hlm := last_mem h.ne; obtain ⟨hl1, hl2⟩ := h.mem _ hlm; have hwf : want f = true := by rw [hw f hf]; simp
 have hff : Mut g f f := ⟨.stay, .stay⟩
 rcases hl1.2.first with e | ⟨k, hk, hka⟩
 ·obtain ⟨a, b, ha, hb, hab⟩ := hF.1
  have hxa : Way (nxt g) (lp.getD (lp.length - 1) 0) a := by rw [e]; exact ha.1
  rcases hxa.first with e2 | ⟨k, hk, hka⟩
  ·exact step_way hg hf hi hl1 (k := b) (by rw [e2]; exact hab) hb.2 hff hwf hno
  ·exact step_way hg hf hi hl1 hk (hka.trans ha.2) hff hwf hno
 ·exact step_way hg hf hi hl1 hk hka hff hwf hno
theorem getD_append_zero {a b : List Nat} (h : a ≠ []) : (a ++ b).getD 0 0 = a.getD 0 0 := by
 cases a with
 | nil => exact absurd rfl h
 | cons x a => rfl
theorem LpOk.put {g : Gr} {f : Nat} {lp l : List Nat} {met : Nat} {ins want : Nat -> Bool} (hi : InPart g f ins) (h : LpOk g f lp met) (hl : WayOk g.spots.length ins want (nxt g) (nxt g (lp.getD (lp.length - 1) 0)) l) (hw : ∀ x, x < g.spots.length -> want x = decide (met ||| sN g x ≠ met)) : LpOk g f (lp ++ l) (orL (sN g) met l) /\ met < orL (sN g) met l := by
 refine ⟨⟨by simp [h.ne], (getD_append_zero h.ne).trans h.head, h.trail.append hl.trail (fun _ _ => hl.head), fun x hx => ?_, by rw [orL_append, <- h.met]⟩, ?_⟩
 ·rcases List.mem_append.1 hx with hx | hx
  ·exact h.mem x hx
  ·obtain ⟨h1, h2⟩ := hl.ins x hx
   exact ⟨(hi x h2).1 h1, h2⟩
 ·have hm := last_mem hl.ne
  have h1 := hl.last; rw [hw _ (hl.ins _ hm).2] at h1; exact orL_grows hm (of_decide_eq_true h1)
structure LoopOk (g : Gr) (f : Nat) (l : List Nat) : Prop where
 ne : l ≠ []
 head : l.getD 0 0 = f
 trail : Trail (nxt g) (l ++ [f])
 lt : ∀ x ∈ l, x < g.spots.length
 bits : ∀ i, i < mN g -> ∃ x ∈ l, (sN g x).testBit i = true
theorem LpOk.close {g : Gr} {f : Nat} {lp l : List Nat} {met : Nat} {ins want : Nat -> Bool} (hg : GOk g) (h : LpOk g f lp met) (hm : met = 2 ^ mN g - 1) (hl : WayOk g.spots.length ins want (nxt g) (nxt g (lp.getD (lp.length - 1) 0)) l) (hw : ∀ x, x < g.spots.length -> want x = decide (x = f)) : LoopOk g f (lp ++ l.take (l.length - 1)) := by
 have hlm := last_mem hl.ne
 have e1 : l.getD (l.length - 1) 0 = f := by
  have := hl.last; rw [hw _ (hl.ins _ hlm).2] at this; exact of_decide_eq_true this
 have hpos : 0 < l.length := by
  cases l with
  | nil => exact absurd rfl hl.ne
  | cons a l => simp
 have e2 : l.take (l.length - 1) ++ [f] = l := by
  rw [<- e1]; have h3 : l = l.take (l.length - 1 + 1) := by rw [List.take_of_length_le (by omega)]
  conv => rhs; rw [h3, List.take_succ_eq_append_getElem (by omega)]
  rw [List.getD_eq_getElem?_getD, List.getElem?_eq_getElem (by omega)]; rfl
 refine ⟨by simp [h.ne], (getD_append_zero h.ne).trans h.head, ?_, fun x hx => ?_, fun i hi => ?_⟩
 ·rw [List.append_assoc, e2]
  exact h.trail.append hl.trail (fun _ _ => hl.head)
 ·rcases List.mem_append.1 hx with hx | hx
  ·exact (h.mem x hx).2
  ·exact (hl.ins x (List.mem_of_mem_take hx)).2
 ·have h1 := (full_bits (h.lt hg)).1 hm i hi
  rw [h.met] at h1
  rcases (orL_bit lp 0).1 h1 with h2 | ⟨x, hx, h2⟩
  ·simp at h2
  ·exact ⟨x, List.mem_append.2 (.inl hx), h2⟩
structure LoopW (w wr : World) (s : Nat) (so no bo : Option Addr) (sc nc bc n : Nat) (gi gm : Int) (f met : Nat) (v : Value) (lp : List Nat) : Prop where
 below : Below s w wr
 size : s + 4 <= wr.heap.size
 c0 : wr.cell? ⟨s, 0, none⟩ = some (.slice so n sc)
 c1 : wr.cell? ⟨s, 1, none⟩ = some (.int .i64 gi)
 c2 : wr.cell? ⟨s, 2, none⟩ = some (.slice no n nc)
 c3 : wr.cell? ⟨s, 3, none⟩ = some (.slice bo n bc)
 c4 : wr.cell? ⟨s, 4, none⟩ = some (.int .i64 gm)
 cf : wr.cell? ⟨s + 1, 0, none⟩ = some (.int .i64 (f : Int))
 cm : wr.cell? ⟨s + 3, 0, none⟩ = some (.int .i64 (met : Int))
 fm : wr.frozen? ⟨s + 3, 0, none⟩ = false
 ow : wr.ownsRow (s + 2) 3 1 v lp.length (nvals lp)
 ap : v.ownBlock ≠ some (s + 3)
section
variable {w wr : World} {s : Nat} {so no bo : Option Addr} {sc nc bc n : Nat} {gi gm : Int} {f met : Nat} {v : Value} {lp : List Nat}
theorem LoopW.blocks (h : LoopW w wr s so no bo sc nc bc n gi gm f met v lp) {w' : World} (hb : Below s w w') (hs : wr.heap.size <= w'.heap.size) (h0 : w'.heap[s]? = wr.heap[s]?) (h1 : w'.heap[s + 1]? = wr.heap[s + 1]?) (h3 : w'.heap[s + 3]? = wr.heap[s + 3]?) {v' : Value} {lp' : List Nat} (ho : w'.ownsRow (s + 2) 3 1 v' lp'.length (nvals lp')) (ha : v'.ownBlock ≠ some (s + 3)) : LoopW w w' s so no bo sc nc bc n gi gm f met v' lp' := by
 have c : ∀ j, w'.cell? ⟨s, j, none⟩ = wr.cell? ⟨s, j, none⟩ := fun j => World.cell?_of_block (a := ⟨s, j, none⟩) h0
 have d1 : w'.cell? ⟨s + 1, 0, none⟩ = wr.cell? ⟨s + 1, 0, none⟩ := World.cell?_of_block (a := ⟨s + 1, 0, none⟩) h1
 have d3 : w'.cell? ⟨s + 3, 0, none⟩ = wr.cell? ⟨s + 3, 0, none⟩ := World.cell?_of_block (a := ⟨s + 3, 0, none⟩) h3
 have hsz := h.size; exact ⟨hb, by omega, (c 0).trans h.c0, (c 1).trans h.c1, (c 2).trans h.c2, (c 3).trans h.c3, (c 4).trans h.c4, d1.trans h.cf, d3.trans h.cm, (World.frozen?_of_block (a := ⟨s + 3, 0, none⟩) h3).trans h.fm, ho, ha⟩
theorem LoopW.later (h : LoopW w wr s so no bo sc nc bc n gi gm f met v lp) {w' : World} (hb : Below wr.heap.size wr w') : LoopW w w' s so no bo sc nc bc n gi gm f met v lp := by
 have hsz := h.size; exact h.blocks (h.below.trans (hb.mono (by omega))) hb.size (hb.block _ (by omega)) (hb.block _ (by omega)) (hb.block _ (by omega)) (owns_later h.ow hb (Nat.le_refl _)) h.ap
theorem LoopW.setMet (h : LoopW w wr s so no bo sc nc bc n gi gm f met v lp) (m : Nat) : LoopW w (wr.setCell ⟨s + 3, 0, none⟩ (.int .i64 (m : Int))) s so no bo sc nc bc n gi gm f m v lp := by
 have hsz := h.size; have c : ∀ i j, i ≠ s + 3 -> (wr.setCell ⟨s + 3, 0, none⟩ (.int .i64 (m : Int))).cell? ⟨i, j, none⟩ = wr.cell? ⟨i, j, none⟩ := fun i j hne => World.cell?_setCell_far _ _ _ _ (fun e => hne e.symm)
 exact ⟨h.below.setCell (by show s <= s + 3; omega) _, by simpa using hsz, (c s 0 (by omega)).trans h.c0, (c s 1 (by omega)).trans h.c1, (c s 2 (by omega)).trans h.c2, (c s 3 (by omega)).trans h.c3, (c s 4 (by omega)).trans h.c4, (c (s + 1) 0 (by omega)).trans h.cf, World.cell?_setCell_same _ _ _ (u := .int .i64 (met : Int)) h.cm, (World.frozen?_setCell _ _ _ _).trans h.fm, ownsRow_setCell_other h.ow (by exact h.ap) _, h.ap⟩
end
theorem newSet_fn (w0 : World) (s : Nat) (bo : Option Addr) (bc n m : Nat) (g : Gr) (hok : GOk g) (hn : n = g.spots.length) (hsz : s + 4 <= w0.heap.size) (h3 : w0.cell? ⟨s, 3, none⟩ = some (.slice bo n bc)) (hm : w0.cell? ⟨s + 3, 0, none⟩ = some (.int .i64 (m : Int))) (hm64 : m < 64) (hS : ∀ k, k < n -> ∃ b off, bo = some ⟨b, off, none⟩ /\ b < w0.heap.size /\ w0.cell? ⟨b, off + k, none⟩ = some (.int .i64 (sN g k : Int))) :
  FnB w0 w0.heap.size n (.func (.func 61) #[] #[.pointer (some ⟨s, 0, none⟩), .pointer (some ⟨s + 3, 0, none⟩)]) (fun p => decide (m ||| sN g p ≠ m)) := by
 refine ⟨_, _, rfl, fun args w => by simp [go_sem], fun w' hb p hp => ?_⟩
 show Calls Tryz.prog 61 #[.int .i64 (p : Int), .pointer (some ⟨s, 0, none⟩), .pointer (some ⟨s + 3, 0, none⟩)] w' fun e w2 => e = .returned (.bool (decide (m ||| sN g p ≠ m))) /\ Below w'.heap.size w' w2
 obtain ⟨b, off, rfl, hbl, hc⟩ := hS p hp; have e3 := (hb.cell (p := ⟨s, 3, none⟩) (by show s < _; omega)).trans h3
 have em := (hb.cell (p := ⟨s + 3, 0, none⟩) (by show s + 3 < _; omega)).trans hm
 have es := (hb.cell (p := ⟨b, off + p, none⟩) hbl).trans hc; have hs64 : sN g p < 64 := by have h1 := (hok.sN (x := p) (by omega)).2; have h2 := pow64 hok.mN.1; omega
 have hand := andnot_nat0 (sN g p) hs64 m hm64
 have HA : Hid (decide (m ||| sN g p ≠ m) = !decide (bits BinOp.andNot IntKind.i64 (sN g p : Int) (m : Int) = 0)) := by
  show _ = _
  rw [hand]; simp
 rw [HA.out]; clear hand HA hS hc h3 hm; generalize sN g p = x at *; have h63 : p < n := hp
 go_enter Tryz.func61, Tryz.ntmps61
 go_wp2_with fail
 go_quiet (fail)
 go_wp2_with fail
 go_ret
 exact ⟨by first | rfl | simp, below_drewN (Below.refl _ _) _⟩
theorem home_fn (w0 : World) (s n f : Nat) (hsz : s + 4 <= w0.heap.size) (hf : w0.cell? ⟨s + 1, 0, none⟩ = some (.int .i64 (f : Int))) :
  FnB w0 w0.heap.size n (.func (.func 62) #[] #[.pointer (some ⟨s + 1, 0, none⟩)]) (fun p => decide (p = f)) := by
 refine ⟨_, _, rfl, fun args w => by simp [go_sem], fun w' hb p hp => ?_⟩
 show Calls Tryz.prog 62 #[.int .i64 (p : Int), .pointer (some ⟨s + 1, 0, none⟩)] w' _
 have ef := (hb.cell (p := ⟨s + 1, 0, none⟩) (by show s + 1 < _; omega)).trans hf
 go_enter Tryz.func62, Tryz.ntmps62
 go_wp2_with fail
 go_ret
 refine ⟨?_, Below.refl _ _⟩
 have e : decide (p = f) = ((p : Int) == (f : Int)) := by
  show _ = decide ((p : Int) = (f : Int))
  rw [decide_eq_decide]; omega
 rw [e]
 first | rfl | simp
theorem LoopW.start (w : World) (so no bo : Option Addr) (sc nc bc n : Nat) (gi gm : Int) (f m : Nat) : LoopW w ((((w.alloc (.cells #[.slice so n sc, .int .i64 gi, .slice no n nc, .slice bo n bc, .int .i64 gm] 40)).alloc (.cells #[.int .i64 (f : Int)] 3)).alloc (.cells #[.int .i64 (f : Int)] 3)).alloc (.cells #[.int .i64 (m : Int)] 3)) w.heap.size so no bo sc nc bc n gi gm f m (.slice (some ⟨w.heap.size + 1 + 1, 0, none⟩) 1 1) [f] := by
 refine ⟨((((Below.refl _ _).alloc (Nat.le_refl _) _).alloc (by simp) _).alloc (by simp; omega) _).alloc (by simp; omega) _, by simp, by simp [go_sem], by simp [go_sem], by simp [go_sem], by simp [go_sem], by simp [go_sem], by simp [go_sem], by simp [go_sem], by simp [go_sem], ?_, by simp [Value.ownBlock]⟩
 refine ⟨rfl, .inr ⟨w.heap.size + 1 + 1, 1, #[.int .i64 (f : Int)], rfl, Nat.le_refl _, ?_, Nat.le_refl _, by unfold maxLen; decide, rfl, rfl⟩⟩
 have h := blk_alloc_new ((w.alloc (.cells #[.slice so n sc, .int .i64 gi, .slice no n nc, .slice bo n bc, .int .i64 gm] 40)).alloc (.cells #[.int .i64 (f : Int)] 3)) (.cells #[.int .i64 (f : Int)] 3); rw [World.size_alloc, World.size_alloc] at h; exact (blk_alloc_lt _ _ _ (by simp)).trans h
theorem own_news {w : World} {g q : Nat} {l : List Nat} (hc : ∀ i, i < l.length -> w.cell? ⟨g, i, none⟩ = some (.int .i64 (l.getD i 0 : Int))) (hq : q <= l.length) : ∀ j u, (nvals (l.take q))[j]? = some u -> w.cell? ((⟨g, 0, none⟩ : Addr).add j) = some u := fun j u hu => by
 have hj : j < q := by
  rcases Nat.lt_or_ge j q with h | h
  ·exact h
  ·rw [List.getElem?_eq_none (by simp [nvals]; omega)] at hu; cases hu
 have h1 := hc j (by omega)
 have h2 : (nvals (l.take q))[j]? = some (.int .i64 (l.getD j 0 : Int)) := by
  rw [nvals, List.getElem?_map, List.getElem?_take, if_pos hj, List.getElem?_eq_getElem (by omega), List.getD_eq_getElem?_getD, List.getElem?_eq_getElem (by omega)]; rfl
 rw [h2] at hu
 injection hu with hu
 subst hu
 cases j with
 | zero => exact h1
 | succ j => simpa [Addr.add] using h1
theorem loopFrom_any (so no bo : Option Addr) (sc nc bc : Nat) (g : Gr) (f : Nat) (fi : FuncId) (ci : Array Value) (ins : Nat -> Bool) (w : World) (hz : GrLe g) (hV : GraphV w (.slice so g.spots.length sc) (.slice no g.next.length nc) (.slice bo g.sets.length bc) g) (hok : GOk g) (hf : f < g.spots.length) (hF : FairX g f) (hIn : InPart g f ins) (hI : FnB w w.heap.size g.spots.length (.func (.func fi) #[] ci) ins) :
  Calls Tryz.prog 33 #[.agg #[.slice so g.spots.length sc, .int .i64 g.init, .slice no g.next.length nc, .slice bo g.sets.length bc, .int .i64 g.many], .int .i64 (f : Int), .func (.func fi) #[] ci] w fun e w' => ∃ vo vc q, e = .returned (.slice vo q vc) /\ Below w.heap.size w w' /\ Hid (∃ l, l.length = q /\ q <= 2000000 /\ LoopOk g f l /\ w'.ownsRow w.heap.size 3 1 (.slice vo q vc) q (nvals l)) := by
 obtain ⟨i0, hi0, hz0, hz1, hz2⟩ := info_parts infoInt; have hn := hok.head.n; have hgn := hok.head.next; have hgs := hok.head.sets
 have hV2 : GraphV w (.slice so g.spots.length sc) (.slice no g.spots.length nc) (.slice bo g.spots.length bc) g := by
  have := hV; rw [hgn, hgs] at this; exact this
 obtain ⟨fb, foff, hbo, hfb, hcf⟩ : ∃ b off, bo = some ⟨b, off, none⟩ /\ b < w.heap.size /\ w.cell? ⟨b, off + f, none⟩ = some (.int .i64 (sN g f : Int)) := by
  obtain ⟨b, off, e, hb, hc⟩ := hV2.sets.num (i := f) (by rw [hgs]; exact hf)
  exact ⟨b, off, e, hb, by rw [hc, (hok.sN hf).1]⟩
 have HSet : Hid (∀ w1, Below w.heap.size w w1 -> ∀ k, k < g.spots.length -> ∃ b off, bo = some ⟨b, off, none⟩ /\ b < w1.heap.size /\ w1.cell? ⟨b, off + k, none⟩ = some (.int .i64 (sN g k : Int))) := fun w1 hb k hk => by
  obtain ⟨b, off, e, hbl, hc⟩ := hV2.sets.num (i := k) (by rw [hgs]; exact hk)
  exact ⟨b, off, e, Nat.lt_of_lt_of_le hbl hb.size, by rw [(hb.cell (p := ⟨b, off + k, none⟩) hbl), hc, (hok.sN hk).1]⟩
 have HRow : Hid (NextRows w no g.spots.length (nxt g)) := graph_rows hok hV; have HXL : Hid (∀ i, i < g.spots.length -> (nxt g i).length <= 140737488355328) := fun i hi => by rw [nxt_length]; exact hz.rows i (by rw [hgn]; exact hi)
 have HAll : Hid (∀ w1, Calls Tryz.prog 57 #[.agg #[.slice so g.spots.length sc, .int .i64 g.init, .slice no g.spots.length nc, .slice bo g.spots.length bc, .int .i64 g.many]] w1 fun e w' => e = .returned (.int .i64 ((2 ^ mN g - 1 : Nat) : Int)) /\ Below w1.heap.size w1 w') := fun w1 => by
  have := allSets_any so no bo g.spots.length sc g.spots.length nc g.spots.length bc g w1 hok.head.many0 hok.head.many6; rw [hok.mN.2.2] at this; exact this
 have HWay : Hid (∀ w1 po pc (x : Nat) fw cw want, Below w.heap.size w w1 -> x < g.spots.length -> NatsV w1 (.slice po (nxt g x).length pc) (nxt g x) -> FnB w1 w1.heap.size g.spots.length (.func (.func fw) #[] cw) want -> ¬ NoWay ins want (nxt g) (nxt g x) -> Calls Tryz.prog 29 #[.agg #[.slice so g.spots.length sc, .int .i64 g.init, .slice no g.spots.length nc, .slice bo g.spots.length bc, .int .i64 g.many], .slice po (nxt g x).length pc, .func (.func fi) #[] ci, .func (.func fw) #[] cw] w1 fun e w' => ∃ vo vc q, e = .returned (.slice vo q vc) /\ Below w1.heap.size w1 w' /\ Hid (∃ l, l.length = q /\ WayOk g.spots.length ins want (nxt g) (nxt g x) l /\ w'.ownsRow w1.heap.size 3 1 (.slice vo q vc) q (nvals l))) := fun w1 po pc x fw cw want hb hx hN hW hno => by
  have hfi : FnB w1 w1.heap.size g.spots.length (.func (.func fi) #[] ci) ins := by
   obtain ⟨fn, caps, h1, h2, h3⟩ := hI; exact ⟨fn, caps, h1, h2, fun w' hb' q hq => h3 w' (hb.trans (hb'.mono hb.size)) q hq⟩
  have h := way_any so no bo po sc nc bc pc g (nxt g x) fi fw ci cw ins want w1 hok (fun i hi => hz.rows i (by rw [hgn]; exact hi)) (hV.below hb) hN (by rw [nxt_length]; exact hz.rows x (by rw [hgn]; exact hx)) (fun y hy => nxt_lt hok hx hy) hfi hW
  rw [hgn, hgs] at h; refine h.mono fun e w' ⟨vo, vc, q, h1, h2, h3⟩ => ⟨vo, vc, q, h1, h2, ?_⟩
  obtain ⟨l, h4, h5, h6⟩ := h3.out
  rcases h5 with ⟨_, h7⟩ | h7
  ·exact absurd h7 hno
  ·exact ⟨l, h4, h7, h6⟩
 have HOr : Hid (∀ a : Nat, a < 2 ^ mN g -> ∀ k, k < g.spots.length -> bits BinOp.or IntKind.i64 (a : Int) (sN g k : Int) = ((a ||| sN g k : Nat) : Int)) := fun a ha k hk => by
  have h6 := pow64 hok.mN.1; have h2 := (hok.sN hk).2; exact or_nat0 _ (by omega) _ (by omega)
 have hm64 : 2 ^ mN g <= 64 := pow64 hok.mN.1; have HOK : Hid (GOk g) := hok; have HF : Hid (FairX g f) := hF; have HIn : Hid (InPart g f ins) := hIn; have HSN : Hid (∀ k, k < g.spots.length -> sN g k < 2 ^ mN g) := fun k hk => (hok.sN hk).2
 rw [hgn, hgs]; have HL0 : Hid (LpOk g f [f] (sN g f)) := LpOk.start hf; have H0 := LoopW.start w so no bo sc nc bc g.spots.length g.init g.many f (sN g f); have hsf := (hok.sN hf).2; clear hV hV2 hok hz hF hIn hI hgn hgs; obtain ⟨n, hnn⟩ : ∃ n, n = g.spots.length := ⟨_, rfl⟩
 have HNN : Hid (n = g.spots.length) := hnn; rw [<- hnn] at H0 HRow HXL HAll HWay HOr HSN HSet hf hn ⊢; generalize g.init = gi at *; generalize g.many = gm at *
 have H0' : Hid (LoopW w ((((w.alloc (.cells #[.slice so n sc, .int .i64 gi, .slice no n nc, .slice bo n bc, .int .i64 gm] 40)).alloc (.cells #[.int .i64 (f : Int)] 3)).alloc (.cells #[.int .i64 (f : Int)] 3)).alloc (.cells #[.int .i64 (sN g f : Int)] 3)) w.heap.size so no bo sc nc bc n gi gm f (sN g f) (.slice (some ⟨w.heap.size + 1 + 1, 0, none⟩) 1 1) [f]) := H0; clear H0 hnn; subst hbo
 generalize sN g f = m0 at *
 have ecf : (((w.alloc (.cells #[.slice so n sc, .int .i64 gi, .slice no n nc, .slice (some ⟨fb, foff, none⟩) n bc, .int .i64 gm] 40)).alloc (.cells #[.int .i64 (f : Int)] 3)).alloc (.cells #[.int .i64 (f : Int)] 3)).cell? ⟨fb, foff + f, none⟩ = some (.int .i64 (m0 : Int)) := by
  rw [World.cell?_alloc_lt, World.cell?_alloc_lt, World.cell?_alloc_lt]
  ·exact hcf
  all_goals (simp; try omega)
 go_enter Tryz.func33, Tryz.ntmps33
 go_wp2_with fail
 clear ecf hcf; have hk0 : m0 < 64 := by omega
 go_loopg [7] (64 - m0) (fun k v wr => ∃ ll : Nat, Hid (∃ (lp : List Nat) (met : Nat), lp.length = ll /\ LpOk g f lp met /\ k + met = 64 /\ ll <= 1 + met * 20000 /\ LoopW w wr w.heap.size so no (some ⟨fb, foff, none⟩) sc nc bc n gi gm f met v lp))
 case atStart => exact ⟨1, [f], m0, rfl, HL0.out, by omega, by omega, H0'.out⟩
 case round =>
  obtain ⟨ll, HR⟩ := hrel; obtain ⟨lp, met, hll, hlo, hkm, hlb, hW⟩ := HR.out; obtain ⟨vo, vc, rfl⟩ := owns_slice hW.ow; rw [hll] at hW ⊢; have hmlt : met < 2 ^ mN g := hlo.lt HOK.out; have hlb2 : ll <= 1260001 := by omega
  have hllpos : 0 < ll := by
   have := hlo.ne
   cases lp with
   | nil => exact absurd rfl this
   | cons a l => simp at hll; omega
  obtain ⟨gx, cx, hvv, hg1, hg2⟩ := (hll ▸ hW.ow : wr.ownsRow (w.heap.size + 2) 3 1 (.slice vo ll vc) ll (nvals lp)).form hllpos
  injection hvv with e1 e2 e3
  subst e1 e3; obtain ⟨l1, hl1⟩ : ∃ l1, ll = l1 + 1 := ⟨ll - 1, by omega⟩
  obtain ⟨_, _, hcl⟩ := owns_cells (l := lp) (by rw [hll]; exact hll ▸ hW.ow)
  have hx1 := hlo.mem _ (last_mem hlo.ne); have hel := hcl (lp.length - 1) (by omega)
  obtain ⟨x, hx⟩ : ∃ x, x = lp.getD (lp.length - 1) 0 := ⟨_, rfl⟩
  rw [<- hx] at hel hx1; have hxn : x < n := by rw [HNN.out]; exact hx1.2
  have hel' : wr.cell? ⟨gx, l1, none⟩ = some (.int .i64 (x : Int)) := by rw [<- hel]; congr 2; omega
  have HX : Hid (x = lp.getD (lp.length - 1) 0) := hx; have HLo : Hid (LpOk g f lp met) := hlo; have HLW : Hid (LoopW w wr w.heap.size so no (some ⟨fb, foff, none⟩) sc nc bc n gi gm f met (.slice (some ⟨gx, 0, none⟩) ll vc) lp) := hW; have HLL : Hid (lp.length = ll) := hll; have HKM : Hid (gk + met = 64) := hkm; obtain ⟨nb, noff, rfl, hnb, uo, uc, hcu, hnv⟩ := HRow.out x hxn
  have HNv : Hid (NatsV w (.slice uo (nxt g x).length uc) (nxt g x)) := hnv; have hxl := HXL.out x hxn; have hszr := hW.size
  have HS : Hid (∀ w', Below wr.heap.size wr w' -> LoopW w w' w.heap.size so (some ⟨nb, noff, none⟩) (some ⟨fb, foff, none⟩) sc nc bc n gi gm f met (.slice (some ⟨gx, 0, none⟩) ll vc) lp /\ w'.cell? ⟨gx, l1, none⟩ = some (.int .i64 (x : Int)) /\ w'.cell? ⟨nb, noff + x, none⟩ = some (.slice uo (nxt g x).length uc)) := fun w' hb => by
   have h1 := HLW.out.later hb; exact ⟨h1, (hb.cell (p := ⟨gx, l1, none⟩) hg2).trans hel', (h1.below.cell (p := ⟨nb, noff + x, none⟩) hnb).trans hcu⟩
  have hS : ∀ w', Below wr.heap.size wr w' -> w'.cell? ⟨w.heap.size, 0, none⟩ = some (.slice so n sc) /\ w'.cell? ⟨w.heap.size, 1, none⟩ = some (.int .i64 gi) /\ w'.cell? ⟨w.heap.size, 2, none⟩ = some (.slice (some ⟨nb, noff, none⟩) n nc) /\ w'.cell? ⟨w.heap.size, 3, none⟩ = some (.slice (some ⟨fb, foff, none⟩) n bc) /\ w'.cell? ⟨w.heap.size, 4, none⟩ = some (.int .i64 gm) /\ w'.cell? ⟨w.heap.size + 1 + 1 + 1, 0, none⟩ = some (.int .i64 (met : Int)) /\ w'.cell? ⟨gx, l1, none⟩ = some (.int .i64 (x : Int)) /\ w'.cell? ⟨nb, noff + x, none⟩ = some (.slice uo (nxt g x).length uc) := fun w' hb => by
   obtain ⟨h1, h2, h3⟩ := HS.out w' hb; exact ⟨h1.c0, h1.c1, h1.c2, h1.c3, h1.c4, h1.cm, h2, h3⟩
  obtain ⟨ln, hln⟩ : ∃ ln, ln = (nxt g x).length := ⟨_, rfl⟩
  have HLN : Hid (ln = (nxt g x).length) := hln; rw [<- hln] at hS hxl; have hal := HAll.out wr.drew; obtain ⟨tp, htp⟩ : ∃ tp, tp = 2 ^ mN g - 1 := ⟨_, rfl⟩
  have HTP : Hid (tp = 2 ^ mN g - 1) := htp; rw [<- htp] at hal; have hmf : ∀ (fn : Fn) (first cap : Array Value) (w : World), (Instr.makeFunc fn first cap).run Tryz.prog w = .ok (.func fn first cap) w := fun _ _ _ _ => rfl
  clear hcu hnv hel hel' hcl hx hlo hW hll hkm HR hln htp hx1; subst hl1; have j2 : (l1 : Int) + 1 - 1 = (l1 : Int) := by omega
  have j8 : IntKind.i64.wrap (l1 : Int) = (l1 : Int) := by rw [IntKind.wrap_i64]; omega
  have j6 : IntKind.i64.wrap ((l1 : Int) + 1 - 1) = (l1 : Int) := by rw [j2]; exact j8
  have k1 : ((l1 + 1 : Nat) : Int) - 1 = (l1 : Int) := by omega
  have k2 : IntKind.i64.wrap (((l1 + 1 : Nat) : Int) - 1) = (l1 : Int) := by rw [k1]; exact j8
  have k4 : (l1 : Int) < ((l1 + 1 : Nat) : Int) := by omega
  have hli1 : (0 : Int) <= (l1 : Int) := by omega
  have hli2 : (l1 : Int) < (l1 : Int) + 1 := by omega
  by_cases hmt : met = tp
  ·subst hmt
   go_wp2_with fail
   go_region_held3 (fun w' => w'.cell? ⟨w.heap.size, 0, none⟩ = some (.slice so n sc) /\ w'.cell? ⟨w.heap.size, 1, none⟩ = some (.int .i64 gi) /\ w'.cell? ⟨w.heap.size, 2, none⟩ = some (.slice (some ⟨nb, noff, none⟩) n nc) /\ w'.cell? ⟨w.heap.size, 3, none⟩ = some (.slice (some ⟨fb, foff, none⟩) n bc) /\ w'.cell? ⟨w.heap.size, 4, none⟩ = some (.int .i64 gm) /\ w'.cell? ⟨w.heap.size + 1 + 1 + 1, 0, none⟩ = some (.int .i64 (met : Int)) /\ w'.cell? ⟨gx, l1, none⟩ = some (.int .i64 (x : Int)) /\ w'.cell? ⟨nb, noff + x, none⟩ = some (.slice uo ln uc))
    (exact hS _ (by first | exact (Below.refl _ _).drew | exact Below.refl _ _ | exact undrewB hb2))
    ((go_at_call 57; refine hal.mono ?_; rintro e w2 ⟨rfl, hb2⟩))
   have hb2' := undrewB hb2; obtain ⟨hW2, _, _⟩ := HS.out w2 hb2'; have hbw2 := hW2.below; have hsz2 := hW2.size; have HB2 : Hid (Below wr.heap.size wr w2.drew) := hb2'.drew
   have hno : ¬ NoWay ins (fun p => decide (p = f)) (nxt g) (nxt g x) := by
    have := HLo.out.home HOK.out (by rw [<- HNN.out]; exact hf) HF.out HIn.out (want := fun p => decide (p = f)) (fun _ _ => rfl)
    rw [<- HX.out] at this; exact this
   have hway := HWay.out w2.drew uo uc x _ _ _ hbw2.drew hxn (HNv.out.below hbw2.drew) (home_fn w2.drew w.heap.size n f hsz2 hW2.cf) hno; rw [<- HLN.out] at hway; clear hno hal hb2 hb2' HAll HWay hW2
   go_wp2_with fail
   go_region_held3 (fun w' => w'.cell? ⟨w.heap.size, 0, none⟩ = some (.slice so n sc) /\ w'.cell? ⟨w.heap.size, 1, none⟩ = some (.int .i64 gi) /\ w'.cell? ⟨w.heap.size, 2, none⟩ = some (.slice (some ⟨nb, noff, none⟩) n nc) /\ w'.cell? ⟨w.heap.size, 3, none⟩ = some (.slice (some ⟨fb, foff, none⟩) n bc) /\ w'.cell? ⟨w.heap.size, 4, none⟩ = some (.int .i64 gm) /\ w'.cell? ⟨w.heap.size + 1 + 1 + 1, 0, none⟩ = some (.int .i64 (met : Int)) /\ w'.cell? ⟨gx, l1, none⟩ = some (.int .i64 (x : Int)) /\ w'.cell? ⟨nb, noff + x, none⟩ = some (.slice uo ln uc))
    (exact hS _ (by first | exact HB2.out | exact HB2.out.trans (hb3.mono HB2.out.size)))
    ((go_at_call 29; refine hway.mono ?_; rintro e w3 ⟨vo3, vc3, q3, rfl, hb3, HM⟩))
   obtain ⟨l, hlq, hwo, hro3⟩ := HM.out
   have hq3 : 0 < q3 := by
    have := hwo.ne
    cases l with
    | nil => exact absurd rfl this
    | cons a l => simp at hlq; omega
   have hq20 : q3 <= 20000 := by have := hwo.len; omega
   obtain ⟨g3, c3, hvv3, hg31, hg32⟩ := hro3.form hq3
   injection hvv3 with e1 e2 e3
   subst e1 e3; obtain ⟨q, rfl⟩ : ∃ q, q3 = q + 1 := ⟨q3 - 1, by omega⟩
   have hb23 : Below wr.heap.size wr w3 := HB2.out.trans (hb3.mono HB2.out.size); have hW3 := HLW.out.later hb23
   have how3 : w3.ownsRow (w.heap.size + 2) 3 1 (.slice (some ⟨gx, 0, none⟩) (l1 + 1) vc) (l1 + 1) (nvals lp) := by
    have := hW3.ow; rw [HLL.out] at this; exact this
   obtain ⟨hqc, _, hcl3⟩ := owns_cells (l := l) (by rw [hlq]; exact hro3)
   have HLoop : Hid (LoopOk g f (lp ++ l.take (l.length - 1))) := HLo.out.close HOK.out HTP.out (by rw [<- HX.out]; rw [<- HNN.out]; exact hwo) (fun _ _ => rfl)
   have hnews : ∀ j u, (nvals (l.take q))[j]? = some u -> w3.cell? ((⟨g3, 0, none⟩ : Addr).add j) = some u := own_news hcl3 (by omega)
   have hone : ∀ u ∈ nvals (l.take q), u.oneCell' = true := fun u hu => by
    obtain ⟨y, _, rfl⟩ := List.mem_map.1 hu; rfl
   have hlen : (nvals (l.take q)).length = q * 1 := by simp [nvals]; omega
   have h63 : l1 + 1 + q <= maxLen := by unfold maxLen; omega
   have hkb : (l1 + 1 + q) * 8 <= 140737488355328 := by omega
   have hbase : w.heap.size + 2 <= w3.heap.size := by have := hW3.size; omega
   have hlt3 := how3.lt; have hbw3 := hW3.below; have hlq' : l.length - 1 = q := by omega
   rw [hlq'] at HLoop; have HLlen : Hid ((lp ++ l.take q).length = l1 + 1 + q) := by show _ = _; rw [List.length_append, HLL.out, List.length_take]; omega
   have hqc2 : q + 1 <= vc3 := by omega
   clear hW3 hcl3 hro3 hwo HM hway hlq hlq' hmf hS
   go_wp2_with (at_builtin; refine wpList_append_own _ rfl (.tmp 69) (.tmp 74) 38 rfl (w.heap.size + 2) 3 i0 (.int .i64 0) 1 8 Tryz.underlying38 hi0 hz0 hz1 hz2 rfl (by decide) (.slice (some ⟨gx, 0, none⟩) (l1 + 1) vc) (l1 + 1) _ rfl how3 ⟨g3, 0, none⟩ q vc3 (nvals (l.take q)) rfl hlen hnews hone h63 hkb hbase ?_; intro v' w5 hown' hgrow _; obtain ⟨vo5, vc5, rfl⟩ := owns_slice hown')
   go_ret
   refine ⟨_, _, _, rfl, hbw3.grown hgrow hbw3.size (fun z hz => by have := (hlt3 z hz).1; omega), lp ++ l.take q, HLlen.out, by omega, HLoop.out, ?_⟩
   rw [nvals, List.map_append]; exact owns_mono hown' (by omega)
  ·have hmt2 : ¬ (met : Int) = (tp : Int) := by omega
   go_wp2_with fail
   go_region_held3 (fun w' => w'.cell? ⟨w.heap.size, 0, none⟩ = some (.slice so n sc) /\ w'.cell? ⟨w.heap.size, 1, none⟩ = some (.int .i64 gi) /\ w'.cell? ⟨w.heap.size, 2, none⟩ = some (.slice (some ⟨nb, noff, none⟩) n nc) /\ w'.cell? ⟨w.heap.size, 3, none⟩ = some (.slice (some ⟨fb, foff, none⟩) n bc) /\ w'.cell? ⟨w.heap.size, 4, none⟩ = some (.int .i64 gm) /\ w'.cell? ⟨w.heap.size + 1 + 1 + 1, 0, none⟩ = some (.int .i64 (met : Int)) /\ w'.cell? ⟨gx, l1, none⟩ = some (.int .i64 (x : Int)) /\ w'.cell? ⟨nb, noff + x, none⟩ = some (.slice uo ln uc))
    (exact hS _ (by first | exact (Below.refl _ _).drew | exact Below.refl _ _ | exact undrewB hb2))
    ((go_at_call 57; refine hal.mono ?_; rintro e w2 ⟨rfl, hb2⟩))
   have hb2' := undrewB hb2; obtain ⟨hW2, _, _⟩ := HS.out w2 hb2'; have hbw2 := hW2.below; have hsz2 := hW2.size; have HB2 : Hid (Below wr.heap.size wr w2.drew) := hb2'.drew
   have hno : ¬ NoWay ins (fun p => decide (met ||| sN g p ≠ met)) (nxt g) (nxt g x) := by
    have := HLo.out.more HOK.out (by rw [<- HNN.out]; exact hf) HF.out HIn.out (by rw [<- HTP.out]; exact hmt) (want := fun p => decide (met ||| sN g p ≠ met)) (fun _ _ => rfl)
    rw [<- HX.out] at this; exact this
   have hway := HWay.out w2.drew uo uc x _ _ _ hbw2.drew hxn (HNv.out.below hbw2.drew) (newSet_fn w2.drew w.heap.size (some ⟨fb, foff, none⟩) bc n met g HOK.out HNN.out hsz2 hW2.c3 hW2.cm (by omega) (HSet.out w2.drew hbw2.drew)) hno
   rw [<- HLN.out] at hway; clear hno hal hb2 hb2' HAll HWay hW2
   go_wp2_with fail
   go_region_held3 (fun w' => w'.cell? ⟨w.heap.size, 0, none⟩ = some (.slice so n sc) /\ w'.cell? ⟨w.heap.size, 1, none⟩ = some (.int .i64 gi) /\ w'.cell? ⟨w.heap.size, 2, none⟩ = some (.slice (some ⟨nb, noff, none⟩) n nc) /\ w'.cell? ⟨w.heap.size, 3, none⟩ = some (.slice (some ⟨fb, foff, none⟩) n bc) /\ w'.cell? ⟨w.heap.size, 4, none⟩ = some (.int .i64 gm) /\ w'.cell? ⟨w.heap.size + 1 + 1 + 1, 0, none⟩ = some (.int .i64 (met : Int)) /\ w'.cell? ⟨gx, l1, none⟩ = some (.int .i64 (x : Int)) /\ w'.cell? ⟨nb, noff + x, none⟩ = some (.slice uo ln uc))
    (exact hS _ (by first | exact HB2.out | exact HB2.out.trans (hb3.mono HB2.out.size)))
    ((go_at_call 29; refine hway.mono ?_; rintro e w3 ⟨vo3, vc3, q3, rfl, hb3, HM⟩))
   obtain ⟨l, hlq, hwo, hro3⟩ := HM.out
   have hq3 : 0 < q3 := by
    have := hwo.ne
    cases l with
    | nil => exact absurd rfl this
    | cons a l => simp at hlq; omega
   have hq20 : q3 <= 20000 := by have := hwo.len; omega
   obtain ⟨g3, c3, hvv3, hg31, hg32⟩ := hro3.form hq3
   injection hvv3 with e1 e2 e3
   subst e1 e3; have hg31' : w2.heap.size <= g3 := hg31; have hb23 : Below wr.heap.size wr w3 := HB2.out.trans (hb3.mono HB2.out.size); have HW3 : Hid (LoopW w w3 w.heap.size so (some ⟨nb, noff, none⟩) (some ⟨fb, foff, none⟩) sc nc bc n gi gm f (orL (sN g) met (l.take 0)) (.slice (some ⟨gx, 0, none⟩) (l1 + 1) vc) lp) := HLW.out.later hb23
   have HRo : Hid (w3.ownsRow w2.heap.size 3 1 (.slice (some ⟨g3, 0, none⟩) q3 vc3) q3 (nvals l)) := hro3; obtain ⟨HPut, hgrowm⟩ := HLo.out.put HIn.out (want := fun p => decide (met ||| sN g p ≠ met)) (l := l) (by rw [<- HX.out, <- HNN.out]; exact hwo) (fun _ _ => rfl)
   have HPu : Hid (LpOk g f (lp ++ l) (orL (sN g) met l)) := HPut; have HLin : Hid (∀ j, j < q3 -> l.getD j 0 < n) := fun j hj => (hwo.ins _ (by rw [List.getD_eq_getElem?_getD, List.getElem?_eq_getElem (by omega)]; exact List.getElem_mem _)).2
   have HML : Hid (∀ q, orL (sN g) met (l.take q) < 2 ^ mN g) := fun q => orL_lt _ _ hmlt (fun y hy => HSN.out y (hwo.ins y (List.mem_of_mem_take hy)).2)
   have HMS : Hid (∀ q, q < q3 -> orL (sN g) met (l.take (q + 1)) = orL (sN g) met (l.take q) ||| sN g (l.getD q 0)) := fun q hq => by
    rw [List.take_succ_eq_append_getElem (by omega), orL_snoc, List.getD_eq_getElem?_getD, List.getElem?_eq_getElem (by omega)]; rfl
   have HLq : Hid (l.length = q3) := hlq; clear hway HM hro3 hwo HPut hlq HB2 hS
   go_wp2_with fail
   generalize wr = wo at *
   go_loopw [40] (fun i wr => ∃ q : Nat, q <= q3 /\ i = .int .i64 q /\ Hid (LoopW w wr w.heap.size so (some ⟨nb, noff, none⟩) (some ⟨fb, foff, none⟩) sc nc bc n gi gm f (orL (sN g) met (l.take q)) (.slice (some ⟨gx, 0, none⟩) (l1 + 1) vc) lp /\ wr.ownsRow w2.heap.size 3 1 (.slice (some ⟨g3, 0, none⟩) q3 vc3) q3 (nvals l))) (fun i _ => q3 - (intOf i).toNat)
   case atStart => exact ⟨0, Nat.zero_le _, rfl, HW3.out, HRo.out⟩
   case round =>
    obtain ⟨q, hq, rfl, HQ⟩ := hrel; obtain ⟨hLWq, hroq⟩ := HQ.out; obtain ⟨_, _, hclq⟩ := owns_cells (l := l) (by rw [HLq.out]; exact hroq)
    by_cases hlq : q < q3
    ·have e1 := hclq q (by rw [HLq.out]; exact hlq)
     have hyn := HLin.out q hlq; obtain ⟨sb, soff, hsbe, hsb, e2⟩ := HSet.out wr hLWq.below (l.getD q 0) hyn
     injection hsbe with hsbe
     injection hsbe with hs1 hs2
     subst hs1 hs2; have e3 := hLWq.c3; have e4 : wr.cell? ⟨w.heap.size + 1 + 1 + 1, 0, none⟩ = some (.int .i64 (orL (sN g) met (l.take q) : Int)) := hLWq.cm; have e5 : wr.frozen? ⟨w.heap.size + 1 + 1 + 1, 0, none⟩ = false := hLWq.fm; have hor := HOr.out (orL (sN g) met (l.take q)) (HML.out q) (l.getD q 0) hyn; rw [<- HMS.out q hlq] at hor
     have HN : Hid (LoopW w (wr.setCell ⟨w.heap.size + 1 + 1 + 1, 0, none⟩ (.int .i64 (orL (sN g) met (l.take (q + 1)) : Int))).drew w.heap.size so (some ⟨nb, noff, none⟩) (some ⟨fb, foff, none⟩) sc nc bc n gi gm f (orL (sN g) met (l.take (q + 1))) (.slice (some ⟨gx, 0, none⟩) (l1 + 1) vc) lp /\ (wr.setCell ⟨w.heap.size + 1 + 1 + 1, 0, none⟩ (.int .i64 (orL (sN g) met (l.take (q + 1)) : Int))).drew.ownsRow w2.heap.size 3 1 (.slice (some ⟨g3, 0, none⟩) q3 vc3) q3 (nvals l)) := by
      have h9 := hLWq.setMet (orL (sN g) met (l.take (q + 1)))
      have h10 : LoopW w (wr.setCell ⟨w.heap.size + 1 + 1 + 1, 0, none⟩ (.int .i64 (orL (sN g) met (l.take (q + 1)) : Int))).drew w.heap.size so (some ⟨nb, noff, none⟩) (some ⟨fb, foff, none⟩) sc nc bc n gi gm f (orL (sN g) met (l.take (q + 1))) (.slice (some ⟨gx, 0, none⟩) (l1 + 1) vc) lp := h9.blocks h9.below.drew (Nat.le_refl _) rfl rfl rfl h9.ow h9.ap
      exact ⟨h10, ownsRow_setCell_below hroq (by show w.heap.size + 3 < _; omega) _⟩
     rw [<- hor] at HN; clear hLWq hroq hclq HQ hor; generalize orL (sN g) met (l.take q) = mq at *; generalize l.getD q 0 = y at *; generalize sN g y = sy at *
     go_upto_region 8 with fail
     go_region
     go_wp2_with fail
     go_roundw
     case rel => exact ⟨q + 1, hlq, by go_num, HN⟩
     case measure => simp [intOf]; omega
    ·obtain rfl : q = q3 := by omega
     have hTk : l.take q = l := by rw [<- HLq.out]; exact List.take_length
     have hnews : ∀ j u, (nvals l)[j]? = some u -> wr.cell? ((⟨g3, 0, none⟩ : Addr).add j) = some u := by
      have := own_news hclq (Nat.le_refl l.length); rw [List.take_length] at this; exact this
     rw [hTk] at hLWq
     have hone : ∀ u ∈ nvals l, u.oneCell' = true := fun u hu => by
      obtain ⟨y, _, rfl⟩ := List.mem_map.1 hu; rfl
     have hlen : (nvals l).length = q * 1 := by simp [nvals]; exact HLq.out
     have h63 : l1 + 1 + q <= maxLen := by unfold maxLen; omega
     have hkb : (l1 + 1 + q) * 8 <= 140737488355328 := by omega
     have hszq := hLWq.size; have hbase : w.heap.size + 2 <= wr.heap.size := by omega
     have howq : wr.ownsRow (w.heap.size + 2) 3 1 (.slice (some ⟨gx, 0, none⟩) (l1 + 1) vc) (l1 + 1) (nvals lp) := by
      have := hLWq.ow; rw [HLL.out] at this; exact this
     have HLWq : Hid (LoopW w wr w.heap.size so (some ⟨nb, noff, none⟩) (some ⟨fb, foff, none⟩) sc nc bc n gi gm f (orL (sN g) met l) (.slice (some ⟨gx, 0, none⟩) (l1 + 1) vc) lp) := hLWq; have HG : Hid (met < orL (sN g) met l /\ orL (sN g) met l < 64) := ⟨hgrowm, by have := HML.out q; rw [hTk] at this; omega⟩
     clear hLWq hroq hclq HQ
     go_wp2_with (at_builtin; refine wpList_append_lies _ rfl (.tmp 52) (.tmp 53) 38 rfl (w.heap.size + 2) 3 i0 (.int .i64 0) 1 8 Tryz.underlying38 hi0 hz0 hz1 hz2 rfl (by decide) (.slice (some ⟨gx, 0, none⟩) (l1 + 1) vc) (l1 + 1) _ rfl howq ⟨g3, 0, none⟩ q vc3 (nvals l) rfl hlen hnews hone hq3 h63 hkb hbase _ rfl ?_; intro g5 c5 w5 hown5 hgrow5 hor5 _)
     have hap := HLWq.out.ap; have hlt9 := howq.lt; have hgx2 : w.heap.size + 2 <= gx /\ gx < wr.heap.size := hlt9 gx rfl; have hgx3 : gx ≠ w.heap.size + 3 := fun e => hap (by rw [e]; rfl)
     have hW5 : LoopW w w5 w.heap.size so (some ⟨nb, noff, none⟩) (some ⟨fb, foff, none⟩) sc nc bc n gi gm f (orL (sN g) met l) (.slice (some ⟨g5, 0, none⟩) (l1 + 1 + q) c5) (lp ++ l) := by
      have hbl : ∀ i, i < wr.heap.size -> i ≠ gx -> w5.heap[i]? = wr.heap[i]? := fun i hi hne => hgrow5.block i hi (fun e => hne (by injection e))
      refine HLWq.out.blocks (HLWq.out.below.grown hgrow5 (by omega) (fun z hz => by have := (hlt9 z hz).1; omega)) hgrow5.size (hbl _ (by omega) (by omega)) (hbl _ (by omega) (by omega)) (hbl _ (by omega) (fun e => hgx3 e.symm)) ?_ ?_
      ·rw [List.length_append, HLL.out, HLq.out, nvals, List.map_append]; exact hown5
      ·intro e
       have e' : g5 = w.heap.size + 3 := by injection e
       rcases hor5 with h | h
       ·rw [e'] at h; exact hap h
       ·omega
     have HN : Hid (∃ (lp : List Nat) (met : Nat), lp.length = l1 + 1 + q /\ LpOk g f lp met /\ (64 - orL (sN g) (64 - gk) l) + met = 64 /\ l1 + 1 + q <= 1 + met * 20000 /\ LoopW w w5 w.heap.size so (some ⟨nb, noff, none⟩) (some ⟨fb, foff, none⟩) sc nc bc n gi gm f met (.slice (some ⟨g5, 0, none⟩) (l1 + 1 + q) c5) lp) := by
      have h1 := HG.out; have h2 : 64 - gk = met := by have := HKM.out; omega
      refine ⟨lp ++ l, orL (sN g) met l, by rw [List.length_append, HLL.out, HLq.out], HPu.out, by rw [h2]; omega, by omega, hW5⟩
     go_roundg (64 - orL (sN g) (64 - gk) l)
     case measure =>
      have h1 := HG.out; have h2 : 64 - gk = met := by have := HKM.out; omega
      rw [h2]; have := HKM.out; omega
     case rel => exact ⟨l1 + 1 + q, HN⟩
theorem Trail.join {nx : Nat -> List Nat} {f : Nat} {r : List Nat} : ∀ {a : List Nat}, Trail nx (a ++ [f]) -> Trail nx (f :: r) -> Trail nx (a ++ f :: r)
 | [], _, h => h
 | [_], h1, h => ⟨h1.1, h⟩
 | _ :: y :: a, h1, h => ⟨h1.1, Trail.join (a := y :: a) h1.2 h⟩
theorem filter_all (nx : Nat -> List Nat) : (fun i => (nx i).filter (fun _ => true)) = nx := by
 funext i
 simp
open Classical in
theorem noWay_none {g : Gr} (h : NoWay (fun _ => true) (fun x => decide (FairX g x)) (nxt g) (List.range g.init.toNat)) : fairV g = 0 /\ fairC g = 11 := by
 refine fair_none fun j _ ⟨⟨f, hf, hw⟩, h2⟩ => ?_
 have := h f hf rfl j (by rw [filter_all]; exact hw)
 exact absurd h2 (of_decide_eq_false this)
theorem take_last {l : List Nat} (h : l ≠ []) : l.take (l.length - 1) ++ [l.getD (l.length - 1) 0] = l := by
 have hpos : 0 < l.length := by
  cases l with
  | nil => exact absurd rfl h
  | cons a l => simp
 have h3 : l = l.take (l.length - 1 + 1) := by rw [List.take_of_length_le (by omega)]
 conv => rhs; rw [h3, List.take_succ_eq_append_getElem (by omega)]
 rw [List.getD_eq_getElem?_getD, List.getElem?_eq_getElem (by omega)]; rfl
open Classical in
theorem lasso_ok {g : Gr} (hg : GOk g) {l lp : List Nat} (h : WayOk g.spots.length (fun _ => true) (fun x => decide (FairX g x)) (nxt g) (List.range g.init.toNat) l) (hl : LoopOk g (l.getD (l.length - 1) 0) lp) : LassoOk g (l.take (l.length - 1)) lp /\ fairC g = 0 := by
 have hm := last_mem h.ne; have hF : FairX g (l.getD (l.length - 1) 0) := of_decide_eq_true h.last; have hR : ReachX g (l.getD (l.length - 1) 0) := ⟨_, h.head, h.trail.way h.ne⟩; have htl := take_last h.ne; generalize hf : l.getD (l.length - 1) 0 = f at *
 obtain ⟨r, rfl⟩ : ∃ r, lp = f :: r := by
  cases lp with
  | nil => exact absurd rfl hl.ne
  | cons a r => exact ⟨r, by have := hl.head; simp at this; rw [this]⟩
 have hini := hg.head.init0; refine ⟨⟨by simp, ?_, ?_, fun x hx => ?_, hl.bits⟩, fair_some (h.ins f (by rw [<- hf]; exact last_mem h.ne)).2 ⟨hR, hF⟩⟩
 ·rw [List.append_assoc]
  show Trail (nxt g) (l.take (l.length - 1) ++ (f :: (r ++ [f])))
  exact Trail.join (by rw [htl]; exact h.trail) hl.trail
 ·have e : (l.take (l.length - 1) ++ f :: r).getD 0 0 = l.getD 0 0 := by
   have h1 : ∀ a : List Nat, (a ++ f :: r).getD 0 0 = (a ++ [f]).getD 0 0 := fun a => by cases a <;> rfl
   rw [h1, htl]
  rw [e]; have := List.mem_range.1 h.head; omega
 ·rcases List.mem_append.1 hx with hx | hx
  ·exact (h.ins x (List.mem_of_mem_take hx)).2
  ·exact hl.lt x hx
theorem fair_fn (w0 : World) (b B n : Nat) (F : Nat -> Bool) (hb : b < w0.heap.size) (h : w0.cell? ⟨b, 0, none⟩ = some (.slice (some ⟨B, 0, none⟩) n n)) (hr : w0.rowIs B 4 n (fun x => .bool (F x))) :
    FnB w0 w0.heap.size n (.func (.func 32) #[] #[.pointer (some ⟨b, 0, none⟩)]) F := by
  refine ⟨_, _, rfl, fun args w => by simp [go_sem], fun w' hw p hp => ?_⟩
  show Calls Tryz.prog 32 #[.int .i64 (p : Int), .pointer (some ⟨b, 0, none⟩)] w' _
  have e1 := (hw.cell (p := ⟨b, 0, none⟩) hb).trans h; have e2 := (row_laterG hr hw).cell hp; clear hr h
  go_enter Tryz.func32, Tryz.ntmps32
  go_wp2_with fail
  go_ret
  exact ⟨rfl, Below.refl _ _⟩
theorem part_fn (w0 : World) (b b2 B n f : Nat) (pz : Nat -> Nat) (hb : b < w0.heap.size) (hb2 : b2 < w0.heap.size) (hf : f < n) (h : w0.cell? ⟨b, 0, none⟩ = some (.slice (some ⟨B, 0, none⟩) n n)) (h2 : w0.cell? ⟨b2, 0, none⟩ = some (.int .i64 (f : Int))) (hr : w0.rowIs B 3 n (natRow pz)) :
  FnB w0 w0.heap.size n (.func (.func 34) #[] #[.pointer (some ⟨b, 0, none⟩), .pointer (some ⟨b2, 0, none⟩)]) (fun p => decide (pz p = pz f)) := by
 refine ⟨_, _, rfl, fun args w => by simp [go_sem], fun w' hw p hp => ?_⟩
 have e : decide (pz p = pz f) = ((pz p : Int) == (pz f : Int)) := by
  show _ = decide ((pz p : Int) = (pz f : Int))
  rw [decide_eq_decide]; omega
 show Calls Tryz.prog 34 #[.int .i64 (p : Int), .pointer (some ⟨b, 0, none⟩), .pointer (some ⟨b2, 0, none⟩)] w' fun e w2 => e = .returned (.bool (decide (pz p = pz f))) /\ Below w'.heap.size w' w2
 rw [e]; have e1 := (hw.cell (p := ⟨b, 0, none⟩) hb).trans h; have e2 := (hw.cell (p := ⟨b2, 0, none⟩) hb2).trans h2; have e3 : w'.cell? ⟨B, p, none⟩ = some (.int .i64 (pz p : Int)) := (row_laterG hr hw).cell hp; have e4 : w'.cell? ⟨B, f, none⟩ = some (.int .i64 (pz f : Int)) := (row_laterG hr hw).cell hf; clear hr h h2 e; generalize pz p = x at *; generalize pz f = y at *
 go_enter Tryz.func34, Tryz.ntmps34
 go_wp2_with fail
 go_quiet (fail)
 go_wp2_with fail
 go_ret
 exact ⟨rfl, below_drewN (Below.refl _ _) _⟩
def LassoV (g : Gr) (w' : World) (v : Value) (c : Int) : Prop := (c = 11 /\ fairC g = 11 /\ v = .agg #[.slice none 0 0, .slice none 0 0]) \/ (c = 0 /\ fairC g = 0 /\ ∃ so sc lo lc st lp, v = .agg #[.slice so st.length sc, .slice lo lp.length lc] /\ st.length <= 20000 /\ lp.length <= 2000000 /\ LassoOk g st lp /\ NatsV w' (.slice so st.length sc) st /\ NatsV w' (.slice lo lp.length lc) lp)
theorem natsV_owns {w : World} {base : Nat} {v : Value} {l : List Nat} (h : w.ownsRow base 3 1 v l.length (nvals l)) : NatsV w v l := by
 rcases h.2 with ⟨e, h0⟩ | ⟨g, cap, cur, e, _⟩
 ·exact ⟨none, 0, by rw [e, h0], fun hne => by cases l with | nil => exact absurd rfl hne | cons a l => simp at h0⟩
 ·subst e
  obtain ⟨_, _, hc⟩ := owns_cells h; obtain ⟨_, hlt⟩ := h.lt g rfl; exact ⟨_, _, rfl, fun _ => ⟨g, 0, rfl, hlt, fun i hi => by rw [Nat.zero_add]; exact hc i hi⟩⟩
theorem natsV_take {w : World} {ao : Option Addr} {c : Nat} {l : List Nat} (h : NatsV w (.slice ao l.length c) l) {q : Nat} (hq : q <= l.length) : NatsV w (.slice ao (l.take q).length c) (l.take q) := by
 obtain ⟨ao', cap, e, h2⟩ := h
 injection e with e1 e2 e3
 subst e1 e3; refine ⟨ao, c, rfl, fun hne => ?_⟩
 obtain ⟨b, off, e4, h4, h5⟩ := h2 (fun e => hne (by rw [e]; simp))
 refine ⟨b, off, e4, h4, fun i hi => ?_⟩
 have hi2 : i < q := by rw [List.length_take] at hi; omega
 rw [h5 i (by omega)]
 simp [List.getD_eq_getElem?_getD, hi2]
theorem slasso_ok (so no bo : Option Addr) (sc nc bc : Nat) (g : Gr) (w : World) (hz : GrLe g) (hV : GraphV w (.slice so g.spots.length sc) (.slice no g.next.length nc) (.slice bo g.sets.length bc) g) (hc : gcode g = 0) :
  Calls Tryz.prog 10 #[.agg #[.slice so g.spots.length sc, .int .i64 g.init, .slice no g.next.length nc, .slice bo g.sets.length bc, .int .i64 g.many]] w fun e w' => ∃ v c, e = .returned (.tuple #[v, .int .i64 c]) /\ Below w.heap.size w w' /\ Hid (LassoV g w' v c) := by
 classical
 have hok := gcode_zero hc; have hgn := hok.head.next; have hgs := hok.head.sets; have hn := hok.head.n; obtain ⟨gi, hgi⟩ : ∃ gi : Nat, g.init = gi := ⟨g.init.toNat, by have := hok.head.init0; omega⟩
 have hgin : gi <= g.spots.length := by have := hok.head.init1; omega
 have hgt : g.init.toNat = gi := by omega
 obtain ⟨W0, hW0⟩ : ∃ W0, W0 = (w.alloc (.cells #[.slice so g.spots.length sc, .int .i64 (gi : Int), .slice no g.spots.length nc, .slice bo g.spots.length bc, .int .i64 g.many] 40)).alloc (.cells #[.slice none 0 0, .slice none 0 0] 47) := ⟨_, rfl⟩
 have hA : Below w.heap.size w W0 := by rw [hW0]; exact ((Below.refl _ _).alloc (Nat.le_refl _) _).alloc (by simp) _
 have hs0 : W0.heap.size = w.heap.size + 2 := by rw [hW0]; simp
 have HK : Hid (∀ w1, Below W0.heap.size W0 w1 -> (w1.cell? ⟨w.heap.size, 0, none⟩ = some (.slice so g.spots.length sc) /\ w1.cell? ⟨w.heap.size, 1, none⟩ = some (.int .i64 (gi : Int)) /\ w1.cell? ⟨w.heap.size, 2, none⟩ = some (.slice no g.spots.length nc) /\ w1.cell? ⟨w.heap.size, 3, none⟩ = some (.slice bo g.spots.length bc) /\ w1.cell? ⟨w.heap.size, 4, none⟩ = some (.int .i64 g.many)) /\ w1.cell? ⟨w.heap.size + 1, 0, none⟩ = some (.slice none 0 0) /\ w1.cell? ⟨w.heap.size + 1, 1, none⟩ = some (.slice none 0 0) /\ w1.frozen? ⟨w.heap.size + 1, 0, none⟩ = false /\ w1.frozen? ⟨w.heap.size + 1, 1, none⟩ = false) := fun w1 hb => by
  have hlt : w.heap.size + 1 < W0.heap.size := by omega
  have hlt0 : w.heap.size < W0.heap.size := by omega
  have c : ∀ j, w1.cell? ⟨w.heap.size, j, none⟩ = W0.cell? ⟨w.heap.size, j, none⟩ := fun j => hb.cell (p := ⟨w.heap.size, j, none⟩) hlt0
  refine ⟨⟨(c _).trans ?_, (c _).trans ?_, (c _).trans ?_, (c _).trans ?_, (c _).trans ?_⟩, (hb.cell (p := ⟨w.heap.size + 1, 0, none⟩) hlt).trans ?_, (hb.cell (p := ⟨w.heap.size + 1, 1, none⟩) hlt).trans ?_, (hb.frozen (p := ⟨w.heap.size + 1, 0, none⟩) hlt).trans ?_, (hb.frozen (p := ⟨w.heap.size + 1, 1, none⟩) hlt).trans ?_⟩ <;> (rw [hW0]; simp [go_sem])
 have hVb : ∀ w1, Below W0.heap.size W0 w1 -> GraphV w1 (.slice so g.spots.length sc) (.slice no g.next.length nc) (.slice bo g.sets.length bc) g := fun w1 hb => (hV.below hA).below hb
 have hpa := sparts_ok so no bo sc nc bc g W0 hz (hV.below hA) hc; rw [hgn, hgs, hgi] at hpa
 have HFs : Hid (∀ (w1 : World) (B : Nat) pz, Below W0.heap.size W0 w1 -> w1.rowIs B 3 g.spots.length (natRow pz) -> PzOk g pz -> Calls Tryz.prog 26 #[.agg #[.slice so g.spots.length sc, .int .i64 (gi : Int), .slice no g.spots.length nc, .slice bo g.spots.length bc, .int .i64 g.many], .slice (some ⟨B, 0, none⟩) g.spots.length g.spots.length] w1 fun e w' => ∃ Bf, e = .returned (.slice (some ⟨Bf, 0, none⟩) g.spots.length g.spots.length) /\ Below w1.heap.size w1 w' /\ Hid (w'.rowIs Bf 4 g.spots.length (fun x => .bool (decide (FairX g x))))) := fun w1 B pz hb h1 h3 => by
  have h := fairSpots_any so no bo sc nc bc B g pz w1 hz (hVb w1 hb) hok h1 (fun x hx => Nat.lt_of_le_of_lt (h3.le hx) hx)
  rw [hgn, hgs, hgi] at h; exact h.mono fun e w' ⟨Bf, e1, e2, e3⟩ => ⟨Bf, e1, e2, e3.out.2.congr fun x hx => by rw [fairB_x hok h3 hx]⟩
 have HFi : Hid (∀ w1, Calls Tryz.prog 30 #[.agg #[.slice so g.spots.length sc, .int .i64 (gi : Int), .slice no g.spots.length nc, .slice bo g.spots.length bc, .int .i64 g.many]] w1 fun e w' => ∃ vo vc, e = .returned (.slice vo (List.range gi).length vc) /\ Below w1.heap.size w1 w' /\ NatsV w' (.slice vo (List.range gi).length vc) (List.range gi)) := fun w1 => firsts_any so no bo _ sc _ nc _ bc gi g.many w1 (by omega)
 have HWy : Hid (∀ w1 vo vc fw cw want, Below W0.heap.size W0 w1 -> NatsV w1 (.slice vo (List.range gi).length vc) (List.range gi) -> FnB w1 w1.heap.size g.spots.length (.func (.func fw) #[] cw) want -> Calls Tryz.prog 29 #[.agg #[.slice so g.spots.length sc, .int .i64 (gi : Int), .slice no g.spots.length nc, .slice bo g.spots.length bc, .int .i64 g.many], .slice vo (List.range gi).length vc, .func (.func 31) #[] #[], .func (.func fw) #[] cw] w1 fun e w' => ∃ vo vc q, e = .returned (.slice vo q vc) /\ Below w1.heap.size w1 w' /\ Hid (∃ l, l.length = q /\ WayPost g.spots.length (fun _ => true) want (nxt g) (List.range gi) l /\ w'.ownsRow w1.heap.size 3 1 (.slice vo q vc) q (nvals l))) := fun w1 vo vc fw cw want hb hN hF => by
  have h := way_any so no bo vo sc nc bc vc g (List.range gi) 31 fw #[] cw (fun _ => true) want w1 hok (fun i hi => hz.rows i (by rw [hgn]; exact hi)) (hVb w1 hb) hN (by simp; omega) (fun x hx => by have := List.mem_range.1 hx; omega) (anywhere_fn _ _ _) hF
  rw [hgn, hgs, hgi] at h; exact h
 have HLf : Hid (∀ w1 f fi ci ins, Below W0.heap.size W0 w1 -> f < g.spots.length -> FairX g f -> InPart g f ins -> FnB w1 w1.heap.size g.spots.length (.func (.func fi) #[] ci) ins -> Calls Tryz.prog 33 #[.agg #[.slice so g.spots.length sc, .int .i64 (gi : Int), .slice no g.spots.length nc, .slice bo g.spots.length bc, .int .i64 g.many], .int .i64 (f : Int), .func (.func fi) #[] ci] w1 fun e w' => ∃ vo vc q, e = .returned (.slice vo q vc) /\ Below w1.heap.size w1 w' /\ Hid (∃ l, l.length = q /\ q <= 2000000 /\ LoopOk g f l /\ w'.ownsRow w1.heap.size 3 1 (.slice vo q vc) q (nvals l))) := fun w1 f fi ci ins hb hf hF hI hFn => by
  have h := loopFrom_any so no bo sc nc bc g f fi ci ins w1 hz (hVb w1 hb) hok hf hF hI hFn; rw [hgn, hgs, hgi] at h; exact h
 have HPz : Hid (∀ pt, PartsOk g pt -> ∃ pz, PzOk g pz /\ ∀ (w1 : World) (B : Nat), w1.rowIs B 3 g.spots.length (intRow pt) -> w1.rowIs B 3 g.spots.length (natRow pz)) := fun pt h => by
  obtain ⟨h3, h4⟩ := h.pz; exact ⟨_, h3, fun w1 B h1 => h1.congr fun x hx => by unfold intRow natRow; rw [<- h4 x hx]⟩
 have HNone : Hid (NoWay (fun _ => true) (fun x => decide (FairX g x)) (nxt g) (List.range gi) -> fairC g = 11) := fun h => by
  rw [<- hgt] at h; exact (noWay_none h).2
 have HSome : Hid (∀ l lp, WayOk g.spots.length (fun _ => true) (fun x => decide (FairX g x)) (nxt g) (List.range gi) l -> LoopOk g (l.getD (l.length - 1) 0) lp -> LassoOk g (l.take (l.length - 1)) lp /\ fairC g = 0) := fun l lp h h2 => by
  rw [<- hgt] at h; exact lasso_ok hok h h2
 have HIn : Hid (∀ pz f, PzOk g pz -> f < g.spots.length -> InPart g f (fun p => decide (pz p = pz f))) := fun pz f hp hf x hx => by
  rw [decide_eq_true_iff, hp.iff hx hf]; exact ⟨Mut.symm, Mut.symm⟩
 have HPO : Hid (∀ pt, PartsOk g pt -> PartsOk g pt) := fun _ h => h
 rw [hgn, hgs, hgi]; clear hV hVb hz hc hok hgn hgs hgi hgt; generalize hPO : PartsOk g = PO at *; obtain ⟨lr, hlr⟩ : ∃ lr, lr = (List.range gi).length := ⟨_, rfl⟩
 have HLr : Hid (lr = (List.range gi).length) := hlr; rw [<- hlr] at HFi HWy; clear hPO hlr; obtain ⟨n, hnn⟩ : ∃ n, n = g.spots.length := ⟨_, rfl⟩
 rw [<- hnn] at hW0 HK hpa HFs HFi HWy HLf HPz HSome HIn hn hgin ⊢; generalize g.many = gm at *; rw [hW0] at hpa; have HW0 : Hid (W0 = (w.alloc (.cells #[.slice so n sc, .int .i64 (gi : Int), .slice no n nc, .slice bo n bc, .int .i64 gm] 40)).alloc (.cells #[.slice none 0 0, .slice none 0 0] 47)) := hW0; clear hW0 hnn
 have hmf : ∀ (fn : Fn) (first cap : Array Value) (w : World), (Instr.makeFunc fn first cap).run Tryz.prog w = .ok (.func fn first cap) w := fun _ _ _ _ => rfl
 go_enter Tryz.func10, Tryz.ntmps10
 go_upto_region 4 with (go_at_call 28; refine hpa.mono ?_; rintro e w1 ⟨B, rfl, hb1, HP⟩; rw [<- HW0.out] at hb1)
 obtain ⟨pt, hBl, hrow1, hpt⟩ := HP.out; obtain ⟨pz, hpz, hconv⟩ := HPz.out pt hpt; have hrow1 := hconv w1 B hrow1; have hbx : Below W0.heap.size W0 (w1.alloc (.cells #[.slice (some ⟨B, 0, none⟩) n n] 38)) := hb1.alloc hb1.size _; have hcb : (w1.alloc (.cells #[.slice (some ⟨B, 0, none⟩) n n] 38)).cell? ⟨w1.heap.size, 0, none⟩ = some (.slice (some ⟨B, 0, none⟩) n n) := by simp [go_sem]
 have hs1 : w1.heap.size < (w1.alloc (.cells #[.slice (some ⟨B, 0, none⟩) n n] 38)).heap.size := by simp
 have hrow2 : (w1.alloc (.cells #[.slice (some ⟨B, 0, none⟩) n n] 38)).rowIs B 3 n (natRow pz) := hrow1.alloc _; generalize w1.alloc (.cells #[.slice (some ⟨B, 0, none⟩) n n] 38) = W2 at hbx hcb hs1 hrow2 ⊢; have HPzO : Hid (PzOk g pz) := hpz; have HRow2 : Hid (W2.rowIs B 3 n (natRow pz)) := hrow2; have HBx : Hid (Below W0.heap.size W0 W2) := hbx; have hfs := HFs.out W2 B pz hbx hrow2 hpz
 obtain ⟨⟨a0, a1, a2, a3, a4⟩, _⟩ := HK.out W2 hbx; clear HP hb1 hrow1 hconv hpt hpa hrow2 hpz HFs HPz hBl
 go_upto_region 5 with (go_at_call 26; refine hfs.mono ?_; rintro e w3 ⟨Bf, rfl, hb3, HF3⟩)
 have hb23 : Below W0.heap.size W0 w3 := HBx.out.trans (hb3.mono HBx.out.size); have hb4 : Below W0.heap.size W0 (w3.alloc (.cells #[.slice (some ⟨Bf, 0, none⟩) n n] 72)) := hb23.alloc hb23.size _; have hcf4 : (w3.alloc (.cells #[.slice (some ⟨Bf, 0, none⟩) n n] 72)).cell? ⟨w3.heap.size, 0, none⟩ = some (.slice (some ⟨Bf, 0, none⟩) n n) := by simp [go_sem]
 have hs4 : w3.heap.size < (w3.alloc (.cells #[.slice (some ⟨Bf, 0, none⟩) n n] 72)).heap.size := by simp
 have hF4 : (w3.alloc (.cells #[.slice (some ⟨Bf, 0, none⟩) n n] 72)).rowIs Bf 4 n (fun x => .bool (decide (FairX g x))) := HF3.out.alloc _
 have hcb4 : (w3.alloc (.cells #[.slice (some ⟨Bf, 0, none⟩) n n] 72)).cell? ⟨w1.heap.size, 0, none⟩ = some (.slice (some ⟨B, 0, none⟩) n n) := (((Below.refl w3.heap.size w3).alloc (Nat.le_refl _) _).cell (p := ⟨w1.heap.size, 0, none⟩) (Nat.lt_of_lt_of_le hs1 hb3.size)).trans ((hb3.cell (p := ⟨w1.heap.size, 0, none⟩) hs1).trans hcb)
 have hrB4 : (w3.alloc (.cells #[.slice (some ⟨Bf, 0, none⟩) n n] 72)).rowIs B 3 n (natRow pz) := (row_laterG HRow2.out hb3).alloc _; have hs14 : w1.heap.size < (w3.alloc (.cells #[.slice (some ⟨Bf, 0, none⟩) n n] 72)).heap.size := by have := hb3.size; simp; omega
 generalize w3.alloc (.cells #[.slice (some ⟨Bf, 0, none⟩) n n] 72) = W4 at hb4 hcf4 hs4 hF4 hcb4 hrB4 hs14 ⊢; have HB4 : Hid (Below W0.heap.size W0 W4) := hb4
 have HAt : Hid (∀ w', Below W4.heap.size W4 w' -> w'.cell? ⟨w3.heap.size, 0, none⟩ = some (.slice (some ⟨Bf, 0, none⟩) n n) /\ w3.heap.size < w'.heap.size /\ w'.rowIs Bf 4 n (fun x => .bool (decide (FairX g x))) /\ w'.cell? ⟨w1.heap.size, 0, none⟩ = some (.slice (some ⟨B, 0, none⟩) n n) /\ w1.heap.size < w'.heap.size /\ w'.rowIs B 3 n (natRow pz) /\ Below W0.heap.size W0 w') := fun w' hb => ⟨(hb.cell (p := ⟨w3.heap.size, 0, none⟩) hs4).trans hcf4, Nat.lt_of_lt_of_le hs4 hb.size, row_laterG hF4 hb, (hb.cell (p := ⟨w1.heap.size, 0, none⟩) hs14).trans hcb4, Nat.lt_of_lt_of_le hs14 hb.size, row_laterG hrB4 hb, HB4.out.trans (hb.mono HB4.out.size)⟩
 have hS : ∀ w', Below W4.heap.size W4 w' -> w'.cell? ⟨w.heap.size, 0, none⟩ = some (.slice so n sc) /\ w'.cell? ⟨w.heap.size, 1, none⟩ = some (.int .i64 (gi : Int)) /\ w'.cell? ⟨w.heap.size, 2, none⟩ = some (.slice no n nc) /\ w'.cell? ⟨w.heap.size, 3, none⟩ = some (.slice bo n bc) /\ w'.cell? ⟨w.heap.size, 4, none⟩ = some (.int .i64 gm) := fun w' hb => (HK.out w' (HAt.out w' hb).2.2.2.2.2.2).1
 have hfi := HFi.out W4.drew
 have HFn : Hid (∀ w', Below W4.heap.size W4 w' -> FnB w' w'.heap.size n (.func (.func 32) #[] #[.pointer (some ⟨w3.heap.size, 0, none⟩)]) (fun x => decide (FairX g x))) := fun w' hb => by
  obtain ⟨h1, h2, h3, _⟩ := HAt.out w' hb; exact fair_fn w' w3.heap.size Bf n _ h2 h1 h3
 clear hcf4 hF4 hcb4 hrB4 hb4 HF3 hfs hb3 hb23 hcb HBx HRow2 a0 a1 a2 a3 a4
 go_region_held3 (fun w' => w'.cell? ⟨w.heap.size, 0, none⟩ = some (.slice so n sc) /\ w'.cell? ⟨w.heap.size, 1, none⟩ = some (.int .i64 (gi : Int)) /\ w'.cell? ⟨w.heap.size, 2, none⟩ = some (.slice no n nc) /\ w'.cell? ⟨w.heap.size, 3, none⟩ = some (.slice bo n bc) /\ w'.cell? ⟨w.heap.size, 4, none⟩ = some (.int .i64 gm))
  (exact hS _ (by first | exact (Below.refl _ _).drew | exact Below.refl _ _ | exact hb5' | exact hb6'))
  (first | (go_at_call 30; refine hfi.mono ?_; rintro e w5 ⟨vo5, vc5, rfl, hb5, hN5⟩; have hb5' : Below W4.heap.size W4 w5 := undrewB hb5; have hwy := HWy.out w5 vo5 vc5 _ _ _ (HAt.out w5 hb5').2.2.2.2.2.2 (by rw [HLr.out] at hN5 ⊢; exact hN5) (HFn.out w5 hb5')) | (go_at_call 29; refine hwy.mono ?_; rintro e w6 ⟨vo6, vc6, q6, rfl, hb6, HM⟩; have hb6' : Below W4.heap.size W4 w6 := hb5'.trans (hb6.mono hb5'.size)))
 all_goals
  obtain ⟨l, hlq, hpost, hro6⟩ := HM.out; obtain ⟨h1, h2, h3, h4, h5, h6, hbw6⟩ := HAt.out w6 hb6'; obtain ⟨hk6, r0, r1, f0, f1⟩ := HK.out w6 hbw6; have hbb6 : Below w.heap.size w w6 := hA.trans (hbw6.mono hA.size)
  rcases hpost with ⟨rfl, hno⟩ | hwo
  ·have hq0 : q6 = 0 := by rw [<- hlq]; rfl
   subst hq0; have hC := HNone.out hno; have HCC : Hid (fairC g = 11) := hC; clear hno hC hlq hro6 HM hwy hfi HFn hS HAt HWy HFi HLf HSome HNone
   go_wp2_with fail
   refine bodyPost_ret (v := .tuple #[.agg #[.slice none 0 0, .slice none 0 0], .int .i64 11]) ?_ rfl ⟨_, _, rfl, ?_, .inl ⟨rfl, HCC.out, rfl⟩⟩
   ·simp only [results, Tryz.results10]
    simp [go_sem, r0, r1]
   ·exact (hbb6.setCell (by show w.heap.size <= w.heap.size + 1; omega) _).setCell (by show w.heap.size <= w.heap.size + 1; omega) _
  ·have hq6 : 0 < q6 := by
    have := hwo.ne
    cases l with
    | nil => exact absurd rfl this
    | cons a l => simp at hlq; omega
   have hq20 : q6 <= 20000 := by have := hwo.len; omega
   obtain ⟨g6, c6, hvv6, hg61, hg62⟩ := hro6.form hq6
   injection hvv6 with e1 e2 e3
   subst e1 e3; obtain ⟨q, rfl⟩ : ∃ q, q6 = q + 1 := ⟨q6 - 1, by omega⟩
   obtain ⟨hqc, _, hcl6⟩ := owns_cells (l := l) (by rw [hlq]; exact hro6)
   have hcq := hcl6 q (by omega)
   have hlst : l.length - 1 = q := by omega
   have hmf9 := last_mem hwo.ne; rw [hlst] at hmf9; have hfn := (hwo.ins _ hmf9).2
   have hFx : FairX g (l.getD q 0) := by
    have := hwo.last; rw [hlst] at this; exact of_decide_eq_true this
   have HS9 : Hid (∀ lp, LoopOk g (l.getD q 0) lp -> LassoOk g (l.take q) lp /\ fairC g = 0) := fun lp h => by
    have := HSome.out l lp hwo (by rw [hlst]; exact h)
    rw [hlst] at this; exact this
   have hs5 : w.heap.size + 1 < w5.heap.size := by have h8 := (HAt.out w5 hb5').2.2.2.2.2.2.size; omega
   have HNl : Hid (∀ w9, Below w6.heap.size w6 w9 -> ∀ x y, NatsV ((w9.setCell ⟨w.heap.size + 1, 0, none⟩ x).setCell ⟨w.heap.size + 1, 1, none⟩ y) (.slice (some ⟨g6, 0, none⟩) (l.take q).length vc6) (l.take q)) := fun w9 hb9 x y => by
    have h9 := ownsRow_setCell_below (ownsRow_setCell_below (owns_later hro6 hb9 (Nat.le_refl _)) (a := ⟨w.heap.size + 1, 0, none⟩) hs5 x) (a := ⟨w.heap.size + 1, 1, none⟩) hs5 y; exact natsV_take (l := l) (by rw [hlq]; exact natsV_owns (by rw [hlq]; exact h9)) (by omega)
   have HTl : Hid ((l.take q).length = q) := by show _ = _; rw [List.length_take]; omega
   generalize hff : l.getD q 0 = f at *; clear hff; have hqc2 : q + 1 <= vc6 := by omega
   clear hwo hro6 hcl6 HM hwy hfi HFn hS HWy HFi HNone hmf9 hlst hqc hlq HSome
   go_upto_region 9 with fail
   have hb7 : Below W4.heap.size W4 (w6.alloc (.cells #[.int .i64 (f : Int)] 3)) := hb6'.alloc hb6'.size _; have hb67 : Below w6.heap.size w6 (w6.alloc (.cells #[.int .i64 (f : Int)] 3)) := (Below.refl _ _).alloc (Nat.le_refl _) _; have hc7 : (w6.alloc (.cells #[.int .i64 (f : Int)] 3)).cell? ⟨w6.heap.size, 0, none⟩ = some (.int .i64 (f : Int)) := by simp [go_sem]
   have hs7 : w6.heap.size < (w6.alloc (.cells #[.int .i64 (f : Int)] 3)).heap.size := by simp
   generalize w6.alloc (.cells #[.int .i64 (f : Int)] 3) = W7 at hb7 hb67 hc7 hs7 ⊢; obtain ⟨_, _, _, g4, g5, g6', g7⟩ := HAt.out W7 hb7; obtain ⟨⟨a0, a1, a2, a3, a4⟩, _⟩ := HK.out W7 g7; have hlf := HLf.out W7 f _ _ _ g7 hfn hFx (HIn.out pz f HPzO.out hfn) (part_fn W7 w1.heap.size w6.heap.size B n f pz g5 hs7 hfn g4 hc7 g6')
   clear h1 h2 h3 h4 h5 h6 hk6 r0 r1 f0 f1 hcq g4 g5 g6' HLf HIn HPzO hFx
   go_wp2_with (go_at_call 33; refine hlf.mono ?_; rintro e w8 ⟨vo8, vc8, q8, rfl, hb8, HL8⟩; have hb8' := g7.trans (hb8.mono g7.size); obtain ⟨_, r0, r1, f0, f1⟩ := HK.out w8 hb8')
   have hb68 : Below w6.heap.size w6 w8 := hb67.trans (hb8.mono hb67.size); have hbb8 : Below w.heap.size w w8 := hA.trans (hb8'.mono hA.size); obtain ⟨lp, hlp1, hlp2, hlp3, hlp4⟩ := HL8.out; obtain ⟨hLo, hC0⟩ := HS9.out lp hlp3; have hs7w : w.heap.size + 1 < W7.heap.size := by have := g7.size; omega
   have hNlp := natsV_owns (l := lp) (by rw [hlp1]; exact ownsRow_setCell_below (ownsRow_setCell_below hlp4 (a := ⟨w.heap.size + 1, 0, none⟩) hs7w (.slice (some ⟨g6, 0, none⟩) q vc6)) (a := ⟨w.heap.size + 1, 1, none⟩) hs7w (.slice vo8 q8 vc8))
   have hNst := HNl.out w8 hb68 (.slice (some ⟨g6, 0, none⟩) q vc6) (.slice vo8 q8 vc8); have hTl := HTl.out; rw [hTl] at hNst
   refine bodyPost_ret (v := .tuple #[.agg #[.slice (some ⟨g6, 0, none⟩) q vc6, .slice vo8 q8 vc8], .int .i64 0]) ?_ rfl ⟨_, _, rfl, ?_, .inr ⟨rfl, hC0, some ⟨g6, 0, none⟩, vc6, vo8, vc8, l.take q, lp, by rw [hTl, hlp1], by rw [hTl]; omega, by rw [hlp1]; exact hlp2, hLo, by rw [hTl]; exact hNst, by rw [hlp1]; exact hNlp⟩⟩
   ·simp only [results, Tryz.results10]
    simp [go_sem, r0, r1]
   ·exact (hbb8.setCell (by show w.heap.size <= w.heap.size + 1; omega) _).setCell (by show w.heap.size <= w.heap.size + 1; omega) _
theorem statesAt_any (so no xo po : Option Addr) (sc nn nc xn xc pc : Nat) (ini man : Int) (S : List (Int × Int)) (l : List Nat) (w : World) (hS : OpsV w (.slice so S.length sc) S) (hP : NatsV w (.slice po l.length pc) l) (hlt : ∀ i, i < l.length -> l.getD i 0 < S.length) (hz : l.length <= 2000000) (hzS : S.length <= 20000) :
  Calls Tryz.prog 35 #[.agg #[.slice so S.length sc, .int .i64 ini, .slice no nn nc, .slice xo xn xc, .int .i64 man], .slice po l.length pc] w fun e w' => ∃ R, e = .returned (.slice (some ⟨R, 0, none⟩) l.length l.length) /\ Below w.heap.size w w' /\ Hid (IntsV w' (.slice (some ⟨R, 0, none⟩) l.length l.length) ((List.range l.length).map fun (j : Nat) => (S.getD (l.getD j 0) (0, 0)).1)) := by
 obtain ⟨n, hn⟩ : ∃ n, l.length = n := ⟨_, rfl⟩
 have HN : Hid (l.length = n) := hn; obtain ⟨W1, hW1⟩ : ∃ W1, W1 = w.alloc (.cells #[.slice so S.length sc, .int .i64 ini, .slice no nn nc, .slice xo xn xc, .int .i64 man] 40) := ⟨_, rfl⟩
 have hb1 : Below w.heap.size w W1 := by rw [hW1]; exact (Below.refl _ _).alloc (Nat.le_refl _) _
 have hc1 : W1.cell? ⟨w.heap.size, 0, none⟩ = some (.slice so S.length sc) := by rw [hW1]; simp [go_sem]
 have hz1 : W1.heap.size = w.heap.size + 1 := by rw [hW1]; simp
 have HS : Hid (∀ wr, Below W1.heap.size W1 wr -> ∀ i, i < S.length -> ∃ b off, so = some ⟨b, off, none⟩ /\ wr.cell? ⟨b, off + i * 2, none⟩ = some (.int .i64 (S.getD i (0, 0)).1)) := fun wr h i hi => by
  obtain ⟨ao', cap, e, _, hx⟩ := (hS.below hb1).below h
  injection e with e1 _ _
  subst e1; obtain ⟨b, off, rfl, _, hat⟩ := hx (by rintro rfl; simp at hi)
  exact ⟨b, off, rfl, (hat i hi).1⟩
 have HP : Hid (∀ wr, Below W1.heap.size W1 wr -> ∀ i, i < n -> ∃ b off, po = some ⟨b, off, none⟩ /\ wr.cell? ⟨b, off + i, none⟩ = some (.int .i64 ((l.getD i 0 : Nat) : Int))) := fun wr h i hi => by
  have hP1 := (hP.below hb1).below h; obtain ⟨b, off, e, _, hat⟩ := hP1.num (i := i) (by omega)
  exact ⟨b, off, e, hat⟩
 have HC : Hid (∀ wr, Below W1.heap.size W1 wr -> wr.cell? ⟨w.heap.size, 0, none⟩ = some (.slice so S.length sc)) := fun wr h => (h.cell (p := ⟨w.heap.size, 0, none⟩) (by show w.heap.size < _; omega)).trans hc1
 have HL : Hid (∀ i, i < n -> l.getD i 0 < S.length) := fun i hi => hlt i (by omega)
 rw [hn] at hz ⊢; generalize hsn : S.length = sn at *; clear hS hP hlt hn hc1; have hmk := run_make_row' (P := Tryz.prog) 38 3 (.int .i64 0) 8 Tryz.underlying38 infoInt rfl .i64 .i64 n (by omega) (by omega)
 obtain ⟨f, hf⟩ : ∃ f : Nat -> Int, f = fun j => (S.getD (l.getD j 0) (0, 0)).1 := ⟨_, rfl⟩
 have HF : Hid (∀ j, (S.getD (l.getD j 0) (0, 0)).1 = f j) := fun j => by rw [hf]
 have HFe : Hid ((List.range n).map (fun (j : Nat) => (S.getD (l.getD j 0) (0, 0)).1) = (List.range n).map f) := by rw [hf]; rfl
 have HR0 : Hid ((W1.alloc (.cells (madeCells #[.int .i64 0] n) 3)).rowIs (w.heap.size + 1) 3 n (fun j => .int .i64 (if j < 0 then f j else 0))) := by
  rw [<- hz1]; exact (World.rowIs_made W1 (.int .i64 0) n 3).congr (fun j _ => by simp)
 have hb2 : Below W1.heap.size W1 (W1.alloc (.cells (madeCells #[.int .i64 0] n) 3)) := (Below.refl _ _).alloc (Nat.le_refl _) _; rw [HFe.out]; clear hf HFe
 go_enter Tryz.func35, Tryz.ntmps35
 go_wp2_with fail
 rw [<- hW1]; clear hW1
 go_wp2_with fail
 generalize W1.alloc (.cells (madeCells #[.int .i64 0] n) 3) = W2 at *
 go_loopw [13] (fun i wr => ∃ k : Nat, k <= n /\ i = .int .i64 k /\ Below W1.heap.size W1 wr /\ Hid (wr.rowIs (w.heap.size + 1) 3 n (fun j => .int .i64 (if j < k then f j else 0)))) (fun i _ => n - (intOf i).toNat)
 case atStart => exact ⟨0, Nat.zero_le _, rfl, hb2, HR0⟩
 case round =>
  obtain ⟨k, hk, rfl, hbr, HR⟩ := hrel
  by_cases hkn : k < n
  ·have hki : (k : Int) < (n : Int) := by omega
   obtain ⟨pb, poff, rfl, c0⟩ := HP.out wr hbr k hkn; have hpl := HL.out k hkn; obtain ⟨sb, soff, rfl, d0⟩ := HS.out wr hbr _ hpl; have g0 := HC.out wr hbr; rw [HF.out k] at d0; generalize l.getD k 0 = q at *; have hqi : (q : Int) < (sn : Int) := by omega
   have f0 := HR.out.cell hkn; have f1 := HR.out.frozen k
   have HR2 : Hid ((wr.setCell ⟨w.heap.size + 1, k, none⟩ (.int .i64 (f k))).rowIs (w.heap.size + 1) 3 n (fun j => .int .i64 (if j < k + 1 then f j else 0))) := (HR.out.set k _).congr (fun j _ => by
    by_cases e : j = k
    ·subst e
     rw [if_pos rfl, if_pos (Nat.lt_succ_self _)]
    ·rw [if_neg e]
     by_cases h1 : j < k
     ·rw [if_pos h1, if_pos (by omega)]
     ·rw [if_neg h1, if_neg (by omega)])
   clear HR
   go_wp2_with fail
   go_roundw
   case rel => exact ⟨k + 1, by omega, by go_num, hbr.setCell (p := ⟨w.heap.size + 1, k, none⟩) (by show W1.heap.size <= w.heap.size + 1; omega) _, HR2⟩
   case measure => simp [intOf]; omega
  ·obtain rfl : k = n := by omega
   go_wp2_with fail
   go_ret
   refine ⟨w.heap.size + 1, rfl, hb1.trans (hbr.mono hb1.size), ⟨some ⟨w.heap.size + 1, 0, none⟩, k, by simp, fun _ => ⟨w.heap.size + 1, 0, rfl, HR.out.lt, fun i hi => ?_⟩⟩⟩
   have hi' : i < k := by simpa using hi
   rw [Nat.zero_add, HR.out.cell hi', if_pos hi']; simp [List.getD_eq_getElem?_getD, hi']
end Go.Proofs.YteejnjcdfmedlaaGreatDoor
namespace Go.Proofs.YteejnjcdfmedlaaGreatDoor
open Go.ChangeShapes Go.WideShapes Go.ChangeAt Go.RowKit Go.Deep
set_option maxHeartbeats 6400000
set_option maxRecDepth 20000
section
theorem wpAny_invA {P : Program} {md : Region.Mode} {ops : Array Oper} {Q : Exit -> Act -> World -> Prop} (I : Nat -> Array Bool -> Act -> World -> Prop)
  (hs : ∀ k l a w, I k l a w -> (Region.ready md ops l = [] -> Q .normal a w) /\ (k = 0 -> Region.ready md ops l = []) /\ ∀ k', k = k' + 1 -> ∀ i ∈ Region.ready md ops l, wpOp P ops Q i (fun a' w' => I k' (l.setIfInBounds i true) a' w') a w) :
  ∀ k l a w, I k l a w -> wpAny P md ops Q k l a w
 | 0, l, a, w, h => ⟨(hs 0 l a w h).2.1 rfl, (hs 0 l a w h).1 ((hs 0 l a w h).2.1 rfl)⟩
 | k + 1, l, a, w, h => ⟨(hs _ l a w h).1, fun i hi => wpOp_mono (fun a' w' h' => wpAny_invA I hs k _ a' w' h') ((hs _ l a w h).2.2 k rfl i hi)⟩
def mix (ds : List Nat) (q : Nat -> Value) : Nat -> List Value -> List Value
 | _, [] => []
 | t, v :: l => (if ds.contains t then q t else v) :: mix ds q (t + 1) l
def frm (a : Act) (ds : List Nat) (q : Nat -> Value) : Act := ⟨(mix ds q 0 a.tmps.toList).toArray, a.defers⟩
theorem mix_at (ds : List Nat) (q : Nat -> Value) : ∀ (l : List Value) (t j : Nat), (mix ds q t l)[j]? = (l[j]?).map fun v => if ds.contains (t + j) then q (t + j) else v
 | [], t, j => by simp [mix]
 | v :: l, t, 0 => by simp [mix]
 | v :: l, t, j + 1 => by
  show (mix ds q (t + 1) l)[j]? = (l[j]?).map _
  rw [mix_at ds q l (t + 1) j, show t + 1 + j = t + (j + 1) by omega]
theorem mix_length (ds : List Nat) (q : Nat -> Value) : ∀ (l : List Value) (t : Nat), (mix ds q t l).length = l.length
 | [], t => rfl
 | v :: l, t => by show (mix ds q (t + 1) l).length + 1 = _; rw [mix_length ds q l (t + 1)]; rfl
theorem frm_in {a : Act} {ds : List Nat} {q : Nat -> Value} {t : Nat} (h : ds.contains t = true) (ht : t < a.tmps.size) : (frm a ds q).eval (.tmp t) = q t := by
 show (mix ds q 0 a.tmps.toList).toArray.getD t undef = q t
 rw [Array.getD_eq_getD_getElem?, List.getElem?_toArray, mix_at, Nat.zero_add, h]
 have : a.tmps.toList[t]? = some (a.tmps.toList[t]'(by simpa using ht)) := List.getElem?_eq_getElem _
 rw [this]; rfl
theorem frm_out {a : Act} {ds : List Nat} {q : Nat -> Value} {t : Nat} (h : ds.contains t = false) : (frm a ds q).eval (.tmp t) = a.eval (.tmp t) := by
 show (mix ds q 0 a.tmps.toList).toArray.getD t undef = a.tmps.getD t undef
 rw [Array.getD_eq_getD_getElem?, List.getElem?_toArray, mix_at, Nat.zero_add, h, Array.getD_eq_getD_getElem?, <- Array.getElem?_toList]
 cases a.tmps.toList[t]? <;> rfl
theorem mix_same {ds : List Nat} : ∀ (l : List Value) (q : Nat -> Value) (t : Nat), (∀ j, j < l.length -> q (t + j) = l.getD j undef) -> mix ds q t l = l
 | [], _, _, _ => rfl
 | v :: l, q, t, h => by
  show (if ds.contains t then q t else v) :: mix ds q (t + 1) l = v :: l
  rw [mix_same l q (t + 1) (fun j hj => by have := h (j + 1) (by simp; omega); rw [show t + 1 + j = t + (j + 1) by omega]; exact this)]
  have := h 0 (by simp)
  have h0 : q t = v := this; rw [h0]
  split <;> rfl
theorem frm_start (a : Act) (ds : List Nat) : frm a ds (fun t => a.eval (.tmp t)) = a := by
 unfold frm; rw [mix_same]; intro j hj
 show a.tmps.getD (0 + j) undef = a.tmps.toList.getD j undef
 rw [Nat.zero_add, Array.getD_eq_getD_getElem?, List.getD_eq_getElem?_getD, Array.getElem?_toList]
def setV (q : Nat -> Value) (t : Nat) (v : Value) : Nat -> Value := fun s => if s = t then v else q s
theorem setV_same (q : Nat -> Value) (t : Nat) (v : Value) : setV q t v t = v := if_pos rfl
theorem setV_other {q : Nat -> Value} {s t : Nat} {v : Value} (h : s ≠ t) : setV q t v s = q s := if_neg h
theorem frm_put {a : Act} {ds : List Nat} {q : Nat -> Value} {t : Nat} {v : Value} (h : ds.contains t = true) : (frm a ds q).put (some t) v = frm a ds (setV q t v) := by
 show Act.mk ((mix ds q 0 a.tmps.toList).toArray.setIfInBounds t v) a.defers = Act.mk (mix ds (setV q t v) 0 a.tmps.toList).toArray a.defers
 congr 1
 apply Array.ext_getElem?
 intro j; rw [Array.getElem?_setIfInBounds, List.getElem?_toArray, List.getElem?_toArray, mix_at, mix_at, Nat.zero_add]
 by_cases hj : t = j
 ·subst hj
  rw [if_pos rfl, h]; simp only [List.size_toArray, mix_length, Array.length_toList]
  by_cases hs : t < a.tmps.size
  ·rw [if_pos hs]
   rw [show a.tmps.toList[t]? = some (a.tmps.toList[t]'(by simpa using hs)) from List.getElem?_eq_getElem _]
   simp [setV]
  ·rw [if_neg hs, List.getElem?_eq_none (by simpa using hs)]; rfl
 ·rw [if_neg hj]
  cases a.tmps.toList[j]? with
  | none => rfl
  | some u =>
   show some _ = some _
   rw [setV_other (fun e => hj e.symm)]
def waits (ops : Array Oper) (i k : Nat) : Bool := match ops[i]? with | some o => o.after.toList.any (fun e => Region.binds .any e && e.on == k) | none => false
def dstOf (ops : Array Oper) (k : Nat) : Option Nat := match ops[k]? with | some o => o.dst | none => none
def shapeOk (ops : Array Oper) (ds : List Nat) (size m : Nat) : Bool :=
  (List.range ops.size).all (fun i => match ops[i]? with
    | some o => o.guard.isNone && o.after.toList.all (fun e => !Region.binds .any e || Nat.blt e.on i) && (if i < m then (match o.dst with
        | some t => ds.contains t && Nat.blt t size && (List.range m).all (fun j => j == i || !(dstOf ops j == some t)) && (List.range (m + 1)).any (fun k => Nat.blt i k && waits ops k i)
        | none => false) else (List.range i).all (fun j => Nat.blt j m && i == m || waits ops i j))
    | none => false) && Nat.blt m ops.size
structure Shape (ops : Array Oper) (ds : List Nat) (size m : Nat) : Prop where
 lt : m < ops.size
 guard : ∀ (i : Nat) (o : Oper), ops[i]? = some o -> o.guard = none
 before : ∀ (i : Nat) (o : Oper) (e : Edge), ops[i]? = some o -> e ∈ o.after -> Region.binds .any e = true -> e.on < i
 dst : ∀ (i : Nat) (o : Oper), i < m -> ops[i]? = some o -> ∃ t, o.dst = some t /\ ds.contains t = true /\ t < size /\ ∀ j, j < m -> j ≠ i -> dstOf ops j ≠ some t
 heir : ∀ i, i < m -> ∃ k, i < k /\ k <= m /\ waits ops k i = true
 late : ∀ i j, m <= i -> i < ops.size -> j < i -> (j < m /\ i = m) \/ waits ops i j = true
theorem shape_of {ops : Array Oper} {ds : List Nat} {size m : Nat} (h : shapeOk ops ds size m = true) : Shape ops ds size m := by
  unfold shapeOk at h; rw [Bool.and_eq_true, List.all_eq_true] at h; obtain ⟨h1, h2⟩ := h; have hm : m < ops.size := by simpa [Nat.blt_eq] using h2
  have hi : ∀ i o, ops[i]? = some o → (o.guard.isNone && o.after.toList.all (fun e => !Region.binds .any e || Nat.blt e.on i) && (if i < m then (match o.dst with
        | some t => ds.contains t && Nat.blt t size && (List.range m).all (fun j => j == i || !(dstOf ops j == some t)) && (List.range (m + 1)).any (fun k => Nat.blt i k && waits ops k i)
        | none => false) else (List.range i).all (fun j => Nat.blt j m && i == m || waits ops i j))) = true := fun i o ho => by
    have hlt : i < ops.size := by
      rcases Nat.lt_or_ge i ops.size with h | h
      · exact h
      · rw [Array.getElem?_eq_none h] at ho; cases ho
    have := h1 i (List.mem_range.2 hlt); rw [ho] at this; exact this
  refine ⟨hm, fun i o ho => ?_, fun i o e ho he hb => ?_, fun i o him ho => ?_, fun i him => ?_, fun i j him hlt hj => ?_⟩
  · have := hi i o ho
    rw [Bool.and_eq_true, Bool.and_eq_true] at this; simpa using this.1.1
  · have := hi i o ho
    rw [Bool.and_eq_true, Bool.and_eq_true, List.all_eq_true] at this; have := this.1.2 e (by simpa using he)
    rw [hb] at this; simpa [Nat.blt_eq] using this
  · have := hi i o ho
    rw [Bool.and_eq_true, if_pos him] at this; have := this.2
    cases hd : o.dst with
    | none => rw [hd] at this; cases this
    | some t =>
      rw [hd] at this; simp only [Bool.and_eq_true, List.all_eq_true] at this; obtain ⟨⟨⟨e1, e2⟩, e3⟩, e4⟩ := this; refine ⟨t, rfl, e1, by simpa [Nat.blt_eq] using e2, fun j hj hne he => ?_⟩
      have := e3 j (List.mem_range.2 hj); rw [he] at this; simp [hne] at this
  · have hlt : i < ops.size := by omega
    have := hi i ops[i] (Array.getElem?_eq_getElem hlt)
    rw [Bool.and_eq_true, if_pos him] at this; have := this.2
    cases hd : ops[i].dst with
    | none => rw [hd] at this; cases this
    | some t =>
      rw [hd] at this; simp only [Bool.and_eq_true, List.any_eq_true] at this; obtain ⟨_, k, hk, h5, h6⟩ := this; have := List.mem_range.1 hk; exact ⟨k, by simpa [Nat.blt_eq] using h5, by omega, h6⟩
  · have := hi i ops[i] (Array.getElem?_eq_getElem hlt)
    rw [Bool.and_eq_true, if_neg (by omega), List.all_eq_true] at this
    have := this.2 j (List.mem_range.2 hj); simp only [Bool.or_eq_true, Bool.and_eq_true, beq_iff_eq, Nat.blt_eq] at this; exact this
def doneAt (l : Array Bool) (i : Nat) : Prop := l[i]? = some true
theorem ready_iff {ops : Array Oper} {l : Array Bool} (hl : l.size = ops.size) {i : Nat} : i ∈ Region.ready .any ops l ↔ i < ops.size /\ ¬ doneAt l i /\ ∀ k, waits ops i k = true -> doneAt l k := by
 unfold Region.ready; rw [List.mem_filter, List.mem_range]
 constructor
 ·rintro ⟨h1, h2⟩
  have hi : i < l.size := by omega
  rw [Bool.and_eq_true] at h2; obtain ⟨h2, h3⟩ := h2; refine ⟨h1, fun hd => ?_, fun k hk => ?_⟩
  ·unfold doneAt at hd
   rw [Array.getD_eq_getD_getElem?, hd] at h2; simp at h2
  ·unfold waits at hk
   rw [Array.getElem?_eq_getElem h1] at h3 hk
   simp only [Option.map_some, Option.getD_some, Array.all_eq_true_iff_forall_mem] at h3; simp only [List.any_eq_true, Bool.and_eq_true, beq_iff_eq] at hk; obtain ⟨e, he, hb, hon⟩ := hk; have := h3 e (by simpa using he)
   rw [hb, hon] at this; simp only [Bool.not_true, Bool.false_or, Array.getD_eq_getD_getElem?] at this; unfold doneAt
   cases hx : l[k]? with
   | none => rw [hx] at this; simp at this
   | some b => rw [hx] at this; simp at this; rw [this]
 ·rintro ⟨h1, h2, h3⟩
  have hi : i < l.size := by omega
  refine ⟨h1, ?_⟩
  rw [Bool.and_eq_true]
  constructor
  ·rw [Array.getD_eq_getD_getElem?, Array.getElem?_eq_getElem hi]
   unfold doneAt at h2; rw [Array.getElem?_eq_getElem hi] at h2
   cases hx : l[i] with
   | true => rw [hx] at h2; exact absurd rfl h2
   | false => rfl
  ·rw [Array.getElem?_eq_getElem h1]
   simp only [Option.map_some, Option.getD_some, Array.all_eq_true_iff_forall_mem]; intro e he
   cases hb : Region.binds .any e with
   | false => rfl
   | true =>
    have := h3 e.on (by unfold waits; rw [Array.getElem?_eq_getElem h1]; simp only [List.any_eq_true, Bool.and_eq_true, beq_iff_eq]; exact ⟨e, by simpa using he, hb, rfl⟩)
    unfold doneAt at this; rw [Array.getD_eq_getD_getElem?, this]; rfl
def leftA (l : Array Bool) : Nat := l.toList.count false
theorem left_setA {l : Array Bool} {i : Nat} (hi : i < l.size) (h : ¬ doneAt l i) : leftA (l.setIfInBounds i true) + 1 = leftA l := by
 unfold leftA; rw [Array.toList_setIfInBounds]; have hl : i < l.toList.length := by simpa using hi
 have hf : l.toList[i] = false := by
  unfold doneAt at h; rw [Array.getElem?_eq_getElem hi] at h
  have e : l.toList[i] = l[i] := Array.getElem_toList _; rw [e]
  cases hx : l[i] with
  | true => rw [hx] at h; exact absurd rfl h
  | false => rfl
 have hpos : 0 < l.toList.count false := List.count_pos_iff.2 (hf ▸ List.getElem_mem hl); rw [List.count_set hl, hf]
 show l.toList.count false - 1 + 0 + 1 = l.toList.count false
 omega
theorem left_zeroA {l : Array Bool} (h : leftA l = 0) {i : Nat} (hi : i < l.size) : doneAt l i := by
 unfold leftA at h; have h0 : false ∉ l.toList := List.count_eq_zero.1 h; unfold doneAt; rw [Array.getElem?_eq_getElem hi]
 cases hx : l[i] with
 | true => rfl
 | false => exact absurd (by rw [<- hx]; exact Array.getElem_mem_toList hi) h0
theorem done_set {l : Array Bool} {i j : Nat} (hi : i < l.size) : doneAt (l.setIfInBounds i true) j ↔ j = i \/ doneAt l j := by
 unfold doneAt; rw [Array.getElem?_setIfInBounds]
 by_cases h : i = j
 ·subst h
  simp [hi]
 ·rw [if_neg h]
  constructor
  ·exact .inr
  ·rintro (h2 | h2)
   ·exact absurd h2.symm h
   ·exact h2
structure Early (ops : Array Oper) (m : Nat) (W0 : World) (post : Nat -> Value -> World -> Prop) (l : Array Bool) (q : Nat -> Value) (w : World) : Prop where
 size : l.size = ops.size
 later : ∀ i, m <= i -> ¬ doneAt l i
 closed : ∀ i k, doneAt l i -> waits ops i k = true -> doneAt l k
 below : Below W0.heap.size W0 w
 posts : ∀ i t, i < m -> doneAt l i -> dstOf ops i = some t -> post i (q t) w
theorem ready_early {ops : Array Oper} {ds : List Nat} {size m : Nat} (hs : Shape ops ds size m) {l : Array Bool} (hl : l.size = ops.size) {j : Nat} (hj : j < ops.size) (hd : ¬ doneAt l j) : Region.ready .any ops l ≠ [] := by
 have key : ∀ n j, j <= n -> j < ops.size -> ¬ doneAt l j -> ∃ i, i ∈ Region.ready .any ops l := by
  intro n
  induction n with
  | zero =>
   intro j hj0 hj hd; refine ⟨j, (ready_iff hl).2 ⟨hj, hd, fun k hk => ?_⟩⟩
   unfold waits at hk; rw [Array.getElem?_eq_getElem hj] at hk
   simp only [List.any_eq_true, Bool.and_eq_true, beq_iff_eq] at hk; obtain ⟨e, he, hb, hon⟩ := hk; have := hs.before j ops[j] e (Array.getElem?_eq_getElem hj) (by simpa using he) hb
   omega
  | succ n ih =>
   intro j hj0 hj hd
   by_cases h : ∀ k, waits ops j k = true -> doneAt l k
   ·exact ⟨j, (ready_iff hl).2 ⟨hj, hd, h⟩⟩
   ·obtain ⟨k, hk⟩ := Classical.not_forall.1 h
    obtain ⟨hk, hnd⟩ := Classical.not_imp.1 hk; have hk2 := hk; unfold waits at hk; rw [Array.getElem?_eq_getElem hj] at hk
    simp only [List.any_eq_true, Bool.and_eq_true, beq_iff_eq] at hk; obtain ⟨e, he, hb, hon⟩ := hk; have := hs.before j ops[j] e (Array.getElem?_eq_getElem hj) (by simpa using he) hb
    exact ih k (by omega) (by omega) hnd
 intro h; obtain ⟨i, hi⟩ := key j j (Nat.le_refl _) hj hd; rw [h] at hi
 cases hi
theorem all_early {ops : Array Oper} {ds : List Nat} {size m : Nat} (hs : Shape ops ds size m) {l : Array Bool} (hc : ∀ i k, doneAt l i -> waits ops i k = true -> doneAt l k) (hm : ∀ k, waits ops m k = true -> doneAt l k) : ∀ i, i < m -> doneAt l i := by
 have key : ∀ n i, m - i <= n -> i < m -> doneAt l i := by
  intro n
  induction n with
  | zero => intro i h1 h2; omega
  | succ n ih =>
   intro i h1 h2; obtain ⟨k, h3, h4, h5⟩ := hs.heir i h2
   by_cases hk : k = m
   ·subst hk; exact hm i h5
   ·exact hc k i (ih k (by omega) (by omega)) h5
 exact fun i hi => key _ i (Nat.le_refl _) hi
theorem wp_anyway {P : Program} {id : Nat} {ops : Array Oper} {Q : Exit -> Act -> World -> Prop} {a0 : Act} {w0 : World} (hmo : P.follows .mixedOrders = true) (ds : List Nat) (m : Nat) (post : Nat -> Value -> World -> Prop)
    (hsh : shapeOk ops ds a0.tmps.size m = true)
    (stable : ∀ i v w w', i < m -> post i v w -> Below w.heap.size w w' -> post i v w')
    (step : ∀ (i : Nat) (o : Oper), i < m -> ops[i]? = some o -> ∀ q w, Below w0.heap.size w0 w -> (∀ k t, waits ops i k = true -> dstOf ops k = some t -> post k (q t) w) -> Oper.wp P o (frm a0 ds q) w (fun a' w' => ∃ v, a' = (frm a0 ds q).put o.dst v /\ Below w.heap.size w w' /\ post i v w') Q)
    (last : ∀ q w, Below w0.heap.size w0 w -> (∀ i t, i < m -> dstOf ops i = some t -> post i (q t) w) -> wpOps P ops Q ((List.range' m (ops.size - m))) (frm a0 ds q) w) :
    (Code.region id ops true).wp P Q a0 w0 := by
  have hs := shape_of hsh; refine wp_region_any hmo ?_
  have hb0 : Below w0.heap.size w0 { w0 with drawn := w0.drawn + 1 } := ⟨rfl, rfl, rfl, Nat.le_refl _, fun _ _ => rfl⟩
  refine wpAny_invA (fun k l a w => k = leftA l /\ ((∃ q, a = frm a0 ds q /\ Early ops m w0 post l q w) \/ (l.size = ops.size /\ ∃ j, m <= j /\ j <= ops.size /\ (∀ i, doneAt l i ↔ i < j) /\ wpOps P ops Q (List.range' j (ops.size - j)) a w))) ?_ _ _ _ _ ⟨?_, .inl ⟨_, (frm_start a0 ds).symm, ?_⟩⟩
  · rintro k l a w ⟨hk, hI⟩
    have hlsz : l.size = ops.size := hI.elim (fun ⟨_, _, hE⟩ => hE.size) (fun ⟨h, _⟩ => h)
    refine ⟨fun hr => ?_, fun h0 => ?_, fun k' hk' i hi => ?_⟩
    · rcases hI with ⟨q, rfl, hE⟩ | ⟨_, j, hj1, hj2, hd, hw⟩
      · exact absurd hr (ready_early hs hE.size hs.lt (hE.later m (Nat.le_refl _)))
      · by_cases hjs : j = ops.size
        · subst hjs
          rw [Nat.sub_self] at hw; exact hw
        · exact absurd hr (ready_early hs hlsz (j := j) (by omega) (fun h => by have := (hd j).1 h; omega))
    · cases hr : Region.ready .any ops l with
      | nil => rfl
      | cons x xs =>
        have hx := (ready_iff hlsz (i := x)).1 (by rw [hr]; exact List.mem_cons_self)
        exact absurd (left_zeroA (by omega) (by omega)) hx.2.1
    · obtain ⟨h1, h2, h3⟩ := (ready_iff hlsz).1 hi
      have ho : ops[i]? = some ops[i] := Array.getElem?_eq_getElem h1
      have hgd := hs.guard i _ ho; have hleft := left_setA (by omega : i < l.size) h2
      have late : ∀ (j : Nat) (a : Act) (w : World), m <= j -> j <= ops.size -> (∀ i, doneAt l i ↔ i < j) -> wpOps P ops Q (List.range' j (ops.size - j)) a w -> wpOp P ops Q i (fun a' w' => k' = leftA (l.setIfInBounds i true) /\ ((∃ q, a' = frm a0 ds q /\ Early ops m w0 post (l.setIfInBounds i true) q w') \/ ((l.setIfInBounds i true).size = ops.size /\ ∃ j, m <= j /\ j <= ops.size /\ (∀ i', doneAt (l.setIfInBounds i true) i' ↔ i' < j) /\ wpOps P ops Q (List.range' j (ops.size - j)) a' w'))) a w := by
        intro j a w hj1 hj2 hd hw
        have hij : i = j := by
          have hge : j <= i := by
            rcases Nat.lt_or_ge i j with h | h
            · exact absurd ((hd i).2 h) h2
            · exact h
          rcases Nat.lt_or_ge j i with h | h
          · rcases hs.late i j (by omega) h1 h with h4 | h4
            · omega
            · have := (hd j).1 (h3 j h4); omega
          · omega
        subst hij; rw [show ops.size - i = (ops.size - (i + 1)) + 1 by omega, List.range'_succ, wpOps_cons] at hw
        refine wpOp_mono (fun a' w' h' => ⟨by omega, .inr ⟨by rw [Array.size_setIfInBounds]; exact hlsz, i + 1, by omega, by omega, fun i' => ?_, h'⟩⟩) hw
        rw [done_set (by omega), hd]
        omega
      rcases hI with ⟨q, rfl, hE⟩ | ⟨_, j, hj1, hj2, hd, hw⟩
      · by_cases him : i < m
        · obtain ⟨t, ht, hdt, hts, hne⟩ := hs.dst i _ him ho
          have hst := step i _ him ho q w hE.below (fun k t' hk ht' => by
            have hkd := h3 k hk
            have hkm : k < m := by
              rcases Nat.lt_or_ge k m with h | h
              · exact h
              · exact absurd hkd (hE.later k h)
            exact hE.posts k t' hkm hkd ht')
          unfold wpOp; rw [ho]
          show if Region.wanted ops[i] (yielded ops (frm a0 ds q).tmps) = true then _ else _
          rw [if_pos (by unfold Region.wanted; rw [hgd])]
          refine .inl (Oper.wp_mono ?_ hst)
          rintro a' w' ⟨v, rfl, hb, hp⟩
          rw [ht, frm_put hdt]; refine ⟨by omega, .inl ⟨_, rfl, ⟨by rw [Array.size_setIfInBounds]; exact hlsz, fun i' hi' hd' => ?_, fun i' k0 hd' hk0 => ?_, hE.below.trans (hb.mono hE.below.size), fun i' t' hi' hd' ht' => ?_⟩⟩⟩
          · rcases (done_set (by omega)).1 hd' with h | h
            · omega
            · exact hE.later i' hi' h
          · rw [done_set (by omega)]
            rcases (done_set (by omega)).1 hd' with h | h
            · subst h; exact .inr (h3 k0 hk0)
            · exact .inr (hE.closed i' k0 h hk0)
          · by_cases hii : i' = i
            · subst hii
              have : t' = t := by
                unfold dstOf at ht'; rw [ho] at ht'; exact Option.some.inj (ht'.symm.trans ht)
              subst this; rw [setV_same]; exact hp
            · rcases (done_set (by omega)).1 hd' with h | h
              · exact absurd h hii
              · rw [setV_other (fun e => hne i' hi' hii (by rw [ht', e]))]
                exact stable i' _ w w' hi' (hE.posts i' t' hi' h ht') hb
        · have him2 : i = m := by
            rcases Nat.lt_or_ge m i with h | h
            · rcases hs.late i m (by omega) h1 h with h4 | h4
              · omega
              · exact absurd (h3 m h4) (hE.later m (Nat.le_refl _))
            · omega
          subst him2; have hall := all_early hs hE.closed h3
          exact late i _ w (Nat.le_refl _) (by omega) (fun i' => ⟨fun h => by
            rcases Nat.lt_or_ge i' i with h' | h'
            · exact h'
            · exact absurd h (hE.later i' h'), fun h => hall i' h⟩) (last q w hE.below fun i' t' hi' ht' => hE.posts i' t' hi' (hall i' hi') ht')
      · exact late j a w hj1 hj2 hd hw
  · unfold leftA
    simp
  · have hnd : ∀ i, ¬ doneAt (Array.replicate ops.size false) i := fun i h => by
      unfold doneAt at h; rw [Array.getElem?_replicate] at h
      split at h <;> cases h
    exact ⟨by simp, fun i _ => hnd i, fun i _ h => absurd h (hnd i), hb0, fun i _ _ h => absurd h (hnd i)⟩
end
theorem op_val {P : Program} {o : Oper} {a : Act} {w w' : World} {v : Value} {post : Value -> World -> Prop} {Q : Exit -> Act -> World -> Prop} (hr : (execOp a.eval o).run P w = .ok (.value v) w') (hb : Below w.heap.size w w') (hp : post v w') : Oper.wp P o a w (fun a' w' => ∃ v, a' = a.put o.dst v /\ Below w.heap.size w w' /\ post v w') Q := by
 unfold Oper.wp; rw [hr]; exact ⟨v, rfl, hb, hp⟩
theorem op_call {P : Program} {o : Oper} {a : Act} {w : World} {f : FuncId} {args : Array Value} {post : Value -> World -> Prop} {Q : Exit -> Act -> World -> Prop} (hr : (execOp a.eval o).run P w = .ok (.enter f args) w) (hc : Calls P f args w fun e w' => ∃ v, e = .returned v /\ Below w.heap.size w w' /\ post v w') : Oper.wp P o a w (fun a' w' => ∃ v, a' = a.put o.dst v /\ Below w.heap.size w w' /\ post v w') Q := by
 unfold Oper.wp; rw [hr]; refine hc.mono ?_
 rintro e w' ⟨v, rfl, hb, hp⟩
 exact ⟨v, rfl, hb, hp⟩
theorem op_atR {P : Program} {ops : Array Oper} {Q : Exit -> Act -> World -> Prop} {i : Nat} {K : Act -> World -> Prop} {a : Act} {w : World} {o : Oper} (ho : ops[i]? = some o) (hg : o.guard = none) (h : o.wp P a w K Q) : wpOp P ops Q i K a w := by
 unfold wpOp; rw [ho]
 show if Region.wanted o (yielded ops a.tmps) = true then _ else _
 rw [if_pos (by unfold Region.wanted; rw [hg])]
 exact .inl h
theorem late_put {a : Act} {ds : List Nat} {q : Nat -> Value} {o : Oper} {v : Value} (t : Nat) (hd : o.dst = some t) (hc : ds.contains t = true) : (frm a ds q).put o.dst v = frm a ds (setV q t v) := by rw [hd, frm_put hc]
theorem op_run {P : Program} {o : Oper} {a : Act} {w w' : World} {v : Value} {K : Act -> World -> Prop} {Q : Exit -> Act -> World -> Prop} (hr : (execOp a.eval o).run P w = .ok (.value v) w') (h : K (a.put o.dst v) w') : Oper.wp P o a w K Q := by
 unfold Oper.wp; rw [hr]; exact h
theorem op_skip {P : Program} {o : Oper} {a : Act} {w w' : World} {K : Act -> World -> Prop} {Q : Exit -> Act -> World -> Prop} (hd : o.dst = none) (hr : (execOp a.eval o).run P w = .ok .skip w') (h : K a w') : Oper.wp P o a w K Q := by
 unfold Oper.wp; rw [hr]
 show K (a.put o.dst undef) w'
 rw [hd]; exact h
theorem wp_copy {P : Program} {w : World} {o : Oper} {a : Act} {K : Act -> World -> Prop} {Q : Exit -> Act -> World -> Prop} (s x : Operand) (t : TypeId)
  (ho : o.op = .call { callee := .builtin .append, args := #[s, x], argTypes := #[t, t] })
  (base : Nat) (e : TypeId) (i : TypeInfo) (z : Value) (size bytes : Nat) (ht : P.underlying t = some (.slice e)) (hi : P.info? e = some i) (hz : i.zero = some z)
  (hsize : i.size = size) (hby : i.bytes = bytes) (hzs : z.cells.size = size) (hsz : 0 < size) (hs : a.eval s = .slice none 0 0)
  (ao : Option Addr) (m c : Nat) (news : List Value) (hx : a.eval x = .slice ao m c) (hno : ao = none -> c = 0 /\ m = 0) (hl : news.length = m * size) (hnews : ∀ ad, ao = some ad -> ∀ j u, news[j]? = some u -> w.cell? (ad.add j) = some u) (h1 : ∀ u ∈ news, u.oneCell' = true)
  (h63 : m <= maxLen) (hbytes : m * bytes <= 140737488355328) (hbase : base <= w.heap.size)
  (h : ∀ v' w', w'.ownsRow base e size v' m news -> w.grownBy w' none -> K (a.put o.dst v') w') : o.wp P a w K Q := by
 cases ao with
 | none =>
  obtain ⟨rfl, rfl⟩ := hno rfl; have : news = [] := List.length_eq_zero_iff.1 (by simpa using hl)
  subst this; have hrun := run_append_owned_none (P := P) (w := w) base t o.type e i size ht hi (.slice none 0 0) 0 [] (World.ownsRow_nil _ _ _ _); unfold Oper.wp; simp [execOp, ho, resolve, invoke, builtin, hs, hx, hrun, Result.andThen]
  exact h _ _ (World.ownsRow_nil _ _ _ _) (World.grownBy.refl _ _)
 | some ad =>
  exact wp_append_own w s x t ho base e i z size bytes ht hi hz hsize hby hzs hsz _ _ _ hs (World.ownsRow_nil _ _ _ _) ad m c news hx hl (hnews ad rfl) h1 (by omega) (by simpa using hbytes) hbase (fun v' w' h2 h3 _ => h v' w' (by simpa using h2) h3)
theorem below_of_grown {w w' : World} (h : w.grownBy w' none) : Below w.heap.size w w' := ⟨h.os, h.tape, h.output, h.size, fun k hk => h.block k hk (by intro e; cases e)⟩
theorem heap_new (w : World) (o : Obj) : (w.alloc o).heap[w.heap.size]? = some o := by
 show (w.heap.push o)[w.heap.size]? = some o
 simp
end Go.Proofs.YteejnjcdfmedlaaGreatDoor
namespace Go.Proofs.YteejnjcdfmedlaaGreatDoor
open Go.ChangeShapes Go.WideShapes Go.ChangeAt Go.RowKit Go.Deep Go.Maps
open Terms Tm
set_option maxHeartbeats 6400000
set_option maxRecDepth 20000
section
variable {m : Mo} {ps : List (List (Int × Int))} {l : List (Int × Int)} {K : Nat}
theorem exGr_le (hk : tkcode m ps l = 0) (h : ExDone m ps l K) : GrLe (exGr m ps l K) := by
 have e1 : (exGr m ps l K).spots.length = K := h.1; have e2 : (exGr m ps l K).next.length = K := xpN_len K; have e3 : (exGr m ps l K).sets.length = K := xpT_len K; have hm0 := (pcode_m (tk_zero hk).1).1; have h6 := (lcode_zero (tk_zero hk).2).2.2.2.2; refine ⟨by rw [e1]; have := h.2.1; omega, by rw [e2]; have := h.2.1; omega, by rw [e3]; have := h.2.1; omega, fun i hi => ?_⟩
 rw [e2] at hi
 show ((xpN m ps l K).getD i []).length <= _
 rw [(xpN_row h hi).1]
 have hin : (xpP m ps l K).getD i (0, 0) ∈ xpP m ps l K := by
  have hl : i < (xpP m ps l K).length := by rw [h.1]; exact hi
  rw [List.getD_eq_getElem?_getD, List.getElem?_eq_getElem hl]
  exact List.getElem_mem _
 have := behL_len (ps := ps) (l := l) (c := ((xpP m ps l K).getD i (0, 0)).2) hm0 (h.2.2.2 _ hin).1 h6
 show (behL _ _ _ _ _).length <= _
 omega
noncomputable def stL (m : Mo) (ps : List (List (Int × Int))) (l : List (Int × Int)) (K : Nat) (x : List Nat) : List Int := (List.range x.length).map fun (j : Nat) => ((xpP m ps l K).getD (x.getD j 0) (0, 0)).1
def VdAns (w : World) (m : Mo) (ps : List (List (Int × Int))) (l : List (Int × Int)) (e : Ending) (w' : World) : Prop :=
 (tkcode m ps l = 0 /\ (∃ K, ExDone m ps l K /\ fairC (exGr m ps l K) = 11) /\ e = .returned (.tuple #[.agg #[.bool true, .slice none 0 0, .slice none 0 0], .int .i64 0]) /\ Below w.heap.size w w') \/
 (tkcode m ps l = 0 /\ ∃ K st lp A B, ExDone m ps l K /\ LassoOk (exGr m ps l K) st lp /\ st.length <= 20000 /\ lp.length <= 2000000 /\ e = .returned (.tuple #[.agg #[.bool false, .slice (some ⟨A, 0, none⟩) st.length st.length, .slice (some ⟨B, 0, none⟩) lp.length lp.length], .int .i64 0]) /\ Below w.heap.size w w' /\ Hid (IntsV w' (.slice (some ⟨A, 0, none⟩) st.length st.length) (stL m ps l K st) /\ IntsV w' (.slice (some ⟨B, 0, none⟩) lp.length lp.length) (stL m ps l K lp))) \/
 (tkcode m ps l = 0 /\ ExFull m ps l /\ e = .returned (.tuple #[.agg #[.bool false, .slice none 0 0, .slice none 0 0], .int .i64 12]) /\ Below w.heap.size w w') \/
 (tkcode m ps l ≠ 0 /\ e = .returned (.tuple #[.agg #[.bool false, .slice none 0 0, .slice none 0 0], .int .i64 (tkcode m ps l)]) /\ Below w.heap.size w w')
end
def vcP (g f0 f1 : Value) (G : Nat) (st lp : List Int) (ns np : Nat) : Nat -> Value -> World -> Prop
 | 0, v, _ => v = g
 | 1, v, _ => v = .pointer (some ⟨G, 0, none⟩)
 | 2, v, _ => v = f0
 | 3, v, w => ∃ R, v = .slice (some ⟨R, 0, none⟩) ns ns /\ IntsV w v st
 | 4, v, _ => v = g
 | 5, v, _ => v = .pointer (some ⟨G, 1, none⟩)
 | 6, v, _ => v = f1
 | 7, v, w => ∃ R, v = .slice (some ⟨R, 0, none⟩) np np /\ IntsV w v lp
 | 8, v, w => ∃ A B, v = .agg #[.slice (some ⟨A, 0, none⟩) ns ns, .slice (some ⟨B, 0, none⟩) np np] /\ IntsV w (.slice (some ⟨A, 0, none⟩) ns ns) st /\ IntsV w (.slice (some ⟨B, 0, none⟩) np np) lp
 | 9, v, w => ∃ A B, v = .agg #[.bool false, .slice (some ⟨A, 0, none⟩) ns ns, .slice (some ⟨B, 0, none⟩) np np] /\ IntsV w (.slice (some ⟨A, 0, none⟩) ns ns) st /\ IntsV w (.slice (some ⟨B, 0, none⟩) np np) lp
 | _, _, _ => True
theorem vc_lt : ∀ i, i < 10 -> i = 0 \/ i = 1 \/ i = 2 \/ i = 3 \/ i = 4 \/ i = 5 \/ i = 6 \/ i = 7 \/ i = 8 \/ i = 9 := by intro i hi; omega
theorem vcP_stable (g f0 f1 : Value) (G : Nat) (st lp : List Int) (ns np : Nat) (i : Nat) (v : Value) (w w' : World) (hi : i < 10) (h : vcP g f0 f1 G st lp ns np i v w) (hb : Below w.heap.size w w') : vcP g f0 f1 G st lp ns np i v w' := by
 rcases vc_lt i hi with rfl | rfl | rfl | rfl | rfl | rfl | rfl | rfl | rfl | rfl
 ·exact h
 ·exact h
 ·exact h
 ·obtain ⟨R, h1, h2⟩ := h; exact ⟨R, h1, h2.below hb⟩
 ·exact h
 ·exact h
 ·exact h
 ·obtain ⟨R, h1, h2⟩ := h; exact ⟨R, h1, h2.below hb⟩
 ·obtain ⟨A, B, h1, h2, h3⟩ := h; exact ⟨A, B, h1, h2.below hb, h3.below hb⟩
 ·obtain ⟨A, B, h1, h2, h3⟩ := h; exact ⟨A, B, h1, h2.below hb, h3.below hb⟩
theorem IntsV.setBool {w : World} {v : Value} {l : List Int} {p : Addr} {b : Bool} (h : IntsV w v l) (hc : w.cell? p = some (.bool b)) (u : Value) : IntsV (w.setCell p u) v l := by
 obtain ⟨ao, cap, rfl, h⟩ := h; refine ⟨ao, cap, rfl, fun hne => ?_⟩
 obtain ⟨c, off, rfl, hlt, hat⟩ := h hne; refine ⟨c, off, rfl, by simpa using hlt, fun j hj => ?_⟩
 have h1 := hat j hj
 have hne2 : (⟨c, off + j, none⟩ : Addr) ≠ p := by
  intro e; rw [e, hc] at h1; simp at h1
 rw [World.cell?_setCell_other _ _ _ _ hne2.symm]
 exact h1
theorem boxed {w : World} {v : Value} {x : List Int} {R : Nat} {b : Bool} {a1 a2 : Option Addr} {n1 n2 c1 c2 : Nat} (h : IntsV w v x) (k0 : w.cell? ⟨R, 0, none⟩ = some (.bool b)) (k1 : w.cell? ⟨R, 1, none⟩ = some (.slice a1 n1 c1)) (k2 : w.cell? ⟨R, 2, none⟩ = some (.slice a2 n2 c2)) (u0 u1 u2 : Value) : IntsV (((w.setCell ⟨R, 0, none⟩ u0).setCell ⟨R, 1, none⟩ u1).setCell ⟨R, 2, none⟩ u2) v x := by
 have h0 := h.setBool k0 u0; have h1 := h0.setBox (p := ⟨R, 1, none⟩) ((World.cell?_setCell_other _ _ _ _ (by simp)).trans k1) u1
 exact h1.setBox (p := ⟨R, 2, none⟩) ((World.cell?_setCell_other _ _ _ _ (by simp)).trans ((World.cell?_setCell_other _ _ _ _ (by simp)).trans k2)) u2
def laB (sv lv : Value) : Obj := .cells #[sv, lv] 47 (0, 0)
theorem laB_cells {w : World} {X : Nat} {sv lv : Value} (hb : w.heap[X]? = some (laB sv lv)) : w.cell? ⟨X, 0, none⟩ = some sv /\ w.cell? ⟨X, 1, none⟩ = some lv := by
 unfold laB at hb; refine ⟨?_, ?_⟩ <;> simp [World.cell?, hb]
theorem vcheck_bad (va vr pv fv : Value) (m : Mo) (ps : List (List (Int × Int))) (l : List (Int × Int)) (w : World) (hV : TaskV w va vr pv fv m ps l) (c : Int) (hc : c ≠ 0) (hex : ∀ w', Below w.heap.size w w' -> Calls Tryz.prog 8 #[.agg #[va, vr, pv, fv]] w' fun e w2 => e = .returned (.tuple #[.agg #[.slice none 0 0, .int .i64 0, .slice none 0 0, .slice none 0 0, .int .i64 0], .int .i64 c]) /\ Below w'.heap.size w' w2) :
    Calls Tryz.prog 11 #[.agg #[va, vr, pv, fv]] w fun e w' => e = .returned (.tuple #[.agg #[.bool false, .slice none 0 0, .slice none 0 0], .int .i64 c]) /\ Below w.heap.size w w' := by
  obtain ⟨ao, ac, rfl⟩ := hV.mo.1.shape; obtain ⟨ro, rc, rfl⟩ := hV.mo.2.shape; obtain ⟨po, pc, rfl⟩ := hV.ps.shape; obtain ⟨fo, fc, rfl, _⟩ := id hV.fo; clear hV; generalize m.vars.length = vn at *; generalize m.rules.length = rn at *; generalize ps.length = pn at *; generalize l.length = fn at *
  obtain ⟨W1, hW1⟩ : ∃ W1, W1 = (w.alloc (.cells #[.slice ao vn ac, .slice ro rn rc, .slice po pn pc, .slice fo fn fc] 34)).alloc (.cells #[.bool false, .slice none 0 0, .slice none 0 0] 51) := ⟨_, rfl⟩
  have hb1 : Below w.heap.size w W1 := by rw [hW1]; exact ((Below.refl _ _).alloc (Nat.le_refl _) _).alloc (by simp) _
  have hz1 : W1.heap.size = w.heap.size + 2 := by rw [hW1]; simp
  have he := hex W1 hb1
  have HBx : Hid (∀ w', Below W1.heap.size W1 w' -> (w'.cell? ⟨w.heap.size + 1, 0, none⟩ = some (.bool false) /\ w'.cell? ⟨w.heap.size + 1, 1, none⟩ = some (.slice none 0 0) /\ w'.cell? ⟨w.heap.size + 1, 2, none⟩ = some (.slice none 0 0)) /\ (w'.frozen? ⟨w.heap.size + 1, 0, none⟩ = false /\ w'.frozen? ⟨w.heap.size + 1, 1, none⟩ = false /\ w'.frozen? ⟨w.heap.size + 1, 2, none⟩ = false)) := fun w' h => by
    have hlt : w.heap.size + 1 < W1.heap.size := by omega
    refine ⟨⟨?_, ?_, ?_⟩, ?_, ?_, ?_⟩
    · exact (h.cell (p := ⟨w.heap.size + 1, 0, none⟩) hlt).trans (by rw [hW1]; simp [go_sem])
    · exact (h.cell (p := ⟨w.heap.size + 1, 1, none⟩) hlt).trans (by rw [hW1]; simp [go_sem])
    · exact (h.cell (p := ⟨w.heap.size + 1, 2, none⟩) hlt).trans (by rw [hW1]; simp [go_sem])
    · exact (h.frozen (p := ⟨w.heap.size + 1, 0, none⟩) hlt).trans (by rw [hW1]; simp [go_sem])
    · exact (h.frozen (p := ⟨w.heap.size + 1, 1, none⟩) hlt).trans (by rw [hW1]; simp [go_sem])
    · exact (h.frozen (p := ⟨w.heap.size + 1, 2, none⟩) hlt).trans (by rw [hW1]; simp [go_sem])
  have HW1 := (show Hid (W1 = _) from hW1)
  clear hW1 hex
  go_enter Tryz.func11, Tryz.ntmps11
  go_upto_region 2 with (go_at_call 8; rw [<- HW1.out]; refine he.mono ?_; rintro e w2 ⟨rfl, hb2⟩)
  have hbA : Below w2.heap.size w2 (w2.alloc (.cells #[.slice none 0 0, .int .i64 0, .slice none 0 0, .slice none 0 0, .int .i64 0] 40)) := (Below.refl _ _).alloc (Nat.le_refl _) _; have hb3 := hb2.trans (hbA.mono hb2.size); generalize w2.alloc (.cells #[.slice none 0 0, .int .i64 0, .slice none 0 0, .slice none 0 0, .int .i64 0] 40) = W3 at *; obtain ⟨⟨r0, r1, r2⟩, f0, f1, f2⟩ := HBx.out W3 hb3
  have hbw3 := hb1.trans (hb3.mono hb1.size); have hcb : ¬ c = 0 := hc; clear HBx HW1 he
  go_wp2_with fail
  refine bodyPost_ret (v := .tuple #[.agg #[.bool false, .slice none 0 0, .slice none 0 0], .int .i64 c]) ?_ rfl ⟨rfl, ?_⟩
  · simp only [results, Tryz.results11]
    simp [go_sem, r0, r1, r2]
  · exact ((hbw3.setCell (p := ⟨w.heap.size + 1, 0, none⟩) (by show w.heap.size <= w.heap.size + 1; omega) _).setCell (p := ⟨w.heap.size + 1, 1, none⟩) (by show w.heap.size <= w.heap.size + 1; omega) _).setCell (p := ⟨w.heap.size + 1, 2, none⟩) (by show w.heap.size <= w.heap.size + 1; omega) _
theorem vcheck_ok (va vr pv fv : Value) (m : Mo) (ps : List (List (Int × Int))) (l : List (Int × Int)) (w : World) (hB : 0 < w.heap.size) (hT : TabAt w) (hV : TaskV w va vr pv fv m ps l) (hk : tkcode m ps l = 0) (hnf : ¬ ExFull m ps l) :
  Calls Tryz.prog 11 #[.agg #[va, vr, pv, fv]] w (VdAns w m ps l) := by
 obtain ⟨ao, ac, rfl⟩ := hV.mo.1.shape; obtain ⟨ro, rc, rfl⟩ := hV.mo.2.shape; obtain ⟨po, pc, rfl⟩ := hV.ps.shape; obtain ⟨fo, fc, rfl, _⟩ := id hV.fo; obtain ⟨W1, hW1⟩ : ∃ W1, W1 = (w.alloc (.cells #[.slice ao m.vars.length ac, .slice ro m.rules.length rc, .slice po ps.length pc, .slice fo l.length fc] 34)).alloc (.cells #[.bool false, .slice none 0 0, .slice none 0 0] 51) := ⟨_, rfl⟩
 have hb1 : Below w.heap.size w W1 := by rw [hW1]; exact ((Below.refl _ _).alloc (Nat.le_refl _) _).alloc (by simp) _
 have hz1 : W1.heap.size = w.heap.size + 2 := by rw [hW1]; simp
 have hex : Calls Tryz.prog 8 #[.agg #[.slice ao m.vars.length ac, .slice ro m.rules.length rc, .slice po ps.length pc, .slice fo l.length fc]] W1 fun e w2 => ∃ K so sc no nc xo xc, e = .returned (.tuple #[.agg #[.slice so K sc, .int .i64 ((begL m ps l).length : Nat), .slice no K nc, .slice xo K xc, .int .i64 ((aheadL l).length : Nat)], .int .i64 0]) /\ Below W1.heap.size W1 w2 /\ K <= 20000 /\ Hid (ExDone m ps l K /\ GraphV w2 (.slice so K sc) (.slice no K nc) (.slice xo K xc) (exGr m ps l K)) := by
  refine (explore_any _ _ _ _ m ps l W1 (Nat.lt_of_lt_of_le hB hb1.size) (hT.below hb1 hB) (hV.below hb1)).mono fun e w2 hx => ?_
  rcases hx with ⟨_, K, hD, sv, nv, tv, e1, h2, HG⟩ | ⟨_, hf, _, _⟩ | ⟨h1, _, _⟩
  ·have hGr := HG.out.graph
   obtain ⟨so, sc, rfl⟩ := HG.out.1.shape; obtain ⟨us, n1, _⟩ := HG.out.2.1; obtain ⟨no, nc, rfl⟩ := owns_slice n1; obtain ⟨xo, xc, rfl⟩ := owns_slice HG.out.2.2; rw [hD.1, xpN_len, xpT_len] at e1 hGr; exact ⟨K, so, sc, no, nc, xo, xc, e1, h2, hD.2.1, hD, hGr⟩
  ·exact absurd hf hnf
  ·exact absurd hk h1
 have HBx : Hid (∀ w', Below W1.heap.size W1 w' -> (w'.cell? ⟨w.heap.size + 1, 0, none⟩ = some (.bool false) /\ w'.cell? ⟨w.heap.size + 1, 1, none⟩ = some (.slice none 0 0) /\ w'.cell? ⟨w.heap.size + 1, 2, none⟩ = some (.slice none 0 0)) /\ (w'.frozen? ⟨w.heap.size + 1, 0, none⟩ = false /\ w'.frozen? ⟨w.heap.size + 1, 1, none⟩ = false /\ w'.frozen? ⟨w.heap.size + 1, 2, none⟩ = false)) := fun w' h => by
  have hlt : w.heap.size + 1 < W1.heap.size := by omega
  refine ⟨⟨?_, ?_, ?_⟩, ?_, ?_, ?_⟩
  ·exact (h.cell (p := ⟨w.heap.size + 1, 0, none⟩) hlt).trans (by rw [hW1]; simp [go_sem])
  ·exact (h.cell (p := ⟨w.heap.size + 1, 1, none⟩) hlt).trans (by rw [hW1]; simp [go_sem])
  ·exact (h.cell (p := ⟨w.heap.size + 1, 2, none⟩) hlt).trans (by rw [hW1]; simp [go_sem])
  ·exact (h.frozen (p := ⟨w.heap.size + 1, 0, none⟩) hlt).trans (by rw [hW1]; simp [go_sem])
  ·exact (h.frozen (p := ⟨w.heap.size + 1, 1, none⟩) hlt).trans (by rw [hW1]; simp [go_sem])
  ·exact (h.frozen (p := ⟨w.heap.size + 1, 2, none⟩) hlt).trans (by rw [hW1]; simp [go_sem])
 have HLa : Hid (∀ (w' : World) (so no xo : Option Addr) (sc nc xc K : Nat), ExDone m ps l K -> GraphV w' (.slice so K sc) (.slice no K nc) (.slice xo K xc) (exGr m ps l K) -> Calls Tryz.prog 10 #[.agg #[.slice so K sc, .int .i64 ((begL m ps l).length : Nat), .slice no K nc, .slice xo K xc, .int .i64 ((aheadL l).length : Nat)]] w' fun e w2 => ∃ t0 tn tc uo un uc c, e = .returned (.tuple #[.agg #[.slice t0 tn tc, .slice uo un uc], .int .i64 c]) /\ Below w'.heap.size w' w2 /\ Hid (LassoV (exGr m ps l K) w2 (.agg #[.slice t0 tn tc, .slice uo un uc]) c)) := fun w' so no xo sc nc xc K hD hGr => by
  have hok := exGr_ok hk hD; have hc0 : gcode (exGr m ps l K) = 0 := gcode_ok hok.head hok.row; have e1 : (exGr m ps l K).spots.length = K := hD.1; have e2 : (exGr m ps l K).next.length = K := xpN_len K; have e3 : (exGr m ps l K).sets.length = K := xpT_len K; have h := slasso_ok so no xo sc nc xc (exGr m ps l K) w' (exGr_le hk hD) (by rw [e1, e2, e3]; exact hGr) hc0
  rw [e1, e2, e3] at h; refine h.mono fun e w2 ⟨v, c, g1, g2, g3⟩ => ?_
  rcases id g3.out with ⟨_, _, rfl⟩ | ⟨_, _, t0, tc, uo, uc, st, lp, rfl, _⟩
  ·exact ⟨_, _, _, _, _, _, c, g1, g2, g3⟩
  ·exact ⟨_, _, _, _, _, _, c, g1, g2, g3⟩
 have HSt : Hid (∀ (w' : World) (so no xo po : Option Addr) (sc nc xc pc K : Nat) (x : List Nat), ExDone m ps l K -> OpsV w' (.slice so K sc) (xpP m ps l K) -> NatsV w' (.slice po x.length pc) x -> (∀ y ∈ x, y < K) -> x.length <= 2000000 -> Calls Tryz.prog 35 #[.agg #[.slice so K sc, .int .i64 ((begL m ps l).length : Nat), .slice no K nc, .slice xo K xc, .int .i64 ((aheadL l).length : Nat)], .slice po x.length pc] w' fun e w2 => ∃ R, e = .returned (.slice (some ⟨R, 0, none⟩) x.length x.length) /\ Below w'.heap.size w' w2 /\ Hid (IntsV w2 (.slice (some ⟨R, 0, none⟩) x.length x.length) (stL m ps l K x))) := fun w' so no xo po sc nc xc pc K x hD hO hN hlt hz => by
  have h := statesAt_any so no xo po sc K nc K xc pc ((begL m ps l).length : Nat) ((aheadL l).length : Nat) (xpP m ps l K) x w' (by rw [hD.1]; exact hO) hN (fun i hi => by
   rw [hD.1]; refine hlt _ ?_
   rw [List.getD_eq_getElem?_getD, List.getElem?_eq_getElem hi]
   exact List.getElem_mem _) hz (by rw [hD.1]; exact hD.2.1)
  rw [hD.1] at h; exact h
 have HTk : Hid (tkcode m ps l = 0) := hk; have HW1 := (show Hid (W1 = _) from hW1)
 clear hW1 hV hT hk hnf; unfold VdAns; generalize hbl : (begL m ps l).length = bn at *; generalize hal : (aheadL l).length = an at *; generalize m.vars.length = vn at *; generalize m.rules.length = rn at *; generalize ps.length = pn at *; generalize l.length = fn at *; clear hbl hal
 go_enter Tryz.func11, Tryz.ntmps11
 go_upto_region 2 with (go_at_call 8; rw [<- HW1.out]; refine hex.mono ?_; rintro e w2 ⟨K, so, sc, no, nc, xo, xc, rfl, hb2, hK, HD⟩)
 have hbA : Below w2.heap.size w2 (w2.alloc (.cells #[.slice so K sc, .int .i64 (bn : Nat), .slice no K nc, .slice xo K xc, .int .i64 (an : Nat)] 40)) := (Below.refl _ _).alloc (Nat.le_refl _) _
 have hbg : (w2.alloc (.cells #[.slice so K sc, .int .i64 (bn : Nat), .slice no K nc, .slice xo K xc, .int .i64 (an : Nat)] 40)).heap[w2.heap.size]? = some (grB (.slice so K sc) (.slice no K nc) (.slice xo K xc) (bn : Nat) (an : Nat)) := (MapKept.heap_alloc w2 _).1; have hb3 := hb2.trans (hbA.mono hb2.size)
 have HG3 : Hid (GraphV (w2.alloc (.cells #[.slice so K sc, .int .i64 (bn : Nat), .slice no K nc, .slice xo K xc, .int .i64 (an : Nat)] 40)) (.slice so K sc) (.slice no K nc) (.slice xo K xc) (exGr m ps l K)) := HD.out.2.below hbA; have HDn : Hid (ExDone m ps l K) := HD.out.1; have hXw : W1.heap.size <= w2.heap.size := hb2.size
 generalize w2.alloc (.cells #[.slice so K sc, .int .i64 (bn : Nat), .slice no K nc, .slice xo K xc, .int .i64 (an : Nat)] 40) = W3 at *; generalize w2.heap.size = X at *; have hla := HLa.out W3 so no xo sc nc xc K HDn.out HG3.out; obtain ⟨g0, g1, g2, g3, g4⟩ := grB_cells hbg
 have HGb : Hid (W3.heap[X]? = some (grB (.slice so K sc) (.slice no K nc) (.slice xo K xc) (bn : Nat) (an : Nat))) := hbg; clear HD hex HLa hbA hbg HW1
 go_upto_region 5 with (go_at_call 10; refine hla.mono ?_; rintro e w4 ⟨t0, tn, tc, uo, un, uc, c, rfl, hb4, HL⟩)
 have hbB : Below w4.heap.size w4 (w4.alloc (.cells #[.slice t0 tn tc, .slice uo un uc] 47)) := (Below.refl _ _).alloc (Nat.le_refl _) _; have hbl5 : (w4.alloc (.cells #[.slice t0 tn tc, .slice uo un uc] 47)).heap[w4.heap.size]? = some (laB (.slice t0 tn tc) (.slice uo un uc)) := (MapKept.heap_alloc w4 _).1; have hb35 := hb4.trans (hbB.mono hb4.size); have hb5 := hb3.trans (hb35.mono hb3.size)
 have hbw5 := hb1.trans (hb5.mono hb1.size); obtain ⟨⟨r0, r1, r2⟩, f0, f1, f2⟩ := HBx.out _ hb5; clear hla g0 g1 g2 g3 g4
 rcases HL.out with ⟨rfl, hfc, hv⟩ | ⟨rfl, hfc, t0', tc', uo', uc', st, lp, hv, hst, hlp, hLo, hN1, hN2⟩
 ·generalize w4.alloc (.cells #[.slice t0 tn tc, .slice uo un uc] 47) = W5 at *
  have HR : Hid (∃ K, ExDone m ps l K /\ fairC (exGr m ps l K) = 11) := ⟨K, HDn.out, hfc⟩
  clear hfc hv HL HBx HSt HDn HG3 HGb hbl5
  go_wp2_with fail
  refine bodyPost_ret (v := .tuple #[.agg #[.bool true, .slice none 0 0, .slice none 0 0], .int .i64 0]) ?_ rfl (.inl ⟨HTk.out, HR.out, rfl, ?_⟩)
  ·simp only [results, Tryz.results11]
   simp [go_sem, r0, r1, r2]
  ·exact ((hbw5.setCell (p := ⟨w.heap.size + 1, 0, none⟩) (by show w.heap.size <= w.heap.size + 1; omega) _).setCell (p := ⟨w.heap.size + 1, 1, none⟩) (by show w.heap.size <= w.heap.size + 1; omega) _).setCell (p := ⟨w.heap.size + 1, 2, none⟩) (by show w.heap.size <= w.heap.size + 1; omega) _
 ·simp only [Value.agg.injEq, Array.mk.injEq, List.cons.injEq, Value.slice.injEq, and_true] at hv
  obtain ⟨⟨rfl, rfl, rfl⟩, rfl, rfl, rfl⟩ := hv
  have hlo1 : ∀ y ∈ st, y < K := fun y hy => by
   have := hLo.lt y (List.mem_append.2 (.inl hy)); rw [show (exGr m ps l K).spots.length = K from HDn.out.1] at this
   exact this
  have hlo2 : ∀ y ∈ lp, y < K := fun y hy => by
   have := hLo.lt y (List.mem_append.2 (.inr hy)); rw [show (exGr m ps l K).spots.length = K from HDn.out.1] at this
   exact this
  have hN1b := hN1.below hbB; have hN2b := hN2.below hbB
  have HRw : Hid (∀ w', Below (w4.alloc (.cells #[.slice t0 st.length tc, .slice uo lp.length uc] 47)).heap.size (w4.alloc (.cells #[.slice t0 st.length tc, .slice uo lp.length uc] 47)) w' -> ((w'.cell? ⟨X, 0, none⟩ = some (.slice so K sc) /\ w'.cell? ⟨X, 1, none⟩ = some (.int .i64 (bn : Nat)) /\ w'.cell? ⟨X, 2, none⟩ = some (.slice no K nc) /\ w'.cell? ⟨X, 3, none⟩ = some (.slice xo K xc) /\ w'.cell? ⟨X, 4, none⟩ = some (.int .i64 (an : Nat))) /\ (w'.cell? ⟨w4.heap.size, 0, none⟩ = some (.slice t0 st.length tc) /\ w'.cell? ⟨w4.heap.size, 1, none⟩ = some (.slice uo lp.length uc))) /\ (Calls Tryz.prog 35 #[.agg #[.slice so K sc, .int .i64 (bn : Nat), .slice no K nc, .slice xo K xc, .int .i64 (an : Nat)], .slice t0 st.length tc] w' fun e w2 => ∃ R, e = .returned (.slice (some ⟨R, 0, none⟩) st.length st.length) /\ Below w'.heap.size w' w2 /\ Hid (IntsV w2 (.slice (some ⟨R, 0, none⟩) st.length st.length) (stL m ps l K st))) /\ (Calls Tryz.prog 35 #[.agg #[.slice so K sc, .int .i64 (bn : Nat), .slice no K nc, .slice xo K xc, .int .i64 (an : Nat)], .slice uo lp.length uc] w' fun e w2 => ∃ R, e = .returned (.slice (some ⟨R, 0, none⟩) lp.length lp.length) /\ Below w'.heap.size w' w2 /\ Hid (IntsV w2 (.slice (some ⟨R, 0, none⟩) lp.length lp.length) (stL m ps l K lp))) /\ Below W1.heap.size W1 w') := fun w' h => by
   have h3 := hb35.trans (h.mono hb35.size); have hbx := (h3.block X (Array.getElem?_eq_some_iff.1 HGb.out).1).trans HGb.out
   have hbl := (h.block w4.heap.size (Array.getElem?_eq_some_iff.1 hbl5).1).trans hbl5
   have hsp := HG3.out.spots.below h3; exact ⟨⟨grB_cells hbx, laB_cells hbl⟩, HSt.out w' so no xo t0 sc nc xc tc K st HDn.out hsp (hN1b.below h) hlo1 (by omega), HSt.out w' so no xo uo sc nc xc uc K lp HDn.out hsp (hN2b.below h) hlo2 (by omega), hb5.trans (h.mono hb5.size)⟩
  have HLo : Hid (LassoOk (exGr m ps l K) st lp) := hLo; have HSz : Hid (st.length <= 20000 /\ lp.length <= 2000000) := ⟨hst, hlp⟩; clear hN1 hN2 hN1b hN2b hlo1 hlo2 HL hbl5 HG3 HGb HSt hb35 hbB hLo hfc hst hlp; generalize w4.alloc (.cells #[.slice t0 st.length tc, .slice uo lp.length uc] 47) = W5 at *; generalize w4.heap.size = L5 at *; obtain ⟨ns, hns⟩ : ∃ n, st.length = n := ⟨_, rfl⟩
  obtain ⟨np, hnp⟩ : ∃ n, lp.length = n := ⟨_, rfl⟩
  obtain ⟨xs, hxs⟩ : ∃ x, stL m ps l K st = x := ⟨_, rfl⟩
  obtain ⟨xp, hxp⟩ : ∃ x, stL m ps l K lp = x := ⟨_, rfl⟩
  have HN : Hid ((st.length = ns /\ lp.length = np) /\ stL m ps l K st = xs /\ stL m ps l K lp = xp) := ⟨⟨hns, hnp⟩, hxs, hxp⟩; rw [hns, hnp, hxs, hxp] at HRw; rw [hns, hnp]; clear hns hnp hxs hxp
  go_upto_region 9 with fail
  go_cut [3] (fun u wx => u = .int .i64 0 /\ ∃ A B, Hid (IntsV wx (.slice (some ⟨A, 0, none⟩) ns ns) xs /\ IntsV wx (.slice (some ⟨B, 0, none⟩) np np) xp /\ Below w.heap.size w wx) /\ wx.cell? ⟨w.heap.size + 1, 0, none⟩ = some (.bool false) /\ wx.cell? ⟨w.heap.size + 1, 1, none⟩ = some (.slice (some ⟨A, 0, none⟩) ns ns) /\ wx.cell? ⟨w.heap.size + 1, 2, none⟩ = some (.slice (some ⟨B, 0, none⟩) np np))
  case first =>
   rename_i J K' hJ hK'; generalize ha0 : Act.mk _ _ = a0; have hsz : a0.tmps.size = 38 := by rw [<- ha0]; rfl
   have a4 : a0.eval (.tmp 4) = .pointer (some ⟨X, 0, none⟩) := by rw [<- ha0]; rfl
   have a6 : a0.eval (.tmp 6) = .pointer (some ⟨L5, 0, none⟩) := by rw [<- ha0]; rfl
   have a2 : a0.eval (.tmp 2) = .pointer (some ⟨w.heap.size + 1, 0, none⟩) := by rw [<- ha0]; rfl
   refine wp_anyway (by rfl) [28, 29, 30, 31, 32, 33, 34, 35, 36, 37, 3] 10 (vcP (.agg #[.slice so K sc, .int .i64 (bn : Nat), .slice no K nc, .slice xo K xc, .int .i64 (an : Nat)]) (.slice t0 ns tc) (.slice uo np uc) L5 xs xp ns np) (by rw [hsz]; rfl) (vcP_stable _ _ _ _ _ _ _ _) ?_ ?_
   ·intro i o hi ho q w' hb hq
    have f : ∀ t, [28, 29, 30, 31, 32, 33, 34, 35, 36, 37, 3].contains t = true -> t < 38 -> (frm a0 [28, 29, 30, 31, 32, 33, 34, 35, 36, 37, 3] q).eval (.tmp t) = q t := fun t h1 h2 => frm_in h1 (by rw [hsz]; exact h2)
    have e4 : (frm a0 [28, 29, 30, 31, 32, 33, 34, 35, 36, 37, 3] q).eval (.tmp 4) = .pointer (some ⟨X, 0, none⟩) := (frm_out rfl).trans a4; have e6 : (frm a0 [28, 29, 30, 31, 32, 33, 34, 35, 36, 37, 3] q).eval (.tmp 6) = .pointer (some ⟨L5, 0, none⟩) := (frm_out rfl).trans a6; obtain ⟨⟨⟨x0, x1, x2, x3, x4⟩, y0, y1⟩, hs1, hs2, _⟩ := HRw.out w' hb
    obtain ⟨ev, hev⟩ : ∃ ev, ev = (frm a0 [28, 29, 30, 31, 32, 33, 34, 35, 36, 37, 3] q).eval := ⟨_, rfl⟩
    have evf : ∀ n, ev (.func n) = .func (.func n) #[] #[] := fun n => by rw [hev]; rfl
    rw [<- hev] at f e4 e6
    rcases vc_lt i hi with rfl | rfl | rfl | rfl | rfl | rfl | rfl | rfl | rfl | rfl
    all_goals obtain rfl := Option.some.inj ho
    ·refine op_val (w' := w') ?_ (Below.refl _ _) rfl
     rw [<- hev]; simp [execOp, e4, go_sem, x0, x1, x2, x3, x4]
    ·refine op_val (w' := w') ?_ (Below.refl _ _) rfl
     rw [<- hev]; simp [execOp, e6, go_sem]
    ·have e29 := (f 29 rfl (by decide)).trans (hq 1 29 rfl rfl)
     refine op_val (w' := w') ?_ (Below.refl _ _) rfl
     rw [<- hev]; simp [execOp, e29, go_sem, y0]
    ·have e28 := (f 28 rfl (by decide)).trans (hq 0 28 rfl rfl)
     have e30 := (f 30 rfl (by decide)).trans (hq 2 30 rfl rfl)
     refine op_call (f := 35) (args := #[.agg #[.slice so K sc, .int .i64 (bn : Nat), .slice no K nc, .slice xo K xc, .int .i64 (an : Nat)], .slice t0 ns tc]) ?_ (hs1.mono ?_)
     ·rw [<- hev]; simp [execOp, e28, e30, evf, go_sem]
     ·rintro e w2 ⟨R, rfl, h2, h3⟩
      exact ⟨_, rfl, h2, R, rfl, h3.out⟩
    ·refine op_val (w' := w') ?_ (Below.refl _ _) rfl
     rw [<- hev]; simp [execOp, e4, go_sem, x0, x1, x2, x3, x4]
    ·refine op_val (w' := w') ?_ (Below.refl _ _) rfl
     rw [<- hev]; simp [execOp, e6, go_sem]
    ·have e33 := (f 33 rfl (by decide)).trans (hq 5 33 rfl rfl)
     refine op_val (w' := w') ?_ (Below.refl _ _) rfl
     rw [<- hev]; simp [execOp, e33, go_sem, y1]
    ·have e32 := (f 32 rfl (by decide)).trans (hq 4 32 rfl rfl)
     have e34 := (f 34 rfl (by decide)).trans (hq 6 34 rfl rfl)
     refine op_call (f := 35) (args := #[.agg #[.slice so K sc, .int .i64 (bn : Nat), .slice no K nc, .slice xo K xc, .int .i64 (an : Nat)], .slice uo np uc]) ?_ (hs2.mono ?_)
     ·rw [<- hev]; simp [execOp, e32, e34, evf, go_sem]
     ·rintro e w2 ⟨R, rfl, h2, h3⟩
      exact ⟨_, rfl, h2, R, rfl, h3.out⟩
    ·obtain ⟨A, hA, hA2⟩ := hq 3 31 rfl rfl
     obtain ⟨B, hB', hB2⟩ := hq 7 35 rfl rfl; have e31 := (f 31 rfl (by decide)).trans hA
     have e35 := (f 35 rfl (by decide)).trans hB'
     refine op_val (w' := w') (v := .agg #[.slice (some ⟨A, 0, none⟩) ns ns, .slice (some ⟨B, 0, none⟩) np np]) ?_ (Below.refl _ _) ⟨A, B, rfl, by rw [<- hA]; exact hA2, by rw [<- hB']; exact hB2⟩
     rw [<- hev]; simp [execOp, e31, e35, go_sem]
    ·obtain ⟨A, B, hA, hA2, hB2⟩ := hq 8 36 rfl rfl
     have e36 := (f 36 rfl (by decide)).trans hA
     refine op_val (w' := w') (v := .agg #[.bool false, .slice (some ⟨A, 0, none⟩) ns ns, .slice (some ⟨B, 0, none⟩) np np]) ?_ (Below.refl _ _) ⟨A, B, rfl, hA2, hB2⟩
     rw [<- hev]; simp [execOp, e36, go_sem]
   ·intro q w' hb hq
    have f : ∀ q t, [28, 29, 30, 31, 32, 33, 34, 35, 36, 37, 3].contains t = true -> t < 38 -> (frm a0 [28, 29, 30, 31, 32, 33, 34, 35, 36, 37, 3] q).eval (.tmp t) = q t := fun q t h1 h2 => frm_in h1 (by rw [hsz]; exact h2)
    obtain ⟨A, B, h37, hA2, hB2⟩ := hq 9 37 (by decide) rfl
    have e37 := (f q 37 rfl (by decide)).trans h37
    have e2 : (frm a0 [28, 29, 30, 31, 32, 33, 34, 35, 36, 37, 3] q).eval (.tmp 2) = .pointer (some ⟨w.heap.size + 1, 0, none⟩) := (frm_out rfl).trans a2; obtain ⟨_, _, _, hbW⟩ := HRw.out w' hb; obtain ⟨⟨k0, k1, k2⟩, l0, l1, l2⟩ := HBx.out w' hbW
    show wpOps Tryz.prog _ _ [10, 11] _ _
    rw [wpOps_cons]; refine op_atR rfl rfl ?_
    refine op_skip (w' := ((w'.setCell ⟨w.heap.size + 1, 0, none⟩ (.bool false)).setCell ⟨w.heap.size + 1, 1, none⟩ (.slice (some ⟨A, 0, none⟩) ns ns)).setCell ⟨w.heap.size + 1, 2, none⟩ (.slice (some ⟨B, 0, none⟩) np np)) rfl ?_ ?_
    ·generalize (frm a0 [28, 29, 30, 31, 32, 33, 34, 35, 36, 37, 3] q).eval = ev at e37 e2 ⊢
     simp [execOp, e2, e37, go_sem, k0, k1, k2, l0, l1, l2]
    rw [wpOps_cons]; refine op_atR rfl rfl ?_
    refine op_run (w' := ((w'.setCell ⟨w.heap.size + 1, 0, none⟩ (.bool false)).setCell ⟨w.heap.size + 1, 1, none⟩ (.slice (some ⟨A, 0, none⟩) ns ns)).setCell ⟨w.heap.size + 1, 2, none⟩ (.slice (some ⟨B, 0, none⟩) np np)) (v := .int .i64 0) ?_ ?_
    ·have evc : ∀ v, (frm a0 [28, 29, 30, 31, 32, 33, 34, 35, 36, 37, 3] q).eval (.const v) = v := fun v => rfl
     generalize (frm a0 [28, 29, 30, 31, 32, 33, 34, 35, 36, 37, 3] q).eval = ev at evc ⊢; simp [execOp, evc, go_sem]
    rw [late_put 3 rfl rfl]
    show K' _ _
    refine hK' _ _ ?_
    rw [<- ha0]
    go_meet
    have hbF := hb1.trans (hbW.mono hb1.size); have n0 : ∀ A', IntsV w' A' xs -> IntsV (((w'.setCell ⟨w.heap.size + 1, 0, none⟩ (.bool false)).setCell ⟨w.heap.size + 1, 1, none⟩ (.slice (some ⟨A, 0, none⟩) ns ns)).setCell ⟨w.heap.size + 1, 2, none⟩ (.slice (some ⟨B, 0, none⟩) np np)) A' xs := fun A' h => boxed h k0 k1 k2 _ _ _
    have n1 : ∀ A', IntsV w' A' xp -> IntsV (((w'.setCell ⟨w.heap.size + 1, 0, none⟩ (.bool false)).setCell ⟨w.heap.size + 1, 1, none⟩ (.slice (some ⟨A, 0, none⟩) ns ns)).setCell ⟨w.heap.size + 1, 2, none⟩ (.slice (some ⟨B, 0, none⟩) np np)) A' xp := fun A' h => boxed h k0 k1 k2 _ _ _
    refine ⟨setV_same q 3 _, A, B, ⟨n0 _ hA2, n1 _ hB2, ((hbF.setCell (p := ⟨w.heap.size + 1, 0, none⟩) (by show w.heap.size <= w.heap.size + 1; omega) _).setCell (p := ⟨w.heap.size + 1, 1, none⟩) (by show w.heap.size <= w.heap.size + 1; omega) _).setCell (p := ⟨w.heap.size + 1, 2, none⟩) (by show w.heap.size <= w.heap.size + 1; omega) _⟩, ?_, ?_, ?_⟩
    ·rw [World.cell?_setCell_other _ _ _ _ (by simp), World.cell?_setCell_other _ _ _ _ (by simp)]
     exact World.cell?_setCell_same _ _ _ k0
    ·rw [World.cell?_setCell_other _ _ _ _ (by simp)]
     refine World.cell?_setCell_same _ _ _ (u := .slice none 0 0) ?_
     rw [World.cell?_setCell_other _ _ _ _ (by simp)]
     exact k1
    ·refine World.cell?_setCell_same _ _ _ (u := .slice none 0 0) ?_
     rw [World.cell?_setCell_other _ _ _ _ (by simp), World.cell?_setCell_other _ _ _ _ (by simp)]
     exact k2
  case rest =>
   obtain ⟨rfl, A, B, HE, z0, z1, z2⟩ := hcut
   go_wp2_with fail
   obtain ⟨⟨hn1, hn2⟩, hx1, hx2⟩ := HN.out; refine bodyPost_ret (v := .tuple #[.agg #[.bool false, .slice (some ⟨A, 0, none⟩) ns ns, .slice (some ⟨B, 0, none⟩) np np], .int .i64 0]) ?_ rfl (.inr (.inl ⟨HTk.out, K, st, lp, A, B, HDn.out, HLo.out, HSz.out.1, HSz.out.2, by rw [hn1, hn2], HE.out.2.2, by rw [hn1, hn2, hx1, hx2]; exact ⟨HE.out.1, HE.out.2.1⟩⟩))
   simp only [results, Tryz.results11]; simp [go_sem, z0, z1, z2]
theorem vcheck_any (va vr pv fv : Value) (m : Mo) (ps : List (List (Int × Int))) (l : List (Int × Int)) (w : World) (hB : 0 < w.heap.size) (hT : TabAt w) (hV : TaskV w va vr pv fv m ps l) :
  Calls Tryz.prog 11 #[.agg #[va, vr, pv, fv]] w (VdAns w m ps l) := by
 by_cases hk : tkcode m ps l = 0
 ·by_cases hf : ExFull m ps l
  ·refine (vcheck_bad va vr pv fv m ps l w hV 12 (by decide) fun w' h => (explore_any va vr pv fv m ps l w' (Nat.lt_of_lt_of_le hB h.size) (hT.below h hB) (hV.below h)).mono fun e w2 hx => ?_).mono fun e w2 ⟨h1, h2⟩ => .inr (.inr (.inl ⟨hk, hf, h1, h2⟩))
   rcases hx with ⟨_, K, hD, _⟩ | ⟨_, _, h1, h2⟩ | ⟨h1, _, _⟩
   ·exact absurd hf (ex_not_both hD)
   ·exact ⟨h1, h2⟩
   ·exact absurd hk h1
  ·exact vcheck_ok va vr pv fv m ps l w hB hT hV hk hf
 ·refine (vcheck_bad va vr pv fv m ps l w hV (tkcode m ps l) hk fun w' h => (explore_any va vr pv fv m ps l w' (Nat.lt_of_lt_of_le hB h.size) (hT.below h hB) (hV.below h)).mono fun e w2 hx => ?_).mono fun e w2 ⟨h1, h2⟩ => .inr (.inr (.inr ⟨hk, h1, h2⟩))
  rcases hx with ⟨h0, _⟩ | ⟨h0, _⟩ | ⟨_, h1, h2⟩
  ·exact absurd h0 hk
  ·exact absurd h0 hk
  ·exact ⟨h1, h2⟩
end Go.Proofs.YteejnjcdfmedlaaGreatDoor
namespace Go.Proofs.YteejnjcdfmedlaaGreatDoor
open Go.ChangeShapes Go.WideShapes Go.ChangeAt Go.RowKit Go.Deep
open Terms
set_option maxHeartbeats 6400000
set_option maxRecDepth 20000
def clmTo (a : List Int) (h : Nat -> Nat -> Bool) (j : Nat) : Nat -> Int
 | 0 => 0
 | k + 1 => clmTo a h j k + if h (a.getD k 0).toNat j = true then 2 ^ k else 0
theorem clmTo_bounds (a : List Int) (h : Nat -> Nat -> Bool) (j : Nat) : ∀ k, 0 <= clmTo a h j k /\ clmTo a h j k < 2 ^ k := by
 intro k
 induction k with
 | zero => simp [clmTo]
 | succ k ih =>
  have h2 : (0 : Int) < 2 ^ k := Int.pow_pos (by decide)
  simp only [clmTo]; rw [Int.pow_succ]
  split <;> omega
end Go.Proofs.YteejnjcdfmedlaaGreatDoor
namespace Go.Proofs.YteejnjcdfmedlaaGreatDoor
open Terms
set_option maxHeartbeats 6400000
set_option maxRecDepth 20000
theorem bit_clm (a : List Int) (h : Nat -> Nat -> Bool) (j : Nat) : ∀ n k, k < n -> bitB (clmTo a h j n) k = h (a.getD k 0).toNat j := by
 intro n
 induction n with
 | zero => intro k hk; omega
 | succ n ih =>
  intro k hk; obtain ⟨b0, b1⟩ := clmTo_bounds a h j n; have hp : (0 : Int) < 2 ^ k := Int.pow_pos (by decide)
  by_cases e : k = n
  ·subst e
   have e1 : clmTo a h j (k + 1) = clmTo a h j k + if h (a.getD k 0).toNat j = true then 2 ^ k else 0 := rfl
   by_cases hb : h (a.getD k 0).toNat j = true
   ·rw [if_pos hb] at e1
    have : (clmTo a h j k + 2 ^ k) / 2 ^ k = 1 := by
     rw [show clmTo a h j k + 2 ^ k = clmTo a h j k + 1 * 2 ^ k by omega, Int.add_mul_ediv_right _ _ (by omega), Int.ediv_eq_zero_of_lt b0 b1]
     rfl
    rw [hb, e1]; unfold bitB; rw [this]; rfl
   ·rw [if_neg hb, Int.add_zero] at e1
    rw [e1, Bool.eq_false_iff.2 hb]; unfold bitB; rw [Int.ediv_eq_zero_of_lt b0 b1]; rfl
  ·have hkn : k < n := by omega
   rw [<- ih k hkn]; have e1 : clmTo a h j (n + 1) = clmTo a h j n + if h (a.getD n 0).toNat j = true then 2 ^ n else 0 := rfl
   by_cases hb : h (a.getD n 0).toNat j = true
   ·rw [if_pos hb] at e1
    obtain ⟨d, hd⟩ : ∃ d, n = k + 1 + d := ⟨n - (k + 1), by omega⟩
    have e2 : (2 : Int) ^ n = (2 * 2 ^ d) * 2 ^ k := by rw [hd, Int.pow_add, Int.pow_succ]; simp [Int.mul_comm, Int.mul_left_comm, Int.mul_assoc]
    have e3 : clmTo a h j (n + 1) / 2 ^ k % 2 = clmTo a h j n / 2 ^ k % 2 := by
     rw [e1, e2, Int.add_mul_ediv_right _ _ (by omega)]
     omega
    unfold bitB; rw [e3]
   ·rw [if_neg hb, Int.add_zero] at e1
    rw [e1]
theorem op_at {T : Tm} {l : List (Int × Int)} (ho : T.ops = l) {q : Nat} (hq : q < T.size) : l.getD q (0, 0) = ((T.sub q).kind, (T.sub q).val) := by
 obtain ⟨r, hr⟩ := Tm.sub_drop T q hq; rw [ho] at hr; have h0 : l.getD q (0, 0) = (l.drop q).getD 0 (0, 0) := by simp [List.getD_eq_getElem?_getD]
 rw [h0, hr, <- Tm.ops_head (T.sub q) (0, 0)]; have hne := Tm.ops_ne (T.sub q)
 cases hx : (T.sub q).ops with
 | nil => exact absurd hx hne
 | cons x s => simp
theorem sub_one {T : Tm} {q : Nat} {k v : Int} {a : Tm} (hq : q < T.size) (e : T.sub q = .un k v a) : T.sub (q + 1) = a := by
 have := Tm.sub_sub T q 1 hq (by rw [e]; have := a.size_pos; simp [Tm.size]; omega)
 rw [this, e]; exact Tm.sub_zero a
theorem sub_fst {T : Tm} {q : Nat} {k v : Int} {a b : Tm} (hq : q < T.size) (e : T.sub q = .bi k v a b) : T.sub (q + 1) = a := by
 have ha := a.size_pos; have := Tm.sub_sub T q 1 hq (by rw [e]; simp [Tm.size]; omega)
 rw [this, e]
 show (if 0 < a.size then a.sub 0 else b.sub (0 - a.size)) = a
 rw [if_pos (by omega), Tm.sub_zero]
theorem sub_snd {T : Tm} (hw : T.Wf) {l : List (Int × Int)} (ho : T.ops = l) {q : Nat} {k v : Int} {a b : Tm} (hq : q < T.size) (e : T.sub q = .bi k v a b) : T.sub (sec l q) = b := by
 have ha := a.size_pos; have hb := b.size_pos; have hf := Tm.sub_fits T hq; rw [e] at hf; simp only [Tm.size] at hf; have h1 := (Tm.end_at hw (q := q + 1) (by omega)).1
 rw [ho, sub_fst hq e] at h1; have hs : sec l q = q + (1 + a.size) := by unfold sec; rw [h1]; omega
 rw [hs, Tm.sub_sub T q (1 + a.size) hq (by rw [e]; simp only [Tm.size]; omega), e, show 1 + a.size = a.size + 1 by omega]
 show (if a.size < a.size then a.sub a.size else b.sub (a.size - a.size)) = b
 rw [if_neg (by omega), Nat.sub_self, Tm.sub_zero]
theorem line_tru {T : Tm} (hw : T.Wf) {l : List (Int × Int)} (ho : T.ops = l) (hz : endsCode (l.map Prod.fst) = 0) (σ : Nat -> Nat -> Bool) (letter : List Bool) (i : Nat) (hl : ∀ v : Int, 0 <= v -> letter.getD v.toNat false = σ i v.toNat) (hv : ∀ q, q < l.length -> (l.getD q (0, 0)).1 = 13 -> 0 <= (l.getD q (0, 0)).2) (h8 : ∀ q, q < l.length -> 8 <= (l.getD q (0, 0)).1) :
  ∀ d p, l.length <= p + d -> p < l.length -> tru l letter (clmTo (aheadL l) (fun q => (T.sub q).hb σ) i (aheadL l).length) p = (T.sub p).hb σ i := by
 have hsz : T.size = l.length := by rw [<- Tm.ops_length, ho]
 intro d
 induction d with
 | zero => intro p h1 h2; omega
 | succ d ih =>
  intro p h1 h2; have hq : p < T.size := by omega
  have hop := op_at ho hq; obtain ⟨q1, q2⟩ := part_in hz h2
  cases hb : lookB (l.getD p (0, 0)).1 with
  | true =>
   rw [tru_look h2 hb]
   have hlt : (aheadTo l p).length < (aheadL l).length := by
    have := aheadTo_mono l (p := p + 1) (n := l.length) (by omega)
    rw [aheadTo_yes hb, List.length_append] at this; exact this
   rw [bit_clm _ _ _ _ _ hlt]; obtain ⟨p', e1, e2, e3, e4⟩ := aheadTo_get l l.length (aheadTo l p).length hlt; have e1' : (aheadL l).getD (aheadTo l p).length 0 = (p' : Int) := e1; rw [e1']
   have : p' = p := by
    rcases Nat.lt_trichotomy p' p with h | h | h
    ·have := aheadTo_mono l (p := p' + 1) (n := p) (by omega)
     rw [aheadTo_yes e3, List.length_append] at this; simp at this; omega
    ·exact h
    ·have := aheadTo_mono l (p := p + 1) (n := p') (by omega)
     rw [aheadTo_yes hb, List.length_append] at this; simp at this; omega
   rw [this]; rfl
  | false =>
   rw [tru_mk h2 hb (fun h => (q2 h).1)]
   have hwf := Tm.sub_wf hw p; rw [hop] at hb q1 q2 ⊢; have hvp := hv p h2; rw [hop] at hvp
   cases hT : T.sub p with
   | leaf k v =>
    rw [hT] at hb hvp hwf; simp only [Tm.kind, Tm.val] at hb hvp ⊢; unfold mkB
    by_cases k13 : k = 13
    ·subst k13
     rw [if_pos rfl, Tm.hb_prop]; exact hl v (hvp rfl)
    ·by_cases k11 : k = 11
     ·subst k11
      rw [Tm.hb_yes]; rfl
     ·rw [Tm.hb_no _ _ _ k13 k11]
      have hpn : pn k = 0 := hwf.2; have k8 : k ≠ 8 := fun e => by rw [e] at hpn; exact absurd hpn (by decide)
      have k9 : k ≠ 9 := fun e => by rw [e] at hpn; exact absurd hpn (by decide)
      have k10 : k ≠ 10 := fun e => by rw [e] at hpn; exact absurd hpn (by decide)
      simp [k13, k11, k8, k9, k10]
   | un k v a =>
    have hs1 := sub_one hq hT; rw [hT] at hb hwf q1; simp only [Tm.kind, Tm.val] at hb q1 ⊢; have hpn : pn k = 1 := hwf.2.1; have hok : okK k = true := hwf.1
    have hk : k = 10 := by
     have h14 : ¬ (14 <= k /\ k <= 18) := by simpa [lookB] using hb
     unfold pn at hpn
     split at hpn
     ·omega
     ·split at hpn <;> omega
    subst hk; rw [ih (p + 1) (by omega) (q1 (by rw [hpn]; exact Nat.le_refl _)), hs1, Tm.hb_not]
    rfl
   | bi k v a b =>
    have hs1 := sub_fst hq hT; have hs2 := sub_snd hw ho hq hT; have h8p := h8 p h2; rw [hop, hT] at h8p; rw [hT] at hb hwf q1 q2; simp only [Tm.kind, Tm.val] at hb q1 q2 ⊢; have hpn : pn k = 2 := hwf.2.1; rw [ih (p + 1) (by omega) (q1 (by omega)), ih (sec l p) (by have := (q2 hpn).1; omega) (q2 hpn).2, hs1, hs2]
    simp only [Tm.kind] at h8p
    have hk : k = 8 \/ k = 9 := by
     have h14 : ¬ (14 <= k /\ k <= 18) := by simpa [lookB] using hb
     unfold pn at hpn
     split at hpn
     ·omega
     ·split at hpn <;> omega
    rcases hk with rfl | rfl
    ·rw [Tm.hb_and]; rfl
    ·rw [Tm.hb_or]; rfl
theorem kind_cases {k : Int} (h : lookB k = true) : k = 14 \/ k = 15 \/ k = 16 \/ k = 17 \/ k = 18 := by
 have : 14 <= k /\ k <= 18 := by simpa [lookB] using h
 omega
theorem look_parts {T : Tm} (hw : T.Wf) {l : List (Int × Int)} (ho : T.ops = l) {p : Nat} (hp : p < l.length) (hb : lookB (l.getD p (0, 0)).1 = true) :
  (∃ k v a, (k = 14 \/ k = 17 \/ k = 18) /\ (l.getD p (0, 0)).1 = k /\ T.sub p = .un k v a /\ T.sub (p + 1) = a) \/ (∃ k v a b, (k = 15 \/ k = 16) /\ (l.getD p (0, 0)).1 = k /\ T.sub p = .bi k v a b /\ T.sub (p + 1) = a /\ T.sub (sec l p) = b) := by
 have hsz : T.size = l.length := by rw [<- Tm.ops_length, ho]
 have hq : p < T.size := by omega
 have hop := op_at ho hq; have hwf := Tm.sub_wf hw p; have hk := kind_cases hb; rw [hop] at hk ⊢
 cases hT : T.sub p with
 | leaf k v =>
  rw [hT] at hk hwf; have hpn : pn k = 0 := hwf.2; simp only [Tm.kind] at hk
  exfalso
  rcases hk with rfl | rfl | rfl | rfl | rfl <;> exact absurd hpn (by decide)
 | un k v a =>
  have h1 := sub_one hq hT; rw [hT] at hk hwf; have hpn : pn k = 1 := hwf.2.1; simp only [Tm.kind] at hk ⊢
  left
  refine ⟨k, v, a, ?_, rfl, rfl, h1⟩
  rcases hk with rfl | rfl | rfl | rfl | rfl
  ·exact .inl rfl
  ·exact absurd hpn (by decide)
  ·exact absurd hpn (by decide)
  ·exact .inr (.inl rfl)
  ·exact .inr (.inr rfl)
 | bi k v a b =>
  have h1 := sub_fst hq hT; have h2 := sub_snd hw ho hq hT; rw [hT] at hk hwf; have hpn : pn k = 2 := hwf.2.1; simp only [Tm.kind] at hk ⊢
  right
  refine ⟨k, v, a, b, ?_, rfl, rfl, h1, h2⟩
  rcases hk with rfl | rfl | rfl | rfl | rfl
  ·exact absurd hpn (by decide)
  ·exact .inl rfl
  ·exact .inr rfl
  ·exact absurd hpn (by decide)
  ·exact absurd hpn (by decide)
theorem line_come {T : Tm} (hw : T.Wf) {l : List (Int × Int)} (ho : T.ops = l) (σ : Nat -> Nat -> Bool) {p : Nat} (hp : p < l.length) (hb : lookB (l.getD p (0, 0)).1 = true) (i : Nat) :
  (T.sub p).hb σ i = comeB (l.getD p (0, 0)).1 ((T.sub (p + 1)).hb σ i) ((T.sub (sec l p)).hb σ i) ((T.sub p).hb σ (i + 1)) ((T.sub (p + 1)).hb σ (i + 1)) := by
 rcases look_parts hw ho hp hb with ⟨k, v, a, hk, e1, e2, e3⟩ | ⟨k, v, a, b, hk, e1, e2, e3, e4⟩
 ·rw [e1, e2, e3]
  rcases hk with rfl | rfl | rfl
  ·rw [Tm.hb_next]; rfl
  ·rw [Tm.hb_fin, untB_step, <- Tm.hb_fin σ v]; simp [comeB]
  ·rw [Tm.hb_glob, untB_step, <- Tm.hb_glob σ v]; simp [comeB]
 ·rw [e1, e2, e3, e4]
  rcases hk with rfl | rfl
  ·rw [Tm.hb_until, untB_step, <- Tm.hb_until σ v]; rfl
  ·rw [Tm.hb_rel, untB_step, <- Tm.hb_rel σ v]
   show (_ || _) = (_ && (_ || _))
   cases Tm.hb σ a i <;> cases Tm.hb σ b i <;> simp
theorem line_meets {T : Tm} (hw : T.Wf) {l : List (Int × Int)} (ho : T.ops = l) {ls : List (List Bool)} {s : Nat} (hs : s < ls.length) {p : Nat} (hp : p < l.length) (hb : lookB (l.getD p (0, 0)).1 = true) :
  ∃ i, s <= i /\ i < ls.length /\ waitB (l.getD p (0, 0)).1 ((T.sub p).hb (sig ls s) i) ((T.sub (p + 1)).hb (sig ls s) i) ((T.sub (sec l p)).hb (sig ls s) i) = false := by
 refine Classical.byContradiction fun hno => ?_
 have hall : ∀ i, s <= i -> waitB (l.getD p (0, 0)).1 ((T.sub p).hb (sig ls s) i) ((T.sub (p + 1)).hb (sig ls s) i) ((T.sub (sec l p)).hb (sig ls s) i) = true := fun i hi => by
  have hm : s <= moAt s ls.length i /\ moAt s ls.length i < ls.length := ⟨by unfold moAt; split <;> omega, moAt_lt hs⟩
  refine Classical.byContradiction fun hf => hno ⟨moAt s ls.length i, hm.1, hm.2, ?_⟩
  rw [hb_mo hs, hb_mo hs, hb_mo hs]; exact Bool.eq_false_iff.2 hf
 rcases look_parts hw ho hp hb with ⟨k, v, a, hk, e1, e2, e3⟩ | ⟨k, v, a, b, hk, e1, e2, e3, e4⟩
 ·rw [e1, e2, e3] at hall
  rcases hk with rfl | rfl | rfl
  ·exact absurd (hall s (Nat.le_refl _)) (by simp [waitB])
  ·have h1 : ∀ i, s <= i -> Tm.hb (sig ls s) (.un 17 v a) i = true /\ Tm.hb (sig ls s) a i = false := fun i hi => by simpa [waitB] using hall i hi
   have h0 := (h1 s (Nat.le_refl _)).1; rw [Tm.hb_fin, untB_iff] at h0
   rcases h0 with ⟨j, hj, hu, _⟩ | ⟨hd, _⟩
   ·rw [(h1 j hj).2] at hu; cases hu
   ·cases hd
  ·have h1 : ∀ i, s <= i -> Tm.hb (sig ls s) (.un 18 v a) i = false /\ Tm.hb (sig ls s) a i = true := fun i hi => by simpa [waitB] using hall i hi
   have h0 := (h1 s (Nat.le_refl _)).1
   have : Tm.hb (sig ls s) (.un 18 v a) s = true := by
    rw [Tm.hb_glob, untB_iff]; exact .inr ⟨rfl, fun m hm => (h1 m hm).2⟩
   rw [this] at h0; cases h0
 ·rw [e1, e2, e3, e4] at hall
  rcases hk with rfl | rfl
  ·have h1 : ∀ i, s <= i -> Tm.hb (sig ls s) (.bi 15 v a b) i = true /\ Tm.hb (sig ls s) b i = false := fun i hi => by simpa [waitB] using hall i hi
   have h0 := (h1 s (Nat.le_refl _)).1; rw [Tm.hb_until, untB_iff] at h0
   rcases h0 with ⟨j, hj, hu, _⟩ | ⟨hd, _⟩
   ·rw [(h1 j hj).2] at hu; cases hu
   ·cases hd
  ·have h1 : ∀ i, s <= i -> Tm.hb (sig ls s) (.bi 16 v a b) i = false /\ Tm.hb (sig ls s) b i = true := fun i hi => by simpa [waitB] using hall i hi
   have h0 := (h1 s (Nat.le_refl _)).1
   have : Tm.hb (sig ls s) (.bi 16 v a b) s = true := by
    rw [Tm.hb_rel, untB_iff]; exact .inr ⟨rfl, fun m hm => (h1 m hm).2⟩
   rw [this] at h0; cases h0
end Go.Proofs.YteejnjcdfmedlaaGreatDoor
