/-
  A grown graph whose lists are cut so that they only go on: how it lies.
-/
import Derived.Test.YtdmclgbmdhhdiaaKGraphO
import Derived.Test.YtdmclgbmdhhdiaaRingW
import Derived.Test.YtdmclgbmdhhdiaaKParts
namespace Go.Proofs.Ytdmclgbmdhhdiaa
open Go.ChangeShapes Go.WideShapes Go.ChangeAt Go.RowKit Go.Deep
open Terms

theorem up_way {nx : Nat → List Nat} (h : ∀ i, ∀ y ∈ nx i, i < y) {x z : Nat} (hw : Way nx x z) : x ≤ z :=
  Way.closed (nx := nx) (S := fun y => x ≤ y) (fun i hi k hk => by have := h i k hk; show x ≤ k; have : x ≤ i := hi; omega) (Nat.le_refl x) hw
theorem up_parts {g : Gr} {pt : Nat → Int} (h : ∀ i, ∀ y ∈ nxt g i, i < y) (hp : PartsOk g pt) {x : Nat} (hx : x < g.spots.length) : pt x = (x : Int) := by
  obtain ⟨z, h1, h2, h3, h4⟩ := (hp x hx).le
  have := up_way h h3
  omega
theorem getD_put {α : Type} {l : List α} {i j : Nat} {a d : α} (hi : i < l.length) : (l.set i a).getD j d = if j = i then a else l.getD j d := by
  simp only [List.getD_eq_getElem?_getD, List.getElem?_set]
  by_cases e : j = i
  · subst e; rw [if_pos rfl, if_pos hi, if_pos rfl]; rfl
  · rw [if_neg (fun x => e x.symm), if_neg e]
theorem gok_put {g : Gr} (h : GOk g) {i : Nat} (hi : i < g.spots.length) {l : List Int} (hl : ∀ y ∈ l, 0 ≤ y ∧ y < g.spots.length) : GOk { g with next := g.next.set i l } := by
  have hH := h.head
  refine ⟨⟨hH.n, by show (g.next.set _ _).length = _; rw [List.length_set]; exact hH.next, hH.sets, hH.init0, hH.init1, hH.many0, hH.many6⟩, fun x hx => ⟨(h.row x hx).1, fun j hj => ?_⟩⟩
  have hj' : j < ((g.next.set i l).getD x []).length := hj
  show 0 ≤ ((g.next.set i l).getD x []).getD j 0 ∧ ((g.next.set i l).getD x []).getD j 0 < g.spots.length
  rw [getD_put (by rw [hH.next]; exact hi)] at hj' ⊢
  by_cases e : x = i
  · rw [if_pos e] at hj' ⊢
    refine hl _ ?_
    rw [List.getD_eq_getElem?_getD, List.getElem?_eq_getElem hj']
    exact List.getElem_mem hj'
  · rw [if_neg e] at hj' ⊢
    exact (h.row x hx).2 j hj'
structure PL (w wr : World) (B base : Nat) (so : Option Addr) (sc : Nat) (no : Option Addr) (nc : Nat) (bo : Option Addr) (bc n gi mm k : Nat) (us : List Value) (g : Gr) : Prop where
  c0 : wr.cell? ⟨B, 0, none⟩ = some (.slice so n sc)
  c1 : wr.cell? ⟨B, 1, none⟩ = some (.int .i64 (gi : Int))
  c2 : wr.cell? ⟨B, 2, none⟩ = some (.slice no n nc)
  c3 : wr.cell? ⟨B, 3, none⟩ = some (.slice bo n bc)
  c4 : wr.cell? ⟨B, 4, none⟩ = some (.int .i64 (mm : Int))
  rows : KRows wr base (.slice so n sc) (.slice no n nc) (.slice bo n bc) us g n
  ok : GOk g
  init : g.init = gi
  many : g.many = mm
  small : n ≤ 20
  len : ∀ i, i < n → (g.next.getD i []).length ≤ 6
  up : ∀ x, x < k → ∀ y ∈ g.next.getD x [], (x : Int) < y
  below : Below w.heap.size w wr
  bas : w.heap.size ≤ base
  size : B < wr.heap.size
  apart : ∀ a, no = some a → a.block < B
  boxed : base ≤ B
def PLs (w wr : World) (B base : Nat) (so : Option Addr) (sc : Nat) (no : Option Addr) (nc : Nat) (bo : Option Addr) (bc n gi mm k : Nat) : Prop := ∃ us g, PL w wr B base so sc no nc bo bc n gi mm k us g
section
variable {w wr w' : World} {B base : Nat} {so : Option Addr} {sc : Nat} {no : Option Addr} {nc : Nat} {bo : Option Addr} {bc n gi mm k : Nat} {us : List Value} {g : Gr}
theorem PL.later (h : PL w wr B base so sc no nc bo bc n gi mm k us g) (hb : Below wr.heap.size wr w') : PL w w' B base so sc no nc bo bc n gi mm k us g := by
  have c : ∀ j, w'.cell? ⟨B, j, none⟩ = wr.cell? ⟨B, j, none⟩ := fun j => hb.cell (p := ⟨B, j, none⟩) h.size
  exact ⟨(c 0).trans h.c0, (c 1).trans h.c1, (c 2).trans h.c2, (c 3).trans h.c3, (c 4).trans h.c4, h.rows.later hb, h.ok, h.init, h.many, h.small, h.len, h.up, h.below.trans (hb.mono h.below.size), h.bas, Nat.lt_of_lt_of_le h.size hb.size, h.apart, h.boxed⟩
theorem PL.start (h : KOwn w' base so sc no nc bo bc n gi mm g) (hb : Below w.heap.size w w') (hbs : w.heap.size ≤ base) (hb2 : base ≤ w'.heap.size) {t : TypeId} {W2 : World} (hW : W2 = w'.alloc (.cells #[.slice so n sc, .int .i64 (gi : Int), .slice no n nc, .slice bo n bc, .int .i64 (mm : Int)] t)) : PLs w W2 w'.heap.size base so sc no nc bo bc n gi mm 0 := by
  obtain ⟨us, hr⟩ := h.rows
  subst hW
  have hA : Below w'.heap.size w' (w'.alloc (.cells #[.slice so n sc, .int .i64 (gi : Int), .slice no n nc, .slice bo n bc, .int .i64 (mm : Int)] t)) := (Below.refl _ _).alloc (Nat.le_refl _) _
  refine ⟨us, g, by simp [go_sem], by simp [go_sem], by simp [go_sem], by simp [go_sem], by simp [go_sem], hr.later hA, h.ok, h.init, h.many, h.small, h.len, fun x hx => by omega, hb.trans (hA.mono hb.size), hbs, by simp, fun a ha => ?_, hb2⟩
  exact (hr.next.lt a.block (by rw [ha]; rfl)).2
theorem PL.put (h : PL w wr B base so sc no nc bo bc n gi mm k us g) (hk : k < n) {nb : Nat} (hno : no = some ⟨nb, 0, none⟩) (hb : Below wr.heap.size wr w') {lv : Value} {l : List Int} (hl : w'.ownsRow wr.heap.size 3 1 lv l.length (ivals l)) (hl6 : l.length ≤ 6) (hli : ∀ y ∈ l, (k : Int) < y ∧ 0 ≤ y ∧ y < n) : PLs w (w'.setCell ⟨nb, k, none⟩ lv) B base so sc no nc bo bc n gi mm (k + 1) := by
  have h2 := h.later hb
  subst hno
  have hnb : nb < B := h.apart _ rfl
  have hbw : base ≤ wr.heap.size := Nat.le_of_lt (Nat.lt_of_le_of_lt h.boxed h.size)
  have hks := h.rows.ks
  have hkn := h.rows.kn
  have hr := h2.rows.put (i := k) (l := l) hk (owns_mono hl hbw) (owns_new hl h.rows.sets (Nat.le_refl _))
  have hnb0 : base ≤ nb := (h.rows.next.lt nb rfl).1
  have c : ∀ j, (w'.setCell ⟨nb, k, none⟩ lv).cell? ⟨B, j, none⟩ = w'.cell? ⟨B, j, none⟩ := fun j => by
    rw [World.cell?_of_block]
    exact heap_setCell_other w' ⟨nb, k, none⟩ B lv (by show B ≠ nb; omega)
  refine ⟨_, _, (c 0).trans h2.c0, (c 1).trans h2.c1, (c 2).trans h2.c2, (c 3).trans h2.c3, (c 4).trans h2.c4, hr, gok_put h.ok (by omega) (fun y hy => by have := hli y hy; rw [hks]; omega), h.init, h.many, h.small, fun i hi => ?_, fun x hx y hy => ?_, h2.below.setCell (by have := h.bas; show w.heap.size ≤ nb; omega) _, h.bas, by simpa using h2.size, h.apart, h.boxed⟩
  · show ((g.next.set k l).getD i []).length ≤ 6
    rw [getD_put (by omega)]
    split
    · exact hl6
    · exact h.len i hi
  · have hy' : y ∈ (g.next.set k l).getD x [] := hy
    rw [getD_put (by omega)] at hy'
    by_cases e : x = k
    · rw [if_pos e] at hy'; subst e; exact (hli y hy').1
    · rw [if_neg e] at hy'; exact h.up x (by omega) y hy'
theorem PL.goes (h : PL w wr B base so sc no nc bo bc n gi mm n us g) : ∀ i, ∀ y ∈ nxt g i, i < y := fun i y hy => by
  by_cases hi : i < n
  · obtain ⟨z, hz, rfl⟩ := List.mem_map.1 hy
    have := h.up i hi z hz
    omega
  · have hy' : y ∈ (g.next.getD i []).map Int.toNat := hy
    rw [List.getD_eq_getElem?_getD, List.getElem?_eq_none (by have := h.rows.kn; omega)] at hy'
    simp at hy'
theorem PL.le (h : PL w wr B base so sc no nc bo bc n gi mm k us g) : GrLe g := by
  have h1 := h.rows.ks
  have h2 := h.rows.kn
  have h3 := h.rows.kb
  have h4 := h.small
  exact ⟨by omega, by omega, by omega, fun i hi => by have := h.len i (by omega); omega⟩
theorem PL.fair (h : PL w wr B base so sc no nc bo bc n gi mm n us g) (hb : Below wr.heap.size wr w') :
    Calls Try.prog 5 #[.agg #[.slice so n sc, .int .i64 (gi : Int), .slice no n nc, .slice bo n bc, .int .i64 (mm : Int)]] w' fun e w'' => e = .returned (.tuple #[.int .i64 0, .int .i64 11]) ∧ Below w'.heap.size w' w'' := by
  have h' := h.later hb
  have h1 := h'.rows.ks
  have h2 := h'.rows.kn
  have h3 := h'.rows.kb
  have hh := sfair_ok so no bo sc nc bc g w' h'.le (by rw [h1, h2, h3]; exact h'.rows.v) (gcode_ok h'.ok.head h'.ok.row)
  rw [h1, h2, h3, h'.init, h'.many, (up_nofair h'.goes).1, (up_nofair h'.goes).2] at hh
  exact hh
end
end Go.Proofs.Ytdmclgbmdhhdiaa
