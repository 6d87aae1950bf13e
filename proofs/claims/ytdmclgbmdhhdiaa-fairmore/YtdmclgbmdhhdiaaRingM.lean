/-
  Plain mathematics of rings, and of graphs that only go on.
-/
import Derived.Test.YtdmclgbmdhhdiaaSFair
import Derived.Test.YtdmclgbmdhhdiaaKGraph1
namespace Go.Proofs.Ytdmclgbmdhhdiaa
open Go.ChangeShapes Go.WideShapes Go.ChangeAt Go.RowKit Go.Deep
open Terms

/-- where every step goes on, no part is fair. -/
theorem up_nofair {g : Gr} (h : ∀ i, ∀ y ∈ nxt g i, i < y) : fairV g = 0 ∧ fairC g = 11 :=
  fair_none fun x _ hx => by
    obtain ⟨_, ⟨a, b, h1, h2, h3⟩, _⟩ := hx
    have hlt := h a b h3
    have hw : Way (nxt g) b a := h2.2.trans h1.1
    have := Way.closed (nx := nxt g) (S := fun y => b ≤ y) (fun i hi k hk => by have := h i k hk; show b ≤ k; have : b ≤ i := hi; omega) (Nat.le_refl b) hw
    have : b ≤ a := this
    omega
/-- the sets of a ring's spot. -/
def rset (k m i : Nat) : Nat := if k < m ∧ i + 1 = k then 2 ^ m - 1 else if i < m then 2 ^ i else 0
theorem rset_lt (k m i : Nat) : rset k m i < 2 ^ m := by
  have h0 : 0 < 2 ^ m := Nat.two_pow_pos m
  unfold rset
  split
  · omega
  · split
    · rename_i h; exact Nat.pow_lt_pow_right (by decide) h
    · exact h0
/-- a ring under way. -/
structure RG (k m : Nat) (g : Gr) (j : Nat) : Prop where
  many : g.many = (m : Int)
  init : g.init = 1
  next : ∀ i, i < j → g.next.getD i [] = [(((i + 1) % k : Nat) : Int)]
  sets : ∀ i, i < j → g.sets.getD i 0 = (rset k m i : Int)
theorem RG.snoc {k m j : Nat} {g : Gr} {x : Int} (h : RG k m g j) (hn : g.next.length = j) (hb : g.sets.length = j) : RG k m ⟨g.spots ++ [(x, 0)], g.init, g.next ++ [[(((j + 1) % k : Nat) : Int)]], g.sets ++ [(rset k m j : Int)], g.many⟩ (j + 1) := by
  refine ⟨h.many, h.init, fun i hi => ?_, fun i hi => ?_⟩
  · show (g.next ++ [[(((j + 1) % k : Nat) : Int)]]).getD i [] = _
    by_cases hij : i < j
    · rw [show (g.next ++ [[(((j + 1) % k : Nat) : Int)]]).getD i [] = g.next.getD i [] by simp [List.getD_eq_getElem?_getD, List.getElem?_append_left (show i < g.next.length by omega)]]
      exact h.next i hij
    · obtain rfl : i = j := by omega
      simp [List.getD_eq_getElem?_getD, ← hn]
  · show (g.sets ++ [(rset k m j : Int)]).getD i 0 = _
    by_cases hij : i < j
    · rw [show (g.sets ++ [(rset k m j : Int)]).getD i 0 = g.sets.getD i 0 by simp [List.getD_eq_getElem?_getD, List.getElem?_append_left (show i < g.sets.length by omega)]]
      exact h.sets i hij
    · obtain rfl : i = j := by omega
      simp [List.getD_eq_getElem?_getD, ← hb]
/-- A RING. -/
structure Rgd (k m : Nat) (g : Gr) : Prop where
  rg : RG k m g k
  s : g.spots.length = k
  n : g.next.length = k
  b : g.sets.length = k
  k1 : 1 ≤ k
  k10 : k ≤ 10
  m3 : m ≤ 3
theorem Rgd.head {k m : Nat} {g : Gr} (H : Rgd k m g) : GHead g := by
  obtain ⟨h, hs, hn, hb, hk, hk2, hm⟩ := id H
  exact ⟨by omega, by omega, by omega, by rw [h.init]; decide, by rw [h.init, hs]; omega, by rw [h.many]; omega, by rw [h.many]; omega⟩
theorem Rgd.set {k m : Nat} {g : Gr} (H : Rgd k m g) {i : Nat} (hi : i < k) : GSet g i := by
  have h := H.rg
  unfold GSet top
  rw [h.sets i hi, h.many]
  have := rset_lt k m i
  have h2 : ((2 ^ m : Nat) : Int) = (2 : Int) ^ m := by norm_cast
  simp only [Int.toNat_natCast]
  omega
theorem Rgd.ok {k m : Nat} {g : Gr} (H : Rgd k m g) : GOk g := by
  obtain ⟨h, hs, hn, hb, hk, hk2, hm⟩ := id H
  refine ⟨H.head, fun i hi => ⟨H.set (by omega), fun j hj => ?_⟩⟩
  unfold GNext
  rw [h.next i (by omega)] at hj ⊢
  have : j = 0 := by simpa using hj
  subst this
  have := Nat.mod_lt (i + 1) (show 0 < k by omega)
  show 0 ≤ (((i + 1) % k : Nat) : Int) ∧ _
  rw [hs]
  show 0 ≤ (((i + 1) % k : Nat) : Int) ∧ (((i + 1) % k : Nat) : Int) < _
  omega
theorem Rgd.nx {k m : Nat} {g : Gr} (H : Rgd k m g) {i : Nat} (hi : i < k) : nxt g i = [(i + 1) % k] := by
  have h := H.rg
  unfold nxt
  rw [h.next i hi]; simp only [List.map_cons, List.map_nil, Int.toNat_natCast]
theorem Rgd.up {k m : Nat} {g : Gr} (H : Rgd k m g) {i : Nat} : ∀ j, i ≤ j → j < k → Way (nxt g) i j
  | 0, h1, _ => by obtain rfl : i = 0 := by omega
                   exact .stay
  | j + 1, h1, h2 => by
    by_cases e : i = j + 1
    · subst e; exact .stay
    · refine (Rgd.up H j (by omega) (by omega)).step (k := j + 1) ?_
      rw [H.nx (show j < k by omega), Nat.mod_eq_of_lt h2]; simp
theorem Rgd.mut {k m : Nat} {g : Gr} (H : Rgd k m g) {i : Nat} (hi : i < k) : Mut g 0 i := by
  refine ⟨H.up i (Nat.zero_le _) hi, (H.up (i := i) (k - 1) (by omega) (by omega)).step (k := 0) ?_⟩
  rw [H.nx (show k - 1 < k by omega), show k - 1 + 1 = k by omega, Nat.mod_self]; simp
theorem Rgd.fair {k m : Nat} {g : Gr} (H : Rgd k m g) : fairV g = 0 ∧ fairC g = 0 := by
  obtain ⟨h, hs, hn, hb, hk, hk2, hm⟩ := id H
  refine fair_at (k := 0) (by omega) ⟨⟨0, by rw [h.init]; simp, .stay⟩, ⟨0, (0 + 1) % k, H.mut (by omega), H.mut (Nat.mod_lt _ (by omega)), by rw [H.nx (show 0 < k by omega)]; simp⟩, fun i hi => ?_⟩ (fun j hj => by omega)
  have hi' : i < m := by unfold mN at hi; rw [h.many] at hi; simpa using hi
  by_cases hc : k < m
  · refine ⟨k - 1, H.mut (by omega), ?_⟩
    unfold sN
    rw [h.sets (k - 1) (by omega)]
    have e : rset k m (k - 1) = 2 ^ m - 1 := if_pos ⟨hc, by omega⟩
    rw [e, Int.toNat_natCast, Nat.testBit_two_pow_sub_one]
    exact decide_eq_true hi'
  · refine ⟨i, H.mut (by omega), ?_⟩
    unfold sN
    rw [h.sets i (by omega)]
    have e : rset k m i = 2 ^ i := by unfold rset; rw [if_neg (fun x => hc x.1), if_pos hi']
    rw [e, Int.toNat_natCast]
    exact Nat.testBit_two_pow_self
/-- a ring without its way back. -/
theorem Rgd.torn {k m : Nat} {g : Gr} (H : Rgd k m g) : GOk { g with next := g.next.set (k - 1) [] } ∧ fairV { g with next := g.next.set (k - 1) [] } = 0 ∧ fairC { g with next := g.next.set (k - 1) [] } = 11 := by
  obtain ⟨h, hs, hn, hb, hk, hk2, hm⟩ := id H
  have hx : ∀ i, (g.next.set (k - 1) []).getD i [] = if i = k - 1 then [] else g.next.getD i [] := fun i => by
    simp only [List.getD_eq_getElem?_getD, List.getElem?_set]
    by_cases e : i = k - 1
    · subst e; rw [if_pos rfl, if_pos rfl]; split <;> rfl
    · rw [if_neg (fun x => e x.symm), if_neg e]
  have hH := H.head
  refine ⟨⟨⟨hH.n, by show (g.next.set _ _).length = _; rw [List.length_set]; exact hH.next, hH.sets, hH.init0, hH.init1, hH.many0, hH.many6⟩, fun i hi => ⟨H.set (by have : i < g.spots.length := hi; omega), fun j hj => ?_⟩⟩, up_nofair fun i y hy => ?_⟩
  · have hi' : i < g.spots.length := hi
    have hj' : j < ((g.next.set (k - 1) []).getD i []).length := hj
    show 0 ≤ ((g.next.set (k - 1) []).getD i []).getD j 0 ∧ ((g.next.set (k - 1) []).getD i []).getD j 0 < _
    rw [hx i] at hj' ⊢
    by_cases e : i = k - 1
    · rw [if_pos e] at hj'; simp at hj'
    · rw [if_neg e] at hj' ⊢
      exact ((H.ok).row i hi').2 j hj'
  · have hy' : y ∈ ((g.next.set (k - 1) []).getD i []).map Int.toNat := hy
    rw [hx i] at hy'
    by_cases e : i = k - 1
    · rw [if_pos e] at hy'; simp at hy'
    · rw [if_neg e] at hy'
      by_cases hi : i < k
      · rw [h.next i hi, Nat.mod_eq_of_lt (by omega)] at hy'
        have : y = i + 1 := by simpa using hy'
        omega
      · rw [List.getD_eq_getElem?_getD, List.getElem?_eq_none (by omega)] at hy'
        simp at hy'
end Go.Proofs.Ytdmclgbmdhhdiaa
