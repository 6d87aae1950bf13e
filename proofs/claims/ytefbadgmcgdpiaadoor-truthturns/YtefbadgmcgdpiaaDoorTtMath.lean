/-
  Plain mathematics: the truths of a formula and of its Not; truths in a row.
-/
import Derived.Test.YtefbadgmcgdpiaaDoorKeepLet
namespace Go.Proofs.YtefbadgmcgdpiaaDoor
open Go.ChangeShapes Go.WideShapes Go.ChangeAt Go.RowKit Go.Deep
open Terms

theorem sec_not {m : Nat} {l : List (Int × Int)} {T : Tm} (hF : FOk m l T) {p : Nat} (hp : p + 1 < l.length) : sec ((10, 0) :: l) (p + 1) = sec l p + 1 := by
  have h1 := (Tm.end_at hF.wf (q := p + 1) (by rw [hF.size]; exact hp)).1
  have h2 := (Tm.end_at hF.not.wf (q := p + 2) (by rw [hF.not.size]; simp; omega)).1
  rw [hF.ops] at h1
  rw [hF.not.ops] at h2
  unfold sec
  rw [h1, show p + 1 + 1 = p + 2 from rfl, h2]
  show p + 2 + (T.sub (p + 1)).size = _
  omega
theorem aheadTo_not (l : List (Int × Int)) : ∀ p, (aheadTo ((10, 0) :: l) (p + 1)).length = (aheadTo l p).length := by
  intro p
  induction p with
  | zero => simp [aheadTo, lookB]
  | succ p ih =>
    have e : ((10, (0 : Int)) :: l : List (Int × Int)).getD (p + 1) (0, 0) = l.getD p (0, 0) := by simp [List.getD_eq_getElem?_getD]
    cases hb : lookB (l.getD p (0, 0)).1 with
    | true => rw [aheadTo_yes hb, aheadTo_yes (l := (10, 0) :: l) (n := p + 1) (by rw [e]; exact hb), List.length_append, List.length_append, ih]; rfl
    | false => rw [aheadTo_no hb, aheadTo_no (l := (10, 0) :: l) (n := p + 1) (by rw [e]; exact hb), ih]
/-- THE TRUTHS OF A FORMULA ARE THOSE OF ITS NOT, a place further on. -/
theorem tru_shift {m : Nat} {l : List (Int × Int)} {T : Tm} (hF : FOk m l T) (h60 : l.length ≤ 59) (letter : List Bool) (claim : Int) : ∀ d p, l.length ≤ p + d → p < l.length → tru ((10, 0) :: l) letter claim (p + 1) = tru l letter claim p := by
  have hz := hF.ends (by omega)
  have hz' := hF.not.ends (by simp; omega)
  intro d
  induction d with
  | zero => intro p h1 h2; omega
  | succ d ih =>
    intro p h1 h2
    have e : ((10, (0 : Int)) :: l : List (Int × Int)).getD (p + 1) (0, 0) = l.getD p (0, 0) := by simp [List.getD_eq_getElem?_getD]
    have hp' : p + 1 < ((10, (0 : Int)) :: l : List (Int × Int)).length := by simp; omega
    obtain ⟨q1, q2⟩ := part_in hz h2
    obtain ⟨_, q3⟩ := part_in hz' hp'
    rw [e] at q3
    cases hb : lookB (l.getD p (0, 0)).1 with
    | true => rw [tru_look h2 hb, tru_look hp' (by rw [e]; exact hb), aheadTo_not]
    | false =>
      rw [tru_mk h2 hb (fun h => (q2 h).1), tru_mk hp' (by rw [e]; exact hb) (by rw [e]; exact fun h => (q3 h).1), e]
      by_cases k1 : 1 ≤ pn (l.getD p (0, 0)).1
      · rw [ih (p + 1) (by omega) (q1 k1)]
        by_cases k2 : pn (l.getD p (0, 0)).1 = 2
        · rw [sec_not hF (q1 k1), ih (sec l p) (by have := (q2 k2).1; omega) (q2 k2).2]
        · have hk : (l.getD p (0, 0)).1 ≠ 8 ∧ (l.getD p (0, 0)).1 ≠ 9 := by
            constructor <;> intro e <;> rw [e] at k2 <;> exact absurd rfl k2
          simp only [mkB, hk.1, hk.2, if_false]
      · have hk : (l.getD p (0, 0)).1 ≠ 8 ∧ (l.getD p (0, 0)).1 ≠ 9 ∧ (l.getD p (0, 0)).1 ≠ 10 := by
          refine ⟨?_, ?_, ?_⟩ <;> intro e <;> rw [e] at k1 <;> exact absurd (by decide) k1
        simp only [mkB, hk.1, hk.2.1, hk.2.2, if_false]
theorem tru_not {m : Nat} {l : List (Int × Int)} {T : Tm} (hF : FOk m l T) (h60 : l.length ≤ 59) (h0 : 0 < l.length) (letter : List Bool) (claim : Int) : tru ((10, 0) :: l) letter claim 0 = !tru l letter claim 0 := by
  rw [tru_mk (l := (10, 0) :: l) (p := 0) (by simp) rfl (fun h => absurd h (by show ¬ pn 10 = 2; decide)), ← tru_shift hF h60 letter claim l.length 0 (by omega) h0]
  simp [mkB]
theorem tcode_fok {m : Nat} {l : List (Int × Int)} {T : Tm} (hF : FOk m l T) (hl : l.length ≤ 60) (hm : m ≤ 6) {letter : List Bool} (h3 : letter.length = 3) {claim : Int} (h0 : 0 ≤ claim) (h1 : claim < 2 ^ m) : tcode l letter claim = 0 :=
  tcode_ok (by rw [h3]; exact hF.code hl hm) (by unfold ClaimNo; rw [hF.ahead]; omega)
/-- a row of truths. -/
structure TRow (W : World) (rb n : Nat) (h : Nat → Bool) : Prop where
  lt : rb < W.heap.size
  cell : ∀ j, j < n → W.cell? ⟨rb, j, none⟩ = some (.bool (h j))
theorem TRow.later {W W' : World} {rb n : Nat} {h : Nat → Bool} (r : TRow W rb n h) (hb : Below W.heap.size W W') : TRow W' rb n h := ⟨Nat.lt_of_lt_of_le r.lt hb.size, fun j hj => (hb.cell (p := ⟨rb, j, none⟩) r.lt).trans (r.cell j hj)⟩
theorem truths_row {W : World} {v : Value} {l : List (Int × Int)} {letter : List Bool} {claim : Int} (htc : tcode l letter claim = 0) (hl : 0 < l.length) (h : BoolsV W v (truL l letter claim)) : ∃ rb off c, v = .slice (some ⟨rb, off, none⟩) l.length c ∧ rb < W.heap.size ∧ ∀ j, j < l.length → W.cell? ⟨rb, off + j, none⟩ = some (.bool (tru l letter claim j)) := by
  have e : truL l letter claim = (List.range l.length).map (tru l letter claim) := by unfold truL; rw [if_pos htc]
  rw [e] at h
  obtain ⟨ao, cap, rfl, hh⟩ := h
  obtain ⟨b, off, rfl, hlt, hat⟩ := hh (by intro h; have := congrArg List.length h; rw [List.length_map, List.length_range, List.length_nil] at this; omega)
  refine ⟨b, off, cap, by simp, hlt, fun j hj => ?_⟩
  rw [hat j (by simpa using hj)]
  simp [List.getD_eq_getElem?_getD, hj]
end Go.Proofs.YtefbadgmcgdpiaaDoor
