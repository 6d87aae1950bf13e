/-
  Keys that come in another order.
-/
import Derived.Test.YtncfkpfbjenpjaaUGrow
namespace Go.Proofs.Ytncfkpfbjenpjaa
open Go.ChangeShapes Go.WideShapes Go.ChangeAt Go.RowKit Go.Deep

/-- which of n keys comes. -/
def turI (n p q : Nat) : Nat := (q * 7 + p) % n
theorem turI_lt {n p q : Nat} (h : 0 < n) : turI n p q < n := Nat.mod_lt _ h
theorem cop7 {n : Nat} (h : n % 7 ≠ 0) : Nat.Coprime n 7 := by
  have h1 : n % 7 = 1 ∨ n % 7 = 2 ∨ n % 7 = 3 ∨ n % 7 = 4 ∨ n % 7 = 5 ∨ n % 7 = 6 := by omega
  show Nat.gcd n 7 = 1
  rw [Nat.gcd_comm, Nat.gcd_rec]
  rcases h1 with h | h | h | h | h | h <;> rw [h] <;> decide
theorem turI_inj' {n p a b : Nat} (h7 : n % 7 ≠ 0) (hb : b < n) (hab : a ≤ b) (h : turI n p a = turI n p b) : a = b := by
  unfold turI at h
  have h1 : n ∣ (b - a) * 7 := by
    have : (b * 7 + p) - (a * 7 + p) = (b - a) * 7 := by omega
    rw [← this]
    exact Nat.dvd_of_mod_eq_zero (Nat.sub_mod_eq_zero_of_mod_eq h.symm)
  have h2 := Nat.Coprime.dvd_of_dvd_mul_right (cop7 h7) h1
  rcases Nat.eq_zero_or_pos (b - a) with h3 | h3
  · omega
  · have := Nat.le_of_dvd h3 h2
    omega
theorem turI_inj {n p a b : Nat} (h7 : n % 7 ≠ 0) (ha : a < n) (hb : b < n) (h : turI n p a = turI n p b) : a = b := by
  rcases Nat.le_total a b with h1 | h1
  · exact turI_inj' h7 hb h1 h
  · exact (turI_inj' h7 ha h1 h.symm).symm
theorem nodup_getD {l : List Int} (h : l.Nodup) {i j : Nat} (hi : i < l.length) (hj : j < l.length) (e : l.getD i 0 = l.getD j 0) : i = j := by
  rw [getD_get hi, getD_get hj] at e
  have h1 := List.pairwise_iff_getElem.1 h
  rcases Nat.lt_trichotomy i j with h2 | h2 | h2
  · exact absurd e (h1 i j hi hj h2)
  · exact h2
  · exact absurd e.symm (h1 j i hj hi h2)
/-- the keys that have come. -/
def turL (ks : List Int) (p q : Nat) : List Int := (List.range q).map fun (i : Nat) => ks.getD (turI ks.length p i) 0
theorem turL_succ (ks : List Int) (p q : Nat) : turL ks p (q + 1) = turL ks p q ++ [ks.getD (turI ks.length p q) 0] := by simp [turL, List.range_succ]
theorem turL_not {ks : List Int} {p q : Nat} (hd : ks.Nodup) (h7 : ks.length % 7 ≠ 0) (hq : q < ks.length) : ks.getD (turI ks.length p q) 0 ∉ turL ks p q := by
  intro h
  simp only [turL, List.mem_map, List.mem_range] at h
  obtain ⟨i, hi, e⟩ := h
  have := turI_inj h7 (by omega) hq (nodup_getD hd (turI_lt (by omega)) (turI_lt (by omega)) e)
  omega
def Tur (ks : List Int) (p q : Nat) (lo : List Int) (rs : List (List Int)) : Prop := ∃ ts, Stk lo rs ts ∧ ts.length ≤ q ∧ (∀ x ∈ ts, x ∈ ks) ∧ (ks.length % 7 ≠ 0 → ts = turL ks p q)
theorem Tur.nil (ks : List Int) (p : Nat) : Tur ks p 0 [] [] := ⟨[], Stk.nil, by simp, by simp, fun _ => rfl⟩
theorem Tur.may {ks : List Int} {p q : Nat} {lo : List Int} {rs : List (List Int)} (h : Tur ks p q lo rs) : May lo rs := by
  obtain ⟨ts, h1, _⟩ := h
  exact h1.may
theorem Tur.step {ks : List Int} {p q : Nat} {lo : List Int} {rs : List (List Int)} (h : Tur ks p q lo rs) (hd : ks.Nodup) (hr : ∀ k ∈ ks, 0 ≤ k ∧ k < 500) (hq : q < ks.length) (hm : ks.length ≤ 100) :
    ∃ lo' rs' o, addC lo rs (ks.getD (turI ks.length p q) 0) = (lo', rs', o, 0) ∧ (o = false → ks.length % 7 = 0) ∧ Tur ks p (q + 1) lo' rs' := by
  obtain ⟨ts, h1, h2, h3, h4⟩ := h
  have hmem : ks.getD (turI ks.length p q) 0 ∈ ks := getD_mem (turI_lt (by omega)) 0
  obtain ⟨r1, r2⟩ := hr _ hmem
  have hac := addC_is h1 r1 (by omega) (by omega)
  by_cases hx : ks.getD (turI ks.length p q) 0 ∈ ts
  · have h7 : ks.length % 7 = 0 := by
      rcases Nat.eq_zero_or_pos (ks.length % 7) with h | h
      · exact h
      · rw [h4 (by omega)] at hx
        exact absurd hx (turL_not hd (by omega) hq)
    rw [if_pos hx] at hac
    exact ⟨lo, rs, false, hac, fun _ => h7, ts, h1, by omega, h3, fun h => absurd h7 h⟩
  · rw [if_neg hx] at hac
    refine ⟨_, _, true, hac, fun h => (by simp at h), ts ++ [ks.getD (turI ks.length p q) 0], h1.add r1 (by omega) hx (by omega), by simp; omega, fun y hy => ?_, fun h7 => ?_⟩
    · rcases List.mem_append.1 hy with hy | hy
      · exact h3 y hy
      · simp only [List.mem_singleton] at hy; subst hy; exact hmem
    · rw [turL_succ, ← h4 h7]
theorem Stk.nodup {lo : List Int} {rs : List (List Int)} {ks : List Int} (h : Stk lo rs ks) : ks.Nodup := h.keys.nodup_iff.1 h.may.nodup
theorem perm_of_sub : ∀ {a b : List Int}, a.Nodup → (∀ x ∈ a, x ∈ b) → b.length ≤ a.length → a.Perm b
  | [], b, _, _, hl => by
    have : b = [] := List.length_eq_zero_iff.1 (by simpa using hl)
    rw [this]
  | x :: a, b, ha, hs, hl => by
    have hx := hs x (by simp)
    have hn := List.nodup_cons.1 ha
    have hp := List.perm_cons_erase hx
    have hle := hp.length_eq
    simp only [List.length_cons] at hle hl
    refine (List.Perm.cons x (perm_of_sub hn.2 (fun y hy => ?_) (by omega))).trans hp.symm
    refine (List.mem_erase_of_ne ?_).2 (hs y (by simp [hy]))
    rintro rfl
    exact hn.1 hy
theorem Tur.done {ks : List Int} {p : Nat} {lo : List Int} {rs : List (List Int)} (h : Tur ks p ks.length lo rs) (h7 : ks.length % 7 ≠ 0) : allL lo rs = up ks := by
  rw [allL_ok h.may]
  obtain ⟨ts, h1, h2, h3, h4⟩ := h
  have hl : ts.length = ks.length := by rw [h4 h7]; simp [turL]
  exact up_congr (h1.keys.trans (perm_of_sub h1.nodup h3 (by omega)))
end Go.Proofs.Ytncfkpfbjenpjaa
