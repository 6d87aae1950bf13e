/-
  Plain mathematics of terms that stand ahead of their parts: how many ops so many terms take (cnt), and where what begins at a place ends. Nothing of the program is named here.
-/
import Derived.WalkKit
namespace Go.Proofs.YtnicbkkkecfdpaaGreatDoor.Terms

/-- how many parts a kind has. -/
def pn (k : Int) : Nat := if k = 10 ∨ k = 14 ∨ k = 17 ∨ k = 18 then 1 else if (3 ≤ k ∧ k ≤ 9) ∨ k = 15 ∨ k = 16 then 2 else 0
def okK (k : Int) : Bool := decide (1 ≤ k ∧ k ≤ 18)
set_option maxRecDepth 20000 in
theorem pn_le (k : Int) : pn k ≤ 2 := by
  unfold pn
  split
  · omega
  · split <;> omega

/-- so many ops, or an error's number. -/
inductive R where
  | ok (n : Nat)
  | no (e : Int)
def R.up : R → Nat → R
  | .ok m, j => .ok (m + j)
  | .no e, _ => .no e
set_option maxRecDepth 20000 in
theorem R.up_up (r : R) (i j : Nat) : (r.up i).up j = r.up (i + j) := by cases r <;> simp [R.up, Nat.add_assoc]
set_option maxRecDepth 20000 in
theorem R.up_zero (r : R) : r.up 0 = r := by cases r <;> rfl

/-- how many ops the first so many terms of a list take. -/
def cnt : List Int → Nat → R
  | _, 0 => .ok 0
  | [], _ + 1 => .no 4
  | k :: r, w + 1 => if okK k = true then (cnt r (w + pn k)).up 1 else .no 13

set_option maxRecDepth 20000 in
theorem cnt_zero (l : List Int) : cnt l 0 = .ok 0 := by cases l <;> rfl
set_option maxRecDepth 20000 in
theorem cnt_cons (k : Int) (r : List Int) (w : Nat) : cnt (k :: r) (w + 1) = if okK k = true then (cnt r (w + pn k)).up 1 else .no 13 := rfl

set_option maxRecDepth 20000 in
theorem cnt_add (l : List Int) : ∀ a b : Nat, cnt l (a + b) = match cnt l a with
    | .ok m => (cnt (l.drop m) b).up m
    | .no e => .no e := by
  induction l with
  | nil =>
    intro a b
    cases a with
    | zero => simp [cnt, R.up_zero]
    | succ a => rw [show a + 1 + b = (a + b) + 1 by omega]; rfl
  | cons k r ih =>
    intro a b
    cases a with
    | zero => simp [cnt_zero, R.up_zero]
    | succ a =>
      rw [show a + 1 + b = (a + b) + 1 by omega, cnt_cons, cnt_cons]
      by_cases hk : okK k = true
      · rw [if_pos hk, if_pos hk, show a + b + pn k = (a + pn k) + b by omega, ih]
        cases cnt r (a + pn k) with
        | ok m => show ((cnt (r.drop m) b).up m).up 1 = (cnt ((k :: r).drop (m + 1)) b).up (m + 1); rw [R.up_up]; rfl
        | no e => rfl
      · rw [if_neg hk, if_neg hk]

set_option maxRecDepth 20000 in
theorem cnt_le (l : List Int) : ∀ (w m : Nat), cnt l w = .ok m → w ≤ m ∧ m ≤ l.length := by
  induction l with
  | nil =>
    intro w m h
    cases w with
    | zero => simp [cnt] at h; omega
    | succ w => simp [cnt] at h
  | cons k r ih =>
    intro w m h
    cases w with
    | zero => simp [cnt] at h; simp; omega
    | succ w =>
      rw [cnt_cons] at h
      split at h
      · cases hr : cnt r (w + pn k) with
        | ok m' =>
          rw [hr] at h
          simp only [R.up, R.ok.injEq] at h
          have := ih _ _ hr
          simp; omega
        | no e => rw [hr] at h; simp [R.up] at h
      · simp at h

set_option maxRecDepth 20000 in
theorem cnt_err (l : List Int) : ∀ (w : Nat) (e : Int), cnt l w = .no e → e = 4 ∨ e = 13 := by
  induction l with
  | nil =>
    intro w e h
    cases w with
    | zero => simp [cnt] at h
    | succ w => simp [cnt] at h; omega
  | cons k r ih =>
    intro w e h
    cases w with
    | zero => simp [cnt] at h
    | succ w =>
      rw [cnt_cons] at h
      split at h
      · cases hr : cnt r (w + pn k) with
        | ok m' => rw [hr] at h; simp [R.up] at h
        | no e' => rw [hr] at h; simp only [R.up, R.no.injEq] at h; subst h; exact ih _ _ hr
      · simp at h; omega

set_option maxRecDepth 20000 in
/-- what begins inside of so many terms ends inside of them. -/
theorem cnt_in (l : List Int) : ∀ (w m j : Nat), cnt l w = .ok m → j < m → ∃ m', cnt (l.drop j) 1 = .ok m' ∧ 1 ≤ m' ∧ j + m' ≤ m := by
  induction l with
  | nil =>
    intro w m j h hj
    have := cnt_le _ _ _ h
    simp at this; omega
  | cons k r ih =>
    intro w m j h hj
    cases w with
    | zero => simp [cnt_zero] at h; omega
    | succ w =>
      rw [cnt_cons] at h
      split at h
      · rename_i hk
        cases hr : cnt r (w + pn k) with
        | no e => rw [hr] at h; simp [R.up] at h
        | ok m1 =>
          rw [hr] at h
          simp only [R.up, R.ok.injEq] at h
          subst h
          cases j with
          | zero =>
            have h2 := hr
            rw [show w + pn k = pn k + w by omega, cnt_add] at h2
            cases h3 : cnt r (pn k) with
            | no e => rw [h3] at h2; simp at h2
            | ok m2 =>
              rw [h3] at h2
              simp only at h2
              refine ⟨m2 + 1, ?_, by omega, ?_⟩
              · rw [List.drop_zero, cnt_cons, if_pos hk, show 0 + pn k = pn k by omega, h3]; rfl
              · cases h4 : cnt (r.drop m2) w with
                | no e => rw [h4] at h2; simp [R.up] at h2
                | ok m3 => rw [h4] at h2; simp only [R.up, R.ok.injEq] at h2; omega
          | succ j =>
            obtain ⟨m', a, b, c⟩ := ih _ _ j hr (by omega)
            exact ⟨m', by simpa using a, b, by omega⟩
      · simp at h

/-- where what begins at a place ends. -/
def endAt (ks : List Int) (q : Nat) : Nat := match cnt (ks.drop q) 1 with
  | .ok m => q + m
  | .no _ => 0
set_option maxRecDepth 20000 in
theorem endAt_ok {ks : List Int} {q m : Nat} (h : cnt (ks.drop q) 1 = .ok m) : endAt ks q = q + m := by simp [endAt, h]

set_option maxRecDepth 20000 in
/-- the first op of what begins at a place, and its parts. -/
theorem cnt_at {ks : List Int} {q : Nat} (hq : q < ks.length) : cnt (ks.drop q) 1 = if okK (ks.getD q 0) = true then (cnt (ks.drop (q + 1)) (pn (ks.getD q 0))).up 1 else .no 13 := by
  rw [List.drop_eq_getElem_cons hq, cnt_cons]
  simp [List.getD_eq_getElem?_getD, hq]
set_option maxRecDepth 20000 in
theorem cnt_past {ks : List Int} {q : Nat} (hq : ks.length ≤ q) (w : Nat) : cnt (ks.drop q) (w + 1) = .no 4 := by
  rw [List.drop_eq_nil_of_le hq]; rfl
set_option maxRecDepth 20000 in
/-- one more term. -/
theorem cnt_more {l : List Int} {c m : Nat} (h : cnt l c = .ok m) : cnt l (c + 1) = (cnt (l.drop m) 1).up m := by rw [cnt_add, h]
set_option maxRecDepth 20000 in
theorem cnt_stop {l : List Int} {c d : Nat} {e : Int} (h : cnt l c = .no e) (hd : c ≤ d) : cnt l d = .no e := by
  rw [show d = c + (d - c) by omega, cnt_add, h]

/-! ### the parts of the first op -/

set_option maxRecDepth 20000 in
theorem cnt_parts {l : List Int} {a b m : Nat} (h : cnt l (a + b) = .ok m) : ∃ m1 m2, cnt l a = .ok m1 ∧ cnt (l.drop m1) b = .ok m2 ∧ m = m1 + m2 := by
  rw [cnt_add] at h
  cases h1 : cnt l a with
  | no e => rw [h1] at h; simp at h
  | ok m1 =>
    rw [h1] at h
    simp only at h
    cases h2 : cnt (l.drop m1) b with
    | no e => rw [h2] at h; simp [R.up] at h
    | ok m2 =>
      rw [h2] at h
      simp only [R.up, R.ok.injEq] at h
      exact ⟨m1, m2, rfl, h2, by omega⟩

/-- where the part of this number begins. -/
def pos (ks : List Int) (j : Nat) : Nat := match cnt (ks.drop 1) j with
  | .ok m => 1 + m
  | .no _ => 0
set_option maxRecDepth 20000 in
theorem pos_zero (ks : List Int) : pos ks 0 = 1 := by simp [pos, cnt_zero]
set_option maxRecDepth 20000 in
theorem pos_ok {ks : List Int} {j m : Nat} (h : cnt (ks.drop 1) j = .ok m) : pos ks j = 1 + m := by unfold pos; rw [h]

set_option maxRecDepth 20000 in
/-- a list that begins with a term: its first op is of a kind, and its parts follow. -/
theorem one_head {ks : List Int} {n : Nat} (h : cnt ks 1 = .ok n) : 0 < ks.length ∧ okK (ks.getD 0 0) = true ∧ 1 ≤ n ∧ cnt (ks.drop 1) (pn (ks.getD 0 0)) = .ok (n - 1) := by
  cases ks with
  | nil => simp [cnt] at h
  | cons k r =>
    rw [cnt_cons] at h
    simp only [List.getD_cons_zero, List.drop_one, List.tail_cons, List.length_cons]
    split at h
    · rename_i hk
      refine ⟨by omega, hk, ?_⟩
      rw [Nat.zero_add] at h
      cases hr : cnt r (pn k) with
      | no e => rw [hr] at h; simp [R.up] at h
      | ok m => rw [hr] at h; simp only [R.up, R.ok.injEq] at h; subst h; simp
    · simp at h

set_option maxRecDepth 20000 in
theorem one_pos {ks : List Int} {n j : Nat} (h : cnt ks 1 = .ok n) (hj : j ≤ pn (ks.getD 0 0)) : ∃ m, cnt (ks.drop 1) j = .ok m ∧ pos ks j = 1 + m ∧ 1 + m ≤ n := by
  obtain ⟨_, _, h1, hp⟩ := one_head h
  rw [show pn (ks.getD 0 0) = j + (pn (ks.getD 0 0) - j) by omega] at hp
  obtain ⟨m1, m2, a, b, c⟩ := cnt_parts hp
  exact ⟨m1, a, pos_ok a, by omega⟩
set_option maxRecDepth 20000 in
theorem one_last {ks : List Int} {n : Nat} (h : cnt ks 1 = .ok n) : pos ks (pn (ks.getD 0 0)) = n := by
  obtain ⟨_, _, h1, hp⟩ := one_head h
  rw [pos_ok hp]; omega
set_option maxRecDepth 20000 in
/-- each part is a term, and the next one begins where it ends. -/
theorem one_step {ks : List Int} {n j : Nat} (h : cnt ks 1 = .ok n) (hj : j < pn (ks.getD 0 0)) :
    pos ks j < n ∧ ∃ m, cnt (ks.drop (pos ks j)) 1 = .ok m ∧ 1 ≤ m ∧ pos ks (j + 1) = pos ks j + m ∧ endAt ks (pos ks j) = pos ks (j + 1) ∧ pos ks (j + 1) ≤ n := by
  obtain ⟨m, hm, hp, hle⟩ := one_pos h (j := j) (by omega)
  obtain ⟨m', hm', hp', hle'⟩ := one_pos h (j := j + 1) (by omega)
  rw [cnt_more hm] at hm'
  rw [List.drop_drop] at hm'
  rw [show 1 + m = pos ks j by omega] at hm'
  cases h2 : cnt (ks.drop (pos ks j)) 1 with
  | no e => rw [h2] at hm'; simp [R.up] at hm'
  | ok m2 =>
    rw [h2] at hm'
    simp only [R.up, R.ok.injEq] at hm'
    have := (cnt_le _ _ _ h2).1
    have e := endAt_ok h2
    exact ⟨by omega, m2, rfl, by omega, by omega, by omega, by omega⟩

/-- a stretch of a list. -/
def seg {α : Type} (l : List α) (a b : Nat) : List α := (l.drop a).take (b - a)
set_option maxRecDepth 20000 in
theorem seg_length {α : Type} {l : List α} {a b : Nat} (h : b ≤ l.length) : (seg l a b).length = b - a := by simp [seg]; omega
set_option maxRecDepth 20000 in
theorem seg_get {α : Type} {l : List α} {a b i : Nat} (d : α) (h : i < b - a) : (seg l a b).getD i d = l.getD (a + i) d := by
  simp [seg, List.getD_eq_getElem?_getD, h]
set_option maxRecDepth 20000 in
theorem seg_snoc {α : Type} {l : List α} {a b : Nat} (hb : b < l.length) (hab : a ≤ b) (d : α) : seg l a (b + 1) = seg l a b ++ [l.getD b d] := by
  unfold seg
  rw [show b + 1 - a = (b - a) + 1 by omega, List.take_add_one]
  congr 1
  simp [show a + (b - a) = b by omega, hb]
set_option maxRecDepth 20000 in
theorem seg_nil {α : Type} (l : List α) (a : Nat) : seg l a a = [] := by simp [seg]

/-! ### how deep a term is -/

def maxTo : Nat → (Nat → Nat) → Nat
  | 0, _ => 0
  | n + 1, g => max (maxTo n g) (g n)
set_option maxRecDepth 20000 in
theorem maxTo_congr {g h : Nat → Nat} : ∀ n, (∀ j, j < n → g j = h j) → maxTo n g = maxTo n h := by
  intro n
  induction n with
  | zero => intro _; rfl
  | succ n ih => intro e; simp only [maxTo]; rw [ih (fun j hj => e j (by omega)), e n (by omega)]
set_option maxRecDepth 20000 in
theorem maxTo_le {g : Nat → Nat} {b : Nat} : ∀ n, (∀ j, j < n → g j ≤ b) → maxTo n g ≤ b := by
  intro n
  induction n with
  | zero => intro _; exact Nat.zero_le _
  | succ n ih => intro e; simp only [maxTo]; have := ih (fun j hj => e j (by omega)); have := e n (by omega); omega
def dep : Nat → List Int → Nat
  | 0, _ => 0
  | f + 1, ks => 1 + maxTo (pn (ks.getD 0 0)) (fun j => dep f (ks.drop (pos ks j)))
def D (ks : List Int) : Nat := dep ks.length ks

set_option maxRecDepth 20000 in
theorem pos_ge {ks : List Int} {n j : Nat} (h : cnt ks 1 = .ok n) (hj : j ≤ pn (ks.getD 0 0)) : 1 ≤ pos ks j := by
  obtain ⟨m, _, a, _⟩ := one_pos h hj
  omega
set_option maxRecDepth 20000 in
theorem dep_fuel : ∀ (f g : Nat) (l : List Int) (m : Nat), cnt l 1 = .ok m → m ≤ f → m ≤ g → dep f l = dep g l := by
  intro f
  induction f with
  | zero => intro g l m h hf _; have := (cnt_le _ _ _ h).1; omega
  | succ f ih =>
    intro g l m h hf hg
    have h1 := (cnt_le _ _ _ h).1
    cases g with
    | zero => omega
    | succ g =>
      simp only [dep]
      congr 1
      refine maxTo_congr _ fun j hj => ?_
      obtain ⟨_, m', hm', _, hp, _, hle⟩ := one_step h hj
      have := pos_ge h (j := j) (by omega)
      exact ih g _ m' hm' (by omega) (by omega)
set_option maxRecDepth 20000 in
theorem D_eq {l : List Int} {m : Nat} (h : cnt l 1 = .ok m) : D l = 1 + maxTo (pn (l.getD 0 0)) (fun j => D (l.drop (pos l j))) := by
  have h1 := cnt_le _ _ _ h
  unfold D
  obtain ⟨L, hL⟩ : ∃ L, l.length = L + 1 := ⟨l.length - 1, by omega⟩
  rw [hL]
  simp only [dep]
  congr 1
  refine maxTo_congr _ fun j hj => ?_
  obtain ⟨_, m', hm', _, hp, _, hle⟩ := one_step h hj
  have := pos_ge h (j := j) (by omega)
  exact dep_fuel _ _ _ m' hm' (by omega) (cnt_le _ _ _ hm').2
set_option maxRecDepth 20000 in
theorem D_le : ∀ (b : Nat) (l : List Int) (m : Nat), m ≤ b → cnt l 1 = .ok m → D l ≤ m := by
  intro b
  induction b with
  | zero => intro l m hb h; have := (cnt_le _ _ _ h).1; omega
  | succ b ih =>
    intro l m hb h
    have h1 := cnt_le _ _ _ h
    rw [D_eq h]
    have := maxTo_le (g := fun j => D (l.drop (pos l j))) (b := m - 1) (pn (l.getD 0 0)) fun j hj => by
      obtain ⟨_, m', hm', _, hp, _, hle⟩ := one_step h hj
      have := pos_ge h (j := j) (by omega)
      have := ih _ m' (by omega) hm'
      omega
    omega
set_option maxRecDepth 20000 in
theorem cnt_take (l : List Int) : ∀ (w m t : Nat), cnt l w = .ok m → m ≤ t → cnt (l.take t) w = .ok m := by
  induction l with
  | nil => intro w m t h _; simpa using h
  | cons k r ih =>
    intro w m t h ht
    cases w with
    | zero => rw [cnt_zero] at h ⊢; exact h
    | succ w =>
      rw [cnt_cons] at h
      split at h
      · rename_i hk
        cases hr : cnt r (w + pn k) with
        | no e => rw [hr] at h; simp [R.up] at h
        | ok m' =>
          rw [hr] at h
          simp only [R.up, R.ok.injEq] at h
          obtain ⟨t, rfl⟩ : ∃ t', t = t' + 1 := ⟨t - 1, by omega⟩
          rw [List.take_succ_cons, cnt_cons, if_pos hk, ih _ m' t hr (by omega)]
          simp [R.up, h]
      · simp at h
set_option maxRecDepth 20000 in
theorem pos_take {l : List Int} {m t j : Nat} (h : cnt l 1 = .ok m) (ht : m ≤ t) (hj : j ≤ pn (l.getD 0 0)) : pos (l.take t) j = pos l j := by
  obtain ⟨q, hq, hp, hle⟩ := one_pos h hj
  rw [hp]
  refine pos_ok ?_
  have e : (l.take t).drop 1 = (l.drop 1).take (t - 1) := by rw [List.drop_take]
  rw [e]
  exact cnt_take _ _ _ _ hq (by omega)
set_option maxRecDepth 20000 in
theorem head_take {l : List Int} {t : Nat} (ht : 1 ≤ t) : (l.take t).getD 0 0 = l.getD 0 0 := by
  cases l with
  | nil => simp
  | cons k r => obtain ⟨t, rfl⟩ : ∃ t', t = t' + 1 := ⟨t - 1, by omega⟩; rfl
set_option maxRecDepth 20000 in
theorem D_take : ∀ (b : Nat) (l : List Int) (m t : Nat), m ≤ b → cnt l 1 = .ok m → m ≤ t → D (l.take t) = D l := by
  intro b
  induction b with
  | zero => intro l m t hb h; have := (cnt_le _ _ _ h).1; omega
  | succ b ih =>
    intro l m t hb h ht
    have h1 := cnt_le _ _ _ h
    rw [D_eq h, D_eq (cnt_take _ _ _ _ h ht), head_take (by omega)]
    congr 1
    refine maxTo_congr _ fun j hj => ?_
    obtain ⟨_, m', hm', _, hp, _, hle⟩ := one_step h hj
    have := pos_ge h (j := j) (by omega)
    rw [pos_take h ht (by omega), List.drop_take]
    exact ih _ m' _ (by omega) hm' (by omega)
end Go.Proofs.YtnicbkkkecfdpaaGreatDoor.Terms
