/-
  Stores: the mathematics of keys, runs and what is added.
-/
import Derived.Test.YtncfkpfbjenpjaaUMem
namespace Go.Proofs.Ytncfkpfbjenpjaa

def leB (x y : Int) : Bool := decide (x ≤ y)
/-- the same numbers, rising. -/
def up (l : List Int) : List Int := l.mergeSort leB
theorem up_sorted (l : List Int) : (up l).Pairwise (· ≤ ·) := by
  have h : (l.mergeSort leB).Pairwise (fun x y => leB x y = true) := List.pairwise_mergeSort (le := leB) (by intro a b c; simp only [leB, decide_eq_true_eq]; omega) (by intro a b; simp only [leB, Bool.or_eq_true, decide_eq_true_eq]; omega) l
  exact h.imp fun {a b} h => by simpa [leB] using h
theorem up_perm (l : List Int) : (up l).Perm l := List.mergeSort_perm l leB
theorem up_length (l : List Int) : (up l).length = l.length := (up_perm l).length_eq
theorem sorted_eq : ∀ {a b : List Int}, a.Pairwise (· ≤ ·) → b.Pairwise (· ≤ ·) → a.Perm b → a = b
  | [], b, _, _, hp => hp.nil_eq
  | x :: a, [], _, _, hp => by have := hp.length_eq; simp at this
  | x :: a, y :: b, ha, hb, hp => by
    have h1 : x ∈ y :: b := hp.mem_iff.1 (by simp)
    have h2 : y ∈ x :: a := hp.mem_iff.2 (by simp)
    obtain rfl : x = y := by
      rcases List.mem_cons.1 h1 with h1 | h1
      · exact h1
      · rcases List.mem_cons.1 h2 with h2 | h2
        · exact h2.symm
        · have := List.rel_of_pairwise_cons hb h1; have := List.rel_of_pairwise_cons ha h2; omega
    rw [sorted_eq (List.pairwise_cons.1 ha).2 (List.pairwise_cons.1 hb).2 ((List.perm_cons x).1 hp)]
theorem up_is {a l : List Int} (h : a.Pairwise (· ≤ ·)) (hp : a.Perm l) : a = up l := sorted_eq h (up_sorted l) (hp.trans (up_perm l).symm)
theorem up_congr {a b : List Int} (h : a.Perm b) : up a = up b := up_is (up_sorted a) ((up_perm a).trans h)
theorem rise_le {l : List Int} (h : l.Pairwise (· < ·)) : l.Pairwise (· ≤ ·) := h.imp fun {a b} h => by omega
theorem rise_nodup {l : List Int} (h : l.Pairwise (· < ·)) : l.Nodup := h.imp fun {a b} h => by omega
theorem rise_of : ∀ {l : List Int}, l.Pairwise (· ≤ ·) → l.Nodup → l.Pairwise (· < ·)
  | [], _, _ => List.Pairwise.nil
  | x :: l, h, hn => by
    refine List.pairwise_cons.2 ⟨fun y hy => ?_, rise_of (List.pairwise_cons.1 h).2 (List.nodup_cons.1 hn).2⟩
    have h1 := List.rel_of_pairwise_cons h hy
    have h2 : x ≠ y := fun e => (List.nodup_cons.1 hn).1 (e ▸ hy)
    omega

/-- two lists become one. -/
def mg : List Int → List Int → List Int
  | [], b => b
  | x :: a, [] => x :: a
  | x :: a, y :: b => if x < y then x :: mg a (y :: b) else y :: mg (x :: a) b
termination_by a b => a.length + b.length
theorem mg_nil (a : List Int) : mg a [] = a := by cases a <;> simp [mg]
theorem mg_nil' (b : List Int) : mg [] b = b := by simp [mg]
theorem mg_perm : ∀ (a b : List Int), (mg a b).Perm (a ++ b)
  | [], b => by simp [mg]
  | x :: a, [] => by simp [mg]
  | x :: a, y :: b => by
    rw [mg]
    split
    · exact (mg_perm a (y :: b)).cons x
    · exact ((mg_perm (x :: a) b).cons y).trans List.perm_middle.symm
termination_by a b => a.length + b.length
theorem mg_left : ∀ (a b : List Int), a.Sublist (mg a b)
  | [], b => by simp
  | x :: a, [] => by simp [mg]
  | x :: a, y :: b => by
    rw [mg]
    split
    · exact (mg_left a (y :: b)).cons_cons x
    · exact (mg_left (x :: a) b).cons y
termination_by a b => a.length + b.length
theorem mg_right : ∀ (a b : List Int), b.Sublist (mg a b)
  | [], b => by simp [mg]
  | x :: a, [] => by simp
  | x :: a, y :: b => by
    rw [mg]
    split
    · exact (mg_right a (y :: b)).cons x
    · exact (mg_right (x :: a) b).cons_cons y
termination_by a b => a.length + b.length
theorem mg_rise : ∀ (a b : List Int), a.Pairwise (· < ·) → b.Pairwise (· < ·) → (∀ x ∈ a, x ∉ b) → (mg a b).Pairwise (· < ·)
  | [], b, _, hb, _ => by simpa [mg] using hb
  | x :: a, [], ha, _, _ => by simpa [mg] using ha
  | x :: a, y :: b, ha, hb, hd => by
    rw [mg]
    split
    · rename_i hxy
      refine List.pairwise_cons.2 ⟨fun z hz => ?_, mg_rise a (y :: b) (List.pairwise_cons.1 ha).2 hb fun z hz => hd z (by simp [hz])⟩
      rcases List.mem_append.1 ((mg_perm a (y :: b)).mem_iff.1 hz) with h | h
      · exact List.rel_of_pairwise_cons ha h
      · rcases List.mem_cons.1 h with rfl | h
        · exact hxy
        · have := List.rel_of_pairwise_cons hb h; omega
    · rename_i hxy
      have hne : x ≠ y := fun e => hd x (by simp) (by simp [e])
      refine List.pairwise_cons.2 ⟨fun z hz => ?_, mg_rise (x :: a) b ha (List.pairwise_cons.1 hb).2 fun z hz hb => hd z hz (by simp [hb])⟩
      rcases List.mem_append.1 ((mg_perm (x :: a) b).mem_iff.1 hz) with h | h
      · rcases List.mem_cons.1 h with rfl | h
        · omega
        · have := List.rel_of_pairwise_cons ha h; omega
      · exact List.rel_of_pairwise_cons hb h
termination_by a b => a.length + b.length
theorem getD_get {α : Type} {l : List α} {i : Nat} (h : i < l.length) (d : α) : l.getD i d = l[i] := by simp [List.getD_eq_getElem?_getD, h]
theorem getD_mem {α : Type} {l : List α} {i : Nat} (h : i < l.length) (d : α) : l.getD i d ∈ l := by rw [getD_get h]; exact List.getElem_mem h
theorem drop_get {α : Type} {l : List α} {i : Nat} (h : i < l.length) (d : α) : l.drop i = l.getD i d :: l.drop (i + 1) := by rw [getD_get h, List.drop_eq_getElem_cons h]
theorem take_get {α : Type} {l : List α} {i : Nat} (h : i < l.length) (d : α) : l.take (i + 1) = l.take i ++ [l.getD i d] := by
  rw [List.take_add_one]
  simp [List.getD_eq_getElem?_getD, h]
theorem mg_step {a b al : List Int} {i j : Nat} (hi : i < a.length) (hj : j < b.length) (h : al ++ mg (a.drop i) (b.drop j) = mg a b) :
    (a.getD i 0 < b.getD j 0 → (al ++ [a.getD i 0]) ++ mg (a.drop (i + 1)) (b.drop j) = mg a b) ∧ (¬ a.getD i 0 < b.getD j 0 → (al ++ [b.getD j 0]) ++ mg (a.drop i) (b.drop (j + 1)) = mg a b) := by
  rw [drop_get hi 0, drop_get hj 0, mg] at h
  constructor
  · intro hl
    rw [if_pos hl, ← drop_get hj 0] at h
    rw [← h]
    simp
  · intro hl
    rw [if_neg hl, ← drop_get hi 0] at h
    rw [← h]
    simp

/-- lists become one, by halves. -/
def tog (ls : List (List Int)) : List Int :=
  if h : ls.length ≤ 1 then ls.getD 0 [] else mg (tog (ls.take (ls.length / 2))) (tog (ls.drop (ls.length / 2)))
termination_by ls.length
decreasing_by all_goals simp; omega
theorem tog_one {ls : List (List Int)} (h : ls.length ≤ 1) : tog ls = ls.getD 0 [] := by rw [tog, dif_pos h]
theorem tog_two {ls : List (List Int)} (h : ¬ ls.length ≤ 1) : tog ls = mg (tog (ls.take (ls.length / 2))) (tog (ls.drop (ls.length / 2))) := by rw [tog, dif_neg h]
theorem one_of {ls : List (List Int)} (h : ls.length ≤ 1) : ls = [] ∨ ∃ l, ls = [l] := by
  match ls, h with
  | [], _ => exact .inl rfl
  | [l], _ => exact .inr ⟨l, rfl⟩
theorem tog_perm : ∀ (n : Nat) (ls : List (List Int)), ls.length ≤ n → (tog ls).Perm ls.flatten
  | n, ls, hn => by
    by_cases h : ls.length ≤ 1
    · rw [tog_one h]
      rcases one_of h with rfl | ⟨l, rfl⟩ <;> simp
    · match n, hn with
      | 0, hn => omega
      | n + 1, hn =>
        rw [tog_two h]
        refine (mg_perm _ _).trans (((tog_perm n (ls.take (ls.length / 2)) (by simp; omega)).append (tog_perm n (ls.drop (ls.length / 2)) (by simp; omega))).trans ?_)
        rw [← List.flatten_append, List.take_append_drop]
theorem tog_sub : ∀ (n : Nat) (ls : List (List Int)), ls.length ≤ n → ∀ l ∈ ls, l.Sublist (tog ls)
  | n, ls, hn, l, hl => by
    by_cases h : ls.length ≤ 1
    · rw [tog_one h]
      rcases one_of h with rfl | ⟨l', rfl⟩
      · simp at hl
      · simp at hl; subst hl; simp
    · match n, hn with
      | 0, hn => omega
      | n + 1, hn =>
        rw [tog_two h]
        rw [← List.take_append_drop (ls.length / 2) ls] at hl
        rcases List.mem_append.1 hl with hl | hl
        · exact (tog_sub n _ (by simp; omega) l hl).trans (mg_left _ _)
        · exact (tog_sub n _ (by simp; omega) l hl).trans (mg_right _ _)
theorem tog_rise : ∀ (n : Nat) (ls : List (List Int)), ls.length ≤ n → (∀ l ∈ ls, l.Pairwise (· < ·)) → ls.flatten.Nodup → (tog ls).Pairwise (· < ·)
  | n, ls, hn, hr, hd => by
    by_cases h : ls.length ≤ 1
    · rw [tog_one h]
      rcases one_of h with rfl | ⟨l', rfl⟩
      · exact List.Pairwise.nil
      · exact hr l' (by simp)
    · match n, hn with
      | 0, hn => omega
      | n + 1, hn =>
        rw [tog_two h]
        have hd2 : ((ls.take (ls.length / 2)).flatten ++ (ls.drop (ls.length / 2)).flatten).Nodup := by rw [← List.flatten_append, List.take_append_drop]; exact hd
        obtain ⟨d1, d2, d3⟩ := List.nodup_append.1 hd2
        refine mg_rise _ _ (tog_rise n _ (by simp; omega) (fun l hl => hr l (List.mem_of_mem_take hl)) d1) (tog_rise n _ (by simp; omega) (fun l hl => hr l (List.mem_of_mem_drop hl)) d2) fun x hx hy => ?_
        exact d3 x ((tog_perm _ _ (Nat.le_refl _)).mem_iff.1 hx) x ((tog_perm _ _ (Nat.le_refl _)).mem_iff.1 hy) rfl

/-! ### stores -/
def keysL (lo : List Int) (rs : List (List Int)) : List Int := rs.flatten ++ lo
/-- no list is too long, none empty. -/
structure SizeOk (lo : List Int) (rs : List (List Int)) : Prop where
  loose : lo.length < 8
  full : ∀ r ∈ rs, r ≠ []
  many : lo.length + rs.flatten.length ≤ 20000
/-- P12.1: a store that may be. -/
structure May (lo : List Int) (rs : List (List Int)) : Prop where
  size : SizeOk lo rs
  rise : ∀ r ∈ rs, r.Pairwise (· < ·)
  range : ∀ x ∈ keysL lo rs, 0 ≤ x ∧ x ≤ 2147483647
  nodup : (keysL lo rs).Nodup
theorem flat_ge : ∀ {rs : List (List Int)}, (∀ r ∈ rs, r ≠ []) → rs.length ≤ rs.flatten.length
  | [], _ => by simp
  | r :: rs, h => by
    have := flat_ge (rs := rs) fun r hr => h r (by simp [hr])
    have h2 : r ≠ [] := h r (by simp)
    have := List.length_pos_iff.2 h2
    simp only [List.flatten_cons, List.length_append, List.length_cons]
    omega
theorem SizeOk.runs {lo : List Int} {rs : List (List Int)} (h : SizeOk lo rs) : rs.length ≤ 20000 := by have := flat_ge h.full; have := h.many; omega
theorem mem_flat_le {rs : List (List Int)} {r : List Int} (h : r ∈ rs) : r.length ≤ rs.flatten.length := by
  induction rs with
  | nil => simp at h
  | cons a rs ih =>
    simp only [List.flatten_cons, List.length_append]
    rcases List.mem_cons.1 h with rfl | h
    · omega
    · have := ih h; omega
/-- is there a key that may not be, or is not above the one ahead of it? -/
def nrB : Int → List Int → Bool
  | _, [] => false
  | a, k :: l => (decide (k ≤ a) || decide (2147483647 < k)) || nrB k l
theorem nrB_iff : ∀ (l : List Int) (a : Int), nrB a l = false ↔ (l.Pairwise (· < ·) ∧ ∀ x ∈ l, a < x ∧ x ≤ 2147483647)
  | [], a => by simp [nrB]
  | k :: l, a => by
    simp only [nrB, Bool.or_eq_false_iff, decide_eq_false_iff_not, nrB_iff l k, List.pairwise_cons, List.mem_cons]
    constructor
    · rintro ⟨⟨h1, h2⟩, h3, h4⟩
      refine ⟨⟨fun x hx => (h4 x hx).1, h3⟩, fun x hx => ?_⟩
      rcases hx with rfl | hx
      · omega
      · have := h4 x hx; omega
    · rintro ⟨⟨h1, h2⟩, h3⟩
      exact ⟨by have := h3 k (.inl rfl); omega, h2, fun x hx => ⟨h1 x hx, (h3 x (.inr hx)).2⟩⟩
theorem flat_snoc (rs : List (List Int)) (l : List Int) : (rs ++ [l]).flatten = rs.flatten ++ l := by simp
theorem tog_keys (lo : List Int) (rs : List (List Int)) : (tog (rs ++ [up lo])).Perm (keysL lo rs) := by
  refine (tog_perm _ _ (Nat.le_refl _)).trans ?_
  rw [flat_snoc]
  exact (List.Perm.refl _).append (up_perm lo)
/-- WHAT Check LOOKS AT. -/
theorem may_iff {lo : List Int} {rs : List (List Int)} (hs : SizeOk lo rs) : nrB (-1) (tog (rs ++ [up lo])) = false ↔ May lo rs := by
  rw [nrB_iff]
  constructor
  · rintro ⟨h1, h2⟩
    refine ⟨hs, fun r hr => ?_, fun x hx => ?_, ?_⟩
    · exact h1.sublist (tog_sub _ _ (Nat.le_refl _) r (by simp [hr]))
    · have := h2 x ((tog_keys lo rs).mem_iff.2 hx); omega
    · exact (tog_keys lo rs).nodup_iff.1 (rise_nodup h1)
  · intro h
    have hlo : (up lo).Nodup := (up_perm lo).nodup_iff.2 (List.nodup_append.1 h.nodup).2.1
    refine ⟨tog_rise _ _ (Nat.le_refl _) (fun l hl => ?_) ?_, fun x hx => ?_⟩
    · rcases List.mem_append.1 hl with hl | hl
      · exact h.rise l hl
      · simp at hl
        subst hl
        exact rise_of (up_sorted lo) hlo
    · rw [flat_snoc]
      exact ((List.Perm.refl _).append (up_perm lo)).nodup_iff.2 h.nodup
    · have := h.range x ((tog_keys lo rs).mem_iff.1 hx); omega
theorem tog_up {lo : List Int} {rs : List (List Int)} (h : May lo rs) : tog (rs ++ [up lo]) = up (keysL lo rs) :=
  up_is (rise_le ((nrB_iff _ _).1 ((may_iff h.size).2 h)).1) (tog_keys lo rs)
open Classical in
/-- what Check answers. -/
noncomputable def sC (lo : List Int) (rs : List (List Int)) : Int := if May lo rs then 0 else 9
theorem sC_ok {lo : List Int} {rs : List (List Int)} (h : May lo rs) : sC lo rs = 0 := by unfold sC; rw [if_pos h]
theorem sC_bad {lo : List Int} {rs : List (List Int)} (h : ¬ May lo rs) : sC lo rs = 9 := by unfold sC; rw [if_neg h]

/-! ### adding -/
def stay (rs : List (List Int)) : Nat → Nat → Nat
  | 0, _ => 0
  | k + 1, m => if (rs.getD k []).length ≤ m then stay rs k (m + (rs.getD k []).length) else k + 1
theorem stay_le (rs : List (List Int)) : ∀ (k m : Nat), stay rs k m ≤ k
  | 0, _ => Nat.le_refl _
  | k + 1, m => by
    rw [stay]
    split
    · have := stay_le rs k (m + (rs.getD k []).length); omega
    · exact Nat.le_refl _
def stayAt (rs : List (List Int)) (m : Nat) : Nat := stay rs rs.length m
def runsAdd (rs : List (List Int)) (run : List Int) : List (List Int) := rs.take (stayAt rs run.length) ++ [up ((rs.drop (stayAt rs run.length)).flatten ++ run)]
def addS (lo : List Int) (rs : List (List Int)) (n : Int) : List Int × List (List Int) := if lo.length + 1 < 8 then (lo ++ [n], rs) else ([], runsAdd rs (lo ++ [n]))
theorem flat_drop {rs : List (List Int)} {k : Nat} (h : k < rs.length) : (rs.drop k).flatten = rs.getD k [] ++ (rs.drop (k + 1)).flatten := by rw [drop_get h [], List.flatten_cons]
theorem tog_add {rs : List (List Int)} {run : List Int} (hr : ∀ r ∈ rs, r.Pairwise (· < ·)) (hd : (rs.flatten ++ run).Nodup) (k : Nat) : tog (rs.drop k ++ [up run]) = up ((rs.drop k).flatten ++ run) := by
  have hdr : ((rs.drop k).flatten ++ run).Nodup := by
    have e : rs.flatten = (rs.take k).flatten ++ (rs.drop k).flatten := by rw [← List.flatten_append, List.take_append_drop]
    rw [e, List.append_assoc] at hd
    exact (List.nodup_append.1 hd).2.1
  refine up_is (rise_le (tog_rise _ _ (Nat.le_refl _) (fun l hl => ?_) ?_)) (tog_keys run (rs.drop k))
  · rcases List.mem_append.1 hl with hl | hl
    · exact hr l (List.mem_of_mem_drop hl)
    · simp at hl
      subst hl
      exact rise_of (up_sorted run) ((up_perm run).nodup_iff.2 (List.nodup_append.1 hdr).2.1)
  · rw [flat_snoc]
    exact ((List.Perm.refl _).append (up_perm run)).nodup_iff.2 hdr
theorem runsAdd_perm (rs : List (List Int)) (run : List Int) : (runsAdd rs run).flatten.Perm (rs.flatten ++ run) := by
  unfold runsAdd
  rw [flat_snoc]
  refine ((List.Perm.refl _).append (up_perm _)).trans ?_
  rw [← List.append_assoc, ← List.flatten_append, List.take_append_drop]
theorem addS_keys (lo : List Int) (rs : List (List Int)) (n : Int) : (keysL (addS lo rs n).1 (addS lo rs n).2).Perm (keysL lo rs ++ [n]) := by
  unfold addS keysL
  split
  · simp
  · have := runsAdd_perm rs (lo ++ [n])
    simpa using this
theorem May.add {lo : List Int} {rs : List (List Int)} {n : Int} (h : May lo rs) (h0 : 0 ≤ n) (h1 : n ≤ 2147483647) (hn : n ∉ keysL lo rs) (hm : lo.length + rs.flatten.length < 20000) : May (addS lo rs n).1 (addS lo rs n).2 := by
  have hp := addS_keys lo rs n
  have hnd : (keysL lo rs ++ [n]).Nodup := by
    rw [List.nodup_append]
    exact ⟨h.nodup, by simp, fun a ha b hb e => by simp at hb; subst hb; subst e; exact hn ha⟩
  refine ⟨⟨?_, ?_, ?_⟩, ?_, fun x hx => ?_, hp.nodup_iff.2 hnd⟩
  · unfold addS
    split
    · simp; omega
    · simp
  · unfold addS
    split
    · exact h.size.full
    · intro r hr
      rcases List.mem_append.1 hr with hr | hr
      · exact h.size.full r (List.mem_of_mem_take hr)
      · simp at hr
        subst hr
        intro e
        have h2 := congrArg List.length e
        rw [up_length, List.length_append, List.length_append, List.length_nil] at h2
        simp at h2
  · have := hp.length_eq
    simp only [keysL, List.length_append, List.length_cons, List.length_nil] at this
    omega
  · unfold addS
    split
    · exact h.rise
    · intro r hr
      rcases List.mem_append.1 hr with hr | hr
      · exact h.rise r (List.mem_of_mem_take hr)
      · simp at hr
        subst hr
        refine rise_of (up_sorted _) ((up_perm _).nodup_iff.2 ?_)
        have e : rs.flatten = (rs.take (stayAt rs (lo.length + 1))).flatten ++ (rs.drop (stayAt rs (lo.length + 1))).flatten := by rw [← List.flatten_append, List.take_append_drop]
        unfold keysL at hnd
        rw [e, List.append_assoc, List.append_assoc] at hnd
        exact (List.nodup_append.1 hnd).2.1
  · have := hp.mem_iff.1 hx
    rcases List.mem_append.1 this with h2 | h2
    · exact h.range x h2
    · simp at h2; omega
end Go.Proofs.Ytncfkpfbjenpjaa
