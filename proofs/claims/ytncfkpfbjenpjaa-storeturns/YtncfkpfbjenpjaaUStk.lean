/-
  Stores that grew: their runs, and how many there are.
-/
import Derived.Test.YtncfkpfbjenpjaaUStM
namespace Go.Proofs.Ytncfkpfbjenpjaa

/-- where the runs stop that become one. -/
theorem stay_spec (rs : List (List Int)) : ∀ (k m : Nat), k ≤ rs.length → stay rs k m = 0 ∨ m + ((rs.take k).drop (stay rs k m)).flatten.length < (rs.getD (stay rs k m - 1) []).length
  | 0, _, _ => .inl rfl
  | k + 1, m, hk => by
    rw [stay]
    split
    · rename_i h
      have hst := stay_le rs k (m + (rs.getD k []).length)
      rcases stay_spec rs k (m + (rs.getD k []).length) (by omega) with h1 | h1
      · exact .inl h1
      · right
        have e : (rs.take (k + 1)).drop (stay rs k (m + (rs.getD k []).length)) = (rs.take k).drop (stay rs k (m + (rs.getD k []).length)) ++ [rs.getD k []] := by
          rw [take_get (by omega) [], List.drop_append_of_le_length (by rw [List.length_take]; omega)]
        rw [e, flat_snoc, List.length_append]
        omega
    · rename_i h
      right
      have e : (rs.take (k + 1)).drop (k + 1) = [] := by apply List.drop_eq_nil_of_le; rw [List.length_take]; omega
      rw [e, Nat.add_sub_cancel]
      simp only [List.flatten_nil, List.length_nil, Nat.add_zero]
      omega
theorem flat_mod : ∀ {rs : List (List Int)}, (∀ r ∈ rs, r.length % 8 = 0) → rs.flatten.length % 8 = 0
  | [], _ => rfl
  | r :: rs, h => by
    have h1 := h r (by simp)
    have h2 := flat_mod (rs := rs) fun r hr => h r (by simp [hr])
    simp only [List.flatten_cons, List.length_append]
    omega
/-- a store that grew from nothing by these keys. -/
structure Stk (lo : List Int) (rs : List (List Int)) (ks : List Int) : Prop where
  may : May lo rs
  keys : (keysL lo rs).Perm ks
  low : lo.length = ks.length % 8
  each : ∀ r ∈ rs, r.length % 8 = 0
  down : ∀ i, i + 1 < rs.length → (rs.getD (i + 1) []).length < (rs.getD i []).length
theorem Stk.nil : Stk [] [] [] := by
  refine ⟨⟨⟨by simp, by simp, by simp⟩, by simp, by simp [keysL], by simp [keysL]⟩, by simp [keysL], rfl, by simp, by simp⟩
theorem Stk.count {lo : List Int} {rs : List (List Int)} {ks : List Int} (h : Stk lo rs ks) : lo.length + rs.flatten.length = ks.length := by
  have := h.keys.length_eq
  rw [keysL, List.length_append] at this
  omega
theorem Stk.add {lo : List Int} {rs : List (List Int)} {ks : List Int} {k : Int} (h : Stk lo rs ks) (h0 : 0 ≤ k) (h1 : k ≤ 2147483647) (hn : k ∉ ks) (hm : ks.length < 20000) : Stk (addS lo rs k).1 (addS lo rs k).2 (ks ++ [k]) := by
  have hc := h.count
  have hk : k ∉ keysL lo rs := fun hx => hn (h.keys.mem_iff.1 hx)
  have hlow := h.low
  refine ⟨h.may.add h0 h1 hk (by omega), (addS_keys lo rs k).trans (h.keys.append (List.Perm.refl _)), ?_, ?_, ?_⟩
  · unfold addS
    split
    · simp; omega
    · simp; omega
  · unfold addS
    split
    · exact h.each
    · rename_i h8
      intro r hr
      rcases List.mem_append.1 hr with hr | hr
      · exact h.each r (List.mem_of_mem_take hr)
      · simp only [List.mem_singleton] at hr
        subst hr
        generalize stayAt rs (lo ++ [k]).length = st
        have := flat_mod (rs := rs.drop st) fun r hr => h.each r (List.mem_of_mem_drop hr)
        rw [up_length, List.length_append, List.length_append, List.length_singleton]
        omega
  · unfold addS
    split
    · exact h.down
    · rename_i h8
      intro i hi
      have hle := stay_le rs rs.length (lo ++ [k]).length
      have hsp := stay_spec rs rs.length (lo ++ [k]).length (Nat.le_refl _)
      rw [List.take_length] at hsp
      have hst : stayAt rs (lo ++ [k]).length = stay rs rs.length (lo ++ [k]).length := rfl
      show ((runsAdd rs (lo ++ [k])).getD (i + 1) []).length < ((runsAdd rs (lo ++ [k])).getD i []).length
      have hi' : i + 1 < (runsAdd rs (lo ++ [k])).length := hi
      unfold runsAdd at hi' ⊢
      rw [hst] at hi' ⊢
      generalize stay rs rs.length (lo ++ [k]).length = st at *
      have hl : (rs.take st).length = st := by rw [List.length_take]; omega
      rw [List.length_append, hl, List.length_singleton] at hi'
      rw [getD_app, getD_app, hl, if_pos (show i < st by omega)]
      have e1 : (rs.take st).getD i [] = rs.getD i [] := by simp [List.getD_eq_getElem?_getD, show i < st by omega]
      rw [e1]
      by_cases hi2 : i + 1 < st
      · rw [if_pos hi2]
        have e2 : (rs.take st).getD (i + 1) [] = rs.getD (i + 1) [] := by simp [List.getD_eq_getElem?_getD, hi2]
        rw [e2]
        exact h.down i (by omega)
      · rw [if_neg hi2]
        have e3 : i + 1 - st = 0 := by omega
        rw [e3]
        show (up ((rs.drop st).flatten ++ (lo ++ [k]))).length < _
        rw [up_length, List.length_append]
        rcases hsp with h5 | h5
        · omega
        · have e4 : st - 1 = i := by omega
          rw [e4] at h5
          omega

/-! ### the sizes alone -/
def stayZ (s : List Nat) : Nat → Nat → Nat
  | 0, _ => 0
  | k + 1, m => if s.getD k 0 ≤ m then stayZ s k (m + s.getD k 0) else k + 1
def addZ (s : List Nat) : List Nat := s.take (stayZ s s.length 8) ++ [(s.drop (stayZ s s.length 8)).sum + 8]
def iterZ : Nat → List Nat
  | 0 => []
  | q + 1 => addZ (iterZ q)
/-- how many ones a number has. -/
def onesN : Nat → Nat → Nat
  | 0, _ => 0
  | f + 1, q => if q = 0 then 0 else q % 2 + onesN f (q / 2)
theorem iterZ_ones : ∀ q, q < 26 → (iterZ q).length = onesN 8 q := by decide
theorem stay_len (rs : List (List Int)) : ∀ (k m : Nat), stay rs k m = stayZ (rs.map List.length) k m
  | 0, _ => rfl
  | k + 1, m => by
    have e : (rs.map List.length).getD k 0 = (rs.getD k []).length := by
      simp only [List.getD_eq_getElem?_getD, List.getElem?_map]
      cases rs[k]? <;> rfl
    rw [stay, stayZ, e, stay_len rs k]
theorem flat_sum : ∀ (rs : List (List Int)), rs.flatten.length = (rs.map List.length).sum
  | [] => rfl
  | r :: rs => by simp [flat_sum rs]
theorem runsAdd_sizes {rs : List (List Int)} {run : List Int} (h : run.length = 8) : (runsAdd rs run).map List.length = addZ (rs.map List.length) := by
  unfold runsAdd addZ stayAt
  rw [h, stay_len, List.length_map, List.map_append, List.map_take, List.map_cons, List.map_nil, up_length, List.length_append, h, flat_sum, List.map_drop]
end Go.Proofs.Ytncfkpfbjenpjaa
