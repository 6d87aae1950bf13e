/-
  First parts of what lies in memory.
-/
import Derived.Test.YtjnobdpjohbdnaaTTornM
import Derived.Test.YtjnobdpjohbdnaaTSameK
namespace Go.Proofs.Ytjnobdpjohbdnaa
open Go.ChangeShapes Go.WideShapes Go.ChangeAt Go.RowKit Go.Deep

theorem small_of {ls : List (List Int)} : ∀ i, i < (rsN ls).length → ((rsN ls).getD i []).length ≤ 140737488355328 := fun i hi => by
  have hm : (rsN ls).getD i [] ∈ rsN ls := by rw [List.getD_eq_getElem?_getD, List.getElem?_eq_getElem hi]; simp
  have := (rsN_small ls _ hm).1
  omega
theorem small_take {ls : List (List Int)} {j : Nat} : ∀ i, i < ((rsN ls).take j).length → (((rsN ls).take j).getD i []).length ≤ 140737488355328 := fun i hi => by
  rw [List.length_take] at hi
  have : ((rsN ls).take j).getD i [] = (rsN ls).getD i [] := by simp [List.getD_eq_getElem?_getD, show i < j by omega]
  rw [this]
  exact small_of i (by omega)
theorem BytesV.pre {w : World} {ta : Option Addr} {bn tc k : Nat} {d : List UInt8} (h : BytesV w (.slice ta bn tc) d) (hk : k ≤ bn) : BytesV w (.slice ta k k) (d.take k) := by
  obtain ⟨ao, cap, e1, ⟨h0, hno⟩, hat⟩ := h
  injection e1 with e1 e2 e3
  subst e1 e3
  have hl : (d.take k).length = k := by rw [List.length_take]; omega
  refine ⟨ta, k, by rw [hl], ⟨by omega, fun e => ?_⟩, fun hne => ?_⟩
  · obtain ⟨_, rfl⟩ := hno e
    simp at e2
    exact ⟨by omega, by simp⟩
  · obtain ⟨b, off, e, hlt, hba⟩ := hat (by intro e; subst e; simp at hne)
    refine ⟨b, off, e, hlt, fun i hi => ?_⟩
    rw [hl] at hi
    rw [hba i (by omega)]
    simp [List.getD_eq_getElem?_getD, hi]
theorem LisV.pre {w : World} {a : Option Addr} {n c j : Nat} {rs : List (List Int)} (h : LisV w (.slice a n c) rs) (hj : j ≤ rs.length) : LisV w (.slice a j c) (rs.take j) := by
  obtain ⟨us, ao, cap, e1, h1, h2, h3⟩ := h
  injection e1 with e1 e2 e3
  subst e1 e3
  have hl : (rs.take j).length = j := by rw [List.length_take]; omega
  have hg : ∀ i, i < j → (rs.take j).getD i [] = rs.getD i [] := fun i hi => by simp [List.getD_eq_getElem?_getD, hi]
  have hu : ∀ i, i < j → (us.take j).getD i nilV = us.getD i nilV := fun i hi => by simp [List.getD_eq_getElem?_getD, hi]
  refine ⟨us.take j, a, c, by rw [hl], by rw [List.length_take, hl]; omega, fun i hi => ?_, fun hne => ?_⟩
  · rw [hl] at hi
    rw [hg i hi, hu i hi]
    exact h2 i (by omega)
  · obtain ⟨b, off, e, hlt, hat⟩ := h3 (by intro e; subst e; simp at hne)
    refine ⟨b, off, e, hlt, fun i hi => ?_⟩
    rw [hl] at hi
    rw [hu i hi]
    exact hat i (by omega)
theorem LisO.room {w : World} {base n c : Nat} {a : Option Addr} {rs : List (List Int)} (h : LisO w base (.slice a n c) rs) : rs.length ≤ c ∧ (a = none → c = 0) := by
  obtain ⟨us, h1, _, _⟩ := h
  rcases h1.2 with ⟨e, h0⟩ | ⟨g, cap, cur, e, _, _, hnc, _⟩
  · injection e with e1 e2 e3; exact ⟨by omega, fun _ => e3⟩
  · injection e with e1 e2 e3; exact ⟨by omega, fun h => by rw [h] at e1; cases e1⟩
theorem owns_room {w : World} {base n c : Nat} {a : Option Addr} {e : TypeId} {xs : List Value} (h : w.ownsRow base e 1 (.slice a n c) n xs) : n ≤ c ∧ (a = none → c = 0) := by
  rcases h.2 with ⟨e, h0⟩ | ⟨g, cap, cur, e, _, _, hnc, _⟩
  · injection e with e1 e2 e3; exact ⟨by omega, fun _ => e3⟩
  · injection e with e1 e2 e3; exact ⟨by omega, fun h => by rw [h] at e1; cases e1⟩
end Go.Proofs.Ytjnobdpjohbdnaa
