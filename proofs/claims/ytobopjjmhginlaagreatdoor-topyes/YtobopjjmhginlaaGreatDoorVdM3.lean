import Derived.Test.YtobopjjmhginlaaGreatDoorVdM2
import Derived.Test.YtobopjjmhginlaaGreatDoorFairD
namespace Go.Proofs.YtobopjjmhginlaaGreatDoor
open Go.ChangeShapes Go.WideShapes Go.ChangeAt Go.RowKit Go.Deep
open Terms Tm
set_option maxHeartbeats 6400000
set_option maxRecDepth 20000
theorem bitB_nat (n i : Nat) : bitB (n : Int) i = n.testBit i := by
  unfold bitB; rw [Nat.testBit_eq_decide_div_mod_eq]; have e : ((n / 2 ^ i % 2 : Nat) : Int) = (n : Int) / 2 ^ i % 2 := by push_cast; rfl
  rw [<- e]
  apply decide_eq_decide.2
  omega
theorem Trail.at {nx : Nat -> List Nat} : ∀ {L : List Nat}, Trail nx L -> ∀ i, i + 1 < L.length -> L.getD (i + 1) 0 ∈ nx (L.getD i 0)
  | [], _, i, h => by simp at h
  | [_], _, i, h => by simp at h
  | a :: b :: L, h, 0, _ => by simpa using h.1
  | a :: b :: L, h, i + 1, hi => by
    have := Trail.at (L := b :: L) h.2 i (by simpa using hi)
    simpa using this
section
variable {m : Mo} {ps : List (List (Int × Int))} {l : List (Int × Int)} {K : Nat}
theorem exGr_bit {i k : Nat} : (sN (exGr m ps l K) i).testBit k = bitB ((xpT m ps l K).getD i 0) k \/ (xpT m ps l K).getD i 0 < 0 := by
  by_cases h : (xpT m ps l K).getD i 0 < 0
  · exact .inr h
  · refine .inl ?_
    obtain ⟨n, hn⟩ : ∃ n : Nat, (xpT m ps l K).getD i 0 = (n : Int) := ⟨((xpT m ps l K).getD i 0).toNat, by omega⟩
    show ((xpT m ps l K).getD i 0).toNat.testBit k = _
    rw [hn, bitB_nat, Int.toNat_natCast]
theorem xpT_pos {i : Nat} (hi : i < K) : ¬ (xpT m ps l K).getD i 0 < 0 := by
  rw [xpT_get hi]; have := (metN_range l (letL m ps (xpAt m ps l i).1) (xpAt m ps l i).2).1; omega
theorem lasso_way (h : ExDone m ps l K) {st lp : List Nat} (hL : LassoOk (exGr m ps l K) st lp) : PWay m ps l K (st ++ lp) st.length := by
  have hK : (exGr m ps l K).spots.length = K := h.1; have hlp : 0 < lp.length := List.length_pos_iff.2 hL.ne; have hn : (st ++ lp).length = st.length + lp.length := List.length_append
  have hall : ∀ i, i < (st ++ lp).length -> (st ++ lp).getD i 0 < K := fun i hi => by
    have := hL.lt ((st ++ lp).getD i 0) (by rw [List.getD_eq_getElem?_getD, List.getElem?_eq_getElem hi]; exact List.getElem_mem _)
    rw [hK] at this; exact this
  have hg : ∀ i, i < (st ++ lp).length -> (st ++ lp ++ [lp.getD 0 0]).getD i 0 = (st ++ lp).getD i 0 := fun i hi => by
    simp only [List.getD_eq_getElem?_getD]
    rw [List.getElem?_append_left hi]
  have hlast : (st ++ lp ++ [lp.getD 0 0]).getD (st ++ lp).length 0 = (st ++ lp).getD st.length 0 := by
    simp only [List.getD_eq_getElem?_getD]
    rw [List.getElem?_append_right (Nat.le_refl _), Nat.sub_self, List.getElem?_append_right (Nat.le_refl _), Nat.sub_self]
    rfl
  refine ⟨by omega, hall, ?_, fun i hi => ?_, fun k hk => ?_⟩
  · have := hL.head
    have e : (exGr m ps l K).init = ((begL m ps l).length : Nat) := rfl; rw [e] at this; omega
  · have htr := hL.trail.at i (by simp at hi ⊢; omega)
    rw [hg i hi] at htr
    by_cases hi2 : i + 1 < (st ++ lp).length
    · rw [moAt_low hi2]
      rw [hg _ hi2] at htr; exact htr
    · have e : i + 1 = (st ++ lp).length := by omega
      have hm : moAt st.length (st ++ lp).length (i + 1) = st.length := by
        rw [e]; unfold moAt; rw [if_neg (Nat.lt_irrefl _), Nat.mod_self]; rfl
      rw [hm]; rw [e, hlast] at htr; exact htr
  · have hk' : k < mN (exGr m ps l K) := by
      show k < (((aheadL l).length : Nat) : Int).toNat
      rw [Int.toNat_natCast]; exact hk
    obtain ⟨x, hx, hb⟩ := hL.bits k hk'; obtain ⟨q, hq, rfl⟩ := List.getElem_of_mem hx; have hi : st.length + q < (st ++ lp).length := by omega
    have hge : (st ++ lp).getD (st.length + q) 0 = lp[q] := by
      simp only [List.getD_eq_getElem?_getD]
      rw [List.getElem?_append_right (by omega), show st.length + q - st.length = q by omega, List.getElem?_eq_getElem hq]
      rfl
    refine ⟨st.length + q, by omega, hi, ?_⟩
    rw [hge]; have hlt : lp[q] < K := by rw [<- hge]; exact hall _ hi
    rcases exGr_bit (m := m) (ps := ps) (l := l) (K := K) (i := lp[q]) (k := k) with e | e
    · rw [<- e]; exact hb
    · exact absurd e (xpT_pos hlt)
theorem way_fair (h : ExDone m ps l K) {x : List Nat} {s : Nat} (hx : PWay m ps l K x s) : fairC (exGr m ps l K) = 0 := by
  have hK : (exGr m ps l K).spots.length = K := h.1
  have hfw : ∀ i j, i <= j -> j < x.length -> Way (nxt (exGr m ps l K)) (x.getD i 0) (x.getD j 0) := fun i j hij => by
    induction hij with
    | refl => intro _; exact .stay
    | @step j hj ih =>
      intro hlt; have h1 := ih (by omega)
      have h2 := hx.step j (by omega)
      rw [moAt_low hlt] at h2; exact h1.step h2
  have hback : x.getD s 0 ∈ nxt (exGr m ps l K) (x.getD (x.length - 1) 0) := by
    have h1 := hx.step (x.length - 1) (by have := hx.lt; omega)
    have e : x.length - 1 + 1 = x.length := by have := hx.lt; omega
    have hm : moAt s x.length x.length = s := by
      unfold moAt; rw [if_neg (Nat.lt_irrefl _), Nat.mod_self]; rfl
    rw [e, hm] at h1; exact h1
  have hlt := hx.lt; have hmut : ∀ i, s <= i -> i < x.length -> Mut (exGr m ps l K) (x.getD s 0) (x.getD i 0) := fun i h1 h2 => ⟨hfw s i h1 h2, (hfw i (x.length - 1) (by omega) (by omega)).step hback⟩
  refine fair_some (x := x.getD s 0) (by rw [hK]; exact hx.all s hlt) ⟨⟨x.getD 0 0, ?_, hfw 0 s (Nat.zero_le _) hlt⟩, ⟨x.getD (x.length - 1) 0, x.getD s 0, hmut _ (by omega) (by omega), ⟨.stay, .stay⟩, hback⟩, fun k hk => ?_⟩
  · rw [List.mem_range]
    show x.getD 0 0 < (((begL m ps l).length : Nat) : Int).toNat
    rw [Int.toNat_natCast]; exact hx.first
  · have hk' : k < (aheadL l).length := by
      have : k < (((aheadL l).length : Nat) : Int).toNat := hk; rw [Int.toNat_natCast] at this; exact this
    obtain ⟨i, i1, i2, i3⟩ := hx.met k hk'; refine ⟨x.getD i 0, hmut i i1 i2, ?_⟩
    rcases exGr_bit (m := m) (ps := ps) (l := l) (K := K) (i := x.getD i 0) (k := k) with e | e
    · rw [e]; exact i3
    · exact absurd e (xpT_pos (hx.all i i2))
end
end Go.Proofs.YtobopjjmhginlaaGreatDoor
