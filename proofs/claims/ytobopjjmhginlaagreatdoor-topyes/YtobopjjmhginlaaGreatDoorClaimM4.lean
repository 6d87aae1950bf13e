import Derived.Test.YtobopjjmhginlaaGreatDoorClaimM3
namespace Go.Proofs.YtobopjjmhginlaaGreatDoor
open Terms
set_option maxHeartbeats 6400000
set_option maxRecDepth 20000
theorem mk_hb {T : Tm} (hw : T.Wf) {l : List (Int × Int)} (ho : T.ops = l) (σ : Nat -> Nat -> Bool) (letter : List Bool) (i : Nat) (hl : ∀ v : Int, 0 <= v -> letter.getD v.toNat false = σ i v.toNat) (hv : ∀ q, q < l.length -> (l.getD q (0, 0)).1 = 13 -> 0 <= (l.getD q (0, 0)).2) (h8 : ∀ q, q < l.length -> 8 <= (l.getD q (0, 0)).1) {p : Nat} (h2 : p < l.length) (hb : lookB (l.getD p (0, 0)).1 = false) {x y : Bool} (hx1 : 1 <= pn (l.getD p (0, 0)).1 -> x = (T.sub (p + 1)).hb σ i) (hx2 : pn (l.getD p (0, 0)).1 = 2 -> y = (T.sub (sec l p)).hb σ i) : mkB (l.getD p (0, 0)) letter x y = (T.sub p).hb σ i := by
  have hsz : T.size = l.length := by rw [<- Tm.ops_length, ho]
  have hq : p < T.size := by omega
  have hop := op_at ho hq; have hwf := Tm.sub_wf hw p; rw [hop] at hb hx1 hx2 ⊢; have hvp := hv p h2; rw [hop] at hvp
  cases hT : T.sub p with
  | leaf k v =>
    rw [hT] at hb hvp hwf; simp only [Tm.kind, Tm.val] at hb hvp ⊢; unfold mkB
    by_cases k13 : k = 13
    · subst k13
      rw [if_pos rfl, Tm.hb_prop]; exact hl v (hvp rfl)
    · by_cases k11 : k = 11
      · subst k11
        rw [Tm.hb_yes]; rfl
      · rw [Tm.hb_no _ _ _ k13 k11]
        have hpn : pn k = 0 := hwf.2; have k8 : k ≠ 8 := fun e => by rw [e] at hpn; exact absurd hpn (by decide)
        have k9 : k ≠ 9 := fun e => by rw [e] at hpn; exact absurd hpn (by decide)
        have k10 : k ≠ 10 := fun e => by rw [e] at hpn; exact absurd hpn (by decide)
        simp [k13, k11, k8, k9, k10]
  | un k v a =>
    have hs1 := sub_one hq hT; rw [hT] at hb hwf hx1; simp only [Tm.kind, Tm.val] at hb hx1 ⊢; have hpn : pn k = 1 := hwf.2.1; have hok : okK k = true := hwf.1
    have hk : k = 10 := by
      have h14 : ¬ (14 <= k /\ k <= 18) := by simpa [lookB] using hb
      unfold pn at hpn
      split at hpn
      · omega
      · split at hpn <;> omega
    subst hk; rw [hx1 (by rw [hpn]; exact Nat.le_refl _), hs1, Tm.hb_not]
    rfl
  | bi k v a b =>
    have hs1 := sub_fst hq hT; have hs2 := sub_snd hw ho hq hT; have h8p := h8 p h2; rw [hop, hT] at h8p; rw [hT] at hb hwf hx1 hx2; simp only [Tm.kind, Tm.val] at hb hx1 hx2 ⊢; have hpn : pn k = 2 := hwf.2.1; rw [hx1 (by omega), hx2 hpn, hs1, hs2]
    simp only [Tm.kind] at h8p
    have hk : k = 8 \/ k = 9 := by
      have h14 : ¬ (14 <= k /\ k <= 18) := by simpa [lookB] using hb
      unfold pn at hpn
      split at hpn
      · omega
      · split at hpn <;> omega
    rcases hk with rfl | rfl
    · rw [Tm.hb_and]; rfl
    · rw [Tm.hb_or]; rfl
theorem bits_eq : ∀ (n : Nat) (x y : Int), 0 <= x -> x < 2 ^ n -> 0 <= y -> y < 2 ^ n -> (∀ k, k < n -> bitB x k = bitB y k) -> x = y := by
  intro n
  induction n with
  | zero => intro x y a b c d _; simp at b d; omega
  | succ n ih =>
    intro x y a b c d h; rw [Int.pow_succ] at b d; have h0 : bitB x 0 = bitB y 0 := h 0 (by omega)
    have e0 : x % 2 = y % 2 := by
      unfold bitB at h0; simp only [Int.pow_zero, Int.ediv_one] at h0; have hx : x % 2 = 0 \/ x % 2 = 1 := by omega
      have hy : y % 2 = 0 \/ y % 2 = 1 := by omega
      rcases hx with hx | hx <;> rcases hy with hy | hy
      · rw [hx, hy]
      · rw [hx, hy] at h0; simp at h0
      · rw [hx, hy] at h0; simp at h0
      · rw [hx, hy]
    have hh : x / 2 = y / 2 := ih (x / 2) (y / 2) (by omega) (by omega) (by omega) (by omega) fun k hk => by
      have := h (k + 1) (by omega)
      unfold bitB at this ⊢; rw [Int.pow_succ, Int.mul_comm, <- Int.ediv_ediv_of_nonneg (by decide), <- Int.ediv_ediv_of_nonneg (by decide)] at this
      exact this
    omega
theorem claims_only {T : Tm} (hw : T.Wf) {l : List (Int × Int)} (ho : T.ops = l) (hz : endsCode (l.map Prod.fst) = 0) (hv : ∀ q, q < l.length -> (l.getD q (0, 0)).1 = 13 -> 0 <= (l.getD q (0, 0)).2) (h8 : ∀ q, q < l.length -> 8 <= (l.getD q (0, 0)).1) {ls : List (List Bool)} {s : Nat} (hs : s < ls.length) (mine : Nat -> Int)
    (hm : ∀ i, i < ls.length -> 0 <= mine i /\ mine i < 2 ^ (aheadL l).length)
    (hfol : ∀ i, i < ls.length -> ∀ p, p < l.length -> lookB (l.getD p (0, 0)).1 = true -> tru l (ls.getD i []) (mine i) p = comeB (l.getD p (0, 0)).1 (tru l (ls.getD i []) (mine i) (p + 1)) (tru l (ls.getD i []) (mine i) (sec l p)) (tru l (ls.getD (moAt s ls.length (i + 1)) []) (mine (moAt s ls.length (i + 1))) p) (tru l (ls.getD (moAt s ls.length (i + 1)) []) (mine (moAt s ls.length (i + 1))) (p + 1)))
    (hmet : ∀ p, p < l.length -> lookB (l.getD p (0, 0)).1 = true -> ∃ i, s <= i /\ i < ls.length /\ waitB (l.getD p (0, 0)).1 (tru l (ls.getD i []) (mine i) p) (tru l (ls.getD i []) (mine i) (p + 1)) (tru l (ls.getD i []) (mine i) (sec l p)) = false) :
    ∀ i, i < ls.length -> mine i = clmTo (aheadL l) (fun q => (T.sub q).hb (sig ls s)) i (aheadL l).length := by
  have hmm : ∀ i, moAt s ls.length (moAt s ls.length i) = moAt s ls.length i := fun i => moAt_low (moAt_lt hs)
  have key := line_only hw ho hz hs (fun i p => tru l (ls.getD (moAt s ls.length i) []) (mine (moAt s ls.length i)) p)
    (fun i p => by simp only [hmm])
    (fun i p h2 hb hx1 hx2 => by
      obtain ⟨_, q2⟩ := part_in hz h2
      show tru _ _ _ _ = _
      rw [tru_mk h2 hb (fun h => (q2 h).1)]
      exact mk_hb hw ho (sig ls s) _ i (fun v _ => rfl) hv h8 h2 hb hx1 hx2)
    (fun i p h2 hb => by
      have := hfol (moAt s ls.length i) (moAt_lt hs) p h2 hb
      have e : moAt s ls.length (moAt s ls.length i + 1) = moAt s ls.length (i + 1) := by
        unfold moAt
        by_cases h : i < ls.length
        · rw [if_pos h]
        · rw [if_neg h, if_neg (show ¬ i + 1 < ls.length by omega)]
          have hL : 0 < ls.length - s := by omega
          have hr := Nat.mod_lt (i - s) hL; have e1 : i + 1 - s = (i - s) + 1 := by omega
          rw [e1, <- Nat.mod_add_mod]
          by_cases h3 : s + (i - s) % (ls.length - s) + 1 < ls.length
          · rw [if_pos h3, Nat.mod_eq_of_lt (show (i - s) % (ls.length - s) + 1 < ls.length - s by omega)]; omega
          · rw [if_neg h3, show s + (i - s) % (ls.length - s) + 1 - s = (i - s) % (ls.length - s) + 1 by omega]
      rw [e] at this
      exact this)
    (fun p h2 hb => by
      obtain ⟨i, a1, a2, a3⟩ := hmet p h2 hb
      exact ⟨i, a1, a2, by simp only [moAt_low a2]; exact a3⟩)
  intro i hi; obtain ⟨c0, c1⟩ := clmTo_bounds (aheadL l) (fun q => (T.sub q).hb (sig ls s)) i (aheadL l).length
  refine bits_eq _ _ _ (hm i hi).1 (hm i hi).2 c0 c1 fun k hk => ?_
  rw [bit_clm _ _ _ _ _ hk]; obtain ⟨p, e1, e2, e3, e4⟩ := aheadTo_get l l.length k hk; have e1' : (aheadL l).getD k 0 = (p : Int) := e1; have := key l.length p (by omega) e2 i
  simp only [moAt_low hi] at this; rw [tru_look e2 e3, e4] at this; rw [this, e1']; rfl
theorem claims_tru {T : Tm} (hw : T.Wf) {l : List (Int × Int)} (ho : T.ops = l) (hz : endsCode (l.map Prod.fst) = 0) (hv : ∀ q, q < l.length -> (l.getD q (0, 0)).1 = 13 -> 0 <= (l.getD q (0, 0)).2) (h8 : ∀ q, q < l.length -> 8 <= (l.getD q (0, 0)).1) {ls : List (List Bool)} {s : Nat} {i : Nat} (hi : i < ls.length) {p : Nat} (hp : p < l.length) :
    tru l (ls.getD i []) (clmTo (aheadL l) (fun q => (T.sub q).hb (sig ls s)) i (aheadL l).length) p = (T.sub p).hb (sig ls s) i :=
  line_tru hw ho hz (sig ls s) _ i (fun v _ => by unfold sig; rw [moAt_low hi]) hv h8 l.length p (by omega) hp
theorem claims_fit {T : Tm} (hw : T.Wf) {l : List (Int × Int)} (ho : T.ops = l) (hz : endsCode (l.map Prod.fst) = 0) (hv : ∀ q, q < l.length -> (l.getD q (0, 0)).1 = 13 -> 0 <= (l.getD q (0, 0)).2) (h8 : ∀ q, q < l.length -> 8 <= (l.getD q (0, 0)).1) {ls : List (List Bool)} {s : Nat} (hs : s < ls.length) (mine : Nat -> Int)
    (hm : ∀ i, i < ls.length -> mine i = clmTo (aheadL l) (fun q => (T.sub q).hb (sig ls s)) i (aheadL l).length) :
    (∀ i, i < ls.length -> ∀ p, p < l.length -> lookB (l.getD p (0, 0)).1 = true -> tru l (ls.getD i []) (mine i) p = comeB (l.getD p (0, 0)).1 (tru l (ls.getD i []) (mine i) (p + 1)) (tru l (ls.getD i []) (mine i) (sec l p)) (tru l (ls.getD (moAt s ls.length (i + 1)) []) (mine (moAt s ls.length (i + 1))) p) (tru l (ls.getD (moAt s ls.length (i + 1)) []) (mine (moAt s ls.length (i + 1))) (p + 1))) /\
    ∀ p, p < l.length -> lookB (l.getD p (0, 0)).1 = true -> ∃ i, s <= i /\ i < ls.length /\ waitB (l.getD p (0, 0)).1 (tru l (ls.getD i []) (mine i) p) (tru l (ls.getD i []) (mine i) (p + 1)) (tru l (ls.getD i []) (mine i) (sec l p)) = false := by
  have two : ∀ p, p < l.length -> lookB (l.getD p (0, 0)).1 = true -> p + 1 < l.length /\ ((l.getD p (0, 0)).1 = 15 \/ (l.getD p (0, 0)).1 = 16 -> sec l p < l.length) := fun p hp hb => by
    obtain ⟨q1, q2⟩ := part_in hz hp; have hk := kind_cases hb; generalize (l.getD p (0, 0)).1 = k at *; refine ⟨q1 (by rcases hk with rfl | rfl | rfl | rfl | rfl <;> decide), fun h => (q2 (by rcases h with rfl | rfl <;> rfl)).2⟩
  have sec_free : ∀ k (x y y' z nx : Bool), lookB k = true -> (k = 15 \/ k = 16 -> y = y') -> comeB k x y z nx = comeB k x y' z nx := fun k x y y' z nx hb h => by
    rcases kind_cases hb with rfl | rfl | rfl | rfl | rfl
    · rfl
    · rw [h (.inl rfl)]
    · rw [h (.inr rfl)]
    · rfl
    · rfl
  have sec_free2 : ∀ k (a x y y' : Bool), lookB k = true -> (k = 15 \/ k = 16 -> y = y') -> waitB k a x y = waitB k a x y' := fun k a x y y' hb h => by
    rcases kind_cases hb with rfl | rfl | rfl | rfl | rfl
    · rfl
    · rw [h (.inl rfl)]
    · rw [h (.inr rfl)]
    · rfl
    · rfl
  refine ⟨fun i hi p hp hb => ?_, fun p hp hb => ?_⟩
  · obtain ⟨p1, p2⟩ := two p hp hb
    have hj := moAt_lt (s := s) (n := ls.length) (i := i + 1) hs; rw [hm i hi, hm _ hj, claims_tru hw ho hz hv h8 hi hp, claims_tru hw ho hz hv h8 hi p1, claims_tru hw ho hz hv h8 hj hp, claims_tru hw ho hz hv h8 hj p1, hb_mo hs, hb_mo hs]; rw [sec_free _ _ _ ((T.sub (sec l p)).hb (sig ls s) i) _ _ hb (fun h => claims_tru hw ho hz hv h8 hi (p2 h))]
    exact line_come hw ho (sig ls s) hp hb i
  · obtain ⟨p1, p2⟩ := two p hp hb
    obtain ⟨i, a1, a2, a3⟩ := line_meets hw ho hs hp hb; refine ⟨i, a1, a2, ?_⟩
    rw [hm i a2, claims_tru hw ho hz hv h8 a2 hp, claims_tru hw ho hz hv h8 a2 p1, sec_free2 _ _ _ _ ((T.sub (sec l p)).hb (sig ls s) i) hb (fun h => claims_tru hw ho hz hv h8 a2 (p2 h))]
    exact a3
end Go.Proofs.YtobopjjmhginlaaGreatDoor
