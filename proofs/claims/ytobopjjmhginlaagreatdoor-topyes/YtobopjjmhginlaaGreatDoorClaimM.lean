import Derived.Test.YtobopjjmhginlaaGreatDoorWClm
import Derived.Test.YtobopjjmhginlaaGreatDoorWordM
namespace Go.Proofs.YtobopjjmhginlaaGreatDoor
open Terms
set_option maxHeartbeats 6400000
set_option maxRecDepth 20000
theorem bit_clm (a : List Int) (h : Nat -> Nat -> Bool) (j : Nat) : ∀ n k, k < n -> bitB (clmTo a h j n) k = h (a.getD k 0).toNat j := by
  intro n
  induction n with
  | zero => intro k hk; omega
  | succ n ih =>
    intro k hk; obtain ⟨b0, b1⟩ := clmTo_bounds a h j n; have hp : (0 : Int) < 2 ^ k := Int.pow_pos (by decide)
    by_cases e : k = n
    · subst e
      have e1 : clmTo a h j (k + 1) = clmTo a h j k + if h (a.getD k 0).toNat j = true then 2 ^ k else 0 := rfl
      by_cases hb : h (a.getD k 0).toNat j = true
      · rw [if_pos hb] at e1
        have : (clmTo a h j k + 2 ^ k) / 2 ^ k = 1 := by
          rw [show clmTo a h j k + 2 ^ k = clmTo a h j k + 1 * 2 ^ k by omega, Int.add_mul_ediv_right _ _ (by omega), Int.ediv_eq_zero_of_lt b0 b1]
          rfl
        rw [hb, e1]; unfold bitB; rw [this]; rfl
      · rw [if_neg hb, Int.add_zero] at e1
        rw [e1, Bool.eq_false_iff.2 hb]; unfold bitB; rw [Int.ediv_eq_zero_of_lt b0 b1]; rfl
    · have hkn : k < n := by omega
      rw [<- ih k hkn]; have e1 : clmTo a h j (n + 1) = clmTo a h j n + if h (a.getD n 0).toNat j = true then 2 ^ n else 0 := rfl
      by_cases hb : h (a.getD n 0).toNat j = true
      · rw [if_pos hb] at e1
        obtain ⟨d, hd⟩ : ∃ d, n = k + 1 + d := ⟨n - (k + 1), by omega⟩
        have e2 : (2 : Int) ^ n = (2 * 2 ^ d) * 2 ^ k := by rw [hd, Int.pow_add, Int.pow_succ]; simp [Int.mul_comm, Int.mul_left_comm, Int.mul_assoc]
        have e3 : clmTo a h j (n + 1) / 2 ^ k % 2 = clmTo a h j n / 2 ^ k % 2 := by
          rw [e1, e2, Int.add_mul_ediv_right _ _ (by omega)]
          omega
        unfold bitB; rw [e3]
      · rw [if_neg hb, Int.add_zero] at e1
        rw [e1]
theorem op_at {T : Tm} {l : List (Int × Int)} (ho : T.ops = l) {q : Nat} (hq : q < T.size) : l.getD q (0, 0) = ((T.sub q).kind, (T.sub q).val) := by
  obtain ⟨r, hr⟩ := Tm.sub_drop T q hq; rw [ho] at hr; have h0 : l.getD q (0, 0) = (l.drop q).getD 0 (0, 0) := by simp [List.getD_eq_getElem?_getD]
  rw [h0, hr, <- Tm.ops_head (T.sub q) (0, 0)]; have hne := Tm.ops_ne (T.sub q)
  cases hx : (T.sub q).ops with
  | nil => exact absurd hx hne
  | cons x s => simp
theorem sub_one {T : Tm} {q : Nat} {k v : Int} {a : Tm} (hq : q < T.size) (e : T.sub q = .un k v a) : T.sub (q + 1) = a := by
  have := Tm.sub_sub T q 1 hq (by rw [e]; have := a.size_pos; simp [Tm.size]; omega)
  rw [this, e]; exact Tm.sub_zero a
theorem sub_fst {T : Tm} {q : Nat} {k v : Int} {a b : Tm} (hq : q < T.size) (e : T.sub q = .bi k v a b) : T.sub (q + 1) = a := by
  have ha := a.size_pos; have := Tm.sub_sub T q 1 hq (by rw [e]; simp [Tm.size]; omega)
  rw [this, e]
  show (if 0 < a.size then a.sub 0 else b.sub (0 - a.size)) = a
  rw [if_pos (by omega), Tm.sub_zero]
theorem sub_snd {T : Tm} (hw : T.Wf) {l : List (Int × Int)} (ho : T.ops = l) {q : Nat} {k v : Int} {a b : Tm} (hq : q < T.size) (e : T.sub q = .bi k v a b) : T.sub (sec l q) = b := by
  have ha := a.size_pos; have hb := b.size_pos; have hf := Tm.sub_fits T hq; rw [e] at hf; simp only [Tm.size] at hf; have h1 := (Tm.end_at hw (q := q + 1) (by omega)).1
  rw [ho, sub_fst hq e] at h1; have hs : sec l q = q + (1 + a.size) := by unfold sec; rw [h1]; omega
  rw [hs, Tm.sub_sub T q (1 + a.size) hq (by rw [e]; simp only [Tm.size]; omega), e, show 1 + a.size = a.size + 1 by omega]
  show (if a.size < a.size then a.sub a.size else b.sub (a.size - a.size)) = b
  rw [if_neg (by omega), Nat.sub_self, Tm.sub_zero]
theorem line_tru {T : Tm} (hw : T.Wf) {l : List (Int × Int)} (ho : T.ops = l) (hz : endsCode (l.map Prod.fst) = 0) (σ : Nat -> Nat -> Bool) (letter : List Bool) (i : Nat) (hl : ∀ v : Int, 0 <= v -> letter.getD v.toNat false = σ i v.toNat) (hv : ∀ q, q < l.length -> (l.getD q (0, 0)).1 = 13 -> 0 <= (l.getD q (0, 0)).2) (h8 : ∀ q, q < l.length -> 8 <= (l.getD q (0, 0)).1) :
    ∀ d p, l.length <= p + d -> p < l.length -> tru l letter (clmTo (aheadL l) (fun q => (T.sub q).hb σ) i (aheadL l).length) p = (T.sub p).hb σ i := by
  have hsz : T.size = l.length := by rw [<- Tm.ops_length, ho]
  intro d
  induction d with
  | zero => intro p h1 h2; omega
  | succ d ih =>
    intro p h1 h2; have hq : p < T.size := by omega
    have hop := op_at ho hq; obtain ⟨q1, q2⟩ := part_in hz h2
    cases hb : lookB (l.getD p (0, 0)).1 with
    | true =>
      rw [tru_look h2 hb]
      have hlt : (aheadTo l p).length < (aheadL l).length := by
        have := aheadTo_mono l (p := p + 1) (n := l.length) (by omega)
        rw [aheadTo_yes hb, List.length_append] at this; exact this
      rw [bit_clm _ _ _ _ _ hlt]; obtain ⟨p', e1, e2, e3, e4⟩ := aheadTo_get l l.length (aheadTo l p).length hlt; have e1' : (aheadL l).getD (aheadTo l p).length 0 = (p' : Int) := e1; rw [e1']
      have : p' = p := by
        rcases Nat.lt_trichotomy p' p with h | h | h
        · have := aheadTo_mono l (p := p' + 1) (n := p) (by omega)
          rw [aheadTo_yes e3, List.length_append] at this; simp at this; omega
        · exact h
        · have := aheadTo_mono l (p := p + 1) (n := p') (by omega)
          rw [aheadTo_yes hb, List.length_append] at this; simp at this; omega
      rw [this]; rfl
    | false =>
      rw [tru_mk h2 hb (fun h => (q2 h).1)]
      have hwf := Tm.sub_wf hw p; rw [hop] at hb q1 q2 ⊢; have hvp := hv p h2; rw [hop] at hvp
      cases hT : T.sub p with
      | leaf k v =>
        rw [hT] at hb hvp hwf; simp only [Tm.kind, Tm.val] at hb hvp ⊢; unfold mkB
        by_cases k13 : k = 13
        · subst k13
          rw [if_pos rfl, Tm.hb_prop]; exact hl v (hvp rfl)
        · by_cases k11 : k = 11
          · subst k11
            rw [Tm.hb_yes]; rfl
          · rw [Tm.hb_no _ _ _ k13 k11]
            have hpn : pn k = 0 := hwf.2; have k8 : k ≠ 8 := fun e => by rw [e] at hpn; exact absurd hpn (by decide)
            have k9 : k ≠ 9 := fun e => by rw [e] at hpn; exact absurd hpn (by decide)
            have k10 : k ≠ 10 := fun e => by rw [e] at hpn; exact absurd hpn (by decide)
            simp [k13, k11, k8, k9, k10]
      | un k v a =>
        have hs1 := sub_one hq hT; rw [hT] at hb hwf q1; simp only [Tm.kind, Tm.val] at hb q1 ⊢; have hpn : pn k = 1 := hwf.2.1; have hok : okK k = true := hwf.1
        have hk : k = 10 := by
          have h14 : ¬ (14 <= k /\ k <= 18) := by simpa [lookB] using hb
          unfold pn at hpn
          split at hpn
          · omega
          · split at hpn <;> omega
        subst hk; rw [ih (p + 1) (by omega) (q1 (by rw [hpn]; exact Nat.le_refl _)), hs1, Tm.hb_not]
        rfl
      | bi k v a b =>
        have hs1 := sub_fst hq hT; have hs2 := sub_snd hw ho hq hT; have h8p := h8 p h2; rw [hop, hT] at h8p; rw [hT] at hb hwf q1 q2; simp only [Tm.kind, Tm.val] at hb q1 q2 ⊢; have hpn : pn k = 2 := hwf.2.1; rw [ih (p + 1) (by omega) (q1 (by omega)), ih (sec l p) (by have := (q2 hpn).1; omega) (q2 hpn).2, hs1, hs2]
        simp only [Tm.kind] at h8p
        have hk : k = 8 \/ k = 9 := by
          have h14 : ¬ (14 <= k /\ k <= 18) := by simpa [lookB] using hb
          unfold pn at hpn
          split at hpn
          · omega
          · split at hpn <;> omega
        rcases hk with rfl | rfl
        · rw [Tm.hb_and]; rfl
        · rw [Tm.hb_or]; rfl
end Go.Proofs.YtobopjjmhginlaaGreatDoor
