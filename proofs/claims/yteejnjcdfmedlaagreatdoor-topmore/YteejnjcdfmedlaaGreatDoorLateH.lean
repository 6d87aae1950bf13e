/-
  Joined out of ClaimM3, ClaimM4, ClaimN, ClaimL, ClaimS, VdM, VdM2, VdM3, VdM4, VdM5, TopHolds, KeepNext, KeepMore, StayM, MoM, RuRows, InOps, TkR, LawOps, TopOps, EyWalk, MoWalk, in their order: a claim bears at most so many files.
-/
import Derived.Test.YteejnjcdfmedlaaGreatDoorLateG
import Derived.Test.YteejnjcdfmedlaaGreatDoorLateC
import Derived.Test.YteejnjcdfmedlaaGreatDoorLateA
import Derived.Test.YteejnjcdfmedlaaGreatDoorLateE
import Derived.Test.YteejnjcdfmedlaaGreatDoorLateB
import Derived.Test.YteejnjcdfmedlaaGreatDoorLateD
import Derived.Test.YteejnjcdfmedlaaGreatDoorKeepStates
import Derived.Deep.AppendLies
import Derived.Deep.Cut
import Derived.Deep.CutBlock
import Derived.Deep.CutRange
import Derived.Deep.DeepCutAuto
namespace Go.Proofs.YteejnjcdfmedlaaGreatDoor
open Terms
set_option maxHeartbeats 6400000
set_option maxRecDepth 20000
theorem const_from {t : Nat -> Bool} {i j : Nat} (h : ∀ m, i <= m -> m < j -> t m = t (m + 1)) : ∀ m, i <= m -> m <= j -> t i = t m := by
 intro m
 induction m with
 | zero => intro h1 _; rw [Nat.le_zero.1 h1]
 | succ m ih =>
  intro h1 h2
  by_cases e : i = m + 1
  ·rw [e]
  ·rw [ih (by omega) (by omega), h m (by omega) (by omega)]
theorem unt_unique {u v t : Nat -> Bool} (d : Bool) (hst : ∀ i, t i = (u i || (v i && t (i + 1)))) (i : Nat) : t i = untB u v d i \/ ∀ m, i <= m -> u m = false /\ v m = true /\ t m = !d := by
  by_cases hex : ∃ j, i <= j /\ (u j = true \/ v j = false)
  · left
    obtain ⟨j0, h0, h1⟩ := hex; obtain ⟨j, hj, hp, hless⟩ := Tm.least (P := fun j => u j = true \/ v j = false) i j0 h0 h1
    have hmid : ∀ m, i <= m -> m < j -> u m = false /\ v m = true := fun m a b => by
      have := hless m a b
      constructor
      · exact Bool.eq_false_iff.2 fun e => this (.inl e)
      · exact Classical.byContradiction fun e => this (.inr (Bool.eq_false_iff.2 e))
    have h1 := const_from (t := t) (i := i) (j := j) (fun m a b => by have := hmid m a b; rw [hst m, this.1, this.2]; simp) j hj (Nat.le_refl _)
    have h2 := const_from (t := untB u v d) (i := i) (j := j) (fun m a b => by have := hmid m a b; rw [untB_step u v d m, this.1, this.2]; simp) j hj (Nat.le_refl _)
    rw [h1, h2, hst j, untB_step]
    rcases hp with h | h
    · rw [h]; simp
    · rw [h]; simp
  · have hall : ∀ m, i <= m -> u m = false /\ v m = true := fun m hm => by
      constructor
      · exact Bool.eq_false_iff.2 fun e => hex ⟨m, hm, .inl e⟩
      · exact Classical.byContradiction fun e => hex ⟨m, hm, .inr (Bool.eq_false_iff.2 e)⟩
    have hc : ∀ m, i <= m -> t i = t m := fun m hm => const_from (t := t) (i := i) (j := m) (fun k a _ => by have := hall k a; rw [hst k, this.1, this.2]; simp) m hm (Nat.le_refl _)
    by_cases e : t i = d
    · left
      rw [e, unt_stuck (u := u) (v := v) (d := d) hall]
    · right
      intro m hm; refine ⟨(hall m hm).1, (hall m hm).2, ?_⟩
      rw [<- hc m hm]; generalize t i = x at e
      cases d <;> cases x <;> first | rfl | exact absurd rfl e
theorem line_only {T : Tm} (hw : T.Wf) {l : List (Int × Int)} (ho : T.ops = l) (hz : endsCode (l.map Prod.fst) = 0) {ls : List (List Bool)} {s : Nat} (hs : s < ls.length) (t : Nat -> Nat -> Bool)
  (hper : ∀ i p, t (moAt s ls.length i) p = t i p)
  (hmk : ∀ i p, p < l.length -> lookB (l.getD p (0, 0)).1 = false -> (1 <= pn (l.getD p (0, 0)).1 -> t i (p + 1) = (T.sub (p + 1)).hb (sig ls s) i) -> (pn (l.getD p (0, 0)).1 = 2 -> t i (sec l p) = (T.sub (sec l p)).hb (sig ls s) i) -> t i p = (T.sub p).hb (sig ls s) i)
  (hfol : ∀ i p, p < l.length -> lookB (l.getD p (0, 0)).1 = true -> t i p = comeB (l.getD p (0, 0)).1 (t i (p + 1)) (t i (sec l p)) (t (i + 1) p) (t (i + 1) (p + 1)))
  (hmet : ∀ p, p < l.length -> lookB (l.getD p (0, 0)).1 = true -> ∃ i, s <= i /\ i < ls.length /\ waitB (l.getD p (0, 0)).1 (t i p) (t i (p + 1)) (t i (sec l p)) = false) :
  ∀ d p, l.length <= p + d -> p < l.length -> ∀ i, t i p = (T.sub p).hb (sig ls s) i := by
 intro d
 induction d with
 | zero => intro p h1 h2; omega
 | succ d ih =>
  intro p h1 h2 i; obtain ⟨q1, q2⟩ := part_in hz h2
  cases hb : lookB (l.getD p (0, 0)).1 with
  | false => exact hmk i p h2 hb (fun h => ih (p + 1) (by omega) (q1 h) i) (fun h => ih (sec l p) (by have := (q2 h).1; omega) (q2 h).2 i)
  | true =>
   have hnw : ∀ c, (∀ m, c <= m -> waitB (l.getD p (0, 0)).1 (t m p) (t m (p + 1)) (t m (sec l p)) = true) -> False := fun c hall => by
    obtain ⟨i0, a1, a2, a3⟩ := hmet p h2 hb
    have hj : moAt s ls.length (i0 + c * (ls.length - s)) = i0 := by
     unfold moAt
     split
     ·rename_i hlt
      have : c * (ls.length - s) = 0 := by
       rcases Nat.eq_zero_or_pos c with h | h
       ·rw [h, Nat.zero_mul]
       ·have : ls.length - s <= c * (ls.length - s) := Nat.le_mul_of_pos_left _ h
        omega
      omega
     ·rw [show i0 + c * (ls.length - s) - s = (i0 - s) + c * (ls.length - s) by omega, Nat.add_mul_mod_self_right, Nat.mod_eq_of_lt (by omega)]
      omega
    have hle : c <= i0 + c * (ls.length - s) := by
     have : c * 1 <= c * (ls.length - s) := Nat.mul_le_mul_left _ (by omega)
     omega
    have := hall _ hle; rw [<- hper (i0 + c * (ls.length - s)) p, <- hper (i0 + c * (ls.length - s)) (p + 1), <- hper (i0 + c * (ls.length - s)) (sec l p), hj, a3] at this
    cases this
   rcases look_parts hw ho h2 hb with ⟨k, v, a, hk, e1, e2, e3⟩ | ⟨k, v, a, b, hk, e1, e2, e3, e4⟩
   ·have hp1 : p + 1 < l.length := q1 (by rw [e1]; rcases hk with rfl | rfl | rfl <;> decide)
    have ha : ∀ i, t i (p + 1) = Tm.hb (sig ls s) a i := fun i => by rw [ih (p + 1) (by omega) hp1 i, e3]
    have hf := fun i => hfol i p h2 hb
    rw [e1] at hnw; rw [e2]
    rcases hk with rfl | rfl | rfl
    ·have := hf i
     rw [e1] at this; rw [this, Tm.hb_next, <- ha]; rfl
    ·rw [Tm.hb_fin]
     rcases unt_unique (u := Tm.hb (sig ls s) a) (v := fun _ => true) (t := fun i => t i p) false (fun i => by show t i p = _; rw [hf i, e1, ha]; rfl) i with h | h
     ·exact h
     ·exact (hnw i fun m hm => by have := h m hm; rw [ha, this.1, this.2.2]; rfl).elim
    ·rw [Tm.hb_glob]
     rcases unt_unique (u := fun _ => false) (v := Tm.hb (sig ls s) a) (t := fun i => t i p) true (fun i => by show t i p = _; rw [hf i, e1, ha]; simp [comeB]) i with h | h
     ·exact h
     ·exact (hnw i fun m hm => by have := h m hm; rw [ha, this.2.1, this.2.2]; rfl).elim
   ·have hp2 : pn (l.getD p (0, 0)).1 = 2 := by rw [e1]; rcases hk with rfl | rfl <;> rfl
    have hp1 : p + 1 < l.length := q1 (by omega)
    have ha : ∀ i, t i (p + 1) = Tm.hb (sig ls s) a i := fun i => by rw [ih (p + 1) (by omega) hp1 i, e3]
    have hbb : ∀ i, t i (sec l p) = Tm.hb (sig ls s) b i := fun i => by rw [ih (sec l p) (by have := (q2 hp2).1; omega) (q2 hp2).2 i, e4]
    have hf := fun i => hfol i p h2 hb
    rw [e1] at hnw; rw [e2]
    rcases hk with rfl | rfl
    ·rw [Tm.hb_until]
     rcases unt_unique (u := Tm.hb (sig ls s) b) (v := Tm.hb (sig ls s) a) (t := fun i => t i p) false (fun i => by show t i p = _; rw [hf i, e1, ha, hbb]; rfl) i with h | h
     ·exact h
     ·exact (hnw i fun m hm => by have := h m hm; rw [hbb, this.1, this.2.2]; cases t m (p + 1) <;> rfl).elim
    ·rw [Tm.hb_rel]
     rcases unt_unique (u := fun j => Tm.hb (sig ls s) a j && Tm.hb (sig ls s) b j) (v := Tm.hb (sig ls s) b) (t := fun i => t i p) true (fun i => by show t i p = _; rw [hf i, e1, ha, hbb]; show (_ && (_ || _)) = (_ || _); cases Tm.hb (sig ls s) a i <;> cases Tm.hb (sig ls s) b i <;> simp) i with h | h
     ·exact h
     ·exact (hnw i fun m hm => by have := h m hm; rw [hbb, this.2.1, this.2.2]; cases t m (p + 1) <;> rfl).elim
theorem mk_hb {T : Tm} (hw : T.Wf) {l : List (Int × Int)} (ho : T.ops = l) (σ : Nat -> Nat -> Bool) (letter : List Bool) (i : Nat) (hl : ∀ v : Int, 0 <= v -> letter.getD v.toNat false = σ i v.toNat) (hv : ∀ q, q < l.length -> (l.getD q (0, 0)).1 = 13 -> 0 <= (l.getD q (0, 0)).2) (h8 : ∀ q, q < l.length -> 8 <= (l.getD q (0, 0)).1) {p : Nat} (h2 : p < l.length) (hb : lookB (l.getD p (0, 0)).1 = false) {x y : Bool} (hx1 : 1 <= pn (l.getD p (0, 0)).1 -> x = (T.sub (p + 1)).hb σ i) (hx2 : pn (l.getD p (0, 0)).1 = 2 -> y = (T.sub (sec l p)).hb σ i) : mkB (l.getD p (0, 0)) letter x y = (T.sub p).hb σ i := by
 have hsz : T.size = l.length := by rw [<- Tm.ops_length, ho]
 have hq : p < T.size := by omega
 have hop := op_at ho hq; have hwf := Tm.sub_wf hw p; rw [hop] at hb hx1 hx2 ⊢; have hvp := hv p h2; rw [hop] at hvp
 cases hT : T.sub p with
 | leaf k v =>
  rw [hT] at hb hvp hwf; simp only [Tm.kind, Tm.val] at hb hvp ⊢; unfold mkB
  by_cases k13 : k = 13
  ·subst k13
   rw [if_pos rfl, Tm.hb_prop]; exact hl v (hvp rfl)
  ·by_cases k11 : k = 11
   ·subst k11
    rw [Tm.hb_yes]; rfl
   ·rw [Tm.hb_no _ _ _ k13 k11]
    have hpn : pn k = 0 := hwf.2; have k8 : k ≠ 8 := fun e => by rw [e] at hpn; exact absurd hpn (by decide)
    have k9 : k ≠ 9 := fun e => by rw [e] at hpn; exact absurd hpn (by decide)
    have k10 : k ≠ 10 := fun e => by rw [e] at hpn; exact absurd hpn (by decide)
    simp [k13, k11, k8, k9, k10]
 | un k v a =>
  have hs1 := sub_one hq hT; rw [hT] at hb hwf hx1; simp only [Tm.kind, Tm.val] at hb hx1 ⊢; have hpn : pn k = 1 := hwf.2.1; have hok : okK k = true := hwf.1
  have hk : k = 10 := by
   have h14 : ¬ (14 <= k /\ k <= 18) := by simpa [lookB] using hb
   unfold pn at hpn
   split at hpn
   ·omega
   ·split at hpn <;> omega
  subst hk; rw [hx1 (by rw [hpn]; exact Nat.le_refl _), hs1, Tm.hb_not]
  rfl
 | bi k v a b =>
  have hs1 := sub_fst hq hT; have hs2 := sub_snd hw ho hq hT; have h8p := h8 p h2; rw [hop, hT] at h8p; rw [hT] at hb hwf hx1 hx2; simp only [Tm.kind, Tm.val] at hb hx1 hx2 ⊢; have hpn : pn k = 2 := hwf.2.1; rw [hx1 (by omega), hx2 hpn, hs1, hs2]
  simp only [Tm.kind] at h8p
  have hk : k = 8 \/ k = 9 := by
   have h14 : ¬ (14 <= k /\ k <= 18) := by simpa [lookB] using hb
   unfold pn at hpn
   split at hpn
   ·omega
   ·split at hpn <;> omega
  rcases hk with rfl | rfl
  ·rw [Tm.hb_and]; rfl
  ·rw [Tm.hb_or]; rfl
theorem bits_eq : ∀ (n : Nat) (x y : Int), 0 <= x -> x < 2 ^ n -> 0 <= y -> y < 2 ^ n -> (∀ k, k < n -> bitB x k = bitB y k) -> x = y := by
 intro n
 induction n with
 | zero => intro x y a b c d _; simp at b d; omega
 | succ n ih =>
  intro x y a b c d h; rw [Int.pow_succ] at b d; have h0 : bitB x 0 = bitB y 0 := h 0 (by omega)
  have e0 : x % 2 = y % 2 := by
   unfold bitB at h0; simp only [Int.pow_zero, Int.ediv_one] at h0; have hx : x % 2 = 0 \/ x % 2 = 1 := by omega
   have hy : y % 2 = 0 \/ y % 2 = 1 := by omega
   rcases hx with hx | hx <;> rcases hy with hy | hy
   ·rw [hx, hy]
   ·rw [hx, hy] at h0; simp at h0
   ·rw [hx, hy] at h0; simp at h0
   ·rw [hx, hy]
  have hh : x / 2 = y / 2 := ih (x / 2) (y / 2) (by omega) (by omega) (by omega) (by omega) fun k hk => by
   have := h (k + 1) (by omega)
   unfold bitB at this ⊢; rw [Int.pow_succ, Int.mul_comm, <- Int.ediv_ediv_of_nonneg (by decide), <- Int.ediv_ediv_of_nonneg (by decide)] at this
   exact this
  omega
theorem claims_only {T : Tm} (hw : T.Wf) {l : List (Int × Int)} (ho : T.ops = l) (hz : endsCode (l.map Prod.fst) = 0) (hv : ∀ q, q < l.length -> (l.getD q (0, 0)).1 = 13 -> 0 <= (l.getD q (0, 0)).2) (h8 : ∀ q, q < l.length -> 8 <= (l.getD q (0, 0)).1) {ls : List (List Bool)} {s : Nat} (hs : s < ls.length) (mine : Nat -> Int)
  (hm : ∀ i, i < ls.length -> 0 <= mine i /\ mine i < 2 ^ (aheadL l).length)
  (hfol : ∀ i, i < ls.length -> ∀ p, p < l.length -> lookB (l.getD p (0, 0)).1 = true -> tru l (ls.getD i []) (mine i) p = comeB (l.getD p (0, 0)).1 (tru l (ls.getD i []) (mine i) (p + 1)) (tru l (ls.getD i []) (mine i) (sec l p)) (tru l (ls.getD (moAt s ls.length (i + 1)) []) (mine (moAt s ls.length (i + 1))) p) (tru l (ls.getD (moAt s ls.length (i + 1)) []) (mine (moAt s ls.length (i + 1))) (p + 1)))
  (hmet : ∀ p, p < l.length -> lookB (l.getD p (0, 0)).1 = true -> ∃ i, s <= i /\ i < ls.length /\ waitB (l.getD p (0, 0)).1 (tru l (ls.getD i []) (mine i) p) (tru l (ls.getD i []) (mine i) (p + 1)) (tru l (ls.getD i []) (mine i) (sec l p)) = false) :
  ∀ i, i < ls.length -> mine i = clmTo (aheadL l) (fun q => (T.sub q).hb (sig ls s)) i (aheadL l).length := by
 have hmm : ∀ i, moAt s ls.length (moAt s ls.length i) = moAt s ls.length i := fun i => moAt_low (moAt_lt hs)
 have key := line_only hw ho hz hs (fun i p => tru l (ls.getD (moAt s ls.length i) []) (mine (moAt s ls.length i)) p)
  (fun i p => by simp only [hmm])
  (fun i p h2 hb hx1 hx2 => by
   obtain ⟨_, q2⟩ := part_in hz h2
   show tru _ _ _ _ = _
   rw [tru_mk h2 hb (fun h => (q2 h).1)]
   exact mk_hb hw ho (sig ls s) _ i (fun v _ => rfl) hv h8 h2 hb hx1 hx2)
  (fun i p h2 hb => by
   have := hfol (moAt s ls.length i) (moAt_lt hs) p h2 hb
   have e : moAt s ls.length (moAt s ls.length i + 1) = moAt s ls.length (i + 1) := by
    unfold moAt
    by_cases h : i < ls.length
    ·rw [if_pos h]
    ·rw [if_neg h, if_neg (show ¬ i + 1 < ls.length by omega)]
     have hL : 0 < ls.length - s := by omega
     have hr := Nat.mod_lt (i - s) hL; have e1 : i + 1 - s = (i - s) + 1 := by omega
     rw [e1, <- Nat.mod_add_mod]
     by_cases h3 : s + (i - s) % (ls.length - s) + 1 < ls.length
     ·rw [if_pos h3, Nat.mod_eq_of_lt (show (i - s) % (ls.length - s) + 1 < ls.length - s by omega)]; omega
     ·rw [if_neg h3, show s + (i - s) % (ls.length - s) + 1 - s = (i - s) % (ls.length - s) + 1 by omega]
   rw [e] at this
   exact this)
  (fun p h2 hb => by
   obtain ⟨i, a1, a2, a3⟩ := hmet p h2 hb
   exact ⟨i, a1, a2, by simp only [moAt_low a2]; exact a3⟩)
 intro i hi; obtain ⟨c0, c1⟩ := clmTo_bounds (aheadL l) (fun q => (T.sub q).hb (sig ls s)) i (aheadL l).length
 refine bits_eq _ _ _ (hm i hi).1 (hm i hi).2 c0 c1 fun k hk => ?_
 rw [bit_clm _ _ _ _ _ hk]; obtain ⟨p, e1, e2, e3, e4⟩ := aheadTo_get l l.length k hk; have e1' : (aheadL l).getD k 0 = (p : Int) := e1; have := key l.length p (by omega) e2 i
 simp only [moAt_low hi] at this; rw [tru_look e2 e3, e4] at this; rw [this, e1']; rfl
theorem claims_tru {T : Tm} (hw : T.Wf) {l : List (Int × Int)} (ho : T.ops = l) (hz : endsCode (l.map Prod.fst) = 0) (hv : ∀ q, q < l.length -> (l.getD q (0, 0)).1 = 13 -> 0 <= (l.getD q (0, 0)).2) (h8 : ∀ q, q < l.length -> 8 <= (l.getD q (0, 0)).1) {ls : List (List Bool)} {s : Nat} {i : Nat} (hi : i < ls.length) {p : Nat} (hp : p < l.length) :
  tru l (ls.getD i []) (clmTo (aheadL l) (fun q => (T.sub q).hb (sig ls s)) i (aheadL l).length) p = (T.sub p).hb (sig ls s) i :=
 line_tru hw ho hz (sig ls s) _ i (fun v _ => by unfold sig; rw [moAt_low hi]) hv h8 l.length p (by omega) hp
theorem claims_fit {T : Tm} (hw : T.Wf) {l : List (Int × Int)} (ho : T.ops = l) (hz : endsCode (l.map Prod.fst) = 0) (hv : ∀ q, q < l.length -> (l.getD q (0, 0)).1 = 13 -> 0 <= (l.getD q (0, 0)).2) (h8 : ∀ q, q < l.length -> 8 <= (l.getD q (0, 0)).1) {ls : List (List Bool)} {s : Nat} (hs : s < ls.length) (mine : Nat -> Int)
  (hm : ∀ i, i < ls.length -> mine i = clmTo (aheadL l) (fun q => (T.sub q).hb (sig ls s)) i (aheadL l).length) :
  (∀ i, i < ls.length -> ∀ p, p < l.length -> lookB (l.getD p (0, 0)).1 = true -> tru l (ls.getD i []) (mine i) p = comeB (l.getD p (0, 0)).1 (tru l (ls.getD i []) (mine i) (p + 1)) (tru l (ls.getD i []) (mine i) (sec l p)) (tru l (ls.getD (moAt s ls.length (i + 1)) []) (mine (moAt s ls.length (i + 1))) p) (tru l (ls.getD (moAt s ls.length (i + 1)) []) (mine (moAt s ls.length (i + 1))) (p + 1))) /\
  ∀ p, p < l.length -> lookB (l.getD p (0, 0)).1 = true -> ∃ i, s <= i /\ i < ls.length /\ waitB (l.getD p (0, 0)).1 (tru l (ls.getD i []) (mine i) p) (tru l (ls.getD i []) (mine i) (p + 1)) (tru l (ls.getD i []) (mine i) (sec l p)) = false := by
 have two : ∀ p, p < l.length -> lookB (l.getD p (0, 0)).1 = true -> p + 1 < l.length /\ ((l.getD p (0, 0)).1 = 15 \/ (l.getD p (0, 0)).1 = 16 -> sec l p < l.length) := fun p hp hb => by
  obtain ⟨q1, q2⟩ := part_in hz hp; have hk := kind_cases hb; generalize (l.getD p (0, 0)).1 = k at *; refine ⟨q1 (by rcases hk with rfl | rfl | rfl | rfl | rfl <;> decide), fun h => (q2 (by rcases h with rfl | rfl <;> rfl)).2⟩
 have sec_free : ∀ k (x y y' z nx : Bool), lookB k = true -> (k = 15 \/ k = 16 -> y = y') -> comeB k x y z nx = comeB k x y' z nx := fun k x y y' z nx hb h => by
  rcases kind_cases hb with rfl | rfl | rfl | rfl | rfl
  ·rfl
  ·rw [h (.inl rfl)]
  ·rw [h (.inr rfl)]
  ·rfl
  ·rfl
 have sec_free2 : ∀ k (a x y y' : Bool), lookB k = true -> (k = 15 \/ k = 16 -> y = y') -> waitB k a x y = waitB k a x y' := fun k a x y y' hb h => by
  rcases kind_cases hb with rfl | rfl | rfl | rfl | rfl
  ·rfl
  ·rw [h (.inl rfl)]
  ·rw [h (.inr rfl)]
  ·rfl
  ·rfl
 refine ⟨fun i hi p hp hb => ?_, fun p hp hb => ?_⟩
 ·obtain ⟨p1, p2⟩ := two p hp hb
  have hj := moAt_lt (s := s) (n := ls.length) (i := i + 1) hs; rw [hm i hi, hm _ hj, claims_tru hw ho hz hv h8 hi hp, claims_tru hw ho hz hv h8 hi p1, claims_tru hw ho hz hv h8 hj hp, claims_tru hw ho hz hv h8 hj p1, hb_mo hs, hb_mo hs]; rw [sec_free _ _ _ ((T.sub (sec l p)).hb (sig ls s) i) _ _ hb (fun h => claims_tru hw ho hz hv h8 hi (p2 h))]
  exact line_come hw ho (sig ls s) hp hb i
 ·obtain ⟨p1, p2⟩ := two p hp hb
  obtain ⟨i, a1, a2, a3⟩ := line_meets hw ho hs hp hb; refine ⟨i, a1, a2, ?_⟩
  rw [hm i a2, claims_tru hw ho hz hv h8 a2 hp, claims_tru hw ho hz hv h8 a2 p1, sec_free2 _ _ _ _ ((T.sub (sec l p)).hb (sig ls s) i) hb (fun h => claims_tru hw ho hz hv h8 a2 (p2 h))]
  exact a3
end Go.Proofs.YteejnjcdfmedlaaGreatDoor
namespace Go.Proofs.YteejnjcdfmedlaaGreatDoor
open Go.ChangeShapes Go.WideShapes Go.ChangeAt Go.RowKit Go.Deep
open Terms
set_option maxHeartbeats 6400000
set_option maxRecDepth 20000
theorem met_clm (l : List (Int × Int)) (h : Nat -> Bool) : ∀ k, metTo l h k = clmTo (aheadL l) (fun q _ => !waitAt l h q) 0 k := by
 intro k
 induction k with
 | zero => simp [metTo, clmTo]
 | succ k ih =>
  simp only [metTo, clmTo, ih]
  by_cases hw : waitAt l h ((aheadL l).getD k 0).toNat = true
  ·rw [if_pos hw, if_neg (by rw [hw]; decide)]
  ·rw [if_neg hw, if_pos (by rw [Bool.not_eq_true'] ; exact Bool.eq_false_iff.2 hw)]
theorem met_bit (l : List (Int × Int)) (h : Nat -> Bool) {n j : Nat} (hj : j < n) : bitB (metTo l h n) j = !waitAt l h ((aheadL l).getD j 0).toNat := by
 rw [met_clm, bit_clm _ _ _ _ _ hj]
theorem good_at {m : Nat} {x : List (Int × Int)} {T : Tm} (hF : FOk m x T) {q : Nat} (hq : q < x.length) : lopErr 3 (x.getD q (0, 0)) = 0 := hF.good _ (by rw [List.getD_eq_getElem?_getD, List.getElem?_eq_getElem hq, Option.getD_some]; exact List.getElem_mem hq)
theorem good_vals {m : Nat} {x : List (Int × Int)} {T : Tm} (hF : FOk m x T) : (∀ q, q < x.length -> (x.getD q (0, 0)).1 = 13 -> 0 <= (x.getD q (0, 0)).2) /\ ∀ q, q < x.length -> 8 <= (x.getD q (0, 0)).1 := by
 refine ⟨fun q hq h13 => ?_, fun q hq => ?_⟩
 ·have := good_at hF hq
  generalize x.getD q (0, 0) = o at *; unfold lopErr at this; obtain ⟨k, v⟩ := o; simp only at h13
  subst h13; simp at this ⊢
  omega
 ·have := good_at hF hq
  generalize x.getD q (0, 0) = o at *; unfold lopErr at this; obtain ⟨k, v⟩ := o; simp only at this ⊢
  by_cases h : k < 8
  ·exfalso
   revert this
   simp
   omega
  ·omega
theorem ahead_mono (l : List (Int × Int)) : ∀ (d n : Nat), ∃ r, aheadTo l (n + d) = aheadTo l n ++ r := by
 intro d
 induction d with
 | zero => intro n; exact ⟨[], by simp⟩
 | succ d ih =>
  intro n; obtain ⟨r, h⟩ := ih n; rw [show n + (d + 1) = (n + d) + 1 by omega]
  simp only [aheadTo]
  split
  ·exact ⟨r ++ [((n + d : Nat) : Int)], by rw [h, List.append_assoc]⟩
  ·exact ⟨r, by rw [List.append_nil]; exact h⟩
theorem ahead_at {l : List (Int × Int)} {p : Nat} (hp : p < l.length) (hb : lookB (l.getD p (0, 0)).1 = true) : (aheadTo l p).length < (aheadL l).length /\ (aheadL l).getD (aheadTo l p).length 0 = (p : Int) := by
 obtain ⟨r, h⟩ := ahead_mono l (l.length - (p + 1)) (p + 1); rw [show p + 1 + (l.length - (p + 1)) = l.length by omega] at h
 have h1 : aheadTo l (p + 1) = aheadTo l p ++ [(p : Int)] := by simp only [aheadTo]; rw [if_pos hb]
 unfold aheadL; rw [h, h1]; refine ⟨by simp, ?_⟩
 simp [List.getD_eq_getElem?_getD]
end Go.Proofs.YteejnjcdfmedlaaGreatDoor
namespace Go.Proofs.YteejnjcdfmedlaaGreatDoor
open Go.ChangeShapes Go.WideShapes Go.ChangeAt Go.RowKit Go.Deep
open Terms Tm
set_option maxHeartbeats 6400000
set_option maxRecDepth 20000
structure PRun (m : Mo) (path : List Int) (s : Nat) : Prop where
 lt : s < path.length
 first : path.getD 0 0 = begC m
 step : ∀ i, i < path.length -> path.getD (moAt s path.length (i + 1)) 0 ∈ nextL m (path.getD i 0)
structure PWay (m : Mo) (ps : List (List (Int × Int))) (l : List (Int × Int)) (K : Nat) (x : List Nat) (s : Nat) : Prop where
 lt : s < x.length
 all : ∀ i, i < x.length -> x.getD i 0 < K
 first : x.getD 0 0 < (begL m ps l).length
 step : ∀ i, i < x.length -> x.getD (moAt s x.length (i + 1)) 0 ∈ nxt (exGr m ps l K) (x.getD i 0)
 met : ∀ k, k < (aheadL l).length -> ∃ i, s <= i /\ i < x.length /\ bitB ((xpT m ps l K).getD (x.getD i 0) 0) k = true
section
variable {m : Mo} {ps : List (List (Int × Int))} {l : List (Int × Int)} {K : Nat}
noncomputable def spA (m : Mo) (ps : List (List (Int × Int))) (l : List (Int × Int)) (K i : Nat) : Int × Int := (xpP m ps l K).getD i (0, 0)
theorem spA_mem (h : ExDone m ps l K) {i : Nat} (hi : i < K) : spA m ps l K i ∈ xpP m ps l K := by
 have hl : i < (xpP m ps l K).length := by rw [h.1]; exact hi
 unfold spA; rw [List.getD_eq_getElem?_getD, List.getElem?_eq_getElem hl]
 exact List.getElem_mem _
theorem spA_ok (h : ExDone m ps l K) {i : Nat} (hi : i < K) : spOk m l (spA m ps l K i) := h.2.2.2 _ (spA_mem h hi)
theorem spA_idx {s : Int × Int} (hs : s ∈ xpP m ps l K) : spA m ps l K ((xpP m ps l K).idxOf s) = s := by
 have hi := List.idxOf_lt_length_of_mem hs; unfold spA; rw [List.getD_eq_getElem?_getD, List.getElem?_eq_getElem hi]
 exact List.getElem_idxOf hi
theorem nxt_beh (h : ExDone m ps l K) {i j : Nat} (hi : i < K) (hj : j ∈ nxt (exGr m ps l K) i) : spA m ps l K j ∈ xpBh m ps l (spA m ps l K i) := by
 obtain ⟨r1, r2⟩ := xpN_row h hi; unfold nxt at hj; obtain ⟨z, hz, rfl⟩ := List.mem_map.1 hj; have hz' : z ∈ (xpN m ps l K).getD i [] := hz; obtain ⟨q, hq, e⟩ := List.getElem_of_mem hz'; have hq' : q < (xpBh m ps l ((xpP m ps l K).getD i (0, 0))).length := by rw [<- r1]; exact hq
 obtain ⟨r3, r4⟩ := r2 q hq'
 have e2 : ((xpN m ps l K).getD i []).getD q 0 = z := by
  generalize (xpN m ps l K).getD i [] = row at *; rw [List.getD_eq_getElem?_getD, List.getElem?_eq_getElem hq]
  exact e
 rw [<- e2, r3, Int.toNat_natCast, spA_idx r4]; rw [List.getD_eq_getElem?_getD (l := xpBh m ps l ((xpP m ps l K).getD i (0, 0))), List.getElem?_eq_getElem hq']
 exact List.getElem_mem _
theorem foTo_in {x : List Bool} {c : Int} {y : List Bool} {st : Int} {d : Nat} (hf : folR l x c y (d : Int) = true) : ∀ k, d < k -> (st, (d : Int)) ∈ foTo l x c y st k
 | 0, h => by omega
 | k + 1, h => by
  rw [foTo]
  by_cases e : d = k
  ·subst e
   rw [if_pos hf]; exact List.mem_append_right _ (List.mem_singleton.2 rfl)
  ·have := foTo_in hf (st := st) k (by omega)
   split
   ·exact List.mem_append_left _ this
   ·exact this
theorem beh_in {code c y : Int} {d : Nat} (hy : y ∈ nextL m code) (hd : d < 2 ^ (aheadL l).length) (hf : folR l (letL m ps code) c (letL m ps y) (d : Int) = true) : (y, (d : Int)) ∈ behL m ps l code c := by
 obtain ⟨q, hq, rfl⟩ := List.getElem_of_mem hy; have hg : (nextL m code).getD q 0 = (nextL m code)[q] := by rw [List.getD_eq_getElem?_getD, List.getElem?_eq_getElem hq]; rfl
 have key : ∀ i, q < i -> i <= (nextL m code).length -> ((nextL m code)[q], (d : Int)) ∈ behTo m ps l code c i := fun i => by
  induction i with
  | zero => intro h; omega
  | succ i ih =>
   intro h1 h2; rw [behTo, List.mem_append]
   by_cases e : q = i
   ·subst e
    refine .inr ?_
    rw [hg]; exact foTo_in hf _ hd
   ·exact .inl (ih (by omega) (by omega))
 exact key _ hq (Nat.le_refl _)
theorem beg_in {d : Nat} (hd : d < 2 ^ (aheadL l).length) (hf : tru l (letL m ps (begC m)) (d : Int) 0 ≠ true) : (begC m, (d : Int)) ∈ begL m ps l := by
 have key : ∀ k, d < k -> (begC m, (d : Int)) ∈ begTo m ps l k := fun k => by
  induction k with
  | zero => intro h; omega
  | succ k ih =>
   intro h; rw [begTo]
   by_cases e : d = k
   ·subst e
    rw [if_neg hf]; exact List.mem_append_right _ (List.mem_singleton.2 rfl)
   ·have := ih (by omega)
    split
    ·exact this
    ·exact List.mem_append_left _ this
 exact key _ hd
theorem tk_fol (hk : tkcode m ps l = 0) {x y : Int} {c d : Nat} (hx : 0 <= x /\ x < prodTo m.vars m.vars.length) (hy : 0 <= y /\ y < prodTo m.vars m.vars.length) (hc : c < 2 ^ (aheadL l).length) (hd : d < 2 ^ (aheadL l).length) : fcode l (letL m ps x) (c : Int) (letL m ps y) (d : Int) = 0 := by
 unfold fcode; rw [if_neg (by rw [(tk_let hk hx).2, (tk_let hk hy).2]; simp), if_neg (by rw [(tk_tru hk hx hc).1]; simp)]
 exact (tk_tru hk hy hd).1
end
section
variable {m : Mo} {ps : List (List (Int × Int))} {l : List (Int × Int)} {K : Nat}
theorem beg_len0 : (begL m ps l).length <= (xpP m ps l 0).length := by
 show _ <= (plTo [] (begL m ps l)).length
 have hsub : begL m ps l ⊆ plTo [] (begL m ps l) := fun x hx => (plTo_iff _ _ _).2 (.inr hx)
 exact (xbeg_nodup m ps l).length_le_of_subset hsub
theorem spA_beg {i : Nat} (hi : i < (begL m ps l).length) : spA m ps l K i ∈ begL m ps l := by
 have h0 : i < (xpP m ps l 0).length := Nat.lt_of_lt_of_le hi beg_len0; have e : spA m ps l K i = (xpP m ps l 0).getD i (0, 0) := exS_at (begL m ps l) (xpBh m ps l) (Nat.zero_le K) h0; rw [e]
 have hm : (xpP m ps l 0).getD i (0, 0) ∈ xpP m ps l 0 := by
  rw [List.getD_eq_getElem?_getD, List.getElem?_eq_getElem h0]
  exact List.getElem_mem _
 rcases (plTo_iff _ _ _).1 hm with h | h
 ·exact absurd h List.not_mem_nil
 ·exact h
theorem idx_beg {s : Int × Int} (hs : s ∈ begL m ps l) : (xpP m ps l K).idxOf s < (begL m ps l).length /\ s ∈ xpP m ps l K := by
 have h0 : s ∈ xpP m ps l 0 := (plTo_iff _ _ _).2 (.inr hs); have hpre : xpP m ps l 0 <+: xpP m ps l K := exS_le _ _ (Nat.zero_le K); refine ⟨?_, hpre.subset h0⟩
 rw [idx_pre hpre h0]; have h1 := List.idxOf_lt_length_of_mem h0
 have h2 : (xpP m ps l 0).length <= (begL m ps l).length := by
  have := (plTo_length (begL m ps l) []).2
  show (plTo [] (begL m ps l)).length <= _
  simpa using this
 omega
theorem getD_map {α β : Type} (f : α -> β) (x : List α) (d : α) (e : β) {i : Nat} (hi : i < x.length) : (x.map f).getD i e = f (x.getD i d) := by
 simp [List.getD_eq_getElem?_getD, hi]
theorem sub_zero (T : Tm) : T.sub 0 = T := by cases T <;> rfl
theorem way_run {T : Tm} (hw : T.Wf) (ho : T.ops = l) (hz : endsCode (l.map Prod.fst) = 0) (hv : ∀ q, q < l.length -> (l.getD q (0, 0)).1 = 13 -> 0 <= (l.getD q (0, 0)).2) (h8 : ∀ q, q < l.length -> 8 <= (l.getD q (0, 0)).1) (hk : tkcode m ps l = 0) (h : ExDone m ps l K) {x : List Nat} {s : Nat} (hx : PWay m ps l K x s) :
  PRun m (x.map fun i => (spA m ps l K i).1) s /\ T.hb (sig ((x.map fun i => (spA m ps l K i).1).map (letL m ps)) s) 0 = false := by
 have hn : (x.map fun i => (spA m ps l K i).1).length = x.length := List.length_map _
 have hln : ((x.map fun i => (spA m ps l K i).1).map (letL m ps)).length = x.length := by simp
 have hp : ∀ i, i < x.length -> (x.map fun i => (spA m ps l K i).1).getD i 0 = (spA m ps l K (x.getD i 0)).1 := fun i hi => getD_map _ x 0 0 hi
 have hls : ∀ i, i < x.length -> ((x.map fun i => (spA m ps l K i).1).map (letL m ps)).getD i [] = letL m ps (spA m ps l K (x.getD i 0)).1 := fun i hi => by rw [getD_map _ _ 0 [] (by rw [hn]; exact hi), hp i hi]
 have hmo : ∀ i, moAt s x.length i < x.length := fun i => moAt_lt hx.lt
 have hbh : ∀ i, i < x.length -> spA m ps l K (x.getD (moAt s x.length (i + 1)) 0) ∈ xpBh m ps l (spA m ps l K (x.getD i 0)) := fun i hi => nxt_beh h (hx.all i hi) (hx.step i hi)
 have h0 : 0 < x.length := Nat.lt_of_le_of_lt (Nat.zero_le _) hx.lt; obtain ⟨b1, d0, b2, b3, b4⟩ := xbg_mem _ (spA_beg (K := K) hx.first); refine ⟨⟨by rw [hn]; exact hx.lt, by rw [hp 0 h0]; exact b1, fun i hi => ?_⟩, ?_⟩
 ·rw [hn] at hi ⊢
  rw [hp i hi, hp _ (hmo _)]; exact (xbe_mem _ (Nat.le_refl _) (hbh i hi)).1
 ·have hcl := claims_only hw ho hz hv h8 (ls := (x.map fun i => (spA m ps l K i).1).map (letL m ps)) (s := s) (by rw [hln]; exact hx.lt) (fun i => (spA m ps l K (x.getD i 0)).2) (fun i hi => ?_) (fun i hi p hp1 hb => ?_) (fun p hp1 hb => ?_)
  ·have hc0 := hcl 0 (by rw [hln]; exact h0)
   have htr := claims_tru hw ho hz hv h8 (ls := (x.map fun i => (spA m ps l K i).1).map (letL m ps)) (s := s) (i := 0) (by rw [hln]; exact h0) (p := 0) (tk_ne hk)
   rw [<- hc0, hls 0 h0, sub_zero, b1, b3] at htr; rw [<- htr]
   cases hb : tru l (letL m ps (begC m)) (d0 : Int) 0 with
   | false => rfl
   | true => exact absurd hb b4
  ·rw [hln] at hi
   obtain ⟨_, d, g1, g2⟩ := spA_ok h (hx.all i hi); rw [g2]; have : ((2 ^ (aheadL l).length : Nat) : Int) = (2 : Int) ^ (aheadL l).length := by push_cast; rfl
   rw [<- this]; omega
  ·rw [hln] at hi ⊢
   obtain ⟨_, d, _, e2, e3⟩ := xbe_mem _ (Nat.le_refl _) (hbh i hi); rw [<- e2] at e3; rw [hls i hi, hls _ (hmo _)]
   have hF : Fol l (tru l (letL m ps (spA m ps l K (x.getD i 0)).1) (spA m ps l K (x.getD i 0)).2) (tru l (letL m ps (spA m ps l K (x.getD (moAt s x.length (i + 1)) 0)).1) (spA m ps l K (x.getD (moAt s x.length (i + 1)) 0)).2) := by
    by_cases hno : Fol l (tru l (letL m ps (spA m ps l K (x.getD i 0)).1) (spA m ps l K (x.getD i 0)).2) (tru l (letL m ps (spA m ps l K (x.getD (moAt s x.length (i + 1)) 0)).1) (spA m ps l K (x.getD (moAt s x.length (i + 1)) 0)).2)
    ·exact hno
    ·rw [folR_no hno] at e3; cases e3
   exact hF p hp1 hb
  ·obtain ⟨k1, k2⟩ := ahead_at hp1 hb
   obtain ⟨i, i1, i2, i3⟩ := hx.met _ k1; refine ⟨i, i1, by rw [hln]; exact i2, ?_⟩
   rw [hls i i2]; obtain ⟨g0, d, g1, g2⟩ := spA_ok h (hx.all i i2); rw [xpT_get (hx.all i i2), xpAt_eq h (hx.all i i2)] at i3; have i4 : bitB (metN l (letL m ps (spA m ps l K (x.getD i 0)).1) (spA m ps l K (x.getD i 0)).2) (aheadTo l p).length = true := i3; rw [g2] at i4 ⊢; unfold metN at i4; rw [if_pos (tk_tru hk g0 g1).1, met_bit _ _ k1, k2] at i4; unfold waitAt at i4
   simp only [Int.toNat_natCast] at i4; simpa using i4
theorem run_way {T : Tm} (hw : T.Wf) (ho : T.ops = l) (hz : endsCode (l.map Prod.fst) = 0) (hv : ∀ q, q < l.length -> (l.getD q (0, 0)).1 = 13 -> 0 <= (l.getD q (0, 0)).2) (h8 : ∀ q, q < l.length -> 8 <= (l.getD q (0, 0)).1) (hk : tkcode m ps l = 0) (h : ExDone m ps l K) {path : List Int} {s : Nat} (hr : PRun m path s) (hno : T.hb (sig (path.map (letL m ps)) s) 0 = false) :
  ∃ x : List Nat, x.length = path.length /\ PWay m ps l K x s := by
 obtain ⟨hm0, _⟩ := pcode_m (tk_zero hk).1; have hln : (path.map (letL m ps)).length = path.length := List.length_map _; have hls : ∀ i, i < path.length -> (path.map (letL m ps)).getD i [] = letL m ps (path.getD i 0) := fun i hi => getD_map _ _ 0 [] hi
 have h0 : 0 < path.length := Nat.lt_of_le_of_lt (Nat.zero_le _) hr.lt; have hmo : ∀ i, moAt s path.length i < path.length := fun i => moAt_lt hr.lt
 obtain ⟨mine, hmine⟩ : ∃ mine : Nat -> Int, mine = fun i => clmTo (aheadL l) (fun q => (T.sub q).hb (sig (path.map (letL m ps)) s)) i (aheadL l).length := ⟨_, rfl⟩
 obtain ⟨f1, f2⟩ := claims_fit hw ho hz hv h8 (ls := path.map (letL m ps)) (s := s) (by rw [hln]; exact hr.lt) mine (fun i _ => by rw [hmine])
 rw [hln] at f1 f2; have hpw : ((2 ^ (aheadL l).length : Nat) : Int) = (2 : Int) ^ (aheadL l).length := by push_cast; rfl
 have hmd : ∀ i, ∃ d : Nat, d < 2 ^ (aheadL l).length /\ mine i = (d : Int) := fun i => by
  obtain ⟨c0, c1⟩ := clmTo_bounds (aheadL l) (fun q => (T.sub q).hb (sig (path.map (letL m ps)) s)) i (aheadL l).length
  have e : mine i = clmTo (aheadL l) (fun q => (T.sub q).hb (sig (path.map (letL m ps)) s)) i (aheadL l).length := by rw [hmine]
  rw [<- e] at c0 c1; exact ⟨(mine i).toNat, by rw [<- hpw] at c1; omega, by omega⟩
 have hst : ∀ i, i < path.length -> 0 <= path.getD i 0 /\ path.getD i 0 < prodTo m.vars m.vars.length := fun i => by
  induction i with
  | zero => intro _; rw [hr.first]; exact tk_beg hk
  | succ i ih =>
   intro hi; have h1 := hr.step i (by omega)
   rw [moAt_low hi] at h1; exact nextL_st hm0 (ih (by omega)) h1
 have hbh : ∀ i, i < path.length -> (path.getD (moAt s path.length (i + 1)) 0, mine (moAt s path.length (i + 1))) ∈ xpBh m ps l (path.getD i 0, mine i) := fun i hi => by
  obtain ⟨c, c1, c2⟩ := hmd i; obtain ⟨d, d1, d2⟩ := hmd (moAt s path.length (i + 1)); rw [d2]; refine beh_in (hr.step i hi) d1 ?_
  show folR l (letL m ps (path.getD i 0)) (mine i) (letL m ps (path.getD (moAt s path.length (i + 1)) 0)) (d : Int) = true
  rw [<- d2]; refine folR_yes ?_ ?_
  ·rw [c2, d2]
   exact tk_fol hk (hst i hi) (hst _ (hmo _)) c1 d1
  ·intro p hp hb
   have := f1 i hi p hp hb; rw [hls i hi, hls _ (hmo _)] at this; exact this
 have hbeg : (path.getD 0 0, mine 0) ∈ begL m ps l := by
  obtain ⟨d, d1, d2⟩ := hmd 0; rw [hr.first, d2]; refine beg_in d1 ?_
  have htr := claims_tru hw ho hz hv h8 (ls := path.map (letL m ps)) (s := s) (i := 0) (by rw [hln]; exact h0) (p := 0) (tk_ne hk)
  have e : mine 0 = clmTo (aheadL l) (fun q => (T.sub q).hb (sig (path.map (letL m ps)) s)) 0 (aheadL l).length := by rw [hmine]
  rw [<- e, hls 0 h0, sub_zero, hno, hr.first, d2] at htr; rw [htr]
  simp
 have hmem : ∀ i, i < path.length -> (path.getD i 0, mine i) ∈ xpP m ps l K := fun i => by
  induction i with
  | zero => intro _; exact (idx_beg hbeg).2
  | succ i ih =>
   intro hi; have h1 := hbh i (by omega)
   rw [moAt_low hi] at h1; exact (exGr_step h (ih (by omega)) h1).1
 have hxl : ((List.range path.length).map fun i => (xpP m ps l K).idxOf (path.getD i 0, mine i)).length = path.length := by simp
 have hx : ∀ i, i < path.length -> ((List.range path.length).map fun i => (xpP m ps l K).idxOf (path.getD i 0, mine i)).getD i 0 = (xpP m ps l K).idxOf (path.getD i 0, mine i) := fun i hi => by simp [List.getD_eq_getElem?_getD, hi]
 refine ⟨(List.range path.length).map fun i => (xpP m ps l K).idxOf (path.getD i 0, mine i), hxl, ⟨by rw [hxl]; exact hr.lt, fun i hi => ?_, ?_, fun i hi => ?_, fun k hkk => ?_⟩⟩
 ·rw [hxl] at hi
  rw [hx i hi]; have := List.idxOf_lt_length_of_mem (hmem i hi); rw [h.1] at this; exact this
 ·rw [hx 0 h0]
  exact (idx_beg hbeg).1
 ·rw [hxl] at hi ⊢
  rw [hx i hi, hx _ (hmo _)]; exact (exGr_step h (hmem i hi) (hbh i hi)).2
 ·obtain ⟨p, e1, e2, e3, e4⟩ := aheadTo_get l l.length k hkk
  have e1' : (aheadL l).getD k 0 = (p : Int) := e1; obtain ⟨i, i1, i2, i3⟩ := f2 p e2 e3; refine ⟨i, i1, by rw [hxl]; exact i2, ?_⟩
  have hiK : (xpP m ps l K).idxOf (path.getD i 0, mine i) < K := by
   have := List.idxOf_lt_length_of_mem (hmem i i2); rw [h.1] at this; exact this
  have hsp : spA m ps l K ((xpP m ps l K).idxOf (path.getD i 0, mine i)) = (path.getD i 0, mine i) := spA_idx (hmem i i2); have hsp' : (xpP m ps l K).getD ((xpP m ps l K).idxOf (path.getD i 0, mine i)) (0, 0) = (path.getD i 0, mine i) := hsp; rw [hx i i2, xpT_get hiK, xpAt_eq h hiK, hsp']; simp only
  obtain ⟨d, d1, d2⟩ := hmd i; rw [hls i i2] at i3; unfold metN; rw [d2] at i3 ⊢; rw [if_pos (tk_tru hk (hst i i2) d1).1, met_bit _ _ hkk, e1']; unfold waitAt; simp only [Int.toNat_natCast]; rw [i3]; rfl
end
theorem bitB_nat (n i : Nat) : bitB (n : Int) i = n.testBit i := by
 unfold bitB; rw [Nat.testBit_eq_decide_div_mod_eq]; have e : ((n / 2 ^ i % 2 : Nat) : Int) = (n : Int) / 2 ^ i % 2 := by push_cast; rfl
 rw [<- e]
 apply decide_eq_decide.2
 omega
theorem Trail.at {nx : Nat -> List Nat} : ∀ {L : List Nat}, Trail nx L -> ∀ i, i + 1 < L.length -> L.getD (i + 1) 0 ∈ nx (L.getD i 0)
 | [], _, i, h => by simp at h
 | [_], _, i, h => by simp at h
 | a :: b :: L, h, 0, _ => by simpa using h.1
 | a :: b :: L, h, i + 1, hi => by
  have := Trail.at (L := b :: L) h.2 i (by simpa using hi)
  simpa using this
section
variable {m : Mo} {ps : List (List (Int × Int))} {l : List (Int × Int)} {K : Nat}
theorem exGr_bit {i k : Nat} : (sN (exGr m ps l K) i).testBit k = bitB ((xpT m ps l K).getD i 0) k \/ (xpT m ps l K).getD i 0 < 0 := by
 by_cases h : (xpT m ps l K).getD i 0 < 0
 ·exact .inr h
 ·refine .inl ?_
  obtain ⟨n, hn⟩ : ∃ n : Nat, (xpT m ps l K).getD i 0 = (n : Int) := ⟨((xpT m ps l K).getD i 0).toNat, by omega⟩
  show ((xpT m ps l K).getD i 0).toNat.testBit k = _
  rw [hn, bitB_nat, Int.toNat_natCast]
theorem xpT_pos {i : Nat} (hi : i < K) : ¬ (xpT m ps l K).getD i 0 < 0 := by
 rw [xpT_get hi]; have := (metN_range l (letL m ps (xpAt m ps l i).1) (xpAt m ps l i).2).1; omega
theorem lasso_way (h : ExDone m ps l K) {st lp : List Nat} (hL : LassoOk (exGr m ps l K) st lp) : PWay m ps l K (st ++ lp) st.length := by
 have hK : (exGr m ps l K).spots.length = K := h.1; have hlp : 0 < lp.length := List.length_pos_iff.2 hL.ne; have hn : (st ++ lp).length = st.length + lp.length := List.length_append
 have hall : ∀ i, i < (st ++ lp).length -> (st ++ lp).getD i 0 < K := fun i hi => by
  have := hL.lt ((st ++ lp).getD i 0) (by rw [List.getD_eq_getElem?_getD, List.getElem?_eq_getElem hi]; exact List.getElem_mem _)
  rw [hK] at this; exact this
 have hg : ∀ i, i < (st ++ lp).length -> (st ++ lp ++ [lp.getD 0 0]).getD i 0 = (st ++ lp).getD i 0 := fun i hi => by
  simp only [List.getD_eq_getElem?_getD]
  rw [List.getElem?_append_left hi]
 have hlast : (st ++ lp ++ [lp.getD 0 0]).getD (st ++ lp).length 0 = (st ++ lp).getD st.length 0 := by
  simp only [List.getD_eq_getElem?_getD]
  rw [List.getElem?_append_right (Nat.le_refl _), Nat.sub_self, List.getElem?_append_right (Nat.le_refl _), Nat.sub_self]
  rfl
 refine ⟨by omega, hall, ?_, fun i hi => ?_, fun k hk => ?_⟩
 ·have := hL.head
  have e : (exGr m ps l K).init = ((begL m ps l).length : Nat) := rfl; rw [e] at this; omega
 ·have htr := hL.trail.at i (by simp at hi ⊢; omega)
  rw [hg i hi] at htr
  by_cases hi2 : i + 1 < (st ++ lp).length
  ·rw [moAt_low hi2]
   rw [hg _ hi2] at htr; exact htr
  ·have e : i + 1 = (st ++ lp).length := by omega
   have hm : moAt st.length (st ++ lp).length (i + 1) = st.length := by
    rw [e]; unfold moAt; rw [if_neg (Nat.lt_irrefl _), Nat.mod_self]; rfl
   rw [hm]; rw [e, hlast] at htr; exact htr
 ·have hk' : k < mN (exGr m ps l K) := by
   show k < (((aheadL l).length : Nat) : Int).toNat
   rw [Int.toNat_natCast]; exact hk
  obtain ⟨x, hx, hb⟩ := hL.bits k hk'; obtain ⟨q, hq, rfl⟩ := List.getElem_of_mem hx; have hi : st.length + q < (st ++ lp).length := by omega
  have hge : (st ++ lp).getD (st.length + q) 0 = lp[q] := by
   simp only [List.getD_eq_getElem?_getD]
   rw [List.getElem?_append_right (by omega), show st.length + q - st.length = q by omega, List.getElem?_eq_getElem hq]
   rfl
  refine ⟨st.length + q, by omega, hi, ?_⟩
  rw [hge]; have hlt : lp[q] < K := by rw [<- hge]; exact hall _ hi
  rcases exGr_bit (m := m) (ps := ps) (l := l) (K := K) (i := lp[q]) (k := k) with e | e
  ·rw [<- e]; exact hb
  ·exact absurd e (xpT_pos hlt)
theorem way_fair (h : ExDone m ps l K) {x : List Nat} {s : Nat} (hx : PWay m ps l K x s) : fairC (exGr m ps l K) = 0 := by
 have hK : (exGr m ps l K).spots.length = K := h.1
 have hfw : ∀ i j, i <= j -> j < x.length -> Way (nxt (exGr m ps l K)) (x.getD i 0) (x.getD j 0) := fun i j hij => by
  induction hij with
  | refl => intro _; exact .stay
  | @step j hj ih =>
   intro hlt; have h1 := ih (by omega)
   have h2 := hx.step j (by omega)
   rw [moAt_low hlt] at h2; exact h1.step h2
 have hback : x.getD s 0 ∈ nxt (exGr m ps l K) (x.getD (x.length - 1) 0) := by
  have h1 := hx.step (x.length - 1) (by have := hx.lt; omega)
  have e : x.length - 1 + 1 = x.length := by have := hx.lt; omega
  have hm : moAt s x.length x.length = s := by
   unfold moAt; rw [if_neg (Nat.lt_irrefl _), Nat.mod_self]; rfl
  rw [e, hm] at h1; exact h1
 have hlt := hx.lt; have hmut : ∀ i, s <= i -> i < x.length -> Mut (exGr m ps l K) (x.getD s 0) (x.getD i 0) := fun i h1 h2 => ⟨hfw s i h1 h2, (hfw i (x.length - 1) (by omega) (by omega)).step hback⟩
 refine fair_some (x := x.getD s 0) (by rw [hK]; exact hx.all s hlt) ⟨⟨x.getD 0 0, ?_, hfw 0 s (Nat.zero_le _) hlt⟩, ⟨x.getD (x.length - 1) 0, x.getD s 0, hmut _ (by omega) (by omega), ⟨.stay, .stay⟩, hback⟩, fun k hk => ?_⟩
 ·rw [List.mem_range]
  show x.getD 0 0 < (((begL m ps l).length : Nat) : Int).toNat
  rw [Int.toNat_natCast]; exact hx.first
 ·have hk' : k < (aheadL l).length := by
   have : k < (((aheadL l).length : Nat) : Int).toNat := hk; rw [Int.toNat_natCast] at this; exact this
  obtain ⟨i, i1, i2, i3⟩ := hx.met k hk'; refine ⟨x.getD i 0, hmut i i1 i2, ?_⟩
  rcases exGr_bit (m := m) (ps := ps) (l := l) (K := K) (i := x.getD i 0) (k := k) with e | e
  ·rw [e]; exact i3
  ·exact absurd e (xpT_pos (hx.all i i2))
end
def AllKeep (m : Mo) (ps : List (List (Int × Int))) (T : Tm) : Prop := ∀ (path : List Int) (s : Nat), PRun m path s -> T.hb (sig (path.map (letL m ps)) s) 0 = true
section
variable {m : Mo} {ps : List (List (Int × Int))} {l : List (Int × Int)} {K : Nat}
theorem keep_of_none {T : Tm} (hw : T.Wf) (ho : T.ops = l) (hz : endsCode (l.map Prod.fst) = 0) (hv : ∀ q, q < l.length -> (l.getD q (0, 0)).1 = 13 -> 0 <= (l.getD q (0, 0)).2) (h8 : ∀ q, q < l.length -> 8 <= (l.getD q (0, 0)).1) (hk : tkcode m ps l = 0) (h : ExDone m ps l K) (hf : fairC (exGr m ps l K) ≠ 0) : AllKeep m ps T := fun path s hr => by
 cases hb : T.hb (sig (path.map (letL m ps)) s) 0 with
 | true => rfl
 | false =>
  obtain ⟨x, _, hx⟩ := run_way hw ho hz hv h8 hk h hr hb; exact absurd (way_fair h hx) hf
theorem not_keep {T : Tm} (hw : T.Wf) (ho : T.ops = l) (hz : endsCode (l.map Prod.fst) = 0) (hv : ∀ q, q < l.length -> (l.getD q (0, 0)).1 = 13 -> 0 <= (l.getD q (0, 0)).2) (h8 : ∀ q, q < l.length -> 8 <= (l.getD q (0, 0)).1) (hk : tkcode m ps l = 0) (h : ExDone m ps l K) {st lp : List Nat} (hL : LassoOk (exGr m ps l K) st lp) : ¬ AllKeep m ps T := fun ha => by
 obtain ⟨h1, h2⟩ := way_run hw ho hz hv h8 hk h (lasso_way h hL); rw [ha _ _ h1] at h2
 cases h2
theorem keep_yes (v : Int) : AllKeep m ps (leaf 11 v) := fun _ _ _ => hb_yes _ _ _
end
section
variable {σ : Nat -> Nat -> Bool} {v : Int} {a b : Tm} {i : Nat}
end
theorem PropsFn_any (w : World) : Calls Tryz.prog 63 #[] w fun e w2 => ∃ pb, e = .returned (.slice (some ⟨pb, 0, none⟩) 3 3) /\ Below w.heap.size w w2 /\ Hid (TermsV w2 (.slice (some ⟨pb, 0, none⟩) 3 3) propsL) := by
 have hp := propsFn_any w
 go_enter Tryz.func63, Tryz.ntmps63
 go_wp2_with (go_at_call 19; refine hp.mono ?_; rintro e w2 ⟨pb, rfl, hb, hP⟩)
 go_ret
 exact ⟨pb, rfl, hb, hP⟩
def MdOk (w : World) (c0 c1 c2 c3 c4 c5 c6 : Value) (m : Mo) : Prop := ∀ w', Below w.heap.size w w' -> Calls Tryz.prog 16 #[.agg #[c0, c1, c2, c3, c4, c5, c6]] w' fun e w2 => ∃ ao ac ro rn rc, e = .returned (.agg #[.slice ao 2 ac, .slice ro rn rc]) /\ Below w'.heap.size w' w2 /\ Hid (ModelV w2 (.slice ao 2 ac) (.slice ro rn rc) m /\ mcode m = 0 /\ ∀ j, j < m.rules.length -> (m.rules.getD j ru0).guard ≠ [])
theorem mdOk {w : World} {c0 c1 c2 c3 c4 c5 c6 : Value} {a b : Vr} {rules : List Ru} (hG : GV a b) (h : ∀ w', Below w.heap.size w w' -> Calls Tryz.prog 16 #[.agg #[c0, c1, c2, c3, c4, c5, c6]] w' fun e w2 => ∃ va vr, e = .returned (.agg #[va, vr]) /\ Below w'.heap.size w' w2 /\ GModelR w2 va vr [a, b] rules) : MdOk w c0 c1 c2 c3 c4 c5 c6 ⟨[a, b], rules⟩ := fun w' hb => (h w' hb).mono fun e w2 ⟨va, vr, h1, h2, h3⟩ => by
 obtain ⟨ao, ac, ro, rn, rc, rfl, rfl, _⟩ := h3.gm.shape; obtain ⟨g1, g2, g3⟩ := h3; exact ⟨ao, ac, ro, rn, rc, h1, h2, g1, hG.mcode (by omega) g3, fun j hj => rcode_guard (g3 j hj)⟩
theorem ttask_any (c0 c1 c2 c3 c4 c5 c6 : Value) (m : Mo) (fo : Option Addr) (fn fc : Nat) (l : List (Int × Int)) (w : World) (hM : MdOk w c0 c1 c2 c3 c4 c5 c6 m) (hO : OpsV w (.slice fo fn fc) l) :
  Calls Tryz.prog 36 #[.agg #[c0, c1, c2, c3, c4, c5, c6], .slice fo fn fc] w fun e w' => ∃ ao ac ro rn rc pb, e = .returned (.agg #[.slice ao 2 ac, .slice ro rn rc, .slice (some ⟨pb, 0, none⟩) 3 3, .slice fo fn fc]) /\ Below w.heap.size w w' /\ Hid (TaskV w' (.slice ao 2 ac) (.slice ro rn rc) (.slice (some ⟨pb, 0, none⟩) 3 3) (.slice fo fn fc) m propsL l /\ mcode m = 0) := by
 obtain ⟨W1, hW1⟩ : ∃ W1, W1 = (w.alloc (.cells #[c0, c1, c2, c3, c4, c5, c6] 25)).alloc (.cells #[.slice none 0 0, .slice none 0 0, .slice none 0 0, .slice none 0 0] 34) := ⟨_, rfl⟩
 have hb1 : Below w.heap.size w W1 := by rw [hW1]; exact ((Below.refl _ _).alloc (Nat.le_refl _) _).alloc (by simp) _
 have HBx : Hid (∀ w', Below (w.heap.size + 2) W1 w' -> (w'.cell? ⟨w.heap.size + 1, 0, none⟩ = some (.slice none 0 0) /\ w'.cell? ⟨w.heap.size + 1, 1, none⟩ = some (.slice none 0 0) /\ w'.cell? ⟨w.heap.size + 1, 2, none⟩ = some (.slice none 0 0) /\ w'.cell? ⟨w.heap.size + 1, 3, none⟩ = some (.slice none 0 0)) /\ (w'.frozen? ⟨w.heap.size + 1, 0, none⟩ = false /\ w'.frozen? ⟨w.heap.size + 1, 1, none⟩ = false /\ w'.frozen? ⟨w.heap.size + 1, 2, none⟩ = false /\ w'.frozen? ⟨w.heap.size + 1, 3, none⟩ = false)) := fun w' h => by
  have hlt : w.heap.size + 1 < w.heap.size + 2 := by omega
  refine ⟨⟨?_, ?_, ?_, ?_⟩, ?_, ?_, ?_, ?_⟩
  ·exact (h.cell (p := ⟨w.heap.size + 1, 0, none⟩) hlt).trans (by rw [hW1]; simp [go_sem])
  ·exact (h.cell (p := ⟨w.heap.size + 1, 1, none⟩) hlt).trans (by rw [hW1]; simp [go_sem])
  ·exact (h.cell (p := ⟨w.heap.size + 1, 2, none⟩) hlt).trans (by rw [hW1]; simp [go_sem])
  ·exact (h.cell (p := ⟨w.heap.size + 1, 3, none⟩) hlt).trans (by rw [hW1]; simp [go_sem])
  ·exact (h.frozen (p := ⟨w.heap.size + 1, 0, none⟩) hlt).trans (by rw [hW1]; simp [go_sem])
  ·exact (h.frozen (p := ⟨w.heap.size + 1, 1, none⟩) hlt).trans (by rw [hW1]; simp [go_sem])
  ·exact (h.frozen (p := ⟨w.heap.size + 1, 2, none⟩) hlt).trans (by rw [hW1]; simp [go_sem])
  ·exact (h.frozen (p := ⟨w.heap.size + 1, 3, none⟩) hlt).trans (by rw [hW1]; simp [go_sem])
 have hz1 : W1.heap.size = w.heap.size + 2 := by rw [hW1]; simp
 have hmo := hM W1 hb1; have HO : Hid (OpsV w (.slice fo fn fc) l) := hO; clear hM hO; subst hW1
 go_enter Tryz.func36, Tryz.ntmps36
 go_wp2_with (first
  | (go_at_call 16; refine hmo.mono ?_; rintro e w2 ⟨ao, ac, ro, rn, rc, rfl, hb2, HM⟩; have hbw2 := hb1.trans (hb2.mono hb1.size); have hpr := PropsFn_any w2)
  | (go_at_call 63; refine hpr.mono ?_; rintro e w3 ⟨pb, rfl, hb3, HP⟩; have hbw3 := hbw2.trans (hb3.mono hbw2.size); have hb24 := hb2.trans (hb3.mono hb2.size); obtain ⟨⟨k0, k1, k2, k3⟩, g0, g1, g2, g3⟩ := HBx.out w3 (hb24.mono (by omega))))
 have hn : NilTo (w.heap.size + 1) w3 ((((w3.setCell ⟨w.heap.size + 1, 0, none⟩ (.slice ao 2 ac)).setCell ⟨w.heap.size + 1, 1, none⟩ (.slice ro rn rc)).setCell ⟨w.heap.size + 1, 2, none⟩ (.slice (some ⟨pb, 0, none⟩) 3 3)).setCell ⟨w.heap.size + 1, 3, none⟩ (.slice fo fn fc)) := by
  refine ⟨by simp, fun i v hv => ?_, fun b hb => ?_⟩
  ·have hblk := (hb24.mono (show w.heap.size + 2 <= _ by omega)).block (w.heap.size + 1) (by omega)
   have hx : ((w.alloc (.cells #[c0, c1, c2, c3, c4, c5, c6] 25)).alloc (.cells #[.slice none 0 0, .slice none 0 0, .slice none 0 0, .slice none 0 0] 34)).cell? ⟨w.heap.size + 1, i, none⟩ = some v := by rw [<- hv]; exact (World.cell?_of_block hblk).symm
   have hy := (MapKept.heap_alloc (w.alloc (.cells #[c0, c1, c2, c3, c4, c5, c6] 25)) (.cells #[.slice none 0 0, .slice none 0 0, .slice none 0 0, .slice none 0 0] 34)).1; rw [World.size_alloc] at hy; simp only [World.cell?, hy] at hx
   have hi : i < 4 := by
    rcases Nat.lt_or_ge i 4 with h | h
    ·exact h
    ·simp [Array.getElem?_eq_none (show (#[Value.slice none 0 0, .slice none 0 0, .slice none 0 0, .slice none 0 0] : Array Value).size <= i from h)] at hx
   rcases (show i = 0 \/ i = 1 \/ i = 2 \/ i = 3 by omega) with rfl | rfl | rfl | rfl <;> simpa using hx.symm
  ·rw [RowKit.Below.heap_setCell _ _ _ _ hb, RowKit.Below.heap_setCell _ _ _ _ hb, RowKit.Below.heap_setCell _ _ _ _ hb, RowKit.Below.heap_setCell _ _ _ _ hb]
 obtain ⟨m1, m2, m4⟩ := HM.out
 refine bodyPost_ret (v := .agg #[.slice ao 2 ac, .slice ro rn rc, .slice (some ⟨pb, 0, none⟩) 3 3, .slice fo fn fc]) ?_ rfl ⟨ao, ac, ro, rn, rc, pb, rfl, (((hbw3.setCell (p := ⟨w.heap.size + 1, 0, none⟩) (by simp) _).setCell (p := ⟨w.heap.size + 1, 1, none⟩) (by simp) _).setCell (p := ⟨w.heap.size + 1, 2, none⟩) (by simp) _).setCell (p := ⟨w.heap.size + 1, 3, none⟩) (by simp) _, ⟨⟨(m1.1.below hb3).nilTo hn, (m1.2.below hb3).nilTo m4 hn⟩, HP.out.nilTo (fun j hj => ?_) hn, (HO.out.below hbw3).nilTo hn⟩, m2⟩
 ·simp [results, Tryz.results36, go_sem, k0, k1, k2, k3]
 ·have hj3 : j < 3 := hj
  rcases (show j = 0 \/ j = 1 \/ j = 2 by omega) with rfl | rfl | rfl <;> simp [propsL]
def Kp (m : Mo) (T : Tm) (b : Bool) : Prop := (b = true ↔ AllKeep m propsL T) /\ tkcode m propsL [(11, 0)] = 0
theorem few_spots {m : Mo} {a b : Vr} {l : List (Int × Int)} {mm : Nat} (hG : GV a b) (hk : KTaskOk m l mm) (hvars : m.vars = [a, b]) : ¬ ExFull m propsL l := by
 have hspan : 1 <= vspan a * vspan b /\ vspan a * vspan b <= 16 := by
  have h1 : 1 <= vspan a /\ vspan a <= 4 := by have := hG.a2; have := hG.a3; unfold vspan; omega
  have h2 : 1 <= vspan b /\ vspan b <= 4 := by have := hG.b2; have := hG.b3; unfold vspan; omega
  obtain ⟨x1, x2⟩ := h1; obtain ⟨y1, y2⟩ := h2; generalize vspan a = x at *; generalize vspan b = y at *
  rcases (show x = 1 \/ x = 2 \/ x = 3 \/ x = 4 by omega) with rfl | rfl | rfl | rfl <;> omega
 have hah : (aheadL l).length = mm := by obtain ⟨T, hT⟩ := hk.fo; exact hT.ahead
 refine xp_few (P := (vspan a * vspan b).toNat) hk.code ?_ ?_
 ·rw [hvars]
  show prodTo [a, b] 2 = _
  rw [prod_two]; omega
 ·rw [hah]
  have : 2 ^ mm <= 2 ^ 6 := Nat.pow_le_pow_right (by decide) hk.many
  have h3 : (vspan a * vspan b).toNat * 2 ^ mm <= 16 * 64 := Nat.mul_le_mul (by omega) (by omega)
  omega
theorem vcheck_keep (va vr pv fv : Value) (m : Mo) (a b : Vr) (l : List (Int × Int)) (T : Tm) (mm : Nat) (w : World) (hB : 0 < w.heap.size) (hT : TabAt w) (hV : TaskV w va vr pv fv m propsL l) (hG : GV a b) (hvars : m.vars = [a, b]) (hmc : mcode m = 0) (hF : FOk mm l T) (hl : l.length <= 59) (hmm : mm <= 6) :
  Calls Tryz.prog 11 #[.agg #[va, vr, pv, fv]] w fun e w' => ∃ bb so sn sc lo ln lc, e = .returned (.tuple #[.agg #[.bool bb, .slice so sn sc, .slice lo ln lc], .int .i64 0]) /\ Below w.heap.size w w' /\ Hid (Kp m T bb) := by
 have hv2 : m.vars.length = 2 := by rw [hvars]; rfl
 have hK : KTaskOk m l mm := ⟨hmc, hv2, ⟨T, hF⟩, hl, hmm⟩; have hk0 : tkcode m propsL [(11, 0)] = 0 := (KTaskOk.mk hmc hv2 ⟨_, FOk.yes⟩ (by decide) (by decide) : KTaskOk m [(11, 0)] 0).code
 have hgv := good_vals hF; have hz := hF.ends (by omega)
 refine (vcheck_any va vr pv fv m propsL l w hB hT hV).mono fun e w' hx => ?_
 rcases hx with ⟨hk, ⟨K, hD, hfc⟩, h1, h2⟩ | ⟨hk, K, st, lp, A, B, hD, hL, _, _, h1, h2, _⟩ | ⟨hk, hf, _, _⟩ | ⟨hk, _, _⟩
 ·exact ⟨true, _, _, _, _, _, _, h1, h2, ⟨fun _ => keep_of_none hF.wf hF.ops hz hgv.1 hgv.2 hk hD (by rw [hfc]; decide), fun _ => rfl⟩, hk0⟩
 ·exact ⟨false, _, _, _, _, _, _, h1, h2, ⟨fun h => (by cases h), fun h => absurd h (not_keep hF.wf hF.ops hz hgv.1 hgv.2 hk hD hL)⟩, hk0⟩
 ·exact absurd hf (few_spots hG hK hvars)
 ·exact absurd hK.code hk
theorem tholds_any (c0 c1 c2 c3 c4 c5 c6 : Value) (m : Mo) (a b : Vr) (fv : Value) (l : List (Int × Int)) (T : Tm) (mm : Nat) (w : World) (hB : 0 < w.heap.size) (hT : TabAt w) (hG : GV a b) (hvars : m.vars = [a, b]) (hM : MdOk w c0 c1 c2 c3 c4 c5 c6 m) (hO : OpsV w fv l) (hF : FOk mm l T) (hl : l.length <= 59) (hmm : mm <= 6) :
  Calls Tryz.prog 12 #[.agg #[c0, c1, c2, c3, c4, c5, c6], fv] w fun e w' => ∃ bb, e = .returned (.tuple #[.bool bb, .bool true]) /\ Below w.heap.size w w' /\ Hid (Kp m T bb) := by
 obtain ⟨fo, fc, rfl, _⟩ := id hO; have hA1 : Below w.heap.size w (w.alloc (.cells #[c0, c1, c2, c3, c4, c5, c6] 25)) := (Below.refl _ _).alloc (Nat.le_refl _) _; have htk := ttask_any c0 c1 c2 c3 c4 c5 c6 m fo l.length fc l _ (fun w' h => hM w' (hA1.trans (h.mono hA1.size))) (hO.below hA1)
 have HVc : Hid (∀ (w' : World) (va vr pv fv : Value), Below w.heap.size w w' -> TaskV w' va vr pv fv m propsL l -> mcode m = 0 -> Calls Tryz.prog 11 #[.agg #[va, vr, pv, fv]] w' fun e w2 => ∃ bb so sn sc lo ln lc, e = .returned (.tuple #[.agg #[.bool bb, .slice so sn sc, .slice lo ln lc], .int .i64 0]) /\ Below w'.heap.size w' w2 /\ Hid (Kp m T bb)) := fun w' va vr pv fv h hv hmc => vcheck_keep va vr pv fv m a b l T mm w' (Nat.lt_of_lt_of_le hB h.size) (hT.below h hB) hv hG hvars hmc hF hl hmm
 clear hM hO hF hT; generalize l.length = fn at *
 go_enter Tryz.func12, Tryz.ntmps12
 go_wp2_with (first
  | (go_at_call 36; refine htk.mono ?_; rintro e w1 ⟨ao, ac, ro, rn, rc, pb, rfl, hb1, HV⟩; have hbw1 := hA1.trans (hb1.mono hA1.size); have hvc := HVc.out w1 _ _ _ _ hbw1 HV.out.1 HV.out.2)
  | (go_at_call 11; refine hvc.mono ?_; rintro e w2 ⟨bb, so, sn, sc, lo, ln, lc, rfl, hb2, HK⟩))
 refine bodyPost_ret (v := .tuple #[.bool bb, .bool true]) ?_ rfl ⟨bb, rfl, (hbw1.trans (hb2.mono hbw1.size)).alloc (Nat.le_trans hbw1.size hb2.size) _, HK⟩
 simp [results, Tryz.results12, go_sem]
def HoldsOk (w : World) (c0 c1 c2 c3 c4 c5 c6 : Value) (m : Mo) : Prop := ∀ (w' : World) (fv : Value) (l : List (Int × Int)) (T : Tm) (mm : Nat), Below w.heap.size w w' -> OpsV w' fv l -> FOk mm l T -> l.length <= 59 -> mm <= 6 -> Calls Tryz.prog 12 #[.agg #[c0, c1, c2, c3, c4, c5, c6], fv] w' fun e w2 => ∃ bb, e = .returned (.tuple #[.bool bb, .bool true]) /\ Below w'.heap.size w' w2 /\ Hid (Kp m T bb)
theorem holdsOk {w : World} {c0 c1 c2 c3 c4 c5 c6 : Value} {a b : Vr} {rules : List Ru} (hB : 0 < w.heap.size) (hT : TabAt w) (hG : GV a b) (h : ∀ w', Below w.heap.size w w' -> Calls Tryz.prog 16 #[.agg #[c0, c1, c2, c3, c4, c5, c6]] w' fun e w2 => ∃ va vr, e = .returned (.agg #[va, vr]) /\ Below w'.heap.size w' w2 /\ GModelR w2 va vr [a, b] rules) : HoldsOk w c0 c1 c2 c3 c4 c5 c6 ⟨[a, b], rules⟩ := fun w' fv l T mm hb hO hF hl hmm =>
 tholds_any c0 c1 c2 c3 c4 c5 c6 ⟨[a, b], rules⟩ a b fv l T mm w' (Nat.lt_of_lt_of_le hB hb.size) (hT.below hb hB) hG rfl (fun w2 h2 => mdOk hG h w2 (hb.trans (h2.mono hb.size))) hO hF hl hmm
theorem yes_kcode : kcode 2 [(11, 0)] true = 0 := by
 have := kcode_tree (T := .leaf 11 0) (vars := 2) (by decide) (by decide) (.inr (.inr ⟨.inl rfl, rfl⟩)) (by simp [Tm.size]) rfl true
 simpa [Tm.ops, Tm.kind, mkT] using this
theorem leaf_tree {k x : Int} (hg : (Tm.leaf k x).Good 2) : treeOf [(k, x)] = .leaf k x := treeOf_ops (T := .leaf k x) hg.wf (by simp [Tm.size])
theorem leaf_ex {env : List Int} (hl : env.length = 2) (he : envBad env = false) {k x : Int} (hg : (Tm.leaf k x).Good 2) (ht : (Tm.leaf k x).typed = true) : exC [(k, x)] env = 0 /\ exN [(k, x)] env = (if k = 1 then x else if k = 2 then env.getD x.toNat 0 else if k = 11 then 1 else 0) := by
 have hx : xcode (env.length : Nat) [(k, x)] (.leaf k x) = 0 := by
  rw [hl]; have := xcode_good (vars := 2) (t := .leaf k x) (by decide) (by decide) hg (by simp [Tm.size])
  rw [if_pos ht] at this; exact this
 unfold exC exN evalC evalN; rw [leaf_tree hg, if_neg (by rw [hx]; simp), if_neg (by rw [he]; simp), if_neg (by rw [hx]; simp), if_neg (by rw [he]; simp)]
 exact ⟨rfl, rfl⟩
theorem good_yes : (Tm.leaf 11 0).Good 2 := .inr (.inr ⟨.inl rfl, rfl⟩)
def stayR : Ru := ⟨[(11, 0)], []⟩
theorem stay_rcode : rcode 2 stayR = 0 := by
 unfold rcode stayR; rw [if_neg (by simp), if_pos yes_kcode]
 rfl
theorem vals_two {a b : Vr} (hG : GV a b) {c : Int} (hc : 0 <= c /\ c < vspan a * vspan b) : (valsL [a, b] c).length = 2 /\ envBad (valsL [a, b] c) = false /\ (∀ i, i < 2 -> inB [a, b] (valsL [a, b] c) i) /\ codeTo [a, b] (valsL [a, b] c) 2 = c := by
 have hv := varsOk_of hG.vcode
 have hg : ∀ i, i < 2 -> (valsL [a, b] c).getD i 0 = valAt [a, b] c i := fun i hi => by
  unfold valsL; rw [List.getD_eq_getElem?_getD, List.getElem?_map, List.getElem?_range (by simpa using hi)]; rfl
 have hin : ∀ i, i < 2 -> inB [a, b] (valsL [a, b] c) i := fun i hi => by
  unfold inB; rw [hg i hi]; exact valAt_in hv c (by simpa using hi)
 refine ⟨by simp [valsL], envBad_ok fun j hj => ?_, hin, ?_⟩
 ·have hj2 : j < 2 := by simpa [valsL] using hj
  obtain ⟨h1, h2⟩ := hin j hj2; obtain ⟨na, nb, p0, p1, p2, p3, p4, p5, q0, q1, q2, q3, q4, q5⟩ := hG; have hj3 : j = 0 \/ j = 1 := by omega
  rcases hj3 with rfl | rfl
  ·have h3 : a.lo <= (valsL [a, b] c).getD 0 0 := h1
   have h4 : (valsL [a, b] c).getD 0 0 <= a.hi := h2; omega
  ·have h3 : b.lo <= (valsL [a, b] c).getD 1 0 := h1
   have h4 : (valsL [a, b] c).getD 1 0 <= b.hi := h2; omega
 ·show (0 * vspan a + ((valsL [a, b] c).getD 0 0 - a.lo)) * vspan b + ((valsL [a, b] c).getD 1 0 - b.lo) = c
  rw [hg 0 (by omega), hg 1 (by omega), val_zero hG hc.1 hc.2, val_one]
  rw [show 0 * vspan a + (a.lo + c / vspan b - a.lo) = c / vspan b by omega, show b.lo + c % vspan b - b.lo = c % vspan b by omega]
  have := Int.mul_ediv_add_emod c (vspan b); rw [Int.mul_comm] at this; exact this
theorem stay_do {a b : Vr} (hG : GV a b) {c : Int} (hc : 0 <= c /\ c < vspan a * vspan b) : ruleDo [a, b] (valsL [a, b] c) stayR = some c := by
 obtain ⟨h1, h2, h3, h4⟩ := vals_two hG hc; obtain ⟨e1, e2⟩ := leaf_ex h1 h2 good_yes rfl; unfold ruleDo; rw [if_pos ⟨by show (decide (exC [(11, 0)] _ = 0) && decide (exN [(11, 0)] _ = 1)) = true; rw [e1, e2]; rfl, fun j hj => by simp [stayR] at hj, fun i hi => h3 i (by simpa using hi)⟩]
 exact congrArg some h4
section
variable {a b : Vr} {rules : List Ru} {c : Int} (hG : GV a b) (hc : 0 <= c /\ c < vspan a * vspan b) (h5 : rules.length <= 5) (hr : ∀ j, j < rules.length -> rcode 2 (rules.getD j ru0) = 0)
include hG hc h5 hr
end
theorem more_next {a b : Vr} (hG : GV a b) {rules : List Ru} {c y : Int} (hc : 0 <= c /\ c < vspan a * vspan b) (h : y ∈ nextL ⟨[a, b], rules⟩ c) : y ∈ nextL ⟨[a, b], rules ++ [stayR]⟩ c := by
 have h1 := ((upL_spec _).2 y).1 h; refine ((upL_spec _).2 y).2 ?_
 have hst : c ∈ rawTo [a, b] (valsL [a, b] c) (rules ++ [stayR]) (rules ++ [stayR]).length := by
  rw [rawTo_mem (Nat.le_refl _)]; refine ⟨rules.length, by simp, ?_⟩
  rw [ruD_app_right]; exact stay_do hG hc
 unfold rawL at h1 ⊢
 show y ∈ if rawTo [a, b] (valsL [a, b] c) (rules ++ [stayR]) (rules ++ [stayR]).length = [] then [c] else rawTo [a, b] (valsL [a, b] c) (rules ++ [stayR]) (rules ++ [stayR]).length
 rw [if_neg (fun e => by rw [e] at hst; exact absurd hst List.not_mem_nil)]
 have h2 : y ∈ if rawTo [a, b] (valsL [a, b] c) rules rules.length = [] then [c] else rawTo [a, b] (valsL [a, b] c) rules rules.length := h1
 by_cases hz : rawTo [a, b] (valsL [a, b] c) rules rules.length = []
 ·rw [if_pos hz] at h2
  rw [List.mem_singleton.1 h2]; exact hst
 ·rw [if_neg hz] at h2
  rw [rawTo_mem (Nat.le_refl _)] at h2 ⊢; obtain ⟨j, hj, e⟩ := h2; exact ⟨j, by simp; omega, by rw [ruD_app_left hj]; exact e⟩
theorem run_states {m : Mo} {ps : List (List (Int × Int))} {l : List (Int × Int)} (hk : tkcode m ps l = 0) {path : List Int} {s : Nat} (hr : PRun m path s) : ∀ i, i < path.length -> 0 <= path.getD i 0 /\ path.getD i 0 < prodTo m.vars m.vars.length := by
 intro i
 induction i with
 | zero => intro _; rw [hr.first]; exact tk_beg hk
 | succ i ih =>
  intro hi; have h1 := hr.step i (by omega)
  rw [moAt_low hi] at h1; exact nextL_st (pcode_m (tk_zero hk).1).1 (ih (by omega)) h1
theorem more_keep {a b : Vr} (hG : GV a b) {rules : List Ru} {l l' : List (Int × Int)} {T : Tm} (hk : tkcode ⟨[a, b], rules⟩ propsL l = 0) (hk' : tkcode ⟨[a, b], rules ++ [stayR]⟩ propsL l' = 0) (h : AllKeep ⟨[a, b], rules ++ [stayR]⟩ propsL T) : AllKeep ⟨[a, b], rules⟩ propsL T := fun path s hr => by
 have hst := run_states hk hr; have hp : prodTo [a, b] 2 = vspan a * vspan b := prod_two a b; have hr' : PRun ⟨[a, b], rules ++ [stayR]⟩ path s := ⟨hr.lt, hr.first, fun i hi => more_next hG (by have := hst i hi; rw [<- hp]; exact this) (hr.step i hi)⟩
 have h1 := h path s hr'
 have e : path.map (letL ⟨[a, b], rules ++ [stayR]⟩ propsL) = path.map (letL ⟨[a, b], rules⟩ propsL) := by
  refine List.map_congr_left fun x hx => ?_
  obtain ⟨i, hi, rfl⟩ := List.getElem_of_mem hx; have hs := hst i hi; rw [List.getD_eq_getElem?_getD, List.getElem?_eq_getElem hi, Option.getD_some] at hs
  unfold letL; rw [if_pos (tk_let hk' hs).1, if_pos (tk_let hk hs).1]
 rw [e] at h1; exact h1
theorem kp_more {a b : Vr} (hG : GV a b) {rules : List Ru} {T : Tm} {x y : Bool} (hx : Kp ⟨[a, b], rules⟩ T x) (hy : Kp ⟨[a, b], rules ++ [stayR]⟩ T y) (h : y = true) : x = true := hx.1.2 (more_keep hG hx.2 hy.2 (hy.1.1 h))
end Go.Proofs.YteejnjcdfmedlaaGreatDoor
/-
  Rules that are copied and put together anew: how they lie; literals; operations of a region in whatever order.
-/
namespace Go.Proofs.YteejnjcdfmedlaaGreatDoor
open Go.ChangeShapes Go.WideShapes Go.ChangeAt Go.RowKit Go.Deep
open Terms Tm
/-- the cells of rules, by their two slices. -/
def ruFlat (l : List (Value × Value)) : List Value := l.flatMap fun p => [p.1, p.2]
def pr0 : Value × Value := (.nilIface, .nilIface)
set_option maxRecDepth 20000 in
theorem ruFlat_length : ∀ l : List (Value × Value), (ruFlat l).length = l.length * 2
  | [] => rfl
  | p :: l => by
    have : ruFlat (p :: l) = [p.1, p.2] ++ ruFlat l := rfl
    rw [this, List.length_append, ruFlat_length l]; simp; omega
set_option maxRecDepth 20000 in
theorem ruFlat_at : ∀ (l : List (Value × Value)) (j : Nat), j < l.length → (ruFlat l)[j * 2]? = some (l.getD j pr0).1 ∧ (ruFlat l)[j * 2 + 1]? = some (l.getD j pr0).2
  | [], j, h => by simp at h
  | p :: l, 0, _ => ⟨rfl, rfl⟩
  | p :: l, j + 1, h => by
    have := ruFlat_at l j (by simpa using h)
    rw [show (j + 1) * 2 = j * 2 + 1 + 1 by omega]
    exact this
/-- each rule's two slices. -/
structure RuPairs (w : World) (l : List (Value × Value)) (rules : List Ru) : Prop where
  len : l.length = rules.length
  g : ∀ i, i < rules.length → OpsV w (l.getD i pr0).1 (rules.getD i ru0).guard
  s : ∀ i, i < rules.length → SetsV w (l.getD i pr0).2 (rules.getD i ru0).sets
set_option maxRecDepth 20000 in
theorem RuPairs.below {w w' : World} {l : List (Value × Value)} {rules : List Ru} (h : RuPairs w l rules) (hb : Below w.heap.size w w') : RuPairs w' l rules :=
  ⟨h.len, fun i hi => (h.g i hi).below hb, fun i hi => (h.s i hi).below hb⟩
set_option maxRecDepth 20000 in
theorem RuPairs.app {w : World} {l l2 : List (Value × Value)} {r r2 : List Ru} (h : RuPairs w l r) (h2 : RuPairs w l2 r2) : RuPairs w (l ++ l2) (r ++ r2) := by
  have e := h.len
  have key : ∀ i, i < (r ++ r2).length → (i < r.length ∧ (l ++ l2).getD i pr0 = l.getD i pr0 ∧ (r ++ r2).getD i ru0 = r.getD i ru0) ∨ (∃ k, k < r2.length ∧ (l ++ l2).getD i pr0 = l2.getD k pr0 ∧ (r ++ r2).getD i ru0 = r2.getD k ru0) := fun i hi => by
    by_cases hlt : i < r.length
    · left
      refine ⟨hlt, ?_, ?_⟩
      · rw [List.getD_eq_getElem?_getD, List.getD_eq_getElem?_getD, List.getElem?_append_left (by omega)]
      · rw [List.getD_eq_getElem?_getD, List.getD_eq_getElem?_getD, List.getElem?_append_left hlt]
    · right
      refine ⟨i - r.length, by rw [List.length_append] at hi; omega, ?_, ?_⟩
      · rw [List.getD_eq_getElem?_getD, List.getD_eq_getElem?_getD, List.getElem?_append_right (by omega), e]
      · rw [List.getD_eq_getElem?_getD, List.getD_eq_getElem?_getD, List.getElem?_append_right (by omega)]
  refine ⟨by rw [List.length_append, List.length_append, h.len, h2.len], fun i hi => ?_, fun i hi => ?_⟩
  · rcases key i hi with ⟨h3, h4, h5⟩ | ⟨k, h3, h4, h5⟩
    · rw [h4, h5]; exact h.g i h3
    · rw [h4, h5]; exact h2.g k h3
  · rcases key i hi with ⟨h3, h4, h5⟩ | ⟨k, h3, h4, h5⟩
    · rw [h4, h5]; exact h.s i h3
    · rw [h4, h5]; exact h2.s k h3
set_option maxRecDepth 20000 in
theorem RuPairs.nil (w : World) : RuPairs w [] [] := ⟨rfl, fun i hi => by simp at hi, fun i hi => by simp at hi⟩
set_option maxRecDepth 20000 in
theorem RuPairs.cons {w : World} {x y : Value} {l : List (Value × Value)} {r : Ru} {rs : List Ru} (hg : OpsV w x r.guard) (hs : SetsV w y r.sets) (h : RuPairs w l rs) : RuPairs w ((x, y) :: l) (r :: rs) := by
  refine ⟨by simp [h.len], fun i hi => ?_, fun i hi => ?_⟩
  · match i, hi with
    | 0, _ => exact hg
    | i + 1, hi => exact h.g i (by simpa using hi)
  · match i, hi with
    | 0, _ => exact hs
    | i + 1, hi => exact h.s i (by simpa using hi)
set_option maxRecDepth 20000 in
theorem ruFlat_app (l l2 : List (Value × Value)) : ruFlat (l ++ l2) = ruFlat l ++ ruFlat l2 := by simp [ruFlat]
set_option maxRecDepth 20000 in
theorem opsV_slice {w : World} {v : Value} {l : List (Int × Int)} (h : OpsV w v l) : ∃ ao c, v = .slice ao l.length c := by
  obtain ⟨ao, c, rfl, _⟩ := h; exact ⟨ao, c, rfl⟩
set_option maxRecDepth 20000 in
theorem setsV_slice {w : World} {v : Value} {l : List St} (h : SetsV w v l) : ∃ ao c, v = .slice ao l.length c := by
  obtain ⟨ao, c, rfl, _⟩ := h; exact ⟨ao, c, rfl⟩
set_option maxRecDepth 20000 in
theorem RuPairs.one {w : World} {l : List (Value × Value)} {rules : List Ru} (h : RuPairs w l rules) : ∀ u ∈ ruFlat l, u.oneCell' = true := by
  intro u hu
  unfold ruFlat at hu
  obtain ⟨p, hp, hu⟩ := List.mem_flatMap.1 hu
  obtain ⟨i, hi, he⟩ := List.getElem_of_mem hp
  have hg := h.g i (by rw [← h.len]; exact hi)
  have hs := h.s i (by rw [← h.len]; exact hi)
  rw [List.getD_eq_getElem?_getD, List.getElem?_eq_getElem hi] at hg hs
  simp only [Option.getD_some, he] at hg hs
  simp only [List.mem_cons, List.not_mem_nil, or_false] at hu
  rcases hu with rfl | rfl
  · obtain ⟨_, _, e⟩ := opsV_slice hg; rw [e]; rfl
  · obtain ⟨_, _, e⟩ := setsV_slice hs; rw [e]; rfl
set_option maxRecDepth 20000 in
/-- a model's rules, as their two slices each. -/
theorem rules_pairs {W : World} {ro : Option Addr} {rn rc : Nat} {rules : List Ru} (h : RulesV W (.slice ro rn rc) rules) : ∃ l, RuPairs W l rules ∧ rules.length = rn ∧ (ro = none → rc = 0 ∧ rn = 0) ∧ ∀ w', Below W.heap.size W w' → ∀ ad, ro = some ad → ∀ j u, (ruFlat l)[j]? = some u → w'.cell? (ad.add j) = some u := by
  obtain ⟨ao, cap, e, h1, h2⟩ := h
  injection e with e1 e2 e3
  subst e1 e2 e3
  by_cases hp : 0 < rules.length
  · obtain ⟨rb, roff, rfl, hb, hc⟩ := h2 hp
    have hcell : ∀ i, i < rules.length → ∃ x y, W.cell? ⟨rb, roff + i * 2, none⟩ = some x ∧ W.cell? ⟨rb, roff + i * 2 + 1, none⟩ = some y ∧ OpsV W x (rules.getD i ru0).guard ∧ SetsV W y (rules.getD i ru0).sets := fun i hi => by
      obtain ⟨⟨u, h3, h4⟩, u', h5, h6⟩ := hc i hi
      exact ⟨u, u', h3, h5, h4, h6⟩
    let f : Nat → Value × Value := fun i => ((W.cell? ⟨rb, roff + i * 2, none⟩).getD .nilIface, (W.cell? ⟨rb, roff + i * 2 + 1, none⟩).getD .nilIface)
    have hf : ∀ i, i < rules.length → ((List.range rules.length).map f).getD i pr0 = f i := fun i hi => by
      rw [List.getD_eq_getElem?_getD, List.getElem?_map, List.getElem?_range hi]; rfl
    refine ⟨(List.range rules.length).map f, ⟨by simp, fun i hi => ?_, fun i hi => ?_⟩, rfl, (fun h => by cases h), fun w' hbw ad he j u hj => ?_⟩
    · rw [hf i hi]
      obtain ⟨x, y, h3, h4, h5, h6⟩ := hcell i hi
      show OpsV W ((W.cell? ⟨rb, roff + i * 2, none⟩).getD .nilIface) _
      rw [h3]; exact h5
    · rw [hf i hi]
      obtain ⟨x, y, h3, h4, h5, h6⟩ := hcell i hi
      show SetsV W ((W.cell? ⟨rb, roff + i * 2 + 1, none⟩).getD .nilIface) _
      rw [h4]; exact h6
    · injection he with he
      subst he
      have hjl : j < (ruFlat ((List.range rules.length).map f)).length := by
        rcases Nat.lt_or_ge j (ruFlat ((List.range rules.length).map f)).length with h | h
        · exact h
        · rw [List.getElem?_eq_none h] at hj; cases hj
      rw [ruFlat_length] at hjl
      have hlen : ((List.range rules.length).map f).length = rules.length := by simp
      have hadd : (⟨rb, roff, none⟩ : Addr).add j = ⟨rb, roff + j, none⟩ := by simp [Addr.add]
      rw [hadd, hbw.cell (p := ⟨rb, roff + j, none⟩) hb]
      have hk : j / 2 < rules.length := by omega
      obtain ⟨q1, q2⟩ := ruFlat_at ((List.range rules.length).map f) (j / 2) (by omega)
      obtain ⟨x, y, h3, h4, _, _⟩ := hcell (j / 2) hk
      rw [hf _ hk] at q1 q2
      rcases Nat.mod_two_eq_zero_or_one j with hm | hm
      · have hjj : j / 2 * 2 = j := by omega
        rw [hjj] at q1 h3
        rw [q1] at hj
        injection hj with hj
        rw [← hj, h3]
        show some x = some ((W.cell? ⟨rb, roff + j / 2 * 2, none⟩).getD .nilIface)
        rw [hjj, h3]; rfl
      · have hjj : j / 2 * 2 + 1 = j := by omega
        rw [hjj] at q2
        rw [show roff + j / 2 * 2 + 1 = roff + j by omega] at h4
        rw [q2] at hj
        injection hj with hj
        rw [← hj, h4]
        show some y = some ((W.cell? ⟨rb, roff + j / 2 * 2 + 1, none⟩).getD .nilIface)
        rw [show roff + j / 2 * 2 + 1 = roff + j by omega, h4]; rfl
  · have h0 : rules = [] := List.length_eq_zero_iff.1 (by omega)
    subst h0
    exact ⟨[], RuPairs.nil _, rfl, h1.2, fun w' _ ad _ j u hj => by simp [ruFlat] at hj⟩
set_option maxRecDepth 20000 in
theorem pairs_rules {w : World} {base n : Nat} {v : Value} {l : List (Value × Value)} {rules : List Ru} (h : w.ownsRow base 61 2 v n (ruFlat l)) (hn : n = rules.length) (hp : RuPairs w l rules) : RulesV w v rules := by
  subst hn
  rcases h.2 with ⟨rfl, h0⟩ | ⟨g, cap, cur, rfl, hb, hg, hnc, hcm, hcs, htake⟩
  · exact ⟨none, 0, by rw [h0], ⟨by omega, fun _ => ⟨rfl, h0⟩⟩, fun h => by omega⟩
  · refine ⟨_, cap, rfl, ⟨hnc, fun h => by simp at h⟩, fun _ => ⟨g, 0, rfl, (Array.getElem?_eq_some_iff.1 hg).1, fun i hi => ?_⟩⟩
    obtain ⟨f0, f1⟩ := ruFlat_at l i (by rw [hp.len]; exact hi)
    refine ⟨⟨_, ?_, hp.g i hi⟩, _, ?_, hp.s i hi⟩
    · rw [Nat.zero_add, h.cellAt _ (by omega)]; exact f0
    · rw [Nat.zero_add, h.cellAt _ (by omega)]; exact f1

set_option maxRecDepth 20000 in
/-- an op that is written out. -/
theorem ops_lit {w : World} {g : Nat} {k x : Int} {t : TypeId} {fr : Nat × Nat} (h : w.heap[g]? = some (.cells #[.int .i64 k, .int .i64 x] t fr)) : OpsV w (.slice (some ⟨g, 0, none⟩) 1 1) [(k, x)] := by
  have hlt : g < w.heap.size := (Array.getElem?_eq_some_iff.1 h).1
  refine ⟨_, 1, rfl, ⟨by simp, fun e => by cases e⟩, fun _ => ⟨g, 0, rfl, hlt, fun i hi => ?_⟩⟩
  have h0 : i = 0 := by simp at hi; omega
  subst h0
  constructor
  · simp [World.cell?, h]
  · simp [World.cell?, h]
set_option maxRecDepth 20000 in
theorem sets_nil (w : World) : SetsV w (.slice none 0 0) [] := ⟨none, 0, rfl, ⟨by simp, fun _ => ⟨rfl, rfl⟩⟩, fun h => by simp at h⟩
set_option maxRecDepth 20000 in
theorem sets_one {w : World} {g : Nat} {i : Int} {v : Value} {l : List (Int × Int)} {t : TypeId} {fr : Nat × Nat} (h : w.heap[g]? = some (.cells #[.int .i64 i, v] t fr)) (hv : OpsV w v l) : SetsV w (.slice (some ⟨g, 0, none⟩) 1 1) [⟨i, l⟩] := by
  have hlt : g < w.heap.size := (Array.getElem?_eq_some_iff.1 h).1
  refine ⟨_, 1, rfl, ⟨by simp, fun e => by cases e⟩, fun _ => ⟨g, 0, rfl, hlt, fun j hj => ?_⟩⟩
  have h0 : j = 0 := by simp at hj; omega
  subst h0
  exact ⟨by simp [World.cell?, h], v, by simp [World.cell?, h], hv⟩
set_option maxRecDepth 20000 in
theorem sets_two {w : World} {g : Nat} {i j : Int} {v u : Value} {l k : List (Int × Int)} {t : TypeId} {fr : Nat × Nat} (h : w.heap[g]? = some (.cells #[.int .i64 i, v, .int .i64 j, u] t fr)) (hv : OpsV w v l) (hu : OpsV w u k) : SetsV w (.slice (some ⟨g, 0, none⟩) 2 2) [⟨i, l⟩, ⟨j, k⟩] := by
  have hlt : g < w.heap.size := (Array.getElem?_eq_some_iff.1 h).1
  refine ⟨_, 2, rfl, ⟨by simp, fun e => by cases e⟩, fun _ => ⟨g, 0, rfl, hlt, fun n hn => ?_⟩⟩
  have h0 : n = 0 ∨ n = 1 := by simp at hn; omega
  rcases h0 with rfl | rfl
  · exact ⟨by simp [World.cell?, h], v, by simp [World.cell?, h], hv⟩
  · exact ⟨by simp [World.cell?, h], u, by simp [World.cell?, h], hu⟩
set_option maxRecDepth 20000 in
theorem heap_keep (w : World) (o : Obj) {b : Nat} {x : Obj} (h : w.heap[b]? = some x) : (w.alloc o).heap[b]? = some x :=
  (Below.heap_alloc w o b (Array.getElem?_eq_some_iff.1 h).1).trans h
set_option maxRecDepth 20000 in
theorem heap_grown {u w : World} {row : Option Nat} (hg : u.grownBy w row) {b : Nat} {x : Obj} (h : u.heap[b]? = some x) (hne : row ≠ some b) : w.heap[b]? = some x :=
  (hg.block b (Array.getElem?_eq_some_iff.1 h).1 (fun e => hne e.symm)).trans h
end Go.Proofs.YteejnjcdfmedlaaGreatDoor
namespace Go.Proofs.YteejnjcdfmedlaaGreatDoor
open Go.ChangeShapes Go.WideShapes Go.ChangeAt Go.RowKit Go.Deep
set_option maxHeartbeats 6400000
set_option maxRecDepth 20000
def shapeIn (ops : Array Oper) (ds : List Nat) (size m : Nat) : Bool :=
  (List.range ops.size).all (fun i => match ops[i]? with
    | some o => o.guard.isNone && o.after.toList.all (fun e => !Region.binds .any e || Nat.blt e.on i) && (if i < m then (match o.dst with
        | some t => ds.contains t && Nat.blt t size && (List.range m).all (fun j => j == i || !(dstOf ops j == some t))
        | none => false) else true)
    | none => false) && Nat.blt m ops.size
theorem shape_in {ops : Array Oper} {ds : List Nat} {size m : Nat} (h : shapeIn ops ds size m = true) : m < ops.size /\ (∀ (i : Nat) (o : Oper), ops[i]? = some o -> o.guard = none) /\ (∀ (i : Nat) (o : Oper) (e : Edge), ops[i]? = some o -> e ∈ o.after -> Region.binds .any e = true -> e.on < i) /\ ∀ (i : Nat) (o : Oper), i < m -> ops[i]? = some o -> ∃ t, o.dst = some t /\ ds.contains t = true /\ t < size /\ ∀ j, j < m -> j ≠ i -> dstOf ops j ≠ some t := by
  unfold shapeIn at h; rw [Bool.and_eq_true, List.all_eq_true] at h; obtain ⟨h1, h2⟩ := h; have hm : m < ops.size := by simpa [Nat.blt_eq] using h2
  have hi : ∀ i o, ops[i]? = some o → (o.guard.isNone && o.after.toList.all (fun e => !Region.binds .any e || Nat.blt e.on i) && (if i < m then (match o.dst with
        | some t => ds.contains t && Nat.blt t size && (List.range m).all (fun j => j == i || !(dstOf ops j == some t))
        | none => false) else true)) = true := fun i o ho => by
    have hlt : i < ops.size := by
      rcases Nat.lt_or_ge i ops.size with h | h
      · exact h
      · rw [Array.getElem?_eq_none h] at ho; cases ho
    have := h1 i (List.mem_range.2 hlt); rw [ho] at this; exact this
  refine ⟨hm, fun i o ho => ?_, fun i o e ho he hb => ?_, fun i o him ho => ?_⟩
  · have := hi i o ho
    rw [Bool.and_eq_true, Bool.and_eq_true] at this; simpa using this.1.1
  · have := hi i o ho
    rw [Bool.and_eq_true, Bool.and_eq_true, List.all_eq_true] at this; have := this.1.2 e (by simpa using he)
    rw [hb] at this; simpa [Nat.blt_eq] using this
  · have := hi i o ho
    rw [Bool.and_eq_true, if_pos him] at this; have := this.2
    cases hd : o.dst with
    | none => rw [hd] at this; cases this
    | some t =>
      rw [hd] at this; simp only [Bool.and_eq_true, List.all_eq_true] at this; obtain ⟨⟨e1, e2⟩, e3⟩ := this; refine ⟨t, rfl, e1, by simpa [Nat.blt_eq] using e2, fun j hj hne he => ?_⟩
      have := e3 j (List.mem_range.2 hj); rw [he] at this; simp [hne] at this
theorem wp_inorderW {P : Program} {id : Nat} {ops : Array Oper} {Q : Exit -> Act -> World -> Prop} {a0 : Act} {w0 : World} (ds : List Nat) (m : Nat) (post : Nat -> Value -> World -> Prop)
  (hsh : shapeIn ops ds a0.tmps.size m = true)
  (stable : ∀ i v w w', i < m -> post i v w -> Below w.heap.size w w' -> post i v w')
  (step : ∀ (i : Nat) (o : Oper), i < m -> ops[i]? = some o -> ∀ q w, Below w0.heap.size w0 w -> (∀ k t, waits ops i k = true -> dstOf ops k = some t -> post k (q t) w) -> Oper.wp P o (frm a0 ds q) w (fun a' w' => ∃ v, a' = (frm a0 ds q).put o.dst v /\ Below w.heap.size w w' /\ post i v w') Q)
  (last : ∀ q w, Below w0.heap.size w0 w -> (∀ i t, i < m -> dstOf ops i = some t -> post i (q t) w) -> wpOps P ops Q ((List.range' m (ops.size - m))) (frm a0 ds q) w) :
  (Code.region id ops false).wp P Q a0 w0 := by
 obtain ⟨hlt, hgd, hbf, hdst⟩ := shape_in hsh; refine wp_region ?_
 have key : ∀ k i q w, i + k = m -> Below w0.heap.size w0 w -> (∀ j t, j < i -> dstOf ops j = some t -> post j (q t) w) -> wpOps P ops Q (List.range' i (ops.size - i)) (frm a0 ds q) w := by
  intro k
  induction k with
  | zero =>
   intro i q w hik hb hp; have : i = m := by omega
   subst this; exact last q w hb hp
  | succ k ih =>
   intro i q w hik hb hp; have him : i < m := by omega
   have h1 : i < ops.size := by omega
   have ho : ops[i]? = some ops[i] := Array.getElem?_eq_getElem h1
   obtain ⟨t, ht, hdt, hts, hne⟩ := hdst i _ him ho; rw [show ops.size - i = (ops.size - (i + 1)) + 1 by omega, List.range'_succ, wpOps_cons]
   refine op_atR ho (hgd i _ ho) (Oper.wp_mono ?_ (step i _ him ho q w hb fun k' t' hk' ht' => hp k' t' ?_ ht'))
   ·rintro a' w' ⟨v, rfl, hb', hv⟩
    rw [ht, frm_put hdt]; refine ih (i + 1) _ w' (by omega) (hb.trans (hb'.mono hb.size)) fun j t' hj ht' => ?_
    by_cases hji : j = i
    ·subst hji
     have : t' = t := by
      unfold dstOf at ht'; rw [ho] at ht'; exact Option.some.inj (ht'.symm.trans ht)
     subst this; rw [setV_same]; exact hv
    ·rw [setV_other (fun e => hne j (by omega) hji (by rw [ht', e]))]
     exact stable j _ w w' (by omega) (hp j t' (by omega) ht') hb'
   ·unfold waits at hk'
    rw [ho] at hk'; simp only [List.any_eq_true, Bool.and_eq_true, beq_iff_eq] at hk'; obtain ⟨e, he, hbi, hon⟩ := hk'; have := hbf i _ e ho (by simpa using he) hbi
    omega
 have h0 := key m 0 (fun t => a0.eval (.tmp t)) w0 (by omega) (Below.refl _ _) (fun j t hj _ => by omega)
 rw [frm_start] at h0; rw [List.range_eq_range']; exact h0
end Go.Proofs.YteejnjcdfmedlaaGreatDoor
namespace Go.Proofs.YteejnjcdfmedlaaGreatDoor
open Go.ChangeShapes Go.WideShapes Go.ChangeAt Go.RowKit Go.Deep
open Terms Tm
set_option maxHeartbeats 6400000
set_option maxRecDepth 20000
theorem taskR_any (c0 c1 c2 c3 c4 c5 c6 : Value) (a b : Vr) (rules : List Ru) (rawv : Value) (rs : List (Int × Int)) (tempo : Nat) (w : World) (hG : GV a b) (ht : tempo <= 6) (hR : Raws w w.heap.size rawv rs)
  (hmd : ∀ w', Below w.heap.size w w' -> Calls Tryz.prog 16 #[.agg #[c0, c1, c2, c3, c4, c5, c6]] w' fun e w2 => ∃ va vr, e = .returned (.agg #[va, vr]) /\ Below w'.heap.size w' w2 /\ GModelR w2 va vr [a, b] rules) :
  Calls Tryz.prog 7 #[.agg #[c0, c1, c2, c3, c4, c5, c6], rawv, .int .i64 (tempo : Int)] w fun e w' => ∃ ao ac ro rn rc pb fo fn fc l T mm, e = .returned (.agg #[.slice ao 2 ac, .slice ro rn rc, .slice (some ⟨pb, 0, none⟩) 3 3, .slice fo fn fc]) /\ Below w.heap.size w w' /\ Hid (TaskV w' (.slice ao 2 ac) (.slice ro rn rc) (.slice (some ⟨pb, 0, none⟩) 3 3) (.slice fo fn fc) ⟨[a, b], rules⟩ propsL l) /\ Hid ((mcode ⟨[a, b], rules⟩ = 0 /\ rules.length <= 5 /\ ∀ j, j < rules.length -> rcode 2 (rules.getD j ru0) = 0) /\ FOk mm l T /\ l.length = fn /\ l ≠ []) /\ mm <= tempo /\ fn <= 17 := by
 have HMd : Hid (∀ w', Below w.heap.size w w' -> Calls Tryz.prog 16 #[.agg #[c0, c1, c2, c3, c4, c5, c6]] w' fun e w2 => ∃ ao ac ro rn rc, e = .returned (.agg #[.slice ao 2 ac, .slice ro rn rc]) /\ Below w'.heap.size w' w2 /\ Hid (ModelV w2 (.slice ao 2 ac) (.slice ro rn rc) ⟨[a, b], rules⟩ /\ (mcode ⟨[a, b], rules⟩ = 0 /\ rules.length <= 5 /\ ∀ j, j < rules.length -> rcode 2 (rules.getD j ru0) = 0) /\ True /\ ∀ j, j < rules.length -> (rules.getD j ru0).guard ≠ [])) := fun w' h => (hmd w' h).mono fun e w2 ⟨va, vr, h1, h2, h3⟩ => by
  obtain ⟨ao, ac, ro, rn, rc, rfl, rfl, _⟩ := h3.gm.shape; obtain ⟨g1, g2, g3⟩ := h3; exact ⟨ao, ac, ro, rn, rc, h1, h2, g1, ⟨hG.mcode (by omega) g3, g2, g3⟩, trivial, fun j hj => rcode_guard (g3 j hj)⟩
 have HPr : Hid (∀ w', Calls Tryz.prog 19 #[] w' fun e w2 => ∃ pb, e = .returned (.slice (some ⟨pb, 0, none⟩) 3 3) /\ Below w'.heap.size w' w2 /\ Hid (TermsV w2 (.slice (some ⟨pb, 0, none⟩) 3 3) propsL)) := fun w' => (propsFn_any w').mono fun e w2 ⟨pb, h1, h2, h3⟩ => ⟨pb, h1, h2, h3⟩
 have HFo : Hid (∀ w', Below w.heap.size w w' -> Calls Tryz.prog 20 #[rawv, .int .i64 3, .int .i64 (tempo : Int)] w' fun e w2 => ∃ fo fn fc l T mm, e = .returned (.slice fo fn fc) /\ mm <= tempo /\ fn <= 17 /\ Below w'.heap.size w' w2 /\ Hid (OpsV w2 (.slice fo fn fc) l /\ FOk mm l T /\ l.length = fn /\ l ≠ [])) := fun w' h => (formulaFn_any rawv rs 3 tempo w' (by decide) (by decide) (by omega) (hR.up h)).mono fun e w2 ⟨fo, fc, l, mm, h1, h2, h3, h4, h5, h6⟩ => by
  obtain ⟨T, hT⟩ := h2.ok; exact ⟨fo, l.length, fc, l, T, mm, h1, h3, h4, h6, h5, hT, rfl, h2.ne⟩
 obtain ⟨ra, rn0, rc0, hra⟩ : ∃ a n c, rawv = .slice a n c := by obtain ⟨⟨a, c, h, _⟩, _, _⟩ := hR; exact ⟨_, _, _, h⟩
 subst hra; clear hmd hR; obtain ⟨W1, hW1⟩ : ∃ W1, W1 = (w.alloc (.cells #[c0, c1, c2, c3, c4, c5, c6] 25)).alloc (.cells #[.slice none 0 0, .slice none 0 0, .slice none 0 0, .slice none 0 0] 34) := ⟨_, rfl⟩
 have hb1 : Below w.heap.size w W1 := by rw [hW1]; exact ((Below.refl _ _).alloc (Nat.le_refl _) _).alloc (by simp) _
 have hmo := HMd.out W1 hb1
 have HBx : Hid (∀ w', Below (w.heap.size + 2) W1 w' -> (w'.cell? ⟨w.heap.size + 1, 0, none⟩ = some (.slice none 0 0) /\ w'.cell? ⟨w.heap.size + 1, 1, none⟩ = some (.slice none 0 0) /\ w'.cell? ⟨w.heap.size + 1, 2, none⟩ = some (.slice none 0 0) /\ w'.cell? ⟨w.heap.size + 1, 3, none⟩ = some (.slice none 0 0)) /\ (w'.frozen? ⟨w.heap.size + 1, 0, none⟩ = false /\ w'.frozen? ⟨w.heap.size + 1, 1, none⟩ = false /\ w'.frozen? ⟨w.heap.size + 1, 2, none⟩ = false /\ w'.frozen? ⟨w.heap.size + 1, 3, none⟩ = false)) := fun w' h => by
  have hlt : w.heap.size + 1 < w.heap.size + 2 := by omega
  refine ⟨⟨?_, ?_, ?_, ?_⟩, ?_, ?_, ?_, ?_⟩
  ·exact (h.cell (p := ⟨w.heap.size + 1, 0, none⟩) hlt).trans (by rw [hW1]; simp [go_sem])
  ·exact (h.cell (p := ⟨w.heap.size + 1, 1, none⟩) hlt).trans (by rw [hW1]; simp [go_sem])
  ·exact (h.cell (p := ⟨w.heap.size + 1, 2, none⟩) hlt).trans (by rw [hW1]; simp [go_sem])
  ·exact (h.cell (p := ⟨w.heap.size + 1, 3, none⟩) hlt).trans (by rw [hW1]; simp [go_sem])
  ·exact (h.frozen (p := ⟨w.heap.size + 1, 0, none⟩) hlt).trans (by rw [hW1]; simp [go_sem])
  ·exact (h.frozen (p := ⟨w.heap.size + 1, 1, none⟩) hlt).trans (by rw [hW1]; simp [go_sem])
  ·exact (h.frozen (p := ⟨w.heap.size + 1, 2, none⟩) hlt).trans (by rw [hW1]; simp [go_sem])
  ·exact (h.frozen (p := ⟨w.heap.size + 1, 3, none⟩) hlt).trans (by rw [hW1]; simp [go_sem])
 have hz1 : W1.heap.size = w.heap.size + 2 := by rw [hW1]; simp
 subst hW1
 go_enter Tryz.func7, Tryz.ntmps7
 go_wp2_with (first
  | (go_at_call 16; refine hmo.mono ?_; rintro e w2 ⟨ao, ac, ro, rn, rc, rfl, hb2, HM⟩; have hbw2 := hb1.trans (hb2.mono hb1.size); have hpr := HPr.out w2)
  | (go_at_call 19; refine hpr.mono ?_; rintro e w3 ⟨pb, rfl, hb3, HP⟩; have hbw3 := hbw2.trans (hb3.mono hbw2.size); have hfo := HFo.out w3 hbw3)
  | (go_at_call 20; refine hfo.mono ?_; rintro e w4 ⟨fo, fn, fc, l, T, mm, rfl, hmm, hfn, hb4, HF⟩; have hbw4 := hbw3.trans (hb4.mono hbw3.size); have hb24 := (hb2.trans (hb3.mono hb2.size)).trans (hb4.mono (Nat.le_trans hb2.size hb3.size)); obtain ⟨⟨k0, k1, k2, k3⟩, g0, g1, g2, g3⟩ := HBx.out w4 (hb24.mono (by omega))))
 have hn : NilTo (w.heap.size + 1) w4 ((((w4.setCell ⟨w.heap.size + 1, 0, none⟩ (.slice ao 2 ac)).setCell ⟨w.heap.size + 1, 1, none⟩ (.slice ro rn rc)).setCell ⟨w.heap.size + 1, 2, none⟩ (.slice (some ⟨pb, 0, none⟩) 3 3)).setCell ⟨w.heap.size + 1, 3, none⟩ (.slice fo fn fc)) := by
  refine ⟨by simp, fun i v hv => ?_, fun b hb => ?_⟩
  ·have hblk := (hb24.mono (show w.heap.size + 2 <= _ by omega)).block (w.heap.size + 1) (by omega)
   have hx : ((w.alloc (.cells #[c0, c1, c2, c3, c4, c5, c6] 25)).alloc (.cells #[.slice none 0 0, .slice none 0 0, .slice none 0 0, .slice none 0 0] 34)).cell? ⟨w.heap.size + 1, i, none⟩ = some v := by rw [<- hv]; exact (World.cell?_of_block hblk).symm
   have hy := (MapKept.heap_alloc (w.alloc (.cells #[c0, c1, c2, c3, c4, c5, c6] 25)) (.cells #[.slice none 0 0, .slice none 0 0, .slice none 0 0, .slice none 0 0] 34)).1; rw [World.size_alloc] at hy; simp only [World.cell?, hy] at hx
   have hi : i < 4 := by
    rcases Nat.lt_or_ge i 4 with h | h
    ·exact h
    ·simp [Array.getElem?_eq_none (show (#[Value.slice none 0 0, .slice none 0 0, .slice none 0 0, .slice none 0 0] : Array Value).size <= i from h)] at hx
   rcases (show i = 0 \/ i = 1 \/ i = 2 \/ i = 3 by omega) with rfl | rfl | rfl | rfl <;> simpa using hx.symm
  ·rw [RowKit.Below.heap_setCell _ _ _ _ hb, RowKit.Below.heap_setCell _ _ _ _ hb, RowKit.Below.heap_setCell _ _ _ _ hb, RowKit.Below.heap_setCell _ _ _ _ hb]
 obtain ⟨m1, m2, _, m4⟩ := HM.out; obtain ⟨f1, f2, f3, f4⟩ := HF.out; have hb34 : Below w2.heap.size w2 w4 := hb3.trans (hb4.mono hb3.size)
 refine bodyPost_ret (v := .agg #[.slice ao 2 ac, .slice ro rn rc, .slice (some ⟨pb, 0, none⟩) 3 3, .slice fo fn fc]) ?_ rfl ⟨ao, ac, ro, rn, rc, pb, fo, fn, fc, l, T, mm, rfl, (((hbw4.setCell (p := ⟨w.heap.size + 1, 0, none⟩) (by simp) _).setCell (p := ⟨w.heap.size + 1, 1, none⟩) (by simp) _).setCell (p := ⟨w.heap.size + 1, 2, none⟩) (by simp) _).setCell (p := ⟨w.heap.size + 1, 3, none⟩) (by simp) _, ⟨⟨(m1.1.below hb34).nilTo hn, (m1.2.below hb34).nilTo m4 hn⟩, (HP.out.below hb4).nilTo (fun j hj => ?_) hn, f1.nilTo hn⟩, ⟨m2, f2, f3, f4⟩, hmm, hfn⟩
 ·simp [results, Tryz.results7, go_sem, k0, k1, k2, k3]
 ·have hj3 : j < 3 := hj
  rcases (show j = 0 \/ j = 1 \/ j = 2 by omega) with rfl | rfl | rfl <;> simp [propsL]
end Go.Proofs.YteejnjcdfmedlaaGreatDoor
namespace Go.Proofs.YteejnjcdfmedlaaGreatDoor
open Go.ChangeShapes Go.WideShapes Go.ChangeAt Go.RowKit Go.Deep
open Terms
set_option maxHeartbeats 6400000
set_option maxRecDepth 20000
theorem cell_later {w w' : World} (hb : Below w.heap.size w w') {p : Addr} {x : Value} (h : w.cell? p = some x) : w'.cell? p = some x := (hb.cell (World.block_lt_of_cell? w p h)).trans h
section
variable {o : Oper} {a : Act} {w : World} {Q : Exit -> Act -> World -> Prop}
end
end Go.Proofs.YteejnjcdfmedlaaGreatDoor
namespace Go.Proofs.YteejnjcdfmedlaaGreatDoor
open Go.ChangeShapes Go.WideShapes Go.ChangeAt Go.RowKit Go.Deep
open Terms Tm
set_option maxHeartbeats 6400000
set_option maxRecDepth 20000
section
variable {o : Oper} {a : Act} {w : World} {Q : Exit -> Act -> World -> Prop} {m : Mo}
end
def DBox (w : World) (D : Nat) (c0 c1 c2 c3 c4 c5 c6 : Value) : Prop := w.cell? ⟨D, 0, none⟩ = some c0 /\ w.cell? ⟨D, 1, none⟩ = some c1 /\ w.cell? ⟨D, 2, none⟩ = some c2 /\ w.cell? ⟨D, 3, none⟩ = some c3 /\ w.cell? ⟨D, 4, none⟩ = some c4 /\ w.cell? ⟨D, 5, none⟩ = some c5 /\ w.cell? ⟨D, 6, none⟩ = some c6
theorem DBox.below {w w' : World} {D : Nat} {c0 c1 c2 c3 c4 c5 c6 : Value} (h : DBox w D c0 c1 c2 c3 c4 c5 c6) (hb : Below w.heap.size w w') : DBox w' D c0 c1 c2 c3 c4 c5 c6 := by
 obtain ⟨h0, h1, h2, h3, h4, h5, h6⟩ := h; exact ⟨cell_later hb h0, cell_later hb h1, cell_later hb h2, cell_later hb h3, cell_later hb h4, cell_later hb h5, cell_later hb h6⟩
section
variable {m : Mo} {A B : Tm} {a b c d : Bool}
theorem kp_yes {v : Int} (h : Kp m (.leaf 11 v) a) : a = true := h.1.2 (keep_yes v)
end
end Go.Proofs.YteejnjcdfmedlaaGreatDoor
namespace Go.Proofs.YteejnjcdfmedlaaGreatDoor
open Go.ChangeShapes Go.WideShapes Go.ChangeAt Go.RowKit Go.Deep Go.Maps
open Terms Tm
set_option maxHeartbeats 6400000
set_option maxRecDepth 20000
def tkB (va vr pv fv : Value) : Obj := .cells #[va, vr, pv, fv] 34 (0, 0)
theorem tkB_cells {w : World} {X : Nat} {va vr pv fv : Value} (hb : w.heap[X]? = some (tkB va vr pv fv)) : w.cell? ⟨X, 0, none⟩ = some va /\ w.cell? ⟨X, 1, none⟩ = some vr /\ w.cell? ⟨X, 2, none⟩ = some pv /\ w.cell? ⟨X, 3, none⟩ = some fv := by
 unfold tkB at hb; refine ⟨?_, ?_, ?_, ?_⟩ <;> simp [World.cell?, hb]
theorem tkB_free {w : World} {X : Nat} {va vr pv fv : Value} (hb : w.heap[X]? = some (tkB va vr pv fv)) (i : Nat) : w.frozen? ⟨X, i, none⟩ = false := by
 unfold tkB at hb; simp [World.frozen?, hb]
section
variable {w1 wx w' : World} {X : Nat} {va vr pv : Value} {fo : Option Addr} {fn fc : Nat} {m : Mo} {l : List (Int × Int)}
end
def Lit (w : World) (base g : Nat) (cs : Array Value) (t : TypeId) : Prop := base <= g /\ w.heap[g]? = some (.cells cs t (0, 0))
theorem Lit.below {w w' : World} {base g : Nat} {cs : Array Value} {t : TypeId} (h : Lit w base g cs t) (hb : Below w.heap.size w w') : Lit w' base g cs t :=
 ⟨h.1, (hb.block g (Array.getElem?_eq_some_iff.1 h.2).1).trans h.2⟩
theorem Lit.new {w : World} {base : Nat} (h : base <= w.heap.size) (cs : Array Value) (t : TypeId) : Lit (w.alloc (.cells cs t)) base w.heap.size cs t := ⟨h, heap_new _ _⟩
theorem Lit.far {w w8 : World} {base g n Y i : Nat} {cs : Array Value} {t e : TypeId} {s : Nat} {v y : Value} {xs : List Value} (h : Lit w base g cs t) (hte : t ≠ e) (ho : w.ownsRow base e s v n xs) (hg : w.grownBy w8 v.ownBlock) (hY : Y < base) : Lit (w8.setCell ⟨Y, i, none⟩ y) base g cs t := by
 refine ⟨h.1, ?_⟩
 have h1 := h.1; rw [Below.heap_setCell _ _ _ _ (show g ≠ Y by omega)]
 refine heap_grown hg h.2 fun ev => ?_
 rcases ho.2 with ⟨rfl, _⟩ | ⟨g', cap, cur, rfl, hb, hg', _⟩
 ·cases ev
 ·have : g' = g := by simpa [Value.ownBlock] using ev
  subst this; rw [h.2] at hg'
  injection hg' with hg'
  injection hg' with _ h3 _
  exact hte h3
def moP (X : Nat) (vr : Value) (base : Nat) (l : List (Value × Value)) (rn : Nat) : Nat -> Value -> World -> Prop
 | 0, v, _ => v = .pointer (some ⟨X, 0, none⟩)
 | 1, v, _ => v = .pointer (some ⟨X, 1, none⟩)
 | 2, v, _ => v = vr
 | 3, v, w => w.ownsRow base 61 2 v rn (ruFlat l)
 | 4, v, _ => v = .agg #[.int .i64 11, .int .i64 0]
 | 5, v, w => ∃ g, v = .slice (some ⟨g, 0, none⟩) 1 1 /\ Lit w base g #[.int .i64 11, .int .i64 0] 57
 | 6, v, w => ∃ g, v = .agg #[.slice (some ⟨g, 0, none⟩) 1 1, .slice none 0 0] /\ Lit w base g #[.int .i64 11, .int .i64 0] 57
 | 7, v, w => ∃ b g, v = .slice (some ⟨b, 0, none⟩) 1 1 /\ Lit w base b #[.slice (some ⟨g, 0, none⟩) 1 1, .slice none 0 0] 61 /\ Lit w base g #[.int .i64 11, .int .i64 0] 57
 | _, _, _ => True
theorem moP_stable (X : Nat) (vr : Value) (base : Nat) (l : List (Value × Value)) (rn : Nat) (i : Nat) (v : Value) (w w' : World) (hlt : i < 8) (h : moP X vr base l rn i v w) (hb : Below w.heap.size w w') : moP X vr base l rn i v w' := by
 have hc : i = 0 \/ i = 1 \/ i = 2 \/ i = 3 \/ i = 4 \/ i = 5 \/ i = 6 \/ i = 7 := by omega
 rcases hc with rfl | rfl | rfl | rfl | rfl | rfl | rfl | rfl
 ·exact h
 ·exact h
 ·exact h
 ·exact owns_later h hb (Nat.le_refl _)
 ·exact h
 ·obtain ⟨g, h1, h2⟩ := h; exact ⟨g, h1, h2.below hb⟩
 ·obtain ⟨g, h1, h2⟩ := h; exact ⟨g, h1, h2.below hb⟩
 ·obtain ⟨b, g, h1, h2, h3⟩ := h; exact ⟨b, g, h1, h2.below hb, h3.below hb⟩
def MoR (W : World) (U : Nat) (va pv fv : Value) (rs : List Ru) (w : World) : Prop := ∃ yo yc, RulesV w (.slice yo rs.length yc) rs /\ w.heap[U]? = some (tkB va (.slice yo rs.length yc) pv fv) /\ Below W.heap.size W w
theorem tkB_rules {w : World} {X : Nat} {va vr pv fv : Value} (hb : w.heap[X]? = some (tkB va vr pv fv)) (v : Value) : (w.setCell ⟨X, 1, none⟩ v).heap[X]? = some (tkB va v pv fv) := by
 unfold tkB at *; simp [World.setCell, Array.getElem?_modify, hb]
theorem topMore_walk (c0 c1 c2 c3 c4 c5 c6 : Value) (a b : Vr) (rules : List Ru) (rawv : Value) (rs : List (Int × Int)) (w : World) (hB : 0 < w.heap.size) (hT : TabAt w) (hG : GV a b) (hR : Raws w w.heap.size rawv rs)
  (hmd : ∀ w', Below w.heap.size w w' -> Calls Tryz.prog 16 #[.agg #[c0, c1, c2, c3, c4, c5, c6]] w' fun e w2 => ∃ va vr, e = .returned (.agg #[va, vr]) /\ Below w'.heap.size w' w2 /\ GModelR w2 va vr [a, b] rules) :
  Calls Tryz.prog 4 #[.agg #[c0, c1, c2, c3, c4, c5, c6], rawv] w fun e w' => e = .returned (.bool true) /\ Below w.heap.size w w' := by
 have hA1 : Below w.heap.size w (w.alloc (.cells #[c0, c1, c2, c3, c4, c5, c6] 25)) := (Below.refl _ _).alloc (Nat.le_refl _) _
 have HD0 : Hid (DBox (w.alloc (.cells #[c0, c1, c2, c3, c4, c5, c6] 25)) w.heap.size c0 c1 c2 c3 c4 c5 c6) := by
  show DBox _ _ _ _ _ _ _ _ _
  refine ⟨?_, ?_, ?_, ?_, ?_, ?_, ?_⟩ <;> simp [go_sem]
 have htk := taskR_any c0 c1 c2 c3 c4 c5 c6 a b rules rawv rs 3 _ hG (by decide) (hR.up hA1) (fun w' h => hmd w' (hA1.trans (h.mono hA1.size)))
 obtain ⟨ra, rn0, rc0, hra⟩ : ∃ a n c, rawv = .slice a n c := by obtain ⟨⟨a, c, h, _⟩, _, _⟩ := hR; exact ⟨_, _, _, h⟩
 subst hra
 have HVc : Hid (∀ (w' : World) (va vr pv fv : Value) (m : Mo) (l : List (Int × Int)) (T : Tm) (mm : Nat), Below w.heap.size w w' -> TaskV w' va vr pv fv m propsL l -> m.vars = [a, b] -> mcode m = 0 -> FOk mm l T -> l.length <= 59 -> mm <= 6 -> Calls Tryz.prog 11 #[.agg #[va, vr, pv, fv]] w' fun e w2 => ∃ bb so sn sc lo ln lc, e = .returned (.tuple #[.agg #[.bool bb, .slice so sn sc, .slice lo ln lc], .int .i64 0]) /\ Below w'.heap.size w' w2 /\ Hid (Kp m T bb)) := fun w' va vr pv fv m l T mm h hv hvars hmc hF hl hmm => vcheck_keep va vr pv fv m a b l T mm w' (Nat.lt_of_lt_of_le hB h.size) (hT.below h hB) hv hG hvars hmc hF hl hmm
 have HH : Hid (HoldsOk w c0 c1 c2 c3 c4 c5 c6 ⟨[a, b], rules⟩) := holdsOk hB hT hG hmd; have HG : Hid (GV a b) := hG; obtain ⟨iR, hiR, r0, r1, r2⟩ := info_parts infoRule; clear hmd hR hT hG
 go_enter Tryz.func4, Tryz.ntmps4
 go_upto_region 2 with (first | (go_at_call 7; refine htk.mono ?_; rintro e w1 ⟨ao, ac, ro, rn, rc, pb, fo, fn, fc, l, T, mm, rfl, hb1, HV, HK, hmm, hfn⟩))
 have hbw1 := hA1.trans (hb1.mono hA1.size); have hbA : Below w1.heap.size w1 (w1.alloc (.cells #[.slice ao 2 ac, .slice ro rn rc, .slice (some ⟨pb, 0, none⟩) 3 3, .slice fo fn fc] 34)) := (Below.refl _ _).alloc (Nat.le_refl _) _; have hbw2 := hbw1.trans (hbA.mono hbw1.size)
 have HX2 : Hid ((w1.alloc (.cells #[.slice ao 2 ac, .slice ro rn rc, .slice (some ⟨pb, 0, none⟩) 3 3, .slice fo fn fc] 34)).heap[w1.heap.size]? = some (tkB (.slice ao 2 ac) (.slice ro rn rc) (.slice (some ⟨pb, 0, none⟩) 3 3) (.slice fo fn fc))) := (MapKept.heap_alloc w1 _).1
 have HD2 : Hid (DBox (w1.alloc (.cells #[.slice ao 2 ac, .slice ro rn rc, .slice (some ⟨pb, 0, none⟩) 3 3, .slice fo fn fc] 34)) w.heap.size c0 c1 c2 c3 c4 c5 c6) := (HD0.out.below hb1).below hbA
 have HV2 : Hid (TaskV (w1.alloc (.cells #[.slice ao 2 ac, .slice ro rn rc, .slice (some ⟨pb, 0, none⟩) 3 3, .slice fo fn fc] 34)) (.slice ao 2 ac) (.slice ro rn rc) (.slice (some ⟨pb, 0, none⟩) 3 3) (.slice fo fn fc) ⟨[a, b], rules⟩ propsL l) := HV.out.below hbA; obtain ⟨⟨hmc, hr5, hrc⟩, hF, hfl, _⟩ := HK.out
 have hvc := HVc.out _ _ _ _ _ ⟨[a, b], rules⟩ l T mm hbw2 HV2.out rfl hmc hF (by omega) (by omega)
 generalize w1.alloc (.cells #[.slice ao 2 ac, .slice ro rn rc, .slice (some ⟨pb, 0, none⟩) 3 3, .slice fo fn fc] 34) = W2 at *; generalize w1.heap.size = X at *; obtain ⟨p0, p1, p2, p3⟩ := tkB_cells HX2.out; have HF : Hid (FOk mm l T /\ l.length <= 59 /\ mm <= 6) := ⟨hF, by omega, by omega⟩
 have HRc : Hid (rules.length <= 5 /\ ∀ j, j < rules.length -> rcode 2 (rules.getD j ru0) = 0) := ⟨hr5, hrc⟩
 clear hmc hr5 hrc hF hfl HK HV htk HD0
 go_upto_region 3 with (first | (go_at_call 11; refine hvc.mono ?_; rintro e w3 ⟨b1, so, sn, sc, lo, ln, lc, rfl, hb3, HK1⟩))
 have hbB : Below w3.heap.size w3 (w3.alloc (.cells #[.bool b1, .slice so sn sc, .slice lo ln lc] 51)) := (Below.refl _ _).alloc (Nat.le_refl _) _; have hb24 := hb3.trans (hbB.mono hb3.size); have HV4 : Hid ((w3.alloc (.cells #[.bool b1, .slice so sn sc, .slice lo ln lc] 51)).cell? ⟨w3.heap.size, 0, none⟩ = some (.bool b1)) := by show _ = _; simp [go_sem]
 generalize w3.alloc (.cells #[.bool b1, .slice so sn sc, .slice lo ln lc] 51) = W4 at *; generalize w3.heap.size = V1 at *; clear p0 p1 p2 p3 hvc; have hbX4 : W4.heap[X]? = some (tkB (.slice ao 2 ac) (.slice ro rn rc) (.slice (some ⟨pb, 0, none⟩) 3 3) (.slice fo fn fc)) := (hb24.block X (Array.getElem?_eq_some_iff.1 HX2.out).1).trans HX2.out
 obtain ⟨p0, p1, p2, p3⟩ := tkB_cells hbX4; obtain ⟨l2, hL, hrl, hro, hcells⟩ := rules_pairs (HV2.out.below hb24).mo.2; have HL4 : Hid (RuPairs W4 l2 rules) := hL; have HRO : Hid (ro = none -> rc = 0 /\ rn = 0) := hro
 have hbC : Below W4.heap.size W4 (W4.alloc (.cells #[.slice ao 2 ac, .slice ro rn rc, .slice (some ⟨pb, 0, none⟩) 3 3, .slice fo fn fc] 34)) := (Below.refl _ _).alloc (Nat.le_refl _) _; have hb26 := hb24.trans (hbC.mono hb24.size)
 have HU6 : Hid ((W4.alloc (.cells #[.slice ao 2 ac, .slice ro rn rc, .slice (some ⟨pb, 0, none⟩) 3 3, .slice fo fn fc] 34)).heap[W4.heap.size]? = some (tkB (.slice ao 2 ac) (.slice ro rn rc) (.slice (some ⟨pb, 0, none⟩) 3 3) (.slice fo fn fc))) := (MapKept.heap_alloc W4 _).1
 have HX6 : Hid ((W4.alloc (.cells #[.slice ao 2 ac, .slice ro rn rc, .slice (some ⟨pb, 0, none⟩) 3 3, .slice fo fn fc] 34)).heap[X]? = some (tkB (.slice ao 2 ac) (.slice ro rn rc) (.slice (some ⟨pb, 0, none⟩) 3 3) (.slice fo fn fc))) := (hbC.block X (Array.getElem?_eq_some_iff.1 hbX4).1).trans hbX4
 go_upto_region 4 with fail
 generalize W4.alloc (.cells #[.slice ao 2 ac, .slice ro rn rc, .slice (some ⟨pb, 0, none⟩) 3 3, .slice fo fn fc] 34) = W6 at *; generalize hUe : W4.heap.size = U at *; have hUs : U <= W6.heap.size := by rw [<- hUe]; exact hbC.size
 have hUX : X < U := by
  have := (Array.getElem?_eq_some_iff.1 hbX4).1
  omega
 clear p0 p1 p2 p3; have HCE : Hid (∀ w', Below W6.heap.size W6 w' -> ∀ ad, ro = some ad -> ∀ j u, (ruFlat l2)[j]? = some u -> w'.cell? (ad.add j) = some u) := fun w' h => hcells w' (hbC.trans (h.mono hUs))
 have HRL : Hid (rules.length = rn) := hrl; have HLL : Hid ((ruFlat l2).length = rn * 2) := by show _ = _; rw [ruFlat_length, hL.len, hrl]
 have hrn5 : rn <= 5 := by rw [<- hrl]; exact HRc.out.1
 clear hL hrl hro hcells hbX4
 go_cut [] (fun wx => Hid (MoR W4 U (.slice ao 2 ac) (.slice (some ⟨pb, 0, none⟩) 3 3) (.slice fo fn fc) (rules ++ [stayR]) wx))
 case first =>
  rename_i J K' hJ hK'; generalize ha0 : Act.mk _ _ = a0; have hsz : a0.tmps.size = 66 := by rw [<- ha0]; rfl
  have a5 : a0.eval (.tmp 5) = .pointer (some ⟨X, 0, none⟩) := by rw [<- ha0]; rfl
  have a8 : a0.eval (.tmp 8) = .pointer (some ⟨U, 0, none⟩) := by rw [<- ha0]; rfl
  refine wp_inorderW [22, 23, 24, 25, 26, 27, 28, 29, 30, 31, 32] 8 (moP X (.slice ro rn rc) W6.heap.size l2 rn) (by rw [hsz]; rfl) (moP_stable _ _ _ _ _) ?_ ?_
  ·intro i o hi ho q w' hb hq
   have f : ∀ t, [22, 23, 24, 25, 26, 27, 28, 29, 30, 31, 32].contains t = true -> t < 66 -> (frm a0 [22, 23, 24, 25, 26, 27, 28, 29, 30, 31, 32] q).eval (.tmp t) = q t := fun t h1 h2 => frm_in h1 (by rw [hsz]; exact h2)
   have e5 : (frm a0 [22, 23, 24, 25, 26, 27, 28, 29, 30, 31, 32] q).eval (.tmp 5) = .pointer (some ⟨X, 0, none⟩) := (frm_out rfl).trans a5; obtain ⟨m0, m1, m2, m3⟩ := tkB_cells ((hb.block X (Array.getElem?_eq_some_iff.1 HX6.out).1).trans HX6.out)
   have hsw := hb.size; have hA : ∀ o, Below w'.heap.size w' (w'.alloc o) := fun o => (Below.refl _ _).alloc (Nat.le_refl _) o
   obtain ⟨ev, hev⟩ : ∃ ev, ev = (frm a0 [22, 23, 24, 25, 26, 27, 28, 29, 30, 31, 32] q).eval := ⟨_, rfl⟩
   have evc : ∀ v, ev (.const v) = v := fun v => by rw [hev]; rfl
   rw [<- hev] at f e5; have hc : i = 0 \/ i = 1 \/ i = 2 \/ i = 3 \/ i = 4 \/ i = 5 \/ i = 6 \/ i = 7 := by omega
   rcases hc with rfl | rfl | rfl | rfl | rfl | rfl | rfl | rfl
   all_goals obtain rfl := Option.some.inj ho
   ·refine op_val (w' := w') (v := Value.pointer (some ⟨X, 0, none⟩)) ?_ (Below.refl _ _) rfl
    rw [<- hev]; simp [execOp, e5, go_sem]
   ·have e22 := (f 22 rfl (by decide)).trans (hq 0 22 rfl rfl)
    refine op_val (w' := w') (v := Value.pointer (some ⟨X, 1, none⟩)) ?_ (Below.refl _ _) rfl
    rw [<- hev]; simp [execOp, e22, go_sem]
   ·have e23 := (f 23 rfl (by decide)).trans (hq 1 23 rfl rfl)
    refine op_val (w' := w') ?_ (Below.refl _ _) rfl
    rw [<- hev]; simp [execOp, e23, m1, go_sem]
   ·have e24 := (f 24 rfl (by decide)).trans (hq 2 24 rfl rfl)
    exact wp_copy (.const (.slice none 0 0)) (.tmp 24) 28 rfl W6.heap.size 61 iR _ 2 48 Tryz.underlying28 hiR r0 r1 r2 rfl (by decide) rfl ro rn rc (ruFlat l2) (by rw [<- hev]; exact e24) HRO.out HLL.out (HCE.out _ hb) HL4.out.one (by unfold maxLen; omega) (by omega) hb.size fun v' w2 ho2 hg2 => ⟨v', rfl, below_of_grown hg2, ho2⟩
   ·refine op_val (w' := w') (v := .agg #[.int .i64 11, .int .i64 0]) ?_ (Below.refl _ _) rfl
    rw [<- hev]; simp [execOp, evc, go_sem]
   ·have e26 := (f 26 rfl (by decide)).trans (hq 4 26 rfl rfl)
    refine op_val (v := .slice (some ⟨w'.heap.size, 0, none⟩) 1 1) (w' := w'.alloc (.cells #[.int .i64 11, .int .i64 0] 57)) ?_ (hA _) ⟨_, rfl, Lit.new hsw _ _⟩
    rw [<- hev]; simp [execOp, e26, go_sem]
   ·obtain ⟨g, hg, hlit⟩ := hq 5 27 rfl rfl
    have e27 := (f 27 rfl (by decide)).trans hg
    refine op_val (w' := w') (v := .agg #[.slice (some ⟨g, 0, none⟩) 1 1, .slice none 0 0]) ?_ (Below.refl _ _) ⟨g, rfl, hlit⟩
    rw [<- hev]; simp [execOp, e27, go_sem]
   ·obtain ⟨g, hg, hlit⟩ := hq 6 28 rfl rfl
    have e28 := (f 28 rfl (by decide)).trans hg
    refine op_val (v := .slice (some ⟨w'.heap.size, 0, none⟩) 1 1) (w' := w'.alloc (.cells #[.slice (some ⟨g, 0, none⟩) 1 1, .slice none 0 0] 61)) ?_ (hA _) ⟨_, g, rfl, Lit.new hsw _ _, hlit.below (hA _)⟩
    rw [<- hev]; simp [execOp, e28, go_sem]
  ·intro q w' hb hq
   have f : ∀ q t, [22, 23, 24, 25, 26, 27, 28, 29, 30, 31, 32].contains t = true -> t < 66 -> (frm a0 [22, 23, 24, 25, 26, 27, 28, 29, 30, 31, 32] q).eval (.tmp t) = q t := fun q t h1 h2 => frm_in h1 (by rw [hsz]; exact h2)
   have ho2 : w'.ownsRow W6.heap.size 61 2 (q 25) rn (ruFlat l2) := hq 3 25 (by decide) rfl
   obtain ⟨g, x0, hg29, hgb, t0⟩ := hq 7 29 (by decide) rfl
   show wpOps Tryz.prog _ _ [8, 9, 10, 11] _ _
   rw [wpOps_cons]; refine op_atR rfl rfl ?_
   refine wp_append_lies _ (.tmp 25) (.tmp 29) 28 rfl W6.heap.size 61 iR _ 2 48 Tryz.underlying28 hiR r0 r1 r2 rfl (by decide) (q 25) rn (ruFlat l2) (f q 25 rfl (by decide)) ho2 ⟨g, 0, none⟩ 1 1 [.slice (some ⟨x0, 0, none⟩) 1 1, .slice none 0 0] ((f q 29 rfl (by decide)).trans hg29) rfl (World.news_of_block hgb.2) (by intro u hu; simp at hu; rcases hu with rfl | rfl <;> rfl) (by decide) (by unfold maxLen; omega) (by omega) hb.size w'.heap.size rfl ?_
   intro g6 cp6 w6 ho6 hg6 hat6 hgl6; have hb6 : Below W6.heap.size W6 w6 := hb.grown hg6 hb.size (fun z hz => (ho2.lt z hz).1)
   have hU6 : w6.heap[U]? = some (tkB (.slice ao 2 ac) (.slice ro rn rc) (.slice (some ⟨pb, 0, none⟩) 3 3) (.slice fo fn fc)) := (hb6.block U (Array.getElem?_eq_some_iff.1 HU6.out).1).trans HU6.out
   have hUl : U < W6.heap.size := (Array.getElem?_eq_some_iff.1 HU6.out).1
   obtain ⟨k0, k1, k2, k3⟩ := tkB_cells hU6; have kf := tkB_free hU6 1; rw [late_put 30 rfl rfl, wpOps_cons]; refine op_atR rfl rfl ?_
   have e8 : ∀ q, (frm a0 [22, 23, 24, 25, 26, 27, 28, 29, 30, 31, 32] q).eval (.tmp 8) = .pointer (some ⟨U, 0, none⟩) := fun q => (frm_out rfl).trans a8
   refine op_run (w' := w6) (v := .pointer (some ⟨U, 0, none⟩)) ?_ ?_
   ·have e8' := e8 (setV q 30 (.slice (some ⟨g6, 0, none⟩) (rn + 1) cp6))
    generalize (frm a0 [22, 23, 24, 25, 26, 27, 28, 29, 30, 31, 32] (setV q 30 (.slice (some ⟨g6, 0, none⟩) (rn + 1) cp6))).eval = ev at e8' ⊢; simp [execOp, e8', go_sem]
   rw [late_put 31 rfl rfl, wpOps_cons]; refine op_atR rfl rfl ?_
   have e31 := f (setV (setV q 30 (.slice (some ⟨g6, 0, none⟩) (rn + 1) cp6)) 31 (.pointer (some ⟨U, 0, none⟩))) 31 rfl (by decide)
   rw [setV_same] at e31; refine op_run (w' := w6) (v := .pointer (some ⟨U, 1, none⟩)) ?_ ?_
   ·generalize (frm a0 [22, 23, 24, 25, 26, 27, 28, 29, 30, 31, 32] (setV (setV q 30 (.slice (some ⟨g6, 0, none⟩) (rn + 1) cp6)) 31 (.pointer (some ⟨U, 0, none⟩)))).eval = ev at e31 ⊢
    simp [execOp, e31, go_sem]
   rw [late_put 32 rfl rfl, wpOps_cons]; refine op_atR rfl rfl ?_
   have e30 := f (setV (setV (setV q 30 (.slice (some ⟨g6, 0, none⟩) (rn + 1) cp6)) 31 (.pointer (some ⟨U, 0, none⟩))) 32 (.pointer (some ⟨U, 1, none⟩))) 30 rfl (by decide)
   have e32 := f (setV (setV (setV q 30 (.slice (some ⟨g6, 0, none⟩) (rn + 1) cp6)) 31 (.pointer (some ⟨U, 0, none⟩))) 32 (.pointer (some ⟨U, 1, none⟩))) 32 rfl (by decide)
   rw [setV_same] at e32; rw [setV_other (by decide), setV_other (by decide), setV_same] at e30
   refine op_skip (w' := w6.setCell ⟨U, 1, none⟩ (.slice (some ⟨g6, 0, none⟩) (rn + 1) cp6)) rfl ?_ ?_
   ·generalize (frm a0 [22, 23, 24, 25, 26, 27, 28, 29, 30, 31, 32] (setV (setV (setV q 30 (.slice (some ⟨g6, 0, none⟩) (rn + 1) cp6)) 31 (.pointer (some ⟨U, 0, none⟩))) 32 (.pointer (some ⟨U, 1, none⟩)))).eval = ev at e30 e32 ⊢
    simp [execOp, e30, e32, go_sem, k1, kf]
   show K' _ _
   refine hK' _ _ ?_
   rw [<- ha0]
   go_meet
   have hb46 := hbC.trans (hb6.mono hUs); have hbf : Below U W4 (w6.setCell ⟨U, 1, none⟩ (.slice (some ⟨g6, 0, none⟩) (rn + 1) cp6)) := hb46.setCell (Nat.le_refl _) _; have ho' := ownsRow_setCell_below ho6 (a := ⟨U, 1, none⟩) hUl (.slice (some ⟨g6, 0, none⟩) (rn + 1) cp6); have hlen : (rules ++ [stayR]).length = rn + 1 := by rw [List.length_append, HRL.out]; rfl
   have u0 := t0.far (by decide) ho2 hg6 hUl (i := 1) (y := .slice (some ⟨g6, 0, none⟩) (rn + 1) cp6)
   have hpn : RuPairs (w6.setCell ⟨U, 1, none⟩ (.slice (some ⟨g6, 0, none⟩) (rn + 1) cp6)) [(.slice (some ⟨x0, 0, none⟩) 1 1, .slice none 0 0)] [stayR] := RuPairs.cons (ops_lit u0.2) (sets_nil _) (RuPairs.nil _); have e : ruFlat l2 ++ [.slice (some ⟨x0, 0, none⟩) 1 1, .slice none 0 0] = ruFlat (l2 ++ [(.slice (some ⟨x0, 0, none⟩) 1 1, .slice none 0 0)]) := by rw [ruFlat_app]; rfl
   rw [e] at ho'; refine ⟨some ⟨g6, 0, none⟩, cp6, ?_, ?_, by rw [hUe]; exact hbf⟩
   ·rw [hlen]
    exact pairs_rules ho' hlen.symm ((HL4.out.below (by rw [hUe]; exact hbf)).app hpn)
   ·rw [hlen]; exact tkB_rules hU6 _
 case rest =>
  obtain ⟨yo, yc, hRY, hUY, hbY⟩ := hcut.out; have hlen : (rules ++ [stayR]).length = rn + 1 := by rw [List.length_append, HRL.out]; rfl
  rw [hlen] at hRY hUY; have hb2Y := hb24.trans (hbY.mono hb24.size); have hbwY := hbw2.trans (hb2Y.mono hbw2.size); have hmc' : mcode ⟨[a, b], rules ++ [stayR]⟩ = 0 := HG.out.mcode (by rw [List.length_append]; have := HRc.out.1; simp; omega) (rc_snoc HRc.out.2 stay_rcode)
  have hV2 := HV2.out.below hb2Y; have hvc2 := HVc.out wc (.slice ao 2 ac) (.slice yo (rn + 1) yc) (.slice (some ⟨pb, 0, none⟩) 3 3) (.slice fo fn fc) ⟨[a, b], rules ++ [stayR]⟩ l T mm hbwY ⟨⟨hV2.mo.1, hRY⟩, hV2.ps, hV2.fo⟩ rfl hmc' HF.out.1 HF.out.2.1 HF.out.2.2; obtain ⟨p0, p1, p2, p3⟩ := tkB_cells hUY
  have hV4Y := (hbY.cell (p := ⟨V1, 0, none⟩) (World.block_lt_of_cell? _ _ HV4.out)).trans HV4.out; have HDY : Hid (DBox wc w.heap.size c0 c1 c2 c3 c4 c5 c6) := HD2.out.below hb2Y; have HVY : Hid (wc.cell? ⟨V1, 0, none⟩ = some (.bool b1)) := hV4Y; have HBwY : Hid (Below w.heap.size w wc) := hbwY
  clear hcut hRY hUY hlen hb2Y hmc' hV2 HCE HRL HLL HL4 HRO HU6 HX6 HX2 HV2 HVc HF HRc hV4Y HV4 hbY hbwY hiR r0 r1 r2 hUX hbC hb26; obtain ⟨w7, rfl⟩ : ∃ w7, w7 = wc := ⟨_, rfl⟩
  go_upto_region 6 with (first | (go_at_call 11; refine hvc2.mono ?_; rintro e w8 ⟨b2, so2, sn2, sc2, lo2, ln2, lc2, rfl, hb8, HK2⟩))
  have hbD : Below w8.heap.size w8 (w8.alloc (.cells #[.bool b2, .slice so2 sn2 sc2, .slice lo2 ln2 lc2] 51)) := (Below.refl _ _).alloc (Nat.le_refl _) _; have hb79 := hb8.trans (hbD.mono hb8.size); have HV9 : Hid ((w8.alloc (.cells #[.bool b2, .slice so2 sn2 sc2, .slice lo2 ln2 lc2] 51)).cell? ⟨w8.heap.size, 0, none⟩ = some (.bool b2)) := by show _ = _; simp [go_sem]
  generalize w8.alloc (.cells #[.bool b2, .slice so2 sn2 sc2, .slice lo2 ln2 lc2] 51) = W9 at *; generalize w8.heap.size = V2 at *; have hbw9 := HBwY.out.trans (hb79.mono HBwY.out.size); obtain ⟨q0, q1, q2, q3, q4, q5, q6⟩ := HDY.out.below hb79; have hbE : Below W9.heap.size W9 (W9.alloc (.cells #[.int .i64 11, .int .i64 0] 57)) := (Below.refl _ _).alloc (Nat.le_refl _) _
  have hho := HH.out (W9.alloc (.cells #[.int .i64 11, .int .i64 0] 57)) (.slice (some ⟨W9.heap.size, 0, none⟩) 1 1) [(11, 0)] _ 0 (hbw9.trans (hbE.mono hbw9.size)) (ops_one W9 11 0) FOk.yes (by decide) (by decide)
  clear p0 p1 p2 p3 hvc2
  go_upto_region 7 with (first | (go_at_call 12; refine hho.mono ?_; rintro e w11 ⟨bb, rfl, hb11, HKp⟩))
  have hb9F := hbE.trans (hb11.mono hbE.size); have hb7F := hb79.trans (hb9F.mono hb79.size); have v1 := (hb7F.cell (p := ⟨V1, 0, none⟩) (World.block_lt_of_cell? _ _ HVY.out)).trans HVY.out; have v2 := (hb9F.cell (p := ⟨V2, 0, none⟩) (World.block_lt_of_cell? _ _ HV9.out)).trans HV9.out; have hbF := hbw9.trans (hb9F.mono hbw9.size); obtain rfl := kp_yes HKp.out
  have himp := kp_more HG.out HK1.out HK2.out; clear hho HKp HH HV9 HVY HDY HD2 q0 q1 q2 q3 q4 q5 q6 HK1 HK2 HG
  cases b1 with
  | true =>
   go_wp2_with fail
   go_ret
   exact ⟨by first | rfl | simp, hbF⟩
  | false =>
   obtain rfl : b2 = false := by cases b2 <;> simp_all
   go_wp2_with fail
   go_ret
   exact ⟨by first | rfl | simp, hbF⟩
end Go.Proofs.YteejnjcdfmedlaaGreatDoor
