import Derived.Test.YtobopjjmhginlaaGreatDoorClaimM2
namespace Go.Proofs.YtobopjjmhginlaaGreatDoor
open Terms
set_option maxHeartbeats 6400000
set_option maxRecDepth 20000
theorem const_from {t : Nat -> Bool} {i j : Nat} (h : ∀ m, i <= m -> m < j -> t m = t (m + 1)) : ∀ m, i <= m -> m <= j -> t i = t m := by
  intro m
  induction m with
  | zero => intro h1 _; rw [Nat.le_zero.1 h1]
  | succ m ih =>
    intro h1 h2
    by_cases e : i = m + 1
    · rw [e]
    · rw [ih (by omega) (by omega), h m (by omega) (by omega)]
theorem unt_unique {u v t : Nat -> Bool} (d : Bool) (hst : ∀ i, t i = (u i || (v i && t (i + 1)))) (i : Nat) : t i = untB u v d i \/ ∀ m, i <= m -> u m = false /\ v m = true /\ t m = !d := by
  by_cases hex : ∃ j, i <= j /\ (u j = true \/ v j = false)
  · left
    obtain ⟨j0, h0, h1⟩ := hex; obtain ⟨j, hj, hp, hless⟩ := Tm.least (P := fun j => u j = true \/ v j = false) i j0 h0 h1
    have hmid : ∀ m, i <= m -> m < j -> u m = false /\ v m = true := fun m a b => by
      have := hless m a b
      constructor
      · exact Bool.eq_false_iff.2 fun e => this (.inl e)
      · exact Classical.byContradiction fun e => this (.inr (Bool.eq_false_iff.2 e))
    have h1 := const_from (t := t) (i := i) (j := j) (fun m a b => by have := hmid m a b; rw [hst m, this.1, this.2]; simp) j hj (Nat.le_refl _)
    have h2 := const_from (t := untB u v d) (i := i) (j := j) (fun m a b => by have := hmid m a b; rw [untB_step u v d m, this.1, this.2]; simp) j hj (Nat.le_refl _)
    rw [h1, h2, hst j, untB_step]
    rcases hp with h | h
    · rw [h]; simp
    · rw [h]; simp
  · have hall : ∀ m, i <= m -> u m = false /\ v m = true := fun m hm => by
      constructor
      · exact Bool.eq_false_iff.2 fun e => hex ⟨m, hm, .inl e⟩
      · exact Classical.byContradiction fun e => hex ⟨m, hm, .inr (Bool.eq_false_iff.2 e)⟩
    have hc : ∀ m, i <= m -> t i = t m := fun m hm => const_from (t := t) (i := i) (j := m) (fun k a _ => by have := hall k a; rw [hst k, this.1, this.2]; simp) m hm (Nat.le_refl _)
    by_cases e : t i = d
    · left
      rw [e, unt_stuck (u := u) (v := v) (d := d) hall]
    · right
      intro m hm; refine ⟨(hall m hm).1, (hall m hm).2, ?_⟩
      rw [<- hc m hm]; generalize t i = x at e
      cases d <;> cases x <;> first | rfl | exact absurd rfl e
theorem line_only {T : Tm} (hw : T.Wf) {l : List (Int × Int)} (ho : T.ops = l) (hz : endsCode (l.map Prod.fst) = 0) {ls : List (List Bool)} {s : Nat} (hs : s < ls.length) (t : Nat -> Nat -> Bool)
    (hper : ∀ i p, t (moAt s ls.length i) p = t i p)
    (hmk : ∀ i p, p < l.length -> lookB (l.getD p (0, 0)).1 = false -> (1 <= pn (l.getD p (0, 0)).1 -> t i (p + 1) = (T.sub (p + 1)).hb (sig ls s) i) -> (pn (l.getD p (0, 0)).1 = 2 -> t i (sec l p) = (T.sub (sec l p)).hb (sig ls s) i) -> t i p = (T.sub p).hb (sig ls s) i)
    (hfol : ∀ i p, p < l.length -> lookB (l.getD p (0, 0)).1 = true -> t i p = comeB (l.getD p (0, 0)).1 (t i (p + 1)) (t i (sec l p)) (t (i + 1) p) (t (i + 1) (p + 1)))
    (hmet : ∀ p, p < l.length -> lookB (l.getD p (0, 0)).1 = true -> ∃ i, s <= i /\ i < ls.length /\ waitB (l.getD p (0, 0)).1 (t i p) (t i (p + 1)) (t i (sec l p)) = false) :
    ∀ d p, l.length <= p + d -> p < l.length -> ∀ i, t i p = (T.sub p).hb (sig ls s) i := by
  intro d
  induction d with
  | zero => intro p h1 h2; omega
  | succ d ih =>
    intro p h1 h2 i; obtain ⟨q1, q2⟩ := part_in hz h2
    cases hb : lookB (l.getD p (0, 0)).1 with
    | false => exact hmk i p h2 hb (fun h => ih (p + 1) (by omega) (q1 h) i) (fun h => ih (sec l p) (by have := (q2 h).1; omega) (q2 h).2 i)
    | true =>
      have hnw : ∀ c, (∀ m, c <= m -> waitB (l.getD p (0, 0)).1 (t m p) (t m (p + 1)) (t m (sec l p)) = true) -> False := fun c hall => by
        obtain ⟨i0, a1, a2, a3⟩ := hmet p h2 hb
        have hj : moAt s ls.length (i0 + c * (ls.length - s)) = i0 := by
          unfold moAt
          split
          · rename_i hlt
            have : c * (ls.length - s) = 0 := by
              rcases Nat.eq_zero_or_pos c with h | h
              · rw [h, Nat.zero_mul]
              · have : ls.length - s <= c * (ls.length - s) := Nat.le_mul_of_pos_left _ h
                omega
            omega
          · rw [show i0 + c * (ls.length - s) - s = (i0 - s) + c * (ls.length - s) by omega, Nat.add_mul_mod_self_right, Nat.mod_eq_of_lt (by omega)]
            omega
        have hle : c <= i0 + c * (ls.length - s) := by
          have : c * 1 <= c * (ls.length - s) := Nat.mul_le_mul_left _ (by omega)
          omega
        have := hall _ hle; rw [<- hper (i0 + c * (ls.length - s)) p, <- hper (i0 + c * (ls.length - s)) (p + 1), <- hper (i0 + c * (ls.length - s)) (sec l p), hj, a3] at this
        cases this
      rcases look_parts hw ho h2 hb with ⟨k, v, a, hk, e1, e2, e3⟩ | ⟨k, v, a, b, hk, e1, e2, e3, e4⟩
      · have hp1 : p + 1 < l.length := q1 (by rw [e1]; rcases hk with rfl | rfl | rfl <;> decide)
        have ha : ∀ i, t i (p + 1) = Tm.hb (sig ls s) a i := fun i => by rw [ih (p + 1) (by omega) hp1 i, e3]
        have hf := fun i => hfol i p h2 hb
        rw [e1] at hnw; rw [e2]
        rcases hk with rfl | rfl | rfl
        · have := hf i
          rw [e1] at this; rw [this, Tm.hb_next, <- ha]; rfl
        · rw [Tm.hb_fin]
          rcases unt_unique (u := Tm.hb (sig ls s) a) (v := fun _ => true) (t := fun i => t i p) false (fun i => by show t i p = _; rw [hf i, e1, ha]; rfl) i with h | h
          · exact h
          · exact (hnw i fun m hm => by have := h m hm; rw [ha, this.1, this.2.2]; rfl).elim
        · rw [Tm.hb_glob]
          rcases unt_unique (u := fun _ => false) (v := Tm.hb (sig ls s) a) (t := fun i => t i p) true (fun i => by show t i p = _; rw [hf i, e1, ha]; simp [comeB]) i with h | h
          · exact h
          · exact (hnw i fun m hm => by have := h m hm; rw [ha, this.2.1, this.2.2]; rfl).elim
      · have hp2 : pn (l.getD p (0, 0)).1 = 2 := by rw [e1]; rcases hk with rfl | rfl <;> rfl
        have hp1 : p + 1 < l.length := q1 (by omega)
        have ha : ∀ i, t i (p + 1) = Tm.hb (sig ls s) a i := fun i => by rw [ih (p + 1) (by omega) hp1 i, e3]
        have hbb : ∀ i, t i (sec l p) = Tm.hb (sig ls s) b i := fun i => by rw [ih (sec l p) (by have := (q2 hp2).1; omega) (q2 hp2).2 i, e4]
        have hf := fun i => hfol i p h2 hb
        rw [e1] at hnw; rw [e2]
        rcases hk with rfl | rfl
        · rw [Tm.hb_until]
          rcases unt_unique (u := Tm.hb (sig ls s) b) (v := Tm.hb (sig ls s) a) (t := fun i => t i p) false (fun i => by show t i p = _; rw [hf i, e1, ha, hbb]; rfl) i with h | h
          · exact h
          · exact (hnw i fun m hm => by have := h m hm; rw [hbb, this.1, this.2.2]; cases t m (p + 1) <;> rfl).elim
        · rw [Tm.hb_rel]
          rcases unt_unique (u := fun j => Tm.hb (sig ls s) a j && Tm.hb (sig ls s) b j) (v := Tm.hb (sig ls s) b) (t := fun i => t i p) true (fun i => by show t i p = _; rw [hf i, e1, ha, hbb]; show (_ && (_ || _)) = (_ || _); cases Tm.hb (sig ls s) a i <;> cases Tm.hb (sig ls s) b i <;> simp) i with h | h
          · exact h
          · exact (hnw i fun m hm => by have := h m hm; rw [hbb, this.2.1, this.2.2]; cases t m (p + 1) <;> rfl).elim
end Go.Proofs.YtobopjjmhginlaaGreatDoor
