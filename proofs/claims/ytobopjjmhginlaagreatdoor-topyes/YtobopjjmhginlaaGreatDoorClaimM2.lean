import Derived.Test.YtobopjjmhginlaaGreatDoorClaimM
import Derived.Test.YtobopjjmhginlaaGreatDoorLogicWait
namespace Go.Proofs.YtobopjjmhginlaaGreatDoor
open Terms
set_option maxHeartbeats 6400000
set_option maxRecDepth 20000
theorem kind_cases {k : Int} (h : lookB k = true) : k = 14 \/ k = 15 \/ k = 16 \/ k = 17 \/ k = 18 := by
  have : 14 <= k /\ k <= 18 := by simpa [lookB] using h
  omega
theorem look_parts {T : Tm} (hw : T.Wf) {l : List (Int × Int)} (ho : T.ops = l) {p : Nat} (hp : p < l.length) (hb : lookB (l.getD p (0, 0)).1 = true) :
    (∃ k v a, (k = 14 \/ k = 17 \/ k = 18) /\ (l.getD p (0, 0)).1 = k /\ T.sub p = .un k v a /\ T.sub (p + 1) = a) \/ (∃ k v a b, (k = 15 \/ k = 16) /\ (l.getD p (0, 0)).1 = k /\ T.sub p = .bi k v a b /\ T.sub (p + 1) = a /\ T.sub (sec l p) = b) := by
  have hsz : T.size = l.length := by rw [<- Tm.ops_length, ho]
  have hq : p < T.size := by omega
  have hop := op_at ho hq; have hwf := Tm.sub_wf hw p; have hk := kind_cases hb; rw [hop] at hk ⊢
  cases hT : T.sub p with
  | leaf k v =>
    rw [hT] at hk hwf; have hpn : pn k = 0 := hwf.2; simp only [Tm.kind] at hk
    exfalso
    rcases hk with rfl | rfl | rfl | rfl | rfl <;> exact absurd hpn (by decide)
  | un k v a =>
    have h1 := sub_one hq hT; rw [hT] at hk hwf; have hpn : pn k = 1 := hwf.2.1; simp only [Tm.kind] at hk ⊢
    left
    refine ⟨k, v, a, ?_, rfl, rfl, h1⟩
    rcases hk with rfl | rfl | rfl | rfl | rfl
    · exact .inl rfl
    · exact absurd hpn (by decide)
    · exact absurd hpn (by decide)
    · exact .inr (.inl rfl)
    · exact .inr (.inr rfl)
  | bi k v a b =>
    have h1 := sub_fst hq hT; have h2 := sub_snd hw ho hq hT; rw [hT] at hk hwf; have hpn : pn k = 2 := hwf.2.1; simp only [Tm.kind] at hk ⊢
    right
    refine ⟨k, v, a, b, ?_, rfl, rfl, h1, h2⟩
    rcases hk with rfl | rfl | rfl | rfl | rfl
    · exact absurd hpn (by decide)
    · exact .inl rfl
    · exact .inr rfl
    · exact absurd hpn (by decide)
    · exact absurd hpn (by decide)
theorem line_come {T : Tm} (hw : T.Wf) {l : List (Int × Int)} (ho : T.ops = l) (σ : Nat -> Nat -> Bool) {p : Nat} (hp : p < l.length) (hb : lookB (l.getD p (0, 0)).1 = true) (i : Nat) :
    (T.sub p).hb σ i = comeB (l.getD p (0, 0)).1 ((T.sub (p + 1)).hb σ i) ((T.sub (sec l p)).hb σ i) ((T.sub p).hb σ (i + 1)) ((T.sub (p + 1)).hb σ (i + 1)) := by
  rcases look_parts hw ho hp hb with ⟨k, v, a, hk, e1, e2, e3⟩ | ⟨k, v, a, b, hk, e1, e2, e3, e4⟩
  · rw [e1, e2, e3]
    rcases hk with rfl | rfl | rfl
    · rw [Tm.hb_next]; rfl
    · rw [Tm.hb_fin, untB_step, <- Tm.hb_fin σ v]; simp [comeB]
    · rw [Tm.hb_glob, untB_step, <- Tm.hb_glob σ v]; simp [comeB]
  · rw [e1, e2, e3, e4]
    rcases hk with rfl | rfl
    · rw [Tm.hb_until, untB_step, <- Tm.hb_until σ v]; rfl
    · rw [Tm.hb_rel, untB_step, <- Tm.hb_rel σ v]
      show (_ || _) = (_ && (_ || _))
      cases Tm.hb σ a i <;> cases Tm.hb σ b i <;> simp
theorem line_meets {T : Tm} (hw : T.Wf) {l : List (Int × Int)} (ho : T.ops = l) {ls : List (List Bool)} {s : Nat} (hs : s < ls.length) {p : Nat} (hp : p < l.length) (hb : lookB (l.getD p (0, 0)).1 = true) :
    ∃ i, s <= i /\ i < ls.length /\ waitB (l.getD p (0, 0)).1 ((T.sub p).hb (sig ls s) i) ((T.sub (p + 1)).hb (sig ls s) i) ((T.sub (sec l p)).hb (sig ls s) i) = false := by
  refine Classical.byContradiction fun hno => ?_
  have hall : ∀ i, s <= i -> waitB (l.getD p (0, 0)).1 ((T.sub p).hb (sig ls s) i) ((T.sub (p + 1)).hb (sig ls s) i) ((T.sub (sec l p)).hb (sig ls s) i) = true := fun i hi => by
    have hm : s <= moAt s ls.length i /\ moAt s ls.length i < ls.length := ⟨by unfold moAt; split <;> omega, moAt_lt hs⟩
    refine Classical.byContradiction fun hf => hno ⟨moAt s ls.length i, hm.1, hm.2, ?_⟩
    rw [hb_mo hs, hb_mo hs, hb_mo hs]; exact Bool.eq_false_iff.2 hf
  rcases look_parts hw ho hp hb with ⟨k, v, a, hk, e1, e2, e3⟩ | ⟨k, v, a, b, hk, e1, e2, e3, e4⟩
  · rw [e1, e2, e3] at hall
    rcases hk with rfl | rfl | rfl
    · exact absurd (hall s (Nat.le_refl _)) (by simp [waitB])
    · have h1 : ∀ i, s <= i -> Tm.hb (sig ls s) (.un 17 v a) i = true /\ Tm.hb (sig ls s) a i = false := fun i hi => by simpa [waitB] using hall i hi
      have h0 := (h1 s (Nat.le_refl _)).1; rw [Tm.hb_fin, untB_iff] at h0
      rcases h0 with ⟨j, hj, hu, _⟩ | ⟨hd, _⟩
      · rw [(h1 j hj).2] at hu; cases hu
      · cases hd
    · have h1 : ∀ i, s <= i -> Tm.hb (sig ls s) (.un 18 v a) i = false /\ Tm.hb (sig ls s) a i = true := fun i hi => by simpa [waitB] using hall i hi
      have h0 := (h1 s (Nat.le_refl _)).1
      have : Tm.hb (sig ls s) (.un 18 v a) s = true := by
        rw [Tm.hb_glob, untB_iff]; exact .inr ⟨rfl, fun m hm => (h1 m hm).2⟩
      rw [this] at h0; cases h0
  · rw [e1, e2, e3, e4] at hall
    rcases hk with rfl | rfl
    · have h1 : ∀ i, s <= i -> Tm.hb (sig ls s) (.bi 15 v a b) i = true /\ Tm.hb (sig ls s) b i = false := fun i hi => by simpa [waitB] using hall i hi
      have h0 := (h1 s (Nat.le_refl _)).1; rw [Tm.hb_until, untB_iff] at h0
      rcases h0 with ⟨j, hj, hu, _⟩ | ⟨hd, _⟩
      · rw [(h1 j hj).2] at hu; cases hu
      · cases hd
    · have h1 : ∀ i, s <= i -> Tm.hb (sig ls s) (.bi 16 v a b) i = false /\ Tm.hb (sig ls s) b i = true := fun i hi => by simpa [waitB] using hall i hi
      have h0 := (h1 s (Nat.le_refl _)).1
      have : Tm.hb (sig ls s) (.bi 16 v a b) s = true := by
        rw [Tm.hb_rel, untB_iff]; exact .inr ⟨rfl, fun m hm => (h1 m hm).2⟩
      rw [this] at h0; cases h0
end Go.Proofs.YtobopjjmhginlaaGreatDoor
