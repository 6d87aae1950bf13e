/-
  A region that draws its order, one operation of which changes what was there: what each other leaves stands, whatever the order.
-/
import Derived.Test.YtknneajaklcjdaaAnyOps
namespace Go.Proofs.Ytknneajaklcjdaa
open Go.ChangeShapes Go.WideShapes Go.ChangeAt Go.RowKit Go.Deep

/-- so far: some of the first m operations have come; whether the one that changes is among them. -/
structure EarlyE (ops : Array Oper) (m e : Nat) (J : Bool → World → Prop) (post : Nat → Value → World → Prop) (l : Array Bool) (q : Nat → Value) (w : World) : Prop where
  size : l.size = ops.size
  later : ∀ i, m ≤ i → ¬ doneAt l i
  closed : ∀ i k, doneAt l i → waits ops i k = true → doneAt l k
  inv : ∀ b : Bool, (b = true ↔ doneAt l e) → J b w
  posts : ∀ i t, i < m → doneAt l i → dstOf ops i = some t → post i (q t) w
/-- A REGION IN WHATEVER ORDER, one operation of which changes what was there. -/
theorem wp_anywayE {P : Program} {id : Nat} {ops : Array Oper} {Q : Exit → Act → World → Prop} {a0 : Act} {w0 : World} (hmo : P.follows .mixedOrders = true) (ds : List Nat) (m e : Nat) (he : e < m) (J : Bool → World → Prop) (post : Nat → Value → World → Prop)
    (hsh : shapeOk ops ds a0.tmps.size m = true)
    (start : J false { w0 with drawn := w0.drawn + 1 })
    (step : ∀ (i : Nat) (o : Oper), i < m → ops[i]? = some o → ∀ q w b, (i = e → b = false) → J b w → (∀ k t, waits ops i k = true → dstOf ops k = some t → post k (q t) w) → Oper.wp P o (frm a0 ds q) w (fun a' w' => ∃ v, a' = (frm a0 ds q).put o.dst v ∧ J (b || decide (i = e)) w' ∧ (∀ j x, j < m → j ≠ i → post j x w → post j x w') ∧ post i v w') Q)
    (last : ∀ q w, J true w → (∀ i t, i < m → dstOf ops i = some t → post i (q t) w) → wpOps P ops Q ((List.range' m (ops.size - m))) (frm a0 ds q) w) :
    (Code.region id ops true).wp P Q a0 w0 := by
  have hs := shape_of hsh
  refine wp_region_any hmo ?_
  refine wpAny_invA (fun k l a w => k = leftA l ∧ ((∃ q, a = frm a0 ds q ∧ EarlyE ops m e J post l q w) ∨ (l.size = ops.size ∧ ∃ j, m ≤ j ∧ j ≤ ops.size ∧ (∀ i, doneAt l i ↔ i < j) ∧ wpOps P ops Q (List.range' j (ops.size - j)) a w))) ?_ _ _ _ _ ⟨?_, .inl ⟨_, (frm_start a0 ds).symm, ?_⟩⟩
  · rintro k l a w ⟨hk, hI⟩
    have hlsz : l.size = ops.size := hI.elim (fun ⟨_, _, hE⟩ => hE.size) (fun ⟨h, _⟩ => h)
    refine ⟨fun hr => ?_, fun h0 => ?_, fun k' hk' i hi => ?_⟩
    · rcases hI with ⟨q, rfl, hE⟩ | ⟨_, j, hj1, hj2, hd, hw⟩
      · exact absurd hr (ready_early hs hE.size hs.lt (hE.later m (Nat.le_refl _)))
      · by_cases hjs : j = ops.size
        · subst hjs
          rw [Nat.sub_self] at hw
          exact hw
        · exact absurd hr (ready_early hs hlsz (j := j) (by omega) (fun h => by have := (hd j).1 h; omega))
    · cases hr : Region.ready .any ops l with
      | nil => rfl
      | cons x xs =>
        have hx := (ready_iff hlsz (i := x)).1 (by rw [hr]; exact List.mem_cons_self)
        exact absurd (left_zeroA (by omega) (by omega)) hx.2.1
    · obtain ⟨h1, h2, h3⟩ := (ready_iff hlsz).1 hi
      have ho : ops[i]? = some ops[i] := Array.getElem?_eq_getElem h1
      have hgd := hs.guard i _ ho
      have hleft := left_setA (by omega : i < l.size) h2
      have late : ∀ (j : Nat) (a : Act) (w : World), m ≤ j → j ≤ ops.size → (∀ i, doneAt l i ↔ i < j) → wpOps P ops Q (List.range' j (ops.size - j)) a w → wpOp P ops Q i (fun a' w' => k' = leftA (l.setIfInBounds i true) ∧ ((∃ q, a' = frm a0 ds q ∧ EarlyE ops m e J post (l.setIfInBounds i true) q w') ∨ ((l.setIfInBounds i true).size = ops.size ∧ ∃ j, m ≤ j ∧ j ≤ ops.size ∧ (∀ i', doneAt (l.setIfInBounds i true) i' ↔ i' < j) ∧ wpOps P ops Q (List.range' j (ops.size - j)) a' w'))) a w := by
        intro j a w hj1 hj2 hd hw
        have hij : i = j := by
          have hge : j ≤ i := by
            rcases Nat.lt_or_ge i j with h | h
            · exact absurd ((hd i).2 h) h2
            · exact h
          rcases Nat.lt_or_ge j i with h | h
          · rcases hs.late i j (by omega) h1 h with h4 | h4
            · omega
            · have := (hd j).1 (h3 j h4); omega
          · omega
        subst hij
        rw [show ops.size - i = (ops.size - (i + 1)) + 1 by omega, List.range'_succ, wpOps_cons] at hw
        refine wpOp_mono (fun a' w' h' => ⟨by omega, .inr ⟨by rw [Array.size_setIfInBounds]; exact hlsz, i + 1, by omega, by omega, fun i' => ?_, h'⟩⟩) hw
        rw [done_set (by omega), hd]
        omega
      rcases hI with ⟨q, rfl, hE⟩ | ⟨_, j, hj1, hj2, hd, hw⟩
      · by_cases him : i < m
        · obtain ⟨t, ht, hdt, hts, hne⟩ := hs.dst i _ him ho
          obtain ⟨bd, hbd⟩ : ∃ bd : Bool, bd = true ↔ doneAt l e := by
            by_cases hx : doneAt l e
            · exact ⟨true, ⟨fun _ => hx, fun _ => rfl⟩⟩
            · exact ⟨false, ⟨(fun h => by cases h), fun h => absurd h hx⟩⟩
          have hst := step i _ him ho q w bd (fun hie => by
            cases bd with
            | false => rfl
            | true => exact absurd (hie ▸ hbd.1 rfl) h2) (hE.inv bd hbd) (fun k t' hk ht' => by
            have hkd := h3 k hk
            have hkm : k < m := by
              rcases Nat.lt_or_ge k m with h | h
              · exact h
              · exact absurd hkd (hE.later k h)
            exact hE.posts k t' hkm hkd ht')
          unfold wpOp
          rw [ho]
          show if Region.wanted ops[i] (yielded ops (frm a0 ds q).tmps) = true then _ else _
          rw [if_pos (by unfold Region.wanted; rw [hgd])]
          refine .inl (Oper.wp_mono ?_ hst)
          rintro a' w' ⟨v, rfl, hb, hsta, hp⟩
          rw [ht, frm_put hdt]
          refine ⟨by omega, .inl ⟨_, rfl, ⟨by rw [Array.size_setIfInBounds]; exact hlsz, fun i' hi' hd' => ?_, fun i' k0 hd' hk0 => ?_, fun b' hb' => ?_, fun i' t' hi' hd' ht' => ?_⟩⟩⟩
          · rcases (done_set (by omega)).1 hd' with h | h
            · omega
            · exact hE.later i' hi' h
          · rw [done_set (by omega)]
            rcases (done_set (by omega)).1 hd' with h | h
            · subst h; exact .inr (h3 k0 hk0)
            · exact .inr (hE.closed i' k0 h hk0)
          · have hbb : b' = (bd || decide (i = e)) := by
              rw [done_set (by omega)] at hb'
              apply Bool.eq_iff_iff.2
              rw [hb', Bool.or_eq_true, decide_eq_true_eq, hbd]
              constructor
              · rintro (h | h)
                · exact .inr h.symm
                · exact .inl h
              · rintro (h | h)
                · exact .inr h
                · exact .inl h.symm
            rw [hbb]
            exact hb
          · by_cases hii : i' = i
            · subst hii
              have : t' = t := by
                unfold dstOf at ht'
                rw [ho] at ht'
                exact Option.some.inj (ht'.symm.trans ht)
              subst this
              rw [setV_same]; exact hp
            · rcases (done_set (by omega)).1 hd' with h | h
              · exact absurd h hii
              · rw [setV_other (fun e => hne i' hi' hii (by rw [ht', e]))]
                exact hsta i' _ hi' hii (hE.posts i' t' hi' h ht')
        · have him2 : i = m := by
            rcases Nat.lt_or_ge m i with h | h
            · rcases hs.late i m (by omega) h1 h with h4 | h4
              · omega
              · exact absurd (h3 m h4) (hE.later m (Nat.le_refl _))
            · omega
          subst him2
          have hall := all_early hs hE.closed h3
          exact late i _ w (Nat.le_refl _) (by omega) (fun i' => ⟨fun h => by
            rcases Nat.lt_or_ge i' i with h' | h'
            · exact h'
            · exact absurd h (hE.later i' h'), fun h => hall i' h⟩) (last q w (hE.inv true ⟨fun _ => hall e he, fun _ => rfl⟩) fun i' t' hi' ht' => hE.posts i' t' hi' (hall i' hi') ht')
      · exact late j a w hj1 hj2 hd hw
  · unfold leftA
    simp
  · have hnd : ∀ i, ¬ doneAt (Array.replicate ops.size false) i := fun i h => by
      unfold doneAt at h
      rw [Array.getElem?_replicate] at h
      split at h <;> cases h
    exact ⟨by simp, fun i _ => hnd i, fun i _ h => absurd h (hnd i), (fun b hb => by
      cases b with
      | false => exact start
      | true => exact absurd (hb.1 rfl) (hnd e)), fun i _ _ h => absurd h (hnd i)⟩
end Go.Proofs.Ytknneajaklcjdaa
