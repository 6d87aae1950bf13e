/-
  A region that draws its order, in which rows grow that were made in it: what each operation leaves stands until it is eaten, whatever the order.
-/
import Derived.Test.YtdmclgbmdhhdiaaAnyOps
namespace Go.Proofs.Ytdmclgbmdhhdiaa
open Go.ChangeShapes Go.WideShapes Go.ChangeAt Go.RowKit Go.Deep

/-- the block that a value points to. -/
def blk : Value → Option Nat
  | .slice (some a) _ _ => some a.block
  | .pointer (some a) => some a.block
  | _ => none
/-- what has come up so far, whatever the order. -/
structure EarlyR (ops : Array Oper) (m : Nat) (W0 : World) (post : Nat → Value → World → Prop) (eats : Nat → Option Nat) (new : Nat → Bool) (rel : Nat → (Nat → Value) → Value → Prop) (l : Array Bool) (q : Nat → Value) (w : World) : Prop where
  size : l.size = ops.size
  later : ∀ i, m ≤ i → ¬ doneAt l i
  closed : ∀ i k, doneAt l i → waits ops i k = true → doneAt l k
  below : Below W0.heap.size W0 w
  links : ∀ i t, i < m → doneAt l i → dstOf ops i = some t → rel i q (q t)
  posts : ∀ i t, i < m → doneAt l i → (∀ k, eats k = some i → ¬ doneAt l k) → dstOf ops i = some t → post i (q t) w
  own : ∀ i t b, i < m → doneAt l i → new i = true → (∀ k, eats k = some i → ¬ doneAt l k) → dstOf ops i = some t → blk (q t) = some b → W0.heap.size ≤ b ∧ b < w.heap.size
  dis : ∀ i j t s b, i < m → j < m → i ≠ j → doneAt l i → doneAt l j → new i = true → new j = true → (∀ k, eats k = some i → ¬ doneAt l k) → (∀ k, eats k = some j → ¬ doneAt l k) → dstOf ops i = some t → dstOf ops j = some s → blk (q t) = some b → blk (q s) ≠ some b
/-- A REGION IN WHATEVER ORDER, with rows that grow. -/
theorem wp_anywayR {P : Program} {id : Nat} {ops : Array Oper} {Q : Exit → Act → World → Prop} {a0 : Act} {w0 : World} (hmo : P.follows .mixedOrders = true) (ds : List Nat) (m : Nat) (post : Nat → Value → World → Prop) (eats : Nat → Option Nat) (new : Nat → Bool) (rel : Nat → (Nat → Value) → Value → Prop)
    (hsh : shapeOk ops ds a0.tmps.size m = true)
    (heat : ∀ i A, eats i = some A → i < m ∧ A < m ∧ waits ops i A = true ∧ new A = true ∧ new i = true ∧ ∀ j, eats j = some A → j = i)
    (hrel : ∀ i q v t u, i < m → (∀ k s, waits ops i k = true → dstOf ops k = some s → s ≠ t) → rel i q v → rel i (setV q t u) v)
    (stable : ∀ i v w w', i < m → post i v w → Below w.heap.size w w' → post i v w')
    (stableG : ∀ i v w w' row, i < m → post i v w → w.grownBy w' row → (∀ b, row = some b → w0.heap.size ≤ b ∧ (new i = true → blk v ≠ some b)) → post i v w')
    (step : ∀ (i : Nat) (o : Oper), i < m → eats i = none → ops[i]? = some o → ∀ q w, Below w0.heap.size w0 w → (∀ k t, waits ops i k = true → (∀ j, eats j = some k → j = i) → dstOf ops k = some t → post k (q t) w) → Oper.wp P o (frm a0 ds q) w (fun a' w' => ∃ v, a' = (frm a0 ds q).put o.dst v ∧ Below w.heap.size w w' ∧ post i v w' ∧ rel i q v ∧ ∀ b, new i = true → blk v = some b → w.heap.size ≤ b ∧ b < w'.heap.size) Q)
    (stepG : ∀ (i A tA : Nat) (o : Oper), i < m → eats i = some A → dstOf ops A = some tA → ops[i]? = some o → ∀ q w, Below w0.heap.size w0 w → (∀ k t, waits ops i k = true → (∀ j, eats j = some k → j = i) → dstOf ops k = some t → post k (q t) w) → Oper.wp P o (frm a0 ds q) w (fun a' w' => ∃ v, a' = (frm a0 ds q).put o.dst v ∧ w.grownBy w' (blk (q tA)) ∧ post i v w' ∧ rel i q v ∧ ∀ b, blk v = some b → (blk (q tA) = some b ∨ w.heap.size ≤ b) ∧ b < w'.heap.size) Q)
    (last : ∀ q w, Below w0.heap.size w0 w → (∀ i t, i < m → (∀ k, eats k ≠ some i) → dstOf ops i = some t → post i (q t) w) → (∀ i t, i < m → dstOf ops i = some t → rel i q (q t)) → (∀ i j t s b, i < m → j < m → i ≠ j → new i = true → new j = true → (∀ k, eats k ≠ some i) → (∀ k, eats k ≠ some j) → dstOf ops i = some t → dstOf ops j = some s → blk (q t) = some b → blk (q s) ≠ some b) → (∀ i t b, i < m → new i = true → (∀ k, eats k ≠ some i) → dstOf ops i = some t → blk (q t) = some b → w0.heap.size ≤ b) → wpOps P ops Q ((List.range' m (ops.size - m))) (frm a0 ds q) w) :
    (Code.region id ops true).wp P Q a0 w0 := by
  have hs := shape_of hsh
  refine wp_region_any hmo ?_
  have hb0 : Below w0.heap.size w0 { w0 with drawn := w0.drawn + 1 } := ⟨rfl, rfl, rfl, Nat.le_refl _, fun _ _ => rfl⟩
  refine wpAny_invA (fun k l a w => k = leftA l ∧ ((∃ q, a = frm a0 ds q ∧ EarlyR ops m w0 post eats new rel l q w) ∨ (l.size = ops.size ∧ ∃ j, m ≤ j ∧ j ≤ ops.size ∧ (∀ i, doneAt l i ↔ i < j) ∧ wpOps P ops Q (List.range' j (ops.size - j)) a w))) ?_ _ _ _ _ ⟨?_, .inl ⟨_, (frm_start a0 ds).symm, ?_⟩⟩
  · rintro k l a w ⟨hk, hI⟩
    have hlsz : l.size = ops.size := hI.elim (fun ⟨_, _, hE⟩ => hE.size) (fun ⟨h, _⟩ => h)
    refine ⟨fun hr => ?_, fun h0 => ?_, fun k' hk' i hi => ?_⟩
    · rcases hI with ⟨q, rfl, hE⟩ | ⟨_, j, hj1, hj2, hd, hw⟩
      · exact absurd hr (ready_early hs hE.size hs.lt (hE.later m (Nat.le_refl _)))
      · by_cases hjs : j = ops.size
        · subst hjs
          rw [Nat.sub_self] at hw
          exact hw
        · exact absurd hr (ready_early hs hlsz (j := j) (by omega) (fun h => by have := (hd j).1 h; omega))
    · cases hr : Region.ready .any ops l with
      | nil => rfl
      | cons x xs =>
        have hx := (ready_iff hlsz (i := x)).1 (by rw [hr]; exact List.mem_cons_self)
        exact absurd (left_zeroA (by omega) (by omega)) hx.2.1
    · obtain ⟨h1, h2, h3⟩ := (ready_iff hlsz).1 hi
      have ho : ops[i]? = some ops[i] := Array.getElem?_eq_getElem h1
      have hgd := hs.guard i _ ho
      have hleft := left_setA (by omega : i < l.size) h2
      have late : ∀ (j : Nat) (a : Act) (w : World), m ≤ j → j ≤ ops.size → (∀ i, doneAt l i ↔ i < j) → wpOps P ops Q (List.range' j (ops.size - j)) a w → wpOp P ops Q i (fun a' w' => k' = leftA (l.setIfInBounds i true) ∧ ((∃ q, a' = frm a0 ds q ∧ EarlyR ops m w0 post eats new rel (l.setIfInBounds i true) q w') ∨ ((l.setIfInBounds i true).size = ops.size ∧ ∃ j, m ≤ j ∧ j ≤ ops.size ∧ (∀ i', doneAt (l.setIfInBounds i true) i' ↔ i' < j) ∧ wpOps P ops Q (List.range' j (ops.size - j)) a' w'))) a w := by
        intro j a w hj1 hj2 hd hw
        have hij : i = j := by
          have hge : j ≤ i := by
            rcases Nat.lt_or_ge i j with h | h
            · exact absurd ((hd i).2 h) h2
            · exact h
          rcases Nat.lt_or_ge j i with h | h
          · rcases hs.late i j (by omega) h1 h with h4 | h4
            · omega
            · have := (hd j).1 (h3 j h4); omega
          · omega
        subst hij
        rw [show ops.size - i = (ops.size - (i + 1)) + 1 by omega, List.range'_succ, wpOps_cons] at hw
        refine wpOp_mono (fun a' w' h' => ⟨by omega, .inr ⟨by rw [Array.size_setIfInBounds]; exact hlsz, i + 1, by omega, by omega, fun i' => ?_, h'⟩⟩) hw
        rw [done_set (by omega), hd]
        omega
      rcases hI with ⟨q, rfl, hE⟩ | ⟨_, j, hj1, hj2, hd, hw⟩
      · by_cases him : i < m
        · obtain ⟨t, ht, hdt, hts, hne⟩ := hs.dst i _ him ho
          have hil : i < l.size := by omega
          have hdi : dstOf ops i = some t := by unfold dstOf; rw [ho]; exact ht
          have hdone : ∀ j, doneAt (l.setIfInBounds i true) j → j = i ∨ doneAt l j := fun j h => (done_set hil).1 h
          have hold : ∀ j, doneAt l j → doneAt (l.setIfInBounds i true) j := fun j h => (done_set hil).2 (.inr h)
          have hpre : ∀ k t, waits ops i k = true → (∀ j, eats j = some k → j = i) → dstOf ops k = some t → post k (q t) w := fun k t' hk he ht' => by
            have hkd := h3 k hk
            have hkm : k < m := by
              rcases Nat.lt_or_ge k m with h | h
              · exact h
              · exact absurd hkd (hE.later k h)
            exact hE.posts k t' hkm hkd (fun j hj hjd => by rw [he j hj] at hjd; exact h2 hjd) ht'
          have slot : ∀ j s, j < m → j ≠ i → dstOf ops j = some s → s ≠ t := fun j s hj hji hs' e => hne j hj hji (by rw [hs', e])
          have lat : ∀ i', m ≤ i' → ¬ doneAt (l.setIfInBounds i true) i' := fun i' hi' hd' => by
            rcases hdone i' hd' with h | h
            · omega
            · exact hE.later i' hi' h
          have clo : ∀ i' k0, doneAt (l.setIfInBounds i true) i' → waits ops i' k0 = true → doneAt (l.setIfInBounds i true) k0 := fun i' k0 hd' hk0 => by
            rcases hdone i' hd' with h | h
            · subst h; exact hold _ (h3 k0 hk0)
            · exact hold _ (hE.closed i' k0 h hk0)
          have hks : ∀ i', i' < m → (doneAt l i' ∨ i' = i) → ∀ k s, waits ops i' k = true → dstOf ops k = some s → s ≠ t := fun i' hi' hd' k s hk hs' => by
            have hkd : doneAt l k := by
              rcases hd' with h | h
              · exact hE.closed i' k h hk
              · subst h; exact h3 k hk
            have hkm : k < m := by
              rcases Nat.lt_or_ge k m with h | h
              · exact h
              · exact absurd hkd (hE.later k h)
            exact slot k s hkm (fun e => h2 (e ▸ hkd)) hs'
          have lnk : ∀ v, rel i q v → ∀ i' s, i' < m → doneAt (l.setIfInBounds i true) i' → dstOf ops i' = some s → rel i' (setV q t v) (setV q t v s) := fun v hv i' s hi' hd' hs' => by
            by_cases hji : i' = i
            · subst hji
              rw [hdi] at hs'
              obtain rfl := Option.some.inj hs'
              rw [setV_same]
              exact hrel _ q v t v hi' (hks _ hi' (.inr rfl)) hv
            · rw [setV_other (slot i' s hi' hji hs')]
              have hjd := (hdone i' hd').resolve_left hji
              exact hrel i' q _ t v hi' (hks i' hi' (.inl hjd)) (hE.links i' s hi' hjd hs')
          cases hea : eats i with
          | none =>
            have hst := step i _ him hea ho q w hE.below hpre
            refine op_at ho hgd (Oper.wp_mono ?_ hst)
            rintro a' w' ⟨v, rfl, hb, hp, hre, hnew⟩
            rw [ht, frm_put hdt]
            have hsz := hb.size
            have eat : ∀ j, (∀ k, eats k = some j → ¬ doneAt (l.setIfInBounds i true) k) → ∀ k, eats k = some j → ¬ doneAt l k := fun j h k hk hd => h k hk (hold k hd)
            refine ⟨by omega, .inl ⟨_, rfl, ⟨by rw [Array.size_setIfInBounds]; exact hlsz, lat, clo, hE.below.trans (hb.mono hE.below.size), lnk v hre, fun j s hj hd' he hs' => ?_, fun j s b hj hd' hn he hs' hbk => ?_, fun j j2 s s2 b hj hj2 hjj hd' hd2 hn hn2 he he2 hs' hs2 hbk => ?_⟩⟩⟩
            · by_cases hji : j = i
              · subst hji
                rw [hdi] at hs'
                obtain rfl := Option.some.inj hs'
                rw [setV_same]; exact hp
              · rw [setV_other (slot j s hj hji hs')]
                exact stable j _ w w' hj (hE.posts j s hj ((hdone j hd').resolve_left hji) (eat j he) hs') hb
            · by_cases hji : j = i
              · subst hji
                rw [hdi] at hs'
                obtain rfl := Option.some.inj hs'
                rw [setV_same] at hbk
                obtain ⟨h5, h6⟩ := hnew b hn hbk
                have := hE.below.size
                omega
              · rw [setV_other (slot j s hj hji hs')] at hbk
                obtain ⟨h5, h6⟩ := hE.own j s b hj ((hdone j hd').resolve_left hji) hn (eat j he) hs' hbk
                omega
            · by_cases hji : j = i
              · subst hji
                rw [hdi] at hs'
                obtain rfl := Option.some.inj hs'
                rw [setV_same] at hbk
                have hj2i : j2 ≠ j := fun e => hjj e.symm
                rw [setV_other (slot j2 s2 hj2 hj2i hs2)]
                intro hb2
                obtain ⟨h5, _⟩ := hnew b hn hbk
                obtain ⟨_, h6⟩ := hE.own j2 s2 b hj2 ((hdone j2 hd2).resolve_left hj2i) hn2 (eat j2 he2) hs2 hb2
                omega
              · rw [setV_other (slot j s hj hji hs')] at hbk
                by_cases hj2i : j2 = i
                · subst hj2i
                  rw [hdi] at hs2
                  obtain rfl := Option.some.inj hs2
                  rw [setV_same]
                  intro hb2
                  obtain ⟨h5, _⟩ := hnew b hn2 hb2
                  obtain ⟨_, h6⟩ := hE.own j s b hj ((hdone j hd').resolve_left hji) hn (eat j he) hs' hbk
                  omega
                · rw [setV_other (slot j2 s2 hj2 hj2i hs2)]
                  exact hE.dis j j2 s s2 b hj hj2 hjj ((hdone j hd').resolve_left hji) ((hdone j2 hd2).resolve_left hj2i) hn hn2 (eat j he) (eat j2 he2) hs' hs2 hbk
          | some A =>
            obtain ⟨_, hAm, hAw, hAn, hin, huniq⟩ := heat i A hea
            have hAd := h3 A hAw
            obtain ⟨oA, hoA⟩ : ∃ oA, ops[A]? = some oA := ⟨ops[A]'(by have := hs.lt; omega), Array.getElem?_eq_getElem _⟩
            obtain ⟨tA, htA, _, _, _⟩ := hs.dst A _ hAm hoA
            have hdA : dstOf ops A = some tA := by unfold dstOf; rw [hoA]; exact htA
            have hAi : A ≠ i := fun e => h2 (e ▸ hAd)
            have hAlive : ∀ k, eats k = some A → ¬ doneAt l k := fun k hk hd => by rw [huniq k hk] at hd; exact h2 hd
            have hst := stepG i A tA _ him hea hdA ho q w hE.below hpre
            refine op_at ho hgd (Oper.wp_mono ?_ hst)
            rintro a' w' ⟨v, rfl, hg, hp, hre, hnew⟩
            rw [ht, frm_put hdt]
            have hsz := hg.size
            have hrow : ∀ b, blk (q tA) = some b → w0.heap.size ≤ b ∧ b < w.heap.size := fun b hb => hE.own A tA b hAm hAd hAn hAlive hdA hb
            have hnA : ∀ j, (∀ k, eats k = some j → ¬ doneAt (l.setIfInBounds i true) k) → j ≠ A := fun j h e => h i (e ▸ hea) ((done_set hil).2 (.inl rfl))
            have eat : ∀ j, (∀ k, eats k = some j → ¬ doneAt (l.setIfInBounds i true) k) → ∀ k, eats k = some j → ¬ doneAt l k := fun j h k hk hd => h k hk (hold k hd)
            have hb' : Below w0.heap.size w0 w' := hE.below.grown hg hE.below.size (fun b hb => (hrow b hb).1)
            have hnb : ∀ b, blk v = some b → w0.heap.size ≤ b ∧ b < w'.heap.size := fun b hb => by
              obtain ⟨h5, h6⟩ := hnew b hb
              have := hE.below.size
              rcases h5 with h5 | h5
              · exact ⟨(hrow b h5).1, h6⟩
              · omega
            refine ⟨by omega, .inl ⟨_, rfl, ⟨by rw [Array.size_setIfInBounds]; exact hlsz, lat, clo, hb', lnk v hre, fun j s hj hd' he hs' => ?_, fun j s b hj hd' hn he hs' hbk => ?_, fun j j2 s s2 b hj hj2 hjj hd' hd2 hn hn2 he he2 hs' hs2 hbk => ?_⟩⟩⟩
            · by_cases hji : j = i
              · subst hji
                rw [hdi] at hs'
                obtain rfl := Option.some.inj hs'
                rw [setV_same]; exact hp
              · rw [setV_other (slot j s hj hji hs')]
                have hjd := (hdone j hd').resolve_left hji
                exact stableG j _ w w' _ hj (hE.posts j s hj hjd (eat j he) hs') hg fun b hb => ⟨(hrow b hb).1, fun hn => hE.dis A j tA s b hAm hj (fun e => hnA j he e.symm) hAd hjd hAn hn hAlive (eat j he) hdA hs' hb⟩
            · by_cases hji : j = i
              · subst hji
                rw [hdi] at hs'
                obtain rfl := Option.some.inj hs'
                rw [setV_same] at hbk
                exact hnb b hbk
              · rw [setV_other (slot j s hj hji hs')] at hbk
                obtain ⟨h5, h6⟩ := hE.own j s b hj ((hdone j hd').resolve_left hji) hn (eat j he) hs' hbk
                omega
            · have key : ∀ j2 s2 b, j2 < m → j2 ≠ i → doneAt (l.setIfInBounds i true) j2 → new j2 = true → (∀ k, eats k = some j2 → ¬ doneAt (l.setIfInBounds i true) k) → dstOf ops j2 = some s2 → blk v = some b → blk (q s2) ≠ some b := fun j2 s2 b hj2 hj2i hd2 hn2 he2 hs2 hbv hb2 => by
                have hjd := (hdone j2 hd2).resolve_left hj2i
                rcases (hnew b hbv).1 with h5 | h5
                · exact hE.dis A j2 tA s2 b hAm hj2 (fun e => hnA j2 he2 e.symm) hAd hjd hAn hn2 hAlive (eat j2 he2) hdA hs2 h5 hb2
                · have := (hE.own j2 s2 b hj2 hjd hn2 (eat j2 he2) hs2 hb2).2; omega
              by_cases hji : j = i
              · subst hji
                rw [hdi] at hs'
                obtain rfl := Option.some.inj hs'
                rw [setV_same] at hbk
                have hj2i : j2 ≠ j := fun e => hjj e.symm
                rw [setV_other (slot j2 s2 hj2 hj2i hs2)]
                exact key j2 s2 b hj2 hj2i hd2 hn2 he2 hs2 hbk
              · rw [setV_other (slot j s hj hji hs')] at hbk
                by_cases hj2i : j2 = i
                · subst hj2i
                  rw [hdi] at hs2
                  obtain rfl := Option.some.inj hs2
                  rw [setV_same]
                  exact fun hb2 => key j s b hj hji hd' hn he hs' hb2 hbk
                · rw [setV_other (slot j2 s2 hj2 hj2i hs2)]
                  exact hE.dis j j2 s s2 b hj hj2 hjj ((hdone j hd').resolve_left hji) ((hdone j2 hd2).resolve_left hj2i) hn hn2 (eat j he) (eat j2 he2) hs' hs2 hbk
        · have him2 : i = m := by
            rcases Nat.lt_or_ge m i with h | h
            · rcases hs.late i m (by omega) h1 h with h4 | h4
              · omega
              · exact absurd (h3 m h4) (hE.later m (Nat.le_refl _))
            · omega
          subst him2
          have hall := all_early hs hE.closed h3
          exact late i _ w (Nat.le_refl _) (by omega) (fun i' => ⟨fun h => by
            rcases Nat.lt_or_ge i' i with h' | h'
            · exact h'
            · exact absurd h (hE.later i' h'), fun h => hall i' h⟩) (last q w hE.below (fun i' t' hi' he ht' => hE.posts i' t' hi' (hall i' hi') (fun k hk => absurd hk (he k)) ht') (fun i' t' hi' ht' => hE.links i' t' hi' (hall i' hi') ht') (fun i' j' t' s' b' hi' hj' hne' hn' hn2' he' he2' ht' hs' hb' => hE.dis i' j' t' s' b' hi' hj' hne' (hall i' hi') (hall j' hj') hn' hn2' (fun k hk => absurd hk (he' k)) (fun k hk => absurd hk (he2' k)) ht' hs' hb') (fun i' t' b' hi' hn' he' ht' hb' => (hE.own i' t' b' hi' (hall i' hi') hn' (fun k hk => absurd hk (he' k)) ht' hb').1))
      · exact late j a w hj1 hj2 hd hw
  · unfold leftA
    simp
  · have hnd : ∀ i, ¬ doneAt (Array.replicate ops.size false) i := fun i h => by
      unfold doneAt at h
      rw [Array.getElem?_replicate] at h
      split at h <;> cases h
    exact ⟨by simp, fun i _ => hnd i, fun i _ h => absurd h (hnd i), hb0, fun i _ _ h => absurd h (hnd i), fun i _ _ h => absurd h (hnd i), fun i _ _ _ h => absurd h (hnd i), fun i j _ _ _ _ _ _ h => absurd h (hnd i)⟩
end Go.Proofs.Ytdmclgbmdhhdiaa
