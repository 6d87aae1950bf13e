/-
  Joined out of AnyRows, LongM, WlongWalk, in their order: a claim bears at most so many files.
-/
import Derived.Test.YtbnhjbjlcnmjbaaDoorAnyOps
import Derived.Test.YtbnhjbjlcnmjbaaDoorWordM
import Derived.Test.YtbnhjbjlcnmjbaaDoorKeepShift
import Derived.Deep.RegionHeld3
import Derived.Deep.Cut
import Derived.Deep.CutBlock
import Derived.Deep.CutRange
import Derived.Deep.DeepCutAuto
/-
  A region that draws its order, in which rows grow that were made in it: what each operation leaves stands until it is eaten, whatever the order.
-/
namespace Go.Proofs.YtbnhjbjlcnmjbaaDoor
open Go.ChangeShapes Go.WideShapes Go.ChangeAt Go.RowKit Go.Deep

/-- the block that a value points to. -/
def blk : Value → Option Nat
  | .slice (some a) _ _ => some a.block
  | .pointer (some a) => some a.block
  | _ => none
/-- what has come up so far, whatever the order. -/
structure EarlyR (ops : Array Oper) (m : Nat) (W0 : World) (post : Nat → Value → World → Prop) (eats : Nat → Option Nat) (new : Nat → Bool) (rel : Nat → (Nat → Value) → Value → Prop) (l : Array Bool) (q : Nat → Value) (w : World) : Prop where
  size : l.size = ops.size
  later : ∀ i, m ≤ i → ¬ doneAt l i
  closed : ∀ i k, doneAt l i → waits ops i k = true → doneAt l k
  below : Below W0.heap.size W0 w
  links : ∀ i t, i < m → doneAt l i → dstOf ops i = some t → rel i q (q t)
  posts : ∀ i t, i < m → doneAt l i → (∀ k, eats k = some i → ¬ doneAt l k) → dstOf ops i = some t → post i (q t) w
  own : ∀ i t b, i < m → doneAt l i → new i = true → (∀ k, eats k = some i → ¬ doneAt l k) → dstOf ops i = some t → blk (q t) = some b → W0.heap.size ≤ b ∧ b < w.heap.size
  dis : ∀ i j t s b, i < m → j < m → i ≠ j → doneAt l i → doneAt l j → new i = true → new j = true → (∀ k, eats k = some i → ¬ doneAt l k) → (∀ k, eats k = some j → ¬ doneAt l k) → dstOf ops i = some t → dstOf ops j = some s → blk (q t) = some b → blk (q s) ≠ some b
/-- A REGION IN WHATEVER ORDER, with rows that grow. -/
theorem wp_anywayR {P : Program} {id : Nat} {ops : Array Oper} {Q : Exit → Act → World → Prop} {a0 : Act} {w0 : World} (hmo : P.follows .mixedOrders = true) (ds : List Nat) (m : Nat) (post : Nat → Value → World → Prop) (eats : Nat → Option Nat) (new : Nat → Bool) (rel : Nat → (Nat → Value) → Value → Prop)
    (hsh : shapeOk ops ds a0.tmps.size m = true)
    (heat : ∀ i A, eats i = some A → i < m ∧ A < m ∧ waits ops i A = true ∧ new A = true ∧ new i = true ∧ ∀ j, eats j = some A → j = i)
    (hrel : ∀ i q v t u, i < m → (∀ k s, waits ops i k = true → dstOf ops k = some s → s ≠ t) → rel i q v → rel i (setV q t u) v)
    (stable : ∀ i v w w', i < m → post i v w → Below w.heap.size w w' → post i v w')
    (stableG : ∀ i v w w' row, i < m → post i v w → w.grownBy w' row → (∀ b, row = some b → w0.heap.size ≤ b ∧ (new i = true → blk v ≠ some b)) → post i v w')
    (step : ∀ (i : Nat) (o : Oper), i < m → eats i = none → ops[i]? = some o → ∀ q w, Below w0.heap.size w0 w → (∀ k t, waits ops i k = true → (∀ j, eats j = some k → j = i) → dstOf ops k = some t → post k (q t) w) → Oper.wp P o (frm a0 ds q) w (fun a' w' => ∃ v, a' = (frm a0 ds q).put o.dst v ∧ Below w.heap.size w w' ∧ post i v w' ∧ rel i q v ∧ ∀ b, new i = true → blk v = some b → w.heap.size ≤ b ∧ b < w'.heap.size) Q)
    (stepG : ∀ (i A tA : Nat) (o : Oper), i < m → eats i = some A → dstOf ops A = some tA → ops[i]? = some o → ∀ q w, Below w0.heap.size w0 w → (∀ k t, waits ops i k = true → (∀ j, eats j = some k → j = i) → dstOf ops k = some t → post k (q t) w) → Oper.wp P o (frm a0 ds q) w (fun a' w' => ∃ v, a' = (frm a0 ds q).put o.dst v ∧ w.grownBy w' (blk (q tA)) ∧ post i v w' ∧ rel i q v ∧ ∀ b, blk v = some b → (blk (q tA) = some b ∨ w.heap.size ≤ b) ∧ b < w'.heap.size) Q)
    (last : ∀ q w, Below w0.heap.size w0 w → (∀ i t, i < m → (∀ k, eats k ≠ some i) → dstOf ops i = some t → post i (q t) w) → (∀ i t, i < m → dstOf ops i = some t → rel i q (q t)) → (∀ i j t s b, i < m → j < m → i ≠ j → new i = true → new j = true → (∀ k, eats k ≠ some i) → (∀ k, eats k ≠ some j) → dstOf ops i = some t → dstOf ops j = some s → blk (q t) = some b → blk (q s) ≠ some b) → (∀ i t b, i < m → new i = true → (∀ k, eats k ≠ some i) → dstOf ops i = some t → blk (q t) = some b → w0.heap.size ≤ b) → wpOps P ops Q ((List.range' m (ops.size - m))) (frm a0 ds q) w) :
    (Code.region id ops true).wp P Q a0 w0 := by
  have hs := shape_of hsh
  refine wp_region_any hmo ?_
  have hb0 : Below w0.heap.size w0 { w0 with drawn := w0.drawn + 1 } := ⟨rfl, rfl, rfl, Nat.le_refl _, fun _ _ => rfl⟩
  refine wpAny_inv (fun k l a w => k = left l ∧ ((∃ q, a = frm a0 ds q ∧ EarlyR ops m w0 post eats new rel l q w) ∨ (l.size = ops.size ∧ ∃ j, m ≤ j ∧ j ≤ ops.size ∧ (∀ i, doneAt l i ↔ i < j) ∧ wpOps P ops Q (List.range' j (ops.size - j)) a w))) ?_ _ _ _ _ ⟨?_, .inl ⟨_, (frm_start a0 ds).symm, ?_⟩⟩
  · rintro k l a w ⟨hk, hI⟩
    have hlsz : l.size = ops.size := hI.elim (fun ⟨_, _, hE⟩ => hE.size) (fun ⟨h, _⟩ => h)
    refine ⟨fun hr => ?_, fun h0 => ?_, fun k' hk' i hi => ?_⟩
    · rcases hI with ⟨q, rfl, hE⟩ | ⟨_, j, hj1, hj2, hd, hw⟩
      · exact absurd hr (ready_early hs hE.size hs.lt (hE.later m (Nat.le_refl _)))
      · by_cases hjs : j = ops.size
        · subst hjs
          rw [Nat.sub_self] at hw
          exact hw
        · exact absurd hr (ready_early hs hlsz (j := j) (by omega) (fun h => by have := (hd j).1 h; omega))
    · cases hr : Region.ready .any ops l with
      | nil => rfl
      | cons x xs =>
        have hx := (ready_iff hlsz (i := x)).1 (by rw [hr]; exact List.mem_cons_self)
        exact absurd (left_zero (by omega) (by omega)) hx.2.1
    · obtain ⟨h1, h2, h3⟩ := (ready_iff hlsz).1 hi
      have ho : ops[i]? = some ops[i] := Array.getElem?_eq_getElem h1
      have hgd := hs.guard i _ ho
      have hleft := left_set (by omega : i < l.size) h2
      have late : ∀ (j : Nat) (a : Act) (w : World), m ≤ j → j ≤ ops.size → (∀ i, doneAt l i ↔ i < j) → wpOps P ops Q (List.range' j (ops.size - j)) a w → wpOp P ops Q i (fun a' w' => k' = left (l.setIfInBounds i true) ∧ ((∃ q, a' = frm a0 ds q ∧ EarlyR ops m w0 post eats new rel (l.setIfInBounds i true) q w') ∨ ((l.setIfInBounds i true).size = ops.size ∧ ∃ j, m ≤ j ∧ j ≤ ops.size ∧ (∀ i', doneAt (l.setIfInBounds i true) i' ↔ i' < j) ∧ wpOps P ops Q (List.range' j (ops.size - j)) a' w'))) a w := by
        intro j a w hj1 hj2 hd hw
        have hij : i = j := by
          have hge : j ≤ i := by
            rcases Nat.lt_or_ge i j with h | h
            · exact absurd ((hd i).2 h) h2
            · exact h
          rcases Nat.lt_or_ge j i with h | h
          · rcases hs.late i j (by omega) h1 h with h4 | h4
            · omega
            · have := (hd j).1 (h3 j h4); omega
          · omega
        subst hij
        rw [show ops.size - i = (ops.size - (i + 1)) + 1 by omega, List.range'_succ, wpOps_cons] at hw
        refine wpOp_mono (fun a' w' h' => ⟨by omega, .inr ⟨by rw [Array.size_setIfInBounds]; exact hlsz, i + 1, by omega, by omega, fun i' => ?_, h'⟩⟩) hw
        rw [done_set (by omega), hd]
        omega
      rcases hI with ⟨q, rfl, hE⟩ | ⟨_, j, hj1, hj2, hd, hw⟩
      · by_cases him : i < m
        · obtain ⟨t, ht, hdt, hts, hne⟩ := hs.dst i _ him ho
          have hil : i < l.size := by omega
          have hdi : dstOf ops i = some t := by unfold dstOf; rw [ho]; exact ht
          have hdone : ∀ j, doneAt (l.setIfInBounds i true) j → j = i ∨ doneAt l j := fun j h => (done_set hil).1 h
          have hold : ∀ j, doneAt l j → doneAt (l.setIfInBounds i true) j := fun j h => (done_set hil).2 (.inr h)
          have hpre : ∀ k t, waits ops i k = true → (∀ j, eats j = some k → j = i) → dstOf ops k = some t → post k (q t) w := fun k t' hk he ht' => by
            have hkd := h3 k hk
            have hkm : k < m := by
              rcases Nat.lt_or_ge k m with h | h
              · exact h
              · exact absurd hkd (hE.later k h)
            exact hE.posts k t' hkm hkd (fun j hj hjd => by rw [he j hj] at hjd; exact h2 hjd) ht'
          have slot : ∀ j s, j < m → j ≠ i → dstOf ops j = some s → s ≠ t := fun j s hj hji hs' e => hne j hj hji (by rw [hs', e])
          have lat : ∀ i', m ≤ i' → ¬ doneAt (l.setIfInBounds i true) i' := fun i' hi' hd' => by
            rcases hdone i' hd' with h | h
            · omega
            · exact hE.later i' hi' h
          have clo : ∀ i' k0, doneAt (l.setIfInBounds i true) i' → waits ops i' k0 = true → doneAt (l.setIfInBounds i true) k0 := fun i' k0 hd' hk0 => by
            rcases hdone i' hd' with h | h
            · subst h; exact hold _ (h3 k0 hk0)
            · exact hold _ (hE.closed i' k0 h hk0)
          have hks : ∀ i', i' < m → (doneAt l i' ∨ i' = i) → ∀ k s, waits ops i' k = true → dstOf ops k = some s → s ≠ t := fun i' hi' hd' k s hk hs' => by
            have hkd : doneAt l k := by
              rcases hd' with h | h
              · exact hE.closed i' k h hk
              · subst h; exact h3 k hk
            have hkm : k < m := by
              rcases Nat.lt_or_ge k m with h | h
              · exact h
              · exact absurd hkd (hE.later k h)
            exact slot k s hkm (fun e => h2 (e ▸ hkd)) hs'
          have lnk : ∀ v, rel i q v → ∀ i' s, i' < m → doneAt (l.setIfInBounds i true) i' → dstOf ops i' = some s → rel i' (setV q t v) (setV q t v s) := fun v hv i' s hi' hd' hs' => by
            by_cases hji : i' = i
            · subst hji
              rw [hdi] at hs'
              obtain rfl := Option.some.inj hs'
              rw [setV_same]
              exact hrel _ q v t v hi' (hks _ hi' (.inr rfl)) hv
            · rw [setV_other (slot i' s hi' hji hs')]
              have hjd := (hdone i' hd').resolve_left hji
              exact hrel i' q _ t v hi' (hks i' hi' (.inl hjd)) (hE.links i' s hi' hjd hs')
          cases hea : eats i with
          | none =>
            have hst := step i _ him hea ho q w hE.below hpre
            refine op_at ho hgd (Oper.wp_mono ?_ hst)
            rintro a' w' ⟨v, rfl, hb, hp, hre, hnew⟩
            rw [ht, frm_put hdt]
            have hsz := hb.size
            have eat : ∀ j, (∀ k, eats k = some j → ¬ doneAt (l.setIfInBounds i true) k) → ∀ k, eats k = some j → ¬ doneAt l k := fun j h k hk hd => h k hk (hold k hd)
            refine ⟨by omega, .inl ⟨_, rfl, ⟨by rw [Array.size_setIfInBounds]; exact hlsz, lat, clo, hE.below.trans (hb.mono hE.below.size), lnk v hre, fun j s hj hd' he hs' => ?_, fun j s b hj hd' hn he hs' hbk => ?_, fun j j2 s s2 b hj hj2 hjj hd' hd2 hn hn2 he he2 hs' hs2 hbk => ?_⟩⟩⟩
            · by_cases hji : j = i
              · subst hji
                rw [hdi] at hs'
                obtain rfl := Option.some.inj hs'
                rw [setV_same]; exact hp
              · rw [setV_other (slot j s hj hji hs')]
                exact stable j _ w w' hj (hE.posts j s hj ((hdone j hd').resolve_left hji) (eat j he) hs') hb
            · by_cases hji : j = i
              · subst hji
                rw [hdi] at hs'
                obtain rfl := Option.some.inj hs'
                rw [setV_same] at hbk
                obtain ⟨h5, h6⟩ := hnew b hn hbk
                have := hE.below.size
                omega
              · rw [setV_other (slot j s hj hji hs')] at hbk
                obtain ⟨h5, h6⟩ := hE.own j s b hj ((hdone j hd').resolve_left hji) hn (eat j he) hs' hbk
                omega
            · by_cases hji : j = i
              · subst hji
                rw [hdi] at hs'
                obtain rfl := Option.some.inj hs'
                rw [setV_same] at hbk
                have hj2i : j2 ≠ j := fun e => hjj e.symm
                rw [setV_other (slot j2 s2 hj2 hj2i hs2)]
                intro hb2
                obtain ⟨h5, _⟩ := hnew b hn hbk
                obtain ⟨_, h6⟩ := hE.own j2 s2 b hj2 ((hdone j2 hd2).resolve_left hj2i) hn2 (eat j2 he2) hs2 hb2
                omega
              · rw [setV_other (slot j s hj hji hs')] at hbk
                by_cases hj2i : j2 = i
                · subst hj2i
                  rw [hdi] at hs2
                  obtain rfl := Option.some.inj hs2
                  rw [setV_same]
                  intro hb2
                  obtain ⟨h5, _⟩ := hnew b hn2 hb2
                  obtain ⟨_, h6⟩ := hE.own j s b hj ((hdone j hd').resolve_left hji) hn (eat j he) hs' hbk
                  omega
                · rw [setV_other (slot j2 s2 hj2 hj2i hs2)]
                  exact hE.dis j j2 s s2 b hj hj2 hjj ((hdone j hd').resolve_left hji) ((hdone j2 hd2).resolve_left hj2i) hn hn2 (eat j he) (eat j2 he2) hs' hs2 hbk
          | some A =>
            obtain ⟨_, hAm, hAw, hAn, hin, huniq⟩ := heat i A hea
            have hAd := h3 A hAw
            obtain ⟨oA, hoA⟩ : ∃ oA, ops[A]? = some oA := ⟨ops[A]'(by have := hs.lt; omega), Array.getElem?_eq_getElem _⟩
            obtain ⟨tA, htA, _, _, _⟩ := hs.dst A _ hAm hoA
            have hdA : dstOf ops A = some tA := by unfold dstOf; rw [hoA]; exact htA
            have hAi : A ≠ i := fun e => h2 (e ▸ hAd)
            have hAlive : ∀ k, eats k = some A → ¬ doneAt l k := fun k hk hd => by rw [huniq k hk] at hd; exact h2 hd
            have hst := stepG i A tA _ him hea hdA ho q w hE.below hpre
            refine op_at ho hgd (Oper.wp_mono ?_ hst)
            rintro a' w' ⟨v, rfl, hg, hp, hre, hnew⟩
            rw [ht, frm_put hdt]
            have hsz := hg.size
            have hrow : ∀ b, blk (q tA) = some b → w0.heap.size ≤ b ∧ b < w.heap.size := fun b hb => hE.own A tA b hAm hAd hAn hAlive hdA hb
            have hnA : ∀ j, (∀ k, eats k = some j → ¬ doneAt (l.setIfInBounds i true) k) → j ≠ A := fun j h e => h i (e ▸ hea) ((done_set hil).2 (.inl rfl))
            have eat : ∀ j, (∀ k, eats k = some j → ¬ doneAt (l.setIfInBounds i true) k) → ∀ k, eats k = some j → ¬ doneAt l k := fun j h k hk hd => h k hk (hold k hd)
            have hb' : Below w0.heap.size w0 w' := hE.below.grown hg hE.below.size (fun b hb => (hrow b hb).1)
            have hnb : ∀ b, blk v = some b → w0.heap.size ≤ b ∧ b < w'.heap.size := fun b hb => by
              obtain ⟨h5, h6⟩ := hnew b hb
              have := hE.below.size
              rcases h5 with h5 | h5
              · exact ⟨(hrow b h5).1, h6⟩
              · omega
            refine ⟨by omega, .inl ⟨_, rfl, ⟨by rw [Array.size_setIfInBounds]; exact hlsz, lat, clo, hb', lnk v hre, fun j s hj hd' he hs' => ?_, fun j s b hj hd' hn he hs' hbk => ?_, fun j j2 s s2 b hj hj2 hjj hd' hd2 hn hn2 he he2 hs' hs2 hbk => ?_⟩⟩⟩
            · by_cases hji : j = i
              · subst hji
                rw [hdi] at hs'
                obtain rfl := Option.some.inj hs'
                rw [setV_same]; exact hp
              · rw [setV_other (slot j s hj hji hs')]
                have hjd := (hdone j hd').resolve_left hji
                exact stableG j _ w w' _ hj (hE.posts j s hj hjd (eat j he) hs') hg fun b hb => ⟨(hrow b hb).1, fun hn => hE.dis A j tA s b hAm hj (fun e => hnA j he e.symm) hAd hjd hAn hn hAlive (eat j he) hdA hs' hb⟩
            · by_cases hji : j = i
              · subst hji
                rw [hdi] at hs'
                obtain rfl := Option.some.inj hs'
                rw [setV_same] at hbk
                exact hnb b hbk
              · rw [setV_other (slot j s hj hji hs')] at hbk
                obtain ⟨h5, h6⟩ := hE.own j s b hj ((hdone j hd').resolve_left hji) hn (eat j he) hs' hbk
                omega
            · have key : ∀ j2 s2 b, j2 < m → j2 ≠ i → doneAt (l.setIfInBounds i true) j2 → new j2 = true → (∀ k, eats k = some j2 → ¬ doneAt (l.setIfInBounds i true) k) → dstOf ops j2 = some s2 → blk v = some b → blk (q s2) ≠ some b := fun j2 s2 b hj2 hj2i hd2 hn2 he2 hs2 hbv hb2 => by
                have hjd := (hdone j2 hd2).resolve_left hj2i
                rcases (hnew b hbv).1 with h5 | h5
                · exact hE.dis A j2 tA s2 b hAm hj2 (fun e => hnA j2 he2 e.symm) hAd hjd hAn hn2 hAlive (eat j2 he2) hdA hs2 h5 hb2
                · have := (hE.own j2 s2 b hj2 hjd hn2 (eat j2 he2) hs2 hb2).2; omega
              by_cases hji : j = i
              · subst hji
                rw [hdi] at hs'
                obtain rfl := Option.some.inj hs'
                rw [setV_same] at hbk
                have hj2i : j2 ≠ j := fun e => hjj e.symm
                rw [setV_other (slot j2 s2 hj2 hj2i hs2)]
                exact key j2 s2 b hj2 hj2i hd2 hn2 he2 hs2 hbk
              · rw [setV_other (slot j s hj hji hs')] at hbk
                by_cases hj2i : j2 = i
                · subst hj2i
                  rw [hdi] at hs2
                  obtain rfl := Option.some.inj hs2
                  rw [setV_same]
                  exact fun hb2 => key j s b hj hji hd' hn he hs' hb2 hbk
                · rw [setV_other (slot j2 s2 hj2 hj2i hs2)]
                  exact hE.dis j j2 s s2 b hj hj2 hjj ((hdone j hd').resolve_left hji) ((hdone j2 hd2).resolve_left hj2i) hn hn2 (eat j he) (eat j2 he2) hs' hs2 hbk
        · have him2 : i = m := by
            rcases Nat.lt_or_ge m i with h | h
            · rcases hs.late i m (by omega) h1 h with h4 | h4
              · omega
              · exact absurd (h3 m h4) (hE.later m (Nat.le_refl _))
            · omega
          subst him2
          have hall := all_early hs hE.closed h3
          exact late i _ w (Nat.le_refl _) (by omega) (fun i' => ⟨fun h => by
            rcases Nat.lt_or_ge i' i with h' | h'
            · exact h'
            · exact absurd h (hE.later i' h'), fun h => hall i' h⟩) (last q w hE.below (fun i' t' hi' he ht' => hE.posts i' t' hi' (hall i' hi') (fun k hk => absurd hk (he k)) ht') (fun i' t' hi' ht' => hE.links i' t' hi' (hall i' hi') ht') (fun i' j' t' s' b' hi' hj' hne' hn' hn2' he' he2' ht' hs' hb' => hE.dis i' j' t' s' b' hi' hj' hne' (hall i' hi') (hall j' hj') hn' hn2' (fun k hk => absurd hk (he' k)) (fun k hk => absurd hk (he2' k)) ht' hs' hb') (fun i' t' b' hi' hn' he' ht' hb' => (hE.own i' t' b' hi' (hall i' hi') hn' (fun k hk => absurd hk (he' k)) ht' hb').1))
      · exact late j a w hj1 hj2 hd hw
  · unfold left
    simp
  · have hnd : ∀ i, ¬ doneAt (Array.replicate ops.size false) i := fun i h => by
      unfold doneAt at h
      rw [Array.getElem?_replicate] at h
      split at h <;> cases h
    exact ⟨by simp, fun i _ => hnd i, fun i _ h => absurd h (hnd i), hb0, fun i _ _ h => absurd h (hnd i), fun i _ _ h => absurd h (hnd i), fun i _ _ _ h => absurd h (hnd i), fun i j _ _ _ _ _ _ h => absurd h (hnd i)⟩
end Go.Proofs.YtbnhjbjlcnmjbaaDoor

/-
  Plain mathematics: a word told in other ways: its loop twice, or a letter of the loop in the stem.
-/
namespace Go.Proofs.YtbnhjbjlcnmjbaaDoor
open Terms

theorem getD_apL {α : Type} {a b : List α} {d : α} {i : Nat} (h : i < a.length) : (a ++ b).getD i d = a.getD i d := by simp [List.getD_eq_getElem?_getD, List.getElem?_append_left h]
theorem getD_apR {α : Type} {a b : List α} {d : α} {i : Nat} (h : a.length ≤ i) : (a ++ b).getD i d = b.getD (i - a.length) d := by simp [List.getD_eq_getElem?_getD, List.getElem?_append_right h]
/-- the letter of a moment. -/
theorem let_at {ss ll : List (List Bool)} (h1 : 1 ≤ ll.length) (i : Nat) : (ss ++ ll).getD (moAt ss.length (ss ++ ll).length i) [] = if i < ss.length then ss.getD i [] else ll.getD ((i - ss.length) % ll.length) [] := by
  have hl : (ss ++ ll).length = ss.length + ll.length := by simp
  unfold moAt
  rw [hl]
  by_cases hi : i < ss.length
  · rw [if_pos (by omega), if_pos hi, getD_apL hi]
  · rw [if_neg hi]
    by_cases h2 : i < ss.length + ll.length
    · rw [if_pos h2, getD_apR (by omega), Nat.mod_eq_of_lt (by omega)]
    · rw [if_neg h2, getD_apR (by omega), show ss.length + (i - ss.length) % (ss.length + ll.length - ss.length) - ss.length = (i - ss.length) % ll.length by rw [show ss.length + ll.length - ss.length = ll.length by omega]; omega]
theorem sig_eq {ss ll ss' ll' : List (List Bool)} (h1 : 1 ≤ ll.length) (h2 : 1 ≤ ll'.length) (h : ∀ i, (if i < ss.length then ss.getD i [] else ll.getD ((i - ss.length) % ll.length) []) = (if i < ss'.length then ss'.getD i [] else ll'.getD ((i - ss'.length) % ll'.length) [])) : sig (ss' ++ ll') ss'.length = sig (ss ++ ll) ss.length := by
  funext i v
  unfold sig
  rw [let_at h1, let_at h2, h i]
theorem sig_twice {ss ll : List (List Bool)} (h1 : 1 ≤ ll.length) : sig (ss ++ (ll ++ ll)) ss.length = sig (ss ++ ll) ss.length := by
  refine sig_eq h1 (by simp; omega) fun i => ?_
  by_cases hi : i < ss.length
  · rw [if_pos hi, if_pos hi]
  · rw [if_neg hi, if_neg hi]
    generalize i - ss.length = k
    have hl : (ll ++ ll).length = 2 * ll.length := by simp; omega
    rw [hl]
    have hr : k % (2 * ll.length) < 2 * ll.length := Nat.mod_lt _ (by omega)
    have hm : k % (2 * ll.length) % ll.length = k % ll.length := Nat.mod_mod_of_dvd _ ⟨2, by omega⟩
    by_cases h : k % (2 * ll.length) < ll.length
    · rw [getD_apL h, ← hm, Nat.mod_eq_of_lt h]
    · rw [getD_apR (by omega), ← hm, Nat.mod_eq_sub_mod (by omega), Nat.mod_eq_of_lt (by omega)]
theorem tail_getD' {α : Type} (l : List α) (d : α) (i : Nat) : l.tail.getD i d = l.getD (i + 1) d := by
  cases l with
  | nil => simp
  | cons x r => simp [List.getD_eq_getElem?_getD]
theorem sig_turned {ss ll : List (List Bool)} (h1 : 1 ≤ ll.length) : sig ((ss ++ [ll.getD 0 []]) ++ (ll.tail ++ [ll.getD 0 []])) (ss ++ [ll.getD 0 []]).length = sig (ss ++ ll) ss.length := by
  refine sig_eq h1 (by simp) fun i => ?_
  have hl : (ss ++ [ll.getD 0 []]).length = ss.length + 1 := by simp
  have hl2 : (ll.tail ++ [ll.getD 0 []]).length = ll.length := by simp; omega
  rw [hl, hl2]
  by_cases hi : i < ss.length
  · rw [if_pos hi, if_pos (by omega), getD_apL hi]
  · rw [if_neg hi]
    by_cases he : i = ss.length
    · subst he
      rw [if_pos (by omega), getD_apR (Nat.le_refl _), Nat.sub_self, Nat.zero_mod]
      rfl
    · rw [if_neg (by omega)]
      obtain ⟨k, hk⟩ : ∃ k, i = ss.length + 1 + k := ⟨i - (ss.length + 1), by omega⟩
      subst hk
      rw [show ss.length + 1 + k - ss.length = k + 1 by omega, show ss.length + 1 + k - (ss.length + 1) = k by omega]
      have hr : k % ll.length < ll.length := Nat.mod_lt _ (by omega)
      have hm : (k + 1) % ll.length = (k % ll.length + 1) % ll.length := by rw [Nat.mod_add_mod]
      rw [hm]
      by_cases h : k % ll.length + 1 < ll.length
      · rw [getD_apL (by simp; omega), tail_getD', Nat.mod_eq_of_lt h]
      · have he2 : k % ll.length + 1 = ll.length := by omega
        rw [getD_apR (by simp; omega), he2, Nat.mod_self, show k % ll.length - ll.tail.length = 0 by simp; omega]
        rfl
end Go.Proofs.YtbnhjbjlcnmjbaaDoor

/-
  The walk of the law WordLonger.
-/
namespace Go.Proofs.YtbnhjbjlcnmjbaaDoor
open Go.ChangeShapes Go.WideShapes Go.ChangeAt Go.RowKit Go.Deep
open Terms

theorem blk_own {w : World} {base : Nat} {e : TypeId} {s n : Nat} {v : Value} {xs : List Value} (h : w.ownsRow base e s v n xs) : blk v = v.ownBlock := by
  rcases h.2 with ⟨rfl, _⟩ | ⟨g, cap, cur, rfl, _⟩ <;> rfl
theorem row_grown {w w' : World} {base : Nat} {e : TypeId} {s n : Nat} {v : Value} {xs : List Value} {row : Option Nat} (h : w.ownsRow base e s v n xs) (hg : w.grownBy w' row) (hne : ∀ b, row = some b → blk v ≠ some b) : w'.ownsRow base e s v n xs := by
  refine h.kept hg ?_
  rw [← blk_own h]
  cases hr : row with
  | none =>
    cases hb : blk v with
    | none => exact .inl rfl
    | some b => exact .inr (by simp)
  | some b => exact .inr (hne b hr)
theorem row_mono {w : World} {base base' : Nat} {e : TypeId} {s n : Nat} {v : Value} {xs : List Value} (h : w.ownsRow base e s v n xs) (hb : base' ≤ base) : w.ownsRow base' e s v n xs := by
  obtain ⟨h1, h2⟩ := h
  refine ⟨h1, ?_⟩
  rcases h2 with h2 | ⟨g, cap, cur, e1, e2, rest⟩
  · exact .inl h2
  · exact .inr ⟨g, cap, cur, e1, Nat.le_trans hb e2, rest⟩
theorem grown_set (w : World) (b i : Nat) (v : Value) : w.grownBy (w.setCell ⟨b, i, none⟩ v) (some b) := by
  refine ⟨rfl, rfl, rfl, by simp [World.setCell], fun k hk hne => ?_⟩
  exact Below.heap_setCell _ _ _ _ (fun e => hne (by rw [e]))
theorem block_grown {w w' : World} {row : Option Nat} {b : Nat} {x : Obj} (hg : w.grownBy w' row) (h : w.heap[b]? = some x) (hne : row ≠ some b) : w'.heap[b]? = some x :=
  (hg.block b (Array.getElem?_eq_some_iff.1 h).1 (fun e => hne e.symm)).trans h
/-- what the operations leave that tell a loop twice. -/
def lg3P (wb base : Nat) (sv lv : Value) (ln : Nat) (vs : List Value) : Nat → Value → World → Prop
  | 0, v, _ => v = .pointer (some ⟨wb, 0, none⟩)
  | 1, v, _ => v = sv
  | 2, v, _ => v = .pointer (some ⟨wb, 1, none⟩)
  | 3, v, _ => v = lv
  | 4, v, w => w.ownsRow base 32 1 v ln vs
  | 5, v, _ => v = .pointer (some ⟨wb, 1, none⟩)
  | 6, v, _ => v = lv
  | 7, v, w => w.ownsRow base 32 1 v (ln + ln) (vs ++ vs) ∧ ∃ g c, v = .slice (some ⟨g, 0, none⟩) (ln + ln) c
  | 9, v, w => ∃ b, v = .pointer (some ⟨b, 0, none⟩) ∧ w.heap[b]? = some (.cells #[.slice none 0 0, .slice none 0 0] 28 (0, 0))
  | _, _, _ => True
def lg4P (wb base : Nat) (sv lv tv u0 pv : Value) (sn ln : Nat) (us vs : List Value) : Nat → Value → World → Prop
  | 0, v, _ => v = .pointer (some ⟨wb, 0, none⟩)
  | 1, v, _ => v = sv
  | 2, v, w => w.ownsRow base 32 1 v sn us
  | 3, v, _ => v = .pointer (some ⟨wb, 1, none⟩)
  | 4, v, _ => v = lv
  | 5, v, _ => v = pv
  | 6, v, _ => v = u0
  | 7, v, w => ∃ g, v = .slice (some ⟨g, 0, none⟩) 1 1 ∧ w.heap[g]? = some (.cells #[u0] 32 (0, 0))
  | 8, v, w => w.ownsRow base 32 1 v (sn + 1) (us ++ [u0]) ∧ ∃ g c, v = .slice (some ⟨g, 0, none⟩) (sn + 1) c
  | 9, v, _ => v = .pointer (some ⟨wb, 1, none⟩)
  | 10, v, _ => v = lv
  | 11, v, _ => v = tv
  | 12, v, w => w.ownsRow base 32 1 v (ln - 1) vs.tail
  | 13, v, _ => v = .pointer (some ⟨wb, 1, none⟩)
  | 14, v, _ => v = lv
  | 15, v, _ => v = pv
  | 16, v, _ => v = u0
  | 17, v, w => ∃ g, v = .slice (some ⟨g, 0, none⟩) 1 1 ∧ w.heap[g]? = some (.cells #[u0] 32 (0, 0))
  | 18, v, w => w.ownsRow base 32 1 v (ln - 1 + 1) (vs.tail ++ [u0]) ∧ ∃ g c, v = .slice (some ⟨g, 0, none⟩) (ln - 1 + 1) c
  | 20, v, w => ∃ b, v = .pointer (some ⟨b, 0, none⟩) ∧ w.heap[b]? = some (.cells #[.slice none 0 0, .slice none 0 0] 28 (0, 0))
  | _, _, _ => True
def lg3R (sv : Value) : Nat → (Nat → Value) → Value → Prop
  | 8, q, v => v = .agg #[sv, q 28]
  | _, _, _ => True
def lg4R : Nat → (Nat → Value) → Value → Prop
  | 19, q, v => v = .agg #[q 38, q 48]
  | _, _, _ => True
def lg3E (i : Nat) : Option Nat := if i = 7 then some 4 else none
def lg4E (i : Nat) : Option Nat := if i = 8 then some 2 else if i = 18 then some 12 else none
def lg3N (i : Nat) : Bool := i == 4 || i == 7 || i == 9
def lg4N (i : Nat) : Bool := i == 2 || i == 7 || i == 8 || i == 12 || i == 17 || i == 18 || i == 20
theorem lg3_lt : ∀ i, i < 10 → i = 0 ∨ i = 1 ∨ i = 2 ∨ i = 3 ∨ i = 4 ∨ i = 5 ∨ i = 6 ∨ i = 7 ∨ i = 8 ∨ i = 9 := by intro i hi; omega
theorem lg3P_stable (wb base : Nat) (sv lv : Value) (ln : Nat) (vs : List Value) (i : Nat) (v : Value) (w w' : World) (hlt : i < 10) (h : lg3P wb base sv lv ln vs i v w) (hb : Below w.heap.size w w') : lg3P wb base sv lv ln vs i v w' := by
  rcases lg3_lt i hlt with rfl | rfl | rfl | rfl | rfl | rfl | rfl | rfl | rfl | rfl
  · exact h
  · exact h
  · exact h
  · exact h
  · exact owns_later h hb (Nat.le_refl _)
  · exact h
  · exact h
  · obtain ⟨h1, h2⟩ := h
    exact ⟨owns_later h1 hb (Nat.le_refl _), h2⟩
  · exact h
  · obtain ⟨g, h1, h2⟩ := h
    exact ⟨g, h1, (hb.block g (Array.getElem?_eq_some_iff.1 h2).1).trans h2⟩
theorem lg3P_grown (wb base : Nat) (sv lv : Value) (ln : Nat) (vs : List Value) (i : Nat) (v : Value) (w w' : World) (row : Option Nat) (hlt : i < 10) (h : lg3P wb base sv lv ln vs i v w) (hg : w.grownBy w' row) (hne : ∀ b, row = some b → (lg3N i = true → blk v ≠ some b)) : lg3P wb base sv lv ln vs i v w' := by
  rcases lg3_lt i hlt with rfl | rfl | rfl | rfl | rfl | rfl | rfl | rfl | rfl | rfl
  · exact h
  · exact h
  · exact h
  · exact h
  · exact row_grown h hg fun b hb => hne b hb rfl
  · exact h
  · exact h
  · obtain ⟨h1, h2⟩ := h
    exact ⟨row_grown h1 hg fun b hb => hne b hb rfl, h2⟩
  · exact h
  · obtain ⟨g, h1, h2⟩ := h
    exact ⟨g, h1, block_grown hg h2 fun e => hne g e rfl (by rw [h1]; rfl)⟩
theorem lg4_lt : ∀ i, i < 21 → i = 0 ∨ i = 1 ∨ i = 2 ∨ i = 3 ∨ i = 4 ∨ i = 5 ∨ i = 6 ∨ i = 7 ∨ i = 8 ∨ i = 9 ∨ i = 10 ∨ i = 11 ∨ i = 12 ∨ i = 13 ∨ i = 14 ∨ i = 15 ∨ i = 16 ∨ i = 17 ∨ i = 18 ∨ i = 19 ∨ i = 20 := by intro i hi; omega
theorem lg4P_stable (wb base : Nat) (sv lv tv u0 pv : Value) (sn ln : Nat) (us vs : List Value) (i : Nat) (v : Value) (w w' : World) (hlt : i < 21) (h : lg4P wb base sv lv tv u0 pv sn ln us vs i v w) (hb : Below w.heap.size w w') : lg4P wb base sv lv tv u0 pv sn ln us vs i v w' := by
  rcases lg4_lt i hlt with rfl | rfl | rfl | rfl | rfl | rfl | rfl | rfl | rfl | rfl | rfl | rfl | rfl | rfl | rfl | rfl | rfl | rfl | rfl | rfl | rfl
  · exact h
  · exact h
  · exact owns_later h hb (Nat.le_refl _)
  · exact h
  · exact h
  · exact h
  · exact h
  · obtain ⟨g, h1, h2⟩ := h
    exact ⟨g, h1, (hb.block g (Array.getElem?_eq_some_iff.1 h2).1).trans h2⟩
  · obtain ⟨h1, h2⟩ := h
    exact ⟨owns_later h1 hb (Nat.le_refl _), h2⟩
  · exact h
  · exact h
  · exact h
  · exact owns_later h hb (Nat.le_refl _)
  · exact h
  · exact h
  · exact h
  · exact h
  · obtain ⟨g, h1, h2⟩ := h
    exact ⟨g, h1, (hb.block g (Array.getElem?_eq_some_iff.1 h2).1).trans h2⟩
  · obtain ⟨h1, h2⟩ := h
    exact ⟨owns_later h1 hb (Nat.le_refl _), h2⟩
  · exact h
  · obtain ⟨g, h1, h2⟩ := h
    exact ⟨g, h1, (hb.block g (Array.getElem?_eq_some_iff.1 h2).1).trans h2⟩
theorem lg4P_grown (wb base : Nat) (sv lv tv u0 pv : Value) (sn ln : Nat) (us vs : List Value) (i : Nat) (v : Value) (w w' : World) (row : Option Nat) (hlt : i < 21) (h : lg4P wb base sv lv tv u0 pv sn ln us vs i v w) (hg : w.grownBy w' row) (hne : ∀ b, row = some b → (lg4N i = true → blk v ≠ some b)) : lg4P wb base sv lv tv u0 pv sn ln us vs i v w' := by
  rcases lg4_lt i hlt with rfl | rfl | rfl | rfl | rfl | rfl | rfl | rfl | rfl | rfl | rfl | rfl | rfl | rfl | rfl | rfl | rfl | rfl | rfl | rfl | rfl
  · exact h
  · exact h
  · exact row_grown h hg fun b hb => hne b hb rfl
  · exact h
  · exact h
  · exact h
  · exact h
  · obtain ⟨g, h1, h2⟩ := h
    exact ⟨g, h1, block_grown hg h2 fun e => hne g e rfl (by rw [h1]; rfl)⟩
  · obtain ⟨h1, h2⟩ := h
    exact ⟨row_grown h1 hg fun b hb => hne b hb rfl, h2⟩
  · exact h
  · exact h
  · exact h
  · exact row_grown h hg fun b hb => hne b hb rfl
  · exact h
  · exact h
  · exact h
  · exact h
  · obtain ⟨g, h1, h2⟩ := h
    exact ⟨g, h1, block_grown hg h2 fun e => hne g e rfl (by rw [h1]; rfl)⟩
  · obtain ⟨h1, h2⟩ := h
    exact ⟨row_grown h1 hg fun b hb => hne b hb rfl, h2⟩
  · exact h
  · obtain ⟨g, h1, h2⟩ := h
    exact ⟨g, h1, block_grown hg h2 fun e => hne g e rfl (by rw [h1]; rfl)⟩
theorem lg3_eat (j k : Nat) (h : lg3E j = some k) : j = 7 ∧ k = 4 := by
  unfold lg3E at h
  split at h
  · exact ⟨by assumption, (Option.some.inj h).symm⟩
  · cases h
theorem lg4_eat (j k : Nat) (h : lg4E j = some k) : (j = 8 ∧ k = 2) ∨ (j = 18 ∧ k = 12) := by
  unfold lg4E at h
  split at h
  · exact .inl ⟨by assumption, (Option.some.inj h).symm⟩
  · split at h
    · exact .inr ⟨by assumption, (Option.some.inj h).symm⟩
    · cases h
theorem op_valR {P : Program} {o : Oper} {a : Act} {w w' : World} {v : Value} {post : Value → World → Prop} {rel : Value → Prop} {nw : Bool} {Q : Exit → Act → World → Prop} (hr : (execOp a.eval o).run P w = .ok (.value v) w') (hb : Below w.heap.size w w') (hp : post v w') (hre : rel v) (hn : ∀ b, nw = true → blk v = some b → w.heap.size ≤ b ∧ b < w'.heap.size) : Oper.wp P o a w (fun a' w' => ∃ v, a' = a.put o.dst v ∧ Below w.heap.size w w' ∧ post v w' ∧ rel v ∧ ∀ b, nw = true → blk v = some b → w.heap.size ≤ b ∧ b < w'.heap.size) Q := by
  unfold Oper.wp
  rw [hr]
  exact ⟨v, rfl, hb, hp, hre, hn⟩
theorem boolsV_one {w : World} {v : Value} {l : List Bool} (h : BoolsV w v l) : v.oneCell' = true := by
  obtain ⟨ao, cap, rfl, _⟩ := h; rfl
theorem letsU_one {w : World} {us : List Value} {ls : List (List Bool)} (h : LetsU w us ls) : ∀ u ∈ us, u.oneCell' = true := fun u hu => by
  obtain ⟨i, hi, he⟩ := List.getElem_of_mem hu
  have := h.2 i (by rw [← h.1]; exact hi)
  rw [List.getD_eq_getElem?_getD, List.getElem?_eq_getElem hi] at this
  simp only [Option.getD_some, he] at this
  exact boolsV_one this

set_option maxHeartbeats 12800000 in
set_option maxRecDepth 20000 in
theorem wordLonger_walk (xv s0 s1 : Value) (xs : List (Int × Int)) (a b : List Int) (w : World) (hB : 0 < w.heap.size) (hT : TabAt w) (hRx : Raws w w.heap.size xv xs) (hA : IntsR w s0 a) (hBb : IntsR w s1 b) :
    Calls Tryd.prog 4 #[xv, .agg #[s0, s1]] w fun e w' => e = .returned (.bool true) ∧ Below w.heap.size w w' := by
  have HWo : Hid (∀ w1, Below w.heap.size w w1 → Calls Tryd.prog 7 #[.agg #[s0, s1]] w1 fun e w' => ∃ so sc lo lc ss ll, e = .returned (.agg #[.slice so ss.length sc, .slice lo ll.length lc]) ∧ Below w1.heap.size w1 w' ∧ Hid (WOk ss ll) ∧ Hid ((LettersV w' (.slice so ss.length sc) ss ∧ LettersV w' (.slice lo ll.length lc) ll) ∧ ss.length ≤ sc ∧ ll.length ≤ lc)) := fun w1 h => wordFn_cap s0 s1 a b w1 (hA.below h) (hBb.below h)
  have HFx : Hid (∀ w1, Below w.heap.size w w1 → Calls Tryd.prog 8 #[xv, .int .i64 3, .int .i64 4] w1 fun e w' => ∃ a c t T m, e = .returned (.slice a t.length c) ∧ Below w1.heap.size w1 w' ∧ Hid (KFor w' (.slice a t.length c) 4 t T m)) := fun w1 h => (formulaFn_any xv xs 3 4 w1 (by omega) (by omega) (by omega) (hRx.up h)).mono fun e w' ⟨a, c, t, m, h1, h2, h3, h4, h5, h6⟩ => by
    obtain ⟨T, hT⟩ := h2.ok
    exact ⟨a, c, t, T, m, h1, h6, h5, hT, h4, h2.ne, h3⟩
  obtain ⟨xq0, xq1, xq2, rfl⟩ : ∃ a n c, xv = .slice a n c := by obtain ⟨⟨a, c, h, _⟩, _, _⟩ := hRx; exact ⟨_, _, _, h⟩
  obtain ⟨e0, e1, e2, rfl⟩ : ∃ a n c, s0 = .slice a n c := by obtain ⟨a, c, h, _⟩ := hA.v; exact ⟨_, _, _, h⟩
  obtain ⟨g0, g1, g2, rfl⟩ : ∃ a n c, s1 = .slice a n c := by obtain ⟨a, c, h, _⟩ := hBb.v; exact ⟨_, _, _, h⟩
  have hA0 : ∀ o, Below w.heap.size w (w.alloc o) := fun o => (Below.refl _ _).alloc (Nat.le_refl _) o
  have HT : Hid (0 < w.heap.size ∧ TabAt w) := ⟨hB, hT⟩
  clear hRx hA hBb hT hB
  go_enter Tryd.func4, Tryd.ntmps4
  go_upto_region 3 with (first | (go_at_call 7; refine (HWo.out _ (by first | exact Below.refl _ _ | exact hA0 _)).mono ?_; rintro e w1 ⟨so, sc, lo, lc, ss, ll, rfl, hb1, HWk, HLs⟩; have hbw1 : Below w.heap.size w w1 := (by first | exact hb1 | exact (hA0 _).trans (hb1.mono (hA0 _).size)); have hbA := hbw1.alloc hbw1.size (.cells #[.slice so ss.length sc, .slice lo ll.length lc] 28); have hq0 := HFx.out _ hbA) | (go_at_call_of 8 xq1; refine hq0.mono ?_; rintro e v0 ⟨xa, xc, x, Tx, mx, rfl, hbf0, Hx⟩; have hbF0 := hbA.trans (hbf0.mono hbA.size); have HK := (show Hid _ from KCtx.start HT.out hbw1 HLs.out.1 HWk.out (hbf0)); have hkc := HK.out.c0; have hkd := HK.out.c1; have hklt := HK.out.lt; have hs5 : ss.length ≤ 5 := HWk.out.stem; have hl5 : ll.length ≤ 5 := HWk.out.loop; have hcs := HLs.out.2.1; have hcl := HLs.out.2.2))
  have Kx : Hid (KFor v0 (.slice xa x.length xc) 4 x Tx mx) := Hx
  have HC0 : Hid (Below v0.heap.size v0 v0) := Below.refl _ _
  clear HFx Hx HWo HLs HWk HT hA0 hbA hbw1 hb1 hkc hkd hs5 hl5 hklt hbf0 hbF0 hq0
  generalize w1.heap.size = wb at *
  generalize v0 = w3 at *
  generalize hxn : x.length = xn at *
  have Lx : Hid (x.length = xn) := hxn
  clear hxn
  generalize hsn : ss.length = sn at *
  generalize hln : ll.length = ln at *
  have LS : Hid (ss.length = sn) := hsn
  have LL : Hid (ll.length = ln) := hln
  clear hsn hln
  have hs5 : sn ≤ 5 := by rw [← LS.out]; exact HK.out.ok.stem
  have hl5 : ln ≤ 5 := by rw [← LL.out]; exact HK.out.ok.loop
  have hl1 : 1 ≤ ln := by rw [← LL.out]; exact HK.out.ok.one
  obtain ⟨us, so', sc', hsv, hs0, hsu, hsc⟩ := id HK.out.s
  obtain ⟨vs, lo', lc', hlv, hl0, hlu, hlc⟩ := id HK.out.l
  injection hsv with q1 q2 q3
  subst q1 q3
  injection hlv with q4 q5 q6
  subst q4 q6
  obtain ⟨lb, loff, rfl, hlb, hlcell⟩ := hlc (by intro e; rw [e] at q5; simp at q5; omega)
  have HSU : Hid (LetsU w3 us ss) := hsu
  have HLU : Hid (LetsU w3 vs ll) := hlu
  have husl : us.length = sn := by rw [hsu.1, LS.out]
  have hvsl : vs.length = ln := by rw [hlu.1, LL.out]
  have HSN : Hid (∀ w', Below w3.heap.size w3 w' → ∀ ad, so = some ad → ∀ j u, us[j]? = some u → w'.cell? (ad.add j) = some u) := fun w' hb ad he j u hj => by
    have hjl : j < us.length := by
      rcases Nat.lt_or_ge j us.length with h | h
      · exact h
      · rw [List.getElem?_eq_none h] at hj; cases hj
    obtain ⟨b, off, e1, hlt, hat⟩ := hsc (by intro e; rw [e] at hsu; have := hsu.1; simp at this; rw [this] at hjl; simp at hjl)
    rw [e1] at he
    obtain rfl := Option.some.inj he
    rw [show (⟨b, off, none⟩ : Addr).add j = ⟨b, off + j, none⟩ by simp [Addr.add], hb.cell (p := ⟨b, off + j, none⟩) hlt, hat j (by rw [← hsu.1]; exact hjl)]
    rw [List.getD_eq_getElem?_getD, hj]; rfl
  have HLN : Hid (∀ w', Below w3.heap.size w3 w' → ∀ j u, vs[j]? = some u → w'.cell? ⟨lb, loff + j, none⟩ = some u) := fun w' hb j u hj => by
    have hjl : j < vs.length := by
      rcases Nat.lt_or_ge j vs.length with h | h
      · exact h
      · rw [List.getElem?_eq_none h] at hj; cases hj
    rw [hb.cell (p := ⟨lb, loff + j, none⟩) hlb, hlcell j (by rw [← hlu.1]; exact hjl)]
    rw [List.getD_eq_getElem?_getD, hj]; rfl
  have HU1 : Hid (∀ u ∈ us, u.oneCell' = true) := letsU_one hsu
  have HV1 : Hid (∀ u ∈ vs, u.oneCell' = true) := letsU_one hlu
  obtain ⟨u0, hu0⟩ : ∃ u0, u0 = vs.getD 0 nilV := ⟨_, rfl⟩
  have HU0 : Hid (u0 = vs.getD 0 nilV) := hu0
  obtain ⟨uo, un, uc, hu0s⟩ : ∃ uo un uc, u0 = .slice uo un uc := by
    obtain ⟨ao, cap, h, _⟩ := hlu.2 0 (by rw [← hlu.1, hvsl]; exact hl1)
    exact ⟨_, _, _, hu0.trans h⟩
  have HS0 : Hid (so = none → sc = 0 ∧ sn = 0) := fun e => by
    obtain ⟨h1, h2⟩ := hs0 e
    exact ⟨h1, by rw [← LS.out, h2]; rfl⟩
  have hU0c : Hid (∀ w', Below w3.heap.size w3 w' → w'.cell? ⟨lb, loff, none⟩ = some (.slice uo un uc)) := fun w' hb => by
    have := HLN.out w' hb 0 u0 (by rw [hu0, List.getD_eq_getElem?_getD, List.getElem?_eq_getElem (by omega)]; rfl)
    rw [← hu0s]; exact this
  have HM : Hid (∀ w', Below w3.heap.size w3 w' → w'.cell? ⟨wb, 0, none⟩ = some (.slice so sn sc) ∧ w'.cell? ⟨wb, 1, none⟩ = some (.slice (some ⟨lb, loff, none⟩) ln lc)) := fun w' hb => ⟨(HK.out.later hb).c0, (HK.out.later hb).c1⟩
  have hUL : Hid (us.length = sn ∧ vs.length = ln) := ⟨husl, hvsl⟩
  clear hs0 hsu hsc hl0 hlu hlcell hlb hlc q2 q5 husl hvsl hu0
  obtain ⟨iL, hiL, hz0, hz1, hz2⟩ := info_parts infoBools
  go_cut [7] (fun s7 wx => ∃ b1 g1 n1, s7 = .pointer (some ⟨b1, 0, none⟩) ∧ Hid (wx.cell? ⟨b1, 0, none⟩ = some (.slice so sn sc) ∧ wx.cell? ⟨b1, 1, none⟩ = some (.slice (some ⟨g1, 0, none⟩) (ln + ln) n1) ∧ b1 < wx.heap.size ∧ LettersV wx (.slice (some ⟨g1, 0, none⟩) (ln + ln) n1) (ll ++ ll) ∧ Below w3.heap.size w3 wx))
  case first =>
    rename_i J K' hJ hK'
    generalize ha0 : Act.mk _ _ = a0
    have hsz : a0.tmps.size = 98 := by rw [← ha0]; rfl
    have a5 : a0.eval (.tmp 5) = .pointer (some ⟨wb, 0, none⟩) := by rw [← ha0]; rfl
    refine wp_anywayR (by rfl) [21, 22, 23, 24, 25, 26, 27, 28, 29, 7] 10 (lg3P wb w3.heap.size (.slice so sn sc) (.slice (some ⟨lb, loff, none⟩) ln lc) ln vs) lg3E lg3N (lg3R (.slice so sn sc)) (by rw [hsz]; rfl) ?_ ?_ (lg3P_stable _ _ _ _ _ _ ) (fun i v w w' row hi h hg hne => lg3P_grown _ _ _ _ _ _  i v w w' row hi h hg (fun b hb => (hne b hb).2)) ?_ ?_ ?_
    · intro i A h
      obtain ⟨rfl, rfl⟩ := lg3_eat i A h
      exact ⟨by decide, by decide, rfl, rfl, rfl, fun j hj => (lg3_eat j 4 hj).1⟩
    · intro i q v t u hi hk h
      rcases lg3_lt i hi with rfl | rfl | rfl | rfl | rfl | rfl | rfl | rfl | rfl | rfl
      case inr.inr.inr.inr.inr.inr.inr.inr.inl =>
        have := hk 7 28 rfl rfl
        show v = Value.agg #[_, setV q t u 28]
        rw [setV_other this]; exact h
      all_goals trivial
    · intro i o hi he ho q w' hb hq
      have hbW : Below w3.heap.size w3 w' := hb
      have f : ∀ t, [21, 22, 23, 24, 25, 26, 27, 28, 29, 7].contains t = true → t < 98 → (frm a0 [21, 22, 23, 24, 25, 26, 27, 28, 29, 7] q).eval (.tmp t) = q t := fun t h1 h2 => frm_in h1 (by rw [hsz]; exact h2)
      have e5 : (frm a0 [21, 22, 23, 24, 25, 26, 27, 28, 29, 7] q).eval (.tmp 5) = .pointer (some ⟨wb, 0, none⟩) := (frm_out rfl).trans a5
      obtain ⟨m0, m1⟩ := HM.out w' hbW
      have hsw := hb.size
      obtain ⟨ev, hev⟩ : ∃ ev, ev = (frm a0 [21, 22, 23, 24, 25, 26, 27, 28, 29, 7] q).eval := ⟨_, rfl⟩
      have evc : ∀ v, ev (.const v) = v := fun v => by rw [hev]; rfl
      rw [← hev] at f e5
      rcases lg3_lt i hi with rfl | rfl | rfl | rfl | rfl | rfl | rfl | rfl | rfl | rfl
      all_goals first | (exfalso; revert he; decide) | obtain rfl := Option.some.inj ho
      · refine op_valR (w' := w') (v := .pointer (some ⟨wb, 0, none⟩)) ?_ (Below.refl _ _) rfl trivial (fun b h => absurd h (by decide))
        rw [← hev]
        simp [execOp, e5, go_sem]
      · have e21 := (f 21 rfl (by decide)).trans (hq 0 21 rfl (fun j h => by have := lg3_eat j 0 h; omega) rfl)
        refine op_valR (w' := w') (v := (.slice so sn sc)) ?_ (Below.refl _ _) rfl trivial (fun b h => absurd h (by decide))
        rw [← hev]
        simp [execOp, e21, m0, go_sem]
      · refine op_valR (w' := w') (v := .pointer (some ⟨wb, 1, none⟩)) ?_ (Below.refl _ _) rfl trivial (fun b h => absurd h (by decide))
        rw [← hev]
        simp [execOp, e5, go_sem]
      · have e23 := (f 23 rfl (by decide)).trans (hq 2 23 rfl (fun j h => by have := lg3_eat j 2 h; omega) rfl)
        refine op_valR (w' := w') (v := (.slice (some ⟨lb, loff, none⟩) ln lc)) ?_ (Below.refl _ _) rfl trivial (fun b h => absurd h (by decide))
        rw [← hev]
        simp [execOp, e23, m1, go_sem]
      · have e24 := (f 24 rfl (by decide)).trans (hq 3 24 rfl (fun j h => by have := lg3_eat j 3 h; omega) rfl)
        exact wp_copy (.const (.slice none 0 0)) (.tmp 24) 26 rfl w'.heap.size 32 iL _ 1 24 Tryd.underlying26 hiL hz0 hz1 hz2 rfl (by decide) rfl (some ⟨lb, loff, none⟩) ln lc vs (by rw [← hev]; exact e24) (fun h => by cases h) (by rw [hUL.out.2]; omega) (fun ad he j u hj => by obtain rfl := Option.some.inj he; rw [show (⟨lb, loff, none⟩ : Addr).add j = ⟨lb, loff + j, none⟩ by simp [Addr.add]]; exact HLN.out _ hbW j u hj) HV1.out (by unfold maxLen; omega) (by omega) (Nat.le_refl _) fun v' w2 ho2 hg2 => ⟨v', rfl, below_of_grown hg2, row_mono ho2 hsw, trivial, fun b _ hb => by rw [blk_own ho2] at hb; exact ho2.lt b hb⟩
      · refine op_valR (w' := w') (v := .pointer (some ⟨wb, 1, none⟩)) ?_ (Below.refl _ _) rfl trivial (fun b h => absurd h (by decide))
        rw [← hev]
        simp [execOp, e5, go_sem]
      · have e26 := (f 26 rfl (by decide)).trans (hq 5 26 rfl (fun j h => by have := lg3_eat j 5 h; omega) rfl)
        refine op_valR (w' := w') (v := (.slice (some ⟨lb, loff, none⟩) ln lc)) ?_ (Below.refl _ _) rfl trivial (fun b h => absurd h (by decide))
        rw [← hev]
        simp [execOp, e26, m1, go_sem]
      · have e22 := (f 22 rfl (by decide)).trans (hq 1 22 rfl (fun j h => by have := lg3_eat j 1 h; omega) rfl)
        have e28 := f 28 rfl (by decide)
        obtain ⟨_, g, c, hv28⟩ := (hq 7 28 rfl (fun j h => by have := lg3_eat j 7 h; omega) rfl)
        rw [hv28] at e28
        refine op_valR (w' := w') (v := .agg #[.slice so sn sc, .slice (some ⟨g, 0, none⟩) (ln + ln) c]) ?_ (Below.refl _ _) trivial (by show _ = Value.agg #[_, q 28]; rw [hv28]) (fun b h => absurd h (by decide))
        rw [← hev]
        simp [execOp, e22, e28, go_sem]
      · refine op_valR (w' := w'.alloc (.cells #[.slice none 0 0, .slice none 0 0] 28)) (v := .pointer (some ⟨w'.heap.size, 0, none⟩)) ?_ ((Below.refl _ _).alloc (Nat.le_refl _) _) ⟨_, rfl, heap_new _ _⟩ trivial (fun b _ h => by obtain rfl := Option.some.inj h; exact ⟨Nat.le_refl _, by simp⟩)
        rw [← hev]
        simp [execOp, go_sem]
    · intro i A tA o hi he hA ho q w' hb hq
      have hbW : Below w3.heap.size w3 w' := hb
      have f : ∀ t, [21, 22, 23, 24, 25, 26, 27, 28, 29, 7].contains t = true → t < 98 → (frm a0 [21, 22, 23, 24, 25, 26, 27, 28, 29, 7] q).eval (.tmp t) = q t := fun t h1 h2 => frm_in h1 (by rw [hsz]; exact h2)
      have e5 : (frm a0 [21, 22, 23, 24, 25, 26, 27, 28, 29, 7] q).eval (.tmp 5) = .pointer (some ⟨wb, 0, none⟩) := (frm_out rfl).trans a5
      obtain ⟨m0, m1⟩ := HM.out w' hbW
      have hsw := hb.size
      obtain ⟨ev, hev⟩ : ∃ ev, ev = (frm a0 [21, 22, 23, 24, 25, 26, 27, 28, 29, 7] q).eval := ⟨_, rfl⟩
      have evc : ∀ v, ev (.const v) = v := fun v => by rw [hev]; rfl
      rw [← hev] at f e5
      obtain ⟨rfl, rfl⟩ := lg3_eat i A he
      obtain rfl : 25 = tA := Option.some.inj hA
      obtain rfl := Option.some.inj ho
      · have e27 := (f 27 rfl (by decide)).trans (hq 6 27 rfl (fun j h => by have := lg3_eat j 6 h; omega) rfl)
        have ho2 := (hq 4 25 rfl (fun j h => by have := lg3_eat j 4 h; omega) rfl)
        exact wp_append_lies _ (.tmp 25) (.tmp 27) 26 rfl w3.heap.size 32 iL _ 1 24 Tryd.underlying26 hiL hz0 hz1 hz2 rfl (by decide) (q 25) ln vs (by rw [← hev]; exact f 25 rfl (by decide)) ho2 ⟨lb, loff, none⟩ ln lc vs (by rw [← hev]; exact e27) (by rw [hUL.out.2]; omega) (fun j u hj => by rw [show (⟨lb, loff, none⟩ : Addr).add j = ⟨lb, loff + j, none⟩ by simp [Addr.add]]; exact HLN.out _ hbW j u hj) HV1.out (by omega) (by unfold maxLen; omega) (by omega) hsw _ rfl fun g cap w2 hown hgrow hat hlt => ⟨_, rfl, by rw [blk_own ho2]; exact hgrow, ⟨hown, g, cap, rfl⟩, trivial, fun b hb => by
          obtain rfl := Option.some.inj hb
          exact ⟨by rw [blk_own ho2]; exact hat.imp id (fun e => Nat.le_of_eq e.symm), hlt⟩⟩
    · intro q w' hb hq hl hd hw
      have f : ∀ q t, [21, 22, 23, 24, 25, 26, 27, 28, 29, 7].contains t = true → t < 98 → (frm a0 [21, 22, 23, 24, 25, 26, 27, 28, 29, 7] q).eval (.tmp t) = q t := fun q t h1 h2 => frm_in h1 (by rw [hsz]; exact h2)
      have hne : ∀ k i, i ≠ 4 → lg3E k ≠ some i := fun k i hi h => hi (lg3_eat k i h).2
      obtain ⟨ho, g1, n1, hv28⟩ := hq 7 28 (by decide) (fun k => hne k 7 (by decide)) rfl
      obtain ⟨b1, hv7, hbx⟩ := hq 9 7 (by decide) (fun k => hne k 9 (by decide)) rfl
      have hv29 : q 29 = .agg #[.slice so sn sc, q 28] := hl 8 29 (by decide) rfl
      have hdis : g1 ≠ b1 := fun e => by
        have := hd 7 9 28 7 g1 (by decide) (by decide) (by decide) rfl rfl (fun k => hne k 7 (by decide)) (fun k => hne k 9 (by decide)) rfl rfl (by rw [hv28]; rfl)
        rw [hv7, ← e] at this
        exact this rfl
      have e7 := (f q 7 rfl (by decide)).trans hv7
      have e29 := (f q 29 rfl (by decide)).trans hv29
      rw [hv28] at e29
      have c0 : w'.cell? ⟨b1, 0, none⟩ = some (.slice none 0 0) := by simp [World.cell?, hbx]
      have c1 : w'.cell? ⟨b1, 1, none⟩ = some (.slice none 0 0) := by simp [World.cell?, hbx]
      have z0 : w'.frozen? ⟨b1, 0, none⟩ = false := by simp [World.frozen?, hbx]
      have z1 : w'.frozen? ⟨b1, 1, none⟩ = false := by simp [World.frozen?, hbx]
      have hbl : b1 < w'.heap.size := (Array.getElem?_eq_some_iff.1 hbx).1
      show wpOps Tryd.prog _ _ [10] _ _
      rw [wpOps_cons]
      refine op_at rfl rfl ?_
      refine op_skip (w' := (w'.setCell ⟨b1, 0, none⟩ (.slice so sn sc)).setCell ⟨b1, 1, none⟩ (.slice (some ⟨g1, 0, none⟩) (ln + ln) n1)) rfl ?_ ?_
      · generalize (frm a0 [21, 22, 23, 24, 25, 26, 27, 28, 29, 7] q).eval = ev at e7 e29 ⊢
        simp [execOp, e7, e29, go_sem, c0, c1, z0, z1]
      show K' _ _
      refine hK' _ _ ?_
      rw [← ha0]
      go_meet
      have hbb : w3.heap.size ≤ b1 := hw 9 7 b1 (by decide) rfl (fun k => hne k 9 (by decide)) rfl (by rw [hv7]; rfl)
      have ho1 := row_grown (row_grown ho (grown_set w' b1 0 (.slice so sn sc)) (fun b h => by obtain rfl := Option.some.inj h; rw [hv28]; exact fun e => hdis (Option.some.inj e))) (grown_set _ b1 1 (.slice (some ⟨g1, 0, none⟩) (ln + ln) n1)) (fun b h => by obtain rfl := Option.some.inj h; rw [hv28]; exact fun e => hdis (Option.some.inj e))
      rw [hv28] at ho1
      have hbF : Below w3.heap.size w3 ((w'.setCell ⟨b1, 0, none⟩ (.slice so sn sc)).setCell ⟨b1, 1, none⟩ (.slice (some ⟨g1, 0, none⟩) (ln + ln) n1)) := (hb.setCell hbb _).setCell hbb _
      refine ⟨b1, g1, n1, hv7, ?_, ?_, ?_, ?_, hbF⟩
      · rw [World.cell?_setCell_other _ _ _ _ (by simp)]; exact World.cell?_setCell_same w' ⟨b1, 0, none⟩ _ c0
      · exact World.cell?_setCell_same _ ⟨b1, 1, none⟩ _ (by rw [World.cell?_setCell_other _ _ _ _ (by simp)]; exact c1)
      · simpa using hbl
      · refine lettersV_of_owns (base := w3.heap.size) (us := vs ++ vs) (by rw [List.length_append, hUL.out.2]; exact ho1) ((HLU.out.append HLU.out).below hbF)
  case rest =>
    obtain ⟨b1, g1, n1, rfl, HB1⟩ := hcut
    obtain ⟨w4, hw4⟩ : ∃ w4, w4 = wc := ⟨_, rfl⟩
    rw [← hw4] at HB1 ⊢
    clear hw4
    have HBc : Hid (Below w3.heap.size w3 w4) := HB1.out.2.2.2.2
    have hln1 : (1 : Int) ≤ (ln : Int) := by omega
    have hlnc : (ln : Int) ≤ (lc : Int) := by have := hcl; omega
    go_upto_region 4 with fail
    go_cut [8] (fun s8 wx => ∃ b2 g2 n2 g3 n3, s8 = .pointer (some ⟨b2, 0, none⟩) ∧ Hid (wx.cell? ⟨b2, 0, none⟩ = some (.slice (some ⟨g2, 0, none⟩) (sn + 1) n2) ∧ wx.cell? ⟨b2, 1, none⟩ = some (.slice (some ⟨g3, 0, none⟩) (ln - 1 + 1) n3) ∧ b2 < wx.heap.size ∧ LettersV wx (.slice (some ⟨g2, 0, none⟩) (sn + 1) n2) (ss ++ [ll.getD 0 []]) ∧ LettersV wx (.slice (some ⟨g3, 0, none⟩) (ln - 1 + 1) n3) (ll.tail ++ [ll.getD 0 []]) ∧ Below w4.heap.size w4 wx))
    case first =>
      rename_i J K' hJ hK'
      generalize ha0 : Act.mk _ _ = a0
      have hsz : a0.tmps.size = 98 := by rw [← ha0]; rfl
      have a5 : a0.eval (.tmp 5) = .pointer (some ⟨wb, 0, none⟩) := by rw [← ha0]; rfl
      refine wp_anywayR (by rfl) [30, 31, 32, 33, 34, 35, 36, 37, 38, 39, 40, 41, 42, 43, 44, 45, 46, 47, 48, 49, 8] 21 (lg4P wb w4.heap.size (.slice so sn sc) (.slice (some ⟨lb, loff, none⟩) ln lc) (.slice (if lc = 1 then some ⟨lb, loff, none⟩ else some ⟨lb, loff + 1, none⟩) (ln - 1) (lc - 1)) (.slice uo un uc) (.pointer (some ⟨lb, loff, none⟩)) sn ln us vs) lg4E lg4N lg4R (by rw [hsz]; rfl) ?_ ?_ (lg4P_stable _ _ _ _ _ _ _ _ _ _ _ ) (fun i v w w' row hi h hg hne => lg4P_grown _ _ _ _ _ _ _ _ _ _ _  i v w w' row hi h hg (fun b hb => (hne b hb).2)) ?_ ?_ ?_
      · intro i A h
        rcases lg4_eat i A h with ⟨rfl, rfl⟩ | ⟨rfl, rfl⟩
        · exact ⟨by decide, by decide, rfl, rfl, rfl, fun j hj => by have := lg4_eat j 2 hj; omega⟩
        · exact ⟨by decide, by decide, rfl, rfl, rfl, fun j hj => by have := lg4_eat j 12 hj; omega⟩
      · intro i q v t u hi hk h
        rcases lg4_lt i hi with rfl | rfl | rfl | rfl | rfl | rfl | rfl | rfl | rfl | rfl | rfl | rfl | rfl | rfl | rfl | rfl | rfl | rfl | rfl | rfl | rfl
        case inr.inr.inr.inr.inr.inr.inr.inr.inr.inr.inr.inr.inr.inr.inr.inr.inr.inr.inr.inl =>
          have h1 := hk 8 38 rfl rfl
          have h2 := hk 18 48 rfl rfl
          show v = Value.agg #[setV q t u 38, setV q t u 48]
          rw [setV_other h1, setV_other h2]; exact h
        all_goals trivial
      · intro i o hi he ho q w' hb hq
        have hbW : Below w3.heap.size w3 w' := HBc.out.trans (hb.mono HBc.out.size)
        have f : ∀ t, [30, 31, 32, 33, 34, 35, 36, 37, 38, 39, 40, 41, 42, 43, 44, 45, 46, 47, 48, 49, 8].contains t = true → t < 98 → (frm a0 [30, 31, 32, 33, 34, 35, 36, 37, 38, 39, 40, 41, 42, 43, 44, 45, 46, 47, 48, 49, 8] q).eval (.tmp t) = q t := fun t h1 h2 => frm_in h1 (by rw [hsz]; exact h2)
        have e5 : (frm a0 [30, 31, 32, 33, 34, 35, 36, 37, 38, 39, 40, 41, 42, 43, 44, 45, 46, 47, 48, 49, 8] q).eval (.tmp 5) = .pointer (some ⟨wb, 0, none⟩) := (frm_out rfl).trans a5
        obtain ⟨m0, m1⟩ := HM.out w' hbW
        have hsw := hb.size
        obtain ⟨ev, hev⟩ : ∃ ev, ev = (frm a0 [30, 31, 32, 33, 34, 35, 36, 37, 38, 39, 40, 41, 42, 43, 44, 45, 46, 47, 48, 49, 8] q).eval := ⟨_, rfl⟩
        have evc : ∀ v, ev (.const v) = v := fun v => by rw [hev]; rfl
        rw [← hev] at f e5
        rcases lg4_lt i hi with rfl | rfl | rfl | rfl | rfl | rfl | rfl | rfl | rfl | rfl | rfl | rfl | rfl | rfl | rfl | rfl | rfl | rfl | rfl | rfl | rfl
        all_goals first | (exfalso; revert he; decide) | obtain rfl := Option.some.inj ho
        · refine op_valR (w' := w') (v := .pointer (some ⟨wb, 0, none⟩)) ?_ (Below.refl _ _) rfl trivial (fun b h => absurd h (by decide))
          rw [← hev]
          simp [execOp, e5, go_sem]
        · have e30 := (f 30 rfl (by decide)).trans (hq 0 30 rfl (fun j h => by have := lg4_eat j 0 h; omega) rfl)
          refine op_valR (w' := w') (v := (.slice so sn sc)) ?_ (Below.refl _ _) rfl trivial (fun b h => absurd h (by decide))
          rw [← hev]
          simp [execOp, e30, m0, go_sem]
        · have e31 := (f 31 rfl (by decide)).trans (hq 1 31 rfl (fun j h => by have := lg4_eat j 1 h; omega) rfl)
          exact wp_copy (.const (.slice none 0 0)) (.tmp 31) 26 rfl w'.heap.size 32 iL _ 1 24 Tryd.underlying26 hiL hz0 hz1 hz2 rfl (by decide) rfl so sn sc us (by rw [← hev]; exact e31) HS0.out (by rw [hUL.out.1]; omega) (HSN.out _ hbW) HU1.out (by unfold maxLen; omega) (by omega) (Nat.le_refl _) fun v' w2 ho2 hg2 => ⟨v', rfl, below_of_grown hg2, row_mono ho2 hsw, trivial, fun b _ hb => by rw [blk_own ho2] at hb; exact ho2.lt b hb⟩
        · refine op_valR (w' := w') (v := .pointer (some ⟨wb, 1, none⟩)) ?_ (Below.refl _ _) rfl trivial (fun b h => absurd h (by decide))
          rw [← hev]
          simp [execOp, e5, go_sem]
        · have e33 := (f 33 rfl (by decide)).trans (hq 3 33 rfl (fun j h => by have := lg4_eat j 3 h; omega) rfl)
          refine op_valR (w' := w') (v := (.slice (some ⟨lb, loff, none⟩) ln lc)) ?_ (Below.refl _ _) rfl trivial (fun b h => absurd h (by decide))
          rw [← hev]
          simp [execOp, e33, m1, go_sem]
        · have e34 := (f 34 rfl (by decide)).trans (hq 4 34 rfl (fun j h => by have := lg4_eat j 4 h; omega) rfl)
          refine op_valR (w' := w') (v := (.pointer (some ⟨lb, loff, none⟩))) ?_ (Below.refl _ _) rfl trivial (fun b h => absurd h (by decide))
          rw [← hev]
          simp [execOp, e34, evc, go_sem]
          try (intro h; omega)
        · have e35 := (f 35 rfl (by decide)).trans (hq 5 35 rfl (fun j h => by have := lg4_eat j 5 h; omega) rfl)
          refine op_valR (w' := w') (v := (.slice uo un uc)) ?_ (Below.refl _ _) rfl trivial (fun b h => absurd h (by decide))
          rw [← hev]
          simp [execOp, e35, hU0c.out w' hbW, go_sem]
        · have e36 := (f 36 rfl (by decide)).trans (hq 6 36 rfl (fun j h => by have := lg4_eat j 6 h; omega) rfl)
          refine op_valR (w' := w'.alloc (.cells #[.slice uo un uc] 32)) (v := .slice (some ⟨w'.heap.size, 0, none⟩) 1 1) ?_ ((Below.refl _ _).alloc (Nat.le_refl _) _) ⟨_, rfl, heap_new _ _⟩ trivial (fun b _ h => by obtain rfl := Option.some.inj h; exact ⟨Nat.le_refl _, by simp⟩)
          rw [← hev]
          simp [execOp, e36, go_sem]
        · refine op_valR (w' := w') (v := .pointer (some ⟨wb, 1, none⟩)) ?_ (Below.refl _ _) rfl trivial (fun b h => absurd h (by decide))
          rw [← hev]
          simp [execOp, e5, go_sem]
        · have e39 := (f 39 rfl (by decide)).trans (hq 9 39 rfl (fun j h => by have := lg4_eat j 9 h; omega) rfl)
          refine op_valR (w' := w') (v := (.slice (some ⟨lb, loff, none⟩) ln lc)) ?_ (Below.refl _ _) rfl trivial (fun b h => absurd h (by decide))
          rw [← hev]
          simp [execOp, e39, m1, go_sem]
        · have e40 := (f 40 rfl (by decide)).trans (hq 10 40 rfl (fun j h => by have := lg4_eat j 10 h; omega) rfl)
          refine op_valR (w' := w') (v := (.slice (if lc = 1 then some ⟨lb, loff, none⟩ else some ⟨lb, loff + 1, none⟩) (ln - 1) (lc - 1))) ?_ (Below.refl _ _) rfl trivial (fun b h => absurd h (by decide))
          rw [← hev]
          by_cases hc1 : lc = 1
          · subst hc1
            simp [execOp, e40, evc, go_sem]
            try omega
          · simp [execOp, e40, evc, go_sem, hc1]
            try omega
        · have e41 := (f 41 rfl (by decide)).trans (hq 11 41 rfl (fun j h => by have := lg4_eat j 11 h; omega) rfl)
          exact wp_copy (.const (.slice none 0 0)) (.tmp 41) 26 rfl w'.heap.size 32 iL _ 1 24 Tryd.underlying26 hiL hz0 hz1 hz2 rfl (by decide) rfl (if lc = 1 then some ⟨lb, loff, none⟩ else some ⟨lb, loff + 1, none⟩) (ln - 1) (lc - 1) vs.tail (by rw [← hev]; exact e41) (fun h => by split at h <;> cases h) (by rw [List.length_tail, hUL.out.2]; omega) (fun ad he j u hj => by
            by_cases h1 : lc = 1
            · exfalso
              have : vs.tail = [] := List.length_eq_zero_iff.1 (by rw [List.length_tail, hUL.out.2]; omega)
              rw [this] at hj; simp at hj
            · rw [if_neg h1] at he
              obtain rfl := Option.some.inj he
              rw [show (⟨lb, loff + 1, none⟩ : Addr).add j = ⟨lb, loff + 1 + j, none⟩ by simp [Addr.add], Nat.add_assoc, Nat.add_comm 1 j]
              exact HLN.out _ hbW (j + 1) u (by rw [← hj]; cases vs <;> simp)) (fun u hu => HV1.out u (List.mem_of_mem_tail hu)) (by unfold maxLen; omega) (by omega) (Nat.le_refl _) fun v' w2 ho2 hg2 => ⟨v', rfl, below_of_grown hg2, row_mono ho2 hsw, trivial, fun b _ hb => by rw [blk_own ho2] at hb; exact ho2.lt b hb⟩
        · refine op_valR (w' := w') (v := .pointer (some ⟨wb, 1, none⟩)) ?_ (Below.refl _ _) rfl trivial (fun b h => absurd h (by decide))
          rw [← hev]
          simp [execOp, e5, go_sem]
        · have e43 := (f 43 rfl (by decide)).trans (hq 13 43 rfl (fun j h => by have := lg4_eat j 13 h; omega) rfl)
          refine op_valR (w' := w') (v := (.slice (some ⟨lb, loff, none⟩) ln lc)) ?_ (Below.refl _ _) rfl trivial (fun b h => absurd h (by decide))
          rw [← hev]
          simp [execOp, e43, m1, go_sem]
        · have e44 := (f 44 rfl (by decide)).trans (hq 14 44 rfl (fun j h => by have := lg4_eat j 14 h; omega) rfl)
          refine op_valR (w' := w') (v := (.pointer (some ⟨lb, loff, none⟩))) ?_ (Below.refl _ _) rfl trivial (fun b h => absurd h (by decide))
          rw [← hev]
          simp [execOp, e44, evc, go_sem]
          try (intro h; omega)
        · have e45 := (f 45 rfl (by decide)).trans (hq 15 45 rfl (fun j h => by have := lg4_eat j 15 h; omega) rfl)
          refine op_valR (w' := w') (v := (.slice uo un uc)) ?_ (Below.refl _ _) rfl trivial (fun b h => absurd h (by decide))
          rw [← hev]
          simp [execOp, e45, hU0c.out w' hbW, go_sem]
        · have e46 := (f 46 rfl (by decide)).trans (hq 16 46 rfl (fun j h => by have := lg4_eat j 16 h; omega) rfl)
          refine op_valR (w' := w'.alloc (.cells #[.slice uo un uc] 32)) (v := .slice (some ⟨w'.heap.size, 0, none⟩) 1 1) ?_ ((Below.refl _ _).alloc (Nat.le_refl _) _) ⟨_, rfl, heap_new _ _⟩ trivial (fun b _ h => by obtain rfl := Option.some.inj h; exact ⟨Nat.le_refl _, by simp⟩)
          rw [← hev]
          simp [execOp, e46, go_sem]
        · have e38 := f 38 rfl (by decide)
          have e48 := f 48 rfl (by decide)
          obtain ⟨_, g, c, hv38⟩ := (hq 8 38 rfl (fun j h => by have := lg4_eat j 8 h; omega) rfl)
          obtain ⟨_, g', c', hv48⟩ := (hq 18 48 rfl (fun j h => by have := lg4_eat j 18 h; omega) rfl)
          rw [hv38] at e38
          rw [hv48] at e48
          refine op_valR (w' := w') (v := .agg #[.slice (some ⟨g, 0, none⟩) (sn + 1) c, .slice (some ⟨g', 0, none⟩) (ln - 1 + 1) c']) ?_ (Below.refl _ _) trivial (by show _ = Value.agg #[q 38, q 48]; rw [hv38, hv48]) (fun b h => absurd h (by decide))
          rw [← hev]
          simp [execOp, e38, e48, go_sem]
        · refine op_valR (w' := w'.alloc (.cells #[.slice none 0 0, .slice none 0 0] 28)) (v := .pointer (some ⟨w'.heap.size, 0, none⟩)) ?_ ((Below.refl _ _).alloc (Nat.le_refl _) _) ⟨_, rfl, heap_new _ _⟩ trivial (fun b _ h => by obtain rfl := Option.some.inj h; exact ⟨Nat.le_refl _, by simp⟩)
          rw [← hev]
          simp [execOp, go_sem]
      · intro i A tA o hi he hA ho q w' hb hq
        have hbW : Below w3.heap.size w3 w' := HBc.out.trans (hb.mono HBc.out.size)
        have f : ∀ t, [30, 31, 32, 33, 34, 35, 36, 37, 38, 39, 40, 41, 42, 43, 44, 45, 46, 47, 48, 49, 8].contains t = true → t < 98 → (frm a0 [30, 31, 32, 33, 34, 35, 36, 37, 38, 39, 40, 41, 42, 43, 44, 45, 46, 47, 48, 49, 8] q).eval (.tmp t) = q t := fun t h1 h2 => frm_in h1 (by rw [hsz]; exact h2)
        have e5 : (frm a0 [30, 31, 32, 33, 34, 35, 36, 37, 38, 39, 40, 41, 42, 43, 44, 45, 46, 47, 48, 49, 8] q).eval (.tmp 5) = .pointer (some ⟨wb, 0, none⟩) := (frm_out rfl).trans a5
        obtain ⟨m0, m1⟩ := HM.out w' hbW
        have hsw := hb.size
        obtain ⟨ev, hev⟩ : ∃ ev, ev = (frm a0 [30, 31, 32, 33, 34, 35, 36, 37, 38, 39, 40, 41, 42, 43, 44, 45, 46, 47, 48, 49, 8] q).eval := ⟨_, rfl⟩
        have evc : ∀ v, ev (.const v) = v := fun v => by rw [hev]; rfl
        rw [← hev] at f e5
        rcases lg4_eat i A he with ⟨rfl, rfl⟩ | ⟨rfl, rfl⟩
        · obtain rfl : 32 = tA := Option.some.inj hA
          obtain rfl := Option.some.inj ho
          obtain ⟨g, hgv, hgb⟩ := (hq 7 37 rfl (fun j h => by have := lg4_eat j 7 h; omega) rfl)
          have e37 := (f 37 rfl (by decide)).trans hgv
          have ho2 := (hq 2 32 rfl (fun j h => by have := lg4_eat j 2 h; omega) rfl)
          exact wp_append_lies _ (.tmp 32) (.tmp 37) 26 rfl w4.heap.size 32 iL _ 1 24 Tryd.underlying26 hiL hz0 hz1 hz2 rfl (by decide) (q 32) sn us (by rw [← hev]; exact f 32 rfl (by decide)) ho2 ⟨g, 0, none⟩ 1 1 [.slice uo un uc] (by rw [← hev]; exact e37) rfl (World.news_of_block hgb) (by intro u hu; simp at hu; subst hu; rfl) (by omega) (by unfold maxLen; omega) (by omega) hsw _ rfl fun g9 cap w2 hown hgrow hat hlt => ⟨_, rfl, by rw [blk_own ho2]; exact hgrow, ⟨hown, g9, cap, rfl⟩, trivial, fun b hb => by
            obtain rfl := Option.some.inj hb
            exact ⟨by rw [blk_own ho2]; exact hat.imp id (fun e => Nat.le_of_eq e.symm), hlt⟩⟩
        · obtain rfl : 42 = tA := Option.some.inj hA
          obtain rfl := Option.some.inj ho
          obtain ⟨g, hgv, hgb⟩ := (hq 17 47 rfl (fun j h => by have := lg4_eat j 17 h; omega) rfl)
          have e47 := (f 47 rfl (by decide)).trans hgv
          have ho2 := (hq 12 42 rfl (fun j h => by have := lg4_eat j 12 h; omega) rfl)
          exact wp_append_lies _ (.tmp 42) (.tmp 47) 26 rfl w4.heap.size 32 iL _ 1 24 Tryd.underlying26 hiL hz0 hz1 hz2 rfl (by decide) (q 42) (ln - 1) vs.tail (by rw [← hev]; exact f 42 rfl (by decide)) ho2 ⟨g, 0, none⟩ 1 1 [.slice uo un uc] (by rw [← hev]; exact e47) rfl (World.news_of_block hgb) (by intro u hu; simp at hu; subst hu; rfl) (by omega) (by unfold maxLen; omega) (by omega) hsw _ rfl fun g9 cap w2 hown hgrow hat hlt => ⟨_, rfl, by rw [blk_own ho2]; exact hgrow, ⟨hown, g9, cap, rfl⟩, trivial, fun b hb => by
            obtain rfl := Option.some.inj hb
            exact ⟨by rw [blk_own ho2]; exact hat.imp id (fun e => Nat.le_of_eq e.symm), hlt⟩⟩
      · intro q w' hb hq hl hd hw
        have f : ∀ q t, [30, 31, 32, 33, 34, 35, 36, 37, 38, 39, 40, 41, 42, 43, 44, 45, 46, 47, 48, 49, 8].contains t = true → t < 98 → (frm a0 [30, 31, 32, 33, 34, 35, 36, 37, 38, 39, 40, 41, 42, 43, 44, 45, 46, 47, 48, 49, 8] q).eval (.tmp t) = q t := fun q t h1 h2 => frm_in h1 (by rw [hsz]; exact h2)
        have hne : ∀ k i, i ≠ 2 → i ≠ 12 → lg4E k ≠ some i := fun k i hi hi2 h => by rcases lg4_eat k i h with ⟨_, h⟩ | ⟨_, h⟩ <;> omega
        obtain ⟨ho, g2, n2, hv38⟩ := hq 8 38 (by decide) (fun k => hne k 8 (by decide) (by decide)) rfl
        obtain ⟨ho', g3, n3, hv48⟩ := hq 18 48 (by decide) (fun k => hne k 18 (by decide) (by decide)) rfl
        obtain ⟨b2, hv8, hbx⟩ := hq 20 8 (by decide) (fun k => hne k 20 (by decide) (by decide)) rfl
        have hv49 : q 49 = .agg #[q 38, q 48] := hl 19 49 (by decide) rfl
        have hd1 : g2 ≠ b2 := fun e => by
          have := hd 8 20 38 8 g2 (by decide) (by decide) (by decide) rfl rfl (fun k => hne k 8 (by decide) (by decide)) (fun k => hne k 20 (by decide) (by decide)) rfl rfl (by rw [hv38]; rfl)
          rw [hv8, ← e] at this
          exact this rfl
        have hd2 : g3 ≠ b2 := fun e => by
          have := hd 18 20 48 8 g3 (by decide) (by decide) (by decide) rfl rfl (fun k => hne k 18 (by decide) (by decide)) (fun k => hne k 20 (by decide) (by decide)) rfl rfl (by rw [hv48]; rfl)
          rw [hv8, ← e] at this
          exact this rfl
        have e8 := (f q 8 rfl (by decide)).trans hv8
        have e49 := (f q 49 rfl (by decide)).trans hv49
        rw [hv38, hv48] at e49
        have c0 : w'.cell? ⟨b2, 0, none⟩ = some (.slice none 0 0) := by simp [World.cell?, hbx]
        have c1 : w'.cell? ⟨b2, 1, none⟩ = some (.slice none 0 0) := by simp [World.cell?, hbx]
        have z0 : w'.frozen? ⟨b2, 0, none⟩ = false := by simp [World.frozen?, hbx]
        have z1 : w'.frozen? ⟨b2, 1, none⟩ = false := by simp [World.frozen?, hbx]
        have hbl : b2 < w'.heap.size := (Array.getElem?_eq_some_iff.1 hbx).1
        show wpOps Tryd.prog _ _ [21] _ _
        rw [wpOps_cons]
        refine op_at rfl rfl ?_
        refine op_skip (w' := ((w'.setCell ⟨b2, 0, none⟩ (.slice (some ⟨g2, 0, none⟩) (sn + 1) n2)).setCell ⟨b2, 1, none⟩ (.slice (some ⟨g3, 0, none⟩) (ln - 1 + 1) n3))) rfl ?_ ?_
        · generalize (frm a0 [30, 31, 32, 33, 34, 35, 36, 37, 38, 39, 40, 41, 42, 43, 44, 45, 46, 47, 48, 49, 8] q).eval = ev at e8 e49 ⊢
          simp [execOp, e8, e49, go_sem, c0, c1, z0, z1]
        show K' _ _
        refine hK' _ _ ?_
        rw [← ha0]
        go_meet
        have hbb : w4.heap.size ≤ b2 := hw 20 8 b2 (by decide) rfl (fun k => hne k 20 (by decide) (by decide)) rfl (by rw [hv8]; rfl)
        have ho1 := row_grown (row_grown ho (grown_set w' b2 0 (.slice (some ⟨g2, 0, none⟩) (sn + 1) n2)) (fun b h => by obtain rfl := Option.some.inj h; rw [hv38]; exact fun e => hd1 (Option.some.inj e))) (grown_set _ b2 1 (.slice (some ⟨g3, 0, none⟩) (ln - 1 + 1) n3)) (fun b h => by obtain rfl := Option.some.inj h; rw [hv38]; exact fun e => hd1 (Option.some.inj e))
        have ho2 := row_grown (row_grown ho' (grown_set w' b2 0 (.slice (some ⟨g2, 0, none⟩) (sn + 1) n2)) (fun b h => by obtain rfl := Option.some.inj h; rw [hv48]; exact fun e => hd2 (Option.some.inj e))) (grown_set _ b2 1 (.slice (some ⟨g3, 0, none⟩) (ln - 1 + 1) n3)) (fun b h => by obtain rfl := Option.some.inj h; rw [hv48]; exact fun e => hd2 (Option.some.inj e))
        rw [hv38] at ho1
        rw [hv48] at ho2
        have hbF : Below w4.heap.size w4 ((w'.setCell ⟨b2, 0, none⟩ (.slice (some ⟨g2, 0, none⟩) (sn + 1) n2)).setCell ⟨b2, 1, none⟩ (.slice (some ⟨g3, 0, none⟩) (ln - 1 + 1) n3)) := (hb.setCell hbb _).setCell hbb _
        have hbG : Below w3.heap.size w3 ((w'.setCell ⟨b2, 0, none⟩ (.slice (some ⟨g2, 0, none⟩) (sn + 1) n2)).setCell ⟨b2, 1, none⟩ (.slice (some ⟨g3, 0, none⟩) (ln - 1 + 1) n3)) := HBc.out.trans (hbF.mono HBc.out.size)
        have hu00 : LetsU w3 [.slice uo un uc] [ll.getD 0 []] := ⟨rfl, fun i hi => by
          obtain rfl : i = 0 := by simpa using hi
          have := HLU.out.2 0 (by rw [LL.out]; exact hl1)
          rw [← HU0.out, hu0s] at this
          exact this⟩
        have htl : LetsU w3 vs.tail ll.tail := ⟨by rw [List.length_tail, List.length_tail, HLU.out.1], fun i hi => by
          rw [tail_getD, tail_getD]
          exact HLU.out.2 (i + 1) (by simp at hi; omega)⟩
        refine ⟨b2, g2, n2, g3, n3, hv8, ?_, ?_, ?_, ?_, ?_, hbF⟩
        · rw [World.cell?_setCell_other _ _ _ _ (by simp)]; exact World.cell?_setCell_same w' ⟨b2, 0, none⟩ _ c0
        · exact World.cell?_setCell_same _ ⟨b2, 1, none⟩ _ (by rw [World.cell?_setCell_other _ _ _ _ (by simp)]; exact c1)
        · simpa using hbl
        · exact lettersV_of_owns (base := w4.heap.size) (us := us ++ [.slice uo un uc]) (by rw [List.length_append, hUL.out.1]; exact ho1) ((HSU.out.append hu00).below hbG)
        · exact lettersV_of_owns (base := w4.heap.size) (us := vs.tail ++ [.slice uo un uc]) (by rw [List.length_append, List.length_tail, hUL.out.2]; exact ho2) ((htl.append hu00).below hbG)
    case rest =>
      obtain ⟨b2, g2, n2, g3, n3, rfl, HB2⟩ := hcut
      obtain ⟨wE, hwE⟩ : ∃ wE, wE = wc := ⟨_, rfl⟩
      rw [← hwE] at HB2 ⊢
      clear hwE
      obtain ⟨A, hA⟩ : ∃ A, Tm.hb (sig (ss ++ ll) ss.length) Tx 0 = A := ⟨_, rfl⟩
      have HAA : Hid (Tm.hb (sig (ss ++ ll) ss.length) Tx 0 = A) := hA
      have HBE : Hid (Below w4.heap.size w4 wE) := HB2.out.2.2.2.2.2
      have HB3 : Hid (∀ w', Below wE.heap.size wE w' → Below w3.heap.size w3 w' ∧ Below w4.heap.size w4 w') := fun w' hb => by
        have h4 := HBE.out.trans (hb.mono HBE.out.size)
        exact ⟨HBc.out.trans (h4.mono HBc.out.size), h4⟩
      have hlll : 1 ≤ ll.length := by rw [LL.out]; exact hl1
      have HOK := HK.out.ok
      have hmm : ∀ x ∈ ll, x.length = 3 := HOK.l3
      have h00 : (ll.getD 0 []).length = 3 := by
        refine hmm _ ?_
        rw [List.getD_eq_getElem?_getD, List.getElem?_eq_getElem (by omega), Option.getD_some]
        exact List.getElem_mem _
      have HE1 : Hid (∀ w', Below wE.heap.size wE w' → Calls Tryd.prog 11 #[.slice xa xn xc, .agg #[.slice so sn sc, .slice (some ⟨lb, loff, none⟩) ln lc]] w' fun e w2 => e = .returned (.tuple #[.bool A, .bool true]) ∧ Below w'.heap.size w' w2) := fun w' hb => (HK.out.later (HB3.out w' hb).1).holds (Kx.out.v.below (HB3.out w' hb).1) Kx.out.ok (by have := Kx.out.len; omega) (by have := Kx.out.many; omega) hA
      have HE2 : Hid (∀ w', Below wE.heap.size wE w' → Calls Tryd.prog 11 #[.slice xa xn xc, .agg #[.slice so sn sc, .slice (some ⟨g1, 0, none⟩) (ln + ln) n1]] w' fun e w2 => e = .returned (.tuple #[.bool A, .bool true]) ∧ Below w'.heap.size w' w2) := fun w' hb => by
        have hk := HK.out.later (HB3.out w' hb).1
        have := kholds (.slice xa xn xc) (.slice so sn sc) (.slice (some ⟨g1, 0, none⟩) (ln + ln) n1) mx x Tx ss (ll ++ ll) w' hk.pos hk.tab (Kx.out.v.below (HB3.out w' hb).1) hk.s (HB1.out.2.2.2.1.below (HB3.out w' hb).2) Kx.out.ok (by have := Kx.out.len; omega) (by have := Kx.out.many; omega) (wcode_three (by rw [LS.out]; omega) (by simp; omega) (by rw [List.length_append, LL.out]; omega) HOK.s3 (fun x hx => hmm x (by simpa using hx)))
        rw [sig_twice hlll, hA] at this
        exact this
      have HE3 : Hid (∀ w', Below wE.heap.size wE w' → Calls Tryd.prog 11 #[.slice xa xn xc, .agg #[.slice (some ⟨g2, 0, none⟩) (sn + 1) n2, .slice (some ⟨g3, 0, none⟩) (ln - 1 + 1) n3]] w' fun e w2 => e = .returned (.tuple #[.bool A, .bool true]) ∧ Below w'.heap.size w' w2) := fun w' hb => by
        have hk := HK.out.later (HB3.out w' hb).1
        have := kholds (.slice xa xn xc) (.slice (some ⟨g2, 0, none⟩) (sn + 1) n2) (.slice (some ⟨g3, 0, none⟩) (ln - 1 + 1) n3) mx x Tx (ss ++ [ll.getD 0 []]) (ll.tail ++ [ll.getD 0 []]) w' hk.pos hk.tab (Kx.out.v.below (HB3.out w' hb).1) (HB2.out.2.2.2.1.below hb) (HB2.out.2.2.2.2.1.below hb) Kx.out.ok (by have := Kx.out.len; omega) (by have := Kx.out.many; omega) (wcode_three (by rw [List.length_append, LS.out]; simp; omega) (by simp) (by rw [List.length_append, List.length_tail, LL.out]; simp; omega) (fun x hx => by
          rcases List.mem_append.1 hx with h | h
          · exact HOK.s3 x h
          · obtain rfl : x = ll.getD 0 [] := by simpa using h
            exact h00) (fun x hx => by
          rcases List.mem_append.1 hx with h | h
          · exact hmm x (List.mem_of_mem_tail h)
          · obtain rfl : x = ll.getD 0 [] := by simpa using h
            exact h00))
        rw [sig_turned hlll, hA] at this
        exact this
      have HY : Hid (∀ w6 g, Below wE.heap.size wE w6 → w6.cell? ⟨g, 0, none⟩ = some (.int .i64 11) → w6.cell? ⟨g, 1, none⟩ = some (.int .i64 0) → g < w6.heap.size → Calls Tryd.prog 11 #[.slice (some ⟨g, 0, none⟩) 1 1, .agg #[.slice so sn sc, .slice (some ⟨lb, loff, none⟩) ln lc]] w6 fun e w' => e = .returned (.tuple #[.bool true, .bool true]) ∧ Below w6.heap.size w6 w') := fun w6 g hb c0 c1 hl => (HK.out.later (HB3.out w6 hb).1).holds (t := [(11, 0)]) ⟨some ⟨g, 0, none⟩, 1, rfl, ⟨by simp, fun h => by cases h⟩, fun _ => ⟨g, 0, rfl, hl, fun i hi => by
        obtain rfl : i = 0 := by simpa using hi
        exact ⟨c0, c1⟩⟩⟩ FOk.yes (by simp) (by omega) (Tm.hb_yes _ _ _)
      have HX : Hid (∀ w', Below wE.heap.size wE w' → (w'.cell? ⟨wb, 0, none⟩ = some (.slice so sn sc) ∧ w'.cell? ⟨wb, 1, none⟩ = some (.slice (some ⟨lb, loff, none⟩) ln lc)) ∧ (w'.cell? ⟨b1, 0, none⟩ = some (.slice so sn sc) ∧ w'.cell? ⟨b1, 1, none⟩ = some (.slice (some ⟨g1, 0, none⟩) (ln + ln) n1)) ∧ (w'.cell? ⟨b2, 0, none⟩ = some (.slice (some ⟨g2, 0, none⟩) (sn + 1) n2) ∧ w'.cell? ⟨b2, 1, none⟩ = some (.slice (some ⟨g3, 0, none⟩) (ln - 1 + 1) n3))) := fun w' hb => ⟨HM.out w' (HB3.out w' hb).1, ⟨((HB3.out w' hb).2.cell (p := ⟨b1, 0, none⟩) HB1.out.2.2.1).trans HB1.out.1, ((HB3.out w' hb).2.cell (p := ⟨b1, 1, none⟩) HB1.out.2.2.1).trans HB1.out.2.1⟩, (hb.cell (p := ⟨b2, 0, none⟩) HB2.out.2.2.1).trans HB2.out.1, (hb.cell (p := ⟨b2, 1, none⟩) HB2.out.2.2.1).trans HB2.out.2.1⟩
      have HBF : Hid (∀ w', Below wE.heap.size wE w' → Below w.heap.size w w') := fun w' hb => (HK.out.later (HB3.out w' hb).1).below
      clear hA HAA HOK hmm h00 hlll HB1 HB2 HBE HBc HB3 HK Kx HSU HLU HSN HLN HU1 HV1 HU0 hu0s HS0 hU0c HM hUL hiL hz0 hz1 hz2 HC0 Lx LS LL
      generalize ln - 1 + 1 = l3 at HE3 HX
      generalize sn + 1 = s2 at HE3 HX
      generalize ln + ln = l2 at HE2 HX
      clear hln1 hlnc hcl hcs hs5 hl5 hl1
      obtain ⟨⟨i0, i1⟩, _, _⟩ := HX.out wE (Below.refl _ _)
      have hk1 := HE1.out wE (Below.refl _ _)
      have tk1 := True.intro
      have tk2 := True.intro
      have tk3 := True.intro
      have tk4 := True.intro
      go_wp2_with (first
        | (clear tk1; go_at_call 11; refine hk1.mono ?_; rintro e v1 ⟨rfl, hv1⟩; obtain ⟨_, ⟨j0, j1⟩, _⟩ := HX.out v1 hv1; have hk2 := HE2.out v1 hv1)
        | (clear tk2; go_at_call 11; refine hk2.mono ?_; rintro e v2 ⟨rfl, hv2'⟩; have hv2 := hv1.trans (hv2'.mono hv1.size); obtain ⟨_, _, l0, l1⟩ := HX.out v2 hv2; have hk3 := HE3.out v2 hv2)
        | (clear tk3; go_at_call 11; refine hk3.mono ?_; rintro e v3 ⟨rfl, hv3'⟩; have hv3 := hv2.trans (hv3'.mono hv2.size); obtain ⟨⟨o0, o1⟩, _, _⟩ := HX.out v3 hv3; have hol : wb < v3.heap.size := World.block_lt_of_cell? v3 ⟨wb, 0, none⟩ o0; have hon : ¬ wb = v3.heap.size := (by omega); have hv3A := hv3.alloc hv3.size (.cells #[.int .i64 11, .int .i64 0] 41); have hk4 := HY.out _ v3.heap.size hv3A (by simp [go_sem]) (by simp [go_sem]) (by simp))
        | (clear tk4; go_at_call 11; refine hk4.mono ?_; rintro e v4 ⟨rfl, hv4'⟩; have hv4 := hv3A.trans (hv4'.mono hv3A.size)))
      have hbf := HBF.out _ hv4
      clear HX HE1 HE2 HE3 HY hk1 hk2 hk3 hk4
      cases A
      all_goals
        go_wp2_with fail
        go_ret
        exact ⟨by first | rfl | simp, hbf⟩
end Go.Proofs.YtbnhjbjlcnmjbaaDoor
