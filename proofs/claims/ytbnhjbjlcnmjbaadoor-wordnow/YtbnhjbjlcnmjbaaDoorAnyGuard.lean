/-
  A region that draws its order, some of whose operations are guarded: what each leaves stands until the last one, whatever the order.
-/
import Derived.Test.YtbnhjbjlcnmjbaaDoorAnyOps
namespace Go.Proofs.YtbnhjbjlcnmjbaaDoor
open Go.ChangeShapes Go.WideShapes Go.ChangeAt Go.RowKit Go.Deep

/-- the region's shape: the first m operations have slots of their own and wait for earlier ones only, each is waited for; each of the others waits for all ahead of it. -/
def shapeOkG (ops : Array Oper) (ds : List Nat) (size m : Nat) : Bool :=
  (List.range ops.size).all (fun i => match ops[i]? with
    | some o => o.after.toList.all (fun e => !Region.binds .any e || Nat.blt e.on i) && (if i < m then (match o.dst with
        | some t => ds.contains t && Nat.blt t size && (List.range m).all (fun j => j == i || !(dstOf ops j == some t)) && (List.range (m + 1)).any (fun k => Nat.blt i k && waits ops k i)
        | none => false) else (List.range i).all (fun j => Nat.blt j m && i == m || waits ops i j))
    | none => false) && Nat.blt m ops.size
structure ShapeG (ops : Array Oper) (ds : List Nat) (size m : Nat) : Prop where
  lt : m < ops.size
  before : ∀ (i : Nat) (o : Oper) (e : Edge), ops[i]? = some o → e ∈ o.after → Region.binds .any e = true → e.on < i
  dst : ∀ (i : Nat) (o : Oper), i < m → ops[i]? = some o → ∃ t, o.dst = some t ∧ ds.contains t = true ∧ t < size ∧ ∀ j, j < m → j ≠ i → dstOf ops j ≠ some t
  heir : ∀ i, i < m → ∃ k, i < k ∧ k ≤ m ∧ waits ops k i = true
  late : ∀ i j, m ≤ i → i < ops.size → j < i → (j < m ∧ i = m) ∨ waits ops i j = true
theorem shape_ofG {ops : Array Oper} {ds : List Nat} {size m : Nat} (h : shapeOkG ops ds size m = true) : ShapeG ops ds size m := by
  unfold shapeOkG at h
  rw [Bool.and_eq_true, List.all_eq_true] at h
  obtain ⟨h1, h2⟩ := h
  have hm : m < ops.size := by simpa [Nat.blt_eq] using h2
  have hi : ∀ i o, ops[i]? = some o → (o.after.toList.all (fun e => !Region.binds .any e || Nat.blt e.on i) && (if i < m then (match o.dst with
        | some t => ds.contains t && Nat.blt t size && (List.range m).all (fun j => j == i || !(dstOf ops j == some t)) && (List.range (m + 1)).any (fun k => Nat.blt i k && waits ops k i)
        | none => false) else (List.range i).all (fun j => Nat.blt j m && i == m || waits ops i j))) = true := fun i o ho => by
    have hlt : i < ops.size := by
      rcases Nat.lt_or_ge i ops.size with h | h
      · exact h
      · rw [Array.getElem?_eq_none h] at ho; cases ho
    have := h1 i (List.mem_range.2 hlt)
    rw [ho] at this
    exact this
  refine ⟨hm, fun i o e ho he hb => ?_, fun i o him ho => ?_, fun i him => ?_, fun i j him hlt hj => ?_⟩
  · have := hi i o ho
    rw [Bool.and_eq_true, List.all_eq_true] at this
    have := this.1 e (by simpa using he)
    rw [hb] at this
    simpa [Nat.blt_eq] using this
  · have := hi i o ho
    rw [Bool.and_eq_true, if_pos him] at this
    have := this.2
    cases hd : o.dst with
    | none => rw [hd] at this; cases this
    | some t =>
      rw [hd] at this
      simp only [Bool.and_eq_true, List.all_eq_true] at this
      obtain ⟨⟨⟨e1, e2⟩, e3⟩, e4⟩ := this
      refine ⟨t, rfl, e1, by simpa [Nat.blt_eq] using e2, fun j hj hne he => ?_⟩
      have := e3 j (List.mem_range.2 hj)
      rw [he] at this
      simp [hne] at this
  · have hlt : i < ops.size := by omega
    have := hi i ops[i] (Array.getElem?_eq_getElem hlt)
    rw [Bool.and_eq_true, if_pos him] at this
    have := this.2
    cases hd : ops[i].dst with
    | none => rw [hd] at this; cases this
    | some t =>
      rw [hd] at this
      simp only [Bool.and_eq_true, List.any_eq_true] at this
      obtain ⟨_, k, hk, h5, h6⟩ := this
      have := List.mem_range.1 hk
      exact ⟨k, by simpa [Nat.blt_eq] using h5, by omega, h6⟩
  · have := hi i ops[i] (Array.getElem?_eq_getElem hlt)
    rw [Bool.and_eq_true, if_neg (by omega)] at this
    have := this.2
    rw [List.all_eq_true] at this
    have := this j (List.mem_range.2 hj)
    simp only [Bool.or_eq_true, Bool.and_eq_true, beq_iff_eq, Nat.blt_eq] at this
    exact this

theorem ready_earlyG {ops : Array Oper} {ds : List Nat} {size m : Nat} (hs : ShapeG ops ds size m) {l : Array Bool} (hl : l.size = ops.size) {j : Nat} (hj : j < ops.size) (hd : ¬ doneAt l j) : Region.ready .any ops l ≠ [] := by
  have key : ∀ n j, j ≤ n → j < ops.size → ¬ doneAt l j → ∃ i, i ∈ Region.ready .any ops l := by
    intro n
    induction n with
    | zero =>
      intro j hj0 hj hd
      refine ⟨j, (ready_iff hl).2 ⟨hj, hd, fun k hk => ?_⟩⟩
      unfold waits at hk
      rw [Array.getElem?_eq_getElem hj] at hk
      simp only [List.any_eq_true, Bool.and_eq_true, beq_iff_eq] at hk
      obtain ⟨e, he, hb, hon⟩ := hk
      have := hs.before j ops[j] e (Array.getElem?_eq_getElem hj) (by simpa using he) hb
      omega
    | succ n ih =>
      intro j hj0 hj hd
      by_cases h : ∀ k, waits ops j k = true → doneAt l k
      · exact ⟨j, (ready_iff hl).2 ⟨hj, hd, h⟩⟩
      · obtain ⟨k, hk⟩ := Classical.not_forall.1 h
        obtain ⟨hk, hnd⟩ := Classical.not_imp.1 hk
        have hk2 := hk
        unfold waits at hk
        rw [Array.getElem?_eq_getElem hj] at hk
        simp only [List.any_eq_true, Bool.and_eq_true, beq_iff_eq] at hk
        obtain ⟨e, he, hb, hon⟩ := hk
        have := hs.before j ops[j] e (Array.getElem?_eq_getElem hj) (by simpa using he) hb
        exact ih k (by omega) (by omega) hnd
  intro h
  obtain ⟨i, hi⟩ := key j j (Nat.le_refl _) hj hd
  rw [h] at hi
  cases hi
/-- where the first late one may come, all ahead of it has come. -/
theorem all_earlyG {ops : Array Oper} {ds : List Nat} {size m : Nat} (hs : ShapeG ops ds size m) {l : Array Bool} (hc : ∀ i k, doneAt l i → waits ops i k = true → doneAt l k) (hm : ∀ k, waits ops m k = true → doneAt l k) : ∀ i, i < m → doneAt l i := by
  have key : ∀ n i, m - i ≤ n → i < m → doneAt l i := by
    intro n
    induction n with
    | zero => intro i h1 h2; omega
    | succ n ih =>
      intro i h1 h2
      obtain ⟨k, h3, h4, h5⟩ := hs.heir i h2
      by_cases hk : k = m
      · subst hk; exact hm i h5
      · exact hc k i (ih k (by omega) (by omega)) h5
  exact fun i hi => key _ i (Nat.le_refl _) hi
/-- A REGION IN WHATEVER ORDER: what each of the first m operations leaves stands; the others come one by one behind them. -/
theorem wp_anywayG {P : Program} {id : Nat} {ops : Array Oper} {Q : Exit → Act → World → Prop} {a0 : Act} {w0 : World} (hmo : P.follows .mixedOrders = true) (ds : List Nat) (m : Nat) (post : Nat → Value → World → Prop)
    (hsh : shapeOkG ops ds a0.tmps.size m = true)
    (stable : ∀ i v w w', i < m → post i v w → Below w.heap.size w w' → post i v w')
    (step : ∀ (i : Nat) (o : Oper), i < m → ops[i]? = some o → ∀ q w, Below w0.heap.size w0 w → (∀ k t, waits ops i k = true → dstOf ops k = some t → post k (q t) w) → wpOp P ops Q i (fun a' w' => ∃ v, a' = (frm a0 ds q).put o.dst v ∧ Below w.heap.size w w' ∧ post i v w') (frm a0 ds q) w)
    (last : ∀ q w, Below w0.heap.size w0 w → (∀ i t, i < m → dstOf ops i = some t → post i (q t) w) → wpOps P ops Q ((List.range' m (ops.size - m))) (frm a0 ds q) w) :
    (Code.region id ops true).wp P Q a0 w0 := by
  have hs := shape_ofG hsh
  refine wp_region_any hmo ?_
  have hb0 : Below w0.heap.size w0 { w0 with drawn := w0.drawn + 1 } := ⟨rfl, rfl, rfl, Nat.le_refl _, fun _ _ => rfl⟩
  refine wpAny_inv (fun k l a w => k = left l ∧ ((∃ q, a = frm a0 ds q ∧ Early ops m w0 post l q w) ∨ (l.size = ops.size ∧ ∃ j, m ≤ j ∧ j ≤ ops.size ∧ (∀ i, doneAt l i ↔ i < j) ∧ wpOps P ops Q (List.range' j (ops.size - j)) a w))) ?_ _ _ _ _ ⟨?_, .inl ⟨_, (frm_start a0 ds).symm, ?_⟩⟩
  · rintro k l a w ⟨hk, hI⟩
    have hlsz : l.size = ops.size := hI.elim (fun ⟨_, _, hE⟩ => hE.size) (fun ⟨h, _⟩ => h)
    refine ⟨fun hr => ?_, fun h0 => ?_, fun k' hk' i hi => ?_⟩
    · rcases hI with ⟨q, rfl, hE⟩ | ⟨_, j, hj1, hj2, hd, hw⟩
      · exact absurd hr (ready_earlyG hs hE.size hs.lt (hE.later m (Nat.le_refl _)))
      · by_cases hjs : j = ops.size
        · subst hjs
          rw [Nat.sub_self] at hw
          exact hw
        · exact absurd hr (ready_earlyG hs hlsz (j := j) (by omega) (fun h => by have := (hd j).1 h; omega))
    · cases hr : Region.ready .any ops l with
      | nil => rfl
      | cons x xs =>
        have hx := (ready_iff hlsz (i := x)).1 (by rw [hr]; exact List.mem_cons_self)
        exact absurd (left_zero (by omega) (by omega)) hx.2.1
    · obtain ⟨h1, h2, h3⟩ := (ready_iff hlsz).1 hi
      have ho : ops[i]? = some ops[i] := Array.getElem?_eq_getElem h1
      have hleft := left_set (by omega : i < l.size) h2
      have late : ∀ (j : Nat) (a : Act) (w : World), m ≤ j → j ≤ ops.size → (∀ i, doneAt l i ↔ i < j) → wpOps P ops Q (List.range' j (ops.size - j)) a w → wpOp P ops Q i (fun a' w' => k' = left (l.setIfInBounds i true) ∧ ((∃ q, a' = frm a0 ds q ∧ Early ops m w0 post (l.setIfInBounds i true) q w') ∨ ((l.setIfInBounds i true).size = ops.size ∧ ∃ j, m ≤ j ∧ j ≤ ops.size ∧ (∀ i', doneAt (l.setIfInBounds i true) i' ↔ i' < j) ∧ wpOps P ops Q (List.range' j (ops.size - j)) a' w'))) a w := by
        intro j a w hj1 hj2 hd hw
        have hij : i = j := by
          have hge : j ≤ i := by
            rcases Nat.lt_or_ge i j with h | h
            · exact absurd ((hd i).2 h) h2
            · exact h
          rcases Nat.lt_or_ge j i with h | h
          · rcases hs.late i j (by omega) h1 h with h4 | h4
            · omega
            · have := (hd j).1 (h3 j h4); omega
          · omega
        subst hij
        rw [show ops.size - i = (ops.size - (i + 1)) + 1 by omega, List.range'_succ, wpOps_cons] at hw
        refine wpOp_mono (fun a' w' h' => ⟨by omega, .inr ⟨by rw [Array.size_setIfInBounds]; exact hlsz, i + 1, by omega, by omega, fun i' => ?_, h'⟩⟩) hw
        rw [done_set (by omega), hd]
        omega
      rcases hI with ⟨q, rfl, hE⟩ | ⟨_, j, hj1, hj2, hd, hw⟩
      · by_cases him : i < m
        · obtain ⟨t, ht, hdt, hts, hne⟩ := hs.dst i _ him ho
          have hst := step i _ him ho q w hE.below (fun k t' hk ht' => by
            have hkd := h3 k hk
            have hkm : k < m := by
              rcases Nat.lt_or_ge k m with h | h
              · exact h
              · exact absurd hkd (hE.later k h)
            exact hE.posts k t' hkm hkd ht')
          refine wpOp_mono ?_ hst
          rintro a' w' ⟨v, rfl, hb, hp⟩
          rw [ht, frm_put hdt]
          refine ⟨by omega, .inl ⟨_, rfl, ⟨by rw [Array.size_setIfInBounds]; exact hlsz, fun i' hi' hd' => ?_, fun i' k0 hd' hk0 => ?_, hE.below.trans (hb.mono hE.below.size), fun i' t' hi' hd' ht' => ?_⟩⟩⟩
          · rcases (done_set (by omega)).1 hd' with h | h
            · omega
            · exact hE.later i' hi' h
          · rw [done_set (by omega)]
            rcases (done_set (by omega)).1 hd' with h | h
            · subst h; exact .inr (h3 k0 hk0)
            · exact .inr (hE.closed i' k0 h hk0)
          · by_cases hii : i' = i
            · subst hii
              have : t' = t := by
                unfold dstOf at ht'
                rw [ho] at ht'
                exact Option.some.inj (ht'.symm.trans ht)
              subst this
              rw [setV_same]; exact hp
            · rcases (done_set (by omega)).1 hd' with h | h
              · exact absurd h hii
              · rw [setV_other (fun e => hne i' hi' hii (by rw [ht', e]))]
                exact stable i' _ w w' hi' (hE.posts i' t' hi' h ht') hb
        · have him2 : i = m := by
            rcases Nat.lt_or_ge m i with h | h
            · rcases hs.late i m (by omega) h1 h with h4 | h4
              · omega
              · exact absurd (h3 m h4) (hE.later m (Nat.le_refl _))
            · omega
          subst him2
          have hall := all_earlyG hs hE.closed h3
          exact late i _ w (Nat.le_refl _) (by omega) (fun i' => ⟨fun h => by
            rcases Nat.lt_or_ge i' i with h' | h'
            · exact h'
            · exact absurd h (hE.later i' h'), fun h => hall i' h⟩) (last q w hE.below fun i' t' hi' ht' => hE.posts i' t' hi' (hall i' hi') ht')
      · exact late j a w hj1 hj2 hd hw
  · unfold left
    simp
  · have hnd : ∀ i, ¬ doneAt (Array.replicate ops.size false) i := fun i h => by
      unfold doneAt at h
      rw [Array.getElem?_replicate] at h
      split at h <;> cases h
    exact ⟨by simp, fun i _ => hnd i, fun i _ h => absurd h (hnd i), hb0, fun i _ _ h => absurd h (hnd i)⟩

/-- A REGION IN ITS TEXT'S ORDER, by what each of the first m operations leaves. -/
theorem wp_inorderG {P : Program} {id : Nat} {ops : Array Oper} {Q : Exit → Act → World → Prop} {a0 : Act} {w0 : World} (ds : List Nat) (m : Nat) (post : Nat → Value → World → Prop)
    (hsh : shapeOkG ops ds a0.tmps.size m = true)
    (stable : ∀ i v w w', i < m → post i v w → Below w.heap.size w w' → post i v w')
    (step : ∀ (i : Nat) (o : Oper), i < m → ops[i]? = some o → ∀ q w, Below w0.heap.size w0 w → (∀ k t, waits ops i k = true → dstOf ops k = some t → post k (q t) w) → wpOp P ops Q i (fun a' w' => ∃ v, a' = (frm a0 ds q).put o.dst v ∧ Below w.heap.size w w' ∧ post i v w') (frm a0 ds q) w)
    (last : ∀ q w, Below w0.heap.size w0 w → (∀ i t, i < m → dstOf ops i = some t → post i (q t) w) → wpOps P ops Q ((List.range' m (ops.size - m))) (frm a0 ds q) w) :
    (Code.region id ops false).wp P Q a0 w0 := by
  have hs := shape_ofG hsh
  refine wp_region ?_
  have key : ∀ k i q w, i + k = m → Below w0.heap.size w0 w → (∀ j t, j < i → dstOf ops j = some t → post j (q t) w) → wpOps P ops Q (List.range' i (ops.size - i)) (frm a0 ds q) w := by
    intro k
    induction k with
    | zero =>
      intro i q w hik hb hp
      have : i = m := by omega
      subst this
      exact last q w hb hp
    | succ k ih =>
      intro i q w hik hb hp
      have him : i < m := by omega
      have hlt := hs.lt
      have h1 : i < ops.size := by omega
      have ho : ops[i]? = some ops[i] := Array.getElem?_eq_getElem h1
      obtain ⟨t, ht, hdt, hts, hne⟩ := hs.dst i _ him ho
      rw [show ops.size - i = (ops.size - (i + 1)) + 1 by omega, List.range'_succ, wpOps_cons]
      refine wpOp_mono ?_ (step i _ him ho q w hb fun k' t' hk' ht' => hp k' t' ?_ ht')
      · rintro a' w' ⟨v, rfl, hb', hv⟩
        rw [ht, frm_put hdt]
        refine ih (i + 1) _ w' (by omega) (hb.trans (hb'.mono hb.size)) fun j t' hj ht' => ?_
        by_cases hji : j = i
        · subst hji
          have : t' = t := by
            unfold dstOf at ht'
            rw [ho] at ht'
            exact Option.some.inj (ht'.symm.trans ht)
          subst this
          rw [setV_same]; exact hv
        · rw [setV_other (fun e => hne j (by omega) hji (by rw [ht', e]))]
          exact stable j _ w w' (by omega) (hp j t' (by omega) ht') hb'
      · unfold waits at hk'
        rw [ho] at hk'
        simp only [List.any_eq_true, Bool.and_eq_true, beq_iff_eq] at hk'
        obtain ⟨e, he, hbi, hon⟩ := hk'
        have := hs.before i _ e ho (by simpa using he) hbi
        omega
  have h0 := key m 0 (fun t => a0.eval (.tmp t)) w0 (by omega) (Below.refl _ _) (fun j t hj _ => by omega)
  rw [frm_start] at h0
  rw [List.range_eq_range']
  exact h0

theorem eval_bool {a : Act} {t : Nat} {b : Bool} (h : a.eval (.tmp t) = .bool b) : a.tmps[t]? = some (.bool b) := by
  have h' : a.tmps.getD t undef = .bool b := h
  rw [Array.getD_eq_getD_getElem?] at h'
  cases hx : a.tmps[t]? with
  | none => rw [hx] at h'; cases h'
  | some v => rw [hx] at h'; exact congrArg some h'
/-- an operation with a guard. -/
theorem op_guard {P : Program} {ops : Array Oper} {Q : Exit → Act → World → Prop} {i j tj : Nat} {want g x : Bool} {K : Act → World → Prop} {a : Act} {w : World} {o : Oper} (ho : ops[i]? = some o) (hg : o.guard = some (j, want)) (hd : dstOf ops j = some tj) (hv : a.eval (.tmp tj) = cond g (.bool x) undef)
    (h1 : (g && (x == want)) = true → o.wp P a w K Q) (h2 : (g && (x == want)) = false → K (a.put o.dst undef) w) : wpOp P ops Q i K a w := by
  unfold wpOp
  rw [ho]
  show if Region.wanted o (yielded ops a.tmps) = true then _ else _
  have hy : Region.wanted o (yielded ops a.tmps) = (g && (x == want)) := by
    unfold Region.wanted
    rw [hg]
    show (yielded ops a.tmps j == some want) = _
    have hb : ((ops[j]?).bind (·.dst)).bind (a.tmps[·]?) = a.tmps[tj]? := by
      unfold dstOf at hd
      cases hx : ops[j]? with
      | none => rw [hx] at hd; cases hd
      | some oj => rw [hx] at hd; simp [hd]
    unfold yielded
    rw [hb]
    cases g with
    | true =>
      rw [eval_bool hv]
      cases x <;> cases want <;> rfl
    | false =>
      have hv' : a.tmps.getD tj undef = undef := hv
      rw [Array.getD_eq_getD_getElem?] at hv'
      cases hx : a.tmps[tj]? with
      | none => rfl
      | some v =>
        rw [hx] at hv'
        have hv2 : v = undef := hv'
        subst hv2
        rfl
  rw [hy]
  cases hgx : (g && (x == want)) with
  | true => rw [if_pos rfl]; exact .inl (h1 hgx)
  | false => rw [if_neg (by decide)]; exact h2 hgx
theorem op_plain {P : Program} {ops : Array Oper} {Q : Exit → Act → World → Prop} {i : Nat} {K : Act → World → Prop} {a : Act} {w : World} {o : Oper} (ho : ops[i]? = some o) (hg : o.guard = none) (h : o.wp P a w K Q) : wpOp P ops Q i K a w := op_at ho hg h
end Go.Proofs.YtbnhjbjlcnmjbaaDoor
