/-
  Joined out of Anyway, AnyOps, WClm, ClaimM, ClaimM2, ClaimM3, ClaimM4, ClaimN, ClaimL, ClaimS, LawOps, StepReach, StepReach2, StepReach3, in their order: a claim bears at most so many files.
-/
import Derived.Test.YteejnjcdfmedlaaGreatDoorMem
import Derived.Deep.AppendLies
import Derived.Laws.AppendOwnNone
import Derived.Test.YteejnjcdfmedlaaGreatDoorLateB
import Derived.Test.YteejnjcdfmedlaaGreatDoorLateA
import Derived.Test.YteejnjcdfmedlaaGreatDoorLateC
import Derived.Test.YteejnjcdfmedlaaGreatDoorLateD
import Derived.Test.YteejnjcdfmedlaaGreatDoorMFirst
import Derived.Maps.OwnSet
namespace Go.Proofs.YteejnjcdfmedlaaGreatDoor
open Go.ChangeShapes Go.WideShapes Go.ChangeAt Go.RowKit Go.Deep
set_option maxHeartbeats 6400000
set_option maxRecDepth 20000
section
theorem wpAny_invA {P : Program} {md : Region.Mode} {ops : Array Oper} {Q : Exit -> Act -> World -> Prop} (I : Nat -> Array Bool -> Act -> World -> Prop)
  (hs : ∀ k l a w, I k l a w -> (Region.ready md ops l = [] -> Q .normal a w) /\ (k = 0 -> Region.ready md ops l = []) /\ ∀ k', k = k' + 1 -> ∀ i ∈ Region.ready md ops l, wpOp P ops Q i (fun a' w' => I k' (l.setIfInBounds i true) a' w') a w) :
  ∀ k l a w, I k l a w -> wpAny P md ops Q k l a w
 | 0, l, a, w, h => ⟨(hs 0 l a w h).2.1 rfl, (hs 0 l a w h).1 ((hs 0 l a w h).2.1 rfl)⟩
 | k + 1, l, a, w, h => ⟨(hs _ l a w h).1, fun i hi => wpOp_mono (fun a' w' h' => wpAny_invA I hs k _ a' w' h') ((hs _ l a w h).2.2 k rfl i hi)⟩
def mix (ds : List Nat) (q : Nat -> Value) : Nat -> List Value -> List Value
 | _, [] => []
 | t, v :: l => (if ds.contains t then q t else v) :: mix ds q (t + 1) l
def frm (a : Act) (ds : List Nat) (q : Nat -> Value) : Act := ⟨(mix ds q 0 a.tmps.toList).toArray, a.defers⟩
theorem mix_at (ds : List Nat) (q : Nat -> Value) : ∀ (l : List Value) (t j : Nat), (mix ds q t l)[j]? = (l[j]?).map fun v => if ds.contains (t + j) then q (t + j) else v
 | [], t, j => by simp [mix]
 | v :: l, t, 0 => by simp [mix]
 | v :: l, t, j + 1 => by
  show (mix ds q (t + 1) l)[j]? = (l[j]?).map _
  rw [mix_at ds q l (t + 1) j, show t + 1 + j = t + (j + 1) by omega]
theorem mix_length (ds : List Nat) (q : Nat -> Value) : ∀ (l : List Value) (t : Nat), (mix ds q t l).length = l.length
 | [], t => rfl
 | v :: l, t => by show (mix ds q (t + 1) l).length + 1 = _; rw [mix_length ds q l (t + 1)]; rfl
theorem frm_in {a : Act} {ds : List Nat} {q : Nat -> Value} {t : Nat} (h : ds.contains t = true) (ht : t < a.tmps.size) : (frm a ds q).eval (.tmp t) = q t := by
 show (mix ds q 0 a.tmps.toList).toArray.getD t undef = q t
 rw [Array.getD_eq_getD_getElem?, List.getElem?_toArray, mix_at, Nat.zero_add, h]
 have : a.tmps.toList[t]? = some (a.tmps.toList[t]'(by simpa using ht)) := List.getElem?_eq_getElem _
 rw [this]; rfl
theorem frm_out {a : Act} {ds : List Nat} {q : Nat -> Value} {t : Nat} (h : ds.contains t = false) : (frm a ds q).eval (.tmp t) = a.eval (.tmp t) := by
 show (mix ds q 0 a.tmps.toList).toArray.getD t undef = a.tmps.getD t undef
 rw [Array.getD_eq_getD_getElem?, List.getElem?_toArray, mix_at, Nat.zero_add, h, Array.getD_eq_getD_getElem?, <- Array.getElem?_toList]
 cases a.tmps.toList[t]? <;> rfl
theorem mix_same {ds : List Nat} : ∀ (l : List Value) (q : Nat -> Value) (t : Nat), (∀ j, j < l.length -> q (t + j) = l.getD j undef) -> mix ds q t l = l
 | [], _, _, _ => rfl
 | v :: l, q, t, h => by
  show (if ds.contains t then q t else v) :: mix ds q (t + 1) l = v :: l
  rw [mix_same l q (t + 1) (fun j hj => by have := h (j + 1) (by simp; omega); rw [show t + 1 + j = t + (j + 1) by omega]; exact this)]
  have := h 0 (by simp)
  have h0 : q t = v := this; rw [h0]
  split <;> rfl
theorem frm_start (a : Act) (ds : List Nat) : frm a ds (fun t => a.eval (.tmp t)) = a := by
 unfold frm; rw [mix_same]; intro j hj
 show a.tmps.getD (0 + j) undef = a.tmps.toList.getD j undef
 rw [Nat.zero_add, Array.getD_eq_getD_getElem?, List.getD_eq_getElem?_getD, Array.getElem?_toList]
def setV (q : Nat -> Value) (t : Nat) (v : Value) : Nat -> Value := fun s => if s = t then v else q s
theorem setV_same (q : Nat -> Value) (t : Nat) (v : Value) : setV q t v t = v := if_pos rfl
theorem setV_other {q : Nat -> Value} {s t : Nat} {v : Value} (h : s ≠ t) : setV q t v s = q s := if_neg h
theorem frm_put {a : Act} {ds : List Nat} {q : Nat -> Value} {t : Nat} {v : Value} (h : ds.contains t = true) : (frm a ds q).put (some t) v = frm a ds (setV q t v) := by
 show Act.mk ((mix ds q 0 a.tmps.toList).toArray.setIfInBounds t v) a.defers = Act.mk (mix ds (setV q t v) 0 a.tmps.toList).toArray a.defers
 congr 1
 apply Array.ext_getElem?
 intro j; rw [Array.getElem?_setIfInBounds, List.getElem?_toArray, List.getElem?_toArray, mix_at, mix_at, Nat.zero_add]
 by_cases hj : t = j
 ·subst hj
  rw [if_pos rfl, h]; simp only [List.size_toArray, mix_length, Array.length_toList]
  by_cases hs : t < a.tmps.size
  ·rw [if_pos hs]
   rw [show a.tmps.toList[t]? = some (a.tmps.toList[t]'(by simpa using hs)) from List.getElem?_eq_getElem _]
   simp [setV]
  ·rw [if_neg hs, List.getElem?_eq_none (by simpa using hs)]; rfl
 ·rw [if_neg hj]
  cases a.tmps.toList[j]? with
  | none => rfl
  | some u =>
   show some _ = some _
   rw [setV_other (fun e => hj e.symm)]
def waits (ops : Array Oper) (i k : Nat) : Bool := match ops[i]? with | some o => o.after.toList.any (fun e => Region.binds .any e && e.on == k) | none => false
def dstOf (ops : Array Oper) (k : Nat) : Option Nat := match ops[k]? with | some o => o.dst | none => none
def shapeOk (ops : Array Oper) (ds : List Nat) (size m : Nat) : Bool :=
  (List.range ops.size).all (fun i => match ops[i]? with
    | some o => o.guard.isNone && o.after.toList.all (fun e => !Region.binds .any e || Nat.blt e.on i) && (if i < m then (match o.dst with
        | some t => ds.contains t && Nat.blt t size && (List.range m).all (fun j => j == i || !(dstOf ops j == some t)) && (List.range (m + 1)).any (fun k => Nat.blt i k && waits ops k i)
        | none => false) else (List.range i).all (fun j => Nat.blt j m && i == m || waits ops i j))
    | none => false) && Nat.blt m ops.size
structure Shape (ops : Array Oper) (ds : List Nat) (size m : Nat) : Prop where
 lt : m < ops.size
 guard : ∀ (i : Nat) (o : Oper), ops[i]? = some o -> o.guard = none
 before : ∀ (i : Nat) (o : Oper) (e : Edge), ops[i]? = some o -> e ∈ o.after -> Region.binds .any e = true -> e.on < i
 dst : ∀ (i : Nat) (o : Oper), i < m -> ops[i]? = some o -> ∃ t, o.dst = some t /\ ds.contains t = true /\ t < size /\ ∀ j, j < m -> j ≠ i -> dstOf ops j ≠ some t
 heir : ∀ i, i < m -> ∃ k, i < k /\ k <= m /\ waits ops k i = true
 late : ∀ i j, m <= i -> i < ops.size -> j < i -> (j < m /\ i = m) \/ waits ops i j = true
theorem shape_of {ops : Array Oper} {ds : List Nat} {size m : Nat} (h : shapeOk ops ds size m = true) : Shape ops ds size m := by
  unfold shapeOk at h; rw [Bool.and_eq_true, List.all_eq_true] at h; obtain ⟨h1, h2⟩ := h; have hm : m < ops.size := by simpa [Nat.blt_eq] using h2
  have hi : ∀ i o, ops[i]? = some o → (o.guard.isNone && o.after.toList.all (fun e => !Region.binds .any e || Nat.blt e.on i) && (if i < m then (match o.dst with
        | some t => ds.contains t && Nat.blt t size && (List.range m).all (fun j => j == i || !(dstOf ops j == some t)) && (List.range (m + 1)).any (fun k => Nat.blt i k && waits ops k i)
        | none => false) else (List.range i).all (fun j => Nat.blt j m && i == m || waits ops i j))) = true := fun i o ho => by
    have hlt : i < ops.size := by
      rcases Nat.lt_or_ge i ops.size with h | h
      · exact h
      · rw [Array.getElem?_eq_none h] at ho; cases ho
    have := h1 i (List.mem_range.2 hlt); rw [ho] at this; exact this
  refine ⟨hm, fun i o ho => ?_, fun i o e ho he hb => ?_, fun i o him ho => ?_, fun i him => ?_, fun i j him hlt hj => ?_⟩
  · have := hi i o ho
    rw [Bool.and_eq_true, Bool.and_eq_true] at this; simpa using this.1.1
  · have := hi i o ho
    rw [Bool.and_eq_true, Bool.and_eq_true, List.all_eq_true] at this; have := this.1.2 e (by simpa using he)
    rw [hb] at this; simpa [Nat.blt_eq] using this
  · have := hi i o ho
    rw [Bool.and_eq_true, if_pos him] at this; have := this.2
    cases hd : o.dst with
    | none => rw [hd] at this; cases this
    | some t =>
      rw [hd] at this; simp only [Bool.and_eq_true, List.all_eq_true] at this; obtain ⟨⟨⟨e1, e2⟩, e3⟩, e4⟩ := this; refine ⟨t, rfl, e1, by simpa [Nat.blt_eq] using e2, fun j hj hne he => ?_⟩
      have := e3 j (List.mem_range.2 hj); rw [he] at this; simp [hne] at this
  · have hlt : i < ops.size := by omega
    have := hi i ops[i] (Array.getElem?_eq_getElem hlt)
    rw [Bool.and_eq_true, if_pos him] at this; have := this.2
    cases hd : ops[i].dst with
    | none => rw [hd] at this; cases this
    | some t =>
      rw [hd] at this; simp only [Bool.and_eq_true, List.any_eq_true] at this; obtain ⟨_, k, hk, h5, h6⟩ := this; have := List.mem_range.1 hk; exact ⟨k, by simpa [Nat.blt_eq] using h5, by omega, h6⟩
  · have := hi i ops[i] (Array.getElem?_eq_getElem hlt)
    rw [Bool.and_eq_true, if_neg (by omega), List.all_eq_true] at this
    have := this.2 j (List.mem_range.2 hj); simp only [Bool.or_eq_true, Bool.and_eq_true, beq_iff_eq, Nat.blt_eq] at this; exact this
def doneAt (l : Array Bool) (i : Nat) : Prop := l[i]? = some true
theorem ready_iff {ops : Array Oper} {l : Array Bool} (hl : l.size = ops.size) {i : Nat} : i ∈ Region.ready .any ops l ↔ i < ops.size /\ ¬ doneAt l i /\ ∀ k, waits ops i k = true -> doneAt l k := by
 unfold Region.ready; rw [List.mem_filter, List.mem_range]
 constructor
 ·rintro ⟨h1, h2⟩
  have hi : i < l.size := by omega
  rw [Bool.and_eq_true] at h2; obtain ⟨h2, h3⟩ := h2; refine ⟨h1, fun hd => ?_, fun k hk => ?_⟩
  ·unfold doneAt at hd
   rw [Array.getD_eq_getD_getElem?, hd] at h2; simp at h2
  ·unfold waits at hk
   rw [Array.getElem?_eq_getElem h1] at h3 hk
   simp only [Option.map_some, Option.getD_some, Array.all_eq_true_iff_forall_mem] at h3; simp only [List.any_eq_true, Bool.and_eq_true, beq_iff_eq] at hk; obtain ⟨e, he, hb, hon⟩ := hk; have := h3 e (by simpa using he)
   rw [hb, hon] at this; simp only [Bool.not_true, Bool.false_or, Array.getD_eq_getD_getElem?] at this; unfold doneAt
   cases hx : l[k]? with
   | none => rw [hx] at this; simp at this
   | some b => rw [hx] at this; simp at this; rw [this]
 ·rintro ⟨h1, h2, h3⟩
  have hi : i < l.size := by omega
  refine ⟨h1, ?_⟩
  rw [Bool.and_eq_true]
  constructor
  ·rw [Array.getD_eq_getD_getElem?, Array.getElem?_eq_getElem hi]
   unfold doneAt at h2; rw [Array.getElem?_eq_getElem hi] at h2
   cases hx : l[i] with
   | true => rw [hx] at h2; exact absurd rfl h2
   | false => rfl
  ·rw [Array.getElem?_eq_getElem h1]
   simp only [Option.map_some, Option.getD_some, Array.all_eq_true_iff_forall_mem]; intro e he
   cases hb : Region.binds .any e with
   | false => rfl
   | true =>
    have := h3 e.on (by unfold waits; rw [Array.getElem?_eq_getElem h1]; simp only [List.any_eq_true, Bool.and_eq_true, beq_iff_eq]; exact ⟨e, by simpa using he, hb, rfl⟩)
    unfold doneAt at this; rw [Array.getD_eq_getD_getElem?, this]; rfl
def leftA (l : Array Bool) : Nat := l.toList.count false
theorem left_setA {l : Array Bool} {i : Nat} (hi : i < l.size) (h : ¬ doneAt l i) : leftA (l.setIfInBounds i true) + 1 = leftA l := by
 unfold leftA; rw [Array.toList_setIfInBounds]; have hl : i < l.toList.length := by simpa using hi
 have hf : l.toList[i] = false := by
  unfold doneAt at h; rw [Array.getElem?_eq_getElem hi] at h
  have e : l.toList[i] = l[i] := Array.getElem_toList _; rw [e]
  cases hx : l[i] with
  | true => rw [hx] at h; exact absurd rfl h
  | false => rfl
 have hpos : 0 < l.toList.count false := List.count_pos_iff.2 (hf ▸ List.getElem_mem hl); rw [List.count_set hl, hf]
 show l.toList.count false - 1 + 0 + 1 = l.toList.count false
 omega
theorem left_zeroA {l : Array Bool} (h : leftA l = 0) {i : Nat} (hi : i < l.size) : doneAt l i := by
 unfold leftA at h; have h0 : false ∉ l.toList := List.count_eq_zero.1 h; unfold doneAt; rw [Array.getElem?_eq_getElem hi]
 cases hx : l[i] with
 | true => rfl
 | false => exact absurd (by rw [<- hx]; exact Array.getElem_mem_toList hi) h0
theorem done_set {l : Array Bool} {i j : Nat} (hi : i < l.size) : doneAt (l.setIfInBounds i true) j ↔ j = i \/ doneAt l j := by
 unfold doneAt; rw [Array.getElem?_setIfInBounds]
 by_cases h : i = j
 ·subst h
  simp [hi]
 ·rw [if_neg h]
  constructor
  ·exact .inr
  ·rintro (h2 | h2)
   ·exact absurd h2.symm h
   ·exact h2
structure Early (ops : Array Oper) (m : Nat) (W0 : World) (post : Nat -> Value -> World -> Prop) (l : Array Bool) (q : Nat -> Value) (w : World) : Prop where
 size : l.size = ops.size
 later : ∀ i, m <= i -> ¬ doneAt l i
 closed : ∀ i k, doneAt l i -> waits ops i k = true -> doneAt l k
 below : Below W0.heap.size W0 w
 posts : ∀ i t, i < m -> doneAt l i -> dstOf ops i = some t -> post i (q t) w
theorem ready_early {ops : Array Oper} {ds : List Nat} {size m : Nat} (hs : Shape ops ds size m) {l : Array Bool} (hl : l.size = ops.size) {j : Nat} (hj : j < ops.size) (hd : ¬ doneAt l j) : Region.ready .any ops l ≠ [] := by
 have key : ∀ n j, j <= n -> j < ops.size -> ¬ doneAt l j -> ∃ i, i ∈ Region.ready .any ops l := by
  intro n
  induction n with
  | zero =>
   intro j hj0 hj hd; refine ⟨j, (ready_iff hl).2 ⟨hj, hd, fun k hk => ?_⟩⟩
   unfold waits at hk; rw [Array.getElem?_eq_getElem hj] at hk
   simp only [List.any_eq_true, Bool.and_eq_true, beq_iff_eq] at hk; obtain ⟨e, he, hb, hon⟩ := hk; have := hs.before j ops[j] e (Array.getElem?_eq_getElem hj) (by simpa using he) hb
   omega
  | succ n ih =>
   intro j hj0 hj hd
   by_cases h : ∀ k, waits ops j k = true -> doneAt l k
   ·exact ⟨j, (ready_iff hl).2 ⟨hj, hd, h⟩⟩
   ·obtain ⟨k, hk⟩ := Classical.not_forall.1 h
    obtain ⟨hk, hnd⟩ := Classical.not_imp.1 hk; have hk2 := hk; unfold waits at hk; rw [Array.getElem?_eq_getElem hj] at hk
    simp only [List.any_eq_true, Bool.and_eq_true, beq_iff_eq] at hk; obtain ⟨e, he, hb, hon⟩ := hk; have := hs.before j ops[j] e (Array.getElem?_eq_getElem hj) (by simpa using he) hb
    exact ih k (by omega) (by omega) hnd
 intro h; obtain ⟨i, hi⟩ := key j j (Nat.le_refl _) hj hd; rw [h] at hi
 cases hi
theorem all_early {ops : Array Oper} {ds : List Nat} {size m : Nat} (hs : Shape ops ds size m) {l : Array Bool} (hc : ∀ i k, doneAt l i -> waits ops i k = true -> doneAt l k) (hm : ∀ k, waits ops m k = true -> doneAt l k) : ∀ i, i < m -> doneAt l i := by
 have key : ∀ n i, m - i <= n -> i < m -> doneAt l i := by
  intro n
  induction n with
  | zero => intro i h1 h2; omega
  | succ n ih =>
   intro i h1 h2; obtain ⟨k, h3, h4, h5⟩ := hs.heir i h2
   by_cases hk : k = m
   ·subst hk; exact hm i h5
   ·exact hc k i (ih k (by omega) (by omega)) h5
 exact fun i hi => key _ i (Nat.le_refl _) hi
theorem wp_anyway {P : Program} {id : Nat} {ops : Array Oper} {Q : Exit -> Act -> World -> Prop} {a0 : Act} {w0 : World} (hmo : P.follows .mixedOrders = true) (ds : List Nat) (m : Nat) (post : Nat -> Value -> World -> Prop)
    (hsh : shapeOk ops ds a0.tmps.size m = true)
    (stable : ∀ i v w w', i < m -> post i v w -> Below w.heap.size w w' -> post i v w')
    (step : ∀ (i : Nat) (o : Oper), i < m -> ops[i]? = some o -> ∀ q w, Below w0.heap.size w0 w -> (∀ k t, waits ops i k = true -> dstOf ops k = some t -> post k (q t) w) -> Oper.wp P o (frm a0 ds q) w (fun a' w' => ∃ v, a' = (frm a0 ds q).put o.dst v /\ Below w.heap.size w w' /\ post i v w') Q)
    (last : ∀ q w, Below w0.heap.size w0 w -> (∀ i t, i < m -> dstOf ops i = some t -> post i (q t) w) -> wpOps P ops Q ((List.range' m (ops.size - m))) (frm a0 ds q) w) :
    (Code.region id ops true).wp P Q a0 w0 := by
  have hs := shape_of hsh; refine wp_region_any hmo ?_
  have hb0 : Below w0.heap.size w0 { w0 with drawn := w0.drawn + 1 } := ⟨rfl, rfl, rfl, Nat.le_refl _, fun _ _ => rfl⟩
  refine wpAny_invA (fun k l a w => k = leftA l /\ ((∃ q, a = frm a0 ds q /\ Early ops m w0 post l q w) \/ (l.size = ops.size /\ ∃ j, m <= j /\ j <= ops.size /\ (∀ i, doneAt l i ↔ i < j) /\ wpOps P ops Q (List.range' j (ops.size - j)) a w))) ?_ _ _ _ _ ⟨?_, .inl ⟨_, (frm_start a0 ds).symm, ?_⟩⟩
  · rintro k l a w ⟨hk, hI⟩
    have hlsz : l.size = ops.size := hI.elim (fun ⟨_, _, hE⟩ => hE.size) (fun ⟨h, _⟩ => h)
    refine ⟨fun hr => ?_, fun h0 => ?_, fun k' hk' i hi => ?_⟩
    · rcases hI with ⟨q, rfl, hE⟩ | ⟨_, j, hj1, hj2, hd, hw⟩
      · exact absurd hr (ready_early hs hE.size hs.lt (hE.later m (Nat.le_refl _)))
      · by_cases hjs : j = ops.size
        · subst hjs
          rw [Nat.sub_self] at hw; exact hw
        · exact absurd hr (ready_early hs hlsz (j := j) (by omega) (fun h => by have := (hd j).1 h; omega))
    · cases hr : Region.ready .any ops l with
      | nil => rfl
      | cons x xs =>
        have hx := (ready_iff hlsz (i := x)).1 (by rw [hr]; exact List.mem_cons_self)
        exact absurd (left_zeroA (by omega) (by omega)) hx.2.1
    · obtain ⟨h1, h2, h3⟩ := (ready_iff hlsz).1 hi
      have ho : ops[i]? = some ops[i] := Array.getElem?_eq_getElem h1
      have hgd := hs.guard i _ ho; have hleft := left_setA (by omega : i < l.size) h2
      have late : ∀ (j : Nat) (a : Act) (w : World), m <= j -> j <= ops.size -> (∀ i, doneAt l i ↔ i < j) -> wpOps P ops Q (List.range' j (ops.size - j)) a w -> wpOp P ops Q i (fun a' w' => k' = leftA (l.setIfInBounds i true) /\ ((∃ q, a' = frm a0 ds q /\ Early ops m w0 post (l.setIfInBounds i true) q w') \/ ((l.setIfInBounds i true).size = ops.size /\ ∃ j, m <= j /\ j <= ops.size /\ (∀ i', doneAt (l.setIfInBounds i true) i' ↔ i' < j) /\ wpOps P ops Q (List.range' j (ops.size - j)) a' w'))) a w := by
        intro j a w hj1 hj2 hd hw
        have hij : i = j := by
          have hge : j <= i := by
            rcases Nat.lt_or_ge i j with h | h
            · exact absurd ((hd i).2 h) h2
            · exact h
          rcases Nat.lt_or_ge j i with h | h
          · rcases hs.late i j (by omega) h1 h with h4 | h4
            · omega
            · have := (hd j).1 (h3 j h4); omega
          · omega
        subst hij; rw [show ops.size - i = (ops.size - (i + 1)) + 1 by omega, List.range'_succ, wpOps_cons] at hw
        refine wpOp_mono (fun a' w' h' => ⟨by omega, .inr ⟨by rw [Array.size_setIfInBounds]; exact hlsz, i + 1, by omega, by omega, fun i' => ?_, h'⟩⟩) hw
        rw [done_set (by omega), hd]
        omega
      rcases hI with ⟨q, rfl, hE⟩ | ⟨_, j, hj1, hj2, hd, hw⟩
      · by_cases him : i < m
        · obtain ⟨t, ht, hdt, hts, hne⟩ := hs.dst i _ him ho
          have hst := step i _ him ho q w hE.below (fun k t' hk ht' => by
            have hkd := h3 k hk
            have hkm : k < m := by
              rcases Nat.lt_or_ge k m with h | h
              · exact h
              · exact absurd hkd (hE.later k h)
            exact hE.posts k t' hkm hkd ht')
          unfold wpOp; rw [ho]
          show if Region.wanted ops[i] (yielded ops (frm a0 ds q).tmps) = true then _ else _
          rw [if_pos (by unfold Region.wanted; rw [hgd])]
          refine .inl (Oper.wp_mono ?_ hst)
          rintro a' w' ⟨v, rfl, hb, hp⟩
          rw [ht, frm_put hdt]; refine ⟨by omega, .inl ⟨_, rfl, ⟨by rw [Array.size_setIfInBounds]; exact hlsz, fun i' hi' hd' => ?_, fun i' k0 hd' hk0 => ?_, hE.below.trans (hb.mono hE.below.size), fun i' t' hi' hd' ht' => ?_⟩⟩⟩
          · rcases (done_set (by omega)).1 hd' with h | h
            · omega
            · exact hE.later i' hi' h
          · rw [done_set (by omega)]
            rcases (done_set (by omega)).1 hd' with h | h
            · subst h; exact .inr (h3 k0 hk0)
            · exact .inr (hE.closed i' k0 h hk0)
          · by_cases hii : i' = i
            · subst hii
              have : t' = t := by
                unfold dstOf at ht'; rw [ho] at ht'; exact Option.some.inj (ht'.symm.trans ht)
              subst this; rw [setV_same]; exact hp
            · rcases (done_set (by omega)).1 hd' with h | h
              · exact absurd h hii
              · rw [setV_other (fun e => hne i' hi' hii (by rw [ht', e]))]
                exact stable i' _ w w' hi' (hE.posts i' t' hi' h ht') hb
        · have him2 : i = m := by
            rcases Nat.lt_or_ge m i with h | h
            · rcases hs.late i m (by omega) h1 h with h4 | h4
              · omega
              · exact absurd (h3 m h4) (hE.later m (Nat.le_refl _))
            · omega
          subst him2; have hall := all_early hs hE.closed h3
          exact late i _ w (Nat.le_refl _) (by omega) (fun i' => ⟨fun h => by
            rcases Nat.lt_or_ge i' i with h' | h'
            · exact h'
            · exact absurd h (hE.later i' h'), fun h => hall i' h⟩) (last q w hE.below fun i' t' hi' ht' => hE.posts i' t' hi' (hall i' hi') ht')
      · exact late j a w hj1 hj2 hd hw
  · unfold leftA
    simp
  · have hnd : ∀ i, ¬ doneAt (Array.replicate ops.size false) i := fun i h => by
      unfold doneAt at h; rw [Array.getElem?_replicate] at h
      split at h <;> cases h
    exact ⟨by simp, fun i _ => hnd i, fun i _ h => absurd h (hnd i), hb0, fun i _ _ h => absurd h (hnd i)⟩
end
theorem op_val {P : Program} {o : Oper} {a : Act} {w w' : World} {v : Value} {post : Value -> World -> Prop} {Q : Exit -> Act -> World -> Prop} (hr : (execOp a.eval o).run P w = .ok (.value v) w') (hb : Below w.heap.size w w') (hp : post v w') : Oper.wp P o a w (fun a' w' => ∃ v, a' = a.put o.dst v /\ Below w.heap.size w w' /\ post v w') Q := by
 unfold Oper.wp; rw [hr]; exact ⟨v, rfl, hb, hp⟩
theorem op_call {P : Program} {o : Oper} {a : Act} {w : World} {f : FuncId} {args : Array Value} {post : Value -> World -> Prop} {Q : Exit -> Act -> World -> Prop} (hr : (execOp a.eval o).run P w = .ok (.enter f args) w) (hc : Calls P f args w fun e w' => ∃ v, e = .returned v /\ Below w.heap.size w w' /\ post v w') : Oper.wp P o a w (fun a' w' => ∃ v, a' = a.put o.dst v /\ Below w.heap.size w w' /\ post v w') Q := by
 unfold Oper.wp; rw [hr]; refine hc.mono ?_
 rintro e w' ⟨v, rfl, hb, hp⟩
 exact ⟨v, rfl, hb, hp⟩
theorem op_atR {P : Program} {ops : Array Oper} {Q : Exit -> Act -> World -> Prop} {i : Nat} {K : Act -> World -> Prop} {a : Act} {w : World} {o : Oper} (ho : ops[i]? = some o) (hg : o.guard = none) (h : o.wp P a w K Q) : wpOp P ops Q i K a w := by
 unfold wpOp; rw [ho]
 show if Region.wanted o (yielded ops a.tmps) = true then _ else _
 rw [if_pos (by unfold Region.wanted; rw [hg])]
 exact .inl h
theorem late_put {a : Act} {ds : List Nat} {q : Nat -> Value} {o : Oper} {v : Value} (t : Nat) (hd : o.dst = some t) (hc : ds.contains t = true) : (frm a ds q).put o.dst v = frm a ds (setV q t v) := by rw [hd, frm_put hc]
theorem op_run {P : Program} {o : Oper} {a : Act} {w w' : World} {v : Value} {K : Act -> World -> Prop} {Q : Exit -> Act -> World -> Prop} (hr : (execOp a.eval o).run P w = .ok (.value v) w') (h : K (a.put o.dst v) w') : Oper.wp P o a w K Q := by
 unfold Oper.wp; rw [hr]; exact h
theorem op_skip {P : Program} {o : Oper} {a : Act} {w w' : World} {K : Act -> World -> Prop} {Q : Exit -> Act -> World -> Prop} (hd : o.dst = none) (hr : (execOp a.eval o).run P w = .ok .skip w') (h : K a w') : Oper.wp P o a w K Q := by
 unfold Oper.wp; rw [hr]
 show K (a.put o.dst undef) w'
 rw [hd]; exact h
end Go.Proofs.YteejnjcdfmedlaaGreatDoor
namespace Go.Proofs.YteejnjcdfmedlaaGreatDoor
open Go.ChangeShapes Go.WideShapes Go.ChangeAt Go.RowKit Go.Deep
open Terms
set_option maxHeartbeats 6400000
set_option maxRecDepth 20000
def clmTo (a : List Int) (h : Nat -> Nat -> Bool) (j : Nat) : Nat -> Int
 | 0 => 0
 | k + 1 => clmTo a h j k + if h (a.getD k 0).toNat j = true then 2 ^ k else 0
theorem clmTo_bounds (a : List Int) (h : Nat -> Nat -> Bool) (j : Nat) : ∀ k, 0 <= clmTo a h j k /\ clmTo a h j k < 2 ^ k := by
 intro k
 induction k with
 | zero => simp [clmTo]
 | succ k ih =>
  have h2 : (0 : Int) < 2 ^ k := Int.pow_pos (by decide)
  simp only [clmTo]; rw [Int.pow_succ]
  split <;> omega
end Go.Proofs.YteejnjcdfmedlaaGreatDoor
namespace Go.Proofs.YteejnjcdfmedlaaGreatDoor
open Terms
set_option maxHeartbeats 6400000
set_option maxRecDepth 20000
theorem bit_clm (a : List Int) (h : Nat -> Nat -> Bool) (j : Nat) : ∀ n k, k < n -> bitB (clmTo a h j n) k = h (a.getD k 0).toNat j := by
 intro n
 induction n with
 | zero => intro k hk; omega
 | succ n ih =>
  intro k hk; obtain ⟨b0, b1⟩ := clmTo_bounds a h j n; have hp : (0 : Int) < 2 ^ k := Int.pow_pos (by decide)
  by_cases e : k = n
  ·subst e
   have e1 : clmTo a h j (k + 1) = clmTo a h j k + if h (a.getD k 0).toNat j = true then 2 ^ k else 0 := rfl
   by_cases hb : h (a.getD k 0).toNat j = true
   ·rw [if_pos hb] at e1
    have : (clmTo a h j k + 2 ^ k) / 2 ^ k = 1 := by
     rw [show clmTo a h j k + 2 ^ k = clmTo a h j k + 1 * 2 ^ k by omega, Int.add_mul_ediv_right _ _ (by omega), Int.ediv_eq_zero_of_lt b0 b1]
     rfl
    rw [hb, e1]; unfold bitB; rw [this]; rfl
   ·rw [if_neg hb, Int.add_zero] at e1
    rw [e1, Bool.eq_false_iff.2 hb]; unfold bitB; rw [Int.ediv_eq_zero_of_lt b0 b1]; rfl
  ·have hkn : k < n := by omega
   rw [<- ih k hkn]; have e1 : clmTo a h j (n + 1) = clmTo a h j n + if h (a.getD n 0).toNat j = true then 2 ^ n else 0 := rfl
   by_cases hb : h (a.getD n 0).toNat j = true
   ·rw [if_pos hb] at e1
    obtain ⟨d, hd⟩ : ∃ d, n = k + 1 + d := ⟨n - (k + 1), by omega⟩
    have e2 : (2 : Int) ^ n = (2 * 2 ^ d) * 2 ^ k := by rw [hd, Int.pow_add, Int.pow_succ]; simp [Int.mul_comm, Int.mul_left_comm, Int.mul_assoc]
    have e3 : clmTo a h j (n + 1) / 2 ^ k % 2 = clmTo a h j n / 2 ^ k % 2 := by
     rw [e1, e2, Int.add_mul_ediv_right _ _ (by omega)]
     omega
    unfold bitB; rw [e3]
   ·rw [if_neg hb, Int.add_zero] at e1
    rw [e1]
theorem op_at {T : Tm} {l : List (Int × Int)} (ho : T.ops = l) {q : Nat} (hq : q < T.size) : l.getD q (0, 0) = ((T.sub q).kind, (T.sub q).val) := by
 obtain ⟨r, hr⟩ := Tm.sub_drop T q hq; rw [ho] at hr; have h0 : l.getD q (0, 0) = (l.drop q).getD 0 (0, 0) := by simp [List.getD_eq_getElem?_getD]
 rw [h0, hr, <- Tm.ops_head (T.sub q) (0, 0)]; have hne := Tm.ops_ne (T.sub q)
 cases hx : (T.sub q).ops with
 | nil => exact absurd hx hne
 | cons x s => simp
theorem sub_one {T : Tm} {q : Nat} {k v : Int} {a : Tm} (hq : q < T.size) (e : T.sub q = .un k v a) : T.sub (q + 1) = a := by
 have := Tm.sub_sub T q 1 hq (by rw [e]; have := a.size_pos; simp [Tm.size]; omega)
 rw [this, e]; exact Tm.sub_zero a
theorem sub_fst {T : Tm} {q : Nat} {k v : Int} {a b : Tm} (hq : q < T.size) (e : T.sub q = .bi k v a b) : T.sub (q + 1) = a := by
 have ha := a.size_pos; have := Tm.sub_sub T q 1 hq (by rw [e]; simp [Tm.size]; omega)
 rw [this, e]
 show (if 0 < a.size then a.sub 0 else b.sub (0 - a.size)) = a
 rw [if_pos (by omega), Tm.sub_zero]
theorem sub_snd {T : Tm} (hw : T.Wf) {l : List (Int × Int)} (ho : T.ops = l) {q : Nat} {k v : Int} {a b : Tm} (hq : q < T.size) (e : T.sub q = .bi k v a b) : T.sub (sec l q) = b := by
 have ha := a.size_pos; have hb := b.size_pos; have hf := Tm.sub_fits T hq; rw [e] at hf; simp only [Tm.size] at hf; have h1 := (Tm.end_at hw (q := q + 1) (by omega)).1
 rw [ho, sub_fst hq e] at h1; have hs : sec l q = q + (1 + a.size) := by unfold sec; rw [h1]; omega
 rw [hs, Tm.sub_sub T q (1 + a.size) hq (by rw [e]; simp only [Tm.size]; omega), e, show 1 + a.size = a.size + 1 by omega]
 show (if a.size < a.size then a.sub a.size else b.sub (a.size - a.size)) = b
 rw [if_neg (by omega), Nat.sub_self, Tm.sub_zero]
theorem line_tru {T : Tm} (hw : T.Wf) {l : List (Int × Int)} (ho : T.ops = l) (hz : endsCode (l.map Prod.fst) = 0) (σ : Nat -> Nat -> Bool) (letter : List Bool) (i : Nat) (hl : ∀ v : Int, 0 <= v -> letter.getD v.toNat false = σ i v.toNat) (hv : ∀ q, q < l.length -> (l.getD q (0, 0)).1 = 13 -> 0 <= (l.getD q (0, 0)).2) (h8 : ∀ q, q < l.length -> 8 <= (l.getD q (0, 0)).1) :
  ∀ d p, l.length <= p + d -> p < l.length -> tru l letter (clmTo (aheadL l) (fun q => (T.sub q).hb σ) i (aheadL l).length) p = (T.sub p).hb σ i := by
 have hsz : T.size = l.length := by rw [<- Tm.ops_length, ho]
 intro d
 induction d with
 | zero => intro p h1 h2; omega
 | succ d ih =>
  intro p h1 h2; have hq : p < T.size := by omega
  have hop := op_at ho hq; obtain ⟨q1, q2⟩ := part_in hz h2
  cases hb : lookB (l.getD p (0, 0)).1 with
  | true =>
   rw [tru_look h2 hb]
   have hlt : (aheadTo l p).length < (aheadL l).length := by
    have := aheadTo_mono l (p := p + 1) (n := l.length) (by omega)
    rw [aheadTo_yes hb, List.length_append] at this; exact this
   rw [bit_clm _ _ _ _ _ hlt]; obtain ⟨p', e1, e2, e3, e4⟩ := aheadTo_get l l.length (aheadTo l p).length hlt; have e1' : (aheadL l).getD (aheadTo l p).length 0 = (p' : Int) := e1; rw [e1']
   have : p' = p := by
    rcases Nat.lt_trichotomy p' p with h | h | h
    ·have := aheadTo_mono l (p := p' + 1) (n := p) (by omega)
     rw [aheadTo_yes e3, List.length_append] at this; simp at this; omega
    ·exact h
    ·have := aheadTo_mono l (p := p + 1) (n := p') (by omega)
     rw [aheadTo_yes hb, List.length_append] at this; simp at this; omega
   rw [this]; rfl
  | false =>
   rw [tru_mk h2 hb (fun h => (q2 h).1)]
   have hwf := Tm.sub_wf hw p; rw [hop] at hb q1 q2 ⊢; have hvp := hv p h2; rw [hop] at hvp
   cases hT : T.sub p with
   | leaf k v =>
    rw [hT] at hb hvp hwf; simp only [Tm.kind, Tm.val] at hb hvp ⊢; unfold mkB
    by_cases k13 : k = 13
    ·subst k13
     rw [if_pos rfl, Tm.hb_prop]; exact hl v (hvp rfl)
    ·by_cases k11 : k = 11
     ·subst k11
      rw [Tm.hb_yes]; rfl
     ·rw [Tm.hb_no _ _ _ k13 k11]
      have hpn : pn k = 0 := hwf.2; have k8 : k ≠ 8 := fun e => by rw [e] at hpn; exact absurd hpn (by decide)
      have k9 : k ≠ 9 := fun e => by rw [e] at hpn; exact absurd hpn (by decide)
      have k10 : k ≠ 10 := fun e => by rw [e] at hpn; exact absurd hpn (by decide)
      simp [k13, k11, k8, k9, k10]
   | un k v a =>
    have hs1 := sub_one hq hT; rw [hT] at hb hwf q1; simp only [Tm.kind, Tm.val] at hb q1 ⊢; have hpn : pn k = 1 := hwf.2.1; have hok : okK k = true := hwf.1
    have hk : k = 10 := by
     have h14 : ¬ (14 <= k /\ k <= 18) := by simpa [lookB] using hb
     unfold pn at hpn
     split at hpn
     ·omega
     ·split at hpn <;> omega
    subst hk; rw [ih (p + 1) (by omega) (q1 (by rw [hpn]; exact Nat.le_refl _)), hs1, Tm.hb_not]
    rfl
   | bi k v a b =>
    have hs1 := sub_fst hq hT; have hs2 := sub_snd hw ho hq hT; have h8p := h8 p h2; rw [hop, hT] at h8p; rw [hT] at hb hwf q1 q2; simp only [Tm.kind, Tm.val] at hb q1 q2 ⊢; have hpn : pn k = 2 := hwf.2.1; rw [ih (p + 1) (by omega) (q1 (by omega)), ih (sec l p) (by have := (q2 hpn).1; omega) (q2 hpn).2, hs1, hs2]
    simp only [Tm.kind] at h8p
    have hk : k = 8 \/ k = 9 := by
     have h14 : ¬ (14 <= k /\ k <= 18) := by simpa [lookB] using hb
     unfold pn at hpn
     split at hpn
     ·omega
     ·split at hpn <;> omega
    rcases hk with rfl | rfl
    ·rw [Tm.hb_and]; rfl
    ·rw [Tm.hb_or]; rfl
theorem kind_cases {k : Int} (h : lookB k = true) : k = 14 \/ k = 15 \/ k = 16 \/ k = 17 \/ k = 18 := by
 have : 14 <= k /\ k <= 18 := by simpa [lookB] using h
 omega
theorem look_parts {T : Tm} (hw : T.Wf) {l : List (Int × Int)} (ho : T.ops = l) {p : Nat} (hp : p < l.length) (hb : lookB (l.getD p (0, 0)).1 = true) :
  (∃ k v a, (k = 14 \/ k = 17 \/ k = 18) /\ (l.getD p (0, 0)).1 = k /\ T.sub p = .un k v a /\ T.sub (p + 1) = a) \/ (∃ k v a b, (k = 15 \/ k = 16) /\ (l.getD p (0, 0)).1 = k /\ T.sub p = .bi k v a b /\ T.sub (p + 1) = a /\ T.sub (sec l p) = b) := by
 have hsz : T.size = l.length := by rw [<- Tm.ops_length, ho]
 have hq : p < T.size := by omega
 have hop := op_at ho hq; have hwf := Tm.sub_wf hw p; have hk := kind_cases hb; rw [hop] at hk ⊢
 cases hT : T.sub p with
 | leaf k v =>
  rw [hT] at hk hwf; have hpn : pn k = 0 := hwf.2; simp only [Tm.kind] at hk
  exfalso
  rcases hk with rfl | rfl | rfl | rfl | rfl <;> exact absurd hpn (by decide)
 | un k v a =>
  have h1 := sub_one hq hT; rw [hT] at hk hwf; have hpn : pn k = 1 := hwf.2.1; simp only [Tm.kind] at hk ⊢
  left
  refine ⟨k, v, a, ?_, rfl, rfl, h1⟩
  rcases hk with rfl | rfl | rfl | rfl | rfl
  ·exact .inl rfl
  ·exact absurd hpn (by decide)
  ·exact absurd hpn (by decide)
  ·exact .inr (.inl rfl)
  ·exact .inr (.inr rfl)
 | bi k v a b =>
  have h1 := sub_fst hq hT; have h2 := sub_snd hw ho hq hT; rw [hT] at hk hwf; have hpn : pn k = 2 := hwf.2.1; simp only [Tm.kind] at hk ⊢
  right
  refine ⟨k, v, a, b, ?_, rfl, rfl, h1, h2⟩
  rcases hk with rfl | rfl | rfl | rfl | rfl
  ·exact absurd hpn (by decide)
  ·exact .inl rfl
  ·exact .inr rfl
  ·exact absurd hpn (by decide)
  ·exact absurd hpn (by decide)
theorem line_come {T : Tm} (hw : T.Wf) {l : List (Int × Int)} (ho : T.ops = l) (σ : Nat -> Nat -> Bool) {p : Nat} (hp : p < l.length) (hb : lookB (l.getD p (0, 0)).1 = true) (i : Nat) :
  (T.sub p).hb σ i = comeB (l.getD p (0, 0)).1 ((T.sub (p + 1)).hb σ i) ((T.sub (sec l p)).hb σ i) ((T.sub p).hb σ (i + 1)) ((T.sub (p + 1)).hb σ (i + 1)) := by
 rcases look_parts hw ho hp hb with ⟨k, v, a, hk, e1, e2, e3⟩ | ⟨k, v, a, b, hk, e1, e2, e3, e4⟩
 ·rw [e1, e2, e3]
  rcases hk with rfl | rfl | rfl
  ·rw [Tm.hb_next]; rfl
  ·rw [Tm.hb_fin, untB_step, <- Tm.hb_fin σ v]; simp [comeB]
  ·rw [Tm.hb_glob, untB_step, <- Tm.hb_glob σ v]; simp [comeB]
 ·rw [e1, e2, e3, e4]
  rcases hk with rfl | rfl
  ·rw [Tm.hb_until, untB_step, <- Tm.hb_until σ v]; rfl
  ·rw [Tm.hb_rel, untB_step, <- Tm.hb_rel σ v]
   show (_ || _) = (_ && (_ || _))
   cases Tm.hb σ a i <;> cases Tm.hb σ b i <;> simp
theorem line_meets {T : Tm} (hw : T.Wf) {l : List (Int × Int)} (ho : T.ops = l) {ls : List (List Bool)} {s : Nat} (hs : s < ls.length) {p : Nat} (hp : p < l.length) (hb : lookB (l.getD p (0, 0)).1 = true) :
  ∃ i, s <= i /\ i < ls.length /\ waitB (l.getD p (0, 0)).1 ((T.sub p).hb (sig ls s) i) ((T.sub (p + 1)).hb (sig ls s) i) ((T.sub (sec l p)).hb (sig ls s) i) = false := by
 refine Classical.byContradiction fun hno => ?_
 have hall : ∀ i, s <= i -> waitB (l.getD p (0, 0)).1 ((T.sub p).hb (sig ls s) i) ((T.sub (p + 1)).hb (sig ls s) i) ((T.sub (sec l p)).hb (sig ls s) i) = true := fun i hi => by
  have hm : s <= moAt s ls.length i /\ moAt s ls.length i < ls.length := ⟨by unfold moAt; split <;> omega, moAt_lt hs⟩
  refine Classical.byContradiction fun hf => hno ⟨moAt s ls.length i, hm.1, hm.2, ?_⟩
  rw [hb_mo hs, hb_mo hs, hb_mo hs]; exact Bool.eq_false_iff.2 hf
 rcases look_parts hw ho hp hb with ⟨k, v, a, hk, e1, e2, e3⟩ | ⟨k, v, a, b, hk, e1, e2, e3, e4⟩
 ·rw [e1, e2, e3] at hall
  rcases hk with rfl | rfl | rfl
  ·exact absurd (hall s (Nat.le_refl _)) (by simp [waitB])
  ·have h1 : ∀ i, s <= i -> Tm.hb (sig ls s) (.un 17 v a) i = true /\ Tm.hb (sig ls s) a i = false := fun i hi => by simpa [waitB] using hall i hi
   have h0 := (h1 s (Nat.le_refl _)).1; rw [Tm.hb_fin, untB_iff] at h0
   rcases h0 with ⟨j, hj, hu, _⟩ | ⟨hd, _⟩
   ·rw [(h1 j hj).2] at hu; cases hu
   ·cases hd
  ·have h1 : ∀ i, s <= i -> Tm.hb (sig ls s) (.un 18 v a) i = false /\ Tm.hb (sig ls s) a i = true := fun i hi => by simpa [waitB] using hall i hi
   have h0 := (h1 s (Nat.le_refl _)).1
   have : Tm.hb (sig ls s) (.un 18 v a) s = true := by
    rw [Tm.hb_glob, untB_iff]; exact .inr ⟨rfl, fun m hm => (h1 m hm).2⟩
   rw [this] at h0; cases h0
 ·rw [e1, e2, e3, e4] at hall
  rcases hk with rfl | rfl
  ·have h1 : ∀ i, s <= i -> Tm.hb (sig ls s) (.bi 15 v a b) i = true /\ Tm.hb (sig ls s) b i = false := fun i hi => by simpa [waitB] using hall i hi
   have h0 := (h1 s (Nat.le_refl _)).1; rw [Tm.hb_until, untB_iff] at h0
   rcases h0 with ⟨j, hj, hu, _⟩ | ⟨hd, _⟩
   ·rw [(h1 j hj).2] at hu; cases hu
   ·cases hd
  ·have h1 : ∀ i, s <= i -> Tm.hb (sig ls s) (.bi 16 v a b) i = false /\ Tm.hb (sig ls s) b i = true := fun i hi => by simpa [waitB] using hall i hi
   have h0 := (h1 s (Nat.le_refl _)).1
   have : Tm.hb (sig ls s) (.bi 16 v a b) s = true := by
    rw [Tm.hb_rel, untB_iff]; exact .inr ⟨rfl, fun m hm => (h1 m hm).2⟩
   rw [this] at h0; cases h0
theorem const_from {t : Nat -> Bool} {i j : Nat} (h : ∀ m, i <= m -> m < j -> t m = t (m + 1)) : ∀ m, i <= m -> m <= j -> t i = t m := by
 intro m
 induction m with
 | zero => intro h1 _; rw [Nat.le_zero.1 h1]
 | succ m ih =>
  intro h1 h2
  by_cases e : i = m + 1
  ·rw [e]
  ·rw [ih (by omega) (by omega), h m (by omega) (by omega)]
theorem unt_unique {u v t : Nat -> Bool} (d : Bool) (hst : ∀ i, t i = (u i || (v i && t (i + 1)))) (i : Nat) : t i = untB u v d i \/ ∀ m, i <= m -> u m = false /\ v m = true /\ t m = !d := by
  by_cases hex : ∃ j, i <= j /\ (u j = true \/ v j = false)
  · left
    obtain ⟨j0, h0, h1⟩ := hex; obtain ⟨j, hj, hp, hless⟩ := Tm.least (P := fun j => u j = true \/ v j = false) i j0 h0 h1
    have hmid : ∀ m, i <= m -> m < j -> u m = false /\ v m = true := fun m a b => by
      have := hless m a b
      constructor
      · exact Bool.eq_false_iff.2 fun e => this (.inl e)
      · exact Classical.byContradiction fun e => this (.inr (Bool.eq_false_iff.2 e))
    have h1 := const_from (t := t) (i := i) (j := j) (fun m a b => by have := hmid m a b; rw [hst m, this.1, this.2]; simp) j hj (Nat.le_refl _)
    have h2 := const_from (t := untB u v d) (i := i) (j := j) (fun m a b => by have := hmid m a b; rw [untB_step u v d m, this.1, this.2]; simp) j hj (Nat.le_refl _)
    rw [h1, h2, hst j, untB_step]
    rcases hp with h | h
    · rw [h]; simp
    · rw [h]; simp
  · have hall : ∀ m, i <= m -> u m = false /\ v m = true := fun m hm => by
      constructor
      · exact Bool.eq_false_iff.2 fun e => hex ⟨m, hm, .inl e⟩
      · exact Classical.byContradiction fun e => hex ⟨m, hm, .inr (Bool.eq_false_iff.2 e)⟩
    have hc : ∀ m, i <= m -> t i = t m := fun m hm => const_from (t := t) (i := i) (j := m) (fun k a _ => by have := hall k a; rw [hst k, this.1, this.2]; simp) m hm (Nat.le_refl _)
    by_cases e : t i = d
    · left
      rw [e, unt_stuck (u := u) (v := v) (d := d) hall]
    · right
      intro m hm; refine ⟨(hall m hm).1, (hall m hm).2, ?_⟩
      rw [<- hc m hm]; generalize t i = x at e
      cases d <;> cases x <;> first | rfl | exact absurd rfl e
theorem line_only {T : Tm} (hw : T.Wf) {l : List (Int × Int)} (ho : T.ops = l) (hz : endsCode (l.map Prod.fst) = 0) {ls : List (List Bool)} {s : Nat} (hs : s < ls.length) (t : Nat -> Nat -> Bool)
  (hper : ∀ i p, t (moAt s ls.length i) p = t i p)
  (hmk : ∀ i p, p < l.length -> lookB (l.getD p (0, 0)).1 = false -> (1 <= pn (l.getD p (0, 0)).1 -> t i (p + 1) = (T.sub (p + 1)).hb (sig ls s) i) -> (pn (l.getD p (0, 0)).1 = 2 -> t i (sec l p) = (T.sub (sec l p)).hb (sig ls s) i) -> t i p = (T.sub p).hb (sig ls s) i)
  (hfol : ∀ i p, p < l.length -> lookB (l.getD p (0, 0)).1 = true -> t i p = comeB (l.getD p (0, 0)).1 (t i (p + 1)) (t i (sec l p)) (t (i + 1) p) (t (i + 1) (p + 1)))
  (hmet : ∀ p, p < l.length -> lookB (l.getD p (0, 0)).1 = true -> ∃ i, s <= i /\ i < ls.length /\ waitB (l.getD p (0, 0)).1 (t i p) (t i (p + 1)) (t i (sec l p)) = false) :
  ∀ d p, l.length <= p + d -> p < l.length -> ∀ i, t i p = (T.sub p).hb (sig ls s) i := by
 intro d
 induction d with
 | zero => intro p h1 h2; omega
 | succ d ih =>
  intro p h1 h2 i; obtain ⟨q1, q2⟩ := part_in hz h2
  cases hb : lookB (l.getD p (0, 0)).1 with
  | false => exact hmk i p h2 hb (fun h => ih (p + 1) (by omega) (q1 h) i) (fun h => ih (sec l p) (by have := (q2 h).1; omega) (q2 h).2 i)
  | true =>
   have hnw : ∀ c, (∀ m, c <= m -> waitB (l.getD p (0, 0)).1 (t m p) (t m (p + 1)) (t m (sec l p)) = true) -> False := fun c hall => by
    obtain ⟨i0, a1, a2, a3⟩ := hmet p h2 hb
    have hj : moAt s ls.length (i0 + c * (ls.length - s)) = i0 := by
     unfold moAt
     split
     ·rename_i hlt
      have : c * (ls.length - s) = 0 := by
       rcases Nat.eq_zero_or_pos c with h | h
       ·rw [h, Nat.zero_mul]
       ·have : ls.length - s <= c * (ls.length - s) := Nat.le_mul_of_pos_left _ h
        omega
      omega
     ·rw [show i0 + c * (ls.length - s) - s = (i0 - s) + c * (ls.length - s) by omega, Nat.add_mul_mod_self_right, Nat.mod_eq_of_lt (by omega)]
      omega
    have hle : c <= i0 + c * (ls.length - s) := by
     have : c * 1 <= c * (ls.length - s) := Nat.mul_le_mul_left _ (by omega)
     omega
    have := hall _ hle; rw [<- hper (i0 + c * (ls.length - s)) p, <- hper (i0 + c * (ls.length - s)) (p + 1), <- hper (i0 + c * (ls.length - s)) (sec l p), hj, a3] at this
    cases this
   rcases look_parts hw ho h2 hb with ⟨k, v, a, hk, e1, e2, e3⟩ | ⟨k, v, a, b, hk, e1, e2, e3, e4⟩
   ·have hp1 : p + 1 < l.length := q1 (by rw [e1]; rcases hk with rfl | rfl | rfl <;> decide)
    have ha : ∀ i, t i (p + 1) = Tm.hb (sig ls s) a i := fun i => by rw [ih (p + 1) (by omega) hp1 i, e3]
    have hf := fun i => hfol i p h2 hb
    rw [e1] at hnw; rw [e2]
    rcases hk with rfl | rfl | rfl
    ·have := hf i
     rw [e1] at this; rw [this, Tm.hb_next, <- ha]; rfl
    ·rw [Tm.hb_fin]
     rcases unt_unique (u := Tm.hb (sig ls s) a) (v := fun _ => true) (t := fun i => t i p) false (fun i => by show t i p = _; rw [hf i, e1, ha]; rfl) i with h | h
     ·exact h
     ·exact (hnw i fun m hm => by have := h m hm; rw [ha, this.1, this.2.2]; rfl).elim
    ·rw [Tm.hb_glob]
     rcases unt_unique (u := fun _ => false) (v := Tm.hb (sig ls s) a) (t := fun i => t i p) true (fun i => by show t i p = _; rw [hf i, e1, ha]; simp [comeB]) i with h | h
     ·exact h
     ·exact (hnw i fun m hm => by have := h m hm; rw [ha, this.2.1, this.2.2]; rfl).elim
   ·have hp2 : pn (l.getD p (0, 0)).1 = 2 := by rw [e1]; rcases hk with rfl | rfl <;> rfl
    have hp1 : p + 1 < l.length := q1 (by omega)
    have ha : ∀ i, t i (p + 1) = Tm.hb (sig ls s) a i := fun i => by rw [ih (p + 1) (by omega) hp1 i, e3]
    have hbb : ∀ i, t i (sec l p) = Tm.hb (sig ls s) b i := fun i => by rw [ih (sec l p) (by have := (q2 hp2).1; omega) (q2 hp2).2 i, e4]
    have hf := fun i => hfol i p h2 hb
    rw [e1] at hnw; rw [e2]
    rcases hk with rfl | rfl
    ·rw [Tm.hb_until]
     rcases unt_unique (u := Tm.hb (sig ls s) b) (v := Tm.hb (sig ls s) a) (t := fun i => t i p) false (fun i => by show t i p = _; rw [hf i, e1, ha, hbb]; rfl) i with h | h
     ·exact h
     ·exact (hnw i fun m hm => by have := h m hm; rw [hbb, this.1, this.2.2]; cases t m (p + 1) <;> rfl).elim
    ·rw [Tm.hb_rel]
     rcases unt_unique (u := fun j => Tm.hb (sig ls s) a j && Tm.hb (sig ls s) b j) (v := Tm.hb (sig ls s) b) (t := fun i => t i p) true (fun i => by show t i p = _; rw [hf i, e1, ha, hbb]; show (_ && (_ || _)) = (_ || _); cases Tm.hb (sig ls s) a i <;> cases Tm.hb (sig ls s) b i <;> simp) i with h | h
     ·exact h
     ·exact (hnw i fun m hm => by have := h m hm; rw [hbb, this.2.1, this.2.2]; cases t m (p + 1) <;> rfl).elim
theorem mk_hb {T : Tm} (hw : T.Wf) {l : List (Int × Int)} (ho : T.ops = l) (σ : Nat -> Nat -> Bool) (letter : List Bool) (i : Nat) (hl : ∀ v : Int, 0 <= v -> letter.getD v.toNat false = σ i v.toNat) (hv : ∀ q, q < l.length -> (l.getD q (0, 0)).1 = 13 -> 0 <= (l.getD q (0, 0)).2) (h8 : ∀ q, q < l.length -> 8 <= (l.getD q (0, 0)).1) {p : Nat} (h2 : p < l.length) (hb : lookB (l.getD p (0, 0)).1 = false) {x y : Bool} (hx1 : 1 <= pn (l.getD p (0, 0)).1 -> x = (T.sub (p + 1)).hb σ i) (hx2 : pn (l.getD p (0, 0)).1 = 2 -> y = (T.sub (sec l p)).hb σ i) : mkB (l.getD p (0, 0)) letter x y = (T.sub p).hb σ i := by
 have hsz : T.size = l.length := by rw [<- Tm.ops_length, ho]
 have hq : p < T.size := by omega
 have hop := op_at ho hq; have hwf := Tm.sub_wf hw p; rw [hop] at hb hx1 hx2 ⊢; have hvp := hv p h2; rw [hop] at hvp
 cases hT : T.sub p with
 | leaf k v =>
  rw [hT] at hb hvp hwf; simp only [Tm.kind, Tm.val] at hb hvp ⊢; unfold mkB
  by_cases k13 : k = 13
  ·subst k13
   rw [if_pos rfl, Tm.hb_prop]; exact hl v (hvp rfl)
  ·by_cases k11 : k = 11
   ·subst k11
    rw [Tm.hb_yes]; rfl
   ·rw [Tm.hb_no _ _ _ k13 k11]
    have hpn : pn k = 0 := hwf.2; have k8 : k ≠ 8 := fun e => by rw [e] at hpn; exact absurd hpn (by decide)
    have k9 : k ≠ 9 := fun e => by rw [e] at hpn; exact absurd hpn (by decide)
    have k10 : k ≠ 10 := fun e => by rw [e] at hpn; exact absurd hpn (by decide)
    simp [k13, k11, k8, k9, k10]
 | un k v a =>
  have hs1 := sub_one hq hT; rw [hT] at hb hwf hx1; simp only [Tm.kind, Tm.val] at hb hx1 ⊢; have hpn : pn k = 1 := hwf.2.1; have hok : okK k = true := hwf.1
  have hk : k = 10 := by
   have h14 : ¬ (14 <= k /\ k <= 18) := by simpa [lookB] using hb
   unfold pn at hpn
   split at hpn
   ·omega
   ·split at hpn <;> omega
  subst hk; rw [hx1 (by rw [hpn]; exact Nat.le_refl _), hs1, Tm.hb_not]
  rfl
 | bi k v a b =>
  have hs1 := sub_fst hq hT; have hs2 := sub_snd hw ho hq hT; have h8p := h8 p h2; rw [hop, hT] at h8p; rw [hT] at hb hwf hx1 hx2; simp only [Tm.kind, Tm.val] at hb hx1 hx2 ⊢; have hpn : pn k = 2 := hwf.2.1; rw [hx1 (by omega), hx2 hpn, hs1, hs2]
  simp only [Tm.kind] at h8p
  have hk : k = 8 \/ k = 9 := by
   have h14 : ¬ (14 <= k /\ k <= 18) := by simpa [lookB] using hb
   unfold pn at hpn
   split at hpn
   ·omega
   ·split at hpn <;> omega
  rcases hk with rfl | rfl
  ·rw [Tm.hb_and]; rfl
  ·rw [Tm.hb_or]; rfl
theorem bits_eq : ∀ (n : Nat) (x y : Int), 0 <= x -> x < 2 ^ n -> 0 <= y -> y < 2 ^ n -> (∀ k, k < n -> bitB x k = bitB y k) -> x = y := by
 intro n
 induction n with
 | zero => intro x y a b c d _; simp at b d; omega
 | succ n ih =>
  intro x y a b c d h; rw [Int.pow_succ] at b d; have h0 : bitB x 0 = bitB y 0 := h 0 (by omega)
  have e0 : x % 2 = y % 2 := by
   unfold bitB at h0; simp only [Int.pow_zero, Int.ediv_one] at h0; have hx : x % 2 = 0 \/ x % 2 = 1 := by omega
   have hy : y % 2 = 0 \/ y % 2 = 1 := by omega
   rcases hx with hx | hx <;> rcases hy with hy | hy
   ·rw [hx, hy]
   ·rw [hx, hy] at h0; simp at h0
   ·rw [hx, hy] at h0; simp at h0
   ·rw [hx, hy]
  have hh : x / 2 = y / 2 := ih (x / 2) (y / 2) (by omega) (by omega) (by omega) (by omega) fun k hk => by
   have := h (k + 1) (by omega)
   unfold bitB at this ⊢; rw [Int.pow_succ, Int.mul_comm, <- Int.ediv_ediv_of_nonneg (by decide), <- Int.ediv_ediv_of_nonneg (by decide)] at this
   exact this
  omega
theorem claims_only {T : Tm} (hw : T.Wf) {l : List (Int × Int)} (ho : T.ops = l) (hz : endsCode (l.map Prod.fst) = 0) (hv : ∀ q, q < l.length -> (l.getD q (0, 0)).1 = 13 -> 0 <= (l.getD q (0, 0)).2) (h8 : ∀ q, q < l.length -> 8 <= (l.getD q (0, 0)).1) {ls : List (List Bool)} {s : Nat} (hs : s < ls.length) (mine : Nat -> Int)
  (hm : ∀ i, i < ls.length -> 0 <= mine i /\ mine i < 2 ^ (aheadL l).length)
  (hfol : ∀ i, i < ls.length -> ∀ p, p < l.length -> lookB (l.getD p (0, 0)).1 = true -> tru l (ls.getD i []) (mine i) p = comeB (l.getD p (0, 0)).1 (tru l (ls.getD i []) (mine i) (p + 1)) (tru l (ls.getD i []) (mine i) (sec l p)) (tru l (ls.getD (moAt s ls.length (i + 1)) []) (mine (moAt s ls.length (i + 1))) p) (tru l (ls.getD (moAt s ls.length (i + 1)) []) (mine (moAt s ls.length (i + 1))) (p + 1)))
  (hmet : ∀ p, p < l.length -> lookB (l.getD p (0, 0)).1 = true -> ∃ i, s <= i /\ i < ls.length /\ waitB (l.getD p (0, 0)).1 (tru l (ls.getD i []) (mine i) p) (tru l (ls.getD i []) (mine i) (p + 1)) (tru l (ls.getD i []) (mine i) (sec l p)) = false) :
  ∀ i, i < ls.length -> mine i = clmTo (aheadL l) (fun q => (T.sub q).hb (sig ls s)) i (aheadL l).length := by
 have hmm : ∀ i, moAt s ls.length (moAt s ls.length i) = moAt s ls.length i := fun i => moAt_low (moAt_lt hs)
 have key := line_only hw ho hz hs (fun i p => tru l (ls.getD (moAt s ls.length i) []) (mine (moAt s ls.length i)) p)
  (fun i p => by simp only [hmm])
  (fun i p h2 hb hx1 hx2 => by
   obtain ⟨_, q2⟩ := part_in hz h2
   show tru _ _ _ _ = _
   rw [tru_mk h2 hb (fun h => (q2 h).1)]
   exact mk_hb hw ho (sig ls s) _ i (fun v _ => rfl) hv h8 h2 hb hx1 hx2)
  (fun i p h2 hb => by
   have := hfol (moAt s ls.length i) (moAt_lt hs) p h2 hb
   have e : moAt s ls.length (moAt s ls.length i + 1) = moAt s ls.length (i + 1) := by
    unfold moAt
    by_cases h : i < ls.length
    ·rw [if_pos h]
    ·rw [if_neg h, if_neg (show ¬ i + 1 < ls.length by omega)]
     have hL : 0 < ls.length - s := by omega
     have hr := Nat.mod_lt (i - s) hL; have e1 : i + 1 - s = (i - s) + 1 := by omega
     rw [e1, <- Nat.mod_add_mod]
     by_cases h3 : s + (i - s) % (ls.length - s) + 1 < ls.length
     ·rw [if_pos h3, Nat.mod_eq_of_lt (show (i - s) % (ls.length - s) + 1 < ls.length - s by omega)]; omega
     ·rw [if_neg h3, show s + (i - s) % (ls.length - s) + 1 - s = (i - s) % (ls.length - s) + 1 by omega]
   rw [e] at this
   exact this)
  (fun p h2 hb => by
   obtain ⟨i, a1, a2, a3⟩ := hmet p h2 hb
   exact ⟨i, a1, a2, by simp only [moAt_low a2]; exact a3⟩)
 intro i hi; obtain ⟨c0, c1⟩ := clmTo_bounds (aheadL l) (fun q => (T.sub q).hb (sig ls s)) i (aheadL l).length
 refine bits_eq _ _ _ (hm i hi).1 (hm i hi).2 c0 c1 fun k hk => ?_
 rw [bit_clm _ _ _ _ _ hk]; obtain ⟨p, e1, e2, e3, e4⟩ := aheadTo_get l l.length k hk; have e1' : (aheadL l).getD k 0 = (p : Int) := e1; have := key l.length p (by omega) e2 i
 simp only [moAt_low hi] at this; rw [tru_look e2 e3, e4] at this; rw [this, e1']; rfl
theorem claims_tru {T : Tm} (hw : T.Wf) {l : List (Int × Int)} (ho : T.ops = l) (hz : endsCode (l.map Prod.fst) = 0) (hv : ∀ q, q < l.length -> (l.getD q (0, 0)).1 = 13 -> 0 <= (l.getD q (0, 0)).2) (h8 : ∀ q, q < l.length -> 8 <= (l.getD q (0, 0)).1) {ls : List (List Bool)} {s : Nat} {i : Nat} (hi : i < ls.length) {p : Nat} (hp : p < l.length) :
  tru l (ls.getD i []) (clmTo (aheadL l) (fun q => (T.sub q).hb (sig ls s)) i (aheadL l).length) p = (T.sub p).hb (sig ls s) i :=
 line_tru hw ho hz (sig ls s) _ i (fun v _ => by unfold sig; rw [moAt_low hi]) hv h8 l.length p (by omega) hp
theorem claims_fit {T : Tm} (hw : T.Wf) {l : List (Int × Int)} (ho : T.ops = l) (hz : endsCode (l.map Prod.fst) = 0) (hv : ∀ q, q < l.length -> (l.getD q (0, 0)).1 = 13 -> 0 <= (l.getD q (0, 0)).2) (h8 : ∀ q, q < l.length -> 8 <= (l.getD q (0, 0)).1) {ls : List (List Bool)} {s : Nat} (hs : s < ls.length) (mine : Nat -> Int)
  (hm : ∀ i, i < ls.length -> mine i = clmTo (aheadL l) (fun q => (T.sub q).hb (sig ls s)) i (aheadL l).length) :
  (∀ i, i < ls.length -> ∀ p, p < l.length -> lookB (l.getD p (0, 0)).1 = true -> tru l (ls.getD i []) (mine i) p = comeB (l.getD p (0, 0)).1 (tru l (ls.getD i []) (mine i) (p + 1)) (tru l (ls.getD i []) (mine i) (sec l p)) (tru l (ls.getD (moAt s ls.length (i + 1)) []) (mine (moAt s ls.length (i + 1))) p) (tru l (ls.getD (moAt s ls.length (i + 1)) []) (mine (moAt s ls.length (i + 1))) (p + 1))) /\
  ∀ p, p < l.length -> lookB (l.getD p (0, 0)).1 = true -> ∃ i, s <= i /\ i < ls.length /\ waitB (l.getD p (0, 0)).1 (tru l (ls.getD i []) (mine i) p) (tru l (ls.getD i []) (mine i) (p + 1)) (tru l (ls.getD i []) (mine i) (sec l p)) = false := by
 have two : ∀ p, p < l.length -> lookB (l.getD p (0, 0)).1 = true -> p + 1 < l.length /\ ((l.getD p (0, 0)).1 = 15 \/ (l.getD p (0, 0)).1 = 16 -> sec l p < l.length) := fun p hp hb => by
  obtain ⟨q1, q2⟩ := part_in hz hp; have hk := kind_cases hb; generalize (l.getD p (0, 0)).1 = k at *; refine ⟨q1 (by rcases hk with rfl | rfl | rfl | rfl | rfl <;> decide), fun h => (q2 (by rcases h with rfl | rfl <;> rfl)).2⟩
 have sec_free : ∀ k (x y y' z nx : Bool), lookB k = true -> (k = 15 \/ k = 16 -> y = y') -> comeB k x y z nx = comeB k x y' z nx := fun k x y y' z nx hb h => by
  rcases kind_cases hb with rfl | rfl | rfl | rfl | rfl
  ·rfl
  ·rw [h (.inl rfl)]
  ·rw [h (.inr rfl)]
  ·rfl
  ·rfl
 have sec_free2 : ∀ k (a x y y' : Bool), lookB k = true -> (k = 15 \/ k = 16 -> y = y') -> waitB k a x y = waitB k a x y' := fun k a x y y' hb h => by
  rcases kind_cases hb with rfl | rfl | rfl | rfl | rfl
  ·rfl
  ·rw [h (.inl rfl)]
  ·rw [h (.inr rfl)]
  ·rfl
  ·rfl
 refine ⟨fun i hi p hp hb => ?_, fun p hp hb => ?_⟩
 ·obtain ⟨p1, p2⟩ := two p hp hb
  have hj := moAt_lt (s := s) (n := ls.length) (i := i + 1) hs; rw [hm i hi, hm _ hj, claims_tru hw ho hz hv h8 hi hp, claims_tru hw ho hz hv h8 hi p1, claims_tru hw ho hz hv h8 hj hp, claims_tru hw ho hz hv h8 hj p1, hb_mo hs, hb_mo hs]; rw [sec_free _ _ _ ((T.sub (sec l p)).hb (sig ls s) i) _ _ hb (fun h => claims_tru hw ho hz hv h8 hi (p2 h))]
  exact line_come hw ho (sig ls s) hp hb i
 ·obtain ⟨p1, p2⟩ := two p hp hb
  obtain ⟨i, a1, a2, a3⟩ := line_meets hw ho hs hp hb; refine ⟨i, a1, a2, ?_⟩
  rw [hm i a2, claims_tru hw ho hz hv h8 a2 hp, claims_tru hw ho hz hv h8 a2 p1, sec_free2 _ _ _ _ ((T.sub (sec l p)).hb (sig ls s) i) hb (fun h => claims_tru hw ho hz hv h8 a2 (p2 h))]
  exact a3
end Go.Proofs.YteejnjcdfmedlaaGreatDoor
namespace Go.Proofs.YteejnjcdfmedlaaGreatDoor
open Go.ChangeShapes Go.WideShapes Go.ChangeAt Go.RowKit Go.Deep
open Terms
set_option maxHeartbeats 6400000
set_option maxRecDepth 20000
theorem met_clm (l : List (Int × Int)) (h : Nat -> Bool) : ∀ k, metTo l h k = clmTo (aheadL l) (fun q _ => !waitAt l h q) 0 k := by
 intro k
 induction k with
 | zero => simp [metTo, clmTo]
 | succ k ih =>
  simp only [metTo, clmTo, ih]
  by_cases hw : waitAt l h ((aheadL l).getD k 0).toNat = true
  ·rw [if_pos hw, if_neg (by rw [hw]; decide)]
  ·rw [if_neg hw, if_pos (by rw [Bool.not_eq_true'] ; exact Bool.eq_false_iff.2 hw)]
theorem met_bit (l : List (Int × Int)) (h : Nat -> Bool) {n j : Nat} (hj : j < n) : bitB (metTo l h n) j = !waitAt l h ((aheadL l).getD j 0).toNat := by
 rw [met_clm, bit_clm _ _ _ _ _ hj]
theorem good_at {m : Nat} {x : List (Int × Int)} {T : Tm} (hF : FOk m x T) {q : Nat} (hq : q < x.length) : lopErr 3 (x.getD q (0, 0)) = 0 := hF.good _ (by rw [List.getD_eq_getElem?_getD, List.getElem?_eq_getElem hq, Option.getD_some]; exact List.getElem_mem hq)
theorem good_vals {m : Nat} {x : List (Int × Int)} {T : Tm} (hF : FOk m x T) : (∀ q, q < x.length -> (x.getD q (0, 0)).1 = 13 -> 0 <= (x.getD q (0, 0)).2) /\ ∀ q, q < x.length -> 8 <= (x.getD q (0, 0)).1 := by
 refine ⟨fun q hq h13 => ?_, fun q hq => ?_⟩
 ·have := good_at hF hq
  generalize x.getD q (0, 0) = o at *; unfold lopErr at this; obtain ⟨k, v⟩ := o; simp only at h13
  subst h13; simp at this ⊢
  omega
 ·have := good_at hF hq
  generalize x.getD q (0, 0) = o at *; unfold lopErr at this; obtain ⟨k, v⟩ := o; simp only at this ⊢
  by_cases h : k < 8
  ·exfalso
   revert this
   simp
   omega
  ·omega
theorem ahead_mono (l : List (Int × Int)) : ∀ (d n : Nat), ∃ r, aheadTo l (n + d) = aheadTo l n ++ r := by
 intro d
 induction d with
 | zero => intro n; exact ⟨[], by simp⟩
 | succ d ih =>
  intro n; obtain ⟨r, h⟩ := ih n; rw [show n + (d + 1) = (n + d) + 1 by omega]
  simp only [aheadTo]
  split
  ·exact ⟨r ++ [((n + d : Nat) : Int)], by rw [h, List.append_assoc]⟩
  ·exact ⟨r, by rw [List.append_nil]; exact h⟩
theorem ahead_at {l : List (Int × Int)} {p : Nat} (hp : p < l.length) (hb : lookB (l.getD p (0, 0)).1 = true) : (aheadTo l p).length < (aheadL l).length /\ (aheadL l).getD (aheadTo l p).length 0 = (p : Int) := by
 obtain ⟨r, h⟩ := ahead_mono l (l.length - (p + 1)) (p + 1); rw [show p + 1 + (l.length - (p + 1)) = l.length by omega] at h
 have h1 : aheadTo l (p + 1) = aheadTo l p ++ [(p : Int)] := by simp only [aheadTo]; rw [if_pos hb]
 unfold aheadL; rw [h, h1]; refine ⟨by simp, ?_⟩
 simp [List.getD_eq_getElem?_getD]
def One (w : World) (v : Value) (l : List (Int × Int)) : Prop := ∃ g lv, v = .slice (some ⟨g, 0, none⟩) 1 1 /\ w.cell? ⟨g, 0, none⟩ = some lv /\ OpsV w lv l
def Two (w : World) (v : Value) (l m : List (Int × Int)) : Prop := ∃ g lv mv, v = .slice (some ⟨g, 0, none⟩) 2 2 /\ w.cell? ⟨g, 0, none⟩ = some lv /\ w.cell? ⟨g, 1, none⟩ = some mv /\ OpsV w lv l /\ OpsV w mv m
theorem cell_later {w w' : World} (hb : Below w.heap.size w w') {p : Addr} {x : Value} (h : w.cell? p = some x) : w'.cell? p = some x := (hb.cell (World.block_lt_of_cell? w p h)).trans h
theorem One.below {w w' : World} {v : Value} {l : List (Int × Int)} (h : One w v l) (hb : Below w.heap.size w w') : One w' v l := by
 obtain ⟨g, lv, h1, h2, h3⟩ := h; exact ⟨g, lv, h1, cell_later hb h2, h3.below hb⟩
theorem Two.below {w w' : World} {v : Value} {l m : List (Int × Int)} (h : Two w v l m) (hb : Below w.heap.size w w') : Two w' v l m := by
 obtain ⟨g, lv, mv, h1, h2, h3, h4, h5⟩ := h; exact ⟨g, lv, mv, h1, cell_later hb h2, cell_later hb h3, h4.below hb, h5.below hb⟩
section
variable {o : Oper} {a : Act} {w : World} {Q : Exit -> Act -> World -> Prop}
theorem st_one {s : Nat} {lv : Value} {l : List (Int × Int)} (hop : o.op = .buildSlice 31 1 #[(0, .tmp s)]) (he : a.eval (.tmp s) = lv) (hV : OpsV w lv l) : Oper.wp Tryz.prog o a w (fun a' w' => ∃ v', a' = a.put o.dst v' /\ Below w.heap.size w w' /\ One w' v' l) Q := by
 obtain ⟨ao, c, rfl, _⟩ := id hV; have hA : Below w.heap.size w (w.alloc (.cells #[.slice ao l.length c] 32)) := (Below.refl _ _).alloc (Nat.le_refl _) _; refine op_val (w' := w.alloc (.cells #[.slice ao l.length c] 32)) (v := .slice (some ⟨w.heap.size, 0, none⟩) 1 1) (post := fun v' w' => One w' v' l) ?_ hA ⟨_, _, rfl, by simp [go_sem], hV.below hA⟩
 generalize a.eval = ev at he ⊢; simp [execOp, hop, he, go_sem]
end
end Go.Proofs.YteejnjcdfmedlaaGreatDoor
namespace Go.Proofs.YteejnjcdfmedlaaGreatDoor
open Go.ChangeShapes Go.WideShapes Go.ChangeAt Go.RowKit Go.Deep Go.Maps
open Terms Tm
set_option maxHeartbeats 6400000
set_option maxRecDepth 20000
def firstC (m : Mo) : Int := codeTo m.vars (initsL m.vars) m.vars.length
theorem firstC_in {m : Mo} (h : mcode m = 0) : 0 <= firstC m /\ firstC m < prodTo m.vars m.vars.length := code_bounds (mcode_vars h) (Nat.le_refl _) (fun i hi => inits_in (mcode_vars h) i hi)
noncomputable def reachL (m : Mo) : List Int := if mcode m = 0 then reachN (nextL m) (firstC m) (prodTo m.vars m.vars.length).toNat else []
theorem nextL_in {m : Mo} (hm : mcode m = 0) {x : Int} (hx : 0 <= x /\ x < prodTo m.vars m.vars.length) {y : Int} (hy : y ∈ nextL m x) : 0 <= y /\ y < prodTo m.vars m.vars.length := by
 have h1 := ((upL_spec _).2 y).1 hy; unfold rawL at h1
 split at h1
 ·simp at h1; subst h1; exact hx
 ·obtain ⟨j, _, e⟩ := (rawTo_mem (Nat.le_refl _) y).1 h1
  exact ruleDo_state (mcode_vars hm) e
def MetIs (w : World) (b : Nat) (l : List Int) : Prop := ∃ D : DataW Unit, w.ownsMap Tryz.prog 3 (plainElem Tryz.prog 3) b l.length D /\ ∀ x : Int, 0 <= x /\ x <= 5000 -> Maps.has D (.int .i64 x) = decide (x ∈ l)
theorem keyS (x : Int) (h : 0 <= x /\ x <= 5000) : keyOf Tryz.prog 3 (.int .i64 x) = some (.int .i64 x) := keyOf_int_mk Tryz.underlying3 (WalkArith.wf_i64 (by omega))
theorem MetIs.put {w w' : World} {b : Nat} {l : List Int} {D : DataW Unit} {x : Int} {d : DataW Unit} (hD : w.ownsMap Tryz.prog 3 (plainElem Tryz.prog 3) b l.length D) (h : ∀ y : Int, 0 <= y /\ y <= 5000 -> Maps.has D (.int .i64 y) = decide (y ∈ l)) (h' : w'.ownsMap Tryz.prog 3 (plainElem Tryz.prog 3) b (l.length + 1) (D.put (.int .i64 x) d)) : MetIs w' b (l ++ [x]) := by
 refine ⟨_, by simpa using h', fun y hy => ?_⟩
 by_cases hyx : y = x
 ·subst hyx
  rw [has_put_same hD.isMap (by simp [WideAt.IsKeyLit])]
  simp
 ·rw [has_put_other (by simpa using hyx), h y hy]
  simp [hyx]
theorem MetIs.below {w w' : World} {b : Nat} {l : List Int} (h : MetIs w b l) (hb : Below w.heap.size w w') : MetIs w' b l := by
 obtain ⟨D, h1, h2⟩ := h; exact ⟨D, h1.kept (row := none) ⟨hb.os, hb.tape, hb.output, hb.size, fun i hi _ => hb.block i hi⟩ (by simp), h2⟩
theorem undrewR {a b : World} (h : Below a.drew.heap.size a.drew b) : Below a.heap.size a b := ⟨h.os, h.tape, h.output, h.size, h.block⟩
structure MetS (nx : Int -> List Int) (first : Int) (N b : Nat) (w1 wr : World) (v : Value) (R : List Int) (p : Nat) : Prop where
 nodup : R.Nodup
 fst : first ∈ R
 all : ∀ x ∈ R, (0 <= x /\ x < N) /\ RSt nx first x
 closed : ∀ i, i < p -> ∀ y ∈ nx (R.getD i 0), y ∈ R
 own : wr.ownsRow (b + 1) 3 1 v R.length (ivals R)
 ne : v ≠ .slice none 0 0
 met : MetIs wr b R
 bel : Below w1.heap.size w1 wr
theorem MetS.below {nx : Int -> List Int} {first : Int} {N b : Nat} {w1 wr w' : World} {v : Value} {R : List Int} {p : Nat} (h : MetS nx first N b w1 wr v R p) (hb : Below wr.heap.size wr w') : MetS nx first N b w1 w' v R p :=
 ⟨h.nodup, h.fst, h.all, h.closed, owns_later h.own hb (Nat.le_refl _), h.ne, h.met.below hb, h.bel.trans (hb.mono h.bel.size)⟩
theorem MetS.length {nx : Int -> List Int} {first : Int} {N b : Nat} {w1 wr : World} {v : Value} {R : List Int} {p : Nat} (h : MetS nx first N b w1 wr v R p) : R.length <= N := nodup_length h.nodup fun x hx => (h.all x hx).1
theorem MetS.form {nx : Int -> List Int} {first : Int} {N b : Nat} {w1 wr : World} {v : Value} {R : List Int} {p : Nat} (h : MetS nx first N b w1 wr v R p) : ∃ g cap, v = .slice (some ⟨g, 0, none⟩) R.length cap /\ b + 1 <= g /\ g < wr.heap.size := OwnI.form ⟨h.own, h.ne⟩
def MetTo (nx : Int -> List Int) (first : Int) (N b : Nat) (w1 wr : World) (v : Value) (p : Nat) : Prop := ∃ R, p <= R.length /\ MetS nx first N b w1 wr v R p
def MetAt (nx : Int -> List Int) (first : Int) (N b : Nat) (w1 wr : World) (v : Value) (p : Nat) (x : Int) (nl : List Int) (q : Nat) : Prop := ∃ R, p < R.length /\ R.getD p 0 = x /\ (∀ j, j < q -> nl.getD j 0 ∈ R) /\ MetS nx first N b w1 wr v R p
def MIn (nx : Int -> List Int) (first : Int) (N b : Nat) (w1 wr : World) (v : Value) (p : Nat) (x : Int) (nl : List Int) (q bs h4 : Nat) (nv : Value) : Prop :=
 MetAt nx first N b w1 wr v p x nl q /\ (∃ g cap n, v = .slice (some ⟨g, 0, none⟩) n cap /\ (g < bs \/ h4 <= g)) /\ wr.ownsRow bs 3 1 nv nl.length (ivals nl) /\ h4 <= wr.heap.size /\ (∀ k, nv.ownBlock = some k -> k < h4) /\ b < bs
theorem MIn.put {nx : Int -> List Int} {first : Int} {N b : Nat} {w1 wr : World} {p : Nat} {x : Int} {nl : List Int} {q bs h4 : Nat} {nv : Value} {R : List Int} {g2 gc2 : Nat} {D : DataW Unit} (hpR : p < R.length) (hRx : R.getD p 0 = x) (hin : ∀ j, j < q -> nl.getD j 0 ∈ R) (hM : MetS nx first N b w1 wr (.slice (some ⟨g2, 0, none⟩) R.length gc2) R p)
  (hyN : 0 <= nl.getD q 0 /\ nl.getD q 0 < N) (hyr : RSt nx first (nl.getD q 0)) (hyR : ¬ nl.getD q 0 ∈ R) (hhas : ∀ y : Int, 0 <= y /\ y <= 5000 -> Maps.has D (.int .i64 y) = decide (y ∈ R)) (hown : wr.ownsMap Tryz.prog 3 (plainElem Tryz.prog 3) b R.length D) (hg2 : g2 < bs \/ h4 <= g2)
  (how : wr.ownsRow bs 3 1 nv nl.length (ivals nl)) (hh4 : h4 <= wr.heap.size) (hnvl : ∀ k, nv.ownBlock = some k -> k < h4) (hbs : b < bs) (hb1 : w1.heap.size = b) {w5 w6 : World} {o : Obj} {g6 c6 : Nat} (h1 : w5.ownsMap Tryz.prog 3 (plainElem Tryz.prog 3) b (R.length + 1) (D.put (.int .i64 (nl.getD q 0)) (.lit (.int .i64 (R.length : Int))))) (h2 : wr.grownBy w5 (some b)) (h3 : (w5.alloc o).grownBy w6 (some g2))
  (h4o : w6.ownsRow (b + 1) 3 1 (.slice (some ⟨g6, 0, none⟩) (R.length + 1) c6) (R.length + 1) (ivals R ++ [.int .i64 (nl.getD q 0)])) (h5 : g2 = g6 \/ g6 = (w5.alloc o).heap.size) : MIn nx first N b w1 w6 (.slice (some ⟨g6, 0, none⟩) (R.length + 1) c6) p x nl (q + 1) bs h4 nv := by
 have hs2 := h2.size; have hs3 := h3.size; simp only [World.size_alloc] at hs3; have hlt := hM.own.lt g2 rfl
 have hgr : Below b wr w6 := by
  have e1 : Below b wr w5 := (Below.refl _ _).grown h2 (by have := hlt.1; have := hlt.2; omega) (fun k hk => by rw [<- Option.some.inj hk]; exact Nat.le_refl _)
  exact (e1.alloc (by have := hlt.1; have := hlt.2; omega) o).grown h3 (by simp; have := hlt.1; have := hlt.2; omega) (fun k hk => by rw [<- Option.some.inj hk]; have := hlt.1; omega)
 refine ⟨⟨R ++ [nl.getD q 0], by simp; omega, ?_, fun j hj => ?_, ?_, ?_, fun z hz => ?_, fun i hi y hy => ?_, ?_, by simp, ?_, ?_⟩, ⟨g6, c6, _, rfl, ?_⟩, ?_, by omega, hnvl, hbs⟩
 ·rw [List.getD_eq_getElem?_getD, List.getElem?_append_left hpR, <- List.getD_eq_getElem?_getD]; exact hRx
 ·by_cases hjq : j < q
  ·exact List.mem_append.2 (.inl (hin j hjq))
  ·obtain rfl : j = q := by omega
   simp
 ·rw [List.nodup_append]
  refine ⟨hM.nodup, by simp, fun a ha c hc => ?_⟩
  rw [List.mem_singleton] at hc; subst hc; exact fun e => hyR (e ▸ ha)
 ·exact List.mem_append.2 (.inl hM.fst)
 ·rcases List.mem_append.1 hz with hz | hz
  ·exact hM.all z hz
  ·simp at hz; subst hz; exact ⟨hyN, hyr⟩
 ·have hil : i < R.length := by omega
  rw [List.getD_eq_getElem?_getD, List.getElem?_append_left hil, <- List.getD_eq_getElem?_getD] at hy
  exact List.mem_append.2 (.inl (hM.closed i hi y hy))
 ·have : ivals (R ++ [nl.getD q 0]) = ivals R ++ [.int .i64 (nl.getD q 0)] := by simp [ivals]
  rw [this, List.length_append]; exact h4o
 ·have hm6 : w6.ownsMap Tryz.prog 3 (plainElem Tryz.prog 3) b (R.length + 1) (D.put (.int .i64 (nl.getD q 0)) (.lit (.int .i64 (R.length : Int)))) := by
   have hb5 : Below w5.heap.size w5 (w5.alloc o) := (Below.refl _ _).alloc (Nat.le_refl _) o; have := h1.kept (row := none) ⟨hb5.os, hb5.tape, hb5.output, hb5.size, fun i hi _ => hb5.block i hi⟩ (by simp)
   exact this.kept h3 (fun e => by have := Option.some.inj e; omega)
  exact MetIs.put hown hhas hm6
 ·exact hM.bel.trans (hgr.mono (by omega))
 ·rcases h5 with rfl | h5
  ·exact hg2
  ·right; rw [h5]; simp; omega
 ·have hnv : ∀ k, nv.ownBlock = some k -> bs <= k /\ k < h4 := fun k hk => ⟨(how.lt k hk).1, hnvl k hk⟩
  have e1 := how.kept h2 (by cases hx : nv.ownBlock with | none => exact .inl rfl | some k => exact .inr (fun e => by have := hnv k hx; have := Option.some.inj e; omega))
  exact (e1.alloc o).kept h3 (by cases hx : nv.ownBlock with | none => exact .inl rfl | some k => exact .inr (fun e => by have := hnv k hx; have := Option.some.inj e; omega))
theorem reach_loop (va vr : Value) (m : Mo) (w : World) (hB : 0 < w.heap.size) (hT : TabAt w) (hV : ModelV w va vr m) (hm : mcode m = 0) :
    Calls Tryz.prog 15 #[.agg #[va, vr]] w fun e w' => ∃ v, e = .returned (.tuple #[v, .int .i64 0]) /\ Below w.heap.size w w' /\ IntsV w' v (reachN (nextL m) (firstC m) (prodTo m.vars m.vars.length).toNat) := by
  have hA : ∀ o, Below w.heap.size w (w.alloc o) := fun o => (Below.refl _ _).alloc (Nat.le_refl _) o
  have hfi : ∀ o, Calls Tryz.prog 40 #[.agg #[va, vr]] (w.alloc o) fun e w' => e = .returned (.tuple #[.int .i64 (firstC m), .int .i64 0]) /\ Below (w.alloc o).heap.size (w.alloc o) w' := fun o => by
    have h := mfirst_any va vr m (w.alloc o) (Nat.lt_of_lt_of_le hB (hA o).size) (hT.below (hA o) hB) (hV.below (hA o)); rw [hm, if_pos rfl] at h; exact h
  obtain ⟨hf0, hf1⟩ := firstC_in hm; have hN := (mcode_vars hm).prod (j := m.vars.length) (Nat.le_refl _); obtain ⟨N, hNe⟩ : ∃ N : Nat, prodTo m.vars m.vars.length = N := ⟨(prodTo m.vars m.vars.length).toNat, by omega⟩
  have HNx : Hid (∀ w' (_ : Below w.heap.size w w') (c : Int), 0 <= c /\ c < N -> Calls Tryz.prog 41 #[.agg #[va, vr], .int .i64 c] w' fun e w2 => ∃ v, e = .returned (.tuple #[v, .int .i64 0]) /\ Below w'.heap.size w' w2 /\ IntsV w2 v (nextL m c) /\ w2.ownsRow w'.heap.size 3 1 v (nextL m c).length (ivals (nextL m c))) := fun w' hb c hc => by
    have hw : wcode m c = 0 := wcode_yes hm (by rw [hNe]; exact hc)
    have h := nextOf_own va vr m c w' (Nat.lt_of_lt_of_le hB hb.size) (hT.below hb hB) (hV.below hb) hm; rw [hw, show nxtL m c = nextL m c by unfold nxtL; rw [if_pos hw]] at h
    exact h
  have HIn : Hid (∀ x y : Int, 0 <= x /\ x < N -> y ∈ nextL m x -> 0 <= y /\ y < N) := fun x y hx hy => by rw [<- hNe] at hx ⊢; exact nextL_in hm hx hy
  have HLe : Hid (∀ x : Int, 0 <= x /\ x < N -> (nextL m x).length <= 20) := fun x hx => by
    have hw : wcode m x = 0 := wcode_yes hm (by rw [hNe]; exact hx)
    have h1 := nxtL_length m x; rw [show nxtL m x = nextL m x by unfold nxtL; rw [if_pos hw]] at h1
    have h2 := (mcode_rules hm).1; omega
  rw [hNe] at hf1 hN ⊢; rw [Int.toNat_natCast]; obtain ⟨ao, cap, rfl⟩ := hV.1.shape; obtain ⟨ro, rc, rfl⟩ := hV.2.shape; generalize firstC m = first at *; generalize nextL m = nx at *; obtain ⟨hN0, hN1⟩ := hN; clear hV hT hm hNe; generalize m.vars.length = n at *; generalize m.rules.length = rn at *; have hmm := @run_makeMap Tryz.prog; obtain ⟨i0, hi, hz0, hz1, hz2⟩ := info_parts infoInt
  have hlen : first <= 5000 := by omega
  go_enter Tryz.func15, Tryz.ntmps15
  go_wp2_with (first | (go_at_call 40; refine (hfi _).mono ?_; rintro e w1 ⟨rfl, hb1⟩; have h0 := World.ownsMap_made w1 Tryz.prog 3 (plainElem (H := Unit) Tryz.prog 3)) | (refine wpList_insert_own _ rfl _ _ _ 107 rfl 3 3 keyInt Tryz.underlying107 (plainElem Tryz.prog 3) w1.heap.size 0 _ rfl h0 (by unfold maxLen; omega) _ _ _ rfl rfl (keyS first ⟨hf0, hlen⟩) _ [] (plainElem_int Tryz.underlying3 (by decide)) ?_; intro w2 hm2 hg2))
  have hb2 : Below w1.heap.size w1 w2 := ((Below.refl _ _).alloc (Nat.le_refl _) _).grown hg2 (by simp) (fun z hz => by rw [<- Option.some.inj hz]; exact Nat.le_refl _)
  have hs2 : w1.heap.size + 1 <= w2.heap.size := by have := hg2.size; simp at this; omega
  have hA2 : ∀ o, Below w2.heap.size w2 (w2.alloc o) := fun o => (Below.refl _ _).alloc (Nat.le_refl _) o
  have hbw1 := (hA _).trans (hb1.mono (hA _).size); have hs1 : w.heap.size < w1.heap.size := by have := hb1.size; simp at this; omega
  have k10 : w1.cell? ⟨w.heap.size, 0, none⟩ = some (.slice ao n cap) := (hb1.cell (p := ⟨w.heap.size, 0, none⟩) (by simp)).trans (by simp [go_sem])
  have k11 : w1.cell? ⟨w.heap.size, 1, none⟩ = some (.slice ro rn rc) := (hb1.cell (p := ⟨w.heap.size, 1, none⟩) (by simp)).trans (by simp [go_sem])
  have HK1 : Hid (∀ w', Below w1.heap.size w1 w' -> w'.cell? ⟨w.heap.size, 0, none⟩ = some (.slice ao n cap) /\ w'.cell? ⟨w.heap.size, 1, none⟩ = some (.slice ro rn rc)) := fun w' hb => ⟨(hb.cell (p := ⟨w.heap.size, 0, none⟩) hs1).trans k10, (hb.cell (p := ⟨w.heap.size, 1, none⟩) hs1).trans k11⟩
  have HB1 : Hid (Below w.heap.size w w1) := hbw1
  have HM0 : Hid (MetS nx first N w1.heap.size w1 (w2.alloc (.cells #[.int .i64 first] 3)) (.slice (some ⟨w2.heap.size, 0, none⟩) 1 1) [first] 0) := ⟨by simp, by simp, fun x hx => by simp at hx; subst hx; exact ⟨⟨hf0, hf1⟩, .first⟩, fun i hi => by omega, World.ownsRow_lit w2 #[.int .i64 first] 1 hs2 (by decide) rfl, by simp, (MetIs.put (l := []) h0 (fun y _ => by simp [Maps.has]) hm2).below (hA2 _), hb2.trans ((hA2 _).mono hb2.size)⟩
  clear hmm hfi hb1 h0 hm2 hg2 hb2 hbw1 k10 k11 hA2
  go_loopw [7, 8] (fun v i wr => ∃ p : Nat, p <= N /\ i = .int .i64 p /\ Hid (MetTo nx first N w1.heap.size w1 wr v p)) (fun _ i _ => N - (intOf i).toNat)
  case atStart => exact ⟨0, Nat.zero_le _, rfl, [first], by simp, HM0.out⟩
  case round =>
    obtain ⟨p, hp, rfl, HM⟩ := hrel; obtain ⟨R, hpR, hM⟩ := HM.out; obtain ⟨g, gc, rfl, hg, hgl⟩ := hM.form; have hRN := hM.length; have hbw := HB1.out.trans (hM.bel.mono HB1.out.size); obtain ⟨kr0, kr1⟩ := HK1.out wr hM.bel; obtain ⟨L, hL⟩ : ∃ L, L = R.length := ⟨_, rfl⟩
    have HL : Hid (L = R.length) := hL; have HMe : Hid (MetS nx first N w1.heap.size w1 wr (.slice (some ⟨g, 0, none⟩) L gc) R p) := by rw [hL]; exact hM
    rw [<- hL] at hpR hRN ⊢
    by_cases hlt : p < L
    · have hp' : p < R.length := by rw [<- HL.out]; exact hlt
      have hc : wr.cell? ⟨g, p, none⟩ = some (.int .i64 (R.getD p 0)) := by
        have := hM.own.cellAt p (by omega)
        rw [this]; simp [ivals, List.getD_eq_getElem?_getD, hp']
      have hxin := (hM.all (R.getD p 0) (by rw [show R.getD p 0 = R[p] by simp [List.getD_eq_getElem?_getD, hp']]; exact List.getElem_mem _)).1
      have hne := HNx.out wr.drew hbw.drew (R.getD p 0) hxin; have HX : Hid (∀ w4, Below wr.heap.size wr w4 -> MetAt nx first N w1.heap.size w1 w4 (.slice (some ⟨g, 0, none⟩) L gc) p (R.getD p 0) (nx (R.getD p 0)) 0) := fun w4 hb => ⟨R, hp', rfl, fun j hj => by omega, HMe.out.below hb⟩
      generalize R.getD p 0 = x at hc hxin hne HX; clear hM hL hpR HM hp' HMe
      have hS : ∀ w', Below wr.heap.size wr w' -> w'.cell? ⟨w.heap.size, 0, none⟩ = some (.slice ao n cap) /\ w'.cell? ⟨w.heap.size, 1, none⟩ = some (.slice ro rn rc) /\ w'.cell? ⟨g, p, none⟩ = some (.int .i64 x) := fun w' hb => ⟨(hb.cell (p := ⟨w.heap.size, 0, none⟩) (World.block_lt_of_cell? wr _ kr0)).trans kr0, (hb.cell (p := ⟨w.heap.size, 1, none⟩) (World.block_lt_of_cell? wr _ kr1)).trans kr1, (hb.cell (p := ⟨g, p, none⟩) hgl).trans hc⟩
      go_wp2_with fail
      go_region_held3 (fun w' => w'.cell? ⟨w.heap.size, 0, none⟩ = some (.slice ao n cap) /\ w'.cell? ⟨w.heap.size, 1, none⟩ = some (.slice ro rn rc) /\ w'.cell? ⟨g, p, none⟩ = some (.int .i64 x)) (exact hS _ (by first | exact (Below.refl _ _).drew | exact undrewR hb4 | exact Below.refl _ _)) (first | (go_at_call 41; refine hne.mono ?_; rintro e w4 ⟨nv, rfl, hb4, hI4, ho4⟩; obtain ⟨no, nc, rfl⟩ := hI4.shape))
      have hb4' := undrewR hb4; obtain ⟨nn, hnn⟩ : ∃ nn, nn = (nx x).length := ⟨_, rfl⟩
      have HNN : Hid (nn = (nx x).length) := hnn; have HO4 : Hid (w4.ownsRow wr.heap.size 3 1 (.slice no nn nc) nn (ivals (nx x))) := by rw [hnn]; exact ho4
      have HNxi : Hid (∀ j, j < nn -> (0 <= (nx x).getD j 0 /\ (nx x).getD j 0 < N) /\ (nx x).getD j 0 ∈ nx x) := fun j hj => by
        have hm : (nx x).getD j 0 ∈ nx x := by rw [List.getD_eq_getElem?_getD, List.getElem?_eq_getElem (by rw [<- hnn]; exact hj)]; exact List.getElem_mem _
        exact ⟨HIn.out x _ hxin hm, hm⟩
      have hrow : g < wr.heap.size := hgl; have HX4 : Hid (MetAt nx first N w1.heap.size w1 w4 (.slice (some ⟨g, 0, none⟩) L gc) p x (nx x) 0) := HX.out w4 hb4'; rw [<- hnn]
      have hbs : w1.heap.size < wr.heap.size := by
        obtain ⟨R', _, _, _, hM'⟩ := HX.out wr (Below.refl _ _); obtain ⟨D', h1', _⟩ := hM'.met; exact World.ownsMap.lt h1'
      have HI0 : Hid (MIn nx first N w1.heap.size w1 w4 (.slice (some ⟨g, 0, none⟩) L gc) p x (nx x) 0 wr.heap.size w4.heap.size (.slice no nn nc)) := ⟨HX4.out, ⟨g, gc, L, rfl, .inl hgl⟩, by rw [<- hnn]; exact HO4.out, Nat.le_refl _, fun k hk => (HO4.out.lt k hk).2, hbs⟩
      have hbs4 := hb4'.size; have hnn20 : nn <= 20 := by rw [hnn]; exact HLe.out x hxin
      clear hnn hI4 ho4 hS hne HX kr0 kr1 hc hb4 hrow HO4 HX4
      go_wp2_with fail
      generalize wr.heap.size = bs at *; generalize wr = wo at *
      go_loopw [7, 48] (fun v i wr => ∃ q : Nat, q <= nn /\ i = .int .i64 q /\ Hid (MIn nx first N w1.heap.size w1 wr v p x (nx x) q bs w4.heap.size (.slice no nn nc))) (fun _ i _ => nn - (intOf i).toNat)
      case atStart => exact ⟨0, Nat.zero_le _, rfl, HI0⟩
      case round =>
        obtain ⟨q, hq, rfl, HQ⟩ := hrel; obtain ⟨⟨R, hpR, hRx, hin, hM⟩, ⟨g2, gc2, n2, rfl, hg2⟩, how, hh4, hnvl, hbs2⟩ := HQ.out
        have hn2 : n2 = R.length := by
          obtain ⟨ga, ca, e1, _⟩ := hM.form
          injection e1 with _ e2 _
        subst hn2; have hRN := hM.length
        by_cases hlq : q < nn
        · obtain ⟨⟨hy0, hy1⟩, hymem⟩ := HNxi.out q hlq
          have hnvq : ∃ nb, no = some ⟨nb, 0, none⟩ /\ wr.cell? ⟨nb, q, none⟩ = some (.int .i64 ((nx x).getD q 0)) := by
            rcases how.2 with ⟨e, h0⟩ | ⟨nb, cap, cur, e, _⟩
            · have := HNN.out; omega
            · injection e with e1 _ _
              subst e1; refine ⟨nb, rfl, ?_⟩
              have how' : wr.ownsRow bs 3 1 (.slice (some ⟨nb, 0, none⟩) (nx x).length nc) (nx x).length (ivals (nx x)) := by rw [HNN.out] at how; exact how
              have hql : q < (nx x).length * 1 := by have := HNN.out; omega
              rw [how'.cellAt q hql]; have : q < (nx x).length := by rw [<- HNN.out]; exact hlq
              simp [ivals, List.getD_eq_getElem?_getD, this]
          obtain ⟨nb, rfl, hcy⟩ := hnvq; have HMi := hin; obtain ⟨D, hown, hhas⟩ := hM.met; have hk1 := keyS ((nx x).getD q 0) ⟨hy0, by omega⟩
          have hh := hhas ((nx x).getD q 0) ⟨hy0, by omega⟩
          by_cases hyR : (nx x).getD q 0 ∈ R
          · have HN : Hid (MIn nx first N w1.heap.size w1 wr (.slice (some ⟨g2, 0, none⟩) R.length gc2) p x (nx x) (q + 1) bs w4.heap.size (.slice (some ⟨nb, 0, none⟩) nn nc)) := ⟨⟨R, hpR, hRx, fun j hj => by
                by_cases hjq : j < q
                · exact hin j hjq
                · obtain rfl : j = q := by omega
                  exact hyR, hM⟩, ⟨g2, gc2, _, rfl, hg2⟩, how, hh4, hnvl, hbs2⟩
            rw [decide_eq_true hyR] at hh; generalize (nx x).getD q 0 = y at *; generalize R.length = L2 at *; clear HQ hin hM hhas HMi how hRx hyR hymem
            go_wp2_with (at_lookup; refine wpList_lookup_own_ok_int _ rfl _ _ 107 rfl 3 3 .i64 keyInt Tryz.underlying107 Tryz.underlying3 (zeroInt _) w1.heap.size _ D rfl hown _ _ rfl hk1 ?_; intro c hat hwc; rw [hh]; clear hat hwc)
            go_roundw
            case rel => exact ⟨q + 1, hlq, by go_num, HN⟩
            case measure => simp [intOf]; omega
          · rw [decide_eq_false hyR] at hh
            have hyr : RSt nx first ((nx x).getD q 0) := RSt.next (hM.all x (by rw [<- hRx, List.getD_eq_getElem?_getD, List.getElem?_eq_getElem hpR]; exact List.getElem_mem _)).2 hymem
            have HN : Hid (∀ (w5 w6 : World) (o : Obj) (g6 c6 : Nat), w5.ownsMap Tryz.prog 3 (plainElem Tryz.prog 3) w1.heap.size (R.length + 1) (D.put (.int .i64 ((nx x).getD q 0)) (.lit (.int .i64 (R.length : Int)))) -> wr.grownBy w5 (some w1.heap.size) -> (w5.alloc o).grownBy w6 (some g2) -> w6.ownsRow (w1.heap.size + 1) 3 1 (.slice (some ⟨g6, 0, none⟩) (R.length + 1) c6) (R.length + 1) (ivals R ++ [.int .i64 ((nx x).getD q 0)]) -> (g2 = g6 \/ g6 = (w5.alloc o).heap.size) -> MIn nx first N w1.heap.size w1 w6 (.slice (some ⟨g6, 0, none⟩) (R.length + 1) c6) p x (nx x) (q + 1) bs w4.heap.size (.slice (some ⟨nb, 0, none⟩) nn nc)) := fun w5 w6 o g6 c6 h1 h2 h3 h4 h5 => MIn.put hpR hRx hin hM ⟨hy0, hy1⟩ hyr hyR hhas hown hg2 how hh4 hnvl hbs2 rfl h1 h2 h3 h4 h5
            have hownL := hM.own; have hlt2 := hownL.lt; generalize (nx x).getD q 0 = y at *; obtain ⟨L2, hL2⟩ : ∃ L2, L2 = R.length := ⟨_, rfl⟩
            rw [<- hL2] at HN hown hownL hRN hlt2 ⊢; have hkm : L2 < maxLen := by unfold maxLen; omega
            have h63 : L2 + 1 <= maxLen := by unfold maxLen; omega
            have hkb : (L2 + 1) * 8 <= 140737488355328 := by omega
            have hwf : (Lit.int .i64 (L2 : Int)).wf = true := WalkArith.wf_i64 (by omega)
            have hszr : w1.heap.size + 1 <= wr.heap.size := by omega
            clear HQ hin hM hhas HMi how hRx hyR hymem hyr hL2
            go_wp2_with (first
              | (at_lookup; refine wpList_lookup_own_ok_int _ rfl _ _ 107 rfl 3 3 .i64 keyInt Tryz.underlying107 Tryz.underlying3 (zeroInt _) w1.heap.size _ D rfl hown _ _ rfl hk1 ?_; intro c hat hwc; rw [hh]; clear hat hwc)
              | (at_mapUpdate; refine wpList_mapUpdate_own _ rfl _ _ _ 107 rfl 3 3 keyInt Tryz.underlying107 _ w1.heap.size L2 D rfl hown hkm _ _ _ rfl rfl hk1 _ [] (plainElem_int Tryz.underlying3 hwf) ?_; intro w5 hown5 hg5; have how5 := fun o => (hownL.kept hg5 (.inr (fun e => by have := (hlt2 w1.heap.size e).1; omega))).alloc o; have hsz5 := hg5.size; have hbase : ∀ o, w1.heap.size + 1 <= (w5.alloc o).heap.size := (fun o => by simp; omega))
              | (at_builtin; refine wpList_append_lies _ rfl (.tmp 64) (.tmp 66) 38 rfl (w1.heap.size + 1) 3 i0 (.int .i64 0) 1 8 Tryz.underlying38 hi hz0 hz1 hz2 rfl (by decide) (.slice (some ⟨g2, 0, none⟩) L2 gc2) L2 _ rfl (how5 _) ⟨w5.heap.size, 0, none⟩ 1 1 [.int .i64 y] rfl rfl (cell_one_new _ _ _) (by intro u hu; simp at hu; subst hu; rfl) (by decide) h63 hkb (hbase _) _ rfl ?_; intro g6 c6 w6 hown6 hg6 hor6 hlt6))
            have HN6 : Hid (MIn nx first N w1.heap.size w1 w6 (.slice (some ⟨g6, 0, none⟩) (L2 + 1) c6) p x (nx x) (q + 1) bs w4.heap.size (.slice (some ⟨nb, 0, none⟩) nn nc)) := HN.out w5 w6 _ g6 c6 hown5 hg5 hg6 hown6 (by rcases hor6 with h | h; exact .inl (by simpa [Value.ownBlock] using h); exact .inr h)
            go_roundw
            case rel => exact ⟨q + 1, hlq, by go_num, HN6⟩
            case measure => simp [intOf]; omega
        · obtain rfl : q = nn := by omega
          have HN : Hid (MetTo nx first N w1.heap.size w1 wr (.slice (some ⟨g2, 0, none⟩) R.length gc2) (p + 1)) := ⟨R, hpR, hM.nodup, hM.fst, hM.all, fun i hi => by
            by_cases hip : i < p
            · exact hM.closed i hip
            · obtain rfl : i = p := by omega
              intro y hy; rw [hRx] at hy; obtain ⟨j, hj, rfl⟩ := List.getElem_of_mem hy; have := hin j (by rw [HNN.out]; exact hj)
              rwa [List.getD_eq_getElem?_getD, List.getElem?_eq_getElem hj] at this, hM.own, hM.ne, hM.met, hM.bel⟩
          have hpN : p + 1 <= N := by omega
          generalize R.length = L2 at *; clear HQ hin hM how hRx
          go_wp2_with fail
          go_roundw
          case rel => exact ⟨p + 1, hpN, by go_num, HN⟩
          case measure => simp [intOf]; omega
    · have hpl : p = L := by omega
      subst hpl
      have HRes : Hid (R.mergeSort leB = reachN nx first N) := by
        refine rise_eq (sorted_rise hM.nodup) (reachN_rise _ _ _) fun y => ?_
        rw [reachN_mem, (List.mergeSort_perm R leB).mem_iff]
        have hc := closed_reach (nx := nx) (l := R) hM.fst (fun x hx => (hM.all x hx).2) (fun x hx y hy => by
          obtain ⟨i, hi, rfl⟩ := List.getElem_of_mem hx
          exact hM.closed i (by rw [HL.out]; exact hi) y (by rw [List.getD_eq_getElem?_getD, List.getElem?_eq_getElem hi]; exact hy))
        rw [hc y]; exact ⟨fun h => ⟨h.in ⟨hf0, hf1⟩ HIn.out, h⟩, fun h => h.2⟩
      have hown := HMe.out.own; have hso := sort_own g gc (w1.heap.size + 1) R wr (by rw [<- HL.out]; omega) (by rw [HL.out] at hown; exact hown)
      rw [<- HL.out] at hso; clear hM HMe HM hown hL
      go_wp2_with (go_at_call 42; refine hso.mono ?_; rintro e w6 ⟨rfl, hgr6, ho6⟩)
      go_ret2
      refine ⟨_, rfl, ?_, ?_⟩
      · exact hbw.grown hgr6 hbw.size (fun z hz => by rw [<- Option.some.inj hz]; have := HB1.out.size; omega)
      · rw [<- HRes.out]
        exact intsV_of_owns (by rw [List.length_mergeSort, <- HL.out]; exact ho6)
theorem reach_any (va vr : Value) (m : Mo) (w : World) (hB : 0 < w.heap.size) (hT : TabAt w) (hV : ModelV w va vr m) :
  Calls Tryz.prog 15 #[.agg #[va, vr]] w fun e w' => ∃ v, e = .returned (.tuple #[v, .int .i64 (mcode m)]) /\ Below w.heap.size w w' /\ IntsV w' v (reachL m) := by
 by_cases hm : mcode m = 0
 ·have h := reach_loop va vr m w hB hT hV hm
  unfold reachL; rw [if_pos hm, hm]; exact h
 ·have hA : ∀ o, Below w.heap.size w (w.alloc o) := fun o => (Below.refl _ _).alloc (Nat.le_refl _) o
  have hfi := fun o => mfirst_any va vr m (w.alloc o) (Nat.lt_of_lt_of_le hB (hA o).size) (hT.below (hA o) hB) (hV.below (hA o))
  have hRL : reachL m = [] := by unfold reachL; rw [if_neg hm]
  rw [if_neg hm] at hfi; rw [hRL]; obtain ⟨ao, cap, rfl⟩ := hV.1.shape; obtain ⟨ro, rc, rfl⟩ := hV.2.shape; generalize mcode m = c at *; generalize m.vars.length = n at *; generalize m.rules.length = rn at *; clear hV hRL hT
  go_enter Tryz.func15, Tryz.ntmps15
  go_wp2_with (go_at_call 40; refine (hfi _).mono ?_; rintro e w1 ⟨rfl, hb1⟩)
  go_ret2
  exact ⟨_, rfl, (hA _).trans (hb1.mono (hA _).size), none, 0, rfl, fun h => absurd rfl h⟩
theorem reachL_length (m : Mo) : (reachL m).length <= 5000 := by
 unfold reachL
 split
 ·rename_i hm
  have hN := (mcode_vars hm).prod (j := m.vars.length) (Nat.le_refl _); unfold reachN; rw [List.length_map]; refine Nat.le_trans (List.length_filter_le _ _) ?_
  rw [List.length_range]; omega
 ·simp
end Go.Proofs.YteejnjcdfmedlaaGreatDoor
