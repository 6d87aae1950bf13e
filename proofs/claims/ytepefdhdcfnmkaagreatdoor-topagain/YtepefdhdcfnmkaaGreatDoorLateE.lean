/-
  Joined out of Anyway, AnyOps, WClm, ClaimM, ClaimM2, ClaimM3, ClaimM4, ClaimN, ClaimL, ClaimS, LawOps, GrS, StepReach, GrB, GrW, ClW, LeW, in their order: a claim bears at most so many files.
-/
import Derived.Test.YtepefdhdcfnmkaaGreatDoorMem
import Derived.Deep.AppendLies
import Derived.Laws.AppendOwnNone
import Derived.Test.YtepefdhdcfnmkaaGreatDoorLateB
import Derived.Test.YtepefdhdcfnmkaaGreatDoorLateA
import Derived.Test.YtepefdhdcfnmkaaGreatDoorLateC
import Derived.Test.YtepefdhdcfnmkaaGreatDoorLateD
import Derived.Test.YtepefdhdcfnmkaaGreatDoorMFirst
import Derived.Maps.OwnSet
import Derived.Test.YtepefdhdcfnmkaaGreatDoorCodes
import Derived.Test.YtepefdhdcfnmkaaGreatDoorBools
import Derived.Deep.RegionHeld3
import Derived.Deep.Cut
import Derived.Deep.CutBlock
import Derived.Deep.CutRange
import Derived.Deep.DeepCutAuto
namespace Go.Proofs.YtepefdhdcfnmkaaGreatDoor
open Go.ChangeShapes Go.WideShapes Go.ChangeAt Go.RowKit Go.Deep
set_option maxHeartbeats 6400000
set_option maxRecDepth 20000
section
theorem wpAny_invA {P : Program} {md : Region.Mode} {ops : Array Oper} {Q : Exit -> Act -> World -> Prop} (I : Nat -> Array Bool -> Act -> World -> Prop)
  (hs : ∀ k l a w, I k l a w -> (Region.ready md ops l = [] -> Q .normal a w) /\ (k = 0 -> Region.ready md ops l = []) /\ ∀ k', k = k' + 1 -> ∀ i ∈ Region.ready md ops l, wpOp P ops Q i (fun a' w' => I k' (l.setIfInBounds i true) a' w') a w) :
  ∀ k l a w, I k l a w -> wpAny P md ops Q k l a w
 | 0, l, a, w, h => ⟨(hs 0 l a w h).2.1 rfl, (hs 0 l a w h).1 ((hs 0 l a w h).2.1 rfl)⟩
 | k + 1, l, a, w, h => ⟨(hs _ l a w h).1, fun i hi => wpOp_mono (fun a' w' h' => wpAny_invA I hs k _ a' w' h') ((hs _ l a w h).2.2 k rfl i hi)⟩
def mix (ds : List Nat) (q : Nat -> Value) : Nat -> List Value -> List Value
 | _, [] => []
 | t, v :: l => (if ds.contains t then q t else v) :: mix ds q (t + 1) l
def frm (a : Act) (ds : List Nat) (q : Nat -> Value) : Act := ⟨(mix ds q 0 a.tmps.toList).toArray, a.defers⟩
theorem mix_at (ds : List Nat) (q : Nat -> Value) : ∀ (l : List Value) (t j : Nat), (mix ds q t l)[j]? = (l[j]?).map fun v => if ds.contains (t + j) then q (t + j) else v
 | [], t, j => by simp [mix]
 | v :: l, t, 0 => by simp [mix]
 | v :: l, t, j + 1 => by
  show (mix ds q (t + 1) l)[j]? = (l[j]?).map _
  rw [mix_at ds q l (t + 1) j, show t + 1 + j = t + (j + 1) by omega]
theorem mix_length (ds : List Nat) (q : Nat -> Value) : ∀ (l : List Value) (t : Nat), (mix ds q t l).length = l.length
 | [], t => rfl
 | v :: l, t => by show (mix ds q (t + 1) l).length + 1 = _; rw [mix_length ds q l (t + 1)]; rfl
theorem frm_in {a : Act} {ds : List Nat} {q : Nat -> Value} {t : Nat} (h : ds.contains t = true) (ht : t < a.tmps.size) : (frm a ds q).eval (.tmp t) = q t := by
 show (mix ds q 0 a.tmps.toList).toArray.getD t undef = q t
 rw [Array.getD_eq_getD_getElem?, List.getElem?_toArray, mix_at, Nat.zero_add, h]
 have : a.tmps.toList[t]? = some (a.tmps.toList[t]'(by simpa using ht)) := List.getElem?_eq_getElem _
 rw [this]; rfl
theorem frm_out {a : Act} {ds : List Nat} {q : Nat -> Value} {t : Nat} (h : ds.contains t = false) : (frm a ds q).eval (.tmp t) = a.eval (.tmp t) := by
 show (mix ds q 0 a.tmps.toList).toArray.getD t undef = a.tmps.getD t undef
 rw [Array.getD_eq_getD_getElem?, List.getElem?_toArray, mix_at, Nat.zero_add, h, Array.getD_eq_getD_getElem?, <- Array.getElem?_toList]
 cases a.tmps.toList[t]? <;> rfl
theorem mix_same {ds : List Nat} : ∀ (l : List Value) (q : Nat -> Value) (t : Nat), (∀ j, j < l.length -> q (t + j) = l.getD j undef) -> mix ds q t l = l
 | [], _, _, _ => rfl
 | v :: l, q, t, h => by
  show (if ds.contains t then q t else v) :: mix ds q (t + 1) l = v :: l
  rw [mix_same l q (t + 1) (fun j hj => by have := h (j + 1) (by simp; omega); rw [show t + 1 + j = t + (j + 1) by omega]; exact this)]
  have := h 0 (by simp)
  have h0 : q t = v := this; rw [h0]
  split <;> rfl
theorem frm_start (a : Act) (ds : List Nat) : frm a ds (fun t => a.eval (.tmp t)) = a := by
 unfold frm; rw [mix_same]; intro j hj
 show a.tmps.getD (0 + j) undef = a.tmps.toList.getD j undef
 rw [Nat.zero_add, Array.getD_eq_getD_getElem?, List.getD_eq_getElem?_getD, Array.getElem?_toList]
def setV (q : Nat -> Value) (t : Nat) (v : Value) : Nat -> Value := fun s => if s = t then v else q s
theorem setV_same (q : Nat -> Value) (t : Nat) (v : Value) : setV q t v t = v := if_pos rfl
theorem setV_other {q : Nat -> Value} {s t : Nat} {v : Value} (h : s ≠ t) : setV q t v s = q s := if_neg h
theorem frm_put {a : Act} {ds : List Nat} {q : Nat -> Value} {t : Nat} {v : Value} (h : ds.contains t = true) : (frm a ds q).put (some t) v = frm a ds (setV q t v) := by
 show Act.mk ((mix ds q 0 a.tmps.toList).toArray.setIfInBounds t v) a.defers = Act.mk (mix ds (setV q t v) 0 a.tmps.toList).toArray a.defers
 congr 1
 apply Array.ext_getElem?
 intro j; rw [Array.getElem?_setIfInBounds, List.getElem?_toArray, List.getElem?_toArray, mix_at, mix_at, Nat.zero_add]
 by_cases hj : t = j
 ·subst hj
  rw [if_pos rfl, h]; simp only [List.size_toArray, mix_length, Array.length_toList]
  by_cases hs : t < a.tmps.size
  ·rw [if_pos hs]
   rw [show a.tmps.toList[t]? = some (a.tmps.toList[t]'(by simpa using hs)) from List.getElem?_eq_getElem _]
   simp [setV]
  ·rw [if_neg hs, List.getElem?_eq_none (by simpa using hs)]; rfl
 ·rw [if_neg hj]
  cases a.tmps.toList[j]? with
  | none => rfl
  | some u =>
   show some _ = some _
   rw [setV_other (fun e => hj e.symm)]
def waits (ops : Array Oper) (i k : Nat) : Bool := match ops[i]? with | some o => o.after.toList.any (fun e => Region.binds .any e && e.on == k) | none => false
def dstOf (ops : Array Oper) (k : Nat) : Option Nat := match ops[k]? with | some o => o.dst | none => none
def shapeOk (ops : Array Oper) (ds : List Nat) (size m : Nat) : Bool :=
  (List.range ops.size).all (fun i => match ops[i]? with
    | some o => o.guard.isNone && o.after.toList.all (fun e => !Region.binds .any e || Nat.blt e.on i) && (if i < m then (match o.dst with
        | some t => ds.contains t && Nat.blt t size && (List.range m).all (fun j => j == i || !(dstOf ops j == some t)) && (List.range (m + 1)).any (fun k => Nat.blt i k && waits ops k i)
        | none => false) else (List.range i).all (fun j => Nat.blt j m && i == m || waits ops i j))
    | none => false) && Nat.blt m ops.size
structure Shape (ops : Array Oper) (ds : List Nat) (size m : Nat) : Prop where
 lt : m < ops.size
 guard : ∀ (i : Nat) (o : Oper), ops[i]? = some o -> o.guard = none
 before : ∀ (i : Nat) (o : Oper) (e : Edge), ops[i]? = some o -> e ∈ o.after -> Region.binds .any e = true -> e.on < i
 dst : ∀ (i : Nat) (o : Oper), i < m -> ops[i]? = some o -> ∃ t, o.dst = some t /\ ds.contains t = true /\ t < size /\ ∀ j, j < m -> j ≠ i -> dstOf ops j ≠ some t
 heir : ∀ i, i < m -> ∃ k, i < k /\ k <= m /\ waits ops k i = true
 late : ∀ i j, m <= i -> i < ops.size -> j < i -> (j < m /\ i = m) \/ waits ops i j = true
theorem shape_of {ops : Array Oper} {ds : List Nat} {size m : Nat} (h : shapeOk ops ds size m = true) : Shape ops ds size m := by
  unfold shapeOk at h; rw [Bool.and_eq_true, List.all_eq_true] at h; obtain ⟨h1, h2⟩ := h; have hm : m < ops.size := by simpa [Nat.blt_eq] using h2
  have hi : ∀ i o, ops[i]? = some o → (o.guard.isNone && o.after.toList.all (fun e => !Region.binds .any e || Nat.blt e.on i) && (if i < m then (match o.dst with
        | some t => ds.contains t && Nat.blt t size && (List.range m).all (fun j => j == i || !(dstOf ops j == some t)) && (List.range (m + 1)).any (fun k => Nat.blt i k && waits ops k i)
        | none => false) else (List.range i).all (fun j => Nat.blt j m && i == m || waits ops i j))) = true := fun i o ho => by
    have hlt : i < ops.size := by
      rcases Nat.lt_or_ge i ops.size with h | h
      · exact h
      · rw [Array.getElem?_eq_none h] at ho; cases ho
    have := h1 i (List.mem_range.2 hlt); rw [ho] at this; exact this
  refine ⟨hm, fun i o ho => ?_, fun i o e ho he hb => ?_, fun i o him ho => ?_, fun i him => ?_, fun i j him hlt hj => ?_⟩
  · have := hi i o ho
    rw [Bool.and_eq_true, Bool.and_eq_true] at this; simpa using this.1.1
  · have := hi i o ho
    rw [Bool.and_eq_true, Bool.and_eq_true, List.all_eq_true] at this; have := this.1.2 e (by simpa using he)
    rw [hb] at this; simpa [Nat.blt_eq] using this
  · have := hi i o ho
    rw [Bool.and_eq_true, if_pos him] at this; have := this.2
    cases hd : o.dst with
    | none => rw [hd] at this; cases this
    | some t =>
      rw [hd] at this; simp only [Bool.and_eq_true, List.all_eq_true] at this; obtain ⟨⟨⟨e1, e2⟩, e3⟩, e4⟩ := this; refine ⟨t, rfl, e1, by simpa [Nat.blt_eq] using e2, fun j hj hne he => ?_⟩
      have := e3 j (List.mem_range.2 hj); rw [he] at this; simp [hne] at this
  · have hlt : i < ops.size := by omega
    have := hi i ops[i] (Array.getElem?_eq_getElem hlt)
    rw [Bool.and_eq_true, if_pos him] at this; have := this.2
    cases hd : ops[i].dst with
    | none => rw [hd] at this; cases this
    | some t =>
      rw [hd] at this; simp only [Bool.and_eq_true, List.any_eq_true] at this; obtain ⟨_, k, hk, h5, h6⟩ := this; have := List.mem_range.1 hk; exact ⟨k, by simpa [Nat.blt_eq] using h5, by omega, h6⟩
  · have := hi i ops[i] (Array.getElem?_eq_getElem hlt)
    rw [Bool.and_eq_true, if_neg (by omega), List.all_eq_true] at this
    have := this.2 j (List.mem_range.2 hj); simp only [Bool.or_eq_true, Bool.and_eq_true, beq_iff_eq, Nat.blt_eq] at this; exact this
def doneAt (l : Array Bool) (i : Nat) : Prop := l[i]? = some true
theorem ready_iff {ops : Array Oper} {l : Array Bool} (hl : l.size = ops.size) {i : Nat} : i ∈ Region.ready .any ops l ↔ i < ops.size /\ ¬ doneAt l i /\ ∀ k, waits ops i k = true -> doneAt l k := by
 unfold Region.ready; rw [List.mem_filter, List.mem_range]
 constructor
 ·rintro ⟨h1, h2⟩
  have hi : i < l.size := by omega
  rw [Bool.and_eq_true] at h2; obtain ⟨h2, h3⟩ := h2; refine ⟨h1, fun hd => ?_, fun k hk => ?_⟩
  ·unfold doneAt at hd
   rw [Array.getD_eq_getD_getElem?, hd] at h2; simp at h2
  ·unfold waits at hk
   rw [Array.getElem?_eq_getElem h1] at h3 hk
   simp only [Option.map_some, Option.getD_some, Array.all_eq_true_iff_forall_mem] at h3; simp only [List.any_eq_true, Bool.and_eq_true, beq_iff_eq] at hk; obtain ⟨e, he, hb, hon⟩ := hk; have := h3 e (by simpa using he)
   rw [hb, hon] at this; simp only [Bool.not_true, Bool.false_or, Array.getD_eq_getD_getElem?] at this; unfold doneAt
   cases hx : l[k]? with
   | none => rw [hx] at this; simp at this
   | some b => rw [hx] at this; simp at this; rw [this]
 ·rintro ⟨h1, h2, h3⟩
  have hi : i < l.size := by omega
  refine ⟨h1, ?_⟩
  rw [Bool.and_eq_true]
  constructor
  ·rw [Array.getD_eq_getD_getElem?, Array.getElem?_eq_getElem hi]
   unfold doneAt at h2; rw [Array.getElem?_eq_getElem hi] at h2
   cases hx : l[i] with
   | true => rw [hx] at h2; exact absurd rfl h2
   | false => rfl
  ·rw [Array.getElem?_eq_getElem h1]
   simp only [Option.map_some, Option.getD_some, Array.all_eq_true_iff_forall_mem]; intro e he
   cases hb : Region.binds .any e with
   | false => rfl
   | true =>
    have := h3 e.on (by unfold waits; rw [Array.getElem?_eq_getElem h1]; simp only [List.any_eq_true, Bool.and_eq_true, beq_iff_eq]; exact ⟨e, by simpa using he, hb, rfl⟩)
    unfold doneAt at this; rw [Array.getD_eq_getD_getElem?, this]; rfl
def leftA (l : Array Bool) : Nat := l.toList.count false
theorem left_setA {l : Array Bool} {i : Nat} (hi : i < l.size) (h : ¬ doneAt l i) : leftA (l.setIfInBounds i true) + 1 = leftA l := by
 unfold leftA; rw [Array.toList_setIfInBounds]; have hl : i < l.toList.length := by simpa using hi
 have hf : l.toList[i] = false := by
  unfold doneAt at h; rw [Array.getElem?_eq_getElem hi] at h
  have e : l.toList[i] = l[i] := Array.getElem_toList _; rw [e]
  cases hx : l[i] with
  | true => rw [hx] at h; exact absurd rfl h
  | false => rfl
 have hpos : 0 < l.toList.count false := List.count_pos_iff.2 (hf ▸ List.getElem_mem hl); rw [List.count_set hl, hf]
 show l.toList.count false - 1 + 0 + 1 = l.toList.count false
 omega
theorem left_zeroA {l : Array Bool} (h : leftA l = 0) {i : Nat} (hi : i < l.size) : doneAt l i := by
 unfold leftA at h; have h0 : false ∉ l.toList := List.count_eq_zero.1 h; unfold doneAt; rw [Array.getElem?_eq_getElem hi]
 cases hx : l[i] with
 | true => rfl
 | false => exact absurd (by rw [<- hx]; exact Array.getElem_mem_toList hi) h0
theorem done_set {l : Array Bool} {i j : Nat} (hi : i < l.size) : doneAt (l.setIfInBounds i true) j ↔ j = i \/ doneAt l j := by
 unfold doneAt; rw [Array.getElem?_setIfInBounds]
 by_cases h : i = j
 ·subst h
  simp [hi]
 ·rw [if_neg h]
  constructor
  ·exact .inr
  ·rintro (h2 | h2)
   ·exact absurd h2.symm h
   ·exact h2
structure Early (ops : Array Oper) (m : Nat) (W0 : World) (post : Nat -> Value -> World -> Prop) (l : Array Bool) (q : Nat -> Value) (w : World) : Prop where
 size : l.size = ops.size
 later : ∀ i, m <= i -> ¬ doneAt l i
 closed : ∀ i k, doneAt l i -> waits ops i k = true -> doneAt l k
 below : Below W0.heap.size W0 w
 posts : ∀ i t, i < m -> doneAt l i -> dstOf ops i = some t -> post i (q t) w
theorem ready_early {ops : Array Oper} {ds : List Nat} {size m : Nat} (hs : Shape ops ds size m) {l : Array Bool} (hl : l.size = ops.size) {j : Nat} (hj : j < ops.size) (hd : ¬ doneAt l j) : Region.ready .any ops l ≠ [] := by
 have key : ∀ n j, j <= n -> j < ops.size -> ¬ doneAt l j -> ∃ i, i ∈ Region.ready .any ops l := by
  intro n
  induction n with
  | zero =>
   intro j hj0 hj hd; refine ⟨j, (ready_iff hl).2 ⟨hj, hd, fun k hk => ?_⟩⟩
   unfold waits at hk; rw [Array.getElem?_eq_getElem hj] at hk
   simp only [List.any_eq_true, Bool.and_eq_true, beq_iff_eq] at hk; obtain ⟨e, he, hb, hon⟩ := hk; have := hs.before j ops[j] e (Array.getElem?_eq_getElem hj) (by simpa using he) hb
   omega
  | succ n ih =>
   intro j hj0 hj hd
   by_cases h : ∀ k, waits ops j k = true -> doneAt l k
   ·exact ⟨j, (ready_iff hl).2 ⟨hj, hd, h⟩⟩
   ·obtain ⟨k, hk⟩ := Classical.not_forall.1 h
    obtain ⟨hk, hnd⟩ := Classical.not_imp.1 hk; have hk2 := hk; unfold waits at hk; rw [Array.getElem?_eq_getElem hj] at hk
    simp only [List.any_eq_true, Bool.and_eq_true, beq_iff_eq] at hk; obtain ⟨e, he, hb, hon⟩ := hk; have := hs.before j ops[j] e (Array.getElem?_eq_getElem hj) (by simpa using he) hb
    exact ih k (by omega) (by omega) hnd
 intro h; obtain ⟨i, hi⟩ := key j j (Nat.le_refl _) hj hd; rw [h] at hi
 cases hi
theorem all_early {ops : Array Oper} {ds : List Nat} {size m : Nat} (hs : Shape ops ds size m) {l : Array Bool} (hc : ∀ i k, doneAt l i -> waits ops i k = true -> doneAt l k) (hm : ∀ k, waits ops m k = true -> doneAt l k) : ∀ i, i < m -> doneAt l i := by
 have key : ∀ n i, m - i <= n -> i < m -> doneAt l i := by
  intro n
  induction n with
  | zero => intro i h1 h2; omega
  | succ n ih =>
   intro i h1 h2; obtain ⟨k, h3, h4, h5⟩ := hs.heir i h2
   by_cases hk : k = m
   ·subst hk; exact hm i h5
   ·exact hc k i (ih k (by omega) (by omega)) h5
 exact fun i hi => key _ i (Nat.le_refl _) hi
theorem wp_anyway {P : Program} {id : Nat} {ops : Array Oper} {Q : Exit -> Act -> World -> Prop} {a0 : Act} {w0 : World} (hmo : P.follows .mixedOrders = true) (ds : List Nat) (m : Nat) (post : Nat -> Value -> World -> Prop)
    (hsh : shapeOk ops ds a0.tmps.size m = true)
    (stable : ∀ i v w w', i < m -> post i v w -> Below w.heap.size w w' -> post i v w')
    (step : ∀ (i : Nat) (o : Oper), i < m -> ops[i]? = some o -> ∀ q w, Below w0.heap.size w0 w -> (∀ k t, waits ops i k = true -> dstOf ops k = some t -> post k (q t) w) -> Oper.wp P o (frm a0 ds q) w (fun a' w' => ∃ v, a' = (frm a0 ds q).put o.dst v /\ Below w.heap.size w w' /\ post i v w') Q)
    (last : ∀ q w, Below w0.heap.size w0 w -> (∀ i t, i < m -> dstOf ops i = some t -> post i (q t) w) -> wpOps P ops Q ((List.range' m (ops.size - m))) (frm a0 ds q) w) :
    (Code.region id ops true).wp P Q a0 w0 := by
  have hs := shape_of hsh; refine wp_region_any hmo ?_
  have hb0 : Below w0.heap.size w0 { w0 with drawn := w0.drawn + 1 } := ⟨rfl, rfl, rfl, Nat.le_refl _, fun _ _ => rfl⟩
  refine wpAny_invA (fun k l a w => k = leftA l /\ ((∃ q, a = frm a0 ds q /\ Early ops m w0 post l q w) \/ (l.size = ops.size /\ ∃ j, m <= j /\ j <= ops.size /\ (∀ i, doneAt l i ↔ i < j) /\ wpOps P ops Q (List.range' j (ops.size - j)) a w))) ?_ _ _ _ _ ⟨?_, .inl ⟨_, (frm_start a0 ds).symm, ?_⟩⟩
  · rintro k l a w ⟨hk, hI⟩
    have hlsz : l.size = ops.size := hI.elim (fun ⟨_, _, hE⟩ => hE.size) (fun ⟨h, _⟩ => h)
    refine ⟨fun hr => ?_, fun h0 => ?_, fun k' hk' i hi => ?_⟩
    · rcases hI with ⟨q, rfl, hE⟩ | ⟨_, j, hj1, hj2, hd, hw⟩
      · exact absurd hr (ready_early hs hE.size hs.lt (hE.later m (Nat.le_refl _)))
      · by_cases hjs : j = ops.size
        · subst hjs
          rw [Nat.sub_self] at hw; exact hw
        · exact absurd hr (ready_early hs hlsz (j := j) (by omega) (fun h => by have := (hd j).1 h; omega))
    · cases hr : Region.ready .any ops l with
      | nil => rfl
      | cons x xs =>
        have hx := (ready_iff hlsz (i := x)).1 (by rw [hr]; exact List.mem_cons_self)
        exact absurd (left_zeroA (by omega) (by omega)) hx.2.1
    · obtain ⟨h1, h2, h3⟩ := (ready_iff hlsz).1 hi
      have ho : ops[i]? = some ops[i] := Array.getElem?_eq_getElem h1
      have hgd := hs.guard i _ ho; have hleft := left_setA (by omega : i < l.size) h2
      have late : ∀ (j : Nat) (a : Act) (w : World), m <= j -> j <= ops.size -> (∀ i, doneAt l i ↔ i < j) -> wpOps P ops Q (List.range' j (ops.size - j)) a w -> wpOp P ops Q i (fun a' w' => k' = leftA (l.setIfInBounds i true) /\ ((∃ q, a' = frm a0 ds q /\ Early ops m w0 post (l.setIfInBounds i true) q w') \/ ((l.setIfInBounds i true).size = ops.size /\ ∃ j, m <= j /\ j <= ops.size /\ (∀ i', doneAt (l.setIfInBounds i true) i' ↔ i' < j) /\ wpOps P ops Q (List.range' j (ops.size - j)) a' w'))) a w := by
        intro j a w hj1 hj2 hd hw
        have hij : i = j := by
          have hge : j <= i := by
            rcases Nat.lt_or_ge i j with h | h
            · exact absurd ((hd i).2 h) h2
            · exact h
          rcases Nat.lt_or_ge j i with h | h
          · rcases hs.late i j (by omega) h1 h with h4 | h4
            · omega
            · have := (hd j).1 (h3 j h4); omega
          · omega
        subst hij; rw [show ops.size - i = (ops.size - (i + 1)) + 1 by omega, List.range'_succ, wpOps_cons] at hw
        refine wpOp_mono (fun a' w' h' => ⟨by omega, .inr ⟨by rw [Array.size_setIfInBounds]; exact hlsz, i + 1, by omega, by omega, fun i' => ?_, h'⟩⟩) hw
        rw [done_set (by omega), hd]
        omega
      rcases hI with ⟨q, rfl, hE⟩ | ⟨_, j, hj1, hj2, hd, hw⟩
      · by_cases him : i < m
        · obtain ⟨t, ht, hdt, hts, hne⟩ := hs.dst i _ him ho
          have hst := step i _ him ho q w hE.below (fun k t' hk ht' => by
            have hkd := h3 k hk
            have hkm : k < m := by
              rcases Nat.lt_or_ge k m with h | h
              · exact h
              · exact absurd hkd (hE.later k h)
            exact hE.posts k t' hkm hkd ht')
          unfold wpOp; rw [ho]
          show if Region.wanted ops[i] (yielded ops (frm a0 ds q).tmps) = true then _ else _
          rw [if_pos (by unfold Region.wanted; rw [hgd])]
          refine .inl (Oper.wp_mono ?_ hst)
          rintro a' w' ⟨v, rfl, hb, hp⟩
          rw [ht, frm_put hdt]; refine ⟨by omega, .inl ⟨_, rfl, ⟨by rw [Array.size_setIfInBounds]; exact hlsz, fun i' hi' hd' => ?_, fun i' k0 hd' hk0 => ?_, hE.below.trans (hb.mono hE.below.size), fun i' t' hi' hd' ht' => ?_⟩⟩⟩
          · rcases (done_set (by omega)).1 hd' with h | h
            · omega
            · exact hE.later i' hi' h
          · rw [done_set (by omega)]
            rcases (done_set (by omega)).1 hd' with h | h
            · subst h; exact .inr (h3 k0 hk0)
            · exact .inr (hE.closed i' k0 h hk0)
          · by_cases hii : i' = i
            · subst hii
              have : t' = t := by
                unfold dstOf at ht'; rw [ho] at ht'; exact Option.some.inj (ht'.symm.trans ht)
              subst this; rw [setV_same]; exact hp
            · rcases (done_set (by omega)).1 hd' with h | h
              · exact absurd h hii
              · rw [setV_other (fun e => hne i' hi' hii (by rw [ht', e]))]
                exact stable i' _ w w' hi' (hE.posts i' t' hi' h ht') hb
        · have him2 : i = m := by
            rcases Nat.lt_or_ge m i with h | h
            · rcases hs.late i m (by omega) h1 h with h4 | h4
              · omega
              · exact absurd (h3 m h4) (hE.later m (Nat.le_refl _))
            · omega
          subst him2; have hall := all_early hs hE.closed h3
          exact late i _ w (Nat.le_refl _) (by omega) (fun i' => ⟨fun h => by
            rcases Nat.lt_or_ge i' i with h' | h'
            · exact h'
            · exact absurd h (hE.later i' h'), fun h => hall i' h⟩) (last q w hE.below fun i' t' hi' ht' => hE.posts i' t' hi' (hall i' hi') ht')
      · exact late j a w hj1 hj2 hd hw
  · unfold leftA
    simp
  · have hnd : ∀ i, ¬ doneAt (Array.replicate ops.size false) i := fun i h => by
      unfold doneAt at h; rw [Array.getElem?_replicate] at h
      split at h <;> cases h
    exact ⟨by simp, fun i _ => hnd i, fun i _ h => absurd h (hnd i), hb0, fun i _ _ h => absurd h (hnd i)⟩
end
theorem op_val {P : Program} {o : Oper} {a : Act} {w w' : World} {v : Value} {post : Value -> World -> Prop} {Q : Exit -> Act -> World -> Prop} (hr : (execOp a.eval o).run P w = .ok (.value v) w') (hb : Below w.heap.size w w') (hp : post v w') : Oper.wp P o a w (fun a' w' => ∃ v, a' = a.put o.dst v /\ Below w.heap.size w w' /\ post v w') Q := by
 unfold Oper.wp; rw [hr]; exact ⟨v, rfl, hb, hp⟩
theorem op_call {P : Program} {o : Oper} {a : Act} {w : World} {f : FuncId} {args : Array Value} {post : Value -> World -> Prop} {Q : Exit -> Act -> World -> Prop} (hr : (execOp a.eval o).run P w = .ok (.enter f args) w) (hc : Calls P f args w fun e w' => ∃ v, e = .returned v /\ Below w.heap.size w w' /\ post v w') : Oper.wp P o a w (fun a' w' => ∃ v, a' = a.put o.dst v /\ Below w.heap.size w w' /\ post v w') Q := by
 unfold Oper.wp; rw [hr]; refine hc.mono ?_
 rintro e w' ⟨v, rfl, hb, hp⟩
 exact ⟨v, rfl, hb, hp⟩
theorem op_atR {P : Program} {ops : Array Oper} {Q : Exit -> Act -> World -> Prop} {i : Nat} {K : Act -> World -> Prop} {a : Act} {w : World} {o : Oper} (ho : ops[i]? = some o) (hg : o.guard = none) (h : o.wp P a w K Q) : wpOp P ops Q i K a w := by
 unfold wpOp; rw [ho]
 show if Region.wanted o (yielded ops a.tmps) = true then _ else _
 rw [if_pos (by unfold Region.wanted; rw [hg])]
 exact .inl h
theorem late_put {a : Act} {ds : List Nat} {q : Nat -> Value} {o : Oper} {v : Value} (t : Nat) (hd : o.dst = some t) (hc : ds.contains t = true) : (frm a ds q).put o.dst v = frm a ds (setV q t v) := by rw [hd, frm_put hc]
theorem op_run {P : Program} {o : Oper} {a : Act} {w w' : World} {v : Value} {K : Act -> World -> Prop} {Q : Exit -> Act -> World -> Prop} (hr : (execOp a.eval o).run P w = .ok (.value v) w') (h : K (a.put o.dst v) w') : Oper.wp P o a w K Q := by
 unfold Oper.wp; rw [hr]; exact h
theorem op_skip {P : Program} {o : Oper} {a : Act} {w w' : World} {K : Act -> World -> Prop} {Q : Exit -> Act -> World -> Prop} (hd : o.dst = none) (hr : (execOp a.eval o).run P w = .ok .skip w') (h : K a w') : Oper.wp P o a w K Q := by
 unfold Oper.wp; rw [hr]
 show K (a.put o.dst undef) w'
 rw [hd]; exact h
end Go.Proofs.YtepefdhdcfnmkaaGreatDoor
namespace Go.Proofs.YtepefdhdcfnmkaaGreatDoor
open Go.ChangeShapes Go.WideShapes Go.ChangeAt Go.RowKit Go.Deep
open Terms
set_option maxHeartbeats 6400000
set_option maxRecDepth 20000
def clmTo (a : List Int) (h : Nat -> Nat -> Bool) (j : Nat) : Nat -> Int
 | 0 => 0
 | k + 1 => clmTo a h j k + if h (a.getD k 0).toNat j = true then 2 ^ k else 0
theorem clmTo_bounds (a : List Int) (h : Nat -> Nat -> Bool) (j : Nat) : ∀ k, 0 <= clmTo a h j k /\ clmTo a h j k < 2 ^ k := by
 intro k
 induction k with
 | zero => simp [clmTo]
 | succ k ih =>
  have h2 : (0 : Int) < 2 ^ k := Int.pow_pos (by decide)
  simp only [clmTo]; rw [Int.pow_succ]
  split <;> omega
end Go.Proofs.YtepefdhdcfnmkaaGreatDoor
namespace Go.Proofs.YtepefdhdcfnmkaaGreatDoor
open Terms
set_option maxHeartbeats 6400000
set_option maxRecDepth 20000
theorem bit_clm (a : List Int) (h : Nat -> Nat -> Bool) (j : Nat) : ∀ n k, k < n -> bitB (clmTo a h j n) k = h (a.getD k 0).toNat j := by
 intro n
 induction n with
 | zero => intro k hk; omega
 | succ n ih =>
  intro k hk; obtain ⟨b0, b1⟩ := clmTo_bounds a h j n; have hp : (0 : Int) < 2 ^ k := Int.pow_pos (by decide)
  by_cases e : k = n
  ·subst e
   have e1 : clmTo a h j (k + 1) = clmTo a h j k + if h (a.getD k 0).toNat j = true then 2 ^ k else 0 := rfl
   by_cases hb : h (a.getD k 0).toNat j = true
   ·rw [if_pos hb] at e1
    have : (clmTo a h j k + 2 ^ k) / 2 ^ k = 1 := by
     rw [show clmTo a h j k + 2 ^ k = clmTo a h j k + 1 * 2 ^ k by omega, Int.add_mul_ediv_right _ _ (by omega), Int.ediv_eq_zero_of_lt b0 b1]
     rfl
    rw [hb, e1]; unfold bitB; rw [this]; rfl
   ·rw [if_neg hb, Int.add_zero] at e1
    rw [e1, Bool.eq_false_iff.2 hb]; unfold bitB; rw [Int.ediv_eq_zero_of_lt b0 b1]; rfl
  ·have hkn : k < n := by omega
   rw [<- ih k hkn]; have e1 : clmTo a h j (n + 1) = clmTo a h j n + if h (a.getD n 0).toNat j = true then 2 ^ n else 0 := rfl
   by_cases hb : h (a.getD n 0).toNat j = true
   ·rw [if_pos hb] at e1
    obtain ⟨d, hd⟩ : ∃ d, n = k + 1 + d := ⟨n - (k + 1), by omega⟩
    have e2 : (2 : Int) ^ n = (2 * 2 ^ d) * 2 ^ k := by rw [hd, Int.pow_add, Int.pow_succ]; simp [Int.mul_comm, Int.mul_left_comm, Int.mul_assoc]
    have e3 : clmTo a h j (n + 1) / 2 ^ k % 2 = clmTo a h j n / 2 ^ k % 2 := by
     rw [e1, e2, Int.add_mul_ediv_right _ _ (by omega)]
     omega
    unfold bitB; rw [e3]
   ·rw [if_neg hb, Int.add_zero] at e1
    rw [e1]
theorem op_at {T : Tm} {l : List (Int × Int)} (ho : T.ops = l) {q : Nat} (hq : q < T.size) : l.getD q (0, 0) = ((T.sub q).kind, (T.sub q).val) := by
 obtain ⟨r, hr⟩ := Tm.sub_drop T q hq; rw [ho] at hr; have h0 : l.getD q (0, 0) = (l.drop q).getD 0 (0, 0) := by simp [List.getD_eq_getElem?_getD]
 rw [h0, hr, <- Tm.ops_head (T.sub q) (0, 0)]; have hne := Tm.ops_ne (T.sub q)
 cases hx : (T.sub q).ops with
 | nil => exact absurd hx hne
 | cons x s => simp
theorem sub_one {T : Tm} {q : Nat} {k v : Int} {a : Tm} (hq : q < T.size) (e : T.sub q = .un k v a) : T.sub (q + 1) = a := by
 have := Tm.sub_sub T q 1 hq (by rw [e]; have := a.size_pos; simp [Tm.size]; omega)
 rw [this, e]; exact Tm.sub_zero a
theorem sub_fst {T : Tm} {q : Nat} {k v : Int} {a b : Tm} (hq : q < T.size) (e : T.sub q = .bi k v a b) : T.sub (q + 1) = a := by
 have ha := a.size_pos; have := Tm.sub_sub T q 1 hq (by rw [e]; simp [Tm.size]; omega)
 rw [this, e]
 show (if 0 < a.size then a.sub 0 else b.sub (0 - a.size)) = a
 rw [if_pos (by omega), Tm.sub_zero]
theorem sub_snd {T : Tm} (hw : T.Wf) {l : List (Int × Int)} (ho : T.ops = l) {q : Nat} {k v : Int} {a b : Tm} (hq : q < T.size) (e : T.sub q = .bi k v a b) : T.sub (sec l q) = b := by
 have ha := a.size_pos; have hb := b.size_pos; have hf := Tm.sub_fits T hq; rw [e] at hf; simp only [Tm.size] at hf; have h1 := (Tm.end_at hw (q := q + 1) (by omega)).1
 rw [ho, sub_fst hq e] at h1; have hs : sec l q = q + (1 + a.size) := by unfold sec; rw [h1]; omega
 rw [hs, Tm.sub_sub T q (1 + a.size) hq (by rw [e]; simp only [Tm.size]; omega), e, show 1 + a.size = a.size + 1 by omega]
 show (if a.size < a.size then a.sub a.size else b.sub (a.size - a.size)) = b
 rw [if_neg (by omega), Nat.sub_self, Tm.sub_zero]
theorem line_tru {T : Tm} (hw : T.Wf) {l : List (Int × Int)} (ho : T.ops = l) (hz : endsCode (l.map Prod.fst) = 0) (σ : Nat -> Nat -> Bool) (letter : List Bool) (i : Nat) (hl : ∀ v : Int, 0 <= v -> letter.getD v.toNat false = σ i v.toNat) (hv : ∀ q, q < l.length -> (l.getD q (0, 0)).1 = 13 -> 0 <= (l.getD q (0, 0)).2) (h8 : ∀ q, q < l.length -> 8 <= (l.getD q (0, 0)).1) :
  ∀ d p, l.length <= p + d -> p < l.length -> tru l letter (clmTo (aheadL l) (fun q => (T.sub q).hb σ) i (aheadL l).length) p = (T.sub p).hb σ i := by
 have hsz : T.size = l.length := by rw [<- Tm.ops_length, ho]
 intro d
 induction d with
 | zero => intro p h1 h2; omega
 | succ d ih =>
  intro p h1 h2; have hq : p < T.size := by omega
  have hop := op_at ho hq; obtain ⟨q1, q2⟩ := part_in hz h2
  cases hb : lookB (l.getD p (0, 0)).1 with
  | true =>
   rw [tru_look h2 hb]
   have hlt : (aheadTo l p).length < (aheadL l).length := by
    have := aheadTo_mono l (p := p + 1) (n := l.length) (by omega)
    rw [aheadTo_yes hb, List.length_append] at this; exact this
   rw [bit_clm _ _ _ _ _ hlt]; obtain ⟨p', e1, e2, e3, e4⟩ := aheadTo_get l l.length (aheadTo l p).length hlt; have e1' : (aheadL l).getD (aheadTo l p).length 0 = (p' : Int) := e1; rw [e1']
   have : p' = p := by
    rcases Nat.lt_trichotomy p' p with h | h | h
    ·have := aheadTo_mono l (p := p' + 1) (n := p) (by omega)
     rw [aheadTo_yes e3, List.length_append] at this; simp at this; omega
    ·exact h
    ·have := aheadTo_mono l (p := p + 1) (n := p') (by omega)
     rw [aheadTo_yes hb, List.length_append] at this; simp at this; omega
   rw [this]; rfl
  | false =>
   rw [tru_mk h2 hb (fun h => (q2 h).1)]
   have hwf := Tm.sub_wf hw p; rw [hop] at hb q1 q2 ⊢; have hvp := hv p h2; rw [hop] at hvp
   cases hT : T.sub p with
   | leaf k v =>
    rw [hT] at hb hvp hwf; simp only [Tm.kind, Tm.val] at hb hvp ⊢; unfold mkB
    by_cases k13 : k = 13
    ·subst k13
     rw [if_pos rfl, Tm.hb_prop]; exact hl v (hvp rfl)
    ·by_cases k11 : k = 11
     ·subst k11
      rw [Tm.hb_yes]; rfl
     ·rw [Tm.hb_no _ _ _ k13 k11]
      have hpn : pn k = 0 := hwf.2; have k8 : k ≠ 8 := fun e => by rw [e] at hpn; exact absurd hpn (by decide)
      have k9 : k ≠ 9 := fun e => by rw [e] at hpn; exact absurd hpn (by decide)
      have k10 : k ≠ 10 := fun e => by rw [e] at hpn; exact absurd hpn (by decide)
      simp [k13, k11, k8, k9, k10]
   | un k v a =>
    have hs1 := sub_one hq hT; rw [hT] at hb hwf q1; simp only [Tm.kind, Tm.val] at hb q1 ⊢; have hpn : pn k = 1 := hwf.2.1; have hok : okK k = true := hwf.1
    have hk : k = 10 := by
     have h14 : ¬ (14 <= k /\ k <= 18) := by simpa [lookB] using hb
     unfold pn at hpn
     split at hpn
     ·omega
     ·split at hpn <;> omega
    subst hk; rw [ih (p + 1) (by omega) (q1 (by rw [hpn]; exact Nat.le_refl _)), hs1, Tm.hb_not]
    rfl
   | bi k v a b =>
    have hs1 := sub_fst hq hT; have hs2 := sub_snd hw ho hq hT; have h8p := h8 p h2; rw [hop, hT] at h8p; rw [hT] at hb hwf q1 q2; simp only [Tm.kind, Tm.val] at hb q1 q2 ⊢; have hpn : pn k = 2 := hwf.2.1; rw [ih (p + 1) (by omega) (q1 (by omega)), ih (sec l p) (by have := (q2 hpn).1; omega) (q2 hpn).2, hs1, hs2]
    simp only [Tm.kind] at h8p
    have hk : k = 8 \/ k = 9 := by
     have h14 : ¬ (14 <= k /\ k <= 18) := by simpa [lookB] using hb
     unfold pn at hpn
     split at hpn
     ·omega
     ·split at hpn <;> omega
    rcases hk with rfl | rfl
    ·rw [Tm.hb_and]; rfl
    ·rw [Tm.hb_or]; rfl
theorem kind_cases {k : Int} (h : lookB k = true) : k = 14 \/ k = 15 \/ k = 16 \/ k = 17 \/ k = 18 := by
 have : 14 <= k /\ k <= 18 := by simpa [lookB] using h
 omega
theorem look_parts {T : Tm} (hw : T.Wf) {l : List (Int × Int)} (ho : T.ops = l) {p : Nat} (hp : p < l.length) (hb : lookB (l.getD p (0, 0)).1 = true) :
  (∃ k v a, (k = 14 \/ k = 17 \/ k = 18) /\ (l.getD p (0, 0)).1 = k /\ T.sub p = .un k v a /\ T.sub (p + 1) = a) \/ (∃ k v a b, (k = 15 \/ k = 16) /\ (l.getD p (0, 0)).1 = k /\ T.sub p = .bi k v a b /\ T.sub (p + 1) = a /\ T.sub (sec l p) = b) := by
 have hsz : T.size = l.length := by rw [<- Tm.ops_length, ho]
 have hq : p < T.size := by omega
 have hop := op_at ho hq; have hwf := Tm.sub_wf hw p; have hk := kind_cases hb; rw [hop] at hk ⊢
 cases hT : T.sub p with
 | leaf k v =>
  rw [hT] at hk hwf; have hpn : pn k = 0 := hwf.2; simp only [Tm.kind] at hk
  exfalso
  rcases hk with rfl | rfl | rfl | rfl | rfl <;> exact absurd hpn (by decide)
 | un k v a =>
  have h1 := sub_one hq hT; rw [hT] at hk hwf; have hpn : pn k = 1 := hwf.2.1; simp only [Tm.kind] at hk ⊢
  left
  refine ⟨k, v, a, ?_, rfl, rfl, h1⟩
  rcases hk with rfl | rfl | rfl | rfl | rfl
  ·exact .inl rfl
  ·exact absurd hpn (by decide)
  ·exact absurd hpn (by decide)
  ·exact .inr (.inl rfl)
  ·exact .inr (.inr rfl)
 | bi k v a b =>
  have h1 := sub_fst hq hT; have h2 := sub_snd hw ho hq hT; rw [hT] at hk hwf; have hpn : pn k = 2 := hwf.2.1; simp only [Tm.kind] at hk ⊢
  right
  refine ⟨k, v, a, b, ?_, rfl, rfl, h1, h2⟩
  rcases hk with rfl | rfl | rfl | rfl | rfl
  ·exact absurd hpn (by decide)
  ·exact .inl rfl
  ·exact .inr rfl
  ·exact absurd hpn (by decide)
  ·exact absurd hpn (by decide)
theorem line_come {T : Tm} (hw : T.Wf) {l : List (Int × Int)} (ho : T.ops = l) (σ : Nat -> Nat -> Bool) {p : Nat} (hp : p < l.length) (hb : lookB (l.getD p (0, 0)).1 = true) (i : Nat) :
  (T.sub p).hb σ i = comeB (l.getD p (0, 0)).1 ((T.sub (p + 1)).hb σ i) ((T.sub (sec l p)).hb σ i) ((T.sub p).hb σ (i + 1)) ((T.sub (p + 1)).hb σ (i + 1)) := by
 rcases look_parts hw ho hp hb with ⟨k, v, a, hk, e1, e2, e3⟩ | ⟨k, v, a, b, hk, e1, e2, e3, e4⟩
 ·rw [e1, e2, e3]
  rcases hk with rfl | rfl | rfl
  ·rw [Tm.hb_next]; rfl
  ·rw [Tm.hb_fin, untB_step, <- Tm.hb_fin σ v]; simp [comeB]
  ·rw [Tm.hb_glob, untB_step, <- Tm.hb_glob σ v]; simp [comeB]
 ·rw [e1, e2, e3, e4]
  rcases hk with rfl | rfl
  ·rw [Tm.hb_until, untB_step, <- Tm.hb_until σ v]; rfl
  ·rw [Tm.hb_rel, untB_step, <- Tm.hb_rel σ v]
   show (_ || _) = (_ && (_ || _))
   cases Tm.hb σ a i <;> cases Tm.hb σ b i <;> simp
theorem line_meets {T : Tm} (hw : T.Wf) {l : List (Int × Int)} (ho : T.ops = l) {ls : List (List Bool)} {s : Nat} (hs : s < ls.length) {p : Nat} (hp : p < l.length) (hb : lookB (l.getD p (0, 0)).1 = true) :
  ∃ i, s <= i /\ i < ls.length /\ waitB (l.getD p (0, 0)).1 ((T.sub p).hb (sig ls s) i) ((T.sub (p + 1)).hb (sig ls s) i) ((T.sub (sec l p)).hb (sig ls s) i) = false := by
 refine Classical.byContradiction fun hno => ?_
 have hall : ∀ i, s <= i -> waitB (l.getD p (0, 0)).1 ((T.sub p).hb (sig ls s) i) ((T.sub (p + 1)).hb (sig ls s) i) ((T.sub (sec l p)).hb (sig ls s) i) = true := fun i hi => by
  have hm : s <= moAt s ls.length i /\ moAt s ls.length i < ls.length := ⟨by unfold moAt; split <;> omega, moAt_lt hs⟩
  refine Classical.byContradiction fun hf => hno ⟨moAt s ls.length i, hm.1, hm.2, ?_⟩
  rw [hb_mo hs, hb_mo hs, hb_mo hs]; exact Bool.eq_false_iff.2 hf
 rcases look_parts hw ho hp hb with ⟨k, v, a, hk, e1, e2, e3⟩ | ⟨k, v, a, b, hk, e1, e2, e3, e4⟩
 ·rw [e1, e2, e3] at hall
  rcases hk with rfl | rfl | rfl
  ·exact absurd (hall s (Nat.le_refl _)) (by simp [waitB])
  ·have h1 : ∀ i, s <= i -> Tm.hb (sig ls s) (.un 17 v a) i = true /\ Tm.hb (sig ls s) a i = false := fun i hi => by simpa [waitB] using hall i hi
   have h0 := (h1 s (Nat.le_refl _)).1; rw [Tm.hb_fin, untB_iff] at h0
   rcases h0 with ⟨j, hj, hu, _⟩ | ⟨hd, _⟩
   ·rw [(h1 j hj).2] at hu; cases hu
   ·cases hd
  ·have h1 : ∀ i, s <= i -> Tm.hb (sig ls s) (.un 18 v a) i = false /\ Tm.hb (sig ls s) a i = true := fun i hi => by simpa [waitB] using hall i hi
   have h0 := (h1 s (Nat.le_refl _)).1
   have : Tm.hb (sig ls s) (.un 18 v a) s = true := by
    rw [Tm.hb_glob, untB_iff]; exact .inr ⟨rfl, fun m hm => (h1 m hm).2⟩
   rw [this] at h0; cases h0
 ·rw [e1, e2, e3, e4] at hall
  rcases hk with rfl | rfl
  ·have h1 : ∀ i, s <= i -> Tm.hb (sig ls s) (.bi 15 v a b) i = true /\ Tm.hb (sig ls s) b i = false := fun i hi => by simpa [waitB] using hall i hi
   have h0 := (h1 s (Nat.le_refl _)).1; rw [Tm.hb_until, untB_iff] at h0
   rcases h0 with ⟨j, hj, hu, _⟩ | ⟨hd, _⟩
   ·rw [(h1 j hj).2] at hu; cases hu
   ·cases hd
  ·have h1 : ∀ i, s <= i -> Tm.hb (sig ls s) (.bi 16 v a b) i = false /\ Tm.hb (sig ls s) b i = true := fun i hi => by simpa [waitB] using hall i hi
   have h0 := (h1 s (Nat.le_refl _)).1
   have : Tm.hb (sig ls s) (.bi 16 v a b) s = true := by
    rw [Tm.hb_rel, untB_iff]; exact .inr ⟨rfl, fun m hm => (h1 m hm).2⟩
   rw [this] at h0; cases h0
theorem const_from {t : Nat -> Bool} {i j : Nat} (h : ∀ m, i <= m -> m < j -> t m = t (m + 1)) : ∀ m, i <= m -> m <= j -> t i = t m := by
 intro m
 induction m with
 | zero => intro h1 _; rw [Nat.le_zero.1 h1]
 | succ m ih =>
  intro h1 h2
  by_cases e : i = m + 1
  ·rw [e]
  ·rw [ih (by omega) (by omega), h m (by omega) (by omega)]
theorem unt_unique {u v t : Nat -> Bool} (d : Bool) (hst : ∀ i, t i = (u i || (v i && t (i + 1)))) (i : Nat) : t i = untB u v d i \/ ∀ m, i <= m -> u m = false /\ v m = true /\ t m = !d := by
  by_cases hex : ∃ j, i <= j /\ (u j = true \/ v j = false)
  · left
    obtain ⟨j0, h0, h1⟩ := hex; obtain ⟨j, hj, hp, hless⟩ := Tm.least (P := fun j => u j = true \/ v j = false) i j0 h0 h1
    have hmid : ∀ m, i <= m -> m < j -> u m = false /\ v m = true := fun m a b => by
      have := hless m a b
      constructor
      · exact Bool.eq_false_iff.2 fun e => this (.inl e)
      · exact Classical.byContradiction fun e => this (.inr (Bool.eq_false_iff.2 e))
    have h1 := const_from (t := t) (i := i) (j := j) (fun m a b => by have := hmid m a b; rw [hst m, this.1, this.2]; simp) j hj (Nat.le_refl _)
    have h2 := const_from (t := untB u v d) (i := i) (j := j) (fun m a b => by have := hmid m a b; rw [untB_step u v d m, this.1, this.2]; simp) j hj (Nat.le_refl _)
    rw [h1, h2, hst j, untB_step]
    rcases hp with h | h
    · rw [h]; simp
    · rw [h]; simp
  · have hall : ∀ m, i <= m -> u m = false /\ v m = true := fun m hm => by
      constructor
      · exact Bool.eq_false_iff.2 fun e => hex ⟨m, hm, .inl e⟩
      · exact Classical.byContradiction fun e => hex ⟨m, hm, .inr (Bool.eq_false_iff.2 e)⟩
    have hc : ∀ m, i <= m -> t i = t m := fun m hm => const_from (t := t) (i := i) (j := m) (fun k a _ => by have := hall k a; rw [hst k, this.1, this.2]; simp) m hm (Nat.le_refl _)
    by_cases e : t i = d
    · left
      rw [e, unt_stuck (u := u) (v := v) (d := d) hall]
    · right
      intro m hm; refine ⟨(hall m hm).1, (hall m hm).2, ?_⟩
      rw [<- hc m hm]; generalize t i = x at e
      cases d <;> cases x <;> first | rfl | exact absurd rfl e
theorem line_only {T : Tm} (hw : T.Wf) {l : List (Int × Int)} (ho : T.ops = l) (hz : endsCode (l.map Prod.fst) = 0) {ls : List (List Bool)} {s : Nat} (hs : s < ls.length) (t : Nat -> Nat -> Bool)
  (hper : ∀ i p, t (moAt s ls.length i) p = t i p)
  (hmk : ∀ i p, p < l.length -> lookB (l.getD p (0, 0)).1 = false -> (1 <= pn (l.getD p (0, 0)).1 -> t i (p + 1) = (T.sub (p + 1)).hb (sig ls s) i) -> (pn (l.getD p (0, 0)).1 = 2 -> t i (sec l p) = (T.sub (sec l p)).hb (sig ls s) i) -> t i p = (T.sub p).hb (sig ls s) i)
  (hfol : ∀ i p, p < l.length -> lookB (l.getD p (0, 0)).1 = true -> t i p = comeB (l.getD p (0, 0)).1 (t i (p + 1)) (t i (sec l p)) (t (i + 1) p) (t (i + 1) (p + 1)))
  (hmet : ∀ p, p < l.length -> lookB (l.getD p (0, 0)).1 = true -> ∃ i, s <= i /\ i < ls.length /\ waitB (l.getD p (0, 0)).1 (t i p) (t i (p + 1)) (t i (sec l p)) = false) :
  ∀ d p, l.length <= p + d -> p < l.length -> ∀ i, t i p = (T.sub p).hb (sig ls s) i := by
 intro d
 induction d with
 | zero => intro p h1 h2; omega
 | succ d ih =>
  intro p h1 h2 i; obtain ⟨q1, q2⟩ := part_in hz h2
  cases hb : lookB (l.getD p (0, 0)).1 with
  | false => exact hmk i p h2 hb (fun h => ih (p + 1) (by omega) (q1 h) i) (fun h => ih (sec l p) (by have := (q2 h).1; omega) (q2 h).2 i)
  | true =>
   have hnw : ∀ c, (∀ m, c <= m -> waitB (l.getD p (0, 0)).1 (t m p) (t m (p + 1)) (t m (sec l p)) = true) -> False := fun c hall => by
    obtain ⟨i0, a1, a2, a3⟩ := hmet p h2 hb
    have hj : moAt s ls.length (i0 + c * (ls.length - s)) = i0 := by
     unfold moAt
     split
     ·rename_i hlt
      have : c * (ls.length - s) = 0 := by
       rcases Nat.eq_zero_or_pos c with h | h
       ·rw [h, Nat.zero_mul]
       ·have : ls.length - s <= c * (ls.length - s) := Nat.le_mul_of_pos_left _ h
        omega
      omega
     ·rw [show i0 + c * (ls.length - s) - s = (i0 - s) + c * (ls.length - s) by omega, Nat.add_mul_mod_self_right, Nat.mod_eq_of_lt (by omega)]
      omega
    have hle : c <= i0 + c * (ls.length - s) := by
     have : c * 1 <= c * (ls.length - s) := Nat.mul_le_mul_left _ (by omega)
     omega
    have := hall _ hle; rw [<- hper (i0 + c * (ls.length - s)) p, <- hper (i0 + c * (ls.length - s)) (p + 1), <- hper (i0 + c * (ls.length - s)) (sec l p), hj, a3] at this
    cases this
   rcases look_parts hw ho h2 hb with ⟨k, v, a, hk, e1, e2, e3⟩ | ⟨k, v, a, b, hk, e1, e2, e3, e4⟩
   ·have hp1 : p + 1 < l.length := q1 (by rw [e1]; rcases hk with rfl | rfl | rfl <;> decide)
    have ha : ∀ i, t i (p + 1) = Tm.hb (sig ls s) a i := fun i => by rw [ih (p + 1) (by omega) hp1 i, e3]
    have hf := fun i => hfol i p h2 hb
    rw [e1] at hnw; rw [e2]
    rcases hk with rfl | rfl | rfl
    ·have := hf i
     rw [e1] at this; rw [this, Tm.hb_next, <- ha]; rfl
    ·rw [Tm.hb_fin]
     rcases unt_unique (u := Tm.hb (sig ls s) a) (v := fun _ => true) (t := fun i => t i p) false (fun i => by show t i p = _; rw [hf i, e1, ha]; rfl) i with h | h
     ·exact h
     ·exact (hnw i fun m hm => by have := h m hm; rw [ha, this.1, this.2.2]; rfl).elim
    ·rw [Tm.hb_glob]
     rcases unt_unique (u := fun _ => false) (v := Tm.hb (sig ls s) a) (t := fun i => t i p) true (fun i => by show t i p = _; rw [hf i, e1, ha]; simp [comeB]) i with h | h
     ·exact h
     ·exact (hnw i fun m hm => by have := h m hm; rw [ha, this.2.1, this.2.2]; rfl).elim
   ·have hp2 : pn (l.getD p (0, 0)).1 = 2 := by rw [e1]; rcases hk with rfl | rfl <;> rfl
    have hp1 : p + 1 < l.length := q1 (by omega)
    have ha : ∀ i, t i (p + 1) = Tm.hb (sig ls s) a i := fun i => by rw [ih (p + 1) (by omega) hp1 i, e3]
    have hbb : ∀ i, t i (sec l p) = Tm.hb (sig ls s) b i := fun i => by rw [ih (sec l p) (by have := (q2 hp2).1; omega) (q2 hp2).2 i, e4]
    have hf := fun i => hfol i p h2 hb
    rw [e1] at hnw; rw [e2]
    rcases hk with rfl | rfl
    ·rw [Tm.hb_until]
     rcases unt_unique (u := Tm.hb (sig ls s) b) (v := Tm.hb (sig ls s) a) (t := fun i => t i p) false (fun i => by show t i p = _; rw [hf i, e1, ha, hbb]; rfl) i with h | h
     ·exact h
     ·exact (hnw i fun m hm => by have := h m hm; rw [hbb, this.1, this.2.2]; cases t m (p + 1) <;> rfl).elim
    ·rw [Tm.hb_rel]
     rcases unt_unique (u := fun j => Tm.hb (sig ls s) a j && Tm.hb (sig ls s) b j) (v := Tm.hb (sig ls s) b) (t := fun i => t i p) true (fun i => by show t i p = _; rw [hf i, e1, ha, hbb]; show (_ && (_ || _)) = (_ || _); cases Tm.hb (sig ls s) a i <;> cases Tm.hb (sig ls s) b i <;> simp) i with h | h
     ·exact h
     ·exact (hnw i fun m hm => by have := h m hm; rw [hbb, this.2.1, this.2.2]; cases t m (p + 1) <;> rfl).elim
theorem mk_hb {T : Tm} (hw : T.Wf) {l : List (Int × Int)} (ho : T.ops = l) (σ : Nat -> Nat -> Bool) (letter : List Bool) (i : Nat) (hl : ∀ v : Int, 0 <= v -> letter.getD v.toNat false = σ i v.toNat) (hv : ∀ q, q < l.length -> (l.getD q (0, 0)).1 = 13 -> 0 <= (l.getD q (0, 0)).2) (h8 : ∀ q, q < l.length -> 8 <= (l.getD q (0, 0)).1) {p : Nat} (h2 : p < l.length) (hb : lookB (l.getD p (0, 0)).1 = false) {x y : Bool} (hx1 : 1 <= pn (l.getD p (0, 0)).1 -> x = (T.sub (p + 1)).hb σ i) (hx2 : pn (l.getD p (0, 0)).1 = 2 -> y = (T.sub (sec l p)).hb σ i) : mkB (l.getD p (0, 0)) letter x y = (T.sub p).hb σ i := by
 have hsz : T.size = l.length := by rw [<- Tm.ops_length, ho]
 have hq : p < T.size := by omega
 have hop := op_at ho hq; have hwf := Tm.sub_wf hw p; rw [hop] at hb hx1 hx2 ⊢; have hvp := hv p h2; rw [hop] at hvp
 cases hT : T.sub p with
 | leaf k v =>
  rw [hT] at hb hvp hwf; simp only [Tm.kind, Tm.val] at hb hvp ⊢; unfold mkB
  by_cases k13 : k = 13
  ·subst k13
   rw [if_pos rfl, Tm.hb_prop]; exact hl v (hvp rfl)
  ·by_cases k11 : k = 11
   ·subst k11
    rw [Tm.hb_yes]; rfl
   ·rw [Tm.hb_no _ _ _ k13 k11]
    have hpn : pn k = 0 := hwf.2; have k8 : k ≠ 8 := fun e => by rw [e] at hpn; exact absurd hpn (by decide)
    have k9 : k ≠ 9 := fun e => by rw [e] at hpn; exact absurd hpn (by decide)
    have k10 : k ≠ 10 := fun e => by rw [e] at hpn; exact absurd hpn (by decide)
    simp [k13, k11, k8, k9, k10]
 | un k v a =>
  have hs1 := sub_one hq hT; rw [hT] at hb hwf hx1; simp only [Tm.kind, Tm.val] at hb hx1 ⊢; have hpn : pn k = 1 := hwf.2.1; have hok : okK k = true := hwf.1
  have hk : k = 10 := by
   have h14 : ¬ (14 <= k /\ k <= 18) := by simpa [lookB] using hb
   unfold pn at hpn
   split at hpn
   ·omega
   ·split at hpn <;> omega
  subst hk; rw [hx1 (by rw [hpn]; exact Nat.le_refl _), hs1, Tm.hb_not]
  rfl
 | bi k v a b =>
  have hs1 := sub_fst hq hT; have hs2 := sub_snd hw ho hq hT; have h8p := h8 p h2; rw [hop, hT] at h8p; rw [hT] at hb hwf hx1 hx2; simp only [Tm.kind, Tm.val] at hb hx1 hx2 ⊢; have hpn : pn k = 2 := hwf.2.1; rw [hx1 (by omega), hx2 hpn, hs1, hs2]
  simp only [Tm.kind] at h8p
  have hk : k = 8 \/ k = 9 := by
   have h14 : ¬ (14 <= k /\ k <= 18) := by simpa [lookB] using hb
   unfold pn at hpn
   split at hpn
   ·omega
   ·split at hpn <;> omega
  rcases hk with rfl | rfl
  ·rw [Tm.hb_and]; rfl
  ·rw [Tm.hb_or]; rfl
theorem bits_eq : ∀ (n : Nat) (x y : Int), 0 <= x -> x < 2 ^ n -> 0 <= y -> y < 2 ^ n -> (∀ k, k < n -> bitB x k = bitB y k) -> x = y := by
 intro n
 induction n with
 | zero => intro x y a b c d _; simp at b d; omega
 | succ n ih =>
  intro x y a b c d h; rw [Int.pow_succ] at b d; have h0 : bitB x 0 = bitB y 0 := h 0 (by omega)
  have e0 : x % 2 = y % 2 := by
   unfold bitB at h0; simp only [Int.pow_zero, Int.ediv_one] at h0; have hx : x % 2 = 0 \/ x % 2 = 1 := by omega
   have hy : y % 2 = 0 \/ y % 2 = 1 := by omega
   rcases hx with hx | hx <;> rcases hy with hy | hy
   ·rw [hx, hy]
   ·rw [hx, hy] at h0; simp at h0
   ·rw [hx, hy] at h0; simp at h0
   ·rw [hx, hy]
  have hh : x / 2 = y / 2 := ih (x / 2) (y / 2) (by omega) (by omega) (by omega) (by omega) fun k hk => by
   have := h (k + 1) (by omega)
   unfold bitB at this ⊢; rw [Int.pow_succ, Int.mul_comm, <- Int.ediv_ediv_of_nonneg (by decide), <- Int.ediv_ediv_of_nonneg (by decide)] at this
   exact this
  omega
theorem claims_only {T : Tm} (hw : T.Wf) {l : List (Int × Int)} (ho : T.ops = l) (hz : endsCode (l.map Prod.fst) = 0) (hv : ∀ q, q < l.length -> (l.getD q (0, 0)).1 = 13 -> 0 <= (l.getD q (0, 0)).2) (h8 : ∀ q, q < l.length -> 8 <= (l.getD q (0, 0)).1) {ls : List (List Bool)} {s : Nat} (hs : s < ls.length) (mine : Nat -> Int)
  (hm : ∀ i, i < ls.length -> 0 <= mine i /\ mine i < 2 ^ (aheadL l).length)
  (hfol : ∀ i, i < ls.length -> ∀ p, p < l.length -> lookB (l.getD p (0, 0)).1 = true -> tru l (ls.getD i []) (mine i) p = comeB (l.getD p (0, 0)).1 (tru l (ls.getD i []) (mine i) (p + 1)) (tru l (ls.getD i []) (mine i) (sec l p)) (tru l (ls.getD (moAt s ls.length (i + 1)) []) (mine (moAt s ls.length (i + 1))) p) (tru l (ls.getD (moAt s ls.length (i + 1)) []) (mine (moAt s ls.length (i + 1))) (p + 1)))
  (hmet : ∀ p, p < l.length -> lookB (l.getD p (0, 0)).1 = true -> ∃ i, s <= i /\ i < ls.length /\ waitB (l.getD p (0, 0)).1 (tru l (ls.getD i []) (mine i) p) (tru l (ls.getD i []) (mine i) (p + 1)) (tru l (ls.getD i []) (mine i) (sec l p)) = false) :
  ∀ i, i < ls.length -> mine i = clmTo (aheadL l) (fun q => (T.sub q).hb (sig ls s)) i (aheadL l).length := by
 have hmm : ∀ i, moAt s ls.length (moAt s ls.length i) = moAt s ls.length i := fun i => moAt_low (moAt_lt hs)
 have key := line_only hw ho hz hs (fun i p => tru l (ls.getD (moAt s ls.length i) []) (mine (moAt s ls.length i)) p)
  (fun i p => by simp only [hmm])
  (fun i p h2 hb hx1 hx2 => by
   obtain ⟨_, q2⟩ := part_in hz h2
   show tru _ _ _ _ = _
   rw [tru_mk h2 hb (fun h => (q2 h).1)]
   exact mk_hb hw ho (sig ls s) _ i (fun v _ => rfl) hv h8 h2 hb hx1 hx2)
  (fun i p h2 hb => by
   have := hfol (moAt s ls.length i) (moAt_lt hs) p h2 hb
   have e : moAt s ls.length (moAt s ls.length i + 1) = moAt s ls.length (i + 1) := by
    unfold moAt
    by_cases h : i < ls.length
    ·rw [if_pos h]
    ·rw [if_neg h, if_neg (show ¬ i + 1 < ls.length by omega)]
     have hL : 0 < ls.length - s := by omega
     have hr := Nat.mod_lt (i - s) hL; have e1 : i + 1 - s = (i - s) + 1 := by omega
     rw [e1, <- Nat.mod_add_mod]
     by_cases h3 : s + (i - s) % (ls.length - s) + 1 < ls.length
     ·rw [if_pos h3, Nat.mod_eq_of_lt (show (i - s) % (ls.length - s) + 1 < ls.length - s by omega)]; omega
     ·rw [if_neg h3, show s + (i - s) % (ls.length - s) + 1 - s = (i - s) % (ls.length - s) + 1 by omega]
   rw [e] at this
   exact this)
  (fun p h2 hb => by
   obtain ⟨i, a1, a2, a3⟩ := hmet p h2 hb
   exact ⟨i, a1, a2, by simp only [moAt_low a2]; exact a3⟩)
 intro i hi; obtain ⟨c0, c1⟩ := clmTo_bounds (aheadL l) (fun q => (T.sub q).hb (sig ls s)) i (aheadL l).length
 refine bits_eq _ _ _ (hm i hi).1 (hm i hi).2 c0 c1 fun k hk => ?_
 rw [bit_clm _ _ _ _ _ hk]; obtain ⟨p, e1, e2, e3, e4⟩ := aheadTo_get l l.length k hk; have e1' : (aheadL l).getD k 0 = (p : Int) := e1; have := key l.length p (by omega) e2 i
 simp only [moAt_low hi] at this; rw [tru_look e2 e3, e4] at this; rw [this, e1']; rfl
theorem claims_tru {T : Tm} (hw : T.Wf) {l : List (Int × Int)} (ho : T.ops = l) (hz : endsCode (l.map Prod.fst) = 0) (hv : ∀ q, q < l.length -> (l.getD q (0, 0)).1 = 13 -> 0 <= (l.getD q (0, 0)).2) (h8 : ∀ q, q < l.length -> 8 <= (l.getD q (0, 0)).1) {ls : List (List Bool)} {s : Nat} {i : Nat} (hi : i < ls.length) {p : Nat} (hp : p < l.length) :
  tru l (ls.getD i []) (clmTo (aheadL l) (fun q => (T.sub q).hb (sig ls s)) i (aheadL l).length) p = (T.sub p).hb (sig ls s) i :=
 line_tru hw ho hz (sig ls s) _ i (fun v _ => by unfold sig; rw [moAt_low hi]) hv h8 l.length p (by omega) hp
theorem claims_fit {T : Tm} (hw : T.Wf) {l : List (Int × Int)} (ho : T.ops = l) (hz : endsCode (l.map Prod.fst) = 0) (hv : ∀ q, q < l.length -> (l.getD q (0, 0)).1 = 13 -> 0 <= (l.getD q (0, 0)).2) (h8 : ∀ q, q < l.length -> 8 <= (l.getD q (0, 0)).1) {ls : List (List Bool)} {s : Nat} (hs : s < ls.length) (mine : Nat -> Int)
  (hm : ∀ i, i < ls.length -> mine i = clmTo (aheadL l) (fun q => (T.sub q).hb (sig ls s)) i (aheadL l).length) :
  (∀ i, i < ls.length -> ∀ p, p < l.length -> lookB (l.getD p (0, 0)).1 = true -> tru l (ls.getD i []) (mine i) p = comeB (l.getD p (0, 0)).1 (tru l (ls.getD i []) (mine i) (p + 1)) (tru l (ls.getD i []) (mine i) (sec l p)) (tru l (ls.getD (moAt s ls.length (i + 1)) []) (mine (moAt s ls.length (i + 1))) p) (tru l (ls.getD (moAt s ls.length (i + 1)) []) (mine (moAt s ls.length (i + 1))) (p + 1))) /\
  ∀ p, p < l.length -> lookB (l.getD p (0, 0)).1 = true -> ∃ i, s <= i /\ i < ls.length /\ waitB (l.getD p (0, 0)).1 (tru l (ls.getD i []) (mine i) p) (tru l (ls.getD i []) (mine i) (p + 1)) (tru l (ls.getD i []) (mine i) (sec l p)) = false := by
 have two : ∀ p, p < l.length -> lookB (l.getD p (0, 0)).1 = true -> p + 1 < l.length /\ ((l.getD p (0, 0)).1 = 15 \/ (l.getD p (0, 0)).1 = 16 -> sec l p < l.length) := fun p hp hb => by
  obtain ⟨q1, q2⟩ := part_in hz hp; have hk := kind_cases hb; generalize (l.getD p (0, 0)).1 = k at *; refine ⟨q1 (by rcases hk with rfl | rfl | rfl | rfl | rfl <;> decide), fun h => (q2 (by rcases h with rfl | rfl <;> rfl)).2⟩
 have sec_free : ∀ k (x y y' z nx : Bool), lookB k = true -> (k = 15 \/ k = 16 -> y = y') -> comeB k x y z nx = comeB k x y' z nx := fun k x y y' z nx hb h => by
  rcases kind_cases hb with rfl | rfl | rfl | rfl | rfl
  ·rfl
  ·rw [h (.inl rfl)]
  ·rw [h (.inr rfl)]
  ·rfl
  ·rfl
 have sec_free2 : ∀ k (a x y y' : Bool), lookB k = true -> (k = 15 \/ k = 16 -> y = y') -> waitB k a x y = waitB k a x y' := fun k a x y y' hb h => by
  rcases kind_cases hb with rfl | rfl | rfl | rfl | rfl
  ·rfl
  ·rw [h (.inl rfl)]
  ·rw [h (.inr rfl)]
  ·rfl
  ·rfl
 refine ⟨fun i hi p hp hb => ?_, fun p hp hb => ?_⟩
 ·obtain ⟨p1, p2⟩ := two p hp hb
  have hj := moAt_lt (s := s) (n := ls.length) (i := i + 1) hs; rw [hm i hi, hm _ hj, claims_tru hw ho hz hv h8 hi hp, claims_tru hw ho hz hv h8 hi p1, claims_tru hw ho hz hv h8 hj hp, claims_tru hw ho hz hv h8 hj p1, hb_mo hs, hb_mo hs]; rw [sec_free _ _ _ ((T.sub (sec l p)).hb (sig ls s) i) _ _ hb (fun h => claims_tru hw ho hz hv h8 hi (p2 h))]
  exact line_come hw ho (sig ls s) hp hb i
 ·obtain ⟨p1, p2⟩ := two p hp hb
  obtain ⟨i, a1, a2, a3⟩ := line_meets hw ho hs hp hb; refine ⟨i, a1, a2, ?_⟩
  rw [hm i a2, claims_tru hw ho hz hv h8 a2 hp, claims_tru hw ho hz hv h8 a2 p1, sec_free2 _ _ _ _ ((T.sub (sec l p)).hb (sig ls s) i) hb (fun h => claims_tru hw ho hz hv h8 a2 (p2 h))]
  exact a3
end Go.Proofs.YtepefdhdcfnmkaaGreatDoor
namespace Go.Proofs.YtepefdhdcfnmkaaGreatDoor
open Go.ChangeShapes Go.WideShapes Go.ChangeAt Go.RowKit Go.Deep
open Terms
set_option maxHeartbeats 6400000
set_option maxRecDepth 20000
theorem met_clm (l : List (Int × Int)) (h : Nat -> Bool) : ∀ k, metTo l h k = clmTo (aheadL l) (fun q _ => !waitAt l h q) 0 k := by
 intro k
 induction k with
 | zero => simp [metTo, clmTo]
 | succ k ih =>
  simp only [metTo, clmTo, ih]
  by_cases hw : waitAt l h ((aheadL l).getD k 0).toNat = true
  ·rw [if_pos hw, if_neg (by rw [hw]; decide)]
  ·rw [if_neg hw, if_pos (by rw [Bool.not_eq_true'] ; exact Bool.eq_false_iff.2 hw)]
theorem met_bit (l : List (Int × Int)) (h : Nat -> Bool) {n j : Nat} (hj : j < n) : bitB (metTo l h n) j = !waitAt l h ((aheadL l).getD j 0).toNat := by
 rw [met_clm, bit_clm _ _ _ _ _ hj]
theorem good_at {m : Nat} {x : List (Int × Int)} {T : Tm} (hF : FOk m x T) {q : Nat} (hq : q < x.length) : lopErr 3 (x.getD q (0, 0)) = 0 := hF.good _ (by rw [List.getD_eq_getElem?_getD, List.getElem?_eq_getElem hq, Option.getD_some]; exact List.getElem_mem hq)
theorem good_vals {m : Nat} {x : List (Int × Int)} {T : Tm} (hF : FOk m x T) : (∀ q, q < x.length -> (x.getD q (0, 0)).1 = 13 -> 0 <= (x.getD q (0, 0)).2) /\ ∀ q, q < x.length -> 8 <= (x.getD q (0, 0)).1 := by
 refine ⟨fun q hq h13 => ?_, fun q hq => ?_⟩
 ·have := good_at hF hq
  generalize x.getD q (0, 0) = o at *; unfold lopErr at this; obtain ⟨k, v⟩ := o; simp only at h13
  subst h13; simp at this ⊢
  omega
 ·have := good_at hF hq
  generalize x.getD q (0, 0) = o at *; unfold lopErr at this; obtain ⟨k, v⟩ := o; simp only at this ⊢
  by_cases h : k < 8
  ·exfalso
   revert this
   simp
   omega
  ·omega
theorem ahead_mono (l : List (Int × Int)) : ∀ (d n : Nat), ∃ r, aheadTo l (n + d) = aheadTo l n ++ r := by
 intro d
 induction d with
 | zero => intro n; exact ⟨[], by simp⟩
 | succ d ih =>
  intro n; obtain ⟨r, h⟩ := ih n; rw [show n + (d + 1) = (n + d) + 1 by omega]
  simp only [aheadTo]
  split
  ·exact ⟨r ++ [((n + d : Nat) : Int)], by rw [h, List.append_assoc]⟩
  ·exact ⟨r, by rw [List.append_nil]; exact h⟩
theorem ahead_at {l : List (Int × Int)} {p : Nat} (hp : p < l.length) (hb : lookB (l.getD p (0, 0)).1 = true) : (aheadTo l p).length < (aheadL l).length /\ (aheadL l).getD (aheadTo l p).length 0 = (p : Int) := by
 obtain ⟨r, h⟩ := ahead_mono l (l.length - (p + 1)) (p + 1); rw [show p + 1 + (l.length - (p + 1)) = l.length by omega] at h
 have h1 : aheadTo l (p + 1) = aheadTo l p ++ [(p : Int)] := by simp only [aheadTo]; rw [if_pos hb]
 unfold aheadL; rw [h, h1]; refine ⟨by simp, ?_⟩
 simp [List.getD_eq_getElem?_getD]
def One (w : World) (v : Value) (l : List (Int × Int)) : Prop := ∃ g lv, v = .slice (some ⟨g, 0, none⟩) 1 1 /\ w.cell? ⟨g, 0, none⟩ = some lv /\ OpsV w lv l
def Two (w : World) (v : Value) (l m : List (Int × Int)) : Prop := ∃ g lv mv, v = .slice (some ⟨g, 0, none⟩) 2 2 /\ w.cell? ⟨g, 0, none⟩ = some lv /\ w.cell? ⟨g, 1, none⟩ = some mv /\ OpsV w lv l /\ OpsV w mv m
theorem cell_later {w w' : World} (hb : Below w.heap.size w w') {p : Addr} {x : Value} (h : w.cell? p = some x) : w'.cell? p = some x := (hb.cell (World.block_lt_of_cell? w p h)).trans h
theorem One.below {w w' : World} {v : Value} {l : List (Int × Int)} (h : One w v l) (hb : Below w.heap.size w w') : One w' v l := by
 obtain ⟨g, lv, h1, h2, h3⟩ := h; exact ⟨g, lv, h1, cell_later hb h2, h3.below hb⟩
theorem Two.below {w w' : World} {v : Value} {l m : List (Int × Int)} (h : Two w v l m) (hb : Below w.heap.size w w') : Two w' v l m := by
 obtain ⟨g, lv, mv, h1, h2, h3, h4, h5⟩ := h; exact ⟨g, lv, mv, h1, cell_later hb h2, cell_later hb h3, h4.below hb, h5.below hb⟩
section
variable {o : Oper} {a : Act} {w : World} {Q : Exit -> Act -> World -> Prop}
theorem st_one {s : Nat} {lv : Value} {l : List (Int × Int)} (hop : o.op = .buildSlice 62 1 #[(0, .tmp s)]) (he : a.eval (.tmp s) = lv) (hV : OpsV w lv l) : Oper.wp Tryz.prog o a w (fun a' w' => ∃ v', a' = a.put o.dst v' /\ Below w.heap.size w w' /\ One w' v' l) Q := by
 obtain ⟨ao, c, rfl, _⟩ := id hV; have hA : Below w.heap.size w (w.alloc (.cells #[.slice ao l.length c] 32)) := (Below.refl _ _).alloc (Nat.le_refl _) _; refine op_val (w' := w.alloc (.cells #[.slice ao l.length c] 32)) (v := .slice (some ⟨w.heap.size, 0, none⟩) 1 1) (post := fun v' w' => One w' v' l) ?_ hA ⟨_, _, rfl, by simp [go_sem], hV.below hA⟩
 generalize a.eval = ev at he ⊢; simp [execOp, hop, he, go_sem]
theorem st_two {s t : Nat} {lv mv : Value} {l m : List (Int × Int)} (hop : o.op = .buildSlice 62 2 #[(0, .tmp s), (1, .tmp t)]) (he : a.eval (.tmp s) = lv) (hf : a.eval (.tmp t) = mv) (hV : OpsV w lv l) (hM : OpsV w mv m) : Oper.wp Tryz.prog o a w (fun a' w' => ∃ v', a' = a.put o.dst v' /\ Below w.heap.size w w' /\ Two w' v' l m) Q := by
 obtain ⟨ao, c, rfl, _⟩ := id hV; obtain ⟨bo, d, rfl, _⟩ := id hM; have hA : Below w.heap.size w (w.alloc (.cells #[.slice ao l.length c, .slice bo m.length d] 32)) := (Below.refl _ _).alloc (Nat.le_refl _) _
 refine op_val (w' := w.alloc (.cells #[.slice ao l.length c, .slice bo m.length d] 32)) (v := .slice (some ⟨w.heap.size, 0, none⟩) 2 2) (post := fun v' w' => Two w' v' l m) ?_ hA ⟨_, _, _, rfl, by simp [go_sem], by simp [go_sem], hV.below hA, hM.below hA⟩
 generalize a.eval = ev at he hf ⊢; simp [execOp, hop, he, hf, go_sem]
end
end Go.Proofs.YtepefdhdcfnmkaaGreatDoor
namespace Go.Proofs.YtepefdhdcfnmkaaGreatDoor
set_option maxHeartbeats 6400000
set_option maxRecDepth 20000
inductive Lead (nx : Int -> List Int) (A W : Int -> Prop) : Int -> Prop where
 | here {x : Int} : W x -> Lead nx A W x
 | step {x y : Int} : A x -> y ∈ nx x -> Lead nx A W y -> Lead nx A W x
def Stay (nx : Int -> List Int) (A : Int -> Prop) (x : Int) : Prop := ∃ S : Int -> Prop, S x /\ ∀ y, S y -> A y /\ ∃ z, z ∈ nx y /\ S z
section
variable {nx : Int -> List Int} {A W : Int -> Prop}
theorem way_lead : ∀ (k : Nat) (f : Nat -> Int), (∀ i, i < k -> f (i + 1) ∈ nx (f i) /\ A (f i)) -> W (f k) -> Lead nx A W (f 0)
 | 0, _, _, h => .here h
 | k + 1, f, h, hw => .step (h 0 (Nat.succ_pos _)).2 (h 0 (Nat.succ_pos _)).1 (way_lead k (fun i => f (i + 1)) (fun i hi => h (i + 1) (by omega)) hw)
theorem lead_way {x : Int} (h : Lead nx A W x) : ∃ (k : Nat) (f : Nat -> Int), f 0 = x /\ (∀ i, i < k -> f (i + 1) ∈ nx (f i) /\ A (f i)) /\ W (f k) := by
 induction h with
 | @here x hx => exact ⟨0, fun _ => x, rfl, fun i hi => absurd hi (Nat.not_lt_zero _), hx⟩
 | @step x y ha hy _ ih =>
  obtain ⟨k, f, h0, h1, h2⟩ := ih; refine ⟨k + 1, fun i => if i = 0 then x else f (i - 1), rfl, fun i hi => ?_, ?_⟩
  ·by_cases h : i = 0
   ·subst h
    refine ⟨?_, ha⟩
    show f 0 ∈ nx x
    rw [h0]; exact hy
   ·have h3 := h1 (i - 1) (by omega)
    show (if i + 1 = 0 then x else f (i + 1 - 1)) ∈ nx (if i = 0 then x else f (i - 1)) /\ A (if i = 0 then x else f (i - 1))
    rw [if_neg h, if_neg (by omega : ¬ i + 1 = 0), show i + 1 - 1 = i - 1 + 1 by omega]
    exact h3
  ·show W (if k + 1 = 0 then x else f (k + 1 - 1))
   rw [if_neg (by omega)]
   exact h2
end
def cnT (f : Nat -> Bool) : Nat -> Nat
 | 0 => 0
 | n + 1 => cnT f n + (if f n then 1 else 0)
def putB (f : Nat -> Bool) (c : Nat) (b : Bool) : Nat -> Bool := fun j => if j = c then b else f j
section
variable {f g : Nat -> Bool} {N c : Nat}
theorem cnT_congr (h : ∀ j, j < N -> f j = g j) : cnT f N = cnT g N := by
 induction N with
 | zero => rfl
 | succ N ih =>
  show cnT f N + _ = cnT g N + _
  rw [ih (fun j hj => h j (by omega)), h N (Nat.lt_succ_self _)]
theorem cnT_le : cnT f N <= N := by
 induction N with
 | zero => exact Nat.le_refl _
 | succ N ih =>
  show cnT f N + _ <= N + 1
  split <;> omega
theorem cnT_drop (hc : c < N) (h : f c = true) : cnT (putB f c false) N + 1 = cnT f N := by
 induction N with
 | zero => omega
 | succ N ih =>
  show cnT (putB f c false) N + (if putB f c false N then 1 else 0) + 1 = cnT f N + (if f N then 1 else 0)
  by_cases e : c = N
  ·subst e
   have h1 : cnT (putB f c false) c = cnT f c := cnT_congr fun j hj => if_neg (by omega)
   have h2 : putB f c false c = false := if_pos rfl; rw [h1, h2, h]
   simp
  ·have h2 : putB f c false N = f N := if_neg (by omega)
   rw [h2, <- ih (by omega)]
   omega
theorem cnT_add (hc : c < N) (h : f c = false) : cnT (putB f c true) N = cnT f N + 1 := by
 induction N with
 | zero => omega
 | succ N ih =>
  show cnT (putB f c true) N + (if putB f c true N then 1 else 0) = cnT f N + (if f N then 1 else 0) + 1
  by_cases e : c = N
  ·subst e
   have h1 : cnT (putB f c true) c = cnT f c := cnT_congr fun j hj => if_neg (by omega)
   have h2 : putB f c true c = true := if_pos rfl; rw [h1, h2, h]
   simp
  ·have h2 : putB f c true N = f N := if_neg (by omega)
   rw [h2, ih (by omega)]
   omega
end
structure GIn (nx : Int -> List Int) (A : Int -> Prop) (N : Nat) (f : Nat -> Bool) : Prop where
 sub : ∀ c : Nat, c < N -> f c = true -> A (c : Int)
 sup : ∀ c : Nat, c < N -> Stay nx A (c : Int) -> f c = true
structure LIn (nx : Int -> List Int) (A W : Int -> Prop) (N : Nat) (f : Nat -> Bool) : Prop where
 sup : ∀ c : Nat, c < N -> W (c : Int) -> f c = true
 sub : ∀ c : Nat, c < N -> f c = true -> Lead nx A W (c : Int)
section
variable {nx : Int -> List Int} {A W : Int -> Prop} {N c : Nat} {f : Nat -> Bool}
theorem GIn.drop (hn : ∀ (x : Nat) (y : Int), x < N -> y ∈ nx (x : Int) -> 0 <= y /\ y < (N : Int)) (h : GIn nx A N f) (hc : c < N) (hno : ∀ y, y ∈ nx (c : Int) -> f y.toNat = false) : GIn nx A N (putB f c false) := by
 refine ⟨fun q hq hb => h.sub q hq ?_, fun q hq hs => ?_⟩
 ·unfold putB at hb
  split at hb
  ·cases hb
  ·exact hb
 ·unfold putB
  split
  ·next e =>
   subst e; obtain ⟨S, h1, h2⟩ := hs; obtain ⟨z, hz, hz2⟩ := (h2 _ h1).2; obtain ⟨z0, z1⟩ := hn _ _ hc hz; have := h.sup z.toNat (by omega) ⟨S, by rw [show ((z.toNat : Nat) : Int) = z by omega]; exact hz2, h2⟩
   rw [hno z hz] at this; exact this
  ·exact h.sup q hq hs
theorem GIn.done (hn : ∀ (x : Nat) (y : Int), x < N -> y ∈ nx (x : Int) -> 0 <= y /\ y < (N : Int)) (h : GIn nx A N f) (hd : ∀ c : Nat, c < N -> f c = true -> ∃ y, y ∈ nx (c : Int) /\ f y.toNat = true) (hc : c < N) : f c = true ↔ Stay nx A (c : Int) := by
 refine ⟨fun hb => ⟨fun x => ∃ q : Nat, x = (q : Int) /\ q < N /\ f q = true, ⟨c, rfl, hc, hb⟩, ?_⟩, h.sup c hc⟩
 rintro y ⟨q, rfl, hq, hb⟩
 obtain ⟨z, hz, hz2⟩ := hd q hq hb; obtain ⟨z0, z1⟩ := hn _ _ hq hz; exact ⟨h.sub q hq hb, z, hz, z.toNat, by omega, by omega, hz2⟩
theorem LIn.put (h : LIn nx A W N f) (hA : A (c : Int)) {y : Int} (hy : y ∈ nx (c : Int)) (h0 : 0 <= y) (hyN : y < (N : Int)) (hb : f y.toNat = true) : LIn nx A W N (putB f c true) := by
 have hl := h.sub y.toNat (by omega) hb
 rw [show ((y.toNat : Nat) : Int) = y by omega] at hl
 refine ⟨fun q hq hw => ?_, fun q hq hb2 => ?_⟩
 ·unfold putB
  split
  ·rfl
  ·exact h.sup q hq hw
 ·unfold putB at hb2
  split at hb2
  ·next e => subst e; exact .step hA hy hl
  ·exact h.sub q hq hb2
theorem LIn.done (hn : ∀ (x : Nat) (y : Int), x < N -> y ∈ nx (x : Int) -> 0 <= y /\ y < (N : Int)) (h : LIn nx A W N f) (hd : ∀ c : Nat, c < N -> f c = false -> A (c : Int) -> ∀ y, y ∈ nx (c : Int) -> f y.toNat = false) (hc : c < N) : f c = true ↔ Lead nx A W (c : Int) := by
 refine ⟨h.sub c hc, fun hl => ?_⟩
 have : ∀ x, Lead nx A W x -> 0 <= x -> x < (N : Int) -> f x.toNat = true := fun x hx => by
  induction hx with
  | @here x hw => exact fun h0 h1 => h.sup x.toNat (by omega) (by rw [show ((x.toNat : Nat) : Int) = x by omega]; exact hw)
  | @step x y ha hy _ ih =>
   intro h0 h1; have ex : ((x.toNat : Nat) : Int) = x := by omega
   have hy' : y ∈ nx ((x.toNat : Nat) : Int) := by rw [ex]; exact hy
   obtain ⟨y0, y1⟩ := hn _ _ (by omega) hy'
   cases hb : f x.toNat with
   | true => rfl
   | false =>
    have := hd x.toNat (by omega) hb (by rw [ex]; exact ha) y hy'
    rw [ih y0 y1] at this
    cases this
 have := this _ hl (by omega) (by omega)
 rw [show ((c : Int)).toNat = c by omega] at this
 exact this
end
end Go.Proofs.YtepefdhdcfnmkaaGreatDoor
namespace Go.Proofs.YtepefdhdcfnmkaaGreatDoor
open Go.ChangeShapes Go.WideShapes Go.ChangeAt Go.RowKit Go.Deep Go.Maps
open Terms Tm
set_option maxHeartbeats 6400000
set_option maxRecDepth 20000
theorem nextL_in {m : Mo} (hm : mcode m = 0) {x : Int} (hx : 0 <= x /\ x < prodTo m.vars m.vars.length) {y : Int} (hy : y ∈ nextL m x) : 0 <= y /\ y < prodTo m.vars m.vars.length := by
 have h1 := ((upL_spec _).2 y).1 hy; unfold rawL at h1
 split at h1
 ·simp at h1; subst h1; exact hx
 ·obtain ⟨j, _, e⟩ := (rawTo_mem (Nat.le_refl _) y).1 h1
  exact ruleDo_state (mcode_vars hm) e
end Go.Proofs.YtepefdhdcfnmkaaGreatDoor
namespace Go.Proofs.YtepefdhdcfnmkaaGreatDoor
open Go.ChangeShapes Go.WideShapes Go.ChangeAt Go.RowKit Go.Deep
open Terms
set_option maxHeartbeats 6400000
set_option maxRecDepth 20000
structure BJ (T : World) (mb nm : Nat) (f : Nat -> Bool) (W : World) : Prop where
 below : Below T.heap.size T W
 base : T.heap.size <= mb
 row : ∃ n g, nm <= n /\ W.rowIs mb 4 n g /\ ∀ j, j < nm -> g j = .bool (f j)
section
variable {T W W' : World} {mb nm : Nat} {f g : Nat -> Bool}
theorem BJ.cell (s : BJ T mb nm f W) {j : Nat} (hj : j < nm) : W.cell? ⟨mb, j, none⟩ = some (.bool (f j)) := by
 obtain ⟨n, g, hn, h, hg⟩ := s.row; rw [h.cell (show j < n by omega), hg j hj]
theorem BJ.frozen (s : BJ T mb nm f W) (j : Nat) : W.frozen? ⟨mb, j, none⟩ = false := by
 obtain ⟨n, g, _, h, _⟩ := s.row; exact h.frozen j
theorem BJ.put (s : BJ T mb nm f W) (p : Nat) (x : Bool) : BJ T mb nm (putB f p x) (W.setCell ⟨mb, p, none⟩ (.bool x)) := by
 obtain ⟨n, r, hn, h, hr⟩ := s.row; refine ⟨s.below.setCell s.base _, s.base, n, _, hn, h.set p (.bool x), fun j hj => ?_⟩
 unfold putB
 by_cases e : j = p
 ·rw [if_pos e, if_pos e]
 ·rw [if_neg e, if_neg e, hr j hj]
theorem BJ.later (s : BJ T mb nm f W) (hb : Below W.heap.size W W') : BJ T mb nm f W' := by
 obtain ⟨n, r, hn, h, hr⟩ := s.row; exact ⟨s.below.trans (hb.mono s.below.size), s.base, n, r, hn, row_later h hb, hr⟩
theorem BJ.start {g cap : Nat} (hb : Below T.heap.size T W) (ho : W.ownsRow T.heap.size 4 1 (.slice (some ⟨g, 0, none⟩) nm cap) nm ((List.range nm).map fun j => .bool (f j))) : BJ T g nm f W := by
 obtain ⟨hl, h⟩ := ho
 rcases h with ⟨h, _⟩ | ⟨g', cap', cur, hv, hg, hh, hn, _, hs, ht⟩
 ·cases h
 ·injection hv with q1 q2 q3
  injection Option.some.inj q1 with q1 _
  subst q1; refine ⟨hb, hg, cap', fun j => cur[j]?.getD undef, by omega, ⟨cur, hh, by omega, fun i hi => ?_⟩, fun j hj => ?_⟩
  ·have h8 : i < cur.size := by omega
   simp [h8]
  ·have h9 : (cur.toList.take (nm * 1))[j]? = some (.bool (f j)) := by
    rw [ht]; simp [hj]
   rw [List.getElem?_take_of_lt (by omega), Array.getElem?_toList] at h9
   simp [h9]
end
def TrV (w : World) (b N : Nat) (f : Nat -> Bool) : Prop := ∀ c, c < N -> w.cell? ⟨b, c, none⟩ = some (.bool (f c))
def NxV (w : World) (nb N : Nat) (nx : Int -> List Int) : Prop := ∀ c : Nat, c < N -> ∃ ub uf uc, w.cell? ⟨nb, c, none⟩ = some (.slice (some ⟨ub, uf, none⟩) (nx (c : Int)).length uc) /\ ∀ q, q < (nx (c : Int)).length -> w.cell? ⟨ub, uf + q, none⟩ = some (.int .i64 ((nx (c : Int)).getD q 0))
section
variable {w w' : World} {b N : Nat} {f : Nat -> Bool} {nx : Int -> List Int}
theorem cellL {p : Addr} {x : Value} (hb : Below w.heap.size w w') (h : w.cell? p = some x) : w'.cell? p = some x := (hb.cell (World.block_lt_of_cell? w p h)).trans h
theorem TrV.below (h : TrV w b N f) (hb : Below w.heap.size w w') : TrV w' b N f := fun c hc => cellL hb (h c hc)
theorem NxV.below (h : NxV w b N nx) (hb : Below w.heap.size w w') : NxV w' b N nx := fun c hc => by
 obtain ⟨ub, uf, uc, h1, h2⟩ := h c hc; exact ⟨ub, uf, uc, cellL hb h1, fun q hq => cellL hb (h2 q hq)⟩
theorem TrV.list (h : TrV w b N f) : ∀ (j : Nat) (u : Value), ((List.range N).map fun j => Value.bool (f j))[j]? = some u -> w.cell? ((⟨b, 0, none⟩ : Addr).add j) = some u := fun j u hj => by
 by_cases hjN : j < N
 ·simp [hjN] at hj
  subst hj; have := h j hjN; have e : (⟨b, 0, none⟩ : Addr).add j = ⟨b, j, none⟩ := by unfold Addr.add; split <;> simp_all
  rw [e]; exact this
 ·simp [hjN] at hj
end
def rdB (w : World) (g j : Nat) : Bool := match w.cell? ⟨g, j, none⟩ with
 | some (.bool b) => b
 | _ => false
def bTr : Value -> Nat
 | .bool true => 1
 | _ => 0
theorem BJ.rd {T W : World} {g N : Nat} {f : Nat -> Bool} (h : BJ T g N f W) : cnT (rdB W g) N = cnT f N := cnT_congr fun j hj => by
 unfold rdB; rw [h.cell hj]
def TrOk (w : World) (N : Nat) (P : Int -> Prop) (e : Ending) (w' : World) : Prop := ∃ g cap f, e = .returned (.slice (some ⟨g, 0, none⟩) N cap) /\ Below w.heap.size w w' /\ Hid (TrV w' g N f /\ ∀ c : Nat, c < N -> (f c = true ↔ P (c : Int)))
theorem grows_any (nx : Int -> List Int) (A : Int -> Prop) (N nb nc ab ac : Nat) (al : Nat -> Bool) (w : World) (hN1 : 1 <= N) (hN : N <= 5000) (hNx : NxV w nb N nx) (hAl : TrV w ab N al) (hA : ∀ c : Nat, c < N -> (al c = true ↔ A (c : Int))) (hn : ∀ (x : Nat) (y : Int), x < N -> y ∈ nx (x : Int) -> 0 <= y /\ y < (N : Int)) (hl : ∀ x : Nat, x < N -> (nx (x : Int)).length <= 5000) :
  Calls Tryz.prog 12 #[.slice (some ⟨nb, 0, none⟩) N nc, .slice (some ⟨ab, 0, none⟩) N ac] w (TrOk w N (Stay nx A)) := by
 obtain ⟨i0, hi, hz0, hz1, hz2⟩ := info_parts infoBool; have hrow : w.ownsRow w.heap.size 4 1 (.slice none 0 0) 0 [] := World.ownsRow_nil _ _ _ _; have hcells := hAl.list; have HG0 : Hid (GIn nx A N al) := ⟨fun c hc hb => (hA c hc).1 hb, fun c hc ⟨S, h1, h2⟩ => (hA c hc).2 (h2 _ h1).1⟩
 have HNx : Hid (NxV w nb N nx) := hNx; have HN : Hid ((∀ (x : Nat) (y : Int), x < N -> y ∈ nx (x : Int) -> 0 <= y /\ y < (N : Int)) /\ ∀ x : Nat, x < N -> (nx (x : Int)).length <= 5000) := ⟨hn, hl⟩
 clear hNx hn hl hA hAl
 go_enter Tryz.func12, Tryz.ntmps12
 go_wp2_with (at_builtin; refine wpList_append_lies _ rfl (.const (.slice none 0 0)) (.tmp 10) 35 rfl w.heap.size 4 i0 _ 1 1 Tryz.underlying35 hi hz0 hz1 hz2 rfl (by decide) (.slice none 0 0) 0 [] rfl hrow ⟨ab, 0, none⟩ N ac ((List.range N).map fun j => .bool (al j)) rfl (by simp) hcells (by intro u hu; obtain ⟨j, _, rfl⟩ := List.mem_map.1 hu; rfl) (by omega) (by unfold maxLen; omega) (by omega) (Nat.le_refl _) w.heap.size rfl ?_; intro g6 cp6 w6 ho6 hg6 hat6 hgl6)
 rw [Nat.zero_add, List.nil_append] at ho6; have hb6 : Below w.heap.size w w6 := (Below.refl _ _).grown hg6 (Nat.le_refl _) (fun z hz => (hrow.lt z hz).1)
 have HJ0 : Hid (BJ w g6 N al w6) := BJ.start hb6 ho6; clear hcells hrow hg6 hat6 hgl6 ho6
 go_loopw [6] (fun u wr => ∃ (ag : Bool) (f : Nat -> Bool), u = .bool ag /\ Hid (BJ w g6 N f wr /\ GIn nx A N f /\ (ag = false -> ∀ c : Nat, c < N -> f c = true -> ∃ y, y ∈ nx (c : Int) /\ f y.toNat = true))) (fun u wr => 2 * cnT (rdB wr g6) N + bTr u)
 case atStart => exact ⟨true, al, rfl, HJ0.out, HG0.out, fun h => by cases h⟩
 case round =>
  obtain ⟨ag, f0, rfl, HR⟩ := hrel
  cases ag with
  | false =>
   go_wp2_with fail
   refine bodyPost_ret (v := .slice (some ⟨g6, 0, none⟩) N cp6) ?_ rfl ⟨g6, cp6, f0, rfl, HR.out.1.below, fun c hc => HR.out.1.cell hc, fun c hc => HR.out.2.1.done HN.out.1 (HR.out.2.2 (by first | rfl | trivial)) hc⟩
   simp [results, Tryz.results12, go_sem]
  | true =>
   have HM0 : Hid (cnT (rdB wr g6) N = cnT f0 N) := HR.out.1.rd; have HR0 : Hid (BJ w g6 N f0 wr /\ GIn nx A N f0) := ⟨HR.out.1, HR.out.2.1⟩; clear HR
   go_upto_region 6 with fail
   go_loopw [6, 7] (fun u i wx => ∃ (ag : Bool) (f : Nat -> Bool) (c : Nat), c <= N /\ u = .bool ag /\ i = .int .i64 (c : Int) /\ Hid (BJ w g6 N f wx /\ GIn nx A N f /\ (ag = false -> (f = f0 /\ ∀ q : Nat, q < c -> f q = true -> ∃ y, y ∈ nx (q : Int) /\ f y.toNat = true)) /\ (ag = true -> cnT f N < cnT f0 N))) (fun _ i _ => N - (intOf i).toNat)
   case atStart => exact ⟨false, f0, 0, Nat.zero_le _, rfl, rfl, HR0.out.1, HR0.out.2, fun _ => ⟨rfl, fun q hq => absurd hq (Nat.not_lt_zero _)⟩, fun h => by cases h⟩
   case round =>
    obtain ⟨ag, f, c, hc, rfl, rfl, HR⟩ := hrel
    by_cases hcN : c < N
    ·have hci : (c : Int) < (N : Int) := by omega
     have d0 := HR.out.1.cell hcN
     cases hfc : f c with
     | false =>
      rw [hfc] at d0
      go_wp2_with fail
      go_roundw
      case rel => exact ⟨ag, f, c + 1, by omega, rfl, by go_num, HR.out.1, HR.out.2.1, fun h => ⟨(HR.out.2.2.1 h).1, fun q hq hb => by
       by_cases e : q = c
       ·subst e; rw [hfc] at hb; cases hb
       ·exact (HR.out.2.2.1 h).2 q (by omega) hb⟩, HR.out.2.2.2⟩
      case measure => simp [intOf]; omega
     | true =>
      rw [hfc] at d0; obtain ⟨ub, uf, uc, n0, n1⟩ := HNx.out.below HR.out.1.below c hcN; have HN1 : Hid (∀ q, q < (nx (c : Int)).length -> wr.cell? ⟨ub, uf + q, none⟩ = some (.int .i64 ((nx (c : Int)).getD q 0))) := n1
      have hL5 := HN.out.2 c hcN; obtain ⟨Ln, hLn⟩ : ∃ Ln, (nx (c : Int)).length = Ln := ⟨_, rfl⟩
      have HLn : Hid ((nx (c : Int)).length = Ln) := hLn; rw [hLn] at n0 hL5; have hfr := HR.out.1.frozen c; clear n1 hLn
      go_upto_region 11 with fail
      go_loopw [8, 9] (fun s i wx => ∃ (sm : Bool) (k : Nat), k <= Ln /\ s = .bool sm /\ i = .int .i64 (k : Int) /\ wx = wr /\ Hid (sm = true ↔ ∃ q, q < k /\ f ((nx (c : Int)).getD q 0).toNat = true)) (fun _ i _ => Ln - (intOf i).toNat)
      case atStart => exact ⟨false, 0, Nat.zero_le _, rfl, rfl, by first | rfl | trivial, ⟨(fun h => by cases h), fun ⟨q, hq, _⟩ => absurd hq (Nat.not_lt_zero _)⟩⟩
      case round =>
       obtain ⟨sm, k, hk, rfl, rfl, rfl, HS⟩ := hrel
       by_cases hkL : k < Ln
       ·have hki : (k : Int) < (Ln : Int) := by omega
        have hkl : k < (nx (c : Int)).length := by rw [HLn.out]; exact hkL
        have n1 := HN1.out k hkl
        have hmem : (nx (c : Int)).getD k 0 ∈ nx (c : Int) := by
         rw [List.getD_eq_getElem?_getD, List.getElem?_eq_getElem hkl]
         exact List.getElem_mem _
        obtain ⟨y0, y1⟩ := HN.out.1 c _ hcN hmem; obtain ⟨yn, hyn⟩ : ∃ yn : Nat, (nx (c : Int)).getD k 0 = (yn : Int) := ⟨((nx (c : Int)).getD k 0).toNat, by omega⟩
        have HY : Hid ((nx (c : Int)).getD k 0 = (yn : Int)) := hyn; rw [hyn] at n1 y1; have hyN : yn < N := by omega
        have d1 := HR.out.1.cell hyN; clear hmem y0 y1 hyn hkl
        cases sm with
        | true =>
         go_wp2_with fail
         go_roundw
         case rel => exact ⟨true, k + 1, by omega, rfl, by go_num, by first | rfl | trivial, ⟨fun _ => by
          obtain ⟨q, hq, hb⟩ := HS.out.1 rfl
          exact ⟨q, by omega, hb⟩, fun _ => rfl⟩⟩
         case measure => simp [intOf]; omega
        | false =>
         cases hfy : f yn with
         | true =>
          rw [hfy] at d1
          go_wp2_with fail
          go_roundw
          case rel => exact ⟨true, k + 1, by omega, rfl, by go_num, by first | rfl | trivial, ⟨fun _ => ⟨k, Nat.lt_succ_self _, by rw [HY.out]; exact hfy⟩, fun _ => rfl⟩⟩
          case measure => simp [intOf]; omega
         | false =>
          rw [hfy] at d1
          go_wp2_with fail
          go_roundw
          case rel => exact ⟨false, k + 1, by omega, rfl, by go_num, by first | rfl | trivial, ⟨(fun h => by cases h), fun ⟨q, hq, hb⟩ => by
           by_cases e : q = k
           ·subst e
            rw [HY.out, show ((yn : Int)).toNat = yn by omega, hfy] at hb
            exact hb
           ·exact HS.out.2 ⟨q, by omega, hb⟩⟩⟩
          case measure => simp [intOf]; omega
       ·obtain rfl : k = Ln := by omega
        cases sm with
        | true =>
         go_wp2_with fail
         go_roundw
         case rel => exact ⟨ag, f, c + 1, by omega, rfl, by go_num, HR.out.1, HR.out.2.1, fun h => ⟨(HR.out.2.2.1 h).1, fun q hq hb => by
          by_cases e : q = c
          ·subst e
           obtain ⟨p, hp, hb2⟩ := HS.out.1 rfl; refine ⟨_, ?_, hb2⟩
           have hpl : p < (nx (q : Int)).length := by rw [HLn.out]; exact hp
           rw [List.getD_eq_getElem?_getD, List.getElem?_eq_getElem hpl]
           exact List.getElem_mem _
          ·exact (HR.out.2.2.1 h).2 q (by omega) hb⟩, HR.out.2.2.2⟩
         case measure => simp [intOf]; omega
        | false =>
         go_wp2_with fail
         go_roundw
         case rel =>
          refine ⟨true, putB f c false, c + 1, by omega, rfl, by go_num, HR.out.1.put c false, HR.out.2.1.drop HN.out.1 hcN (fun y hy => ?_), (fun h => by cases h), fun _ => ?_⟩
          ·cases hb : f y.toNat with
           | false => rfl
           | true =>
            obtain ⟨p, hp, e⟩ := List.mem_iff_getElem.1 hy; have hpk : p < k := by rw [<- HLn.out]; exact hp
            exact absurd (HS.out.2 ⟨p, hpk, by rw [List.getD_eq_getElem?_getD, List.getElem?_eq_getElem hp]; show f ((nx (c : Int))[p]).toNat = true; rw [e]; exact hb⟩) (by decide)
          ·have h1 := cnT_drop hcN hfc
           cases ag with
           | false => have h2 := (HR.out.2.2.1 rfl).1; rw [h2] at h1 ⊢; omega
           | true => have h2 := HR.out.2.2.2 rfl; omega
         case measure => simp [intOf]; omega
    ·obtain rfl : c = N := by omega
     go_wp2_with fail
     go_roundw
     case rel => exact ⟨ag, f, rfl, HR.out.1, HR.out.2.1, fun h => (HR.out.2.2.1 h).2⟩
     case measure =>
      have h1 := HR.out.1.rd; have h2 := HM0.out
      cases ag with
      | false =>
       have h3 := (HR.out.2.2.1 rfl).1; subst h3; simp [bTr]
       omega
      | true =>
       have h3 := HR.out.2.2.2 rfl; simp [bTr]
       omega
def LtV (w : World) (lb N : Nat) (lt : Nat -> Nat -> Bool) : Prop := ∀ c : Nat, c < N -> ∃ ub uf uc, w.cell? ⟨lb, c, none⟩ = some (.slice (some ⟨ub, uf, none⟩) 3 uc) /\ ∀ q, q < 3 -> w.cell? ⟨ub, uf + q, none⟩ = some (.bool (lt c q))
theorem LtV.below {w w' : World} {lb N : Nat} {lt : Nat -> Nat -> Bool} (h : LtV w lb N lt) (hb : Below w.heap.size w w') : LtV w' lb N lt := fun c hc => by
 obtain ⟨ub, uf, uc, h1, h2⟩ := h c hc; exact ⟨ub, uf, uc, cellL hb h1, fun q hq => cellL hb (h2 q hq)⟩
theorem one_newB (w : World) (x : Value) (t : TypeId) : ∀ j u, [x][j]? = some u -> (w.alloc (.cells #[x] t)).cell? ((⟨w.heap.size, 0, none⟩ : Addr).add j) = some u := by
 intro j u hj
 match j, hj with
 | 0, hj => simp at hj; subst hj; simp [Addr.add, go_sem]
def ToOk (w : World) (N : Nat) (f : Nat -> Bool) (e : Ending) (w' : World) : Prop := ∃ g cap, e = .returned (.slice (some ⟨g, 0, none⟩) N cap) /\ Below w.heap.size w w' /\ Hid (TrV w' g N f)
theorem column_any (lb lc N pn : Nat) (yes : Bool) (lt : Nat -> Nat -> Bool) (w : World) (hN1 : 1 <= N) (hN : N <= 5000) (hp : pn < 3) (hL : LtV w lb N lt) :
  Calls Tryz.prog 13 #[.slice (some ⟨lb, 0, none⟩) N lc, .int .i64 (pn : Int), .bool yes] w (ToOk w N (fun c => lt c pn == yes)) := by
 obtain ⟨i0, hi, hz0, hz1, hz2⟩ := info_parts infoBool; have HL : Hid (LtV w lb N lt) := hL; have HR0 : Hid (w.ownsRow w.heap.size 4 1 (.slice none 0 0) 0 ((List.range 0).map fun j => Value.bool (lt j pn == yes)) /\ Below w.heap.size w w) := ⟨World.ownsRow_nil _ _ _ _, Below.refl _ _⟩
 have hy1 : ¬ (pn : Int) < 0 := by omega
 have hy2 : ¬ (3 : Int) <= (pn : Int) := by omega
 have hy3 : (pn : Int) < (3 : Int) := by omega
 have hy4 : ¬ 3 <= pn := by omega
 clear hL
 go_enter Tryz.func13, Tryz.ntmps13
 go_upto_region 3 with fail
 go_loopw [7, 8] (fun vo i wr => ∃ (k : Nat) (xo : Option Addr) (xc : Nat), k <= N /\ vo = .slice xo k xc /\ i = .int .i64 (k : Int) /\ Hid (wr.ownsRow w.heap.size 4 1 (.slice xo k xc) k ((List.range k).map fun j => Value.bool (lt j pn == yes)) /\ Below w.heap.size w wr)) (fun _ i _ => N - (intOf i).toNat)
 case atStart => exact ⟨0, none, 0, Nat.zero_le _, rfl, rfl, HR0.out⟩
 case round =>
  obtain ⟨k, xo, xc, hk, rfl, rfl, HR⟩ := hrel
  by_cases hkN : k < N
  ·have hki : (k : Int) < (N : Int) := by omega
   obtain ⟨ub, uf, uc, d0, d1⟩ := HL.out.below HR.out.2 k hkN; have d2 := d1 pn hp; clear d1; generalize hbv : lt k pn = bv at *; have HBv : Hid (lt k pn = bv) := hbv; have hrow := HR.out.1.alloc (.cells #[.bool (bv == yes)] 4); have hbA : Below w.heap.size w (wr.alloc (.cells #[.bool (bv == yes)] 4)) := HR.out.2.alloc HR.out.2.size _
   have hbs : w.heap.size <= wr.heap.size + 1 := by have := HR.out.2.size; omega
   clear hbv
   go_wp2_with (at_builtin; refine wpList_append_lies _ rfl (.tmp 15) (.tmp 25) 35 rfl w.heap.size 4 i0 _ 1 1 Tryz.underlying35 hi hz0 hz1 hz2 rfl (by decide) (.slice xo k xc) k _ rfl hrow ⟨wr.heap.size, 0, none⟩ 1 1 [.bool (bv == yes)] rfl rfl (one_newB _ _ _) (by intro u hu; simp at hu; subst hu; rfl) (by decide) (by unfold maxLen; omega) (by omega) (by simpa using hbs) (wr.heap.size + 1) (by simp) ?_; intro g6 cp6 w6 ho6 hg6 hat6 hgl6)
   have HB6 : Hid (Below w.heap.size w w6) := hbA.grown hg6 hbA.size (fun z hz => (hrow.lt z hz).1)
   have HO6 : Hid (w6.ownsRow w.heap.size 4 1 (.slice (some ⟨g6, 0, none⟩) (k + 1) cp6) (k + 1) ((List.range (k + 1)).map fun j => Value.bool (lt j pn == yes))) := by
    show World.ownsRow _ _ _ _ _ _ _
    rw [List.range_succ, List.map_append]
    show World.ownsRow _ _ _ _ _ _ (_ ++ [Value.bool (lt k pn == yes)])
    rw [HBv.out]; exact ho6
   clear hrow hg6 hat6 hgl6 ho6
   go_wp2_with fail
   go_roundw
   case rel => exact ⟨k + 1, _, _, by omega, by go_num, by go_num, HO6.out, HB6.out⟩
   case measure => simp [intOf]; omega
  ·obtain rfl : k = N := by omega
   obtain ⟨xb, cap, e, _, _⟩ := HR.out.1.form (by omega)
   injection e with e1 e2 e3
   subst e1; clear e2 e3
   go_wp2_with fail
   refine bodyPost_ret (v := .slice (some ⟨xb, 0, none⟩) k xc) ?_ rfl ⟨xb, xc, rfl, HR.out.2, fun c hc => (BJ.start (f := fun c => lt c pn == yes) HR.out.2 HR.out.1).cell hc⟩
   simp [results, Tryz.results13, go_sem]
theorem BJ.made {T W : World} {N : Nat} (hb : Below T.heap.size T W) : BJ T W.heap.size N (fun _ => false) (W.alloc (.cells (madeCells #[.bool false] N) 4)) :=
 ⟨hb.alloc hb.size _, hb.size, N, _, Nat.le_refl _, World.rowIs_made W (.bool false) N 4, fun _ _ => rfl⟩
theorem all_any (N : Nat) (w : World) (hN1 : 1 <= N) (hN : N <= 5000) :
  Calls Tryz.prog 16 #[.int .i64 (N : Int)] w (ToOk w N (fun _ => true)) := by
 have hmk := run_make_row' (P := Tryz.prog) 35 4 (.bool false) 1 Tryz.underlying35 infoBool rfl .i64 .i64 N (by omega) (by omega)
 have HJ0 : Hid (BJ w w.heap.size N (fun _ => false) (w.alloc (.cells (madeCells #[.bool false] N) 4))) := BJ.made (Below.refl _ _)
 go_enter Tryz.func16, Tryz.ntmps16
 go_upto_region 3 with fail
 generalize w.alloc (.cells (madeCells #[.bool false] N) 4) = W1 at *
 go_loopw [4] (fun i wr => ∃ k : Nat, k <= N /\ i = .int .i64 (k : Int) /\ Hid (BJ w w.heap.size N (fun j => decide (j < k)) wr)) (fun i _ => N - (intOf i).toNat)
 case atStart => exact ⟨0, Nat.zero_le _, rfl, by
  show BJ _ _ _ _ _
  have := HJ0.out
  simpa using this⟩
 case round =>
  obtain ⟨k, hk, rfl, HR⟩ := hrel
  by_cases hkN : k < N
  ·have hki : (k : Int) < (N : Int) := by omega
   have d0 := HR.out.cell hkN; have hfr := HR.out.frozen k
   go_wp2_with fail
   go_roundw
   case rel =>
    refine ⟨k + 1, by omega, by go_num, ?_⟩
    have h := HR.out.put k true
    have e : putB (fun j => decide (j < k)) k true = fun j => decide (j < k + 1) := by
     funext j
     unfold putB
     split
     ·next e => subst e; simp
     ·next e => exact decide_eq_decide.2 (by omega)
    rw [e] at h; exact h
   case measure => simp [intOf]; omega
  ·obtain rfl : k = N := by omega
   go_wp2_with fail
   refine bodyPost_ret (v := .slice (some ⟨w.heap.size, 0, none⟩) k k) ?_ rfl ⟨w.heap.size, k, rfl, HR.out.below, fun c hc => by
    rw [HR.out.cell hc]
    simp [hc]⟩
   simp [results, Tryz.results16, go_sem]
theorem putB_again {f : Nat -> Bool} {c : Nat} {b : Bool} : putB (putB f c b) c b = putB f c b := by
 funext j
 unfold putB
 split <;> rfl
def TrOkN (w : World) (N : Nat) (P : Int -> Prop) (e : Ending) (w' : World) : Prop := ∃ g cap f, e = .returned (.slice (some ⟨g, 0, none⟩) N cap) /\ Below w.heap.size w w' /\ Hid (TrV w' g N f /\ (∀ c : Nat, c < N -> (f c = true ↔ P (c : Int))) /\ w.heap.size <= g)
theorem TrOkN.ok {w w' : World} {N : Nat} {P : Int -> Prop} {e : Ending} (h : TrOkN w N P e w') : TrOk w N P e w' := by
 obtain ⟨g, cap, f, h1, h2, h3⟩ := h; exact ⟨g, cap, f, h1, h2, h3.out.1, h3.out.2.1⟩
theorem leads_new (nx : Int -> List Int) (A W : Int -> Prop) (N nb nc ab ac wb wc0 : Nat) (al wt : Nat -> Bool) (w : World) (hN1 : 1 <= N) (hN : N <= 5000) (hNx : NxV w nb N nx) (hAl : TrV w ab N al) (hWt : TrV w wb N wt) (hA : ∀ c : Nat, c < N -> (al c = true ↔ A (c : Int))) (hW : ∀ c : Nat, c < N -> (wt c = true ↔ W (c : Int))) (hn : ∀ (x : Nat) (y : Int), x < N -> y ∈ nx (x : Int) -> 0 <= y /\ y < (N : Int)) (hl : ∀ x : Nat, x < N -> (nx (x : Int)).length <= 5000) :
  Calls Tryz.prog 15 #[.slice (some ⟨nb, 0, none⟩) N nc, .slice (some ⟨ab, 0, none⟩) N ac, .slice (some ⟨wb, 0, none⟩) N wc0] w (TrOkN w N (Lead nx A W)) := by
 obtain ⟨i0, hi, hz0, hz1, hz2⟩ := info_parts infoBool; have hrow : w.ownsRow w.heap.size 4 1 (.slice none 0 0) 0 [] := World.ownsRow_nil _ _ _ _; have hcells := hWt.list; have HG0 : Hid (LIn nx A W N wt) := ⟨fun c hc hb => (hW c hc).2 hb, fun c hc hb => .here ((hW c hc).1 hb)⟩
 have HNx : Hid (NxV w nb N nx) := hNx; have HA : Hid (TrV w ab N al /\ ∀ c : Nat, c < N -> (al c = true ↔ A (c : Int))) := ⟨hAl, hA⟩
 have HN : Hid ((∀ (x : Nat) (y : Int), x < N -> y ∈ nx (x : Int) -> 0 <= y /\ y < (N : Int)) /\ ∀ x : Nat, x < N -> (nx (x : Int)).length <= 5000) := ⟨hn, hl⟩
 clear hNx hn hl hA hAl hW hWt
 go_enter Tryz.func15, Tryz.ntmps15
 go_wp2_with (at_builtin; refine wpList_append_lies _ rfl (.const (.slice none 0 0)) (.tmp 11) 35 rfl w.heap.size 4 i0 _ 1 1 Tryz.underlying35 hi hz0 hz1 hz2 rfl (by decide) (.slice none 0 0) 0 [] rfl hrow ⟨wb, 0, none⟩ N wc0 ((List.range N).map fun j => .bool (wt j)) rfl (by simp) hcells (by intro u hu; obtain ⟨j, _, rfl⟩ := List.mem_map.1 hu; rfl) (by omega) (by unfold maxLen; omega) (by omega) (Nat.le_refl _) w.heap.size rfl ?_; intro g6 cp6 w6 ho6 hg6 hat6 hgl6)
 rw [Nat.zero_add, List.nil_append] at ho6; have hb6 : Below w.heap.size w w6 := (Below.refl _ _).grown hg6 (Nat.le_refl _) (fun z hz => (hrow.lt z hz).1)
 have HJ0 : Hid (BJ w g6 N wt w6) := BJ.start hb6 ho6; clear hcells hrow hg6 hat6 hgl6 ho6
 go_loopw [8] (fun u wr => ∃ (ag : Bool) (f : Nat -> Bool), u = .bool ag /\ Hid (BJ w g6 N f wr /\ LIn nx A W N f /\ (ag = false -> ∀ c : Nat, c < N -> f c = false -> A (c : Int) -> ∀ y, y ∈ nx (c : Int) -> f y.toNat = false))) (fun u wr => 2 * (N - cnT (rdB wr g6) N) + bTr u)
 case atStart => exact ⟨true, wt, rfl, HJ0.out, HG0.out, fun h => by cases h⟩
 case round =>
  obtain ⟨ag, f0, rfl, HR⟩ := hrel
  cases ag with
  | false =>
   go_wp2_with fail
   refine bodyPost_ret (v := .slice (some ⟨g6, 0, none⟩) N cp6) ?_ rfl ⟨g6, cp6, f0, rfl, HR.out.1.below, fun c hc => HR.out.1.cell hc, fun c hc => HR.out.2.1.done HN.out.1 (HR.out.2.2 (by first | rfl | trivial)) hc, HR.out.1.base⟩
   simp [results, Tryz.results15, go_sem]
  | true =>
   have HM0 : Hid (cnT (rdB wr g6) N = cnT f0 N) := HR.out.1.rd; have HR0 : Hid (BJ w g6 N f0 wr /\ LIn nx A W N f0) := ⟨HR.out.1, HR.out.2.1⟩; clear HR
   go_upto_region 6 with fail
   go_loopw [8, 9] (fun u i wx => ∃ (ag : Bool) (f : Nat -> Bool) (c : Nat), c <= N /\ u = .bool ag /\ i = .int .i64 (c : Int) /\ Hid (BJ w g6 N f wx /\ LIn nx A W N f /\ (ag = false -> (f = f0 /\ ∀ q : Nat, q < c -> f q = false -> A (q : Int) -> ∀ y, y ∈ nx (q : Int) -> f y.toNat = false)) /\ (ag = true -> cnT f0 N < cnT f N))) (fun _ i _ => N - (intOf i).toNat)
   case atStart => exact ⟨false, f0, 0, Nat.zero_le _, rfl, rfl, HR0.out.1, HR0.out.2, fun _ => ⟨rfl, fun q hq => absurd hq (Nat.not_lt_zero _)⟩, fun h => by cases h⟩
   case round =>
    obtain ⟨ag, f, c, hc, rfl, rfl, HR⟩ := hrel
    by_cases hcN : c < N
    ·have hci : (c : Int) < (N : Int) := by omega
     have d0 := HR.out.1.cell hcN; have d1 := HA.out.1.below HR.out.1.below c hcN; have HAc : Hid (al c = true ↔ A (c : Int)) := HA.out.2 c hcN
     cases hfc : f c with
     | true =>
      rw [hfc] at d0
      go_wp2_with fail
      go_roundw
      case rel => exact ⟨ag, f, c + 1, by omega, rfl, by go_num, HR.out.1, HR.out.2.1, fun h => ⟨(HR.out.2.2.1 h).1, fun q hq hb => by
       by_cases e : q = c
       ·subst e; rw [hfc] at hb; cases hb
       ·exact (HR.out.2.2.1 h).2 q (by omega) hb⟩, HR.out.2.2.2⟩
      case measure => simp [intOf]; omega
     | false =>
      rw [hfc] at d0
      cases hac : al c with
      | false =>
       rw [hac] at d1
       go_wp2_with fail
       go_roundw
       case rel => exact ⟨ag, f, c + 1, by omega, rfl, by go_num, HR.out.1, HR.out.2.1, fun h => ⟨(HR.out.2.2.1 h).1, fun q hq hb ha => by
        by_cases e : q = c
        ·subst e
         have := HAc.out.2 ha; rw [hac] at this
         cases this
        ·exact (HR.out.2.2.1 h).2 q (by omega) hb ha⟩, HR.out.2.2.2⟩
       case measure => simp [intOf]; omega
      | true =>
       rw [hac] at d1; have HAt : Hid (A (c : Int)) := HAc.out.1 hac; have hL5 := HN.out.2 c hcN; obtain ⟨Ln, hLn⟩ : ∃ Ln, (nx (c : Int)).length = Ln := ⟨_, rfl⟩
       have HLn : Hid ((nx (c : Int)).length = Ln) := hLn; rw [hLn] at hL5; have HRc : Hid (BJ w g6 N f wr) := HR.out.1; clear hLn
       go_upto_region 10 with fail
       clear d1 d0
       go_loopw [8, 10] (fun u i wx => ∃ (a3 : Bool) (f3 : Nat -> Bool) (k : Nat), k <= Ln /\ u = .bool a3 /\ i = .int .i64 (k : Int) /\ Hid (BJ w g6 N f3 wx /\ LIn nx A W N f3 /\ ((a3 = ag /\ f3 = f /\ ∀ q, q < k -> f ((nx (c : Int)).getD q 0).toNat = false) \/ (a3 = true /\ f3 = putB f c true)))) (fun _ i _ => Ln - (intOf i).toNat)
       case atStart => exact ⟨ag, f, 0, Nat.zero_le _, rfl, rfl, HR.out.1, HR.out.2.1, .inl ⟨rfl, rfl, fun q hq => absurd hq (Nat.not_lt_zero _)⟩⟩
       case round =>
        obtain ⟨a3, f3, k, hk, rfl, rfl, HS⟩ := hrel; obtain ⟨ub, uf, uc, n0, n1⟩ := HNx.out.below HS.out.1.below c hcN; have HN1 : Hid (∀ q, q < (nx (c : Int)).length -> wr.cell? ⟨ub, uf + q, none⟩ = some (.int .i64 ((nx (c : Int)).getD q 0))) := n1
        rw [HLn.out] at n0; clear n1
        by_cases hkL : k < Ln
        ·have hki : (k : Int) < (Ln : Int) := by omega
         have hkl : k < (nx (c : Int)).length := by rw [HLn.out]; exact hkL
         have n1 := HN1.out k hkl
         have hmem : (nx (c : Int)).getD k 0 ∈ nx (c : Int) := by
          rw [List.getD_eq_getElem?_getD, List.getElem?_eq_getElem hkl]
          exact List.getElem_mem _
         have HMem : Hid ((nx (c : Int)).getD k 0 ∈ nx (c : Int)) := hmem; obtain ⟨y0, y1⟩ := HN.out.1 c _ hcN hmem; obtain ⟨yn, hyn⟩ : ∃ yn : Nat, (nx (c : Int)).getD k 0 = (yn : Int) := ⟨((nx (c : Int)).getD k 0).toNat, by omega⟩
         have HY : Hid ((nx (c : Int)).getD k 0 = (yn : Int)) := hyn; rw [hyn] at n1 y1; have hyN : yn < N := by omega
         have d1 := HS.out.1.cell hyN; have hfr := HS.out.1.frozen c; have d2 := HS.out.1.cell hcN; clear hmem y0 y1 hyn hkl
         cases hfy : f3 yn with
         | true =>
          rw [hfy] at d1
          go_wp2_with fail
          go_roundw
          case rel =>
           refine ⟨true, putB f3 c true, k + 1, by omega, rfl, by go_num, HS.out.1.put c true, HS.out.2.1.put HAt.out HMem.out (by rw [HY.out]; omega) (by rw [HY.out]; omega) (by rw [HY.out, show ((yn : Int)).toNat = yn by omega]; exact hfy), .inr ⟨rfl, ?_⟩⟩
           rcases HS.out.2.2 with ⟨_, h2, _⟩ | ⟨_, h2⟩
           ·rw [h2]
           ·rw [h2, putB_again]
          case measure => simp [intOf]; omega
         | false =>
          rw [hfy] at d1
          go_wp2_with fail
          go_roundw
          case rel =>
           refine ⟨a3, f3, k + 1, by omega, rfl, by go_num, HS.out.1, HS.out.2.1, ?_⟩
           rcases HS.out.2.2 with ⟨h1, h2, h3⟩ | h2
           ·refine .inl ⟨h1, h2, fun q hq => ?_⟩
            by_cases e : q = k
            ·subst e
             rw [HY.out, show ((yn : Int)).toNat = yn by omega, <- h2]
             exact hfy
            ·exact h3 q (by omega)
           ·exact .inr h2
          case measure => simp [intOf]; omega
        ·obtain rfl : k = Ln := by omega
         go_wp2_with fail
         go_roundw
         case rel =>
          refine ⟨a3, f3, c + 1, by omega, rfl, by go_num, HS.out.1, HS.out.2.1, ?_, ?_⟩
          ·rcases HS.out.2.2 with ⟨h1, h2, h3⟩ | ⟨h1, _⟩
           ·intro h
            have h4 := HR.out.2.2.1 (h1 ▸ h); refine ⟨h2.trans h4.1, fun q hq hb ha y hy => ?_⟩
            rw [h2] at hb ⊢
            by_cases e : q = c
            ·subst e
             obtain ⟨p, hp, e2⟩ := List.mem_iff_getElem.1 hy; have h5 := h3 p (by rw [<- HLn.out]; exact hp)
             rw [List.getD_eq_getElem?_getD, List.getElem?_eq_getElem hp] at h5
             rw [<- e2]; exact h5
            ·exact h4.2 q (by omega) hb ha y hy
           ·intro h
            rw [h1] at h
            cases h
          ·rcases HS.out.2.2 with ⟨h1, h2, _⟩ | ⟨_, h2⟩
           ·intro h
            rw [h2]; exact HR.out.2.2.2 (h1 ▸ h)
           ·intro _
            rw [h2, cnT_add hcN hfc]
            cases ag with
            | false => have h6 := (HR.out.2.2.1 rfl).1; rw [h6]; omega
            | true => have h6 := HR.out.2.2.2 rfl; omega
         case measure => simp [intOf]; omega
    ·obtain rfl : c = N := by omega
     go_wp2_with fail
     go_roundw
     case rel => exact ⟨ag, f, rfl, HR.out.1, HR.out.2.1, fun h => (HR.out.2.2.1 h).2⟩
     case measure =>
      have h1 := HR.out.1.rd; have h2 := HM0.out; have h4 : cnT f c <= c := cnT_le
      cases ag with
      | false =>
       have h3 := (HR.out.2.2.1 rfl).1; subst h3; simp [bTr]
       omega
      | true =>
       have h3 := HR.out.2.2.2 rfl; simp [bTr]
       omega
theorem leads_any (nx : Int -> List Int) (A W : Int -> Prop) (N nb nc ab ac wb wc0 : Nat) (al wt : Nat -> Bool) (w : World) (hN1 : 1 <= N) (hN : N <= 5000) (hNx : NxV w nb N nx) (hAl : TrV w ab N al) (hWt : TrV w wb N wt) (hA : ∀ c : Nat, c < N -> (al c = true ↔ A (c : Int))) (hW : ∀ c : Nat, c < N -> (wt c = true ↔ W (c : Int))) (hn : ∀ (x : Nat) (y : Int), x < N -> y ∈ nx (x : Int) -> 0 <= y /\ y < (N : Int)) (hl : ∀ x : Nat, x < N -> (nx (x : Int)).length <= 5000) :
  Calls Tryz.prog 15 #[.slice (some ⟨nb, 0, none⟩) N nc, .slice (some ⟨ab, 0, none⟩) N ac, .slice (some ⟨wb, 0, none⟩) N wc0] w (TrOk w N (Lead nx A W)) :=
 (leads_new nx A W N nb nc ab ac wb wc0 al wt w hN1 hN hNx hAl hWt hA hW hn hl).mono fun _ _ h => h.ok
end Go.Proofs.YtepefdhdcfnmkaaGreatDoor
