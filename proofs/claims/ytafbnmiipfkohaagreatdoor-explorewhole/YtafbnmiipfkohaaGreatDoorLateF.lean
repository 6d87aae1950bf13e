/-
  Joined out of PEx0, EyM, PEx, EyWalk, Lists, GraphM, GraphC, ExGr, LookM, SCheck, LookW, Look0, Look, in their order: a claim bears at most so many files.
-/
import Derived.Test.YtafbnmiipfkohaaGreatDoorLateE
import Derived.Test.YtafbnmiipfkohaaGreatDoorLateC
import Derived.Test.YtafbnmiipfkohaaGreatDoorLateA
import Derived.Test.YtafbnmiipfkohaaGreatDoorIntsOf
import Derived.Deep.RegionHeld3
import Derived.Maps.OwnSet
import Derived.Maps.OwnOps
import Derived.Deep.RegionLaw
/-
  Exploring a task, as mathematics and as it lies.
-/
namespace Go.Proofs.YtafbnmiipfkohaaGreatDoor
open Go.ChangeShapes Go.WideShapes Go.ChangeAt Go.RowKit Go.Deep Go.Maps
open Terms Tm

/-- a spot of a task. -/
def spOk (m : Mo) (l : List (Int × Int)) (p : Int × Int) : Prop := (0 ≤ p.1 ∧ p.1 < prodTo m.vars m.vars.length) ∧ ∃ d : Nat, d < 2 ^ (aheadL l).length ∧ p.2 = (d : Int)
noncomputable def xpBh (m : Mo) (ps : List (List (Int × Int))) (l : List (Int × Int)) (p : Int × Int) : List (Int × Int) := behL m ps l p.1 p.2
/-- the spots behind k rounds. -/
noncomputable def xpP (m : Mo) (ps : List (List (Int × Int))) (l : List (Int × Int)) (k : Nat) : List (Int × Int) := exS (begL m ps l) (xpBh m ps l) k
noncomputable def xpAt (m : Mo) (ps : List (List (Int × Int))) (l : List (Int × Int)) (k : Nat) : Int × Int := (xpP m ps l k).getD k (0, 0)
noncomputable def xpN (m : Mo) (ps : List (List (Int × Int))) (l : List (Int × Int)) : Nat → List (List Int)
  | 0 => []
  | k + 1 => xpN m ps l k ++ [plIx (xpP m ps l k) (xpBh m ps l (xpAt m ps l k))]
noncomputable def xpT (m : Mo) (ps : List (List (Int × Int))) (l : List (Int × Int)) : Nat → List Int
  | 0 => []
  | k + 1 => xpT m ps l k ++ [metN l (letL m ps (xpAt m ps l k).1) (xpAt m ps l k).2]
section
variable {m : Mo} {ps : List (List (Int × Int))} {l : List (Int × Int)}
set_option maxRecDepth 20000 in
theorem xpP_succ (k : Nat) : xpP m ps l (k + 1) = plTo (xpP m ps l k) (xpBh m ps l (xpAt m ps l k)) := rfl
set_option maxRecDepth 20000 in
theorem xpN_len : ∀ k, (xpN m ps l k).length = k
  | 0 => rfl
  | k + 1 => by rw [xpN, List.length_append, xpN_len k]; rfl
set_option maxRecDepth 20000 in
theorem xpT_len : ∀ k, (xpT m ps l k).length = k
  | 0 => rfl
  | k + 1 => by rw [xpT, List.length_append, xpT_len k]; rfl
set_option maxRecDepth 20000 in
theorem xbg_mem {p : Int × Int} : ∀ k, p ∈ begTo m ps l k → p.1 = begC m ∧ ∃ d : Nat, d < k ∧ p.2 = (d : Int) ∧ tru l (letL m ps (begC m)) (d : Int) 0 ≠ true
  | 0, h => by simp [begTo] at h
  | k + 1, h => by
    rw [begTo] at h
    split at h
    · obtain ⟨h1, d, h2, h3⟩ := xbg_mem k h
      exact ⟨h1, d, by omega, h3⟩
    · next hf =>
      rw [List.mem_append, List.mem_singleton] at h
      rcases h with h | rfl
      · obtain ⟨h1, d, h2, h3⟩ := xbg_mem k h
        exact ⟨h1, d, by omega, h3⟩
      · exact ⟨rfl, k, by omega, rfl, hf⟩
set_option maxRecDepth 20000 in
theorem begL_spot (hk : tkcode m ps l = 0) {p : Int × Int} (h : p ∈ begL m ps l) : spOk m l p := by
  obtain ⟨h1, d, h2, h3, _⟩ := xbg_mem _ h
  exact ⟨by rw [h1]; exact tk_beg hk, d, h2, h3⟩
set_option maxRecDepth 20000 in
theorem xpBh_spot (hk : tkcode m ps l = 0) {s p : Int × Int} (hs : spOk m l s) (h : p ∈ xpBh m ps l s) : spOk m l p := behL_spot (pcode_m (tk_zero hk).1).1 hs.1 h
set_option maxRecDepth 20000 in
theorem xpP_zero (hk : tkcode m ps l = 0) : ∀ p ∈ xpP m ps l 0, spOk m l p := fun p hp => by
  rcases (plTo_iff _ _ _).1 hp with h | h
  · exact absurd h List.not_mem_nil
  · exact begL_spot hk h
set_option maxRecDepth 20000 in
theorem xpAt_mem {k : Nat} (h : k < (xpP m ps l k).length) : xpAt m ps l k ∈ xpP m ps l k := by
  unfold xpAt
  rw [List.getD_eq_getElem?_getD, List.getElem?_eq_getElem h]
  exact List.getElem_mem _
set_option maxRecDepth 20000 in
theorem xpP_next (hk : tkcode m ps l = 0) {k : Nat} (hl : k < (xpP m ps l k).length) (h : ∀ p ∈ xpP m ps l k, spOk m l p) : ∀ p ∈ xpP m ps l (k + 1), spOk m l p := fun p hp => by
  rw [xpP_succ] at hp
  rcases (plTo_iff _ _ _).1 hp with h1 | h1
  · exact h p h1
  · exact xpBh_spot hk (h _ (xpAt_mem hl)) h1
end
/-- all was gone through. -/
def ExDone (m : Mo) (ps : List (List (Int × Int))) (l : List (Int × Int)) (K : Nat) : Prop := (xpP m ps l K).length = K ∧ K ≤ 20000 ∧ (∀ j, j < K → j < (xpP m ps l j).length) ∧ ∀ p ∈ xpP m ps l K, spOk m l p
/-- there were too many. -/
def ExFull (m : Mo) (ps : List (List (Int × Int))) (l : List (Int × Int)) : Prop := ∃ k, (∀ j, j ≤ k → j < (xpP m ps l j).length) ∧ 20000 < (xpP m ps l (k + 1)).length
/-- a graph as it was explored. -/
def GrX (w : World) (base : Nat) (m : Mo) (ps : List (List (Int × Int))) (l : List (Int × Int)) (K : Nat) (sv nv tv : Value) : Prop := SpO w base sv (xpP m ps l K) ∧ LsAt w base nv tv (xpN m ps l K) ∧ w.ownsRow base 3 1 tv (xpT m ps l K).length (ivals (xpT m ps l K))
/-- WHAT EXPLORE ANSWERS. -/
def ExAns (w : World) (m : Mo) (ps : List (List (Int × Int))) (l : List (Int × Int)) (e : Ending) (w' : World) : Prop :=
  (tkcode m ps l = 0 ∧ ∃ K, ExDone m ps l K ∧ ∃ sv nv tv, e = .returned (.tuple #[.agg #[sv, .int .i64 ((begL m ps l).length : Nat), nv, tv, .int .i64 ((aheadL l).length : Nat)], .int .i64 0]) ∧ Below w.heap.size w w' ∧ Hid (GrX w' w.heap.size m ps l K sv nv tv)) ∨
  (tkcode m ps l = 0 ∧ ExFull m ps l ∧ e = .returned (.tuple #[.agg #[.slice none 0 0, .int .i64 0, .slice none 0 0, .slice none 0 0, .int .i64 0], .int .i64 12]) ∧ Below w.heap.size w w') ∨
  (tkcode m ps l ≠ 0 ∧ e = .returned (.tuple #[.agg #[.slice none 0 0, .int .i64 0, .slice none 0 0, .slice none 0 0, .int .i64 0], .int .i64 (tkcode m ps l)]) ∧ Below w.heap.size w w')
set_option maxRecDepth 20000 in
theorem ex_not_both {m : Mo} {ps : List (List (Int × Int))} {l : List (Int × Int)} {K : Nat} (h : ExDone m ps l K) : ¬ ExFull m ps l := by
  rintro ⟨k, h1, h2⟩
  obtain ⟨d1, d2, _, _⟩ := h
  by_cases hk : k + 1 ≤ K
  · have := (exS_le (begL m ps l) (xpBh m ps l) hk).length_le
    unfold xpP at h2 d1
    omega
  · have := h1 K (by omega)
    omega
/-- the box of a graph. -/
def grB (sv nv tv : Value) (init many : Int) : Obj := .cells #[sv, .int .i64 init, nv, tv, .int .i64 many] 53 (0, 0)
section
variable {w w' : World} {X : Nat} {sv nv tv : Value} {init many : Int}
set_option maxRecDepth 20000 in
theorem grB_cells (hb : w.heap[X]? = some (grB sv nv tv init many)) : w.cell? ⟨X, 0, none⟩ = some sv ∧ w.cell? ⟨X, 1, none⟩ = some (.int .i64 init) ∧ w.cell? ⟨X, 2, none⟩ = some nv ∧ w.cell? ⟨X, 3, none⟩ = some tv ∧ w.cell? ⟨X, 4, none⟩ = some (.int .i64 many) := by
  unfold grB at hb
  refine ⟨?_, ?_, ?_, ?_, ?_⟩ <;> simp [World.cell?, hb]
set_option maxRecDepth 20000 in
theorem grB_free (hb : w.heap[X]? = some (grB sv nv tv init many)) (i : Nat) : w.frozen? ⟨X, i, none⟩ = false := by
  unfold grB at hb
  simp [World.frozen?, hb]
set_option maxRecDepth 20000 in
/-- a graph's box is written. -/
theorem chg_box (w : World) (X : Nat) (a b c d e : Value) : Chg (fun i => i = X) w (((((w.setCell ⟨X, 0, none⟩ a).setCell ⟨X, 1, none⟩ b).setCell ⟨X, 2, none⟩ c).setCell ⟨X, 3, none⟩ d).setCell ⟨X, 4, none⟩ e) :=
  (((((Chg.setCell w ⟨X, 0, none⟩ a).trans (Chg.setCell _ ⟨X, 1, none⟩ b)).trans (Chg.setCell _ ⟨X, 2, none⟩ c)).trans (Chg.setCell _ ⟨X, 3, none⟩ d)).trans (Chg.setCell _ ⟨X, 4, none⟩ e))
set_option maxRecDepth 20000 in
theorem GrX.chg {base K : Nat} {m : Mo} {ps : List (List (Int × Int))} {l : List (Int × Int)} (h : GrX w base m ps l K sv nv tv) (hs : Chg (fun i => i = X) w w') (ht : TyB w X 53) : GrX w' base m ps l K sv nv tv := by
  obtain ⟨h1, h2, h3⟩ := h
  obtain ⟨us, n1, _⟩ := id h2
  have hno : ∀ g t, TyB w g t → t ≠ 53 → g ≠ X := fun g t hg hn e => hn (hg.eq (e ▸ ht))
  exact ⟨owns_chg h1 hs (fun g e => hno g _ (owns_ty h1 e).2 (by decide)), h2.chg hs (fun i z => ⟨fun e => hno i _ (owns_ty n1 e).2 (by decide) z, fun _ _ _ _ _ hi => hno i _ hi (by decide) z⟩), owns_chg h3 hs (fun g e => hno g _ (owns_ty h3 e).2 (by decide))⟩
set_option maxRecDepth 20000 in
theorem LsAt.mono {base base' : Nat} {N : List (List Int)} (h : LsAt w base nv tv N) (hb : base' ≤ base) : LsAt w base' nv tv N := by
  obtain ⟨us, h1, h2, h3⟩ := h
  refine ⟨us, owns_mono h1 hb, h2, fun i hi => ?_⟩
  obtain ⟨ao, c, e1, e2, e3, e4⟩ := h3 i hi
  exact ⟨ao, c, e1, e2, e3, fun a e => ⟨(e4 a e).1, Nat.le_trans hb (e4 a e).2⟩⟩
end
end Go.Proofs.YtafbnmiipfkohaaGreatDoor

/-
  A formula or its Not: nothing to go through; the mathematics.
-/
namespace Go.Proofs.YtafbnmiipfkohaaGreatDoor
open Go.ChangeShapes Go.WideShapes Go.ChangeAt Go.RowKit Go.Deep
open Terms Tm

set_option maxRecDepth 20000 in
theorem tru_in {L l : List (Int × Int)} {off : Nat} (hL : endsCode (L.map Prod.fst) = 0) (hz : endsCode (l.map Prod.fst) = 0) (hlen : off + l.length ≤ L.length) (hget : ∀ p, p < l.length → L.getD (off + p) (0, 0) = l.getD p (0, 0)) (hsec : ∀ p, p + 1 < l.length → sec L (off + p) = off + sec l p) (hno : ∀ p, p < l.length → lookB (l.getD p (0, 0)).1 = false) (letter : List Bool) (claim : Int) : ∀ d p, l.length ≤ p + d → p < l.length → tru L letter claim (off + p) = tru l letter claim p := by
  intro d
  induction d with
  | zero => intro p h1 h2; omega
  | succ d ih =>
    intro p h1 h2
    have e := hget p h2
    have hp' : off + p < L.length := by omega
    obtain ⟨q1, q2⟩ := part_in hz h2
    obtain ⟨_, q3⟩ := part_in hL hp'
    rw [e] at q3
    have hb := hno p h2
    rw [tru_mk h2 hb (fun h => (q2 h).1), tru_mk hp' (by rw [e]; exact hb) (by rw [e]; exact fun h => (q3 h).1), e]
    by_cases k1 : 1 ≤ pn (l.getD p (0, 0)).1
    · rw [show off + p + 1 = off + (p + 1) from rfl, ih (p + 1) (by omega) (q1 k1)]
      by_cases k2 : pn (l.getD p (0, 0)).1 = 2
      · rw [hsec p (q1 k1), ih (sec l p) (by have := (q2 k2).1; omega) (q2 k2).2]
      · have hk : (l.getD p (0, 0)).1 ≠ 8 ∧ (l.getD p (0, 0)).1 ≠ 9 := by
          constructor <;> intro e <;> rw [e] at k2 <;> exact absurd rfl k2
        simp only [mkB, hk.1, hk.2, if_false]
    · have hk : (l.getD p (0, 0)).1 ≠ 8 ∧ (l.getD p (0, 0)).1 ≠ 9 ∧ (l.getD p (0, 0)).1 ≠ 10 := by
        refine ⟨?_, ?_, ?_⟩ <;> intro e <;> rw [e] at k1 <;> exact absurd (by decide) k1
      simp only [mkB, hk.1, hk.2.1, hk.2.2, if_false]
set_option maxRecDepth 20000 in
theorem FOk.quiet {l : List (Int × Int)} {T : Tm} (h : FOk 0 l T) : ∀ p, p < l.length → lookB (l.getD p (0, 0)).1 = false := fun p hp => by
  have h1 := List.eq_nil_of_length_eq_zero h.many
  cases hb : lookB (l.getD p (0, 0)).1 with
  | false => rfl
  | true =>
    have hm : l.getD p (0, 0) ∈ l.filter fun o => lookB o.1 := by
      rw [List.mem_filter]
      refine ⟨?_, hb⟩
      rw [List.getD_eq_getElem?_getD, List.getElem?_eq_getElem hp]
      exact List.getElem_mem _
    rw [h1] at hm
    exact absurd hm List.not_mem_nil
set_option maxRecDepth 20000 in
theorem sec_of {m : Nat} {l : List (Int × Int)} {T : Tm} (hF : FOk m l T) {p : Nat} (hp : p + 1 < l.length) : sec l p = p + 1 + (T.sub (p + 1)).size := by
  have h1 := (Tm.end_at hF.wf (q := p + 1) (by rw [hF.size]; exact hp)).1
  rw [hF.ops] at h1
  exact h1
set_option maxRecDepth 20000 in
/-- EITHER OF TWO, without looks ahead. -/
theorem tru_either {t s : List (Int × Int)} {T S : Tm} (h : FOk 0 t T) (g : FOk 0 s S) (hl : t.length + s.length ≤ 59) (ht : 0 < t.length) (hs : 0 < s.length) (letter : List Bool) (claim : Int) : tru ((9, 0) :: (t ++ s)) letter claim 0 = (tru t letter claim 0 || tru s letter claim 0) := by
  have hU := FOk.bin (k := 9) (by decide) (by decide) h g
  have hzU := hU.ends (by simp; omega)
  have hsT := h.size
  have hsS := g.size
  have a1 : tru ((9, 0) :: (t ++ s)) letter claim (1 + 0) = tru t letter claim 0 := by
    refine tru_in hzU (h.ends (by omega)) (by simp; omega) (fun p hp => ?_) (fun p hp => ?_) h.quiet letter claim t.length 0 (by omega) ht
    · rw [show 1 + p = p + 1 by omega, List.getD_cons_succ]
      simp [List.getD_eq_getElem?_getD, List.getElem?_append_left hp]
    · rw [sec_of hU (by simp; omega), sec_of h hp]
      have : (Tm.bi 9 0 T S).sub (1 + p + 1) = T.sub (p + 1) := by
        rw [show 1 + p + 1 = (p + 1) + 1 by omega]
        simp only [Tm.sub]
        rw [if_pos (by omega)]
      rw [this]
      omega
  have a2 : tru ((9, 0) :: (t ++ s)) letter claim (1 + t.length + 0) = tru s letter claim 0 := by
    refine tru_in hzU (g.ends (by omega)) (by simp; omega) (fun p hp => ?_) (fun p hp => ?_) g.quiet letter claim s.length 0 (by omega) hs
    · rw [show 1 + t.length + p = (t.length + p) + 1 by omega, List.getD_cons_succ]
      simp [List.getD_eq_getElem?_getD, List.getElem?_append_right]
    · rw [sec_of hU (by simp; omega), sec_of g hp]
      have : (Tm.bi 9 0 T S).sub (1 + t.length + p + 1) = S.sub (p + 1) := by
        rw [show 1 + t.length + p + 1 = (t.length + p + 1) + 1 by omega]
        simp only [Tm.sub]
        rw [if_neg (by omega), hsT, show t.length + p + 1 - t.length = p + 1 by omega]
      rw [this]
      omega
  have hsec0 : sec ((9, 0) :: (t ++ s)) 0 = 1 + t.length := by
    rw [sec_of hU (by simp; omega)]
    have : (Tm.bi 9 0 T S).sub (0 + 1) = T.sub 0 := by
      simp only [Tm.sub]
      rw [if_pos (by omega)]
    rw [this]
    have h0 : T.sub 0 = T := by cases T <;> rfl
    rw [h0, hsT]
  rw [tru_mk (l := (9, 0) :: (t ++ s)) (p := 0) (by simp) rfl (fun _ => by rw [hsec0]; omega), hsec0]
  simp only [Nat.add_zero] at a1 a2
  rw [show 0 + 1 = 1 from rfl, a1, a2]
  simp [mkB]
/-- a formula or its Not. -/
def yesF (l : List (Int × Int)) : List (Int × Int) := (9, 0) :: (l ++ ((10, 0) :: l))
section
variable {m : Mo} {l : List (Int × Int)}
set_option maxRecDepth 20000 in
theorem yes_ok (h : KTaskOk m l 0) (hl : l.length ≤ 17) : KTaskOk m (yesF l) 0 := by
  obtain ⟨T, hT⟩ := h.fo
  exact ⟨h.mo, h.vars, ⟨_, FOk.bin (k := 9) (by decide) (by decide) hT hT.not⟩, by simp [yesF]; omega, h.many⟩
set_option maxRecDepth 20000 in
theorem yes_tru (h : KTaskOk m l 0) (hl : l.length ≤ 17) (hne : l ≠ []) (letter : List Bool) (claim : Int) : tru (yesF l) letter claim 0 = true := by
  obtain ⟨T, hT⟩ := h.fo
  unfold yesF
  rw [tru_either hT hT.not (by simp; omega) (List.length_pos_iff.2 hne) (by simp) letter claim, tru_not hT (by omega) (List.length_pos_iff.2 hne)]
  cases tru l letter claim 0 <;> rfl
set_option maxRecDepth 20000 in
theorem yes_beg (h : KTaskOk m l 0) (hl : l.length ≤ 17) (hne : l ≠ []) : begL m propsL (yesF l) = [] := by
  unfold begL
  rw [(ba_ahead (yes_ok h hl)).1]
  show begTo m propsL (yesF l) (0 + 1) = []
  rw [begTo, if_pos (yes_tru h hl hne _ _)]
  rfl
set_option maxRecDepth 20000 in
theorem no_beg (h : KTaskOk m l 0) (hl : l.length ≤ 17) (hne : l ≠ []) : begL m propsL ((10, 0) :: yesF l) = [(begC m, 0)] := by
  unfold begL
  rw [(ba_ahead (yes_ok h hl)).2]
  show begTo m propsL ((10, 0) :: yesF l) (0 + 1) = _
  rw [begTo, ba_not (yes_ok h hl) (by simp [yesF]), yes_tru h hl hne, if_neg (by simp)]
  rfl
end
set_option maxRecDepth 20000 in
/-- spots, each once, are at most as many as there are. -/
theorem xp_bound {m : Mo} {ps : List (List (Int × Int))} {l : List (Int × Int)} {k P : Nat} (hP : prodTo m.vars m.vars.length = (P : Nat)) (hs : ∀ p ∈ xpP m ps l k, spOk m l p) : (xpP m ps l k).length ≤ P * 2 ^ (aheadL l).length := by
  have hnd : (xpP m ps l k).Nodup := exS_nodup _ _ k
  have hcode : ∀ p ∈ xpP m ps l k, 0 ≤ p.1 * ((2 ^ (aheadL l).length : Nat) : Int) + p.2 ∧ p.1 * ((2 ^ (aheadL l).length : Nat) : Int) + p.2 < ((P * 2 ^ (aheadL l).length : Nat) : Int) := fun p hp => by
    obtain ⟨⟨h1, h2⟩, d, h3, h4⟩ := hs p hp
    generalize 2 ^ (aheadL l).length = N at *
    have h5 : p.1 * (N : Int) ≤ ((P : Int) - 1) * N := Int.mul_le_mul_of_nonneg_right (by omega) (by omega)
    have h6 : 0 ≤ p.1 * (N : Int) := Int.mul_nonneg h1 (by omega)
    have h7 : ((P : Int) - 1) * (N : Int) = (P : Int) * N - N := by rw [Int.sub_mul]; omega
    have h8 : ((P * N : Nat) : Int) = (P : Int) * N := by push_cast; rfl
    omega
  have hnd2 : ((xpP m ps l k).map fun p => p.1 * ((2 ^ (aheadL l).length : Nat) : Int) + p.2).Nodup := by
    refine List.Pairwise.map _ (fun a b hab => hab) ?_
    refine List.Pairwise.imp_of_mem ?_ hnd
    intro a b ha hb hne e
    obtain ⟨_, d, h3, h4⟩ := hs a ha
    obtain ⟨_, d', h3', h4'⟩ := hs b hb
    generalize 2 ^ (aheadL l).length = N at *
    have hN : (0 : Int) < N := by omega
    have e1 : a.2 = b.2 := by
      rw [h4, h4']
      have r1 : ((d : Int) + a.1 * N) % (N : Int) = (d : Int) := by rw [Int.add_mul_emod_self_right]; exact Int.emod_eq_of_lt (by omega) (by omega)
      have r2 : ((d' : Int) + b.1 * N) % (N : Int) = (d' : Int) := by rw [Int.add_mul_emod_self_right]; exact Int.emod_eq_of_lt (by omega) (by omega)
      have e' : (d : Int) + a.1 * N = (d' : Int) + b.1 * N := by rw [h4, h4'] at e; omega
      rw [← r1, ← r2, e']
    have e2 : a.1 * (N : Int) = b.1 * N := by omega
    exact hne (Prod.ext (Int.eq_of_mul_eq_mul_right (by omega) e2) e1)
  have := nodup_length (N := P * 2 ^ (aheadL l).length) hnd2 (fun y hy => by
    obtain ⟨p, hp, rfl⟩ := List.mem_map.1 hy
    exact hcode p hp)
  rw [List.length_map] at this
  exact this
set_option maxRecDepth 20000 in
/-- where there are few spots there are not too many. -/
theorem xp_few {m : Mo} {ps : List (List (Int × Int))} {l : List (Int × Int)} {P : Nat} (hk : tkcode m ps l = 0) (hP : prodTo m.vars m.vars.length = (P : Nat)) (hz : P * 2 ^ (aheadL l).length ≤ 20000) : ¬ ExFull m ps l := by
  rintro ⟨k, h1, h2⟩
  have hs : ∀ j, j ≤ k + 1 → ∀ p ∈ xpP m ps l j, spOk m l p := fun j => by
    induction j with
    | zero => exact fun _ => xpP_zero hk
    | succ j ih => exact fun hj => xpP_next hk (h1 j (by omega)) (ih (by omega))
  have := xp_bound hP (hs (k + 1) (Nat.le_refl _))
  omega
end Go.Proofs.YtafbnmiipfkohaaGreatDoor

/-
  The contract of product.Explore.
-/
namespace Go.Proofs.YtafbnmiipfkohaaGreatDoor
open Go.ChangeShapes Go.WideShapes Go.ChangeAt Go.RowKit Go.Deep Go.Maps
open Terms Tm

set_option maxHeartbeats 1600000 in
set_option maxRecDepth 20000 in
theorem explore_bad (va vr pv fv : Value) (m : Mo) (ps : List (List (Int × Int))) (l : List (Int × Int)) (w : World) (hB : 0 < w.heap.size) (hT : TabAt w) (hV : TaskV w va vr pv fv m ps l) (hk : tkcode m ps l ≠ 0) :
    Calls Tryz.prog 13 #[.agg #[va, vr, pv, fv]] w (ExAns w m ps l) := by
  unfold ExAns
  obtain ⟨ao, ac, rfl⟩ := hV.mo.1.shape
  obtain ⟨ro, rc, rfl⟩ := hV.mo.2.shape
  obtain ⟨po, pc, rfl⟩ := hV.ps.shape
  obtain ⟨fo, fc, rfl, _⟩ := id hV.fo
  obtain ⟨W0, hW0⟩ : ∃ W0, W0 = (w.alloc (.cells #[.slice ao m.vars.length ac, .slice ro m.rules.length rc, .slice po ps.length pc, .slice fo l.length fc] 34)).alloc (.cells #[.slice none 0 0, .int .i64 0, .slice none 0 0, .slice none 0 0, .int .i64 0] 53) := ⟨_, rfl⟩
  have hbW : Below w.heap.size w W0 := by rw [hW0]; exact ((Below.refl _ _).alloc (Nat.le_refl _) _).alloc (by simp) _
  have hzW : W0.heap.size = w.heap.size + 2 := by rw [hW0]; simp
  have hX0 : W0.heap[w.heap.size + 1]? = some (grB (.slice none 0 0) (.slice none 0 0) (.slice none 0 0) 0 0) := by
    rw [hW0]
    have := (MapKept.heap_alloc (w.alloc (.cells #[.slice ao m.vars.length ac, .slice ro m.rules.length rc, .slice po ps.length pc, .slice fo l.length fc] 34)) (.cells #[.slice none 0 0, .int .i64 0, .slice none 0 0, .slice none 0 0, .int .i64 0] 53)).1
    rw [World.size_alloc] at this
    exact this
  have hsv := surveyOf_bad _ _ _ _ m ps l W0 (Nat.lt_of_lt_of_le hB hbW.size) (hT.below hbW hB) (hV.below hbW) hk
  have HFin : Hid (∀ w1, Below W0.heap.size W0 w1 → (w1.cell? ⟨w.heap.size + 1, 0, none⟩ = some (.slice none 0 0) ∧ w1.cell? ⟨w.heap.size + 1, 1, none⟩ = some (.int .i64 0) ∧ w1.cell? ⟨w.heap.size + 1, 2, none⟩ = some (.slice none 0 0) ∧ w1.cell? ⟨w.heap.size + 1, 3, none⟩ = some (.slice none 0 0) ∧ w1.cell? ⟨w.heap.size + 1, 4, none⟩ = some (.int .i64 0)) ∧ (∀ i, w1.frozen? ⟨w.heap.size + 1, i, none⟩ = false) ∧ Below w.heap.size w w1) := fun w1 h => by
    have hb := (h.block (w.heap.size + 1) (by omega)).trans hX0
    exact ⟨grB_cells hb, grB_free hb, hbW.trans (h.mono hbW.size)⟩
  have HK : Hid (tkcode m ps l ≠ 0) := hk
  generalize tkcode m ps l = tc at *
  generalize m.vars.length = vn at *
  generalize m.rules.length = rn at *
  generalize ps.length = pn at *
  generalize l.length = fn at *
  clear hV hT
  go_enter Tryz.func13, Tryz.ntmps13
  go_wp2_with (first | (go_at_call 24; rw [← hW0]; refine hsv.mono ?_; rintro e w1 ⟨rfl, hb1⟩; obtain ⟨⟨x0, x1, x2, x3, x4⟩, xf, hbw⟩ := HFin.out w1 hb1; have f0 := xf 0; have f1 := xf 1; have f2 := xf 2; have f3 := xf 3; have f4 := xf 4))
  have hbF : Below w.heap.size w (((((w1.setCell ⟨w.heap.size + 1, 0, none⟩ (.slice none 0 0)).setCell ⟨w.heap.size + 1, 1, none⟩ (.int .i64 0)).setCell ⟨w.heap.size + 1, 2, none⟩ (.slice none 0 0)).setCell ⟨w.heap.size + 1, 3, none⟩ (.slice none 0 0)).setCell ⟨w.heap.size + 1, 4, none⟩ (.int .i64 0)) := hbw.trans ((chg_box w1 (w.heap.size + 1) _ _ _ _ _).below (fun i e => by omega) (by have := hbw.size; omega))
  refine bodyPost_ret (v := .tuple #[.agg #[.slice none 0 0, .int .i64 0, .slice none 0 0, .slice none 0 0, .int .i64 0], .int .i64 tc]) ?_ rfl (.inr (.inr ⟨HK.out, rfl, hbF⟩))
  simp [results, Tryz.results13, go_sem, x0, x1, x2, x3, x4]

set_option maxHeartbeats 1600000 in
set_option maxRecDepth 20000 in
/-- the atlas is made, and holds where runs begin. -/
theorem ex_start (W0 w1 w2 : World) (n : Nat) (va vr pv fv : Value) (m : Mo) (ps : List (List (Int × Int))) (l : List (Int × Int)) (ho : Option Addr) (hc : Nat) (so : Option Addr) (sc : Nat) (hk : tkcode m ps l = 0) (hb1 : Below W0.heap.size W0 w1) (hn : W0.heap.size ≤ n) (hs : SurvAt w1 (n + 2) va vr pv fv (.slice ho (aheadL l).length hc) n (n + 1)) (hor : w1.ownsRow W0.heap.size 3 1 (.slice ho (aheadL l).length hc) (aheadL l).length (ivals (aheadL l))) (hm : w1.heap[n]? = some (.map #[] 0) ∧ w1.heap[n + 1]? = some (.map #[] 0)) (hb2 : Below w1.heap.size w1 w2) (hsp : SpO w2 w1.heap.size (.slice so (begL m ps l).length sc) (begL m ps l)) :
    Calls Tryz.prog 28 #[.pointer (some ⟨w2.heap.size + 1, 0, none⟩), .slice so (begL m ps l).length sc] ((w2.alloc (.map #[] 0)).alloc (.cells #[.slice none 0 0, .int .i64 ((begL m ps l).length : Nat), .slice none 0 0, .slice none 0 0, .int .i64 ((aheadL l).length : Nat), .map (some w2.heap.size)] 82)) fun e w3 => ∃ v sv, e = .returned v ∧ Hid (ExW W0 w3 w2.heap.size (w2.heap.size + 1) w2.heap.size (n + 2) n (n + 1) (0 * 300001) va vr pv fv m ps l ho hc (xpP m ps l 0) (xpN m ps l 0) (xpT m ps l 0) ((begL m ps l).length : Nat) ((aheadL l).length : Nat) sv (.slice none 0 0) (.slice none 0 0)) := by
  have hbl := begL_len hk
  have hv1 : SvOk (fun _ => True) W0 w1 (n + 2) n (n + 1) 0 va vr pv fv m ps l ho hc := SvOk.made (Below.refl _ _) hb1 hn hs hor hm.1 hm.2
  have hv2 := hv1.below hb2
  have hl1 := hv2.box.lt
  have hl2 : n < w2.heap.size := by omega
  obtain ⟨WA, hWA⟩ : ∃ WA, WA = (w2.alloc (.map #[] 0)).alloc (.cells #[.slice none 0 0, .int .i64 ((begL m ps l).length : Nat), .slice none 0 0, .slice none 0 0, .int .i64 ((aheadL l).length : Nat), .map (some w2.heap.size)] 82) := ⟨_, rfl⟩
  have hbA : Below w2.heap.size w2 WA := by rw [hWA]; exact ((Below.refl _ _).alloc (Nat.le_refl _) _).alloc (by simp) _
  have hmA : WA.heap[w2.heap.size]? = some (.map #[] 0) := by
    rw [hWA, Below.heap_alloc _ _ _ (by simp)]
    exact (MapKept.heap_alloc w2 _).1
  have hxA : WA.heap[w2.heap.size + 1]? = some (atB (.slice none 0 0) (.slice none 0 0) (.slice none 0 0) ((begL m ps l).length : Nat) ((aheadL l).length : Nat) w2.heap.size) := by
    rw [hWA]
    have := (MapKept.heap_alloc (w2.alloc (.map #[] 0)) (.cells #[.slice none 0 0, .int .i64 ((begL m ps l).length : Nat), .slice none 0 0, .slice none 0 0, .int .i64 ((aheadL l).length : Nat), .map (some w2.heap.size)] 82)).1
    rw [World.size_alloc] at this
    exact this
  have hX : ExW W0 WA w2.heap.size (w2.heap.size + 1) w2.heap.size (n + 2) n (n + 1) (0 * 300001) va vr pv fv m ps l ho hc [] (xpN m ps l 0) (xpT m ps l 0) ((begL m ps l).length : Nat) ((aheadL l).length : Nat) (.slice none 0 0) (.slice none 0 0) (.slice none 0 0) := by
    refine ⟨((hv2.re (Pz' := offT (.slice none 0 0)) (fun _ _ _ e => by simp [Value.ownBlock] at e) (fun _ _ e => by simp [Value.ownBlock] at e)).below hbA).mono (by omega), ⟨hxA, by omega, Nat.le_refl _, LiesAt.new hmA, SpO.nil _ _, ⟨[], World.ownsRow_nil _ _ _ _, rfl, fun i hi => by simp [xpN] at hi⟩, World.ownsRow_nil _ _ _ _⟩, ?_, ?_, ?_, ?_⟩
    · have := hv2.bel.size; omega
    · omega
    · omega
    · omega
  have hsv := (hsp.later hbA (Nat.le_refl _)).v
  have hIs : ∀ j, j < (begL m ps l).length → I64s ((begL m ps l).getD j (0, 0)) := fun j hj => spot_I64 hk (begL_spot hk (by rw [List.getD_eq_getElem?_getD, List.getElem?_eq_getElem hj]; exact List.getElem_mem _))
  have hsep : ∀ a, so = some a → ¬ atZ (w2.heap.size + 1) w2.heap.size (.slice none 0 0) a.block := fun a e z => by
    have hlt : a.block < w2.heap.size := by
      rcases hsp.2 with ⟨h0, _⟩ | ⟨g, cap, cur, h1, _, h3, _⟩
      · rw [e] at h0; simp at h0
      · rw [e] at h1
        injection h1 with h1 _ _
        injection h1 with h1
        subst h1
        exact (Array.getElem?_eq_some_iff.1 h3).1
    rcases z with z | z | z
    · omega
    · omega
    · simp [Value.ownBlock] at z
  rw [← hWA]
  refine (places_any WA w2.heap.size (w2.heap.size + 1) w2.heap.size [] _ _ _ _ _ _ _ _ so sc hX.tl hsv hsep hIs (by simp; omega)).mono fun e w3 ⟨h1, sv', h2, h3, h4, h5, h6⟩ => ?_
  exact ⟨_, sv', h1, hX.put h5 h2⟩

set_option maxHeartbeats 1600000 in
set_option maxRecDepth 20000 in
/-- a round. -/
theorem ex_round (W0 wr : World) (base A lm B bs bl k : Nat) (va vr pv fv : Value) (m : Mo) (ps : List (List (Int × Int))) (l : List (Int × Int)) (ho : Option Addr) (hc : Nat) (init many : Int) (sv nv tv : Value) (hB : 0 < W0.heap.size) (hT : TabAt W0) (hV : TaskV W0 va vr pv fv m ps l) (hk : tkcode m ps l = 0) (hX : ExW W0 wr base A lm B bs bl (k * 300001) va vr pv fv m ps l ho hc (xpP m ps l k) (xpN m ps l k) (xpT m ps l k) init many sv nv tv) (hlt : k < (xpP m ps l k).length) (hz : (xpP m ps l k).length ≤ 20000) (hsp : ∀ p ∈ xpP m ps l k, spOk m l p) :
    Calls Tryz.prog 29 #[.pointer (some ⟨A, 0, none⟩), .pointer (some ⟨B, 0, none⟩), .agg #[.int .i64 (xpAt m ps l k).1, .int .i64 (xpAt m ps l k).2]] wr fun e w' => e = .returned (.int .i64 (if 20000 < (xpP m ps l (k + 1)).length then 12 else 0)) ∧ ∃ sv nv tv, Hid (ExW W0 w' base A lm B bs bl ((k + 1) * 300001) va vr pv fv m ps l ho hc (xpP m ps l (k + 1)) (xpN m ps l (k + 1)) (xpT m ps l (k + 1)) init many sv nv tv) := by
  obtain ⟨h1, d, h2, h3⟩ := hsp _ (xpAt_mem hlt)
  have hgo := goThrough_any W0 wr base A lm B bs bl (k * 300001) va vr pv fv m ps l ho hc (xpP m ps l k) (xpN m ps l k) (xpT m ps l k) init many sv nv tv (xpAt m ps l k).1 d hB hT hV hk hX (by omega) h1 h2 hz (by rw [xpN_len]; omega) (by rw [xpT_len]; omega)
  unfold GoPost at hgo
  rw [← h3] at hgo
  refine hgo.mono fun e w' ⟨g1, sv', nv', tv', g2⟩ => ⟨g1, sv', nv', tv', ?_⟩
  have e1 : (k + 1) * 300001 = k * 300001 + 300001 := by omega
  rw [e1]
  exact g2

set_option maxHeartbeats 3200000 in
set_option maxRecDepth 20000 in
theorem explore_ok (va vr pv fv : Value) (m : Mo) (ps : List (List (Int × Int))) (l : List (Int × Int)) (w : World) (hB : 0 < w.heap.size) (hT : TabAt w) (hV : TaskV w va vr pv fv m ps l) (hk : tkcode m ps l = 0) :
    Calls Tryz.prog 13 #[.agg #[va, vr, pv, fv]] w (ExAns w m ps l) := by
  unfold ExAns
  obtain ⟨ao, ac, rfl⟩ := hV.mo.1.shape
  obtain ⟨ro, rc, rfl⟩ := hV.mo.2.shape
  obtain ⟨po, pc, rfl⟩ := hV.ps.shape
  obtain ⟨fo, fc, rfl, _⟩ := id hV.fo
  obtain ⟨W0, hW0⟩ : ∃ W0, W0 = (w.alloc (.cells #[.slice ao m.vars.length ac, .slice ro m.rules.length rc, .slice po ps.length pc, .slice fo l.length fc] 34)).alloc (.cells #[.slice none 0 0, .int .i64 0, .slice none 0 0, .slice none 0 0, .int .i64 0] 53) := ⟨_, rfl⟩
  have hbW : Below w.heap.size w W0 := by rw [hW0]; exact ((Below.refl _ _).alloc (Nat.le_refl _) _).alloc (by simp) _
  have hzW : W0.heap.size = w.heap.size + 2 := by rw [hW0]; simp
  have hX0 : W0.heap[w.heap.size + 1]? = some (grB (.slice none 0 0) (.slice none 0 0) (.slice none 0 0) 0 0) := by
    rw [hW0]
    have := (MapKept.heap_alloc (w.alloc (.cells #[.slice ao m.vars.length ac, .slice ro m.rules.length rc, .slice po ps.length pc, .slice fo l.length fc] 34)) (.cells #[.slice none 0 0, .int .i64 0, .slice none 0 0, .slice none 0 0, .int .i64 0] 53)).1
    rw [World.size_alloc] at this
    exact this
  have hB0 : 0 < W0.heap.size := Nat.lt_of_lt_of_le hB hbW.size
  have hT0 := hT.below hbW hB
  have hV0 := hV.below hbW
  have hsv := surveyOf_ok _ _ _ _ m ps l W0 hB0 hT0 hV0 hk
  have HFin : Hid (∀ w1, Below W0.heap.size W0 w1 → (w1.cell? ⟨w.heap.size + 1, 0, none⟩ = some (.slice none 0 0) ∧ w1.cell? ⟨w.heap.size + 1, 1, none⟩ = some (.int .i64 0) ∧ w1.cell? ⟨w.heap.size + 1, 2, none⟩ = some (.slice none 0 0) ∧ w1.cell? ⟨w.heap.size + 1, 3, none⟩ = some (.slice none 0 0) ∧ w1.cell? ⟨w.heap.size + 1, 4, none⟩ = some (.int .i64 0)) ∧ (∀ i, w1.frozen? ⟨w.heap.size + 1, i, none⟩ = false) ∧ TyB w1 (w.heap.size + 1) 53 ∧ Below w.heap.size w w1) := fun w1 h => by
    have hb := (h.block (w.heap.size + 1) (by omega)).trans hX0
    exact ⟨grB_cells hb, grB_free hb, ⟨_, _, hb⟩, hbW.trans (h.mono hbW.size)⟩
  have HBe : Hid (∀ (w1 : World) (B bs bl : Nat) (ho : Option Addr) (hcp : Nat), Below W0.heap.size W0 w1 → SurvAt w1 B (.slice ao m.vars.length ac) (.slice ro m.rules.length rc) (.slice po ps.length pc) (.slice fo l.length fc) (.slice ho (aheadL l).length hcp) bs bl → Calls Tryz.prog 27 #[.pointer (some ⟨B, 0, none⟩)] w1 fun e w' => ∃ so sc, e = .returned (.tuple #[.slice so (begL m ps l).length sc, .int .i64 0]) ∧ Below w1.heap.size w1 w' ∧ Hid (SpO w' w1.heap.size (.slice so (begL m ps l).length sc) (begL m ps l))) := fun w1 B bs bl ho hcp h hs => begin_any B _ _ _ _ m ps l ho hcp bs bl w1 (Nat.lt_of_lt_of_le hB0 h.size) (hT0.below h hB0) (hV0.below h) hk hs
  have HSt := (show Hid _ from fun (w1 w2 : World) (n : Nat) (ho : Option Addr) (hc : Nat) (so : Option Addr) (sc : Nat) => ex_start W0 w1 w2 n (.slice ao m.vars.length ac) (.slice ro m.rules.length rc) (.slice po ps.length pc) (.slice fo l.length fc) m ps l ho hc so sc hk)
  have HRd := (show Hid _ from fun (wr : World) (base A lm B bs bl k : Nat) (ho : Option Addr) (hc : Nat) (sv nv tv : Value) => ex_round W0 wr base A lm B bs bl k (.slice ao m.vars.length ac) (.slice ro m.rules.length rc) (.slice po ps.length pc) (.slice fo l.length fc) m ps l ho hc ((begL m ps l).length : Nat) ((aheadL l).length : Nat) sv nv tv hB0 hT0 hV0 hk)
  have HP0 : Hid ((∀ p ∈ xpP m ps l 0, spOk m l p) ∧ (xpP m ps l 0).length ≤ 20000) := ⟨xpP_zero hk, by
    have h1 := (plTo_length (begL m ps l) []).2
    have h2 := begL_len hk
    have e : xpP m ps l 0 = plTo [] (begL m ps l) := rfl
    rw [e]
    simp at h1
    omega⟩
  have HPn : Hid (∀ k, k < (xpP m ps l k).length → (∀ p ∈ xpP m ps l k, spOk m l p) → ∀ p ∈ xpP m ps l (k + 1), spOk m l p) := fun k h1 h2 => xpP_next hk h1 h2
  have HK : Hid (tkcode m ps l = 0) := hk
  have hbn := begL_len hk
  have han := (lcode_zero (tk_zero hk).2).2.2.2.2
  unfold SurvPost at hsv
  clear hV hT hV0 hT0 hk
  generalize hbl : (begL m ps l).length = bn at *
  generalize hal : (aheadL l).length = an at *
  generalize m.vars.length = vn at *
  generalize m.rules.length = rn at *
  generalize ps.length = pn at *
  generalize l.length = fn at *
  have hmm := @run_makeMap Tryz.prog
  go_enter Tryz.func13, Tryz.ntmps13
  go_upto_region 8 with (first | (go_at_call 24; rw [← hW0]; refine hsv.mono ?_; rintro e w1 ⟨n, ho, hcp, rfl, hb1, hn1, _, HS, HO, HM⟩; have hbe := HBe.out w1 _ _ _ _ _ hb1 HS.out) | (go_at_call 27; refine hbe.mono ?_; rintro e w2 ⟨so, sc, rfl, hb2, HSp⟩; have hst := HSt.out w1 w2 n ho hcp so sc hb1 hn1 HS.out HO.out HM.out hb2 HSp.out; have x4 := (HS.out.later hb2).c4))
  go_wp2_with (first | (go_at_call 28; refine hst.mono ?_; rintro e w3 ⟨v3, sv3, rfl, HX3⟩))
  generalize hA : w2.heap.size + 1 = A at *
  generalize hlm : w2.heap.size = lm at *
  generalize hBn : n + 2 = B at *
  generalize hbs : n + 1 = bl at *
  clear hst hsv hbe HSt HBe HS HO HM HSp x4 hb1 hb2 hmm hlm
  go_loopw [8] (fun i wr => ∃ k pk : Nat, i = .int .i64 k ∧ k ≤ pk ∧ pk ≤ 20000 ∧ Hid ((xpP m ps l k).length = pk ∧ (∀ p ∈ xpP m ps l k, spOk m l p) ∧ ∀ j, j < k → j < (xpP m ps l j).length) ∧ ∃ vo vc nv tv, Hid (ExW W0 wr lm A lm B n bl (k * 300001) (.slice ao vn ac) (.slice ro rn rc) (.slice po pn pc) (.slice fo fn fc) m ps l ho hcp (xpP m ps l k) (xpN m ps l k) (xpT m ps l k) (bn : Nat) (an : Nat) (.slice vo pk vc) nv tv)) (fun i _ => 20001 - (intOf i).toNat)
  case atStart =>
    obtain ⟨vo, vc, e⟩ := HX3.out.tl.sp.shape
    refine ⟨0, (xpP m ps l 0).length, rfl, Nat.zero_le _, HP0.out.2, ⟨rfl, HP0.out.1, fun j hj => by omega⟩, vo, vc, .slice none 0 0, .slice none 0 0, ?_⟩
    rw [← e]
    exact HX3.out
  case round =>
    obtain ⟨k, pk, rfl, hkp, hpk, HK2, vo, vc, nv, tv, HX⟩ := hrel
    obtain ⟨a0, a1, a2, a3, a4, a5⟩ := atB_cells HX.out.tl.box
    by_cases hlt : k < pk
    · have hki : (k : Int) < (pk : Int) := by omega
      have hlt2 : k < (xpP m ps l k).length := by rw [HK2.out.1]; exact hlt
      obtain ⟨b, off, rfl, _, c0, c1⟩ := HX.out.tl.sp.v.get hlt2
      have hrd := HRd.out wr lm A lm B n bl k ho hcp _ nv tv HX.out hlt2 (by rw [HK2.out.1]; exact hpk) HK2.out.2.1
      have HKn : Hid ((∀ p ∈ xpP m ps l (k + 1), spOk m l p) ∧ ∀ j, j < k + 1 → j < (xpP m ps l j).length) := ⟨HPn.out k hlt2 HK2.out.2.1, fun j hj => by
        by_cases h : j < k
        · exact HK2.out.2.2 j h
        · obtain rfl : j = k := by omega
          exact hlt2⟩
      have e1 : (xpP m ps l k).getD k (0, 0) = xpAt m ps l k := rfl
      rw [e1] at c0 c1
      clear e1 HX HRd hlt2
      generalize xpAt m ps l k = s at *
      obtain ⟨x, y⟩ := s
      simp only at c0 c1 hrd
      by_cases hfull : 20000 < (xpP m ps l (k + 1)).length
      · rw [if_pos hfull] at hrd
        have HFu : Hid (ExFull m ps l) := ⟨k, fun j hj => HKn.out.2 j (by omega), hfull⟩
        clear hfull HKn HK2
        go_wp2_with (first | (go_at_call 29; refine hrd.mono ?_; rintro e w4 ⟨rfl, sv4, nv4, tv4, HX4⟩; obtain ⟨⟨x0, x1, x2, x3, x4⟩, xf, _, hbw⟩ := HFin.out w4 HX4.out.su.bel; have f0 := xf 0; have f1 := xf 1; have f2 := xf 2; have f3 := xf 3; have f4 := xf 4))
        have hbF : Below w.heap.size w (((((w4.setCell ⟨w.heap.size + 1, 0, none⟩ (.slice none 0 0)).setCell ⟨w.heap.size + 1, 1, none⟩ (.int .i64 0)).setCell ⟨w.heap.size + 1, 2, none⟩ (.slice none 0 0)).setCell ⟨w.heap.size + 1, 3, none⟩ (.slice none 0 0)).setCell ⟨w.heap.size + 1, 4, none⟩ (.int .i64 0)) := hbw.trans ((chg_box w4 (w.heap.size + 1) _ _ _ _ _).below (fun i e => by omega) (by have := hbw.size; omega))
        refine bodyPost_ret (v := .tuple #[.agg #[.slice none 0 0, .int .i64 0, .slice none 0 0, .slice none 0 0, .int .i64 0], .int .i64 12]) ?_ rfl (.inr (.inl ⟨HK.out, HFu.out, rfl, hbF⟩))
        simp [results, Tryz.results13, go_sem, x0, x1, x2, x3, x4]
      · rw [if_neg hfull] at hrd
        have HLe : Hid ((xpP m ps l (k + 1)).length ≤ 20000 ∧ pk ≤ (xpP m ps l (k + 1)).length) := ⟨by omega, by
          rw [← HK2.out.1]
          exact (exS_pre (begL m ps l) (xpBh m ps l) k).length_le⟩
        clear hfull HK2
        go_wp2_with (first | (go_at_call 29; refine hrd.mono ?_; rintro e w4 ⟨rfl, sv4, nv4, tv4, HX4⟩))
        go_roundw
        case rel =>
          obtain ⟨vo4, vc4, e⟩ := HX4.out.tl.sp.shape
          refine ⟨k + 1, (xpP m ps l (k + 1)).length, by go_num, by have := HLe.out.2; omega, HLe.out.1, ⟨rfl, HKn.out⟩, vo4, vc4, nv4, tv4, ?_⟩
          rw [← e]
          exact HX4.out
        case measure => simp [intOf]; omega
    · obtain rfl : k = pk := by omega
      obtain ⟨⟨x0, x1, x2, x3, x4⟩, xf, hty, hbw⟩ := HFin.out wr HX.out.su.bel
      have f0 := xf 0
      have f1 := xf 1
      have f2 := xf 2
      have f3 := xf 3
      have f4 := xf 4
      have HDn : Hid (ExDone m ps l k) := ⟨HK2.out.1, hpk, HK2.out.2.2, HK2.out.2.1⟩
      have HG : Hid (GrX wr w.heap.size m ps l k (.slice vo k vc) nv tv) := by
        have hle : w.heap.size ≤ lm := by have := HX.out.lo.1; have := hbW.size; omega
        exact ⟨owns_mono HX.out.tl.sp hle, HX.out.tl.nx.mono hle, owns_mono HX.out.tl.st hle⟩
      obtain ⟨no, nn, nc, rfl⟩ : ∃ no nn nc, nv = .slice no nn nc := by
        obtain ⟨us, h1, _⟩ := HX.out.tl.nx
        obtain ⟨x, y, e⟩ := owns_slice h1
        exact ⟨_, _, _, e⟩
      obtain ⟨xo, xn, xc, rfl⟩ : ∃ xo xn xc, tv = .slice xo xn xc := by
        obtain ⟨x, y, e⟩ := owns_slice HX.out.tl.st
        exact ⟨_, _, _, e⟩
      have HBF : Hid (∀ w8, Chg (fun i => i = w.heap.size + 1) wr w8 → Below w.heap.size w w8 ∧ GrX w8 w.heap.size m ps l k (.slice vo k vc) (.slice no nn nc) (.slice xo xn xc)) := fun w8 h => ⟨hbw.trans (h.below (fun i e => by omega) (by have := hbw.size; omega)), HG.out.chg h hty⟩
      clear HX HK2 HRd HG hty
      go_wp2_with fail
      obtain ⟨r1, r2⟩ := HBF.out _ (chg_box wr (w.heap.size + 1) _ _ _ _ _)
      refine bodyPost_ret (v := .tuple #[.agg #[.slice vo k vc, .int .i64 (bn : Nat), .slice no nn nc, .slice xo xn xc, .int .i64 (an : Nat)], .int .i64 0]) ?_ rfl (.inl ⟨HK.out, k, HDn.out, _, _, _, rfl, r1, r2⟩)
      simp [results, Tryz.results13, go_sem, x0, x1, x2, x3, x4]
set_option maxRecDepth 20000 in
/-- THE CONTRACT OF product.Explore. -/
theorem explore_any (va vr pv fv : Value) (m : Mo) (ps : List (List (Int × Int))) (l : List (Int × Int)) (w : World) (hB : 0 < w.heap.size) (hT : TabAt w) (hV : TaskV w va vr pv fv m ps l) :
    Calls Tryz.prog 13 #[.agg #[va, vr, pv, fv]] w (ExAns w m ps l) := by
  by_cases hk : tkcode m ps l = 0
  · exact explore_ok va vr pv fv m ps l w hB hT hV hk
  · exact explore_bad va vr pv fv m ps l w hB hT hV hk
end Go.Proofs.YtafbnmiipfkohaaGreatDoor

/-
  The walk of the law ExploreYes.
-/
namespace Go.Proofs.YtafbnmiipfkohaaGreatDoor
open Go.ChangeShapes Go.WideShapes Go.ChangeAt Go.RowKit Go.Deep Go.Maps
open Terms Tm

/-- the box of a task. -/
def tkB (va vr pv fv : Value) : Obj := .cells #[va, vr, pv, fv] 34 (0, 0)
set_option maxRecDepth 20000 in
theorem tkB_cells {w : World} {X : Nat} {va vr pv fv : Value} (hb : w.heap[X]? = some (tkB va vr pv fv)) : w.cell? ⟨X, 0, none⟩ = some va ∧ w.cell? ⟨X, 1, none⟩ = some vr ∧ w.cell? ⟨X, 2, none⟩ = some pv ∧ w.cell? ⟨X, 3, none⟩ = some fv := by
  unfold tkB at hb
  refine ⟨?_, ?_, ?_, ?_⟩ <;> simp [World.cell?, hb]
set_option maxRecDepth 20000 in
theorem tkB_free {w : World} {X : Nat} {va vr pv fv : Value} (hb : w.heap[X]? = some (tkB va vr pv fv)) (i : Nat) : w.frozen? ⟨X, i, none⟩ = false := by
  unfold tkB at hb
  simp [World.frozen?, hb]
set_option maxRecDepth 20000 in
theorem tkB_set {w : World} {X : Nat} {va vr pv fv : Value} (hb : w.heap[X]? = some (tkB va vr pv fv)) (v : Value) : (w.setCell ⟨X, 3, none⟩ v).heap[X]? = some (tkB va vr pv v) := by
  unfold tkB at *
  simp [World.setCell, Array.getElem?_modify, hb]
/-- a task in a box, with another formula. -/
structure TkAt (w1 wx : World) (X : Nat) (va vr pv : Value) (fo : Option Addr) (fn fc : Nat) (m : Mo) (l : List (Int × Int)) : Prop where
  bel : Below w1.heap.size w1 wx
  box : wx.heap[X]? = some (tkB va vr pv (.slice fo fn fc))
  tk : TaskV wx va vr pv (.slice fo fn fc) m propsL l
  hX : w1.heap.size ≤ X
section
variable {w1 wx w' : World} {X : Nat} {va vr pv : Value} {fo : Option Addr} {fn fc : Nat} {m : Mo} {l : List (Int × Int)}
set_option maxRecDepth 20000 in
theorem TkAt.below (h : TkAt w1 wx X va vr pv fo fn fc m l) (hb : Below wx.heap.size wx w') : TkAt w1 w' X va vr pv fo fn fc m l := by
  have hlt : X < wx.heap.size := (Array.getElem?_eq_some_iff.1 h.box).1
  exact ⟨h.bel.trans (hb.mono h.bel.size), (hb.block X hlt).trans h.box, h.tk.below hb, h.hX⟩
set_option maxRecDepth 20000 in
/-- another formula is laid there. -/
theorem TkAt.set {ko : Option Addr} {kn kc : Nat} {l' : List (Int × Int)} (h : TkAt w1 wx X va vr pv fo fn fc m l) (h0 : TaskV w1 va vr pv (.slice fo fn fc) m propsL l ∨ ∃ fv l0, TaskV w1 va vr pv fv m propsL l0) (hO : OpsV wx (.slice ko kn kc) l') : TkAt w1 (wx.setCell ⟨X, 3, none⟩ (.slice ko kn kc)) X va vr pv ko kn kc m l' := by
  have hb : Below w1.heap.size w1 (wx.setCell ⟨X, 3, none⟩ (.slice ko kn kc)) := h.bel.setCell (p := ⟨X, 3, none⟩) h.hX _
  have hO2 := OpsV.setBox hO (tkB_cells h.box).2.2.2 (.slice ko kn kc)
  have hT : ∃ fv l0, TaskV w1 va vr pv fv m propsL l0 := by
    rcases h0 with h0 | h0
    · exact ⟨_, _, h0⟩
    · exact h0
  obtain ⟨fv, l0, hT⟩ := hT
  have hT2 := hT.below hb
  exact ⟨hb, tkB_set h.box _, ⟨hT2.mo, hT2.ps, hO2⟩, h.hX⟩
end

set_option maxHeartbeats 6400000 in
set_option maxRecDepth 20000 in
theorem exploreYes_walk (c0 c1 c2 c3 c4 c5 c6 : Value) (a b : Vr) (rawv : Value) (rs : List (Int × Int)) (w : World) (hB : 0 < w.heap.size) (hT : TabAt w) (hG : GV a b) (hR : Raws w w.heap.size rawv rs)
    (hmd : ∀ w', Below w.heap.size w w' → Calls Tryz.prog 18 #[.agg #[c0, c1, c2, c3, c4, c5, c6]] w' fun e w2 => ∃ va vr, e = .returned (.agg #[va, vr]) ∧ Below w'.heap.size w' w2 ∧ GModel w2 va vr [a, b]) :
    Calls Tryz.prog 4 #[.agg #[c0, c1, c2, c3, c4, c5, c6], rawv] w fun e w' => e = .returned (.bool true) ∧ Below w.heap.size w w' := by
  have hA1 : Below w.heap.size w (w.alloc (.cells #[c0, c1, c2, c3, c4, c5, c6] 25)) := (Below.refl _ _).alloc (Nat.le_refl _) _
  have htk := taskFn_any c0 c1 c2 c3 c4 c5 c6 a b rawv rs 0 _ hG (by decide) (hR.up hA1) (fun w' h => hmd w' (hA1.trans (h.mono hA1.size)))
  have hspan : 1 ≤ vspan a * vspan b ∧ vspan a * vspan b ≤ 16 := by
    have h1 : 1 ≤ vspan a ∧ vspan a ≤ 4 := by have := hG.a2; have := hG.a3; unfold vspan; omega
    have h2 : 1 ≤ vspan b ∧ vspan b ≤ 4 := by have := hG.b2; have := hG.b3; unfold vspan; omega
    obtain ⟨x1, x2⟩ := h1
    obtain ⟨y1, y2⟩ := h2
    generalize vspan a = x at *
    generalize vspan b = y at *
    rcases (show x = 1 ∨ x = 2 ∨ x = 3 ∨ x = 4 by omega) with rfl | rfl | rfl | rfl <;> omega
  obtain ⟨ra, rn0, rc0, hra⟩ : ∃ a n c, rawv = .slice a n c := by obtain ⟨⟨a, c, h, _⟩, _, _⟩ := hR; exact ⟨_, _, _, h⟩
  subst hra
  -- the two explorings
  have HE1 : Hid (∀ (w' : World) (va vr pv fv : Value) (m : Mo) (l : List (Int × Int)), Below w.heap.size w w' → KTaskOk m l 0 → l.length ≤ 17 → l ≠ [] → TaskV w' va vr pv fv m propsL (yesF l) → Calls Tryz.prog 13 #[.agg #[va, vr, pv, fv]] w' fun e w2 => ∃ so sc no nn nc xo xn xc, e = .returned (.tuple #[.agg #[.slice so 0 sc, .int .i64 0, .slice no nn nc, .slice xo xn xc, .int .i64 0], .int .i64 0]) ∧ Below w'.heap.size w' w2) := fun w' va vr pv fv m l h hk hl hne hv => by
    have hk2 := (yes_ok hk hl).code
    refine (explore_any va vr pv fv m propsL (yesF l) w' (Nat.lt_of_lt_of_le hB h.size) (hT.below h hB) hv).mono fun e w2 hx => ?_
    have h0 : xpP m propsL (yesF l) 0 = [] := by
      show plTo [] (begL m propsL (yesF l)) = []
      rw [yes_beg hk hl hne]
      rfl
    rcases hx with ⟨_, K, ⟨d1, d2, d3, d4⟩, sv, nv, tv, e1, h2, HG⟩ | ⟨_, ⟨k, f1, _⟩, _, _⟩ | ⟨h1, _, _⟩
    · have hK : K = 0 := by
        rcases Nat.eq_zero_or_pos K with h | h
        · exact h
        · have := d3 0 h
          rw [h0] at this
          simp at this
      subst hK
      obtain ⟨so, sc, rfl⟩ := HG.out.1.shape
      rw [h0] at e1
      rw [yes_beg hk hl hne, (ba_ahead (yes_ok hk hl)).1] at e1
      obtain ⟨us, n1, _⟩ := HG.out.2.1
      obtain ⟨no, nc, rfl⟩ := owns_slice n1
      obtain ⟨xo, xc, rfl⟩ := owns_slice HG.out.2.2
      exact ⟨so, sc, _, _, _, _, _, _, e1, h2⟩
    · have := f1 0 (Nat.zero_le _)
      rw [h0] at this
      simp at this
    · exact absurd hk2 h1
  have HE2 : Hid (∀ (w' : World) (va vr pv fv : Value) (m : Mo) (l : List (Int × Int)), Below w.heap.size w w' → KTaskOk m l 0 → m.vars = [a, b] → l.length ≤ 17 → l ≠ [] → TaskV w' va vr pv fv m propsL ((10, 0) :: yesF l) → Calls Tryz.prog 13 #[.agg #[va, vr, pv, fv]] w' fun e w2 => ∃ so sn sc no nn nc xo xn xc, e = .returned (.tuple #[.agg #[.slice so sn sc, .int .i64 1, .slice no nn nc, .slice xo xn xc, .int .i64 0], .int .i64 0]) ∧ Below w'.heap.size w' w2 ∧ 1 ≤ sn) := fun w' va vr pv fv m l h hk hvars hl hne hv => by
    have hko := (yes_ok hk hl).not (by simp [yesF]; omega)
    have hk2 := hko.code
    refine (explore_any va vr pv fv m propsL ((10, 0) :: yesF l) w' (Nat.lt_of_lt_of_le hB h.size) (hT.below h hB) hv).mono fun e w2 hx => ?_
    have h0 : xpP m propsL ((10, 0) :: yesF l) 0 = [(begC m, 0)] := by
      show plTo [] (begL m propsL ((10, 0) :: yesF l)) = _
      rw [no_beg hk hl hne]
      rfl
    rcases hx with ⟨_, K, ⟨d1, d2, d3, d4⟩, sv, nv, tv, e1, h2, HG⟩ | ⟨_, hf, _, _⟩ | ⟨h1, _, _⟩
    · obtain ⟨so, sc, rfl⟩ := HG.out.1.shape
      have hle : 1 ≤ (xpP m propsL ((10, 0) :: yesF l) K).length := by
        have := (exS_le (begL m propsL ((10, 0) :: yesF l)) (xpBh m propsL ((10, 0) :: yesF l)) (Nat.zero_le K)).length_le
        have e0 : exS (begL m propsL ((10, 0) :: yesF l)) (xpBh m propsL ((10, 0) :: yesF l)) 0 = [(begC m, 0)] := h0
        rw [e0] at this
        exact this
      rw [no_beg hk hl hne, (ba_ahead (yes_ok hk hl)).2] at e1
      obtain ⟨us, n1, _⟩ := HG.out.2.1
      obtain ⟨no, nc, rfl⟩ := owns_slice n1
      obtain ⟨xo, xc, rfl⟩ := owns_slice HG.out.2.2
      exact ⟨so, _, sc, _, _, _, _, _, _, e1, h2, hle⟩
    · refine absurd hf (xp_few (P := (vspan a * vspan b).toNat) hk2 ?_ ?_)
      · rw [hvars]
        show prodTo [a, b] 2 = _
        rw [prod_two]
        omega
      · rw [(ba_ahead (yes_ok hk hl)).2]
        omega
    · exact absurd hk2 h1
  have HJ1 : Hid (∀ (w' : World) (g : Nat) (fo : Option Addr) (fn fc : Nat) (l : List (Int × Int)), w'.cell? ⟨g, 0, none⟩ = some (.slice fo fn fc) → OpsV w' (.slice fo fn fc) l → l.length = fn → l ≠ [] → fn ≤ 60 → Calls Tryz.prog 12 #[.int .i64 10, .slice (some ⟨g, 0, none⟩) 1 1] w' fun e w2 => ∃ jo jc, e = .returned (.slice jo (fn + 1) jc) ∧ Below w'.heap.size w' w2 ∧ Hid (OpsV w2 (.slice jo (fn + 1) jc) ((10, 0) :: l))) := fun w' g fo fn fc l h0 h1 h2 h3 h4 =>
    (joined1 10 g (.slice fo fn fc) l w' h0 (by omega) h3 h1).mono fun e w2 ⟨x, c, g1, g2, g3⟩ => by
      rw [List.length_cons, h2] at g1 g3
      exact ⟨x, c, g1, g2, g3⟩
  have HJ2 : Hid (∀ (w' : World) (g : Nat) (fo jo : Option Addr) (fn fc jc : Nat) (l : List (Int × Int)), w'.cell? ⟨g, 0, none⟩ = some (.slice fo fn fc) → w'.cell? ⟨g, 1, none⟩ = some (.slice jo (fn + 1) jc) → OpsV w' (.slice fo fn fc) l → OpsV w' (.slice jo (fn + 1) jc) ((10, 0) :: l) → l.length = fn → l ≠ [] → fn ≤ 17 → Calls Tryz.prog 12 #[.int .i64 9, .slice (some ⟨g, 0, none⟩) 2 2] w' fun e w2 => ∃ ko kc, e = .returned (.slice ko (fn + (fn + 1) + 1) kc) ∧ Below w'.heap.size w' w2 ∧ Hid (OpsV w2 (.slice ko (fn + (fn + 1) + 1) kc) (yesF l))) := fun w' g fo jo fn fc jc l h0 h0' h1 h1' h2 h3 h4 =>
    (joined2 9 g (.slice fo fn fc) (.slice jo (fn + 1) jc) l ((10, 0) :: l) w' h0 h0' (by omega) (by simp; omega) h3 (by simp) h1 h1').mono fun e w2 ⟨x, c, g1, g2, g3⟩ => by
      rw [List.length_cons, List.length_append, List.length_cons, h2] at g1 g3
      exact ⟨x, c, g1, g2, g3⟩
  clear hmd hR hT hspan
  have tk1 := True.intro
  have tk2 := True.intro
  go_enter Tryz.func4, Tryz.ntmps4
  go_upto_region 2 with (first | (go_at_call 6; refine htk.mono ?_; rintro e w1 ⟨ao, ac, ro, rn, rc, pb, fo, fn, fc, m, l, mm, rfl, hb1, HV, HK, hmm, hfn⟩))
  have hbw1 := hA1.trans (hb1.mono hA1.size)
  obtain rfl : mm = 0 := by omega
  obtain ⟨hok, hvars, hfl, hne⟩ := HK.out
  have HT0 : Hid (TkAt w1 (w1.alloc (.cells #[.slice ao 2 ac, .slice ro rn rc, .slice (some ⟨pb, 0, none⟩) 3 3, .slice fo fn fc] 34)) w1.heap.size (.slice ao 2 ac) (.slice ro rn rc) (.slice (some ⟨pb, 0, none⟩) 3 3) fo fn fc m l) := by
    have hb : Below w1.heap.size w1 (w1.alloc (.cells #[.slice ao 2 ac, .slice ro rn rc, .slice (some ⟨pb, 0, none⟩) 3 3, .slice fo fn fc] 34)) := (Below.refl _ _).alloc (Nat.le_refl _) _
    exact ⟨hb, (MapKept.heap_alloc w1 _).1, HV.out.below hb, Nat.le_refl _⟩
  have HTs : Hid (∃ fv l0, TaskV w1 (.slice ao 2 ac) (.slice ro rn rc) (.slice (some ⟨pb, 0, none⟩) 3 3) fv m propsL l0) := ⟨_, _, HV.out⟩
  have HE1' : Hid (∀ (w' : World) (fo : Option Addr) (fn fc : Nat), TkAt w1 w' w1.heap.size (.slice ao 2 ac) (.slice ro rn rc) (.slice (some ⟨pb, 0, none⟩) 3 3) fo fn fc m (yesF l) → Calls Tryz.prog 13 #[.agg #[.slice ao 2 ac, .slice ro rn rc, .slice (some ⟨pb, 0, none⟩) 3 3, .slice fo fn fc]] w' fun e w2 => ∃ so sc no nn nc xo xn xc, e = .returned (.tuple #[.agg #[.slice so 0 sc, .int .i64 0, .slice no nn nc, .slice xo xn xc, .int .i64 0], .int .i64 0]) ∧ Below w'.heap.size w' w2) := fun w' fo2 fn2 fc2 h => HE1.out w' _ _ _ _ m l (hbw1.trans (h.bel.mono hbw1.size)) hok (by omega) hne h.tk
  have HE2' : Hid (∀ (w' : World) (fo : Option Addr) (fn fc : Nat), TkAt w1 w' w1.heap.size (.slice ao 2 ac) (.slice ro rn rc) (.slice (some ⟨pb, 0, none⟩) 3 3) fo fn fc m ((10, 0) :: yesF l) → Calls Tryz.prog 13 #[.agg #[.slice ao 2 ac, .slice ro rn rc, .slice (some ⟨pb, 0, none⟩) 3 3, .slice fo fn fc]] w' fun e w2 => ∃ so sn sc no nn nc xo xn xc, e = .returned (.tuple #[.agg #[.slice so sn sc, .int .i64 1, .slice no nn nc, .slice xo xn xc, .int .i64 0], .int .i64 0]) ∧ Below w'.heap.size w' w2 ∧ 1 ≤ sn) := fun w' fo2 fn2 fc2 h => HE2.out w' _ _ _ _ m l (hbw1.trans (h.bel.mono hbw1.size)) hok hvars (by omega) hne h.tk
  have HLn : Hid (l.length = fn ∧ l ≠ []) := ⟨hfl, hne⟩
  have HYl : Hid ((yesF l).length = fn + (fn + 1) + 1 ∧ yesF l ≠ []) := ⟨by rw [← hfl]; simp [yesF], by simp [yesF]⟩
  clear HE1 HE2 HK hok hvars hfl hne HV htk hb1 hG
  generalize w1.alloc (.cells #[.slice ao 2 ac, .slice ro rn rc, .slice (some ⟨pb, 0, none⟩) 3 3, .slice fo fn fc] 34) = W1 at *
  have hx3 := (tkB_cells HT0.out.box).2.2.2
  have hbA : Below W1.heap.size W1 (W1.drew.alloc (.cells #[.slice fo fn fc] 32)) := ((Below.refl _ _).drew).alloc (Nat.le_refl _) _
  have hx3A := (tkB_cells (HT0.out.below hbA).box).2.2.2
  have hj1 := HJ1.out (W1.drew.alloc (.cells #[.slice fo fn fc] 32)) W1.heap.size fo fn fc l (by simp [go_sem]) (HT0.out.below hbA).tk.fo HLn.out.1 HLn.out.2 (by omega)
  have HJ2' : Hid (∀ (w2 : World) (jo : Option Addr) (jc : Nat), Below (W1.drew.alloc (.cells #[.slice fo fn fc] 32)).heap.size (W1.drew.alloc (.cells #[.slice fo fn fc] 32)) w2 → OpsV w2 (.slice jo (fn + 1) jc) ((10, 0) :: l) → w2.cell? ⟨w1.heap.size, 3, none⟩ = some (.slice fo fn fc) ∧ Calls Tryz.prog 12 #[.int .i64 9, .slice (some ⟨w2.heap.size, 0, none⟩) 2 2] (w2.alloc (.cells #[.slice fo fn fc, .slice jo (fn + 1) jc] 32)) fun e w3 => ∃ ko kc, e = .returned (.slice ko (fn + (fn + 1) + 1) kc) ∧ (w3.cell? ⟨w1.heap.size, 3, none⟩ = some (.slice fo fn fc) ∧ w3.frozen? ⟨w1.heap.size, 3, none⟩ = false) ∧ Hid (TkAt w1 (w3.setCell ⟨w1.heap.size, 3, none⟩ (.slice ko (fn + (fn + 1) + 1) kc)) w1.heap.size (.slice ao 2 ac) (.slice ro rn rc) (.slice (some ⟨pb, 0, none⟩) 3 3) ko (fn + (fn + 1) + 1) kc m (yesF l))) := fun w2 jo jc hb hO => by
    have t2 := (HT0.out.below hbA).below hb
    have hbB : Below w2.heap.size w2 (w2.alloc (.cells #[.slice fo fn fc, .slice jo (fn + 1) jc] 32)) := (Below.refl _ _).alloc (Nat.le_refl _) _
    have t3 := t2.below hbB
    refine ⟨(tkB_cells t2.box).2.2.2, (HJ2.out _ w2.heap.size fo jo fn fc jc l (by simp [go_sem]) (by simp [go_sem]) t3.tk.fo (hO.below hbB) HLn.out.1 HLn.out.2 (by omega)).mono fun e w3 ⟨ko, kc, g1, g2, g3⟩ => ?_⟩
    have t4 := t3.below g2
    exact ⟨ko, kc, g1, ⟨(tkB_cells t4.box).2.2.2, tkB_free t4.box 3⟩, t4.set (.inr HTs.out) g3.out⟩
  generalize hWA : W1.drew.alloc (.cells #[.slice fo fn fc] 32) = WA at *
  clear HJ2 hbA
  go_cut [] (fun wx => ∃ ko kn kc, kn ≤ 40 ∧ Hid (TkAt w1 wx w1.heap.size (.slice ao 2 ac) (.slice ro rn rc) (.slice (some ⟨pb, 0, none⟩) 3 3) ko kn kc m (yesF l) ∧ (yesF l).length = kn))
  case first =>
    go_region_law (first
      | (clear tk1; go_simp; go_at_call 12; refine hj1.mono ?_; rintro e w2 ⟨jo, jc, rfl, hb2, HO2⟩; obtain ⟨x2, hj2⟩ := HJ2'.out w2 jo jc hb2 HO2.out)
      | (clear tk2; go_simp; go_at_call 12; refine hj2.mono ?_; rintro e w3 ⟨ko, kc, rfl, ⟨y0, y1⟩, HT3⟩))
    all_goals go_wp2_with fail
    all_goals go_meet
    all_goals exact ⟨_, _, _, by omega, HT3.out, HYl.out.1⟩
  case rest =>
    obtain ⟨ko, kn, kc, hkn, HT4⟩ := hcut
    clear HT0 hj1 HJ2' hx3 hx3A hWA
    obtain ⟨x0, x1, x2, x3⟩ := tkB_cells HT4.out.1.box
    have he1 := HE1'.out wc ko kn kc HT4.out.1
    have HR4 : Hid (∀ (w5 : World) (so no xo : Option Addr) (sc nn nc xn xc : Nat), Below wc.heap.size wc w5 → (w5.alloc (.cells #[.slice so 0 sc, .int .i64 0, .slice no nn nc, .slice xo xn xc, .int .i64 0] 53)).cell? ⟨w1.heap.size, 3, none⟩ = some (.slice ko kn kc) ∧ Calls Tryz.prog 12 #[.int .i64 10, .slice (some ⟨w5.heap.size + 1, 0, none⟩) 1 1] ((w5.alloc (.cells #[.slice so 0 sc, .int .i64 0, .slice no nn nc, .slice xo xn xc, .int .i64 0] 53)).alloc (.cells #[.slice ko kn kc] 32)) fun e w8 => ∃ jo jc, e = .returned (.slice jo (kn + 1) jc) ∧ (w8.cell? ⟨w1.heap.size, 3, none⟩ = some (.slice ko kn kc) ∧ w8.frozen? ⟨w1.heap.size, 3, none⟩ = false) ∧ Hid (∀ w9, w9 = w8.setCell ⟨w1.heap.size, 3, none⟩ (.slice jo (kn + 1) jc) → (w9.cell? ⟨w1.heap.size, 0, none⟩ = some (.slice ao 2 ac) ∧ w9.cell? ⟨w1.heap.size, 1, none⟩ = some (.slice ro rn rc) ∧ w9.cell? ⟨w1.heap.size, 2, none⟩ = some (.slice (some ⟨pb, 0, none⟩) 3 3) ∧ w9.cell? ⟨w1.heap.size, 3, none⟩ = some (.slice jo (kn + 1) jc)) ∧ Calls Tryz.prog 13 #[.agg #[.slice ao 2 ac, .slice ro rn rc, .slice (some ⟨pb, 0, none⟩) 3 3, .slice jo (kn + 1) jc]] w9 fun e w10 => ∃ so2 sn2 sc2 no2 nn2 nc2 xo2 xn2 xc2, e = .returned (.tuple #[.agg #[.slice so2 sn2 sc2, .int .i64 1, .slice no2 nn2 nc2, .slice xo2 xn2 xc2, .int .i64 0], .int .i64 0]) ∧ 1 ≤ sn2 ∧ (w10.cell? ⟨w5.heap.size, 0, none⟩ = some (.slice so 0 sc) ∧ w10.cell? ⟨w5.heap.size, 1, none⟩ = some (.int .i64 0)) ∧ Below w.heap.size w w10)) := fun w5 so no xo sc nn nc xn xc hb => by
      have t5 := HT4.out.1.below hb
      have hb6 : Below w5.heap.size w5 (w5.alloc (.cells #[.slice so 0 sc, .int .i64 0, .slice no nn nc, .slice xo xn xc, .int .i64 0] 53)) := (Below.refl _ _).alloc (Nat.le_refl _) _
      have t6 := t5.below hb6
      have hb7 : Below (w5.alloc (.cells #[.slice so 0 sc, .int .i64 0, .slice no nn nc, .slice xo xn xc, .int .i64 0] 53)).heap.size (w5.alloc (.cells #[.slice so 0 sc, .int .i64 0, .slice no nn nc, .slice xo xn xc, .int .i64 0] 53)) ((w5.alloc (.cells #[.slice so 0 sc, .int .i64 0, .slice no nn nc, .slice xo xn xc, .int .i64 0] 53)).alloc (.cells #[.slice ko kn kc] 32)) := (Below.refl _ _).alloc (Nat.le_refl _) _
      have t7 := t6.below hb7
      have hXlt : w1.heap.size < w5.heap.size := (Array.getElem?_eq_some_iff.1 t5.box).1
      refine ⟨(tkB_cells t6.box).2.2.2, (HJ1.out _ (w5.heap.size + 1) ko kn kc (yesF l) (by simp [go_sem]) t7.tk.fo HT4.out.2 HYl.out.2 (by omega)).mono fun e w8 ⟨jo, jc, g1, g2, g3⟩ => ?_⟩
      have t8 := t7.below g2
      refine ⟨jo, jc, g1, ⟨(tkB_cells t8.box).2.2.2, tkB_free t8.box 3⟩, fun w9 e9 => ?_⟩
      have t9 : TkAt w1 w9 w1.heap.size (.slice ao 2 ac) (.slice ro rn rc) (.slice (some ⟨pb, 0, none⟩) 3 3) jo (kn + 1) jc m ((10, 0) :: yesF l) := by rw [e9]; exact t8.set (.inr HTs.out) g3.out
      have hg : w9.cell? ⟨w5.heap.size, 0, none⟩ = some (.slice so 0 sc) ∧ w9.cell? ⟨w5.heap.size, 1, none⟩ = some (.int .i64 0) := by
        have hb8 := hb7.trans (g2.mono hb7.size)
        have hz6 : (w5.alloc (.cells #[.slice so 0 sc, .int .i64 0, .slice no nn nc, .slice xo xn xc, .int .i64 0] 53)).heap.size = w5.heap.size + 1 := by simp
        have p0 : w8.cell? ⟨w5.heap.size, 0, none⟩ = some (.slice so 0 sc) := (hb8.cell (p := ⟨w5.heap.size, 0, none⟩) (by show w5.heap.size < _; omega)).trans (by simp [go_sem])
        have p1 : w8.cell? ⟨w5.heap.size, 1, none⟩ = some (.int .i64 0) := (hb8.cell (p := ⟨w5.heap.size, 1, none⟩) (by show w5.heap.size < _; omega)).trans (by simp [go_sem])
        rw [e9]
        exact ⟨(World.cell?_setCell_other _ _ _ _ (by intro e; injection e with e _ _; omega)).trans p0, (World.cell?_setCell_other _ _ _ _ (by intro e; injection e with e _ _; omega)).trans p1⟩
      refine ⟨tkB_cells t9.box, (HE2'.out w9 jo (kn + 1) jc t9).mono fun e w10 ⟨so2, sn2, sc2, no2, nn2, nc2, xo2, xn2, xc2, k1, k2, k3⟩ => ?_⟩
      have hbw9 := hbw1.trans (t9.bel.mono hbw1.size)
      exact ⟨so2, sn2, sc2, no2, nn2, nc2, xo2, xn2, xc2, k1, k3, ⟨(k2.cell (p := ⟨w5.heap.size, 0, none⟩) (World.block_lt_of_cell? _ _ hg.1)).trans hg.1, (k2.cell (p := ⟨w5.heap.size, 1, none⟩) (World.block_lt_of_cell? _ _ hg.2)).trans hg.2⟩, hbw9.trans (k2.mono hbw9.size)⟩
    clear HT4 HE1' HE2' HJ1 HTs HLn HYl
    have tk3 := True.intro
    have tk4 := True.intro
    go_wp2_with (first
      | (clear tk3; go_at_call 13; refine he1.mono ?_; rintro e w5 ⟨so, sc, no, nn, nc, xo, xn, xc, rfl, hb5⟩; obtain ⟨y3, hj4⟩ := HR4.out w5 so no xo sc nn nc xn xc hb5)
      | (go_at_call 12; refine hj4.mono ?_; rintro e w8 ⟨jo, jc, rfl, ⟨z0, z1⟩, HR5⟩; obtain ⟨⟨u0, u1, u2, u3⟩, he2⟩ := HR5.out _ rfl)
      | (clear tk4; go_at_call 13; refine he2.mono ?_; rintro e w10 ⟨so2, sn2, sc2, no2, nn2, nc2, xo2, xn2, xc2, rfl, hsn, ⟨v0, v1⟩, hbF⟩; have hsi : (1 : Int) ≤ (sn2 : Int) := (by omega); have v0' := fun (o : Obj) => (((Below.refl w10.heap.size w10).alloc (Nat.le_refl _) o).cell (p := ⟨w5.heap.size, 0, none⟩) (World.block_lt_of_cell? _ _ v0)).trans v0; have v1' := fun (o : Obj) => (((Below.refl w10.heap.size w10).alloc (Nat.le_refl _) o).cell (p := ⟨w5.heap.size, 1, none⟩) (World.block_lt_of_cell? _ _ v1)).trans v1; clear v0 v1))
    go_ret
    exact ⟨by first | rfl | simp [hsi], hbF.alloc hbF.size _⟩
end Go.Proofs.YtafbnmiipfkohaaGreatDoor

/-
  Lists of lists of numbers as they lie in memory, and the laws' own copy of one.
-/
namespace Go.Proofs.YtafbnmiipfkohaaGreatDoor
open Go.ChangeShapes Go.WideShapes Go.ChangeAt Go.RowKit Go.Deep
open Terms

set_option maxRecDepth 20000 in
theorem IntsW.below {w w' : World} {v : Value} {l : List Int} (h : IntsW w v l) (hb : Below w.heap.size w w') : IntsW w' v l := by
  obtain ⟨ao, cap, h1, h0, h⟩ := h
  refine ⟨ao, cap, h1, h0, fun hne => ?_⟩
  obtain ⟨b, off, e, hlt, hat⟩ := h hne
  exact ⟨b, off, e, Nat.lt_of_lt_of_le hlt hb.size, fun i hi => (hb.cell (p := ⟨b, _, none⟩) hlt).trans (hat i hi)⟩
def nilG : Value := .slice none 0 0
/-- values that hold lists. -/
def LisU (w : World) (us : List Value) (ls : List (List Int)) : Prop := us.length = ls.length ∧ ∀ i, i < ls.length → IntsV w (us.getD i nilG) (ls.getD i [])
set_option maxRecDepth 20000 in
theorem LisU.below {w w' : World} {us : List Value} {ls : List (List Int)} (h : LisU w us ls) (hb : Below w.heap.size w w') : LisU w' us ls := ⟨h.1, fun i hi => (h.2 i hi).below hb⟩
set_option maxRecDepth 20000 in
theorem LisU.nil (w : World) : LisU w [] [] := ⟨rfl, fun i hi => by simp at hi⟩
set_option maxRecDepth 20000 in
theorem getD_appG {α : Type} (a b : List α) (d : α) (i : Nat) : (a ++ b).getD i d = if i < a.length then a.getD i d else b.getD (i - a.length) d := by
  by_cases h : i < a.length
  · rw [if_pos h]; simp [List.getD_eq_getElem?_getD, List.getElem?_append_left h]
  · rw [if_neg h]; simp [List.getD_eq_getElem?_getD, List.getElem?_append_right (Nat.le_of_not_lt h)]
set_option maxRecDepth 20000 in
theorem LisU.append {w : World} {us us' : List Value} {ls ls' : List (List Int)} (h : LisU w us ls) (h' : LisU w us' ls') : LisU w (us ++ us') (ls ++ ls') := by
  refine ⟨by simp [h.1, h'.1], fun i hi => ?_⟩
  rw [getD_appG, getD_appG, h.1]
  split
  · rename_i hl; exact h.2 i hl
  · rename_i hl; exact h'.2 _ (by simp at hi; omega)
set_option maxRecDepth 20000 in
theorem LisU.one {w : World} {us : List Value} {ls : List (List Int)} (h : LisU w us ls) : ∀ u ∈ us, u.oneCell' = true := by
  intro u hu
  obtain ⟨i, hi, rfl⟩ := List.getElem_of_mem hu
  have := h.2 i (by rw [← h.1]; exact hi)
  obtain ⟨ao, cap, hv, _⟩ := this
  rw [List.getD_eq_getElem?_getD, List.getElem?_eq_getElem hi] at hv
  simp only [Option.getD_some] at hv
  rw [hv]; rfl
/-- A VALUE THAT HOLDS LETTERS. -/
def ListsV (w : World) (v : Value) (ls : List (List Int)) : Prop := ∃ us ao cap, v = .slice ao ls.length cap ∧ (ao = none → cap = 0 ∧ ls = []) ∧ LisU w us ls ∧ (ls ≠ [] → ∃ b off, ao = some ⟨b, off, none⟩ ∧ b < w.heap.size ∧ ∀ i, i < ls.length → w.cell? ⟨b, off + i, none⟩ = some (us.getD i nilG))
set_option maxRecDepth 20000 in
theorem ListsV.below {w w' : World} {v : Value} {ls : List (List Int)} (h : ListsV w v ls) (hb : Below w.heap.size w w') : ListsV w' v ls := by
  obtain ⟨us, ao, cap, rfl, h0, hu, h⟩ := h
  refine ⟨us, ao, cap, rfl, h0, hu.below hb, fun hne => ?_⟩
  obtain ⟨b, off, rfl, hlt, hat⟩ := h hne
  exact ⟨b, off, rfl, Nat.lt_of_lt_of_le hlt hb.size, fun i hi => (hb.cell (p := ⟨b, _, none⟩) hlt).trans (hat i hi)⟩
set_option maxRecDepth 20000 in
theorem ListsV.shape {w : World} {v : Value} {ls : List (List Int)} (h : ListsV w v ls) : ∃ ao cap, v = .slice ao ls.length cap := by
  obtain ⟨_, ao, cap, rfl, _⟩ := h; exact ⟨_, _, rfl⟩
set_option maxRecDepth 20000 in
theorem ListsV.at {w : World} {ao : Option Addr} {cap n : Nat} {ls : List (List Int)} (h : ListsV w (.slice ao n cap) ls) {i : Nat} (hi : i < ls.length) : ∃ b off, ao = some ⟨b, off, none⟩ ∧ b < w.heap.size ∧ ∃ u, w.cell? ⟨b, off + i, none⟩ = some u ∧ IntsV w u (ls.getD i []) := by
  obtain ⟨us, ao', cap', hv, _, hu, h⟩ := h
  injection hv with e1 e2 e3
  subst e1
  obtain ⟨b, off, e, hlt, hat⟩ := h (by rintro rfl; simp at hi)
  exact ⟨b, off, e, hlt, _, hat i hi, hu.2 i hi⟩
set_option maxRecDepth 20000 in
/-- a row that the call owns holds lists. -/
theorem listsV_of_owns {w : World} {base : Nat} {v : Value} {us : List Value} {ls : List (List Int)} (h : w.ownsRow base 40 1 v us.length us) (hu : LisU w us ls) : ListsV w v ls := by
  have hlen := hu.1
  rcases h.2 with ⟨rfl, h0⟩ | ⟨g, cap, cur, rfl, hb, hg, hnc, hcm, hcs, htake⟩
  · have : ls = [] := List.length_eq_zero_iff.1 (by omega)
    subst this
    exact ⟨us, none, 0, rfl, fun _ => ⟨rfl, rfl⟩, hu, fun h => absurd rfl h⟩
  · refine ⟨us, _, cap, by rw [hlen], fun h => by simp at h, hu, fun _ => ⟨g, 0, rfl, (Array.getElem?_eq_some_iff.1 hg).1, fun i hi => ?_⟩⟩
    rw [Nat.zero_add, h.cellAt i (by omega)]
    simp [List.getD_eq_getElem?_getD, show i < us.length by omega]
set_option maxRecDepth 20000 in
theorem infoInts : (Tryz.prog.info? 40).map (fun i => (i.zero, i.size, i.bytes)) = some (some (.slice none 0 0), 1, 24) := by kernel_rfl
/-- lists as they came in. -/
def ListsW (w : World) (v : Value) (ls : List (List Int)) : Prop := ∃ (us : List Value) (ao : Option Addr) (cap : Nat), v = .slice ao ls.length cap ∧ (ao = none → cap = 0 ∧ ls = []) ∧ us.length = ls.length ∧ (∀ i, i < ls.length → IntsW w (us.getD i nilG) (ls.getD i [])) ∧ (ls ≠ [] → ∃ b off, ao = some ⟨b, off, none⟩ ∧ b < w.heap.size ∧ ∀ i, i < ls.length → w.cell? ⟨b, off + i, none⟩ = some (us.getD i nilG))
set_option maxRecDepth 20000 in
theorem ListsW.v {w : World} {v : Value} {ls : List (List Int)} (h : ListsW w v ls) : ListsV w v ls := by
  obtain ⟨us, ao, cap, h1, h2, h3, h4, h5⟩ := h
  exact ⟨us, ao, cap, h1, h2, ⟨h3, fun i hi => (h4 i hi).v⟩, h5⟩
set_option maxRecDepth 20000 in
theorem ListsW.below {w w' : World} {v : Value} {ls : List (List Int)} (h : ListsW w v ls) (hb : Below w.heap.size w w') : ListsW w' v ls := by
  obtain ⟨us, ao, cap, h1, h2, h3, h4, h5⟩ := h
  refine ⟨us, ao, cap, h1, h2, h3, fun i hi => (h4 i hi).below hb, fun hne => ?_⟩
  obtain ⟨b, off, e, hlt, hat⟩ := h5 hne
  exact ⟨b, off, e, Nat.lt_of_lt_of_le hlt hb.size, fun i hi => (hb.cell (p := ⟨b, _, none⟩) hlt).trans (hat i hi)⟩
set_option maxRecDepth 20000 in
theorem ListsW.at {w : World} {ao : Option Addr} {cap n : Nat} {ls : List (List Int)} (h : ListsW w (.slice ao n cap) ls) {i : Nat} (hi : i < ls.length) : ∃ b off, ao = some ⟨b, off, none⟩ ∧ b < w.heap.size ∧ ∃ u, w.cell? ⟨b, off + i, none⟩ = some u ∧ IntsW w u (ls.getD i []) := by
  obtain ⟨us, ao', cap', hv, _, _, h4, h⟩ := h
  injection hv with e1 e2 e3
  subst e1
  obtain ⟨b, off, e, hlt, hat⟩ := h (by rintro rfl; simp at hi)
  exact ⟨b, off, e, hlt, _, hat i hi, h4 i hi⟩

/-- lists in memory of the call's own. -/
def ListsOwn (w : World) (base : Nat) (v : Value) (ls : List (List Int)) : Prop :=
  ∃ us : List Value, w.ownsRow base 40 1 v ls.length us ∧ ∀ j, j < ls.length → w.ownsRow base 3 1 (us.getD j nilG) (ls.getD j []).length (ivals (ls.getD j []))
set_option maxRecDepth 20000 in
theorem ListsOwn.nil (w : World) (base : Nat) : ListsOwn w base (.slice none 0 0) [] := ⟨[], World.ownsRow_nil _ _ _ _, fun j hj => by simp at hj⟩
set_option maxRecDepth 20000 in
theorem ListsOwn.later {w w' : World} {base B : Nat} {v : Value} {ls : List (List Int)} (h : ListsOwn w base v ls) (hb : Below B w w') (hB : w.heap.size ≤ B) : ListsOwn w' base v ls := by
  obtain ⟨us, h1, h2⟩ := h
  exact ⟨us, owns_later h1 hb hB, fun j hj => owns_later (h2 j hj) hb hB⟩
set_option maxRecDepth 20000 in
theorem ListsOwn.snoc {w wa w' : World} {base : Nat} {v v' u : Value} {ts : List (List Int)} {t : List Int} {us : List Value}
    (hus : w.ownsRow base 40 1 v ts.length us) (hts : ∀ j, j < ts.length → w.ownsRow base 3 1 (us.getD j nilG) (ts.getD j []).length (ivals (ts.getD j [])))
    (hu : w.ownsRow base 3 1 u t.length (ivals t)) (ha : ∃ o, wa = w.alloc o) (hg : wa.grownBy w' v.ownBlock) (ho : w'.ownsRow base 40 1 v' (ts.length + 1) (us ++ [u])) : ListsOwn w' base v' (ts ++ [t]) := by
  obtain ⟨o, rfl⟩ := ha
  have hl : us.length = ts.length := by simpa using hus.1
  refine ⟨us ++ [u], by simpa using ho, fun j hj => ?_⟩
  by_cases hlt : j < ts.length
  · have h1 := (hts j hlt).alloc o
    have := h1.kept hg (owns_apart (by decide) h1 (hus.alloc o))
    simpa [List.getD_eq_getElem?_getD, List.getElem?_append_left (show j < us.length by omega), List.getElem?_append_left hlt] using this
  · have hj' : j = ts.length := by simp at hj; omega
    subst hj'
    have h1 := hu.alloc o
    have := h1.kept hg (owns_apart (by decide) h1 (hus.alloc o))
    simpa [List.getD_eq_getElem?_getD, ← hl] using this
set_option maxRecDepth 20000 in
theorem ListsOwn.listsV {w : World} {base : Nat} {v : Value} {ls : List (List Int)} (h : ListsOwn w base v ls) : ListsV w v ls := by
  obtain ⟨us, h1, h2⟩ := h
  have hl : us.length = ls.length := by simpa using h1.1
  exact listsV_of_owns (us := us) (by rw [hl]; exact h1) ⟨hl, fun i hi => intsV_of_owns (h2 i hi)⟩

set_option maxRecDepth 20000 in
theorem owns_lowG {w : World} {base : Nat} {e : TypeId} {s n : Nat} {v : Value} {xs : List Value} (h : w.ownsRow base e s v n xs) {p : Addr} (hp : p.block < base) (u : Value) : (w.setCell p u).ownsRow base e s v n xs := by
  obtain ⟨h1, h2⟩ := h
  refine ⟨h1, ?_⟩
  rcases h2 with h2 | ⟨g, cap, cur, hv, hg, hh, r⟩
  · exact .inl h2
  · exact .inr ⟨g, cap, cur, hv, hg, (Below.heap_setCell w p u g (by omega)).trans hh, r⟩
set_option maxRecDepth 20000 in
theorem ListsOwn.low {w : World} {base : Nat} {v : Value} {ls : List (List Int)} (h : ListsOwn w base v ls) {p : Addr} (hp : p.block < base) (u : Value) : ListsOwn (w.setCell p u) base v ls := by
  obtain ⟨us, h1, h2⟩ := h
  exact ⟨us, owns_lowG h1 hp u, fun j hj => owns_lowG (h2 j hj) hp u⟩
set_option maxRecDepth 20000 in
theorem ListsOwn.mono {w : World} {base base' : Nat} {v : Value} {ls : List (List Int)} (h : ListsOwn w base v ls) (hb : base' ≤ base) : ListsOwn w base' v ls := by
  obtain ⟨us, h1, h2⟩ := h
  exact ⟨us, owns_mono h1 hb, fun j hj => owns_mono (h2 j hj) hb⟩

end Go.Proofs.YtafbnmiipfkohaaGreatDoor

/-
  Graphs as they lie in memory.
-/
namespace Go.Proofs.YtafbnmiipfkohaaGreatDoor
open Go.ChangeShapes Go.WideShapes Go.ChangeAt Go.RowKit Go.Deep
open Terms

/-- a graph. -/
structure Gr where
  spots : List (Int × Int)
  init : Int
  next : List (List Int)
  sets : List Int
  many : Int
/-- the values of a graph's lists. -/
structure GraphV (w : World) (sv nv bv : Value) (g : Gr) : Prop where
  spots : OpsV w sv g.spots
  next : ListsV w nv g.next
  sets : IntsV w bv g.sets
set_option maxRecDepth 20000 in
theorem GraphV.below {w w' : World} {sv nv bv : Value} {g : Gr} (h : GraphV w sv nv bv g) (hb : Below w.heap.size w w') : GraphV w' sv nv bv g := ⟨h.spots.below hb, h.next.below hb, h.sets.below hb⟩
/-- the same, as it came in. -/
structure GraphW (w : World) (sv nv bv : Value) (g : Gr) : Prop where
  spots : OpsV w sv g.spots
  next : ListsW w nv g.next
  sets : IntsW w bv g.sets
set_option maxRecDepth 20000 in
theorem GraphW.v {w : World} {sv nv bv : Value} {g : Gr} (h : GraphW w sv nv bv g) : GraphV w sv nv bv g := ⟨h.spots, h.next.v, h.sets.v⟩
set_option maxRecDepth 20000 in
theorem GraphW.below {w w' : World} {sv nv bv : Value} {g : Gr} (h : GraphW w sv nv bv g) (hb : Below w.heap.size w w') : GraphW w' sv nv bv g := ⟨h.spots.below hb, h.next.below hb, h.sets.below hb⟩
/-- no list in it is too long. -/
def LisSz (ls : List (List Int)) : Prop := ls.length * 24 ≤ 140737488355328 ∧ ∀ i, i < ls.length → (ls.getD i []).length * 8 ≤ 140737488355328
set_option maxRecDepth 20000 in
theorem LisSz.le {ls : List (List Int)} (h : LisSz ls) : ls.length ≤ 140737488355328 := by have := h.1; omega
end Go.Proofs.YtafbnmiipfkohaaGreatDoor

/-
  Plain mathematics of graphs: which may be, and what is reached.
-/
namespace Go.Proofs.YtafbnmiipfkohaaGreatDoor
open Terms

/-- the numbers of a graph that may be. -/
structure GHead (g : Gr) : Prop where
  n : g.spots.length ≤ 20000
  next : g.next.length = g.spots.length
  sets : g.sets.length = g.spots.length
  init0 : 0 ≤ g.init
  init1 : g.init ≤ g.spots.length
  many0 : 0 ≤ g.many
  many6 : g.many ≤ 6
/-- all sets, as bits. -/
def top (g : Gr) : Int := 2 ^ g.many.toNat - 1
def GSet (g : Gr) (i : Nat) : Prop := 0 ≤ g.sets.getD i 0 ∧ g.sets.getD i 0 ≤ top g
def GNext (g : Gr) (i : Nat) (k : Nat) : Prop := 0 ≤ (g.next.getD i []).getD k 0 ∧ (g.next.getD i []).getD k 0 < g.spots.length
def GRow (g : Gr) (i : Nat) : Prop := GSet g i ∧ ∀ k, k < (g.next.getD i []).length → GNext g i k
/-- A GRAPH THAT MAY BE. -/
structure GOk (g : Gr) : Prop where
  head : GHead g
  row : ∀ i, i < g.spots.length → GRow g i
open Classical in
noncomputable def gcode (g : Gr) : Int := if GOk g then 0 else 9
set_option maxRecDepth 20000 in
theorem gcode_head {g : Gr} (h : ¬ GHead g) : gcode g = 9 := if_neg fun x => h x.head
set_option maxRecDepth 20000 in
theorem gcode_row {g : Gr} {i : Nat} (hi : i < g.spots.length) (h : ¬ GRow g i) : gcode g = 9 := if_neg fun x => h (x.row i hi)
set_option maxRecDepth 20000 in
theorem gcode_ok {g : Gr} (h : GHead g) (hr : ∀ i, i < g.spots.length → GRow g i) : gcode g = 0 := if_pos ⟨h, hr⟩
set_option maxRecDepth 20000 in
theorem gcode_zero {g : Gr} (h : gcode g = 0) : GOk g := by
  unfold gcode at h
  split at h
  · assumption
  · simp at h
set_option maxRecDepth 20000 in
theorem gcode_nine {g : Gr} (h : ¬ gcode g = 0) : gcode g = 9 := by
  unfold gcode at h ⊢
  split
  · rename_i hh; rw [if_pos hh] at h; simp at h
  · rfl

/-- where a spot leads. -/
def nxt (g : Gr) (i : Nat) : List Nat := (g.next.getD i []).map Int.toNat
set_option maxRecDepth 20000 in
theorem nxt_lt {g : Gr} (h : GOk g) {i k : Nat} (hi : i < g.spots.length) (hk : k ∈ nxt g i) : k < g.spots.length := by
  unfold nxt at hk
  obtain ⟨x, hx, rfl⟩ := List.mem_map.1 hk
  obtain ⟨j, hj, rfl⟩ := List.getElem_of_mem hx
  have := (h.row i hi).2 j hj
  unfold GNext at this
  rw [List.getD_eq_getElem?_getD, List.getElem?_eq_getElem hj] at this
  simp only [Option.getD_some] at this
  omega
set_option maxRecDepth 20000 in
theorem nxt_at {g : Gr} (h : GOk g) {i j : Nat} (hi : i < g.spots.length) (hj : j < (g.next.getD i []).length) : ∃ k : Nat, (g.next.getD i []).getD j 0 = (k : Int) ∧ k < g.spots.length ∧ k ∈ nxt g i ∧ (nxt g i).getD j 0 = k := by
  have := (h.row i hi).2 j hj
  unfold GNext at this
  refine ⟨((g.next.getD i []).getD j 0).toNat, by omega, by omega, ?_, ?_⟩
  · unfold nxt
    refine List.mem_map.2 ⟨(g.next.getD i [])[j], List.getElem_mem _, ?_⟩
    rw [List.getD_eq_getElem?_getD (l := g.next.getD i []) (i := j), List.getElem?_eq_getElem hj]; rfl
  · unfold nxt
    rw [List.getD_eq_getElem?_getD, List.getElem?_map, List.getD_eq_getElem?_getD (l := g.next.getD i []) (i := j), List.getElem?_eq_getElem hj]; rfl
set_option maxRecDepth 20000 in
theorem nxt_length (g : Gr) (i : Nat) : (nxt g i).length = (g.next.getD i []).length := by simp [nxt]
set_option maxRecDepth 20000 in
theorem nxt_mem {g : Gr} {i k : Nat} (hk : k ∈ nxt g i) : ∃ j, j < (g.next.getD i []).length ∧ (nxt g i).getD j 0 = k := by
  obtain ⟨j, hj, rfl⟩ := List.getElem_of_mem hk
  exact ⟨j, by rw [← nxt_length]; exact hj, by rw [List.getD_eq_getElem?_getD, List.getElem?_eq_getElem hj]; rfl⟩

/-- A WAY, perhaps of no step. -/
inductive Way (nx : Nat → List Nat) (i : Nat) : Nat → Prop where
  | stay : Way nx i i
  | step {j k : Nat} : Way nx i j → k ∈ nx j → Way nx i k
set_option maxRecDepth 20000 in
theorem Way.trans {nx : Nat → List Nat} {i j k : Nat} (h1 : Way nx i j) (h2 : Way nx j k) : Way nx i k := by
  induction h2 with
  | stay => exact h1
  | step _ hk ih => exact ih.step hk
set_option maxRecDepth 20000 in
theorem Way.one {nx : Nat → List Nat} {i j : Nat} (h : j ∈ nx i) : Way nx i j := Way.stay.step h
set_option maxRecDepth 20000 in
theorem Way.lt {nx : Nat → List Nat} {n i j : Nat} (hn : ∀ i, i < n → ∀ k ∈ nx i, k < n) (hi : i < n) (h : Way nx i j) : j < n := by
  induction h with
  | stay => exact hi
  | step _ hk ih => exact hn _ ih _ hk
set_option maxRecDepth 20000 in
theorem Way.closed {nx : Nat → List Nat} {S : Nat → Prop} (hS : ∀ i, S i → ∀ k ∈ nx i, S k) {i j : Nat} (hi : S i) (h : Way nx i j) : S j := by
  induction h with
  | stay => exact hi
  | step _ hk ih => exact hS _ ih _ hk
set_option maxRecDepth 20000 in
/-- the first step of a way. -/
theorem Way.first {nx : Nat → List Nat} {i j : Nat} (h : Way nx i j) : i = j ∨ ∃ k ∈ nx i, Way nx k j := by
  induction h with
  | stay => exact .inl rfl
  | step h1 hk ih =>
    rcases ih with rfl | ⟨m, hm, hw⟩
    · exact .inr ⟨_, hk, .stay⟩
    · exact .inr ⟨m, hm, hw.step hk⟩
end Go.Proofs.YtafbnmiipfkohaaGreatDoor

/-
  The graph of a task, as a graph.
-/
namespace Go.Proofs.YtafbnmiipfkohaaGreatDoor
open Go.ChangeShapes Go.WideShapes Go.ChangeAt Go.RowKit Go.Deep Go.Maps
open Terms Tm

noncomputable def exGr (m : Mo) (ps : List (List (Int × Int))) (l : List (Int × Int)) (K : Nat) : Gr := ⟨xpP m ps l K, ((begL m ps l).length : Nat), xpN m ps l K, xpT m ps l K, ((aheadL l).length : Nat)⟩
section
variable {m : Mo} {ps : List (List (Int × Int))} {l : List (Int × Int)} {K : Nat}
set_option maxRecDepth 20000 in
theorem xpAt_eq (h : ExDone m ps l K) {i : Nat} (hi : i < K) : xpAt m ps l i = (xpP m ps l K).getD i (0, 0) :=
  (exS_at (begL m ps l) (xpBh m ps l) (Nat.le_of_lt hi) (h.2.2.1 i hi)).symm
set_option maxRecDepth 20000 in
theorem xp_idx (h : ExDone m ps l K) {i : Nat} (hi : i < K) : (xpP m ps l K).idxOf ((xpP m ps l K).getD i (0, 0)) = i := by
  have hnd : (xpP m ps l K).Nodup := exS_nodup _ _ K
  have hl : i < (xpP m ps l K).length := by rw [h.1]; exact hi
  rw [List.getD_eq_getElem?_getD, List.getElem?_eq_getElem hl]
  exact hnd.idxOf_getElem i hl
set_option maxRecDepth 20000 in
theorem xpN_get {K : Nat} : ∀ {j : Nat}, j < K → (xpN m ps l K).getD j [] = plIx (xpP m ps l j) (xpBh m ps l (xpAt m ps l j)) := by
  induction K with
  | zero => intro j h; omega
  | succ K ih =>
    intro j h
    rw [xpN, List.getD_eq_getElem?_getD]
    by_cases hj : j < K
    · rw [List.getElem?_append_left (by rw [xpN_len]; exact hj), ← List.getD_eq_getElem?_getD]
      exact ih hj
    · obtain rfl : j = K := by omega
      rw [List.getElem?_append_right (by rw [xpN_len]; exact Nat.le_refl _), xpN_len]
      simp
set_option maxRecDepth 20000 in
theorem xpT_get {K : Nat} : ∀ {j : Nat}, j < K → (xpT m ps l K).getD j 0 = metN l (letL m ps (xpAt m ps l j).1) (xpAt m ps l j).2 := by
  induction K with
  | zero => intro j h; omega
  | succ K ih =>
    intro j h
    rw [xpT, List.getD_eq_getElem?_getD]
    by_cases hj : j < K
    · rw [List.getElem?_append_left (by rw [xpT_len]; exact hj), ← List.getD_eq_getElem?_getD]
      exact ih hj
    · obtain rfl : j = K := by omega
      rw [List.getElem?_append_right (by rw [xpT_len]; exact Nat.le_refl _), xpT_len]
      simp
set_option maxRecDepth 20000 in
theorem xbeg_nodup (m : Mo) (ps : List (List (Int × Int))) (l : List (Int × Int)) : (begL m ps l).Nodup := by
  have key : ∀ k, (begTo m ps l k).Nodup := fun k => by
    induction k with
    | zero => simp [begTo]
    | succ k ih =>
      rw [begTo]
      split
      · exact ih
      · refine List.nodup_append.2 ⟨ih, by simp, fun a ha b hb e => ?_⟩
        rw [List.mem_singleton] at hb
        subst hb
        subst e
        obtain ⟨_, d, h2, h3, _⟩ := xbg_mem _ ha
        simp only at h3
        omega
  exact key _
set_option maxRecDepth 20000 in
/-- THE STEPS OF THE GRAPH: to the places of what is behind. -/
theorem xpN_row (h : ExDone m ps l K) {i : Nat} (hi : i < K) : ((xpN m ps l K).getD i []).length = (xpBh m ps l ((xpP m ps l K).getD i (0, 0))).length ∧ ∀ q, q < (xpBh m ps l ((xpP m ps l K).getD i (0, 0))).length → ((xpN m ps l K).getD i []).getD q 0 = (((xpP m ps l K).idxOf ((xpBh m ps l ((xpP m ps l K).getD i (0, 0))).getD q (0, 0)) : Nat) : Int) ∧ (xpBh m ps l ((xpP m ps l K).getD i (0, 0))).getD q (0, 0) ∈ xpP m ps l K := by
  rw [xpN_get hi, ← xpAt_eq h hi]
  refine ⟨plIx_len _ _, fun q hq => ?_⟩
  have hmem : (xpBh m ps l (xpAt m ps l i)).getD q (0, 0) ∈ xpP m ps l (i + 1) := by
    rw [xpP_succ, plTo_iff]
    refine .inr ?_
    rw [List.getD_eq_getElem?_getD, List.getElem?_eq_getElem hq]
    exact List.getElem_mem _
  have hpre : xpP m ps l (i + 1) <+: xpP m ps l K := exS_le _ _ hi
  refine ⟨?_, hpre.subset hmem⟩
  rw [plIx_at hq, ← xpP_succ, idx_pre hpre hmem]
set_option maxRecDepth 20000 in
theorem metN_range (l : List (Int × Int)) (letter : List Bool) (c : Int) : 0 ≤ metN l letter c ∧ metN l letter c < (2 : Int) ^ (aheadL l).length := by
  unfold metN
  split
  · exact metTo_bounds _ _ _
  · exact ⟨by omega, Int.pow_pos (by decide)⟩
set_option maxRecDepth 20000 in
theorem exGr_ok (hk : tkcode m ps l = 0) (h : ExDone m ps l K) : GOk (exGr m ps l K) := by
  have h6 := (lcode_zero (tk_zero hk).2).2.2.2.2
  have hbl : (begL m ps l).length ≤ (xpP m ps l K).length := by
    have h1 := (exS_le (begL m ps l) (xpBh m ps l) (Nat.zero_le K)).length_le
    have h2 : (begL m ps l).length ≤ (exS (begL m ps l) (xpBh m ps l) 0).length := by
      show _ ≤ (plTo [] (begL m ps l)).length
      have hnd := plTo_nodup (begL m ps l) [] List.nodup_nil
      have hsub : begL m ps l ⊆ plTo [] (begL m ps l) := fun x hx => (plTo_iff _ _ _).2 (.inr hx)
      exact (xbeg_nodup m ps l).length_le_of_subset hsub
    exact Nat.le_trans h2 h1
  refine ⟨⟨by show (xpP m ps l K).length ≤ _; rw [h.1]; exact h.2.1, by show (xpN m ps l K).length = (xpP m ps l K).length; rw [xpN_len, h.1], by show (xpT m ps l K).length = (xpP m ps l K).length; rw [xpT_len, h.1], by show (0 : Int) ≤ ((begL m ps l).length : Nat); omega, by show (((begL m ps l).length : Nat) : Int) ≤ ((xpP m ps l K).length : Nat); omega, by show (0 : Int) ≤ ((aheadL l).length : Nat); omega, by show (((aheadL l).length : Nat) : Int) ≤ 6; omega⟩, fun i hi => ?_⟩
  have hiK : i < K := by have : i < (xpP m ps l K).length := hi; rw [h.1] at this; exact this
  refine ⟨?_, fun q hq => ?_⟩
  · unfold GSet top
    show 0 ≤ (xpT m ps l K).getD i 0 ∧ (xpT m ps l K).getD i 0 ≤ 2 ^ (((aheadL l).length : Nat) : Int).toNat - 1
    rw [xpT_get hiK]
    have := metN_range l (letL m ps (xpAt m ps l i).1) (xpAt m ps l i).2
    rw [Int.toNat_natCast]
    omega
  · obtain ⟨r1, r2⟩ := xpN_row h hiK
    have hq' : q < (xpBh m ps l ((xpP m ps l K).getD i (0, 0))).length := by rw [← r1]; exact hq
    obtain ⟨r3, r4⟩ := r2 q hq'
    show 0 ≤ ((xpN m ps l K).getD i []).getD q 0 ∧ ((xpN m ps l K).getD i []).getD q 0 < ((xpP m ps l K).length : Nat)
    rw [r3]
    have := List.idxOf_lt_length_of_mem r4
    omega
set_option maxRecDepth 20000 in
/-- a step of the graph. -/
theorem exGr_step (h : ExDone m ps l K) {s x : Int × Int} (hs : s ∈ xpP m ps l K) (hx : x ∈ xpBh m ps l s) : x ∈ xpP m ps l K ∧ (xpP m ps l K).idxOf x ∈ nxt (exGr m ps l K) ((xpP m ps l K).idxOf s) := by
  have hi := List.idxOf_lt_length_of_mem hs
  have hiK : (xpP m ps l K).idxOf s < K := by rw [h.1] at hi; exact hi
  have he : (xpP m ps l K).getD ((xpP m ps l K).idxOf s) (0, 0) = s := by
    rw [List.getD_eq_getElem?_getD, List.getElem?_eq_getElem hi]
    exact List.getElem_idxOf hi
  obtain ⟨r1, r2⟩ := xpN_row h hiK
  rw [he] at r1 r2
  obtain ⟨q, hq, rfl⟩ := List.getElem_of_mem hx
  have hg : (xpBh m ps l s).getD q (0, 0) = (xpBh m ps l s)[q] := by rw [List.getD_eq_getElem?_getD, List.getElem?_eq_getElem hq]; rfl
  obtain ⟨r3, r4⟩ := r2 q hq
  rw [hg] at r3 r4
  refine ⟨r4, ?_⟩
  unfold nxt
  rw [List.mem_map]
  refine ⟨((xpN m ps l K).getD ((xpP m ps l K).idxOf s) []).getD q 0, ?_, by rw [r3]; rfl⟩
  show ((xpN m ps l K).getD ((xpP m ps l K).idxOf s) []).getD q 0 ∈ (xpN m ps l K).getD ((xpP m ps l K).idxOf s) []
  generalize (xpN m ps l K).getD ((xpP m ps l K).idxOf s) [] = row at *
  rw [List.getD_eq_getElem?_getD, List.getElem?_eq_getElem (by rw [r1]; exact hq)]
  exact List.getElem_mem _
set_option maxRecDepth 20000 in
/-- ALL OF IT IS REACHED. -/
theorem exGr_reach (h : ExDone m ps l K) {i : Nat} (hi : i < K) : ∃ f ∈ List.range (begL m ps l).length, Way (nxt (exGr m ps l K)) f i := by
  have key := exS_sub (begL m ps l) (xpBh m ps l) (P := fun s => s ∈ xpP m ps l K ∧ ∃ f ∈ List.range (begL m ps l).length, Way (nxt (exGr m ps l K)) f ((xpP m ps l K).idxOf s)) (fun s hs => ?_) (fun s hs x hx => ?_) K h.2.2.1
  · have hl : i < (xpP m ps l K).length := by rw [h.1]; exact hi
    have hm : (xpP m ps l K).getD i (0, 0) ∈ xpP m ps l K := by
      rw [List.getD_eq_getElem?_getD, List.getElem?_eq_getElem hl]
      exact List.getElem_mem _
    obtain ⟨_, f, hf, hw⟩ := key _ hm
    rw [xp_idx h hi] at hw
    exact ⟨f, hf, hw⟩
  · have h0 : s ∈ exS (begL m ps l) (xpBh m ps l) 0 := (plTo_iff _ _ _).2 (.inr hs)
    have hpre := exS_le (begL m ps l) (xpBh m ps l) (Nat.zero_le K)
    refine ⟨hpre.subset h0, (xpP m ps l K).idxOf s, ?_, .stay⟩
    rw [List.mem_range]
    have e : (xpP m ps l K).idxOf s = (exS (begL m ps l) (xpBh m ps l) 0).idxOf s := idx_pre hpre h0
    rw [e]
    have h1 := List.idxOf_lt_length_of_mem h0
    have h2 : (exS (begL m ps l) (xpBh m ps l) 0).length ≤ (begL m ps l).length := by
      have := (plTo_length (begL m ps l) []).2
      show (plTo [] (begL m ps l)).length ≤ _
      simpa using this
    omega
  · obtain ⟨hs1, f, hf, hw⟩ := hs
    obtain ⟨g1, g2⟩ := exGr_step h hs1 hx
    exact ⟨g1, f, hf, hw.step g2⟩
end
set_option maxRecDepth 20000 in
theorem SpO.ops {w : World} {base : Nat} {v : Value} {x : List (Int × Int)} (h : SpO w base v x) : OpsV w v x := by
  rcases h.2 with ⟨rfl, h0⟩ | ⟨g, cap, cur, rfl, hb, hg, hnc, hcm, hcs, htake⟩
  · have : x = [] := by simpa using h0
    subst this
    exact ⟨none, 0, rfl, ⟨by simp, fun _ => ⟨rfl, rfl⟩⟩, fun h => absurd rfl h⟩
  · refine ⟨_, cap, rfl, ⟨hnc, fun h => by simp at h⟩, fun _ => ⟨g, 0, rfl, (Array.getElem?_eq_some_iff.1 hg).1, fun i hi => ?_⟩⟩
    obtain ⟨f0, f1⟩ := flat_get x i hi
    rw [World.ownsRow.cellAt h _ (by omega), World.ownsRow.cellAt h _ (by omega)]
    simpa using ⟨f0, f1⟩
set_option maxRecDepth 20000 in
theorem GrX.graph {w : World} {base K : Nat} {m : Mo} {ps : List (List (Int × Int))} {l : List (Int × Int)} {sv nv tv : Value} (h : GrX w base m ps l K sv nv tv) : GraphV w sv nv tv (exGr m ps l K) := by
  obtain ⟨h1, ⟨us, n1, n2, n3⟩, h3⟩ := h
  refine ⟨h1.ops, ?_, intsV_of_owns h3⟩
  have n1' : w.ownsRow base 40 1 nv us.length us := by rw [n2]; exact n1
  refine listsV_of_owns n1' ⟨n2, fun i hi => ?_⟩
  obtain ⟨ao, c, e1, e2, _, _⟩ := n3 i hi
  have e1' : us.getD i nilG = .slice ao ((xpN m ps l K).getD i []).length c := e1
  rw [e1']
  exact e2
end Go.Proofs.YtafbnmiipfkohaaGreatDoor

/-
  Plain mathematics of a look through a graph, the nearest places first.
-/
namespace Go.Proofs.YtafbnmiipfkohaaGreatDoor
open Terms

/-- what was met: places, and where each came from. -/
abbrev Met := List (Nat × Int)
def keys (L : Met) : List Nat := L.map Prod.fst
def fromOf (L : Met) (x : Nat) : Int := ((L.find? fun p => decide (p.1 = x)).map Prod.snd).getD 0
open Classical in
noncomputable def meetStep (ins : Nat → Bool) (f : Int) (L : Met) (p : Nat) : Met := if p ∈ keys L ∨ ins p = false then L else L ++ [(p, f)]
noncomputable def meetTo (ins : Nat → Bool) (f : Int) (L : Met) (ps : List Nat) (k : Nat) : Met := (ps.take k).foldl (meetStep ins f) L
set_option maxRecDepth 20000 in
theorem meetTo_zero (ins : Nat → Bool) (f : Int) (L : Met) (ps : List Nat) : meetTo ins f L ps 0 = L := rfl
set_option maxRecDepth 20000 in
theorem meetTo_succ {ins : Nat → Bool} {f : Int} {L : Met} {ps : List Nat} {k : Nat} (hk : k < ps.length) : meetTo ins f L ps (k + 1) = meetStep ins f (meetTo ins f L ps k) (ps.getD k 0) := by
  unfold meetTo
  rw [List.take_succ_eq_append_getElem hk, List.foldl_append, List.getD_eq_getElem?_getD, List.getElem?_eq_getElem hk]
  rfl
set_option maxRecDepth 20000 in
theorem meetStep_no {ins : Nat → Bool} {f : Int} {L : Met} {p : Nat} (h : p ∈ keys L ∨ ins p = false) : meetStep ins f L p = L := if_pos h
set_option maxRecDepth 20000 in
theorem meetStep_yes {ins : Nat → Bool} {f : Int} {L : Met} {p : Nat} (h1 : ¬ p ∈ keys L) (h2 : ins p = true) : meetStep ins f L p = L ++ [(p, f)] := if_neg (by simp [h1, h2])
set_option maxRecDepth 20000 in
theorem keys_length (L : Met) : (keys L).length = L.length := by simp [keys]
set_option maxRecDepth 20000 in
theorem keys_snoc (L : Met) (p : Nat) (f : Int) : keys (L ++ [(p, f)]) = keys L ++ [p] := by simp [keys]
set_option maxRecDepth 20000 in
theorem fromOf_old {L : Met} {p x : Nat} {f : Int} (h : x ∈ keys L) : fromOf (L ++ [(p, f)]) x = fromOf L x := by
  unfold fromOf
  rw [List.find?_append]
  obtain ⟨q, hq, rfl⟩ := List.mem_map.1 h
  cases hf : L.find? (fun p => decide (p.1 = q.1)) with
  | none =>
    have := List.find?_eq_none.1 hf q hq
    simp at this
  | some z => rfl
set_option maxRecDepth 20000 in
theorem fromOf_new {L : Met} {p : Nat} {f : Int} (h : ¬ p ∈ keys L) : fromOf (L ++ [(p, f)]) p = f := by
  unfold fromOf
  rw [List.find?_append]
  cases hf : L.find? (fun q => decide (q.1 = p)) with
  | none => simp
  | some z =>
    have h1 := List.find?_some hf
    have h2 := List.mem_of_find?_eq_some hf
    simp at h1
    exact absurd (List.mem_map.2 ⟨z, h2, h1⟩) h
/-- WHAT WAS MET IS MET RIGHTLY. -/
structure LOk (n : Nat) (ins : Nat → Bool) (nx : Nat → List Nat) (begin : List Nat) (L : Met) : Prop where
  nodup : (keys L).Nodup
  lt : ∀ x ∈ keys L, x < n
  ins : ∀ x ∈ keys L, ins x = true
  src : ∀ i, i < L.length → ((L.getD i (0, 0)).2 = -1 ∧ (L.getD i (0, 0)).1 ∈ begin) ∨ ∃ j, j < i ∧ (L.getD i (0, 0)).2 = ((L.getD j (0, 0)).1 : Int) ∧ (L.getD i (0, 0)).1 ∈ nx (L.getD j (0, 0)).1
set_option maxRecDepth 20000 in
theorem LOk.nil (n : Nat) (ins : Nat → Bool) (nx : Nat → List Nat) (begin : List Nat) : LOk n ins nx begin [] := ⟨by simp [keys], by simp [keys], by simp [keys], fun i hi => by simp at hi⟩
set_option maxRecDepth 20000 in
theorem getD_snoc_old {α : Type} (L : List α) (x d : α) {i : Nat} (hi : i < L.length) : (L ++ [x]).getD i d = L.getD i d := by simp [List.getD_eq_getElem?_getD, List.getElem?_append_left hi]
set_option maxRecDepth 20000 in
theorem getD_snoc_new {α : Type} (L : List α) (x d : α) : (L ++ [x]).getD L.length d = x := by simp [List.getD_eq_getElem?_getD]
set_option maxRecDepth 20000 in
theorem LOk.snoc {n : Nat} {ins : Nat → Bool} {nx : Nat → List Nat} {begin : List Nat} {L : Met} {p : Nat} {f : Int} (h : LOk n ins nx begin L) (hp : p < n) (h1 : ¬ p ∈ keys L) (h2 : ins p = true) (hs : (f = -1 ∧ p ∈ begin) ∨ ∃ j, j < L.length ∧ f = ((L.getD j (0, 0)).1 : Int) ∧ p ∈ nx (L.getD j (0, 0)).1) : LOk n ins nx begin (L ++ [(p, f)]) := by
  refine ⟨?_, ?_, ?_, fun i hi => ?_⟩
  · rw [keys_snoc, List.nodup_append]
    refine ⟨h.nodup, by simp, fun a ha b hb => ?_⟩
    simp at hb
    subst hb
    exact fun e => h1 (e ▸ ha)
  · intro x hx
    rw [keys_snoc] at hx
    rcases List.mem_append.1 hx with hx | hx
    · exact h.lt x hx
    · simp at hx; subst hx; exact hp
  · intro x hx
    rw [keys_snoc] at hx
    rcases List.mem_append.1 hx with hx | hx
    · exact h.ins x hx
    · simp at hx; subst hx; exact h2
  · by_cases hl : i < L.length
    · rw [getD_snoc_old L _ _ hl]
      rcases h.src i hl with h3 | ⟨j, hj, h4⟩
      · exact .inl h3
      · exact .inr ⟨j, hj, by rw [getD_snoc_old L _ _ (by omega)]; exact h4⟩
    · obtain rfl : i = L.length := by simp at hi; omega
      rw [getD_snoc_new]
      rcases hs with h3 | ⟨j, hj, h4⟩
      · exact .inl h3
      · exact .inr ⟨j, hj, by rw [getD_snoc_old L _ _ hj]; exact h4⟩
/-- what is met grows. -/
def Grown (L L' : Met) : Prop := ∃ m, L' = L ++ m
set_option maxRecDepth 20000 in
theorem Grown.refl (L : Met) : Grown L L := ⟨[], by simp⟩
set_option maxRecDepth 20000 in
theorem Grown.trans {A B C : Met} (h : Grown A B) (h' : Grown B C) : Grown A C := by
  obtain ⟨m, rfl⟩ := h; obtain ⟨k, rfl⟩ := h'; exact ⟨m ++ k, by simp⟩
set_option maxRecDepth 20000 in
theorem Grown.keys {L L' : Met} (h : Grown L L') {x : Nat} (hx : x ∈ keys L) : x ∈ keys L' := by
  obtain ⟨m, rfl⟩ := h; simp only [Go.Proofs.YtafbnmiipfkohaaGreatDoor.keys, List.map_append, List.mem_append]; exact .inl hx
set_option maxRecDepth 20000 in
theorem Grown.getD {L L' : Met} (h : Grown L L') {i : Nat} (hi : i < L.length) : L'.getD i (0, 0) = L.getD i (0, 0) := by
  obtain ⟨m, rfl⟩ := h; simp [List.getD_eq_getElem?_getD, List.getElem?_append_left hi]
set_option maxRecDepth 20000 in
theorem Grown.length {L L' : Met} (h : Grown L L') : L.length ≤ L'.length := by
  obtain ⟨m, rfl⟩ := h; simp
set_option maxRecDepth 20000 in
theorem meetTo_grown (ins : Nat → Bool) (f : Int) (L : Met) (ps : List Nat) (k : Nat) : Grown L (meetTo ins f L ps k) := by
  induction k with
  | zero => exact Grown.refl _
  | succ k ih =>
    by_cases hk : k < ps.length
    · rw [meetTo_succ hk]
      refine ih.trans ?_
      by_cases h : ps.getD k 0 ∈ keys (meetTo ins f L ps k) ∨ ins (ps.getD k 0) = false
      · rw [meetStep_no h]; exact Grown.refl _
      · unfold meetStep; rw [if_neg h]; exact ⟨_, rfl⟩
    · unfold meetTo at *
      rw [List.take_of_length_le (by omega)] at *
      exact ih
set_option maxRecDepth 20000 in
theorem meetTo_has {ins : Nat → Bool} {f : Int} {L : Met} {ps : List Nat} {k : Nat} (hk : k ≤ ps.length) : ∀ j, j < k → ins (ps.getD j 0) = true → ps.getD j 0 ∈ keys (meetTo ins f L ps k) := by
  induction k with
  | zero => intro j hj; omega
  | succ k ih =>
    intro j hj hi
    rw [meetTo_succ (by omega)]
    by_cases hjk : j < k
    · have := ih (by omega) j hjk hi
      by_cases h : ps.getD k 0 ∈ keys (meetTo ins f L ps k) ∨ ins (ps.getD k 0) = false
      · rw [meetStep_no h]; exact this
      · unfold meetStep; rw [if_neg h, keys_snoc]; exact List.mem_append.2 (.inl this)
    · obtain rfl : j = k := by omega
      by_cases h : ps.getD j 0 ∈ keys (meetTo ins f L ps j)
      · rw [meetStep_no (.inl h)]; exact h
      · rw [meetStep_yes h hi, keys_snoc]; simp
set_option maxRecDepth 20000 in
theorem meetTo_ok {n : Nat} {ins : Nat → Bool} {nx : Nat → List Nat} {begin : List Nat} {L : Met} {f : Int} {ps : List Nat} (h : LOk n ins nx begin L) (hp : ∀ x ∈ ps, x < n) (hs : (f = -1 ∧ ∀ x ∈ ps, x ∈ begin) ∨ ∃ j, j < L.length ∧ f = ((L.getD j (0, 0)).1 : Int) ∧ ∀ x ∈ ps, x ∈ nx (L.getD j (0, 0)).1) (k : Nat) (hk : k ≤ ps.length) : LOk n ins nx begin (meetTo ins f L ps k) := by
  induction k with
  | zero => exact h
  | succ k ih =>
    rw [meetTo_succ (by omega)]
    have ih := ih (by omega)
    have hmem : ps.getD k 0 ∈ ps := by rw [List.getD_eq_getElem?_getD, List.getElem?_eq_getElem (by omega)]; exact List.getElem_mem _
    by_cases h1 : ps.getD k 0 ∈ keys (meetTo ins f L ps k) ∨ ins (ps.getD k 0) = false
    · rw [meetStep_no h1]; exact ih
    · have h2 : ins (ps.getD k 0) = true := by
        cases hx : ins (ps.getD k 0) with
        | true => rfl
        | false => exact absurd (.inr hx) h1
      have h3 : ¬ ps.getD k 0 ∈ keys (meetTo ins f L ps k) := fun x => h1 (.inl x)
      rw [meetStep_yes h3 h2]
      refine ih.snoc (hp _ hmem) h3 h2 ?_
      rcases hs with ⟨h4, h5⟩ | ⟨j, hj, h4, h5⟩
      · exact .inl ⟨h4, h5 _ hmem⟩
      · have hg := meetTo_grown ins f L ps k
        exact .inr ⟨j, Nat.lt_of_lt_of_le hj hg.length, by rw [hg.getD hj]; exact ⟨h4, h5 _ hmem⟩⟩
set_option maxRecDepth 20000 in
theorem nodup_le : ∀ {n : Nat} {l : List Nat}, l.Nodup → (∀ x ∈ l, x < n) → l.length ≤ n
  | 0, l, _, h2 => by
    cases l with
    | nil => simp
    | cons x l => have := h2 x (by simp); omega
  | n + 1, l, h1, h2 => by
    have h3 := nodup_le (n := n) (l := l.erase n) (h1.erase n) (fun x hx => by
      have h4 := h2 x (List.mem_of_mem_erase hx)
      have h5 : x ≠ n := by
        rintro rfl
        exact (List.Nodup.not_mem_erase h1) hx
      omega)
    have := List.length_erase (l := l) (a := n)
    split at this <;> omega
set_option maxRecDepth 20000 in
theorem LOk.length {n : Nat} {ins : Nat → Bool} {nx : Nat → List Nat} {begin : List Nat} {L : Met} (h : LOk n ins nx begin L) : L.length ≤ n := by
  have := nodup_le h.nodup h.lt
  rwa [keys_length] at this
set_option maxRecDepth 20000 in
theorem key_at {L : Met} {i : Nat} (hi : i < L.length) : (L.getD i (0, 0)).1 ∈ keys L := by
  rw [List.getD_eq_getElem?_getD, List.getElem?_eq_getElem hi]
  exact List.mem_map.2 ⟨_, List.getElem_mem _, rfl⟩
set_option maxRecDepth 20000 in
theorem key_get {L : Met} {x : Nat} (hx : x ∈ keys L) : ∃ i, i < L.length ∧ (L.getD i (0, 0)).1 = x := by
  obtain ⟨q, hq, rfl⟩ := List.mem_map.1 hx
  obtain ⟨i, hi, rfl⟩ := List.getElem_of_mem hq
  exact ⟨i, hi, by rw [List.getD_eq_getElem?_getD, List.getElem?_eq_getElem hi]; rfl⟩
/-- so far gone through: what lies behind is met, and none of it is wanted. -/
structure Through (ins want : Nat → Bool) (nx : Nat → List Nat) (begin : List Nat) (L : Met) (i : Nat) : Prop where
  first : ∀ x ∈ begin, ins x = true → x ∈ keys L
  next : ∀ j, j < i → ∀ x ∈ nx (L.getD j (0, 0)).1, ins x = true → x ∈ keys L
  none : ∀ j, j < i → want (L.getD j (0, 0)).1 = false
set_option maxRecDepth 20000 in
theorem Through.step {ins want : Nat → Bool} {nx : Nat → List Nat} {begin : List Nat} {L : Met} {i : Nat} (h : Through ins want nx begin L i) (hi : i < L.length) (hw : want (L.getD i (0, 0)).1 = false) {f : Int} : Through ins want nx begin (meetTo ins f L (nx (L.getD i (0, 0)).1) (nx (L.getD i (0, 0)).1).length) (i + 1) := by
  have hg := meetTo_grown ins f L (nx (L.getD i (0, 0)).1) (nx (L.getD i (0, 0)).1).length
  refine ⟨fun x hx hy => hg.keys (h.first x hx hy), fun j hj x hx hy => ?_, fun j hj => ?_⟩
  · rw [hg.getD (by omega)] at hx
    by_cases hji : j < i
    · exact hg.keys (h.next j hji x hx hy)
    · obtain rfl : j = i := by omega
      obtain ⟨k, hk, rfl⟩ := List.getElem_of_mem hx
      have := meetTo_has (ins := ins) (f := f) (L := L) (Nat.le_refl (nx (L.getD j (0, 0)).1).length) k hk
      rw [List.getD_eq_getElem?_getD, List.getElem?_eq_getElem hk] at this
      exact this hy
  · rw [hg.getD (by omega)]
    by_cases hji : j < i
    · exact h.none j hji
    · obtain rfl : j = i := by omega
      exact hw
set_option maxRecDepth 20000 in
/-- WHAT A LOOK THAT FOUND NOTHING HAS MET: all that is reached inside, and none of it is wanted. -/
theorem Through.all {n : Nat} {ins want : Nat → Bool} {nx : Nat → List Nat} {begin : List Nat} {L : Met} (h : Through ins want nx begin L L.length) (_hl : LOk n ins nx begin L) : (∀ x ∈ begin, ins x = true → x ∈ keys L) ∧ (∀ x ∈ keys L, ∀ y ∈ nx x, ins y = true → y ∈ keys L) ∧ ∀ x ∈ keys L, want x = false := by
  refine ⟨h.first, fun x hx y hy hi => ?_, fun x hx => ?_⟩
  · obtain ⟨i, hi', rfl⟩ := key_get hx
    exact h.next i hi' y hy hi
  · obtain ⟨i, hi', rfl⟩ := key_get hx
    exact h.none i hi'
end Go.Proofs.YtafbnmiipfkohaaGreatDoor

/-
  The contract of scc.Check.
-/
namespace Go.Proofs.YtafbnmiipfkohaaGreatDoor
open Go.ChangeShapes Go.WideShapes Go.ChangeAt Go.RowKit Go.Deep
open Terms

set_option maxHeartbeats 800000 in
set_option maxRecDepth 20000 in
theorem allSets_any (so no bo : Option Addr) (sn sc nn nc bn bc : Nat) (g : Gr) (w : World) (h0 : 0 ≤ g.many) (h6 : g.many ≤ 6) :
    Calls Tryz.prog 34 #[.agg #[.slice so sn sc, .int .i64 g.init, .slice no nn nc, .slice bo bn bc, .int .i64 g.many]] w fun e w' => e = .returned (.int .i64 (top g)) ∧ Below w.heap.size w w' := by
  have hA : ∀ o, Below w.heap.size w (w.alloc o) := fun o => (Below.refl _ _).alloc (Nat.le_refl _) o
  have h7 : g.many = 0 ∨ g.many = 1 ∨ g.many = 2 ∨ g.many = 3 ∨ g.many = 4 ∨ g.many = 5 ∨ g.many = 6 := by omega
  unfold top
  generalize g.init = gi at *
  rcases h7 with h | h | h | h | h | h | h
  all_goals
    rw [h]
    clear h h0 h6
    go_enter Tryz.func34, Tryz.ntmps34
    go_wp2
    go_ret
    exact ⟨rfl, hA _⟩

set_option maxHeartbeats 1600000 in
set_option maxRecDepth 20000 in
theorem scheck_head (so no bo : Option Addr) (sc nc bc : Nat) (g : Gr) (w : World) (hh : ¬ GHead g) (hz1 : g.spots.length ≤ 140737488355328) (hz2 : g.next.length ≤ 140737488355328) (_hz3 : g.sets.length ≤ 140737488355328) :
    Calls Tryz.prog 16 #[.agg #[.slice so g.spots.length sc, .int .i64 g.init, .slice no g.next.length nc, .slice bo g.sets.length bc, .int .i64 g.many]] w fun e w' => e = .returned (.int .i64 (gcode g)) ∧ Below w.heap.size w w' := by
  have hA : ∀ o, Below w.heap.size w (w.alloc o) := fun o => (Below.refl _ _).alloc (Nat.le_refl _) o
  rw [gcode_head hh]
  have h7 : (20000 : Int) < (g.spots.length : Int) ∨ (¬ (20000 : Int) < (g.spots.length : Int) ∧ ¬ (g.next.length : Int) = (g.spots.length : Int)) ∨ (¬ (20000 : Int) < (g.spots.length : Int) ∧ g.next.length = g.spots.length ∧ ¬ (g.sets.length : Int) = (g.spots.length : Int)) ∨ (¬ (20000 : Int) < (g.spots.length : Int) ∧ g.next.length = g.spots.length ∧ g.sets.length = g.spots.length ∧ (g.init < 0 ∨ (¬ g.init < 0 ∧ (g.spots.length : Int) < g.init) ∨ (¬ g.init < 0 ∧ ¬ (g.spots.length : Int) < g.init ∧ g.many < 0) ∨ (¬ g.init < 0 ∧ ¬ (g.spots.length : Int) < g.init ∧ ¬ g.many < 0 ∧ 6 < g.many))) := by
    refine Classical.byContradiction fun hc => hh ⟨?_, ?_, ?_, ?_, ?_, ?_, ?_⟩ <;> omega
  generalize g.spots.length = sn at *
  generalize g.next.length = nn at *
  generalize g.sets.length = bn at *
  generalize g.init = gi at *
  generalize g.many = gm at *
  clear hh
  rcases h7 with h1 | ⟨h1, h2⟩ | ⟨h1, h2, h3⟩ | ⟨h1, h2, h3, h4 | ⟨h4, h5⟩ | ⟨h4, h5, h6⟩ | ⟨h4, h5, h6, h7⟩⟩
  · go_enter Tryz.func16, Tryz.ntmps16
    go_wp2
    go_ret
    exact ⟨rfl, hA _⟩
  · have h2' : ¬ (nn : Int) = (sn : Int) := h2
    go_enter Tryz.func16, Tryz.ntmps16
    go_wp2
    go_ret
    exact ⟨rfl, hA _⟩
  · subst h2
    go_enter Tryz.func16, Tryz.ntmps16
    go_wp2
    go_ret
    exact ⟨rfl, hA _⟩
  all_goals
    subst h2 h3
    go_enter Tryz.func16, Tryz.ntmps16
    go_wp2
    go_ret
    exact ⟨rfl, hA _⟩

set_option maxRecDepth 20000 in
theorem undrewB {a b : World} (h : Below a.drew.heap.size a.drew b) : Below a.heap.size a b := ⟨h.os, h.tape, h.output, h.size, h.block⟩
set_option maxRecDepth 20000 in
theorem ListsV.row {w : World} {no : Option Addr} {nn nc : Nat} {ls : List (List Int)} (h : ListsV w (.slice no nn nc) ls) {i : Nat} (hi : i < ls.length) : ∃ b off, no = some ⟨b, off, none⟩ ∧ b < w.heap.size ∧ ∃ uo uc, w.cell? ⟨b, off + i, none⟩ = some (.slice uo (ls.getD i []).length uc) ∧ IntsV w (.slice uo (ls.getD i []).length uc) (ls.getD i []) := by
  obtain ⟨b, off, e, hlt, u, hc, hu⟩ := h.at hi
  have hu' := hu
  obtain ⟨uo, uc, rfl, _⟩ := hu
  exact ⟨b, off, e, hlt, uo, uc, hc, hu'⟩
set_option maxRecDepth 20000 in
theorem IntsV.num {w : World} {bo : Option Addr} {bn bc : Nat} {l : List Int} (h : IntsV w (.slice bo bn bc) l) {i : Nat} (hi : i < l.length) : ∃ b off, bo = some ⟨b, off, none⟩ ∧ b < w.heap.size ∧ w.cell? ⟨b, off + i, none⟩ = some (.int .i64 (l.getD i 0)) := by
  obtain ⟨ao, cap, hv, h⟩ := h
  injection hv with e1 e2 e3
  subst e1
  obtain ⟨b, off, e, hlt, hat⟩ := h (by rintro rfl; simp at hi)
  exact ⟨b, off, e, hlt, hat i hi⟩

set_option maxHeartbeats 3200000 in
set_option maxRecDepth 20000 in
/-- THE CONTRACT OF scc.Check. -/
theorem scheck_any (so no bo : Option Addr) (sc nc bc : Nat) (g : Gr) (w : World) (hz1 : g.spots.length ≤ 140737488355328) (hz2 : g.next.length ≤ 140737488355328) (hz3 : g.sets.length ≤ 140737488355328) (hzn : ∀ i, i < g.next.length → (g.next.getD i []).length ≤ 140737488355328)
    (hV : GraphV w (.slice so g.spots.length sc) (.slice no g.next.length nc) (.slice bo g.sets.length bc) g) :
    Calls Tryz.prog 16 #[.agg #[.slice so g.spots.length sc, .int .i64 g.init, .slice no g.next.length nc, .slice bo g.sets.length bc, .int .i64 g.many]] w fun e w' => e = .returned (.int .i64 (gcode g)) ∧ Below w.heap.size w w' := by
  by_cases hh0 : ¬ GHead g
  · exact scheck_head so no bo sc nc bc g w hh0 hz1 hz2 hz3
  · have hh := Classical.not_not.1 hh0
    clear hh0
    obtain ⟨W0, hW0⟩ : ∃ W0, W0 = w.alloc (.cells #[.slice so g.spots.length sc, .int .i64 g.init, .slice no g.next.length nc, .slice bo g.sets.length bc, .int .i64 g.many] 53) := ⟨_, rfl⟩
    have hA : Below w.heap.size w W0 := by rw [hW0]; exact (Below.refl _ _).alloc (Nat.le_refl _) _
    have HSt : Hid (∀ w1, Below W0.heap.size W0 w1 → w1.cell? ⟨w.heap.size, 0, none⟩ = some (.slice so g.spots.length sc) ∧ w1.cell? ⟨w.heap.size, 1, none⟩ = some (.int .i64 g.init) ∧ w1.cell? ⟨w.heap.size, 2, none⟩ = some (.slice no g.next.length nc) ∧ w1.cell? ⟨w.heap.size, 3, none⟩ = some (.slice bo g.sets.length bc) ∧ w1.cell? ⟨w.heap.size, 4, none⟩ = some (.int .i64 g.many)) := fun w1 hb => by
      have hz : w.heap.size < W0.heap.size := by rw [hW0]; simp
      refine ⟨(hb.cell (p := ⟨w.heap.size, 0, none⟩) hz).trans ?_, (hb.cell (p := ⟨w.heap.size, 1, none⟩) hz).trans ?_, (hb.cell (p := ⟨w.heap.size, 2, none⟩) hz).trans ?_, (hb.cell (p := ⟨w.heap.size, 3, none⟩) hz).trans ?_, (hb.cell (p := ⟨w.heap.size, 4, none⟩) hz).trans ?_⟩ <;> (rw [hW0]; simp [go_sem])
    have HRow : Hid (∀ i, i < g.spots.length → ¬ GRow g i → gcode g = 9) := fun i hi h => gcode_row hi h
    have HOk : Hid ((∀ i, i < g.spots.length → GRow g i) → gcode g = 0) := gcode_ok hh
    have HV : Hid (∀ w1, Below w.heap.size w w1 → GraphV w1 (.slice so g.spots.length sc) (.slice no g.next.length nc) (.slice bo g.sets.length bc) g) := fun w1 hb => hV.below hb
    have HAll : Hid (∀ w1, Calls Tryz.prog 34 #[.agg #[.slice so g.spots.length sc, .int .i64 g.init, .slice no g.next.length nc, .slice bo g.sets.length bc, .int .i64 g.many]] w1 fun e w' => e = .returned (.int .i64 (top g)) ∧ Below w1.heap.size w1 w') := fun w1 => allSets_any so no bo _ sc _ nc _ bc g w1 hh.many0 hh.many6
    have h1 : ¬ (20000 : Int) < (g.spots.length : Int) := by have := hh.n; omega
    have h2 := hh.next
    have h3 := hh.sets
    have h4 : ¬ g.init < 0 := by have := hh.init0; omega
    have h5 : ¬ (g.spots.length : Int) < g.init := by have := hh.init1; omega
    have h6 : ¬ g.many < 0 := by have := hh.many0; omega
    have h7 : ¬ 6 < g.many := by have := hh.many6; omega
    have hn20 : g.spots.length ≤ 20000 := hh.n
    have HN : Hid (g.next.length = g.spots.length) := h2
    have HS : Hid (g.sets.length = g.spots.length) := h3
    rw [h2, h3] at HSt HV HAll hW0 ⊢
    have HZ : Hid (∀ i, i < g.spots.length → (g.next.getD i []).length ≤ 140737488355328) := fun i hi => hzn i (by rw [h2]; exact hi)
    have HTop : Hid (0 ≤ top g ∧ top g ≤ 63) := by
      have h8 : g.many.toNat ≤ 6 := by omega
      unfold top
      have : g.many.toNat = 0 ∨ g.many.toNat = 1 ∨ g.many.toNat = 2 ∨ g.many.toNat = 3 ∨ g.many.toNat = 4 ∨ g.many.toNat = 5 ∨ g.many.toNat = 6 := by omega
      rcases this with h | h | h | h | h | h | h <;> rw [h] <;> exact ⟨by decide, by decide⟩
    have HGS : Hid (∀ i, GSet g i ↔ (0 ≤ g.sets.getD i 0 ∧ g.sets.getD i 0 ≤ top g)) := fun i => Iff.rfl
    generalize g.init = gi at *
    generalize g.many = gm at *
    obtain ⟨sn, hsn⟩ : ∃ sn, sn = g.spots.length := ⟨_, rfl⟩
    have HSN : Hid (sn = g.spots.length) := hsn
    rw [← hsn] at HSt HV HAll hW0 HN HS HZ HRow HOk h1 h5 hn20 ⊢
    clear hh h2 h3 hV hz1 hz2 hz3 hzn hsn
    have HW0 : Hid (W0 = w.alloc (.cells #[.slice so sn sc, .int .i64 gi, .slice no sn nc, .slice bo sn bc, .int .i64 gm] 53)) := hW0
    obtain ⟨top, htop⟩ : ∃ t, t = top g := ⟨_, rfl⟩
    rw [← htop] at HAll HTop HGS
    clear htop
    obtain ⟨k0, k1, k2, k3, k4⟩ := HSt.out W0 (Below.refl _ _)
    generalize gcode g = gc at *
    go_enter Tryz.func16, Tryz.ntmps16
    go_wp2
    rw [← hW0]
    clear hW0 k0 k1 k2 k3 k4 h1 h4 h5 h6 h7
    go_loopw [46] (fun i wr => ∃ k : Nat, k ≤ sn ∧ i = .int .i64 k ∧ Hid (∀ j, j < k → GRow g j) ∧ Hid (Below W0.heap.size W0 wr)) (fun i _ => sn - (intOf i).toNat)
    case atStart => exact ⟨0, Nat.zero_le _, rfl, fun j hj => absurd hj (Nat.not_lt_zero _), Below.refl _ _⟩
    case round =>
      obtain ⟨k, hk, rfl, HRs, HB⟩ := hrel
      have hbw := hA.trans (HB.out.mono hA.size)
      by_cases hlt : k < sn
      · have hVr := HV.out wr hbw
        obtain ⟨bb, boff, rfl, hbb, hcb⟩ := hVr.sets.num (i := k) (by rw [HS.out]; exact hlt)
        obtain ⟨nb, noff, rfl, hnb, uo, uc, hcn, hui⟩ := hVr.next.row (i := k) (by rw [HN.out]; exact hlt)
        have hzk := HZ.out k hlt
        have hgs := HGS.out k
        have hal := HAll.out wr.drew
        have hS : ∀ w', Below wr.heap.size wr w' → w'.cell? ⟨w.heap.size, 0, none⟩ = some (.slice so sn sc) ∧ w'.cell? ⟨w.heap.size, 1, none⟩ = some (.int .i64 gi) ∧ w'.cell? ⟨w.heap.size, 2, none⟩ = some (.slice (some ⟨nb, noff, none⟩) sn nc) ∧ w'.cell? ⟨w.heap.size, 3, none⟩ = some (.slice (some ⟨bb, boff, none⟩) sn bc) ∧ w'.cell? ⟨w.heap.size, 4, none⟩ = some (.int .i64 gm) ∧ w'.cell? ⟨bb, boff + k, none⟩ = some (.int .i64 (g.sets.getD k 0)) ∧ w'.cell? ⟨nb, noff + k, none⟩ = some (.slice uo (g.next.getD k []).length uc) := fun w' hb => by
          obtain ⟨a0, a1, a2, a3, a4⟩ := HSt.out w' (HB.out.trans (hb.mono HB.out.size))
          exact ⟨a0, a1, a2, a3, a4, (hb.cell (p := ⟨bb, boff + k, none⟩) hbb).trans hcb, (hb.cell (p := ⟨nb, noff + k, none⟩) hnb).trans hcn⟩
        generalize g.sets.getD k 0 = x at *
        have HRn : Hid (¬ GSet g k → gc = 9) := fun h => HRow.out k (by rw [← HSN.out] at *; exact hlt) fun h' => h h'.1
        by_cases hlo : x < 0
        · have HG : Hid (gc = 9) := HRn.out (by rw [hgs]; omega)
          obtain ⟨a0, a1, a2, a3, a4, a5, a6⟩ := hS wr (Below.refl _ _)
          clear hVr hgs hui HRn hal HRow HOk
          go_wp2_with fail
          go_region
          go_wp2_with fail
          go_ret
          rw [HG.out]
          exact ⟨rfl, by first | exact hbw.drew | exact hbw⟩
        · by_cases hhi : top < x
          · have HG : Hid (gc = 9) := HRn.out (by rw [hgs]; omega)
            clear hVr hgs hui HRn HRow HOk
            go_wp2_with fail
            have t0 : decide (x < 0) = false := decide_eq_false (by omega)
            have t1 : decide (top < x) = true := decide_eq_true hhi
            go_region_held3 (fun w' => w'.cell? ⟨w.heap.size, 0, none⟩ = some (.slice so sn sc) ∧ w'.cell? ⟨w.heap.size, 1, none⟩ = some (.int .i64 gi) ∧ w'.cell? ⟨w.heap.size, 2, none⟩ = some (.slice (some ⟨nb, noff, none⟩) sn nc) ∧ w'.cell? ⟨w.heap.size, 3, none⟩ = some (.slice (some ⟨bb, boff, none⟩) sn bc) ∧ w'.cell? ⟨w.heap.size, 4, none⟩ = some (.int .i64 gm) ∧ w'.cell? ⟨bb, boff + k, none⟩ = some (.int .i64 x) ∧ w'.cell? ⟨nb, noff + k, none⟩ = some (.slice uo (g.next.getD k []).length uc)) (exact hS _ (by first | exact (Below.refl _ _).drew | exact Below.refl _ _ | exact undrewB hb4)) ((go_at_call 34; refine hal.mono ?_; rintro e w4 ⟨rfl, hb4⟩))
            go_wp2_with fail
            go_ret
            rw [HG.out]
            exact ⟨rfl, hbw.trans ((undrewB hb4).mono hbw.size)⟩
          · have HGk : Hid (GSet g k) := hgs.2 ⟨by omega, by omega⟩
            have HRk : Hid (∀ j, j < (g.next.getD k []).length → ¬ GNext g k j → gc = 9) := fun j hj h => HRow.out k (by rw [← HSN.out] at *; exact hlt) fun h' => h (h'.2 j hj)
            have HGN : Hid (∀ j, GNext g k j ↔ (0 ≤ (g.next.getD k []).getD j 0 ∧ (g.next.getD k []).getD j 0 < sn)) := fun j => by unfold GNext; rw [HSN.out]
            have HAdd : Hid ((∀ j, j < (g.next.getD k []).length → GNext g k j) → ∀ j, j < k + 1 → GRow g j) := fun h j hj => by
              by_cases hjk : j < k
              · exact HRs.out j hjk
              · obtain rfl : j = k := by omega
                exact ⟨HGk.out, h⟩
            have HUI : Hid (IntsV wr (.slice uo (g.next.getD k []).length uc) (g.next.getD k [])) := hui
            obtain ⟨ln, hln⟩ : ∃ ln, ln = (g.next.getD k []).length := ⟨_, rfl⟩
            have HLN : Hid (ln = (g.next.getD k []).length) := hln
            rw [← hln] at hS HUI hzk HRk HAdd
            clear hVr hgs hui HRn HRow HOk hcn hln
            go_wp2_with fail
            have t0 : decide (x < 0) = false := decide_eq_false (by omega)
            have t1 : decide (top < x) = false := decide_eq_false (by omega)
            go_region_held3 (fun w' => w'.cell? ⟨w.heap.size, 0, none⟩ = some (.slice so sn sc) ∧ w'.cell? ⟨w.heap.size, 1, none⟩ = some (.int .i64 gi) ∧ w'.cell? ⟨w.heap.size, 2, none⟩ = some (.slice (some ⟨nb, noff, none⟩) sn nc) ∧ w'.cell? ⟨w.heap.size, 3, none⟩ = some (.slice (some ⟨bb, boff, none⟩) sn bc) ∧ w'.cell? ⟨w.heap.size, 4, none⟩ = some (.int .i64 gm) ∧ w'.cell? ⟨bb, boff + k, none⟩ = some (.int .i64 x) ∧ w'.cell? ⟨nb, noff + k, none⟩ = some (.slice uo ln uc)) (exact hS _ (by first | exact (Below.refl _ _).drew | exact Below.refl _ _ | exact undrewB hb4)) ((go_at_call 34; refine hal.mono ?_; rintro e w4 ⟨rfl, hb4⟩))
            have hb4' := undrewB hb4
            obtain ⟨a0, a1, a2, a3, a4, a5, a6⟩ := hS w4 hb4'
            have HI4 : Hid (IntsV w4 (.slice uo ln uc) (g.next.getD k [])) := HUI.out.below hb4'
            have HB4 : Hid (Below W0.heap.size W0 w4) := HB.out.trans (hb4'.mono HB.out.size)
            have hbw4 := hbw.trans (hb4'.mono hbw.size)
            clear t0 t1 hS hal hb4 HUI
            go_wp2_with fail
            go_loop [71] (fun i => ∃ q : Nat, q ≤ ln ∧ i = .int .i64 q ∧ Hid (∀ j, j < q → GNext g k j)) (fun i => ln - (intOf i).toNat)
            case atStart => exact ⟨0, Nat.zero_le _, rfl, fun j hj => absurd hj (Nat.not_lt_zero _)⟩
            case round =>
              obtain ⟨q, hq, rfl, HQ⟩ := hrel
              by_cases hlq : q < ln
              · obtain ⟨ub, uoff, rfl, hub, hcu⟩ := HI4.out.num (i := q) (by rw [← HLN.out]; exact hlq)
                have hgn := HGN.out q
                have hrk := HRk.out q hlq
                generalize (g.next.getD k []).getD q 0 = y at *
                by_cases hy0 : y < 0
                · have HG : Hid (gc = 9) := hrk (by rw [hgn]; omega)
                  clear hgn hrk
                  go_wp2_with fail
                  go_ret
                  rw [HG.out]
                  exact ⟨rfl, hbw4⟩
                · by_cases hy1 : (sn : Int) ≤ y
                  · have HG : Hid (gc = 9) := hrk (by rw [hgn]; omega)
                    clear hgn hrk
                    go_wp2_with fail
                    go_ret
                    rw [HG.out]
                    exact ⟨rfl, hbw4⟩
                  · have HQ' : Hid (∀ j, j < q + 1 → GNext g k j) := fun j hj => by
                      by_cases hjk : j < q
                      · exact HQ.out j hjk
                      · obtain rfl : j = q := by omega
                        exact hgn.2 ⟨by omega, by omega⟩
                    clear hgn hrk HQ
                    go_wp2_with fail
                    go_round
                    case rel => exact ⟨q + 1, hlq, by go_num, HQ'⟩
                    case measure => simp [intOf]; omega
              · obtain rfl : q = ln := by omega
                have HN' : Hid (∀ j, j < k + 1 → GRow g j) := HAdd.out HQ.out
                clear HQ
                go_wp2_with fail
                go_roundw
                case rel => exact ⟨k + 1, hlt, by go_num, HN', HB4⟩
                case measure => simp [intOf]; omega
      · obtain rfl : k = sn := by omega
        have HW : Hid (gc = 0) := HOk.out HRs.out
        go_wp2_with fail
        go_ret
        rw [HW.out]
        exact ⟨rfl, hbw⟩
end Go.Proofs.YtafbnmiipfkohaaGreatDoor

/-
  The contract of the closure that meets places (scc.look's meet).
-/
namespace Go.Proofs.YtafbnmiipfkohaaGreatDoor
open Go.ChangeShapes Go.WideShapes Go.ChangeAt Go.RowKit Go.Deep Go.Maps
open Terms

set_option maxRecDepth 20000 in
theorem keyIntG : Keyed Tryz.prog 3 := int_keyed Tryz.underlying3
set_option maxRecDepth 20000 in
theorem keyG (x : Nat) (h : x ≤ 20000) : keyOf Tryz.prog 3 (.int .i64 (x : Int)) = some (.int .i64 (x : Int)) := keyOf_int_mk Tryz.underlying3 (WalkArith.wf_i64 (by omega))
set_option maxRecDepth 20000 in
theorem zeroIntG (w : World) : (zeroValue 3).run Tryz.prog w = .ok (.int .i64 0) w := by kernel_rfl
/-- the map of where each place came from. -/
def CameD (D : DataW Unit) (L : Met) : Prop := ∀ x : Nat, Maps.has D (.int .i64 (x : Int)) = decide (x ∈ keys L) ∧ (x ∈ keys L → D.atKey (.int .i64 (x : Int)) (.lit (.int .i64 0)) = .lit (.int .i64 (fromOf L x)))
def CameIs (w : World) (b : Nat) (L : Met) : Prop := ∃ D : DataW Unit, w.ownsMap Tryz.prog 3 (plainElem Tryz.prog 3) b L.length D ∧ CameD D L
set_option maxRecDepth 20000 in
theorem CameD.put {D : DataW Unit} {L : Met} {p : Nat} {f : Int} (h : CameD D L) (hD : IsMap D) (hp : ¬ p ∈ keys L) : CameD (D.put (.int .i64 (p : Int)) (.lit (.int .i64 f))) (L ++ [(p, f)]) := by
  intro x
  by_cases hxp : x = p
  · subst hxp
    rw [has_put_same hD (by simp [WideAt.IsKeyLit]), atKey_put_same hD (by simp [WideAt.IsKeyLit]), fromOf_new hp, keys_snoc]
    simp
  · have hne : (Lit.int .i64 (x : Int)) ≠ .int .i64 (p : Int) := by simp; omega
    rw [has_put_other hne, atKey_put_other hne, (h x).1, keys_snoc]
    refine ⟨by simp [hxp], fun hx => ?_⟩
    have hx' : x ∈ keys L := by simpa [hxp] using hx
    rw [(h x).2 hx', fromOf_old hx']
set_option maxRecDepth 20000 in
theorem CameIs.kept {w w' : World} {b : Nat} {L : Met} {row : Option Nat} (h : CameIs w b L) (hg : w.grownBy w' row) (hne : some b ≠ row) : CameIs w' b L := by
  obtain ⟨D, h1, h2⟩ := h
  exact ⟨D, h1.kept hg hne, h2⟩
set_option maxRecDepth 20000 in
theorem grown_below {w w' : World} (hb : Below w.heap.size w w') : w.grownBy w' none := ⟨hb.os, hb.tape, hb.output, hb.size, fun i hi _ => hb.block i hi⟩
def nvals (l : List Nat) : List Value := l.map fun x : Nat => .int .i64 (x : Int)
/-- HOW THINGS LIE WHILE ONE LOOKS: the graph's box, the function's box, the map, its box, the box of the line. -/
structure LookSt (w0 w : World) (s : Nat) (nv F : Value) (L : Met) (v : Value) : Prop where
  below : Below s w0 w
  size : s + 5 ≤ w.heap.size
  gn : w.cell? ⟨s, 2, none⟩ = some nv
  fi : w.cell? ⟨s + 1, 0, none⟩ = some F
  cm : w.cell? ⟨s + 3, 0, none⟩ = some (.map (some (s + 2)))
  mp : CameIs w (s + 2) L
  ln : w.cell? ⟨s + 4, 0, none⟩ = some v
  fz : w.frozen? ⟨s + 4, 0, none⟩ = false
  ow : w.ownsRow (s + 5) 3 1 v L.length (nvals (keys L))
set_option maxRecDepth 20000 in
theorem LookSt.later {w0 w w' : World} {s : Nat} {nv F : Value} {L : Met} {v : Value} (h : LookSt w0 w s nv F L v) (hb : Below w.heap.size w w') : LookSt w0 w' s nv F L v := by
  have hs := h.size
  exact ⟨h.below.trans (hb.mono (by omega)), Nat.le_trans hs hb.size, (hb.cell (p := ⟨s, 2, none⟩) (by show s < _; omega)).trans h.gn, (hb.cell (p := ⟨s + 1, 0, none⟩) (by show s + 1 < _; omega)).trans h.fi, (hb.cell (p := ⟨s + 3, 0, none⟩) (by show s + 3 < _; omega)).trans h.cm, h.mp.kept (grown_below hb) (by simp), (hb.cell (p := ⟨s + 4, 0, none⟩) (by show s + 4 < _; omega)).trans h.ln, (hb.frozen (p := ⟨s + 4, 0, none⟩) (by show s + 4 < _; omega)).trans h.fz, owns_later h.ow hb (Nat.le_refl _)⟩
set_option maxRecDepth 20000 in
/-- a place is met. -/
theorem LookSt.put {w0 w w1 w2 : World} {s : Nat} {nv F : Value} {L : Met} {v v' : Value} {D : DataW Unit} {p : Nat} {f : Int} {o : Obj} (h : LookSt w0 w s nv F L v) (hp : ¬ p ∈ keys L) (hD : CameD D L) (hI : IsMap D)
    (hm : w1.ownsMap Tryz.prog 3 (plainElem Tryz.prog 3) (s + 2) (L.length + 1) (D.put (.int .i64 (p : Int)) (.lit (.int .i64 f)))) (hg1 : w.grownBy w1 (some (s + 2))) (hg2 : (w1.alloc o).grownBy w2 v.ownBlock) (ho : w2.ownsRow (s + 5) 3 1 v' (L.length + 1) (nvals (keys L) ++ [.int .i64 (p : Int)])) :
    LookSt w0 (w2.setCell ⟨s + 4, 0, none⟩ v') s nv F (L ++ [(p, f)]) v' := by
  have hs := h.size
  have hs1 := hg1.size
  have hlt := h.ow.lt
  have hblk : ∀ i, i < s + 5 → i ≠ s + 2 → w2.heap[i]? = w.heap[i]? := fun i hi hne => by
    have e1 : w2.heap[i]? = (w1.alloc o).heap[i]? := hg2.block i (by simp; omega) (fun e => by have := (hlt i e.symm).1; omega)
    have e2 : (w1.alloc o).heap[i]? = w1.heap[i]? := ((Below.refl w1.heap.size w1).alloc (Nat.le_refl _) o).block i (by omega)
    exact e1.trans (e2.trans (hg1.block i (by omega) (fun e => hne (Option.some.inj e))))
  have hsz2 : s + 5 ≤ w2.heap.size := by have := hg2.size; simp at this; omega
  have hc : ∀ i j, i < s + 5 → i ≠ s + 2 → w2.cell? ⟨i, j, none⟩ = w.cell? ⟨i, j, none⟩ := fun i j hi hne => World.cell?_of_block (a := ⟨i, j, none⟩) (hblk i hi hne)
  have hfar : ∀ i j, i ≠ s + 4 → (w2.setCell ⟨s + 4, 0, none⟩ v').cell? ⟨i, j, none⟩ = w2.cell? ⟨i, j, none⟩ := fun i j hne => World.cell?_setCell_far _ _ _ _ (fun e => hne e.symm)
  have hm2 : w2.ownsMap Tryz.prog 3 (plainElem Tryz.prog 3) (s + 2) (L.length + 1) (D.put (.int .i64 (p : Int)) (.lit (.int .i64 f))) := by
    have := hm.kept (grown_below ((Below.refl w1.heap.size w1).alloc (Nat.le_refl _) o)) (by simp)
    exact this.kept hg2 (fun e => by have := (hlt (s + 2) e.symm).1; omega)
  refine ⟨?_, by simpa using hsz2, (hfar s 2 (by omega)).trans ((hc s 2 (by omega) (by omega)).trans h.gn), (hfar (s + 1) 0 (by omega)).trans ((hc (s + 1) 0 (by omega) (by omega)).trans h.fi), (hfar (s + 3) 0 (by omega)).trans ((hc (s + 3) 0 (by omega) (by omega)).trans h.cm), ⟨_, ?_, hD.put hI hp⟩, ?_, ?_, ?_⟩
  · refine Below.setCell ?_ (by show s ≤ s + 4; omega) _
    exact h.below.trans ⟨hg2.os.trans ((show (w1.alloc o).os = w1.os from rfl).trans hg1.os), hg2.tape.trans ((show (w1.alloc o).tape = w1.tape from rfl).trans hg1.tape), hg2.output.trans ((show (w1.alloc o).output = w1.output from rfl).trans hg1.output), by have := hg2.size; simp at this; omega, fun i hi => hblk i (by omega) (by omega)⟩
  · rw [List.length_append]; exact hm2.setCell (by simp) _
  · exact World.cell?_setCell_same _ _ _ (u := v) ((hc (s + 4) 0 (by omega) (by omega)).trans h.ln)
  · rw [World.frozen?_setCell]
    exact (World.frozen?_of_block (a := ⟨s + 4, 0, none⟩) (hblk (s + 4) (by omega) (by omega))).trans h.fz
  · rw [List.length_append, keys_snoc, nvals, List.map_append]
    exact owns_lowG ho (by show s + 4 < _; omega) _
/-- a function of places, handed in. -/
def FnB (w0 : World) (s n : Nat) (F : Value) (ins : Nat → Bool) : Prop := ∃ fn caps, F = .func (.func fn) #[] caps ∧ (∀ args w, (callFunc fn args).run Tryz.prog w = .ok (.enter fn args) w) ∧ ∀ w', Below s w0 w' → ∀ p : Nat, p < n → Calls Tryz.prog fn (#[.int .i64 (p : Int)] ++ caps) w' fun e w2 => e = .returned (.bool (ins p)) ∧ Below w'.heap.size w' w2

def NatsV (w : World) (v : Value) (l : List Nat) : Prop := ∃ ao cap, v = .slice ao l.length cap ∧ (l ≠ [] → ∃ b off, ao = some ⟨b, off, none⟩ ∧ b < w.heap.size ∧ ∀ i, i < l.length → w.cell? ⟨b, off + i, none⟩ = some (.int .i64 (l.getD i 0 : Int)))
set_option maxRecDepth 20000 in
theorem NatsV.below {w w' : World} {v : Value} {l : List Nat} (h : NatsV w v l) (hb : Below w.heap.size w w') : NatsV w' v l := by
  obtain ⟨ao, cap, rfl, h⟩ := h
  refine ⟨ao, cap, rfl, fun hne => ?_⟩
  obtain ⟨b, off, rfl, hlt, hat⟩ := h hne
  exact ⟨b, off, rfl, Nat.lt_of_lt_of_le hlt hb.size, fun i hi => (hb.cell (p := ⟨b, _, none⟩) hlt).trans (hat i hi)⟩
set_option maxRecDepth 20000 in
theorem NatsV.num {w : World} {bo : Option Addr} {bn bc : Nat} {l : List Nat} (h : NatsV w (.slice bo bn bc) l) {i : Nat} (hi : i < l.length) : ∃ b off, bo = some ⟨b, off, none⟩ ∧ b < w.heap.size ∧ w.cell? ⟨b, off + i, none⟩ = some (.int .i64 (l.getD i 0 : Int)) := by
  obtain ⟨ao, cap, hv, h⟩ := h
  injection hv with e1 e2 e3
  subst e1
  obtain ⟨b, off, e, hlt, hat⟩ := h (by rintro rfl; simp at hi)
  exact ⟨b, off, e, hlt, hat i hi⟩

set_option maxHeartbeats 3200000 in
set_option maxRecDepth 20000 in
/-- THE CONTRACT OF meet. -/
theorem meet_any (po : Option Addr) (pc : Nat) (ps : List Nat) (f : Int) (w0 w : World) (n : Nat) (nv : Value) (fn : FuncId) (caps : Array Value) (ins : Nat → Bool) (L : Met) (v : Value) (hn : n ≤ 20000) (hps : ∀ x ∈ ps, x < n) (hf : -1 ≤ f ∧ f ≤ 20000) (hpl : ps.length ≤ 140737488355328)
    (hP : NatsV w0 (.slice po ps.length pc) ps) (hF : FnB w0 w0.heap.size n (.func (.func fn) #[] caps) ins) (hL : ∀ k, k ≤ ps.length → (meetTo ins f L ps k).length ≤ n) (hS : LookSt w0 w w0.heap.size nv (.func (.func fn) #[] caps) L v) :
    Calls Tryz.prog 55 #[.slice po ps.length pc, .int .i64 f, .pointer (some ⟨w0.heap.size + 3, 0, none⟩), .pointer (some ⟨w0.heap.size + 1, 0, none⟩), .pointer (some ⟨w0.heap.size + 4, 0, none⟩)] w fun e w' => e = .returned (.tuple #[]) ∧ ∃ v', LookSt w0 w' w0.heap.size nv (.func (.func fn) #[] caps) (meetTo ins f L ps ps.length) v' := by
  obtain ⟨f', caps', e1, hen, hfn⟩ := hF
  injection e1 with e1 e2 e3
  injection e1 with e1
  subst e1 e3
  clear e2
  obtain ⟨m, hm⟩ : ∃ m, m = ps.length := ⟨_, rfl⟩
  have HM : Hid (m = ps.length) := hm
  have HP : Hid (NatsV w0 (.slice po m pc) ps) := by rw [hm]; exact hP
  have HFn : Hid (∀ w', Below w0.heap.size w0 w' → ∀ p : Nat, p < n → Calls Tryz.prog fn (#[.int .i64 (p : Int)] ++ caps) w' fun e w2 => e = .returned (.bool (ins p)) ∧ Below w'.heap.size w' w2) := hfn
  have HL : Hid (∀ k, k ≤ m → (meetTo ins f L ps k).length ≤ n) := by rw [hm]; exact hL
  have HPs : Hid (∀ k, k < m → ps.getD k 0 < n) := fun k hk => hps _ (by rw [List.getD_eq_getElem?_getD, List.getElem?_eq_getElem (by omega)]; exact List.getElem_mem _)
  have HSu : Hid (∀ k, k < m → meetTo ins f L ps (k + 1) = meetStep ins f (meetTo ins f L ps k) (ps.getD k 0)) := fun k hk => meetTo_succ (by omega)
  have HS0 : Hid (LookSt w0 w w0.heap.size nv (.func (.func fn) #[] caps) (meetTo ins f L ps 0) v) := hS
  rw [← hm] at hpl ⊢
  clear hm hP hfn hL hps hS
  generalize meetTo ins f L ps = MT at *
  obtain ⟨i0, hi, hz0, hz1, hz2⟩ := info_parts infoInt
  go_enter Tryz.func55, Tryz.ntmps55
  go_wp2_with fail
  go_loopw [13] (fun i wr => ∃ k : Nat, k ≤ m ∧ i = .int .i64 k ∧ Hid (∃ v', LookSt w0 wr w0.heap.size nv (.func (.func fn) #[] caps) (MT k) v')) (fun i _ => m - (intOf i).toNat)
  case atStart => exact ⟨0, Nat.zero_le _, rfl, v, HS0.out⟩
  case round =>
    obtain ⟨k, hk, rfl, HSt⟩ := hrel
    obtain ⟨v1, hst⟩ := HSt.out
    by_cases hlt : k < m
    · obtain ⟨pb, poff, rfl, hpb, hcp0⟩ := HP.out.num (i := k) (by rw [← HM.out]; exact hlt)
      have hcp := (hst.below.cell (p := ⟨pb, poff + k, none⟩) hpb).trans hcp0
      have hpn := HPs.out k hlt
      have hll := HL.out k hk
      have hsu := HSu.out k hlt
      generalize ps.getD k 0 = p at *
      obtain ⟨D, hown, hcd⟩ := hst.mp
      have hk1 := keyG p (by omega)
      have hhas := (hcd p).1
      have hcm := hst.cm
      have hfi := hst.fi
      by_cases hin : p ∈ keys (MT k)
      · have HE : Hid (MT (k + 1) = MT k) := hsu.trans (meetStep_no (.inl hin))
        rw [decide_eq_true hin] at hhas
        clear hcp0 hcd hsu hin
        go_wp2_with (at_lookup; refine wpList_lookup_own_ok_int _ rfl _ _ 85 rfl 3 3 .i64 keyIntG Tryz.underlying85 Tryz.underlying3 (zeroIntG _) (w0.heap.size + 2) _ D rfl hown _ _ rfl hk1 ?_; intro c hat hwc; rw [hhas]; clear hat hwc)
        go_roundw
        case rel => exact ⟨k + 1, hlt, by go_num, by rw [HE.out]; exact HSt⟩
        case measure => simp [intOf]; omega
      · rw [decide_eq_false hin] at hhas
        have hca := HFn.out wr hst.below p hpn
        cases hip : ins p with
        | false =>
          rw [hip] at hca
          have HE : Hid (MT (k + 1) = MT k) := hsu.trans (meetStep_no (.inr hip))
          have HLa : Hid (∀ w4, Below wr.heap.size wr w4 → LookSt w0 w4 w0.heap.size nv (.func (.func fn) #[] caps) (MT k) v1) := fun w4 hb => hst.later hb
          clear hcp0 hcd hsu hin hip hst HSt
          go_wp2_with (first | (at_lookup; refine wpList_lookup_own_ok_int _ rfl _ _ 85 rfl 3 3 .i64 keyIntG Tryz.underlying85 Tryz.underlying3 (zeroIntG _) (w0.heap.size + 2) _ D rfl hown _ _ rfl hk1 ?_; intro c hat hwc; rw [hhas]; clear hat hwc) | (refine hca.mono ?_; rintro e w4 ⟨rfl, hb4⟩))
          go_roundw
          case rel => exact ⟨k + 1, hlt, by go_num, v1, by rw [HE.out]; exact HLa.out w4 hb4⟩
          case measure => simp [intOf]; omega
        | true =>
          rw [hip] at hca
          have HE : Hid (MT (k + 1) = MT k ++ [(p, f)]) := hsu.trans (meetStep_yes hin hip)
          have HLa : Hid (∀ w4, Below wr.heap.size wr w4 → LookSt w0 w4 w0.heap.size nv (.func (.func fn) #[] caps) (MT k) v1) := fun w4 hb => hst.later hb
          have HCd : Hid (CameD D (MT k)) := hcd
          have HPut : Hid (∀ (w4 w5 w6 : World) (v' : Value) (o : Obj), Below wr.heap.size wr w4 → w5.ownsMap Tryz.prog 3 (plainElem Tryz.prog 3) (w0.heap.size + 2) ((MT k).length + 1) (D.put (.int .i64 (p : Int)) (.lit (.int .i64 f))) → w4.grownBy w5 (some (w0.heap.size + 2)) → (w5.alloc o).grownBy w6 v1.ownBlock → w6.ownsRow (w0.heap.size + 5) 3 1 v' ((MT k).length + 1) (nvals (keys (MT k)) ++ [.int .i64 (p : Int)]) → LookSt w0 (w6.setCell ⟨w0.heap.size + 4, 0, none⟩ v') w0.heap.size nv (.func (.func fn) #[] caps) (MT k ++ [(p, f)]) v') := fun w4 w5 w6 v' o hb h1 h2 h3 h4 => (hst.later hb).put hin hcd hown.isMap h1 h2 h3 h4
          have hkm : (MT k).length < maxLen := by unfold maxLen; omega
          have h63 : (MT k).length + 1 ≤ maxLen := by unfold maxLen; omega
          have hkb : ((MT k).length + 1) * 8 ≤ 140737488355328 := by omega
          have hwf : (Lit.int .i64 f).wf = true := WalkArith.wf_i64 (by omega)
          obtain ⟨lo, lc, rfl⟩ := owns_slice hst.ow
          have hst' := (show Hid _ from hst)
          have hszr := hst.size
          obtain ⟨q, hq⟩ : ∃ q, q = (MT k).length := ⟨_, rfl⟩
          have HQ : Hid (q = (MT k).length) := hq
          rw [← hq] at hkm h63 hkb hll hown HPut HLa hst'
          clear hcp0 hcd hsu hin hip hst HSt hq
          go_wp2_with (first
            | (at_lookup; refine wpList_lookup_own_ok_int _ rfl _ _ 85 rfl 3 3 .i64 keyIntG Tryz.underlying85 Tryz.underlying3 (zeroIntG _) (w0.heap.size + 2) _ D rfl hown _ _ rfl hk1 ?_; intro c hat hwc; rw [hhas]; clear hat hwc)
            | (refine hca.mono ?_; rintro e w4 ⟨rfl, hb4⟩; have hst4 := HLa.out w4 hb4; have hcm4 := hst4.cm; have hln4 := hst4.ln; have hfz4 := hst4.fz; have hsz4 := hst4.size; have hlt4 := hst4.ow.lt; have how4 := hst4.ow; rw [← HQ.out] at how4; have hown4 := hown.kept (grown_below hb4) (by simp); clear hst4 hca)
            | (at_mapUpdate; refine wpList_mapUpdate_own _ rfl _ _ _ 85 rfl 3 3 keyIntG Tryz.underlying85 _ (w0.heap.size + 2) q D rfl hown4 hkm _ _ _ rfl rfl hk1 _ [] (plainElem_int Tryz.underlying3 hwf) ?_; intro w5 hown5 hg5; have hln5 : w5.cell? ⟨w0.heap.size + 4, 0, none⟩ = some (.slice lo q lc) := ((World.cell?_of_block (a := ⟨w0.heap.size + 4, 0, none⟩) (hg5.block (w0.heap.size + 4) (by omega) (by simp))).trans hln4); have hfz5 : w5.frozen? ⟨w0.heap.size + 4, 0, none⟩ = false := ((World.frozen?_of_block (a := ⟨w0.heap.size + 4, 0, none⟩) (hg5.block (w0.heap.size + 4) (by omega) (by simp))).trans hfz4); have how5 := how4.kept hg5 (.inr (fun e => by have := (hlt4 (w0.heap.size + 2) e).1; omega)); have how5' := fun o => how5.alloc o; have hsz5 := hg5.size; have hbase : ∀ o, w0.heap.size + 5 ≤ (w5.alloc o).heap.size := (fun o => by simp; omega))
            | (at_builtin; refine wpList_append_own _ rfl (.tmp 33) (.tmp 35) 40 rfl (w0.heap.size + 5) 3 i0 (.int .i64 0) 1 8 Tryz.underlying40 hi hz0 hz1 hz2 rfl (by decide) (.slice lo q lc) q _ rfl (how5' _) ⟨w5.heap.size, 0, none⟩ 1 1 [.int .i64 p] rfl rfl (cell_one_new _ _ _) (by intro u hu; simp at hu; subst hu; rfl) h63 hkb (hbase _) ?_; intro v' w6 hown6 hg6 _; obtain ⟨lo', lc', rfl⟩ := owns_slice hown6; have hblk6 : w6.heap[w0.heap.size + 4]? = w5.heap[w0.heap.size + 4]? := ((hg6.block (w0.heap.size + 4) (by simp; omega) (fun e => by have := (hlt4 (w0.heap.size + 4) e.symm).1; omega)).trans (((Below.refl w5.heap.size w5).alloc (Nat.le_refl _) _).block _ (by omega))); have hln6 : w6.cell? ⟨w0.heap.size + 4, 0, none⟩ = some (.slice lo q lc) := ((World.cell?_of_block (a := ⟨w0.heap.size + 4, 0, none⟩) hblk6).trans hln5); have hfz6 : w6.frozen? ⟨w0.heap.size + 4, 0, none⟩ = false := ((World.frozen?_of_block (a := ⟨w0.heap.size + 4, 0, none⟩) hblk6).trans hfz5)))
          have HN := (show Hid _ from HPut.out w4 w5 w6 (.slice lo' (q + 1) lc') _ hb4 hown5 hg5 hg6 hown6)
          go_roundw
          case rel => exact ⟨k + 1, hlt, by go_num, _, by rw [HE.out]; exact HN.out⟩
          case measure => simp [intOf]; omega
    · obtain rfl : k = m := by omega
      go_wp2_with fail
      go_end0
      exact ⟨rfl, HSt.out⟩
end Go.Proofs.YtafbnmiipfkohaaGreatDoor

/-
  Rows of a graph as places.
-/
namespace Go.Proofs.YtafbnmiipfkohaaGreatDoor
open Go.ChangeShapes Go.WideShapes Go.ChangeAt Go.RowKit Go.Deep
open Terms

set_option maxRecDepth 20000 in
theorem natsV_of_ints {w : World} {v : Value} {l : List Int} (h : IntsV w v l) (h0 : ∀ i, i < l.length → 0 ≤ l.getD i 0) : NatsV w v (l.map Int.toNat) := by
  obtain ⟨ao, cap, rfl, h⟩ := h
  refine ⟨ao, cap, by simp, fun hne => ?_⟩
  obtain ⟨b, off, rfl, hlt, hat⟩ := h (by rintro rfl; simp at hne)
  refine ⟨b, off, rfl, hlt, fun i hi => ?_⟩
  have hi' : i < l.length := by simpa using hi
  have h1 := h0 i hi'
  rw [hat i hi']
  have : ((l.map Int.toNat).getD i 0 : Int) = l.getD i 0 := by
    simp only [List.getD_eq_getElem?_getD, List.getElem?_map, List.getElem?_eq_getElem hi', Option.map_some, Option.getD_some] at h1 ⊢
    omega
  rw [this]
set_option maxRecDepth 20000 in
theorem row_nats {w : World} {g : Gr} (h : GOk g) {uo : Option Addr} {uc i : Nat} (hi : i < g.spots.length) (hu : IntsV w (.slice uo (g.next.getD i []).length uc) (g.next.getD i [])) : NatsV w (.slice uo (nxt g i).length uc) (nxt g i) := by
  rw [nxt_length]
  exact natsV_of_ints hu fun k hk => ((h.row i hi).2 k hk).1
set_option maxRecDepth 20000 in
theorem row_laterG {w w' : World} {b t n : Nat} {f : Nat → Value} (h : w.rowIs b t n f) (hb : Below w.heap.size w w') : w'.rowIs b t n f := h.of_block (hb.block b h.lt)
end Go.Proofs.YtafbnmiipfkohaaGreatDoor

/-
  The contract of scc.look.
-/
namespace Go.Proofs.YtafbnmiipfkohaaGreatDoor
open Go.ChangeShapes Go.WideShapes Go.ChangeAt Go.RowKit Go.Deep Go.Maps
open Terms

/-- what a look tells. -/
def LookPost (g : Gr) (ins want : Nat → Bool) (bs : List Nat) (L : Met) (r : Int) : Prop := LOk g.spots.length ins (nxt g) bs L ∧ ((r = -1 ∧ Through ins want (nxt g) bs L L.length) ∨ ∃ i, i < L.length ∧ r = ((L.getD i (0, 0)).1 : Int) ∧ want (L.getD i (0, 0)).1 = true)
set_option maxRecDepth 20000 in
theorem nvals_at (L : Met) {i : Nat} (hi : i < L.length) : (nvals (keys L))[i]? = some (.int .i64 ((L.getD i (0, 0)).1 : Int)) := by
  simp [nvals, keys, List.getD_eq_getElem?_getD, hi]

set_option maxHeartbeats 3200000 in
set_option maxRecDepth 20000 in
/-- THE CONTRACT OF look. -/
theorem lookG_any (so no bo po : Option Addr) (sc nc bc pc : Nat) (g : Gr) (bs : List Nat) (fi fw : FuncId) (ci cw : Array Value) (ins want : Nat → Bool) (w : World) (hg : GOk g) (hzn : ∀ i, i < g.spots.length → (g.next.getD i []).length ≤ 140737488355328)
    (hV : GraphV w (.slice so g.spots.length sc) (.slice no g.next.length nc) (.slice bo g.sets.length bc) g) (hP : NatsV w (.slice po bs.length pc) bs) (hbl : bs.length ≤ 140737488355328) (hbs : ∀ x ∈ bs, x < g.spots.length)
    (hI : FnB w w.heap.size g.spots.length (.func (.func fi) #[] ci) ins) (hW : FnB w w.heap.size g.spots.length (.func (.func fw) #[] cw) want) :
    Calls Tryz.prog 30 #[.agg #[.slice so g.spots.length sc, .int .i64 g.init, .slice no g.next.length nc, .slice bo g.sets.length bc, .int .i64 g.many], .slice po bs.length pc, .func (.func fi) #[] ci, .func (.func fw) #[] cw] w fun e w' => ∃ L r, e = .returned (.tuple #[.int .i64 r, .map (some (w.heap.size + 2))]) ∧ Below w.heap.size w w' ∧ Hid (CameIs w' (w.heap.size + 2) L ∧ LookPost g ins want bs L r) := by
  have hn := hg.head.n
  have hnl := hg.head.next
  have HMeet : Hid (∀ (po : Option Addr) (pc : Nat) (ps : List Nat) (f : Int) (w1 : World) (L : Met) (v : Value), (∀ x ∈ ps, x < g.spots.length) → -1 ≤ f ∧ f ≤ 20000 → ps.length ≤ 140737488355328 → NatsV w (.slice po ps.length pc) ps → LOk g.spots.length ins (nxt g) bs L → ((f = -1 ∧ ∀ x ∈ ps, x ∈ bs) ∨ ∃ j, j < L.length ∧ f = ((L.getD j (0, 0)).1 : Int) ∧ ∀ x ∈ ps, x ∈ nxt g (L.getD j (0, 0)).1) → LookSt w w1 w.heap.size (.slice no g.next.length nc) (.func (.func fi) #[] ci) L v →
      Calls Tryz.prog 55 #[.slice po ps.length pc, .int .i64 f, .pointer (some ⟨w.heap.size + 3, 0, none⟩), .pointer (some ⟨w.heap.size + 1, 0, none⟩), .pointer (some ⟨w.heap.size + 4, 0, none⟩)] w1 fun e w' => e = .returned (.tuple #[]) ∧ ∃ v', LookSt w w' w.heap.size (.slice no g.next.length nc) (.func (.func fi) #[] ci) (meetTo ins f L ps ps.length) v' ∧ LOk g.spots.length ins (nxt g) bs (meetTo ins f L ps ps.length)) := fun po pc ps f w1 L v h1 h2 h3 h4 h5 h6 h7 =>
    (meet_any po pc ps f w w1 g.spots.length _ fi ci ins L v hn h1 h2 h3 h4 hI (fun k hk => (meetTo_ok h5 h1 h6 k hk).length) h7).mono fun e w' ⟨e1, v', e2⟩ => ⟨e1, v', e2, meetTo_ok h5 h1 h6 _ (Nat.le_refl _)⟩
  have HV : Hid (GraphV w (.slice so g.spots.length sc) (.slice no g.next.length nc) (.slice bo g.sets.length bc) g) := hV
  have HRow : Hid (∀ p, p < g.spots.length → ∃ b off, no = some ⟨b, off, none⟩ ∧ b < w.heap.size ∧ ∃ uo uc, w.cell? ⟨b, off + p, none⟩ = some (.slice uo (nxt g p).length uc) ∧ NatsV w (.slice uo (nxt g p).length uc) (nxt g p) ∧ (nxt g p).length ≤ 140737488355328 ∧ ∀ x ∈ nxt g p, x < g.spots.length) := fun p hp => by
    obtain ⟨b, off, e, hb, uo, uc, h1, h2⟩ := hV.next.row (i := p) (by rw [hnl]; exact hp)
    have h3 := hzn p hp
    refine ⟨b, off, e, hb, uo, uc, by rw [nxt_length]; exact h1, row_nats hg hp h2, by rw [nxt_length]; exact h3, fun x hx => nxt_lt hg hp hx⟩
  have HBs : Hid (∀ x ∈ bs, x < g.spots.length) := hbs
  have HP : Hid (NatsV w (.slice po bs.length pc) bs) := hP
  obtain ⟨fw', cw', e1, hen, hwn⟩ := hW
  injection e1 with e1 e2 e3
  injection e1 with e1
  subst e1 e3
  clear e2
  have HWn : Hid (∀ w', Below w.heap.size w w' → ∀ p : Nat, p < g.spots.length → Calls Tryz.prog fw (#[.int .i64 (p : Int)] ++ cw) w' fun e w2 => e = .returned (.bool (want p)) ∧ Below w'.heap.size w' w2) := hwn
  have HPost : Hid (∀ L r, LOk g.spots.length ins (nxt g) bs L → ((r = -1 ∧ Through ins want (nxt g) bs L L.length) ∨ ∃ i, i < L.length ∧ r = ((L.getD i (0, 0)).1 : Int) ∧ want (L.getD i (0, 0)).1 = true) → LookPost g ins want bs L r) := fun L r h1 h2 => ⟨h1, h2⟩
  have HTh0 : Hid (∀ f, Through ins want (nxt g) bs (meetTo ins f [] bs bs.length) 0) := fun f => ⟨fun x hx hy => by
      obtain ⟨k, hk, rfl⟩ := List.getElem_of_mem hx
      have := meetTo_has (ins := ins) (f := f) (L := []) (Nat.le_refl bs.length) k hk
      rw [List.getD_eq_getElem?_getD, List.getElem?_eq_getElem hk] at this
      exact this hy, fun j hj => by omega, fun j hj => by omega⟩
  generalize LookPost g ins want bs = LP at *
  generalize nxt g = nx at *
  rw [hnl] at HMeet ⊢
  generalize g.sets.length = bn at *
  generalize g.spots.length = n at *
  generalize g.init = gi at *
  generalize g.many = gm at *
  clear hV hg hzn hnl hbs hP hI hwn HV
  have HS1 : Hid (LookSt w (((((w.alloc (.cells #[.slice so n sc, .int .i64 gi, .slice no n nc, .slice bo bn bc, .int .i64 gm] 53)).alloc (.cells #[.func (.func fi) #[] ci] 89)).alloc (.map #[] 0)).alloc (.cells #[.map (some (w.heap.size + 1 + 1))] 85)).alloc (.cells #[.slice none 0 0] 40)) w.heap.size (.slice no n nc) (.func (.func fi) #[] ci) [] (.slice none 0 0)) := by
    refine ⟨?_, by simp, by simp [go_sem], by simp [go_sem], by simp [go_sem], ?_, by simp [go_sem], by simp [go_sem], World.ownsRow_nil _ _ _ _⟩
    · exact (((((Below.refl _ _).alloc (Nat.le_refl _) _).alloc (by simp) _).alloc (by simp; omega) _).alloc (by simp; omega) _).alloc (by simp; omega) _
    · have h0 := World.ownsMap_made ((w.alloc (.cells #[.slice so n sc, .int .i64 gi, .slice no n nc, .slice bo bn bc, .int .i64 gm] 53)).alloc (.cells #[.func (.func fi) #[] ci] 89)) Tryz.prog 3 (plainElem (H := Unit) Tryz.prog 3)
      have h1 := (h0.kept (grown_below ((Below.refl _ _).alloc (Nat.le_refl _) (.cells #[.map (some (w.heap.size + 1 + 1))] 85))) (by simp)).kept (grown_below ((Below.refl _ _).alloc (Nat.le_refl _) (.cells #[.slice none 0 0] 40))) (by simp)
      exact ⟨_, by simpa using h1, fun x => ⟨by simp [Maps.has, keys], fun h => by simp [keys] at h⟩⟩
  have hme := HMeet.out po pc bs (-1) _ [] _ HBs.out (by omega) hbl HP.out (LOk.nil _ _ _ _) (.inl ⟨rfl, fun x hx => hx⟩) HS1.out
  have hmm := @run_makeMap Tryz.prog
  have hmf : ∀ (fn : Fn) (first cap : Array Value) (w : World), (Instr.makeFunc fn first cap).run Tryz.prog w = .ok (.func fn first cap) w := fun _ _ _ _ => rfl
  go_enter Tryz.func30, Tryz.ntmps30
  go_wp2_with (go_at_call 55; refine hme.mono ?_; rintro e w1 ⟨rfl, v1, hst1, hok1⟩)
  have HTh := HTh0.out (-1)
  generalize meetTo ins (-1) [] bs bs.length = L1 at *
  have HI : Hid (∃ L v, 0 ≤ L.length ∧ LookSt w w1 w.heap.size (.slice no n nc) (.func (.func fi) #[] ci) L v ∧ LOk n ins nx bs L ∧ Through ins want nx bs L 0) := ⟨L1, v1, Nat.zero_le _, hst1, hok1, HTh⟩
  clear hst1 hok1 HTh HTh0 hme HS1 hmm hmf HP HBs
  go_loopw [13] (fun i wr => ∃ k : Nat, k ≤ n ∧ i = .int .i64 k ∧ Hid (∃ L v, k ≤ L.length ∧ LookSt w wr w.heap.size (.slice no n nc) (.func (.func fi) #[] ci) L v ∧ LOk n ins nx bs L ∧ Through ins want nx bs L k)) (fun i _ => n - (intOf i).toNat)
  case atStart => exact ⟨0, Nat.zero_le _, rfl, HI.out⟩
  case round =>
    obtain ⟨k, hk, rfl, HK⟩ := hrel
    obtain ⟨L, v, hkL, hst, hok, hth⟩ := HK.out
    obtain ⟨lo, lc, rfl⟩ := owns_slice hst.ow
    have hln : wr.cell? ⟨w.heap.size + 1 + 1 + 1 + 1, 0, none⟩ = some (.slice lo L.length lc) := hst.ln
    have hcm : wr.cell? ⟨w.heap.size + 1 + 1 + 1, 0, none⟩ = some (.map (some (w.heap.size + 1 + 1))) := hst.cm
    have hgn := hst.gn
    have hLn := hok.length
    by_cases hlt : k < L.length
    · obtain ⟨lb, hlo⟩ : ∃ lb, lo = some ⟨lb, 0, none⟩ := by
        rcases hst.ow.2 with ⟨e, h0⟩ | ⟨lb, cap, cur, e, _⟩
        · omega
        · injection e with e1 _ _; exact ⟨lb, e1⟩
      subst hlo
      have hcl : wr.cell? ⟨lb, k, none⟩ = some (.int .i64 ((L.getD k (0, 0)).1 : Int)) := by
        rw [hst.ow.cellAt k (by omega)]
        exact nvals_at L hlt
      have hpn : (L.getD k (0, 0)).1 < n := hok.lt _ (key_at hlt)
      have hwa := HWn.out wr hst.below (L.getD k (0, 0)).1 hpn
      have HLa : Hid (∀ w4, Below wr.heap.size wr w4 → LookSt w w4 w.heap.size (.slice no n nc) (.func (.func fi) #[] ci) L (.slice (some ⟨lb, 0, none⟩) L.length lc)) := fun w4 hb => hst.later hb
      have hlbs : lb < wr.heap.size := World.block_lt_of_cell? wr _ hcl
      cases hwt : want (L.getD k (0, 0)).1 with
      | true =>
        rw [hwt] at hwa
        have HP2 : Hid (LP L ((L.getD k (0, 0)).1 : Int)) := HPost.out L _ hok (.inr ⟨k, hlt, rfl, hwt⟩)
        generalize (L.getD k (0, 0)).1 = p at *
        obtain ⟨q, hq⟩ : ∃ q, q = L.length := ⟨_, rfl⟩
        rw [← hq] at hlt hln hLn HLa
        clear hst hok hth HK hwt hq hkL
        go_wp2_with ((refine hwa.mono ?_; rintro e w4 ⟨rfl, hb4⟩; have hst4 := HLa.out w4 hb4; have hln4 : w4.cell? ⟨w.heap.size + 1 + 1 + 1 + 1, 0, none⟩ = some (.slice (some ⟨lb, 0, none⟩) q lc) := hst4.ln; have hcm4 : w4.cell? ⟨w.heap.size + 1 + 1 + 1, 0, none⟩ = some (.map (some (w.heap.size + 1 + 1))) := hst4.cm; have hcl4 := (hb4.cell (p := ⟨lb, k, none⟩) hlbs).trans hcl; have hbw4 := hst4.below; have HM4 : Hid (CameIs w4 (w.heap.size + 2) L) := hst4.mp; clear hst4))
        go_region
        go_wp2_with fail
        go_ret2
        exact ⟨L, (p : Int), rfl, by first | exact hbw4.drew | exact hbw4, HM4.out, HP2.out⟩
      | false =>
        rw [hwt] at hwa
        obtain ⟨nb, noff, rfl, hnb, uo, uc, hcu0, hnat, hnl, hnlt⟩ := HRow.out (L.getD k (0, 0)).1 hpn
        have HTh : Hid (∀ f, Through ins want nx bs (meetTo ins f L (nx (L.getD k (0, 0)).1) (nx (L.getD k (0, 0)).1).length) (k + 1)) := fun f => hth.step hlt hwt
        have HLe : Hid (∀ f, k + 1 ≤ (meetTo ins f L (nx (L.getD k (0, 0)).1) (nx (L.getD k (0, 0)).1).length).length) := fun f => Nat.le_trans hlt (meetTo_grown _ _ _ _ _).length
        have hme := fun w4 hb => HMeet.out uo uc (nx (L.getD k (0, 0)).1) ((L.getD k (0, 0)).1 : Int) w4 L _ hnlt (by omega) hnl hnat hok (.inr ⟨k, hlt, rfl, fun x hx => hx⟩) (HLa.out w4 hb)
        generalize (L.getD k (0, 0)).1 = p at *
        obtain ⟨q, hq⟩ : ∃ q, q = L.length := ⟨_, rfl⟩
        have HQ : Hid (q = L.length) := hq
        rw [← hq] at hlt hln hLn HLa
        have HME : Hid (∀ w4, Below wr.heap.size wr w4 → Calls Tryz.prog 55 #[.slice uo (nx p).length uc, .int .i64 (p : Int), .pointer (some ⟨w.heap.size + 1 + 1 + 1, 0, none⟩), .pointer (some ⟨w.heap.size + 1, 0, none⟩), .pointer (some ⟨w.heap.size + 1 + 1 + 1 + 1, 0, none⟩)] w4 fun e w' => e = .returned (.tuple #[]) ∧ ∃ v', LookSt w w' w.heap.size (.slice (some ⟨nb, noff, none⟩) n nc) (.func (.func fi) #[] ci) (meetTo ins (p : Int) L (nx p) (nx p).length) v' ∧ LOk n ins nx bs (meetTo ins (p : Int) L (nx p) (nx p).length)) := hme
        clear hst hok hth HK hwt hq hkL hme hnat hnlt HRow
        have HN := HTh.out (p : Int)
        have HN2 := HLe.out (p : Int)
        generalize meetTo ins (p : Int) L (nx p) (nx p).length = L2 at *
        generalize (nx p).length = rn at *
        have hS : ∀ w', Below wr.heap.size wr w' → w'.cell? ⟨w.heap.size, 2, none⟩ = some (.slice (some ⟨nb, noff, none⟩) n nc) ∧ w'.cell? ⟨w.heap.size + 1 + 1 + 1 + 1, 0, none⟩ = some (.slice (some ⟨lb, 0, none⟩) q lc) ∧ w'.cell? ⟨lb, k, none⟩ = some (.int .i64 (p : Int)) ∧ w'.cell? ⟨nb, noff + p, none⟩ = some (.slice uo rn uc) := fun w' hb => by
          have hst4 := HLa.out w' hb
          exact ⟨hst4.gn, hst4.ln, (hb.cell (p := ⟨lb, k, none⟩) hlbs).trans hcl, (hst4.below.cell (p := ⟨nb, noff + p, none⟩) hnb).trans hcu0⟩
        go_wp2_with ((refine hwa.mono ?_; rintro e w4 ⟨rfl, hb4⟩; obtain ⟨a1, a2, a3, a4⟩ := hS w4 hb4))
        have hm4 := HME.out w4.drew hb4.drew
        have HGo : Hid (∀ w5 v5, LookSt w w5 w.heap.size (.slice (some ⟨nb, noff, none⟩) n nc) (.func (.func fi) #[] ci) L2 v5 → LOk n ins nx bs L2 → ∃ L v, k + 1 ≤ L.length ∧ LookSt w w5 w.heap.size (.slice (some ⟨nb, noff, none⟩) n nc) (.func (.func fi) #[] ci) L v ∧ LOk n ins nx bs L ∧ Through ins want nx bs L (k + 1)) := fun w5 v5 h1 h2 => ⟨L2, v5, HN2, h1, h2, HN⟩
        clear HN HN2 HTh HLe HME HMeet HLa HWn HPost hS hwa hcl hcu0 hln hcm hgn
        have hkn : k < n := by omega
        go_region_with ((go_at_call 55; refine hm4.mono ?_; rintro e w5 ⟨rfl, v5, hst5, hok5⟩; have HK5 : Hid (∃ L v, k + 1 ≤ L.length ∧ LookSt w w5 w.heap.size (.slice (some ⟨nb, noff, none⟩) n nc) (.func (.func fi) #[] ci) L v ∧ LOk n ins nx bs L ∧ Through ins want nx bs L (k + 1)) := (HGo.out w5 v5 hst5 hok5); clear hst5 hok5))
        all_goals
          go_wp2_with fail
          go_roundw
          case rel => exact ⟨k + 1, hkn, by go_num, HK5⟩
          case measure => simp [intOf]; omega
    · obtain rfl : k = L.length := by omega
      have HF : Hid (CameIs wr (w.heap.size + 2) L ∧ LP L (-1)) := ⟨hst.mp, HPost.out L (-1) hok (.inl ⟨rfl, hth⟩)⟩
      have hbw := hst.below
      generalize L.length = q at *
      clear hst hok hth HK
      go_wp2_with fail
      go_region
      go_wp2_with fail
      go_ret2
      exact ⟨L, -1, rfl, by first | exact hbw.drew | exact hbw, HF.out⟩
end Go.Proofs.YtafbnmiipfkohaaGreatDoor
