/-
  Joined out of ExGr, VCheck, VdM, VdM2, VdM3, VdM4, VdM5, TopHolds, MoM, OrM, TopOps, OrWalk, in their order: a claim bears at most so many files.
-/
import Derived.Test.YteejnjcdfmedlaaGreatDoorLateE
import Derived.Test.YteejnjcdfmedlaaGreatDoorSccA
import Derived.Test.YteejnjcdfmedlaaGreatDoorSccC
import Derived.Test.YteejnjcdfmedlaaGreatDoorLateC
import Derived.Test.YteejnjcdfmedlaaGreatDoorLateA
import Derived.Deep.Cut
import Derived.Deep.CutBlock
import Derived.Deep.CutRange
import Derived.Deep.DeepCutAuto
namespace Go.Proofs.YteejnjcdfmedlaaGreatDoor
open Go.ChangeShapes Go.WideShapes Go.ChangeAt Go.RowKit Go.Deep Go.Maps
open Terms Tm
set_option maxHeartbeats 6400000
set_option maxRecDepth 20000
noncomputable def exGr (m : Mo) (ps : List (List (Int × Int))) (l : List (Int × Int)) (K : Nat) : Gr := ⟨xpP m ps l K, ((begL m ps l).length : Nat), xpN m ps l K, xpT m ps l K, ((aheadL l).length : Nat)⟩
section
variable {m : Mo} {ps : List (List (Int × Int))} {l : List (Int × Int)} {K : Nat}
theorem xpAt_eq (h : ExDone m ps l K) {i : Nat} (hi : i < K) : xpAt m ps l i = (xpP m ps l K).getD i (0, 0) :=
 (exS_at (begL m ps l) (xpBh m ps l) (Nat.le_of_lt hi) (h.2.2.1 i hi)).symm
theorem xpN_get {K : Nat} : ∀ {j : Nat}, j < K -> (xpN m ps l K).getD j [] = plIx (xpP m ps l j) (xpBh m ps l (xpAt m ps l j)) := by
 induction K with
 | zero => intro j h; omega
 | succ K ih =>
  intro j h; rw [xpN, List.getD_eq_getElem?_getD]
  by_cases hj : j < K
  ·rw [List.getElem?_append_left (by rw [xpN_len]; exact hj), <- List.getD_eq_getElem?_getD]
   exact ih hj
  ·obtain rfl : j = K := by omega
   rw [List.getElem?_append_right (by rw [xpN_len]; exact Nat.le_refl _), xpN_len]
   simp
theorem xpT_get {K : Nat} : ∀ {j : Nat}, j < K -> (xpT m ps l K).getD j 0 = metN l (letL m ps (xpAt m ps l j).1) (xpAt m ps l j).2 := by
 induction K with
 | zero => intro j h; omega
 | succ K ih =>
  intro j h; rw [xpT, List.getD_eq_getElem?_getD]
  by_cases hj : j < K
  ·rw [List.getElem?_append_left (by rw [xpT_len]; exact hj), <- List.getD_eq_getElem?_getD]
   exact ih hj
  ·obtain rfl : j = K := by omega
   rw [List.getElem?_append_right (by rw [xpT_len]; exact Nat.le_refl _), xpT_len]
   simp
theorem xbeg_nodup (m : Mo) (ps : List (List (Int × Int))) (l : List (Int × Int)) : (begL m ps l).Nodup := by
 have key : ∀ k, (begTo m ps l k).Nodup := fun k => by
  induction k with
  | zero => simp [begTo]
  | succ k ih =>
   rw [begTo]
   split
   ·exact ih
   ·refine List.nodup_append.2 ⟨ih, by simp, fun a ha b hb e => ?_⟩
    rw [List.mem_singleton] at hb; subst hb; subst e; obtain ⟨_, d, h2, h3, _⟩ := xbg_mem _ ha; simp only at h3
    omega
 exact key _
theorem xpN_row (h : ExDone m ps l K) {i : Nat} (hi : i < K) : ((xpN m ps l K).getD i []).length = (xpBh m ps l ((xpP m ps l K).getD i (0, 0))).length /\ ∀ q, q < (xpBh m ps l ((xpP m ps l K).getD i (0, 0))).length -> ((xpN m ps l K).getD i []).getD q 0 = (((xpP m ps l K).idxOf ((xpBh m ps l ((xpP m ps l K).getD i (0, 0))).getD q (0, 0)) : Nat) : Int) /\ (xpBh m ps l ((xpP m ps l K).getD i (0, 0))).getD q (0, 0) ∈ xpP m ps l K := by
 rw [xpN_get hi, <- xpAt_eq h hi]; refine ⟨plIx_len _ _, fun q hq => ?_⟩
 have hmem : (xpBh m ps l (xpAt m ps l i)).getD q (0, 0) ∈ xpP m ps l (i + 1) := by
  rw [xpP_succ, plTo_iff]; refine .inr ?_
  rw [List.getD_eq_getElem?_getD, List.getElem?_eq_getElem hq]
  exact List.getElem_mem _
 have hpre : xpP m ps l (i + 1) <+: xpP m ps l K := exS_le _ _ hi; refine ⟨?_, hpre.subset hmem⟩
 rw [plIx_at hq, <- xpP_succ, idx_pre hpre hmem]
theorem metN_range (l : List (Int × Int)) (letter : List Bool) (c : Int) : 0 <= metN l letter c /\ metN l letter c < (2 : Int) ^ (aheadL l).length := by
 unfold metN
 split
 ·exact metTo_bounds _ _ _
 ·exact ⟨by omega, Int.pow_pos (by decide)⟩
theorem exGr_ok (hk : tkcode m ps l = 0) (h : ExDone m ps l K) : GOk (exGr m ps l K) := by
 have h6 := (lcode_zero (tk_zero hk).2).2.2.2.2
 have hbl : (begL m ps l).length <= (xpP m ps l K).length := by
  have h1 := (exS_le (begL m ps l) (xpBh m ps l) (Nat.zero_le K)).length_le
  have h2 : (begL m ps l).length <= (exS (begL m ps l) (xpBh m ps l) 0).length := by
   show _ <= (plTo [] (begL m ps l)).length
   have hnd := plTo_nodup (begL m ps l) [] List.nodup_nil; have hsub : begL m ps l ⊆ plTo [] (begL m ps l) := fun x hx => (plTo_iff _ _ _).2 (.inr hx)
   exact (xbeg_nodup m ps l).length_le_of_subset hsub
  exact Nat.le_trans h2 h1
 refine ⟨⟨by show (xpP m ps l K).length <= _; rw [h.1]; exact h.2.1, by show (xpN m ps l K).length = (xpP m ps l K).length; rw [xpN_len, h.1], by show (xpT m ps l K).length = (xpP m ps l K).length; rw [xpT_len, h.1], by show (0 : Int) <= ((begL m ps l).length : Nat); omega, by show (((begL m ps l).length : Nat) : Int) <= ((xpP m ps l K).length : Nat); omega, by show (0 : Int) <= ((aheadL l).length : Nat); omega, by show (((aheadL l).length : Nat) : Int) <= 6; omega⟩, fun i hi => ?_⟩
 have hiK : i < K := by have : i < (xpP m ps l K).length := hi; rw [h.1] at this; exact this
 refine ⟨?_, fun q hq => ?_⟩
 ·unfold GSet top
  show 0 <= (xpT m ps l K).getD i 0 /\ (xpT m ps l K).getD i 0 <= 2 ^ (((aheadL l).length : Nat) : Int).toNat - 1
  rw [xpT_get hiK]; have := metN_range l (letL m ps (xpAt m ps l i).1) (xpAt m ps l i).2; rw [Int.toNat_natCast]; omega
 ·obtain ⟨r1, r2⟩ := xpN_row h hiK
  have hq' : q < (xpBh m ps l ((xpP m ps l K).getD i (0, 0))).length := by rw [<- r1]; exact hq
  obtain ⟨r3, r4⟩ := r2 q hq'
  show 0 <= ((xpN m ps l K).getD i []).getD q 0 /\ ((xpN m ps l K).getD i []).getD q 0 < ((xpP m ps l K).length : Nat)
  rw [r3]; have := List.idxOf_lt_length_of_mem r4; omega
theorem exGr_step (h : ExDone m ps l K) {s x : Int × Int} (hs : s ∈ xpP m ps l K) (hx : x ∈ xpBh m ps l s) : x ∈ xpP m ps l K /\ (xpP m ps l K).idxOf x ∈ nxt (exGr m ps l K) ((xpP m ps l K).idxOf s) := by
 have hi := List.idxOf_lt_length_of_mem hs; have hiK : (xpP m ps l K).idxOf s < K := by rw [h.1] at hi; exact hi
 have he : (xpP m ps l K).getD ((xpP m ps l K).idxOf s) (0, 0) = s := by
  rw [List.getD_eq_getElem?_getD, List.getElem?_eq_getElem hi]
  exact List.getElem_idxOf hi
 obtain ⟨r1, r2⟩ := xpN_row h hiK; rw [he] at r1 r2; obtain ⟨q, hq, rfl⟩ := List.getElem_of_mem hx; have hg : (xpBh m ps l s).getD q (0, 0) = (xpBh m ps l s)[q] := by rw [List.getD_eq_getElem?_getD, List.getElem?_eq_getElem hq]; rfl
 obtain ⟨r3, r4⟩ := r2 q hq; rw [hg] at r3 r4; refine ⟨r4, ?_⟩
 unfold nxt; rw [List.mem_map]; refine ⟨((xpN m ps l K).getD ((xpP m ps l K).idxOf s) []).getD q 0, ?_, by rw [r3]; rfl⟩
 show ((xpN m ps l K).getD ((xpP m ps l K).idxOf s) []).getD q 0 ∈ (xpN m ps l K).getD ((xpP m ps l K).idxOf s) []
 generalize (xpN m ps l K).getD ((xpP m ps l K).idxOf s) [] = row at *; rw [List.getD_eq_getElem?_getD, List.getElem?_eq_getElem (by rw [r1]; exact hq)]
 exact List.getElem_mem _
end
theorem SpO.ops {w : World} {base : Nat} {v : Value} {x : List (Int × Int)} (h : SpO w base v x) : OpsV w v x := by
 rcases h.2 with ⟨rfl, h0⟩ | ⟨g, cap, cur, rfl, hb, hg, hnc, hcm, hcs, htake⟩
 ·have : x = [] := by simpa using h0
  subst this; exact ⟨none, 0, rfl, ⟨by simp, fun _ => ⟨rfl, rfl⟩⟩, fun h => absurd rfl h⟩
 ·refine ⟨_, cap, rfl, ⟨hnc, fun h => by simp at h⟩, fun _ => ⟨g, 0, rfl, (Array.getElem?_eq_some_iff.1 hg).1, fun i hi => ?_⟩⟩
  obtain ⟨f0, f1⟩ := flat_get x i hi; rw [World.ownsRow.cellAt h _ (by omega), World.ownsRow.cellAt h _ (by omega)]
  simpa using ⟨f0, f1⟩
theorem GrX.graph {w : World} {base K : Nat} {m : Mo} {ps : List (List (Int × Int))} {l : List (Int × Int)} {sv nv tv : Value} (h : GrX w base m ps l K sv nv tv) : GraphV w sv nv tv (exGr m ps l K) := by
 obtain ⟨h1, ⟨us, n1, n2, n3⟩, h3⟩ := h; refine ⟨h1.ops, ?_, intsV_of_owns h3⟩
 have n1' : w.ownsRow base 38 1 nv us.length us := by rw [n2]; exact n1
 refine listsV_of_owns n1' ⟨n2, fun i hi => ?_⟩
 obtain ⟨ao, c, e1, e2, _, _⟩ := n3 i hi; have e1' : us.getD i nilG = .slice ao ((xpN m ps l K).getD i []).length c := e1; rw [e1']; exact e2
section
variable {m : Mo} {ps : List (List (Int × Int))} {l : List (Int × Int)} {K : Nat}
theorem exGr_le (hk : tkcode m ps l = 0) (h : ExDone m ps l K) : GrLe (exGr m ps l K) := by
 have e1 : (exGr m ps l K).spots.length = K := h.1; have e2 : (exGr m ps l K).next.length = K := xpN_len K; have e3 : (exGr m ps l K).sets.length = K := xpT_len K; have hm0 := (pcode_m (tk_zero hk).1).1; have h6 := (lcode_zero (tk_zero hk).2).2.2.2.2; refine ⟨by rw [e1]; have := h.2.1; omega, by rw [e2]; have := h.2.1; omega, by rw [e3]; have := h.2.1; omega, fun i hi => ?_⟩
 rw [e2] at hi
 show ((xpN m ps l K).getD i []).length <= _
 rw [(xpN_row h hi).1]
 have hin : (xpP m ps l K).getD i (0, 0) ∈ xpP m ps l K := by
  have hl : i < (xpP m ps l K).length := by rw [h.1]; exact hi
  rw [List.getD_eq_getElem?_getD, List.getElem?_eq_getElem hl]
  exact List.getElem_mem _
 have := behL_len (ps := ps) (l := l) (c := ((xpP m ps l K).getD i (0, 0)).2) hm0 (h.2.2.2 _ hin).1 h6
 show (behL _ _ _ _ _).length <= _
 omega
noncomputable def stL (m : Mo) (ps : List (List (Int × Int))) (l : List (Int × Int)) (K : Nat) (x : List Nat) : List Int := (List.range x.length).map fun (j : Nat) => ((xpP m ps l K).getD (x.getD j 0) (0, 0)).1
def VdAns (w : World) (m : Mo) (ps : List (List (Int × Int))) (l : List (Int × Int)) (e : Ending) (w' : World) : Prop :=
 (tkcode m ps l = 0 /\ (∃ K, ExDone m ps l K /\ fairC (exGr m ps l K) = 11) /\ e = .returned (.tuple #[.agg #[.bool true, .slice none 0 0, .slice none 0 0], .int .i64 0]) /\ Below w.heap.size w w') \/
 (tkcode m ps l = 0 /\ ∃ K st lp A B, ExDone m ps l K /\ LassoOk (exGr m ps l K) st lp /\ st.length <= 20000 /\ lp.length <= 2000000 /\ e = .returned (.tuple #[.agg #[.bool false, .slice (some ⟨A, 0, none⟩) st.length st.length, .slice (some ⟨B, 0, none⟩) lp.length lp.length], .int .i64 0]) /\ Below w.heap.size w w' /\ Hid (IntsV w' (.slice (some ⟨A, 0, none⟩) st.length st.length) (stL m ps l K st) /\ IntsV w' (.slice (some ⟨B, 0, none⟩) lp.length lp.length) (stL m ps l K lp))) \/
 (tkcode m ps l = 0 /\ ExFull m ps l /\ e = .returned (.tuple #[.agg #[.bool false, .slice none 0 0, .slice none 0 0], .int .i64 12]) /\ Below w.heap.size w w') \/
 (tkcode m ps l ≠ 0 /\ e = .returned (.tuple #[.agg #[.bool false, .slice none 0 0, .slice none 0 0], .int .i64 (tkcode m ps l)]) /\ Below w.heap.size w w')
end
def vcP (g f0 f1 : Value) (G : Nat) (st lp : List Int) (ns np : Nat) : Nat -> Value -> World -> Prop
 | 0, v, _ => v = g
 | 1, v, _ => v = .pointer (some ⟨G, 0, none⟩)
 | 2, v, _ => v = f0
 | 3, v, w => ∃ R, v = .slice (some ⟨R, 0, none⟩) ns ns /\ IntsV w v st
 | 4, v, _ => v = g
 | 5, v, _ => v = .pointer (some ⟨G, 1, none⟩)
 | 6, v, _ => v = f1
 | 7, v, w => ∃ R, v = .slice (some ⟨R, 0, none⟩) np np /\ IntsV w v lp
 | 8, v, w => ∃ A B, v = .agg #[.slice (some ⟨A, 0, none⟩) ns ns, .slice (some ⟨B, 0, none⟩) np np] /\ IntsV w (.slice (some ⟨A, 0, none⟩) ns ns) st /\ IntsV w (.slice (some ⟨B, 0, none⟩) np np) lp
 | 9, v, w => ∃ A B, v = .agg #[.bool false, .slice (some ⟨A, 0, none⟩) ns ns, .slice (some ⟨B, 0, none⟩) np np] /\ IntsV w (.slice (some ⟨A, 0, none⟩) ns ns) st /\ IntsV w (.slice (some ⟨B, 0, none⟩) np np) lp
 | _, _, _ => True
theorem vc_lt : ∀ i, i < 10 -> i = 0 \/ i = 1 \/ i = 2 \/ i = 3 \/ i = 4 \/ i = 5 \/ i = 6 \/ i = 7 \/ i = 8 \/ i = 9 := by intro i hi; omega
theorem vcP_stable (g f0 f1 : Value) (G : Nat) (st lp : List Int) (ns np : Nat) (i : Nat) (v : Value) (w w' : World) (hi : i < 10) (h : vcP g f0 f1 G st lp ns np i v w) (hb : Below w.heap.size w w') : vcP g f0 f1 G st lp ns np i v w' := by
 rcases vc_lt i hi with rfl | rfl | rfl | rfl | rfl | rfl | rfl | rfl | rfl | rfl
 ·exact h
 ·exact h
 ·exact h
 ·obtain ⟨R, h1, h2⟩ := h; exact ⟨R, h1, h2.below hb⟩
 ·exact h
 ·exact h
 ·exact h
 ·obtain ⟨R, h1, h2⟩ := h; exact ⟨R, h1, h2.below hb⟩
 ·obtain ⟨A, B, h1, h2, h3⟩ := h; exact ⟨A, B, h1, h2.below hb, h3.below hb⟩
 ·obtain ⟨A, B, h1, h2, h3⟩ := h; exact ⟨A, B, h1, h2.below hb, h3.below hb⟩
theorem IntsV.setBool {w : World} {v : Value} {l : List Int} {p : Addr} {b : Bool} (h : IntsV w v l) (hc : w.cell? p = some (.bool b)) (u : Value) : IntsV (w.setCell p u) v l := by
 obtain ⟨ao, cap, rfl, h⟩ := h; refine ⟨ao, cap, rfl, fun hne => ?_⟩
 obtain ⟨c, off, rfl, hlt, hat⟩ := h hne; refine ⟨c, off, rfl, by simpa using hlt, fun j hj => ?_⟩
 have h1 := hat j hj
 have hne2 : (⟨c, off + j, none⟩ : Addr) ≠ p := by
  intro e; rw [e, hc] at h1; simp at h1
 rw [World.cell?_setCell_other _ _ _ _ hne2.symm]
 exact h1
theorem boxed {w : World} {v : Value} {x : List Int} {R : Nat} {b : Bool} {a1 a2 : Option Addr} {n1 n2 c1 c2 : Nat} (h : IntsV w v x) (k0 : w.cell? ⟨R, 0, none⟩ = some (.bool b)) (k1 : w.cell? ⟨R, 1, none⟩ = some (.slice a1 n1 c1)) (k2 : w.cell? ⟨R, 2, none⟩ = some (.slice a2 n2 c2)) (u0 u1 u2 : Value) : IntsV (((w.setCell ⟨R, 0, none⟩ u0).setCell ⟨R, 1, none⟩ u1).setCell ⟨R, 2, none⟩ u2) v x := by
 have h0 := h.setBool k0 u0; have h1 := h0.setBox (p := ⟨R, 1, none⟩) ((World.cell?_setCell_other _ _ _ _ (by simp)).trans k1) u1
 exact h1.setBox (p := ⟨R, 2, none⟩) ((World.cell?_setCell_other _ _ _ _ (by simp)).trans ((World.cell?_setCell_other _ _ _ _ (by simp)).trans k2)) u2
def laB (sv lv : Value) : Obj := .cells #[sv, lv] 47 (0, 0)
theorem laB_cells {w : World} {X : Nat} {sv lv : Value} (hb : w.heap[X]? = some (laB sv lv)) : w.cell? ⟨X, 0, none⟩ = some sv /\ w.cell? ⟨X, 1, none⟩ = some lv := by
 unfold laB at hb; refine ⟨?_, ?_⟩ <;> simp [World.cell?, hb]
theorem vcheck_bad (va vr pv fv : Value) (m : Mo) (ps : List (List (Int × Int))) (l : List (Int × Int)) (w : World) (hV : TaskV w va vr pv fv m ps l) (c : Int) (hc : c ≠ 0) (hex : ∀ w', Below w.heap.size w w' -> Calls Tryz.prog 8 #[.agg #[va, vr, pv, fv]] w' fun e w2 => e = .returned (.tuple #[.agg #[.slice none 0 0, .int .i64 0, .slice none 0 0, .slice none 0 0, .int .i64 0], .int .i64 c]) /\ Below w'.heap.size w' w2) :
    Calls Tryz.prog 11 #[.agg #[va, vr, pv, fv]] w fun e w' => e = .returned (.tuple #[.agg #[.bool false, .slice none 0 0, .slice none 0 0], .int .i64 c]) /\ Below w.heap.size w w' := by
  obtain ⟨ao, ac, rfl⟩ := hV.mo.1.shape; obtain ⟨ro, rc, rfl⟩ := hV.mo.2.shape; obtain ⟨po, pc, rfl⟩ := hV.ps.shape; obtain ⟨fo, fc, rfl, _⟩ := id hV.fo; clear hV; generalize m.vars.length = vn at *; generalize m.rules.length = rn at *; generalize ps.length = pn at *; generalize l.length = fn at *
  obtain ⟨W1, hW1⟩ : ∃ W1, W1 = (w.alloc (.cells #[.slice ao vn ac, .slice ro rn rc, .slice po pn pc, .slice fo fn fc] 34)).alloc (.cells #[.bool false, .slice none 0 0, .slice none 0 0] 51) := ⟨_, rfl⟩
  have hb1 : Below w.heap.size w W1 := by rw [hW1]; exact ((Below.refl _ _).alloc (Nat.le_refl _) _).alloc (by simp) _
  have hz1 : W1.heap.size = w.heap.size + 2 := by rw [hW1]; simp
  have he := hex W1 hb1
  have HBx : Hid (∀ w', Below W1.heap.size W1 w' -> (w'.cell? ⟨w.heap.size + 1, 0, none⟩ = some (.bool false) /\ w'.cell? ⟨w.heap.size + 1, 1, none⟩ = some (.slice none 0 0) /\ w'.cell? ⟨w.heap.size + 1, 2, none⟩ = some (.slice none 0 0)) /\ (w'.frozen? ⟨w.heap.size + 1, 0, none⟩ = false /\ w'.frozen? ⟨w.heap.size + 1, 1, none⟩ = false /\ w'.frozen? ⟨w.heap.size + 1, 2, none⟩ = false)) := fun w' h => by
    have hlt : w.heap.size + 1 < W1.heap.size := by omega
    refine ⟨⟨?_, ?_, ?_⟩, ?_, ?_, ?_⟩
    · exact (h.cell (p := ⟨w.heap.size + 1, 0, none⟩) hlt).trans (by rw [hW1]; simp [go_sem])
    · exact (h.cell (p := ⟨w.heap.size + 1, 1, none⟩) hlt).trans (by rw [hW1]; simp [go_sem])
    · exact (h.cell (p := ⟨w.heap.size + 1, 2, none⟩) hlt).trans (by rw [hW1]; simp [go_sem])
    · exact (h.frozen (p := ⟨w.heap.size + 1, 0, none⟩) hlt).trans (by rw [hW1]; simp [go_sem])
    · exact (h.frozen (p := ⟨w.heap.size + 1, 1, none⟩) hlt).trans (by rw [hW1]; simp [go_sem])
    · exact (h.frozen (p := ⟨w.heap.size + 1, 2, none⟩) hlt).trans (by rw [hW1]; simp [go_sem])
  have HW1 := (show Hid (W1 = _) from hW1)
  clear hW1 hex
  go_enter Tryz.func11, Tryz.ntmps11
  go_upto_region 2 with (go_at_call 8; rw [<- HW1.out]; refine he.mono ?_; rintro e w2 ⟨rfl, hb2⟩)
  have hbA : Below w2.heap.size w2 (w2.alloc (.cells #[.slice none 0 0, .int .i64 0, .slice none 0 0, .slice none 0 0, .int .i64 0] 40)) := (Below.refl _ _).alloc (Nat.le_refl _) _; have hb3 := hb2.trans (hbA.mono hb2.size); generalize w2.alloc (.cells #[.slice none 0 0, .int .i64 0, .slice none 0 0, .slice none 0 0, .int .i64 0] 40) = W3 at *; obtain ⟨⟨r0, r1, r2⟩, f0, f1, f2⟩ := HBx.out W3 hb3
  have hbw3 := hb1.trans (hb3.mono hb1.size); have hcb : ¬ c = 0 := hc; clear HBx HW1 he
  go_wp2_with fail
  refine bodyPost_ret (v := .tuple #[.agg #[.bool false, .slice none 0 0, .slice none 0 0], .int .i64 c]) ?_ rfl ⟨rfl, ?_⟩
  · simp only [results, Tryz.results11]
    simp [go_sem, r0, r1, r2]
  · exact ((hbw3.setCell (p := ⟨w.heap.size + 1, 0, none⟩) (by show w.heap.size <= w.heap.size + 1; omega) _).setCell (p := ⟨w.heap.size + 1, 1, none⟩) (by show w.heap.size <= w.heap.size + 1; omega) _).setCell (p := ⟨w.heap.size + 1, 2, none⟩) (by show w.heap.size <= w.heap.size + 1; omega) _
theorem vcheck_ok (va vr pv fv : Value) (m : Mo) (ps : List (List (Int × Int))) (l : List (Int × Int)) (w : World) (hB : 0 < w.heap.size) (hT : TabAt w) (hV : TaskV w va vr pv fv m ps l) (hk : tkcode m ps l = 0) (hnf : ¬ ExFull m ps l) :
  Calls Tryz.prog 11 #[.agg #[va, vr, pv, fv]] w (VdAns w m ps l) := by
 obtain ⟨ao, ac, rfl⟩ := hV.mo.1.shape; obtain ⟨ro, rc, rfl⟩ := hV.mo.2.shape; obtain ⟨po, pc, rfl⟩ := hV.ps.shape; obtain ⟨fo, fc, rfl, _⟩ := id hV.fo; obtain ⟨W1, hW1⟩ : ∃ W1, W1 = (w.alloc (.cells #[.slice ao m.vars.length ac, .slice ro m.rules.length rc, .slice po ps.length pc, .slice fo l.length fc] 34)).alloc (.cells #[.bool false, .slice none 0 0, .slice none 0 0] 51) := ⟨_, rfl⟩
 have hb1 : Below w.heap.size w W1 := by rw [hW1]; exact ((Below.refl _ _).alloc (Nat.le_refl _) _).alloc (by simp) _
 have hz1 : W1.heap.size = w.heap.size + 2 := by rw [hW1]; simp
 have hex : Calls Tryz.prog 8 #[.agg #[.slice ao m.vars.length ac, .slice ro m.rules.length rc, .slice po ps.length pc, .slice fo l.length fc]] W1 fun e w2 => ∃ K so sc no nc xo xc, e = .returned (.tuple #[.agg #[.slice so K sc, .int .i64 ((begL m ps l).length : Nat), .slice no K nc, .slice xo K xc, .int .i64 ((aheadL l).length : Nat)], .int .i64 0]) /\ Below W1.heap.size W1 w2 /\ K <= 20000 /\ Hid (ExDone m ps l K /\ GraphV w2 (.slice so K sc) (.slice no K nc) (.slice xo K xc) (exGr m ps l K)) := by
  refine (explore_any _ _ _ _ m ps l W1 (Nat.lt_of_lt_of_le hB hb1.size) (hT.below hb1 hB) (hV.below hb1)).mono fun e w2 hx => ?_
  rcases hx with ⟨_, K, hD, sv, nv, tv, e1, h2, HG⟩ | ⟨_, hf, _, _⟩ | ⟨h1, _, _⟩
  ·have hGr := HG.out.graph
   obtain ⟨so, sc, rfl⟩ := HG.out.1.shape; obtain ⟨us, n1, _⟩ := HG.out.2.1; obtain ⟨no, nc, rfl⟩ := owns_slice n1; obtain ⟨xo, xc, rfl⟩ := owns_slice HG.out.2.2; rw [hD.1, xpN_len, xpT_len] at e1 hGr; exact ⟨K, so, sc, no, nc, xo, xc, e1, h2, hD.2.1, hD, hGr⟩
  ·exact absurd hf hnf
  ·exact absurd hk h1
 have HBx : Hid (∀ w', Below W1.heap.size W1 w' -> (w'.cell? ⟨w.heap.size + 1, 0, none⟩ = some (.bool false) /\ w'.cell? ⟨w.heap.size + 1, 1, none⟩ = some (.slice none 0 0) /\ w'.cell? ⟨w.heap.size + 1, 2, none⟩ = some (.slice none 0 0)) /\ (w'.frozen? ⟨w.heap.size + 1, 0, none⟩ = false /\ w'.frozen? ⟨w.heap.size + 1, 1, none⟩ = false /\ w'.frozen? ⟨w.heap.size + 1, 2, none⟩ = false)) := fun w' h => by
  have hlt : w.heap.size + 1 < W1.heap.size := by omega
  refine ⟨⟨?_, ?_, ?_⟩, ?_, ?_, ?_⟩
  ·exact (h.cell (p := ⟨w.heap.size + 1, 0, none⟩) hlt).trans (by rw [hW1]; simp [go_sem])
  ·exact (h.cell (p := ⟨w.heap.size + 1, 1, none⟩) hlt).trans (by rw [hW1]; simp [go_sem])
  ·exact (h.cell (p := ⟨w.heap.size + 1, 2, none⟩) hlt).trans (by rw [hW1]; simp [go_sem])
  ·exact (h.frozen (p := ⟨w.heap.size + 1, 0, none⟩) hlt).trans (by rw [hW1]; simp [go_sem])
  ·exact (h.frozen (p := ⟨w.heap.size + 1, 1, none⟩) hlt).trans (by rw [hW1]; simp [go_sem])
  ·exact (h.frozen (p := ⟨w.heap.size + 1, 2, none⟩) hlt).trans (by rw [hW1]; simp [go_sem])
 have HLa : Hid (∀ (w' : World) (so no xo : Option Addr) (sc nc xc K : Nat), ExDone m ps l K -> GraphV w' (.slice so K sc) (.slice no K nc) (.slice xo K xc) (exGr m ps l K) -> Calls Tryz.prog 10 #[.agg #[.slice so K sc, .int .i64 ((begL m ps l).length : Nat), .slice no K nc, .slice xo K xc, .int .i64 ((aheadL l).length : Nat)]] w' fun e w2 => ∃ t0 tn tc uo un uc c, e = .returned (.tuple #[.agg #[.slice t0 tn tc, .slice uo un uc], .int .i64 c]) /\ Below w'.heap.size w' w2 /\ Hid (LassoV (exGr m ps l K) w2 (.agg #[.slice t0 tn tc, .slice uo un uc]) c)) := fun w' so no xo sc nc xc K hD hGr => by
  have hok := exGr_ok hk hD; have hc0 : gcode (exGr m ps l K) = 0 := gcode_ok hok.head hok.row; have e1 : (exGr m ps l K).spots.length = K := hD.1; have e2 : (exGr m ps l K).next.length = K := xpN_len K; have e3 : (exGr m ps l K).sets.length = K := xpT_len K; have h := slasso_ok so no xo sc nc xc (exGr m ps l K) w' (exGr_le hk hD) (by rw [e1, e2, e3]; exact hGr) hc0
  rw [e1, e2, e3] at h; refine h.mono fun e w2 ⟨v, c, g1, g2, g3⟩ => ?_
  rcases id g3.out with ⟨_, _, rfl⟩ | ⟨_, _, t0, tc, uo, uc, st, lp, rfl, _⟩
  ·exact ⟨_, _, _, _, _, _, c, g1, g2, g3⟩
  ·exact ⟨_, _, _, _, _, _, c, g1, g2, g3⟩
 have HSt : Hid (∀ (w' : World) (so no xo po : Option Addr) (sc nc xc pc K : Nat) (x : List Nat), ExDone m ps l K -> OpsV w' (.slice so K sc) (xpP m ps l K) -> NatsV w' (.slice po x.length pc) x -> (∀ y ∈ x, y < K) -> x.length <= 2000000 -> Calls Tryz.prog 35 #[.agg #[.slice so K sc, .int .i64 ((begL m ps l).length : Nat), .slice no K nc, .slice xo K xc, .int .i64 ((aheadL l).length : Nat)], .slice po x.length pc] w' fun e w2 => ∃ R, e = .returned (.slice (some ⟨R, 0, none⟩) x.length x.length) /\ Below w'.heap.size w' w2 /\ Hid (IntsV w2 (.slice (some ⟨R, 0, none⟩) x.length x.length) (stL m ps l K x))) := fun w' so no xo po sc nc xc pc K x hD hO hN hlt hz => by
  have h := statesAt_any so no xo po sc K nc K xc pc ((begL m ps l).length : Nat) ((aheadL l).length : Nat) (xpP m ps l K) x w' (by rw [hD.1]; exact hO) hN (fun i hi => by
   rw [hD.1]; refine hlt _ ?_
   rw [List.getD_eq_getElem?_getD, List.getElem?_eq_getElem hi]
   exact List.getElem_mem _) hz (by rw [hD.1]; exact hD.2.1)
  rw [hD.1] at h; exact h
 have HTk : Hid (tkcode m ps l = 0) := hk; have HW1 := (show Hid (W1 = _) from hW1)
 clear hW1 hV hT hk hnf; unfold VdAns; generalize hbl : (begL m ps l).length = bn at *; generalize hal : (aheadL l).length = an at *; generalize m.vars.length = vn at *; generalize m.rules.length = rn at *; generalize ps.length = pn at *; generalize l.length = fn at *; clear hbl hal
 go_enter Tryz.func11, Tryz.ntmps11
 go_upto_region 2 with (go_at_call 8; rw [<- HW1.out]; refine hex.mono ?_; rintro e w2 ⟨K, so, sc, no, nc, xo, xc, rfl, hb2, hK, HD⟩)
 have hbA : Below w2.heap.size w2 (w2.alloc (.cells #[.slice so K sc, .int .i64 (bn : Nat), .slice no K nc, .slice xo K xc, .int .i64 (an : Nat)] 40)) := (Below.refl _ _).alloc (Nat.le_refl _) _
 have hbg : (w2.alloc (.cells #[.slice so K sc, .int .i64 (bn : Nat), .slice no K nc, .slice xo K xc, .int .i64 (an : Nat)] 40)).heap[w2.heap.size]? = some (grB (.slice so K sc) (.slice no K nc) (.slice xo K xc) (bn : Nat) (an : Nat)) := (MapKept.heap_alloc w2 _).1; have hb3 := hb2.trans (hbA.mono hb2.size)
 have HG3 : Hid (GraphV (w2.alloc (.cells #[.slice so K sc, .int .i64 (bn : Nat), .slice no K nc, .slice xo K xc, .int .i64 (an : Nat)] 40)) (.slice so K sc) (.slice no K nc) (.slice xo K xc) (exGr m ps l K)) := HD.out.2.below hbA; have HDn : Hid (ExDone m ps l K) := HD.out.1; have hXw : W1.heap.size <= w2.heap.size := hb2.size
 generalize w2.alloc (.cells #[.slice so K sc, .int .i64 (bn : Nat), .slice no K nc, .slice xo K xc, .int .i64 (an : Nat)] 40) = W3 at *; generalize w2.heap.size = X at *; have hla := HLa.out W3 so no xo sc nc xc K HDn.out HG3.out; obtain ⟨g0, g1, g2, g3, g4⟩ := grB_cells hbg
 have HGb : Hid (W3.heap[X]? = some (grB (.slice so K sc) (.slice no K nc) (.slice xo K xc) (bn : Nat) (an : Nat))) := hbg; clear HD hex HLa hbA hbg HW1
 go_upto_region 5 with (go_at_call 10; refine hla.mono ?_; rintro e w4 ⟨t0, tn, tc, uo, un, uc, c, rfl, hb4, HL⟩)
 have hbB : Below w4.heap.size w4 (w4.alloc (.cells #[.slice t0 tn tc, .slice uo un uc] 47)) := (Below.refl _ _).alloc (Nat.le_refl _) _; have hbl5 : (w4.alloc (.cells #[.slice t0 tn tc, .slice uo un uc] 47)).heap[w4.heap.size]? = some (laB (.slice t0 tn tc) (.slice uo un uc)) := (MapKept.heap_alloc w4 _).1; have hb35 := hb4.trans (hbB.mono hb4.size); have hb5 := hb3.trans (hb35.mono hb3.size)
 have hbw5 := hb1.trans (hb5.mono hb1.size); obtain ⟨⟨r0, r1, r2⟩, f0, f1, f2⟩ := HBx.out _ hb5; clear hla g0 g1 g2 g3 g4
 rcases HL.out with ⟨rfl, hfc, hv⟩ | ⟨rfl, hfc, t0', tc', uo', uc', st, lp, hv, hst, hlp, hLo, hN1, hN2⟩
 ·generalize w4.alloc (.cells #[.slice t0 tn tc, .slice uo un uc] 47) = W5 at *
  have HR : Hid (∃ K, ExDone m ps l K /\ fairC (exGr m ps l K) = 11) := ⟨K, HDn.out, hfc⟩
  clear hfc hv HL HBx HSt HDn HG3 HGb hbl5
  go_wp2_with fail
  refine bodyPost_ret (v := .tuple #[.agg #[.bool true, .slice none 0 0, .slice none 0 0], .int .i64 0]) ?_ rfl (.inl ⟨HTk.out, HR.out, rfl, ?_⟩)
  ·simp only [results, Tryz.results11]
   simp [go_sem, r0, r1, r2]
  ·exact ((hbw5.setCell (p := ⟨w.heap.size + 1, 0, none⟩) (by show w.heap.size <= w.heap.size + 1; omega) _).setCell (p := ⟨w.heap.size + 1, 1, none⟩) (by show w.heap.size <= w.heap.size + 1; omega) _).setCell (p := ⟨w.heap.size + 1, 2, none⟩) (by show w.heap.size <= w.heap.size + 1; omega) _
 ·simp only [Value.agg.injEq, Array.mk.injEq, List.cons.injEq, Value.slice.injEq, and_true] at hv
  obtain ⟨⟨rfl, rfl, rfl⟩, rfl, rfl, rfl⟩ := hv
  have hlo1 : ∀ y ∈ st, y < K := fun y hy => by
   have := hLo.lt y (List.mem_append.2 (.inl hy)); rw [show (exGr m ps l K).spots.length = K from HDn.out.1] at this
   exact this
  have hlo2 : ∀ y ∈ lp, y < K := fun y hy => by
   have := hLo.lt y (List.mem_append.2 (.inr hy)); rw [show (exGr m ps l K).spots.length = K from HDn.out.1] at this
   exact this
  have hN1b := hN1.below hbB; have hN2b := hN2.below hbB
  have HRw : Hid (∀ w', Below (w4.alloc (.cells #[.slice t0 st.length tc, .slice uo lp.length uc] 47)).heap.size (w4.alloc (.cells #[.slice t0 st.length tc, .slice uo lp.length uc] 47)) w' -> ((w'.cell? ⟨X, 0, none⟩ = some (.slice so K sc) /\ w'.cell? ⟨X, 1, none⟩ = some (.int .i64 (bn : Nat)) /\ w'.cell? ⟨X, 2, none⟩ = some (.slice no K nc) /\ w'.cell? ⟨X, 3, none⟩ = some (.slice xo K xc) /\ w'.cell? ⟨X, 4, none⟩ = some (.int .i64 (an : Nat))) /\ (w'.cell? ⟨w4.heap.size, 0, none⟩ = some (.slice t0 st.length tc) /\ w'.cell? ⟨w4.heap.size, 1, none⟩ = some (.slice uo lp.length uc))) /\ (Calls Tryz.prog 35 #[.agg #[.slice so K sc, .int .i64 (bn : Nat), .slice no K nc, .slice xo K xc, .int .i64 (an : Nat)], .slice t0 st.length tc] w' fun e w2 => ∃ R, e = .returned (.slice (some ⟨R, 0, none⟩) st.length st.length) /\ Below w'.heap.size w' w2 /\ Hid (IntsV w2 (.slice (some ⟨R, 0, none⟩) st.length st.length) (stL m ps l K st))) /\ (Calls Tryz.prog 35 #[.agg #[.slice so K sc, .int .i64 (bn : Nat), .slice no K nc, .slice xo K xc, .int .i64 (an : Nat)], .slice uo lp.length uc] w' fun e w2 => ∃ R, e = .returned (.slice (some ⟨R, 0, none⟩) lp.length lp.length) /\ Below w'.heap.size w' w2 /\ Hid (IntsV w2 (.slice (some ⟨R, 0, none⟩) lp.length lp.length) (stL m ps l K lp))) /\ Below W1.heap.size W1 w') := fun w' h => by
   have h3 := hb35.trans (h.mono hb35.size); have hbx := (h3.block X (Array.getElem?_eq_some_iff.1 HGb.out).1).trans HGb.out
   have hbl := (h.block w4.heap.size (Array.getElem?_eq_some_iff.1 hbl5).1).trans hbl5
   have hsp := HG3.out.spots.below h3; exact ⟨⟨grB_cells hbx, laB_cells hbl⟩, HSt.out w' so no xo t0 sc nc xc tc K st HDn.out hsp (hN1b.below h) hlo1 (by omega), HSt.out w' so no xo uo sc nc xc uc K lp HDn.out hsp (hN2b.below h) hlo2 (by omega), hb5.trans (h.mono hb5.size)⟩
  have HLo : Hid (LassoOk (exGr m ps l K) st lp) := hLo; have HSz : Hid (st.length <= 20000 /\ lp.length <= 2000000) := ⟨hst, hlp⟩; clear hN1 hN2 hN1b hN2b hlo1 hlo2 HL hbl5 HG3 HGb HSt hb35 hbB hLo hfc hst hlp; generalize w4.alloc (.cells #[.slice t0 st.length tc, .slice uo lp.length uc] 47) = W5 at *; generalize w4.heap.size = L5 at *; obtain ⟨ns, hns⟩ : ∃ n, st.length = n := ⟨_, rfl⟩
  obtain ⟨np, hnp⟩ : ∃ n, lp.length = n := ⟨_, rfl⟩
  obtain ⟨xs, hxs⟩ : ∃ x, stL m ps l K st = x := ⟨_, rfl⟩
  obtain ⟨xp, hxp⟩ : ∃ x, stL m ps l K lp = x := ⟨_, rfl⟩
  have HN : Hid ((st.length = ns /\ lp.length = np) /\ stL m ps l K st = xs /\ stL m ps l K lp = xp) := ⟨⟨hns, hnp⟩, hxs, hxp⟩; rw [hns, hnp, hxs, hxp] at HRw; rw [hns, hnp]; clear hns hnp hxs hxp
  go_upto_region 9 with fail
  go_cut [3] (fun u wx => u = .int .i64 0 /\ ∃ A B, Hid (IntsV wx (.slice (some ⟨A, 0, none⟩) ns ns) xs /\ IntsV wx (.slice (some ⟨B, 0, none⟩) np np) xp /\ Below w.heap.size w wx) /\ wx.cell? ⟨w.heap.size + 1, 0, none⟩ = some (.bool false) /\ wx.cell? ⟨w.heap.size + 1, 1, none⟩ = some (.slice (some ⟨A, 0, none⟩) ns ns) /\ wx.cell? ⟨w.heap.size + 1, 2, none⟩ = some (.slice (some ⟨B, 0, none⟩) np np))
  case first =>
   rename_i J K' hJ hK'; generalize ha0 : Act.mk _ _ = a0; have hsz : a0.tmps.size = 38 := by rw [<- ha0]; rfl
   have a4 : a0.eval (.tmp 4) = .pointer (some ⟨X, 0, none⟩) := by rw [<- ha0]; rfl
   have a6 : a0.eval (.tmp 6) = .pointer (some ⟨L5, 0, none⟩) := by rw [<- ha0]; rfl
   have a2 : a0.eval (.tmp 2) = .pointer (some ⟨w.heap.size + 1, 0, none⟩) := by rw [<- ha0]; rfl
   refine wp_anyway (by rfl) [28, 29, 30, 31, 32, 33, 34, 35, 36, 37, 3] 10 (vcP (.agg #[.slice so K sc, .int .i64 (bn : Nat), .slice no K nc, .slice xo K xc, .int .i64 (an : Nat)]) (.slice t0 ns tc) (.slice uo np uc) L5 xs xp ns np) (by rw [hsz]; rfl) (vcP_stable _ _ _ _ _ _ _ _) ?_ ?_
   ·intro i o hi ho q w' hb hq
    have f : ∀ t, [28, 29, 30, 31, 32, 33, 34, 35, 36, 37, 3].contains t = true -> t < 38 -> (frm a0 [28, 29, 30, 31, 32, 33, 34, 35, 36, 37, 3] q).eval (.tmp t) = q t := fun t h1 h2 => frm_in h1 (by rw [hsz]; exact h2)
    have e4 : (frm a0 [28, 29, 30, 31, 32, 33, 34, 35, 36, 37, 3] q).eval (.tmp 4) = .pointer (some ⟨X, 0, none⟩) := (frm_out rfl).trans a4; have e6 : (frm a0 [28, 29, 30, 31, 32, 33, 34, 35, 36, 37, 3] q).eval (.tmp 6) = .pointer (some ⟨L5, 0, none⟩) := (frm_out rfl).trans a6; obtain ⟨⟨⟨x0, x1, x2, x3, x4⟩, y0, y1⟩, hs1, hs2, _⟩ := HRw.out w' hb
    obtain ⟨ev, hev⟩ : ∃ ev, ev = (frm a0 [28, 29, 30, 31, 32, 33, 34, 35, 36, 37, 3] q).eval := ⟨_, rfl⟩
    have evf : ∀ n, ev (.func n) = .func (.func n) #[] #[] := fun n => by rw [hev]; rfl
    rw [<- hev] at f e4 e6
    rcases vc_lt i hi with rfl | rfl | rfl | rfl | rfl | rfl | rfl | rfl | rfl | rfl
    all_goals obtain rfl := Option.some.inj ho
    ·refine op_val (w' := w') ?_ (Below.refl _ _) rfl
     rw [<- hev]; simp [execOp, e4, go_sem, x0, x1, x2, x3, x4]
    ·refine op_val (w' := w') ?_ (Below.refl _ _) rfl
     rw [<- hev]; simp [execOp, e6, go_sem]
    ·have e29 := (f 29 rfl (by decide)).trans (hq 1 29 rfl rfl)
     refine op_val (w' := w') ?_ (Below.refl _ _) rfl
     rw [<- hev]; simp [execOp, e29, go_sem, y0]
    ·have e28 := (f 28 rfl (by decide)).trans (hq 0 28 rfl rfl)
     have e30 := (f 30 rfl (by decide)).trans (hq 2 30 rfl rfl)
     refine op_call (f := 35) (args := #[.agg #[.slice so K sc, .int .i64 (bn : Nat), .slice no K nc, .slice xo K xc, .int .i64 (an : Nat)], .slice t0 ns tc]) ?_ (hs1.mono ?_)
     ·rw [<- hev]; simp [execOp, e28, e30, evf, go_sem]
     ·rintro e w2 ⟨R, rfl, h2, h3⟩
      exact ⟨_, rfl, h2, R, rfl, h3.out⟩
    ·refine op_val (w' := w') ?_ (Below.refl _ _) rfl
     rw [<- hev]; simp [execOp, e4, go_sem, x0, x1, x2, x3, x4]
    ·refine op_val (w' := w') ?_ (Below.refl _ _) rfl
     rw [<- hev]; simp [execOp, e6, go_sem]
    ·have e33 := (f 33 rfl (by decide)).trans (hq 5 33 rfl rfl)
     refine op_val (w' := w') ?_ (Below.refl _ _) rfl
     rw [<- hev]; simp [execOp, e33, go_sem, y1]
    ·have e32 := (f 32 rfl (by decide)).trans (hq 4 32 rfl rfl)
     have e34 := (f 34 rfl (by decide)).trans (hq 6 34 rfl rfl)
     refine op_call (f := 35) (args := #[.agg #[.slice so K sc, .int .i64 (bn : Nat), .slice no K nc, .slice xo K xc, .int .i64 (an : Nat)], .slice uo np uc]) ?_ (hs2.mono ?_)
     ·rw [<- hev]; simp [execOp, e32, e34, evf, go_sem]
     ·rintro e w2 ⟨R, rfl, h2, h3⟩
      exact ⟨_, rfl, h2, R, rfl, h3.out⟩
    ·obtain ⟨A, hA, hA2⟩ := hq 3 31 rfl rfl
     obtain ⟨B, hB', hB2⟩ := hq 7 35 rfl rfl; have e31 := (f 31 rfl (by decide)).trans hA
     have e35 := (f 35 rfl (by decide)).trans hB'
     refine op_val (w' := w') (v := .agg #[.slice (some ⟨A, 0, none⟩) ns ns, .slice (some ⟨B, 0, none⟩) np np]) ?_ (Below.refl _ _) ⟨A, B, rfl, by rw [<- hA]; exact hA2, by rw [<- hB']; exact hB2⟩
     rw [<- hev]; simp [execOp, e31, e35, go_sem]
    ·obtain ⟨A, B, hA, hA2, hB2⟩ := hq 8 36 rfl rfl
     have e36 := (f 36 rfl (by decide)).trans hA
     refine op_val (w' := w') (v := .agg #[.bool false, .slice (some ⟨A, 0, none⟩) ns ns, .slice (some ⟨B, 0, none⟩) np np]) ?_ (Below.refl _ _) ⟨A, B, rfl, hA2, hB2⟩
     rw [<- hev]; simp [execOp, e36, go_sem]
   ·intro q w' hb hq
    have f : ∀ q t, [28, 29, 30, 31, 32, 33, 34, 35, 36, 37, 3].contains t = true -> t < 38 -> (frm a0 [28, 29, 30, 31, 32, 33, 34, 35, 36, 37, 3] q).eval (.tmp t) = q t := fun q t h1 h2 => frm_in h1 (by rw [hsz]; exact h2)
    obtain ⟨A, B, h37, hA2, hB2⟩ := hq 9 37 (by decide) rfl
    have e37 := (f q 37 rfl (by decide)).trans h37
    have e2 : (frm a0 [28, 29, 30, 31, 32, 33, 34, 35, 36, 37, 3] q).eval (.tmp 2) = .pointer (some ⟨w.heap.size + 1, 0, none⟩) := (frm_out rfl).trans a2; obtain ⟨_, _, _, hbW⟩ := HRw.out w' hb; obtain ⟨⟨k0, k1, k2⟩, l0, l1, l2⟩ := HBx.out w' hbW
    show wpOps Tryz.prog _ _ [10, 11] _ _
    rw [wpOps_cons]; refine op_atR rfl rfl ?_
    refine op_skip (w' := ((w'.setCell ⟨w.heap.size + 1, 0, none⟩ (.bool false)).setCell ⟨w.heap.size + 1, 1, none⟩ (.slice (some ⟨A, 0, none⟩) ns ns)).setCell ⟨w.heap.size + 1, 2, none⟩ (.slice (some ⟨B, 0, none⟩) np np)) rfl ?_ ?_
    ·generalize (frm a0 [28, 29, 30, 31, 32, 33, 34, 35, 36, 37, 3] q).eval = ev at e37 e2 ⊢
     simp [execOp, e2, e37, go_sem, k0, k1, k2, l0, l1, l2]
    rw [wpOps_cons]; refine op_atR rfl rfl ?_
    refine op_run (w' := ((w'.setCell ⟨w.heap.size + 1, 0, none⟩ (.bool false)).setCell ⟨w.heap.size + 1, 1, none⟩ (.slice (some ⟨A, 0, none⟩) ns ns)).setCell ⟨w.heap.size + 1, 2, none⟩ (.slice (some ⟨B, 0, none⟩) np np)) (v := .int .i64 0) ?_ ?_
    ·have evc : ∀ v, (frm a0 [28, 29, 30, 31, 32, 33, 34, 35, 36, 37, 3] q).eval (.const v) = v := fun v => rfl
     generalize (frm a0 [28, 29, 30, 31, 32, 33, 34, 35, 36, 37, 3] q).eval = ev at evc ⊢; simp [execOp, evc, go_sem]
    rw [late_put 3 rfl rfl]
    show K' _ _
    refine hK' _ _ ?_
    rw [<- ha0]
    go_meet
    have hbF := hb1.trans (hbW.mono hb1.size); have n0 : ∀ A', IntsV w' A' xs -> IntsV (((w'.setCell ⟨w.heap.size + 1, 0, none⟩ (.bool false)).setCell ⟨w.heap.size + 1, 1, none⟩ (.slice (some ⟨A, 0, none⟩) ns ns)).setCell ⟨w.heap.size + 1, 2, none⟩ (.slice (some ⟨B, 0, none⟩) np np)) A' xs := fun A' h => boxed h k0 k1 k2 _ _ _
    have n1 : ∀ A', IntsV w' A' xp -> IntsV (((w'.setCell ⟨w.heap.size + 1, 0, none⟩ (.bool false)).setCell ⟨w.heap.size + 1, 1, none⟩ (.slice (some ⟨A, 0, none⟩) ns ns)).setCell ⟨w.heap.size + 1, 2, none⟩ (.slice (some ⟨B, 0, none⟩) np np)) A' xp := fun A' h => boxed h k0 k1 k2 _ _ _
    refine ⟨setV_same q 3 _, A, B, ⟨n0 _ hA2, n1 _ hB2, ((hbF.setCell (p := ⟨w.heap.size + 1, 0, none⟩) (by show w.heap.size <= w.heap.size + 1; omega) _).setCell (p := ⟨w.heap.size + 1, 1, none⟩) (by show w.heap.size <= w.heap.size + 1; omega) _).setCell (p := ⟨w.heap.size + 1, 2, none⟩) (by show w.heap.size <= w.heap.size + 1; omega) _⟩, ?_, ?_, ?_⟩
    ·rw [World.cell?_setCell_other _ _ _ _ (by simp), World.cell?_setCell_other _ _ _ _ (by simp)]
     exact World.cell?_setCell_same _ _ _ k0
    ·rw [World.cell?_setCell_other _ _ _ _ (by simp)]
     refine World.cell?_setCell_same _ _ _ (u := .slice none 0 0) ?_
     rw [World.cell?_setCell_other _ _ _ _ (by simp)]
     exact k1
    ·refine World.cell?_setCell_same _ _ _ (u := .slice none 0 0) ?_
     rw [World.cell?_setCell_other _ _ _ _ (by simp), World.cell?_setCell_other _ _ _ _ (by simp)]
     exact k2
  case rest =>
   obtain ⟨rfl, A, B, HE, z0, z1, z2⟩ := hcut
   go_wp2_with fail
   obtain ⟨⟨hn1, hn2⟩, hx1, hx2⟩ := HN.out; refine bodyPost_ret (v := .tuple #[.agg #[.bool false, .slice (some ⟨A, 0, none⟩) ns ns, .slice (some ⟨B, 0, none⟩) np np], .int .i64 0]) ?_ rfl (.inr (.inl ⟨HTk.out, K, st, lp, A, B, HDn.out, HLo.out, HSz.out.1, HSz.out.2, by rw [hn1, hn2], HE.out.2.2, by rw [hn1, hn2, hx1, hx2]; exact ⟨HE.out.1, HE.out.2.1⟩⟩))
   simp only [results, Tryz.results11]; simp [go_sem, z0, z1, z2]
theorem vcheck_any (va vr pv fv : Value) (m : Mo) (ps : List (List (Int × Int))) (l : List (Int × Int)) (w : World) (hB : 0 < w.heap.size) (hT : TabAt w) (hV : TaskV w va vr pv fv m ps l) :
  Calls Tryz.prog 11 #[.agg #[va, vr, pv, fv]] w (VdAns w m ps l) := by
 by_cases hk : tkcode m ps l = 0
 ·by_cases hf : ExFull m ps l
  ·refine (vcheck_bad va vr pv fv m ps l w hV 12 (by decide) fun w' h => (explore_any va vr pv fv m ps l w' (Nat.lt_of_lt_of_le hB h.size) (hT.below h hB) (hV.below h)).mono fun e w2 hx => ?_).mono fun e w2 ⟨h1, h2⟩ => .inr (.inr (.inl ⟨hk, hf, h1, h2⟩))
   rcases hx with ⟨_, K, hD, _⟩ | ⟨_, _, h1, h2⟩ | ⟨h1, _, _⟩
   ·exact absurd hf (ex_not_both hD)
   ·exact ⟨h1, h2⟩
   ·exact absurd hk h1
  ·exact vcheck_ok va vr pv fv m ps l w hB hT hV hk hf
 ·refine (vcheck_bad va vr pv fv m ps l w hV (tkcode m ps l) hk fun w' h => (explore_any va vr pv fv m ps l w' (Nat.lt_of_lt_of_le hB h.size) (hT.below h hB) (hV.below h)).mono fun e w2 hx => ?_).mono fun e w2 ⟨h1, h2⟩ => .inr (.inr (.inr ⟨hk, h1, h2⟩))
  rcases hx with ⟨h0, _⟩ | ⟨h0, _⟩ | ⟨_, h1, h2⟩
  ·exact absurd h0 hk
  ·exact absurd h0 hk
  ·exact ⟨h1, h2⟩
end Go.Proofs.YteejnjcdfmedlaaGreatDoor
namespace Go.Proofs.YteejnjcdfmedlaaGreatDoor
open Go.ChangeShapes Go.WideShapes Go.ChangeAt Go.RowKit Go.Deep
open Terms Tm
set_option maxHeartbeats 6400000
set_option maxRecDepth 20000
structure PRun (m : Mo) (path : List Int) (s : Nat) : Prop where
 lt : s < path.length
 first : path.getD 0 0 = begC m
 step : ∀ i, i < path.length -> path.getD (moAt s path.length (i + 1)) 0 ∈ nextL m (path.getD i 0)
structure PWay (m : Mo) (ps : List (List (Int × Int))) (l : List (Int × Int)) (K : Nat) (x : List Nat) (s : Nat) : Prop where
 lt : s < x.length
 all : ∀ i, i < x.length -> x.getD i 0 < K
 first : x.getD 0 0 < (begL m ps l).length
 step : ∀ i, i < x.length -> x.getD (moAt s x.length (i + 1)) 0 ∈ nxt (exGr m ps l K) (x.getD i 0)
 met : ∀ k, k < (aheadL l).length -> ∃ i, s <= i /\ i < x.length /\ bitB ((xpT m ps l K).getD (x.getD i 0) 0) k = true
section
variable {m : Mo} {ps : List (List (Int × Int))} {l : List (Int × Int)} {K : Nat}
noncomputable def spA (m : Mo) (ps : List (List (Int × Int))) (l : List (Int × Int)) (K i : Nat) : Int × Int := (xpP m ps l K).getD i (0, 0)
theorem spA_mem (h : ExDone m ps l K) {i : Nat} (hi : i < K) : spA m ps l K i ∈ xpP m ps l K := by
 have hl : i < (xpP m ps l K).length := by rw [h.1]; exact hi
 unfold spA; rw [List.getD_eq_getElem?_getD, List.getElem?_eq_getElem hl]
 exact List.getElem_mem _
theorem spA_ok (h : ExDone m ps l K) {i : Nat} (hi : i < K) : spOk m l (spA m ps l K i) := h.2.2.2 _ (spA_mem h hi)
theorem spA_idx {s : Int × Int} (hs : s ∈ xpP m ps l K) : spA m ps l K ((xpP m ps l K).idxOf s) = s := by
 have hi := List.idxOf_lt_length_of_mem hs; unfold spA; rw [List.getD_eq_getElem?_getD, List.getElem?_eq_getElem hi]
 exact List.getElem_idxOf hi
theorem nxt_beh (h : ExDone m ps l K) {i j : Nat} (hi : i < K) (hj : j ∈ nxt (exGr m ps l K) i) : spA m ps l K j ∈ xpBh m ps l (spA m ps l K i) := by
 obtain ⟨r1, r2⟩ := xpN_row h hi; unfold nxt at hj; obtain ⟨z, hz, rfl⟩ := List.mem_map.1 hj; have hz' : z ∈ (xpN m ps l K).getD i [] := hz; obtain ⟨q, hq, e⟩ := List.getElem_of_mem hz'; have hq' : q < (xpBh m ps l ((xpP m ps l K).getD i (0, 0))).length := by rw [<- r1]; exact hq
 obtain ⟨r3, r4⟩ := r2 q hq'
 have e2 : ((xpN m ps l K).getD i []).getD q 0 = z := by
  generalize (xpN m ps l K).getD i [] = row at *; rw [List.getD_eq_getElem?_getD, List.getElem?_eq_getElem hq]
  exact e
 rw [<- e2, r3, Int.toNat_natCast, spA_idx r4]; rw [List.getD_eq_getElem?_getD (l := xpBh m ps l ((xpP m ps l K).getD i (0, 0))), List.getElem?_eq_getElem hq']
 exact List.getElem_mem _
theorem foTo_in {x : List Bool} {c : Int} {y : List Bool} {st : Int} {d : Nat} (hf : folR l x c y (d : Int) = true) : ∀ k, d < k -> (st, (d : Int)) ∈ foTo l x c y st k
 | 0, h => by omega
 | k + 1, h => by
  rw [foTo]
  by_cases e : d = k
  ·subst e
   rw [if_pos hf]; exact List.mem_append_right _ (List.mem_singleton.2 rfl)
  ·have := foTo_in hf (st := st) k (by omega)
   split
   ·exact List.mem_append_left _ this
   ·exact this
theorem beh_in {code c y : Int} {d : Nat} (hy : y ∈ nextL m code) (hd : d < 2 ^ (aheadL l).length) (hf : folR l (letL m ps code) c (letL m ps y) (d : Int) = true) : (y, (d : Int)) ∈ behL m ps l code c := by
 obtain ⟨q, hq, rfl⟩ := List.getElem_of_mem hy; have hg : (nextL m code).getD q 0 = (nextL m code)[q] := by rw [List.getD_eq_getElem?_getD, List.getElem?_eq_getElem hq]; rfl
 have key : ∀ i, q < i -> i <= (nextL m code).length -> ((nextL m code)[q], (d : Int)) ∈ behTo m ps l code c i := fun i => by
  induction i with
  | zero => intro h; omega
  | succ i ih =>
   intro h1 h2; rw [behTo, List.mem_append]
   by_cases e : q = i
   ·subst e
    refine .inr ?_
    rw [hg]; exact foTo_in hf _ hd
   ·exact .inl (ih (by omega) (by omega))
 exact key _ hq (Nat.le_refl _)
theorem beg_in {d : Nat} (hd : d < 2 ^ (aheadL l).length) (hf : tru l (letL m ps (begC m)) (d : Int) 0 ≠ true) : (begC m, (d : Int)) ∈ begL m ps l := by
 have key : ∀ k, d < k -> (begC m, (d : Int)) ∈ begTo m ps l k := fun k => by
  induction k with
  | zero => intro h; omega
  | succ k ih =>
   intro h; rw [begTo]
   by_cases e : d = k
   ·subst e
    rw [if_neg hf]; exact List.mem_append_right _ (List.mem_singleton.2 rfl)
   ·have := ih (by omega)
    split
    ·exact this
    ·exact List.mem_append_left _ this
 exact key _ hd
theorem tk_fol (hk : tkcode m ps l = 0) {x y : Int} {c d : Nat} (hx : 0 <= x /\ x < prodTo m.vars m.vars.length) (hy : 0 <= y /\ y < prodTo m.vars m.vars.length) (hc : c < 2 ^ (aheadL l).length) (hd : d < 2 ^ (aheadL l).length) : fcode l (letL m ps x) (c : Int) (letL m ps y) (d : Int) = 0 := by
 unfold fcode; rw [if_neg (by rw [(tk_let hk hx).2, (tk_let hk hy).2]; simp), if_neg (by rw [(tk_tru hk hx hc).1]; simp)]
 exact (tk_tru hk hy hd).1
end
section
variable {m : Mo} {ps : List (List (Int × Int))} {l : List (Int × Int)} {K : Nat}
theorem beg_len0 : (begL m ps l).length <= (xpP m ps l 0).length := by
 show _ <= (plTo [] (begL m ps l)).length
 have hsub : begL m ps l ⊆ plTo [] (begL m ps l) := fun x hx => (plTo_iff _ _ _).2 (.inr hx)
 exact (xbeg_nodup m ps l).length_le_of_subset hsub
theorem spA_beg {i : Nat} (hi : i < (begL m ps l).length) : spA m ps l K i ∈ begL m ps l := by
 have h0 : i < (xpP m ps l 0).length := Nat.lt_of_lt_of_le hi beg_len0; have e : spA m ps l K i = (xpP m ps l 0).getD i (0, 0) := exS_at (begL m ps l) (xpBh m ps l) (Nat.zero_le K) h0; rw [e]
 have hm : (xpP m ps l 0).getD i (0, 0) ∈ xpP m ps l 0 := by
  rw [List.getD_eq_getElem?_getD, List.getElem?_eq_getElem h0]
  exact List.getElem_mem _
 rcases (plTo_iff _ _ _).1 hm with h | h
 ·exact absurd h List.not_mem_nil
 ·exact h
theorem idx_beg {s : Int × Int} (hs : s ∈ begL m ps l) : (xpP m ps l K).idxOf s < (begL m ps l).length /\ s ∈ xpP m ps l K := by
 have h0 : s ∈ xpP m ps l 0 := (plTo_iff _ _ _).2 (.inr hs); have hpre : xpP m ps l 0 <+: xpP m ps l K := exS_le _ _ (Nat.zero_le K); refine ⟨?_, hpre.subset h0⟩
 rw [idx_pre hpre h0]; have h1 := List.idxOf_lt_length_of_mem h0
 have h2 : (xpP m ps l 0).length <= (begL m ps l).length := by
  have := (plTo_length (begL m ps l) []).2
  show (plTo [] (begL m ps l)).length <= _
  simpa using this
 omega
theorem getD_map {α β : Type} (f : α -> β) (x : List α) (d : α) (e : β) {i : Nat} (hi : i < x.length) : (x.map f).getD i e = f (x.getD i d) := by
 simp [List.getD_eq_getElem?_getD, hi]
theorem sub_zero (T : Tm) : T.sub 0 = T := by cases T <;> rfl
theorem way_run {T : Tm} (hw : T.Wf) (ho : T.ops = l) (hz : endsCode (l.map Prod.fst) = 0) (hv : ∀ q, q < l.length -> (l.getD q (0, 0)).1 = 13 -> 0 <= (l.getD q (0, 0)).2) (h8 : ∀ q, q < l.length -> 8 <= (l.getD q (0, 0)).1) (hk : tkcode m ps l = 0) (h : ExDone m ps l K) {x : List Nat} {s : Nat} (hx : PWay m ps l K x s) :
  PRun m (x.map fun i => (spA m ps l K i).1) s /\ T.hb (sig ((x.map fun i => (spA m ps l K i).1).map (letL m ps)) s) 0 = false := by
 have hn : (x.map fun i => (spA m ps l K i).1).length = x.length := List.length_map _
 have hln : ((x.map fun i => (spA m ps l K i).1).map (letL m ps)).length = x.length := by simp
 have hp : ∀ i, i < x.length -> (x.map fun i => (spA m ps l K i).1).getD i 0 = (spA m ps l K (x.getD i 0)).1 := fun i hi => getD_map _ x 0 0 hi
 have hls : ∀ i, i < x.length -> ((x.map fun i => (spA m ps l K i).1).map (letL m ps)).getD i [] = letL m ps (spA m ps l K (x.getD i 0)).1 := fun i hi => by rw [getD_map _ _ 0 [] (by rw [hn]; exact hi), hp i hi]
 have hmo : ∀ i, moAt s x.length i < x.length := fun i => moAt_lt hx.lt
 have hbh : ∀ i, i < x.length -> spA m ps l K (x.getD (moAt s x.length (i + 1)) 0) ∈ xpBh m ps l (spA m ps l K (x.getD i 0)) := fun i hi => nxt_beh h (hx.all i hi) (hx.step i hi)
 have h0 : 0 < x.length := Nat.lt_of_le_of_lt (Nat.zero_le _) hx.lt; obtain ⟨b1, d0, b2, b3, b4⟩ := xbg_mem _ (spA_beg (K := K) hx.first); refine ⟨⟨by rw [hn]; exact hx.lt, by rw [hp 0 h0]; exact b1, fun i hi => ?_⟩, ?_⟩
 ·rw [hn] at hi ⊢
  rw [hp i hi, hp _ (hmo _)]; exact (xbe_mem _ (Nat.le_refl _) (hbh i hi)).1
 ·have hcl := claims_only hw ho hz hv h8 (ls := (x.map fun i => (spA m ps l K i).1).map (letL m ps)) (s := s) (by rw [hln]; exact hx.lt) (fun i => (spA m ps l K (x.getD i 0)).2) (fun i hi => ?_) (fun i hi p hp1 hb => ?_) (fun p hp1 hb => ?_)
  ·have hc0 := hcl 0 (by rw [hln]; exact h0)
   have htr := claims_tru hw ho hz hv h8 (ls := (x.map fun i => (spA m ps l K i).1).map (letL m ps)) (s := s) (i := 0) (by rw [hln]; exact h0) (p := 0) (tk_ne hk)
   rw [<- hc0, hls 0 h0, sub_zero, b1, b3] at htr; rw [<- htr]
   cases hb : tru l (letL m ps (begC m)) (d0 : Int) 0 with
   | false => rfl
   | true => exact absurd hb b4
  ·rw [hln] at hi
   obtain ⟨_, d, g1, g2⟩ := spA_ok h (hx.all i hi); rw [g2]; have : ((2 ^ (aheadL l).length : Nat) : Int) = (2 : Int) ^ (aheadL l).length := by push_cast; rfl
   rw [<- this]; omega
  ·rw [hln] at hi ⊢
   obtain ⟨_, d, _, e2, e3⟩ := xbe_mem _ (Nat.le_refl _) (hbh i hi); rw [<- e2] at e3; rw [hls i hi, hls _ (hmo _)]
   have hF : Fol l (tru l (letL m ps (spA m ps l K (x.getD i 0)).1) (spA m ps l K (x.getD i 0)).2) (tru l (letL m ps (spA m ps l K (x.getD (moAt s x.length (i + 1)) 0)).1) (spA m ps l K (x.getD (moAt s x.length (i + 1)) 0)).2) := by
    by_cases hno : Fol l (tru l (letL m ps (spA m ps l K (x.getD i 0)).1) (spA m ps l K (x.getD i 0)).2) (tru l (letL m ps (spA m ps l K (x.getD (moAt s x.length (i + 1)) 0)).1) (spA m ps l K (x.getD (moAt s x.length (i + 1)) 0)).2)
    ·exact hno
    ·rw [folR_no hno] at e3; cases e3
   exact hF p hp1 hb
  ·obtain ⟨k1, k2⟩ := ahead_at hp1 hb
   obtain ⟨i, i1, i2, i3⟩ := hx.met _ k1; refine ⟨i, i1, by rw [hln]; exact i2, ?_⟩
   rw [hls i i2]; obtain ⟨g0, d, g1, g2⟩ := spA_ok h (hx.all i i2); rw [xpT_get (hx.all i i2), xpAt_eq h (hx.all i i2)] at i3; have i4 : bitB (metN l (letL m ps (spA m ps l K (x.getD i 0)).1) (spA m ps l K (x.getD i 0)).2) (aheadTo l p).length = true := i3; rw [g2] at i4 ⊢; unfold metN at i4; rw [if_pos (tk_tru hk g0 g1).1, met_bit _ _ k1, k2] at i4; unfold waitAt at i4
   simp only [Int.toNat_natCast] at i4; simpa using i4
theorem run_way {T : Tm} (hw : T.Wf) (ho : T.ops = l) (hz : endsCode (l.map Prod.fst) = 0) (hv : ∀ q, q < l.length -> (l.getD q (0, 0)).1 = 13 -> 0 <= (l.getD q (0, 0)).2) (h8 : ∀ q, q < l.length -> 8 <= (l.getD q (0, 0)).1) (hk : tkcode m ps l = 0) (h : ExDone m ps l K) {path : List Int} {s : Nat} (hr : PRun m path s) (hno : T.hb (sig (path.map (letL m ps)) s) 0 = false) :
  ∃ x : List Nat, x.length = path.length /\ PWay m ps l K x s := by
 obtain ⟨hm0, _⟩ := pcode_m (tk_zero hk).1; have hln : (path.map (letL m ps)).length = path.length := List.length_map _; have hls : ∀ i, i < path.length -> (path.map (letL m ps)).getD i [] = letL m ps (path.getD i 0) := fun i hi => getD_map _ _ 0 [] hi
 have h0 : 0 < path.length := Nat.lt_of_le_of_lt (Nat.zero_le _) hr.lt; have hmo : ∀ i, moAt s path.length i < path.length := fun i => moAt_lt hr.lt
 obtain ⟨mine, hmine⟩ : ∃ mine : Nat -> Int, mine = fun i => clmTo (aheadL l) (fun q => (T.sub q).hb (sig (path.map (letL m ps)) s)) i (aheadL l).length := ⟨_, rfl⟩
 obtain ⟨f1, f2⟩ := claims_fit hw ho hz hv h8 (ls := path.map (letL m ps)) (s := s) (by rw [hln]; exact hr.lt) mine (fun i _ => by rw [hmine])
 rw [hln] at f1 f2; have hpw : ((2 ^ (aheadL l).length : Nat) : Int) = (2 : Int) ^ (aheadL l).length := by push_cast; rfl
 have hmd : ∀ i, ∃ d : Nat, d < 2 ^ (aheadL l).length /\ mine i = (d : Int) := fun i => by
  obtain ⟨c0, c1⟩ := clmTo_bounds (aheadL l) (fun q => (T.sub q).hb (sig (path.map (letL m ps)) s)) i (aheadL l).length
  have e : mine i = clmTo (aheadL l) (fun q => (T.sub q).hb (sig (path.map (letL m ps)) s)) i (aheadL l).length := by rw [hmine]
  rw [<- e] at c0 c1; exact ⟨(mine i).toNat, by rw [<- hpw] at c1; omega, by omega⟩
 have hst : ∀ i, i < path.length -> 0 <= path.getD i 0 /\ path.getD i 0 < prodTo m.vars m.vars.length := fun i => by
  induction i with
  | zero => intro _; rw [hr.first]; exact tk_beg hk
  | succ i ih =>
   intro hi; have h1 := hr.step i (by omega)
   rw [moAt_low hi] at h1; exact nextL_st hm0 (ih (by omega)) h1
 have hbh : ∀ i, i < path.length -> (path.getD (moAt s path.length (i + 1)) 0, mine (moAt s path.length (i + 1))) ∈ xpBh m ps l (path.getD i 0, mine i) := fun i hi => by
  obtain ⟨c, c1, c2⟩ := hmd i; obtain ⟨d, d1, d2⟩ := hmd (moAt s path.length (i + 1)); rw [d2]; refine beh_in (hr.step i hi) d1 ?_
  show folR l (letL m ps (path.getD i 0)) (mine i) (letL m ps (path.getD (moAt s path.length (i + 1)) 0)) (d : Int) = true
  rw [<- d2]; refine folR_yes ?_ ?_
  ·rw [c2, d2]
   exact tk_fol hk (hst i hi) (hst _ (hmo _)) c1 d1
  ·intro p hp hb
   have := f1 i hi p hp hb; rw [hls i hi, hls _ (hmo _)] at this; exact this
 have hbeg : (path.getD 0 0, mine 0) ∈ begL m ps l := by
  obtain ⟨d, d1, d2⟩ := hmd 0; rw [hr.first, d2]; refine beg_in d1 ?_
  have htr := claims_tru hw ho hz hv h8 (ls := path.map (letL m ps)) (s := s) (i := 0) (by rw [hln]; exact h0) (p := 0) (tk_ne hk)
  have e : mine 0 = clmTo (aheadL l) (fun q => (T.sub q).hb (sig (path.map (letL m ps)) s)) 0 (aheadL l).length := by rw [hmine]
  rw [<- e, hls 0 h0, sub_zero, hno, hr.first, d2] at htr; rw [htr]
  simp
 have hmem : ∀ i, i < path.length -> (path.getD i 0, mine i) ∈ xpP m ps l K := fun i => by
  induction i with
  | zero => intro _; exact (idx_beg hbeg).2
  | succ i ih =>
   intro hi; have h1 := hbh i (by omega)
   rw [moAt_low hi] at h1; exact (exGr_step h (ih (by omega)) h1).1
 have hxl : ((List.range path.length).map fun i => (xpP m ps l K).idxOf (path.getD i 0, mine i)).length = path.length := by simp
 have hx : ∀ i, i < path.length -> ((List.range path.length).map fun i => (xpP m ps l K).idxOf (path.getD i 0, mine i)).getD i 0 = (xpP m ps l K).idxOf (path.getD i 0, mine i) := fun i hi => by simp [List.getD_eq_getElem?_getD, hi]
 refine ⟨(List.range path.length).map fun i => (xpP m ps l K).idxOf (path.getD i 0, mine i), hxl, ⟨by rw [hxl]; exact hr.lt, fun i hi => ?_, ?_, fun i hi => ?_, fun k hkk => ?_⟩⟩
 ·rw [hxl] at hi
  rw [hx i hi]; have := List.idxOf_lt_length_of_mem (hmem i hi); rw [h.1] at this; exact this
 ·rw [hx 0 h0]
  exact (idx_beg hbeg).1
 ·rw [hxl] at hi ⊢
  rw [hx i hi, hx _ (hmo _)]; exact (exGr_step h (hmem i hi) (hbh i hi)).2
 ·obtain ⟨p, e1, e2, e3, e4⟩ := aheadTo_get l l.length k hkk
  have e1' : (aheadL l).getD k 0 = (p : Int) := e1; obtain ⟨i, i1, i2, i3⟩ := f2 p e2 e3; refine ⟨i, i1, by rw [hxl]; exact i2, ?_⟩
  have hiK : (xpP m ps l K).idxOf (path.getD i 0, mine i) < K := by
   have := List.idxOf_lt_length_of_mem (hmem i i2); rw [h.1] at this; exact this
  have hsp : spA m ps l K ((xpP m ps l K).idxOf (path.getD i 0, mine i)) = (path.getD i 0, mine i) := spA_idx (hmem i i2); have hsp' : (xpP m ps l K).getD ((xpP m ps l K).idxOf (path.getD i 0, mine i)) (0, 0) = (path.getD i 0, mine i) := hsp; rw [hx i i2, xpT_get hiK, xpAt_eq h hiK, hsp']; simp only
  obtain ⟨d, d1, d2⟩ := hmd i; rw [hls i i2] at i3; unfold metN; rw [d2] at i3 ⊢; rw [if_pos (tk_tru hk (hst i i2) d1).1, met_bit _ _ hkk, e1']; unfold waitAt; simp only [Int.toNat_natCast]; rw [i3]; rfl
end
theorem bitB_nat (n i : Nat) : bitB (n : Int) i = n.testBit i := by
 unfold bitB; rw [Nat.testBit_eq_decide_div_mod_eq]; have e : ((n / 2 ^ i % 2 : Nat) : Int) = (n : Int) / 2 ^ i % 2 := by push_cast; rfl
 rw [<- e]
 apply decide_eq_decide.2
 omega
theorem Trail.at {nx : Nat -> List Nat} : ∀ {L : List Nat}, Trail nx L -> ∀ i, i + 1 < L.length -> L.getD (i + 1) 0 ∈ nx (L.getD i 0)
 | [], _, i, h => by simp at h
 | [_], _, i, h => by simp at h
 | a :: b :: L, h, 0, _ => by simpa using h.1
 | a :: b :: L, h, i + 1, hi => by
  have := Trail.at (L := b :: L) h.2 i (by simpa using hi)
  simpa using this
section
variable {m : Mo} {ps : List (List (Int × Int))} {l : List (Int × Int)} {K : Nat}
theorem exGr_bit {i k : Nat} : (sN (exGr m ps l K) i).testBit k = bitB ((xpT m ps l K).getD i 0) k \/ (xpT m ps l K).getD i 0 < 0 := by
 by_cases h : (xpT m ps l K).getD i 0 < 0
 ·exact .inr h
 ·refine .inl ?_
  obtain ⟨n, hn⟩ : ∃ n : Nat, (xpT m ps l K).getD i 0 = (n : Int) := ⟨((xpT m ps l K).getD i 0).toNat, by omega⟩
  show ((xpT m ps l K).getD i 0).toNat.testBit k = _
  rw [hn, bitB_nat, Int.toNat_natCast]
theorem xpT_pos {i : Nat} (hi : i < K) : ¬ (xpT m ps l K).getD i 0 < 0 := by
 rw [xpT_get hi]; have := (metN_range l (letL m ps (xpAt m ps l i).1) (xpAt m ps l i).2).1; omega
theorem lasso_way (h : ExDone m ps l K) {st lp : List Nat} (hL : LassoOk (exGr m ps l K) st lp) : PWay m ps l K (st ++ lp) st.length := by
 have hK : (exGr m ps l K).spots.length = K := h.1; have hlp : 0 < lp.length := List.length_pos_iff.2 hL.ne; have hn : (st ++ lp).length = st.length + lp.length := List.length_append
 have hall : ∀ i, i < (st ++ lp).length -> (st ++ lp).getD i 0 < K := fun i hi => by
  have := hL.lt ((st ++ lp).getD i 0) (by rw [List.getD_eq_getElem?_getD, List.getElem?_eq_getElem hi]; exact List.getElem_mem _)
  rw [hK] at this; exact this
 have hg : ∀ i, i < (st ++ lp).length -> (st ++ lp ++ [lp.getD 0 0]).getD i 0 = (st ++ lp).getD i 0 := fun i hi => by
  simp only [List.getD_eq_getElem?_getD]
  rw [List.getElem?_append_left hi]
 have hlast : (st ++ lp ++ [lp.getD 0 0]).getD (st ++ lp).length 0 = (st ++ lp).getD st.length 0 := by
  simp only [List.getD_eq_getElem?_getD]
  rw [List.getElem?_append_right (Nat.le_refl _), Nat.sub_self, List.getElem?_append_right (Nat.le_refl _), Nat.sub_self]
  rfl
 refine ⟨by omega, hall, ?_, fun i hi => ?_, fun k hk => ?_⟩
 ·have := hL.head
  have e : (exGr m ps l K).init = ((begL m ps l).length : Nat) := rfl; rw [e] at this; omega
 ·have htr := hL.trail.at i (by simp at hi ⊢; omega)
  rw [hg i hi] at htr
  by_cases hi2 : i + 1 < (st ++ lp).length
  ·rw [moAt_low hi2]
   rw [hg _ hi2] at htr; exact htr
  ·have e : i + 1 = (st ++ lp).length := by omega
   have hm : moAt st.length (st ++ lp).length (i + 1) = st.length := by
    rw [e]; unfold moAt; rw [if_neg (Nat.lt_irrefl _), Nat.mod_self]; rfl
   rw [hm]; rw [e, hlast] at htr; exact htr
 ·have hk' : k < mN (exGr m ps l K) := by
   show k < (((aheadL l).length : Nat) : Int).toNat
   rw [Int.toNat_natCast]; exact hk
  obtain ⟨x, hx, hb⟩ := hL.bits k hk'; obtain ⟨q, hq, rfl⟩ := List.getElem_of_mem hx; have hi : st.length + q < (st ++ lp).length := by omega
  have hge : (st ++ lp).getD (st.length + q) 0 = lp[q] := by
   simp only [List.getD_eq_getElem?_getD]
   rw [List.getElem?_append_right (by omega), show st.length + q - st.length = q by omega, List.getElem?_eq_getElem hq]
   rfl
  refine ⟨st.length + q, by omega, hi, ?_⟩
  rw [hge]; have hlt : lp[q] < K := by rw [<- hge]; exact hall _ hi
  rcases exGr_bit (m := m) (ps := ps) (l := l) (K := K) (i := lp[q]) (k := k) with e | e
  ·rw [<- e]; exact hb
  ·exact absurd e (xpT_pos hlt)
theorem way_fair (h : ExDone m ps l K) {x : List Nat} {s : Nat} (hx : PWay m ps l K x s) : fairC (exGr m ps l K) = 0 := by
 have hK : (exGr m ps l K).spots.length = K := h.1
 have hfw : ∀ i j, i <= j -> j < x.length -> Way (nxt (exGr m ps l K)) (x.getD i 0) (x.getD j 0) := fun i j hij => by
  induction hij with
  | refl => intro _; exact .stay
  | @step j hj ih =>
   intro hlt; have h1 := ih (by omega)
   have h2 := hx.step j (by omega)
   rw [moAt_low hlt] at h2; exact h1.step h2
 have hback : x.getD s 0 ∈ nxt (exGr m ps l K) (x.getD (x.length - 1) 0) := by
  have h1 := hx.step (x.length - 1) (by have := hx.lt; omega)
  have e : x.length - 1 + 1 = x.length := by have := hx.lt; omega
  have hm : moAt s x.length x.length = s := by
   unfold moAt; rw [if_neg (Nat.lt_irrefl _), Nat.mod_self]; rfl
  rw [e, hm] at h1; exact h1
 have hlt := hx.lt; have hmut : ∀ i, s <= i -> i < x.length -> Mut (exGr m ps l K) (x.getD s 0) (x.getD i 0) := fun i h1 h2 => ⟨hfw s i h1 h2, (hfw i (x.length - 1) (by omega) (by omega)).step hback⟩
 refine fair_some (x := x.getD s 0) (by rw [hK]; exact hx.all s hlt) ⟨⟨x.getD 0 0, ?_, hfw 0 s (Nat.zero_le _) hlt⟩, ⟨x.getD (x.length - 1) 0, x.getD s 0, hmut _ (by omega) (by omega), ⟨.stay, .stay⟩, hback⟩, fun k hk => ?_⟩
 ·rw [List.mem_range]
  show x.getD 0 0 < (((begL m ps l).length : Nat) : Int).toNat
  rw [Int.toNat_natCast]; exact hx.first
 ·have hk' : k < (aheadL l).length := by
   have : k < (((aheadL l).length : Nat) : Int).toNat := hk; rw [Int.toNat_natCast] at this; exact this
  obtain ⟨i, i1, i2, i3⟩ := hx.met k hk'; refine ⟨x.getD i 0, hmut i i1 i2, ?_⟩
  rcases exGr_bit (m := m) (ps := ps) (l := l) (K := K) (i := x.getD i 0) (k := k) with e | e
  ·rw [e]; exact i3
  ·exact absurd e (xpT_pos (hx.all i i2))
end
def AllKeep (m : Mo) (ps : List (List (Int × Int))) (T : Tm) : Prop := ∀ (path : List Int) (s : Nat), PRun m path s -> T.hb (sig (path.map (letL m ps)) s) 0 = true
section
variable {m : Mo} {ps : List (List (Int × Int))} {l : List (Int × Int)} {K : Nat}
theorem keep_of_none {T : Tm} (hw : T.Wf) (ho : T.ops = l) (hz : endsCode (l.map Prod.fst) = 0) (hv : ∀ q, q < l.length -> (l.getD q (0, 0)).1 = 13 -> 0 <= (l.getD q (0, 0)).2) (h8 : ∀ q, q < l.length -> 8 <= (l.getD q (0, 0)).1) (hk : tkcode m ps l = 0) (h : ExDone m ps l K) (hf : fairC (exGr m ps l K) ≠ 0) : AllKeep m ps T := fun path s hr => by
 cases hb : T.hb (sig (path.map (letL m ps)) s) 0 with
 | true => rfl
 | false =>
  obtain ⟨x, _, hx⟩ := run_way hw ho hz hv h8 hk h hr hb; exact absurd (way_fair h hx) hf
theorem not_keep {T : Tm} (hw : T.Wf) (ho : T.ops = l) (hz : endsCode (l.map Prod.fst) = 0) (hv : ∀ q, q < l.length -> (l.getD q (0, 0)).1 = 13 -> 0 <= (l.getD q (0, 0)).2) (h8 : ∀ q, q < l.length -> 8 <= (l.getD q (0, 0)).1) (hk : tkcode m ps l = 0) (h : ExDone m ps l K) {st lp : List Nat} (hL : LassoOk (exGr m ps l K) st lp) : ¬ AllKeep m ps T := fun ha => by
 obtain ⟨h1, h2⟩ := way_run hw ho hz hv h8 hk h (lasso_way h hL); rw [ha _ _ h1] at h2
 cases h2
theorem keep_yes (v : Int) : AllKeep m ps (leaf 11 v) := fun _ _ _ => hb_yes _ _ _
end
section
variable {σ : Nat -> Nat -> Bool} {v : Int} {a b : Tm} {i : Nat}
end
theorem PropsFn_any (w : World) : Calls Tryz.prog 63 #[] w fun e w2 => ∃ pb, e = .returned (.slice (some ⟨pb, 0, none⟩) 3 3) /\ Below w.heap.size w w2 /\ Hid (TermsV w2 (.slice (some ⟨pb, 0, none⟩) 3 3) propsL) := by
 have hp := propsFn_any w
 go_enter Tryz.func63, Tryz.ntmps63
 go_wp2_with (go_at_call 19; refine hp.mono ?_; rintro e w2 ⟨pb, rfl, hb, hP⟩)
 go_ret
 exact ⟨pb, rfl, hb, hP⟩
def MdOk (w : World) (c0 c1 c2 c3 c4 c5 c6 : Value) (m : Mo) : Prop := ∀ w', Below w.heap.size w w' -> Calls Tryz.prog 16 #[.agg #[c0, c1, c2, c3, c4, c5, c6]] w' fun e w2 => ∃ ao ac ro rn rc, e = .returned (.agg #[.slice ao 2 ac, .slice ro rn rc]) /\ Below w'.heap.size w' w2 /\ Hid (ModelV w2 (.slice ao 2 ac) (.slice ro rn rc) m /\ mcode m = 0 /\ ∀ j, j < m.rules.length -> (m.rules.getD j ru0).guard ≠ [])
theorem mdOk {w : World} {c0 c1 c2 c3 c4 c5 c6 : Value} {a b : Vr} {rules : List Ru} (hG : GV a b) (h : ∀ w', Below w.heap.size w w' -> Calls Tryz.prog 16 #[.agg #[c0, c1, c2, c3, c4, c5, c6]] w' fun e w2 => ∃ va vr, e = .returned (.agg #[va, vr]) /\ Below w'.heap.size w' w2 /\ GModelR w2 va vr [a, b] rules) : MdOk w c0 c1 c2 c3 c4 c5 c6 ⟨[a, b], rules⟩ := fun w' hb => (h w' hb).mono fun e w2 ⟨va, vr, h1, h2, h3⟩ => by
 obtain ⟨ao, ac, ro, rn, rc, rfl, rfl, _⟩ := h3.gm.shape; obtain ⟨g1, g2, g3⟩ := h3; exact ⟨ao, ac, ro, rn, rc, h1, h2, g1, hG.mcode (by omega) g3, fun j hj => rcode_guard (g3 j hj)⟩
theorem ttask_any (c0 c1 c2 c3 c4 c5 c6 : Value) (m : Mo) (fo : Option Addr) (fn fc : Nat) (l : List (Int × Int)) (w : World) (hM : MdOk w c0 c1 c2 c3 c4 c5 c6 m) (hO : OpsV w (.slice fo fn fc) l) :
  Calls Tryz.prog 36 #[.agg #[c0, c1, c2, c3, c4, c5, c6], .slice fo fn fc] w fun e w' => ∃ ao ac ro rn rc pb, e = .returned (.agg #[.slice ao 2 ac, .slice ro rn rc, .slice (some ⟨pb, 0, none⟩) 3 3, .slice fo fn fc]) /\ Below w.heap.size w w' /\ Hid (TaskV w' (.slice ao 2 ac) (.slice ro rn rc) (.slice (some ⟨pb, 0, none⟩) 3 3) (.slice fo fn fc) m propsL l /\ mcode m = 0) := by
 obtain ⟨W1, hW1⟩ : ∃ W1, W1 = (w.alloc (.cells #[c0, c1, c2, c3, c4, c5, c6] 25)).alloc (.cells #[.slice none 0 0, .slice none 0 0, .slice none 0 0, .slice none 0 0] 34) := ⟨_, rfl⟩
 have hb1 : Below w.heap.size w W1 := by rw [hW1]; exact ((Below.refl _ _).alloc (Nat.le_refl _) _).alloc (by simp) _
 have HBx : Hid (∀ w', Below (w.heap.size + 2) W1 w' -> (w'.cell? ⟨w.heap.size + 1, 0, none⟩ = some (.slice none 0 0) /\ w'.cell? ⟨w.heap.size + 1, 1, none⟩ = some (.slice none 0 0) /\ w'.cell? ⟨w.heap.size + 1, 2, none⟩ = some (.slice none 0 0) /\ w'.cell? ⟨w.heap.size + 1, 3, none⟩ = some (.slice none 0 0)) /\ (w'.frozen? ⟨w.heap.size + 1, 0, none⟩ = false /\ w'.frozen? ⟨w.heap.size + 1, 1, none⟩ = false /\ w'.frozen? ⟨w.heap.size + 1, 2, none⟩ = false /\ w'.frozen? ⟨w.heap.size + 1, 3, none⟩ = false)) := fun w' h => by
  have hlt : w.heap.size + 1 < w.heap.size + 2 := by omega
  refine ⟨⟨?_, ?_, ?_, ?_⟩, ?_, ?_, ?_, ?_⟩
  ·exact (h.cell (p := ⟨w.heap.size + 1, 0, none⟩) hlt).trans (by rw [hW1]; simp [go_sem])
  ·exact (h.cell (p := ⟨w.heap.size + 1, 1, none⟩) hlt).trans (by rw [hW1]; simp [go_sem])
  ·exact (h.cell (p := ⟨w.heap.size + 1, 2, none⟩) hlt).trans (by rw [hW1]; simp [go_sem])
  ·exact (h.cell (p := ⟨w.heap.size + 1, 3, none⟩) hlt).trans (by rw [hW1]; simp [go_sem])
  ·exact (h.frozen (p := ⟨w.heap.size + 1, 0, none⟩) hlt).trans (by rw [hW1]; simp [go_sem])
  ·exact (h.frozen (p := ⟨w.heap.size + 1, 1, none⟩) hlt).trans (by rw [hW1]; simp [go_sem])
  ·exact (h.frozen (p := ⟨w.heap.size + 1, 2, none⟩) hlt).trans (by rw [hW1]; simp [go_sem])
  ·exact (h.frozen (p := ⟨w.heap.size + 1, 3, none⟩) hlt).trans (by rw [hW1]; simp [go_sem])
 have hz1 : W1.heap.size = w.heap.size + 2 := by rw [hW1]; simp
 have hmo := hM W1 hb1; have HO : Hid (OpsV w (.slice fo fn fc) l) := hO; clear hM hO; subst hW1
 go_enter Tryz.func36, Tryz.ntmps36
 go_wp2_with (first
  | (go_at_call 16; refine hmo.mono ?_; rintro e w2 ⟨ao, ac, ro, rn, rc, rfl, hb2, HM⟩; have hbw2 := hb1.trans (hb2.mono hb1.size); have hpr := PropsFn_any w2)
  | (go_at_call 63; refine hpr.mono ?_; rintro e w3 ⟨pb, rfl, hb3, HP⟩; have hbw3 := hbw2.trans (hb3.mono hbw2.size); have hb24 := hb2.trans (hb3.mono hb2.size); obtain ⟨⟨k0, k1, k2, k3⟩, g0, g1, g2, g3⟩ := HBx.out w3 (hb24.mono (by omega))))
 have hn : NilTo (w.heap.size + 1) w3 ((((w3.setCell ⟨w.heap.size + 1, 0, none⟩ (.slice ao 2 ac)).setCell ⟨w.heap.size + 1, 1, none⟩ (.slice ro rn rc)).setCell ⟨w.heap.size + 1, 2, none⟩ (.slice (some ⟨pb, 0, none⟩) 3 3)).setCell ⟨w.heap.size + 1, 3, none⟩ (.slice fo fn fc)) := by
  refine ⟨by simp, fun i v hv => ?_, fun b hb => ?_⟩
  ·have hblk := (hb24.mono (show w.heap.size + 2 <= _ by omega)).block (w.heap.size + 1) (by omega)
   have hx : ((w.alloc (.cells #[c0, c1, c2, c3, c4, c5, c6] 25)).alloc (.cells #[.slice none 0 0, .slice none 0 0, .slice none 0 0, .slice none 0 0] 34)).cell? ⟨w.heap.size + 1, i, none⟩ = some v := by rw [<- hv]; exact (World.cell?_of_block hblk).symm
   have hy := (MapKept.heap_alloc (w.alloc (.cells #[c0, c1, c2, c3, c4, c5, c6] 25)) (.cells #[.slice none 0 0, .slice none 0 0, .slice none 0 0, .slice none 0 0] 34)).1; rw [World.size_alloc] at hy; simp only [World.cell?, hy] at hx
   have hi : i < 4 := by
    rcases Nat.lt_or_ge i 4 with h | h
    ·exact h
    ·simp [Array.getElem?_eq_none (show (#[Value.slice none 0 0, .slice none 0 0, .slice none 0 0, .slice none 0 0] : Array Value).size <= i from h)] at hx
   rcases (show i = 0 \/ i = 1 \/ i = 2 \/ i = 3 by omega) with rfl | rfl | rfl | rfl <;> simpa using hx.symm
  ·rw [RowKit.Below.heap_setCell _ _ _ _ hb, RowKit.Below.heap_setCell _ _ _ _ hb, RowKit.Below.heap_setCell _ _ _ _ hb, RowKit.Below.heap_setCell _ _ _ _ hb]
 obtain ⟨m1, m2, m4⟩ := HM.out
 refine bodyPost_ret (v := .agg #[.slice ao 2 ac, .slice ro rn rc, .slice (some ⟨pb, 0, none⟩) 3 3, .slice fo fn fc]) ?_ rfl ⟨ao, ac, ro, rn, rc, pb, rfl, (((hbw3.setCell (p := ⟨w.heap.size + 1, 0, none⟩) (by simp) _).setCell (p := ⟨w.heap.size + 1, 1, none⟩) (by simp) _).setCell (p := ⟨w.heap.size + 1, 2, none⟩) (by simp) _).setCell (p := ⟨w.heap.size + 1, 3, none⟩) (by simp) _, ⟨⟨(m1.1.below hb3).nilTo hn, (m1.2.below hb3).nilTo m4 hn⟩, HP.out.nilTo (fun j hj => ?_) hn, (HO.out.below hbw3).nilTo hn⟩, m2⟩
 ·simp [results, Tryz.results36, go_sem, k0, k1, k2, k3]
 ·have hj3 : j < 3 := hj
  rcases (show j = 0 \/ j = 1 \/ j = 2 by omega) with rfl | rfl | rfl <;> simp [propsL]
def Kp (m : Mo) (T : Tm) (b : Bool) : Prop := (b = true ↔ AllKeep m propsL T) /\ tkcode m propsL [(11, 0)] = 0
theorem few_spots {m : Mo} {a b : Vr} {l : List (Int × Int)} {mm : Nat} (hG : GV a b) (hk : KTaskOk m l mm) (hvars : m.vars = [a, b]) : ¬ ExFull m propsL l := by
 have hspan : 1 <= vspan a * vspan b /\ vspan a * vspan b <= 16 := by
  have h1 : 1 <= vspan a /\ vspan a <= 4 := by have := hG.a2; have := hG.a3; unfold vspan; omega
  have h2 : 1 <= vspan b /\ vspan b <= 4 := by have := hG.b2; have := hG.b3; unfold vspan; omega
  obtain ⟨x1, x2⟩ := h1; obtain ⟨y1, y2⟩ := h2; generalize vspan a = x at *; generalize vspan b = y at *
  rcases (show x = 1 \/ x = 2 \/ x = 3 \/ x = 4 by omega) with rfl | rfl | rfl | rfl <;> omega
 have hah : (aheadL l).length = mm := by obtain ⟨T, hT⟩ := hk.fo; exact hT.ahead
 refine xp_few (P := (vspan a * vspan b).toNat) hk.code ?_ ?_
 ·rw [hvars]
  show prodTo [a, b] 2 = _
  rw [prod_two]; omega
 ·rw [hah]
  have : 2 ^ mm <= 2 ^ 6 := Nat.pow_le_pow_right (by decide) hk.many
  have h3 : (vspan a * vspan b).toNat * 2 ^ mm <= 16 * 64 := Nat.mul_le_mul (by omega) (by omega)
  omega
theorem vcheck_keep (va vr pv fv : Value) (m : Mo) (a b : Vr) (l : List (Int × Int)) (T : Tm) (mm : Nat) (w : World) (hB : 0 < w.heap.size) (hT : TabAt w) (hV : TaskV w va vr pv fv m propsL l) (hG : GV a b) (hvars : m.vars = [a, b]) (hmc : mcode m = 0) (hF : FOk mm l T) (hl : l.length <= 59) (hmm : mm <= 6) :
  Calls Tryz.prog 11 #[.agg #[va, vr, pv, fv]] w fun e w' => ∃ bb so sn sc lo ln lc, e = .returned (.tuple #[.agg #[.bool bb, .slice so sn sc, .slice lo ln lc], .int .i64 0]) /\ Below w.heap.size w w' /\ Hid (Kp m T bb) := by
 have hv2 : m.vars.length = 2 := by rw [hvars]; rfl
 have hK : KTaskOk m l mm := ⟨hmc, hv2, ⟨T, hF⟩, hl, hmm⟩; have hk0 : tkcode m propsL [(11, 0)] = 0 := (KTaskOk.mk hmc hv2 ⟨_, FOk.yes⟩ (by decide) (by decide) : KTaskOk m [(11, 0)] 0).code
 have hgv := good_vals hF; have hz := hF.ends (by omega)
 refine (vcheck_any va vr pv fv m propsL l w hB hT hV).mono fun e w' hx => ?_
 rcases hx with ⟨hk, ⟨K, hD, hfc⟩, h1, h2⟩ | ⟨hk, K, st, lp, A, B, hD, hL, _, _, h1, h2, _⟩ | ⟨hk, hf, _, _⟩ | ⟨hk, _, _⟩
 ·exact ⟨true, _, _, _, _, _, _, h1, h2, ⟨fun _ => keep_of_none hF.wf hF.ops hz hgv.1 hgv.2 hk hD (by rw [hfc]; decide), fun _ => rfl⟩, hk0⟩
 ·exact ⟨false, _, _, _, _, _, _, h1, h2, ⟨fun h => (by cases h), fun h => absurd h (not_keep hF.wf hF.ops hz hgv.1 hgv.2 hk hD hL)⟩, hk0⟩
 ·exact absurd hf (few_spots hG hK hvars)
 ·exact absurd hK.code hk
theorem tholds_any (c0 c1 c2 c3 c4 c5 c6 : Value) (m : Mo) (a b : Vr) (fv : Value) (l : List (Int × Int)) (T : Tm) (mm : Nat) (w : World) (hB : 0 < w.heap.size) (hT : TabAt w) (hG : GV a b) (hvars : m.vars = [a, b]) (hM : MdOk w c0 c1 c2 c3 c4 c5 c6 m) (hO : OpsV w fv l) (hF : FOk mm l T) (hl : l.length <= 59) (hmm : mm <= 6) :
  Calls Tryz.prog 12 #[.agg #[c0, c1, c2, c3, c4, c5, c6], fv] w fun e w' => ∃ bb, e = .returned (.tuple #[.bool bb, .bool true]) /\ Below w.heap.size w w' /\ Hid (Kp m T bb) := by
 obtain ⟨fo, fc, rfl, _⟩ := id hO; have hA1 : Below w.heap.size w (w.alloc (.cells #[c0, c1, c2, c3, c4, c5, c6] 25)) := (Below.refl _ _).alloc (Nat.le_refl _) _; have htk := ttask_any c0 c1 c2 c3 c4 c5 c6 m fo l.length fc l _ (fun w' h => hM w' (hA1.trans (h.mono hA1.size))) (hO.below hA1)
 have HVc : Hid (∀ (w' : World) (va vr pv fv : Value), Below w.heap.size w w' -> TaskV w' va vr pv fv m propsL l -> mcode m = 0 -> Calls Tryz.prog 11 #[.agg #[va, vr, pv, fv]] w' fun e w2 => ∃ bb so sn sc lo ln lc, e = .returned (.tuple #[.agg #[.bool bb, .slice so sn sc, .slice lo ln lc], .int .i64 0]) /\ Below w'.heap.size w' w2 /\ Hid (Kp m T bb)) := fun w' va vr pv fv h hv hmc => vcheck_keep va vr pv fv m a b l T mm w' (Nat.lt_of_lt_of_le hB h.size) (hT.below h hB) hv hG hvars hmc hF hl hmm
 clear hM hO hF hT; generalize l.length = fn at *
 go_enter Tryz.func12, Tryz.ntmps12
 go_wp2_with (first
  | (go_at_call 36; refine htk.mono ?_; rintro e w1 ⟨ao, ac, ro, rn, rc, pb, rfl, hb1, HV⟩; have hbw1 := hA1.trans (hb1.mono hA1.size); have hvc := HVc.out w1 _ _ _ _ hbw1 HV.out.1 HV.out.2)
  | (go_at_call 11; refine hvc.mono ?_; rintro e w2 ⟨bb, so, sn, sc, lo, ln, lc, rfl, hb2, HK⟩))
 refine bodyPost_ret (v := .tuple #[.bool bb, .bool true]) ?_ rfl ⟨bb, rfl, (hbw1.trans (hb2.mono hbw1.size)).alloc (Nat.le_trans hbw1.size hb2.size) _, HK⟩
 simp [results, Tryz.results12, go_sem]
def HoldsOk (w : World) (c0 c1 c2 c3 c4 c5 c6 : Value) (m : Mo) : Prop := ∀ (w' : World) (fv : Value) (l : List (Int × Int)) (T : Tm) (mm : Nat), Below w.heap.size w w' -> OpsV w' fv l -> FOk mm l T -> l.length <= 59 -> mm <= 6 -> Calls Tryz.prog 12 #[.agg #[c0, c1, c2, c3, c4, c5, c6], fv] w' fun e w2 => ∃ bb, e = .returned (.tuple #[.bool bb, .bool true]) /\ Below w'.heap.size w' w2 /\ Hid (Kp m T bb)
theorem holdsOk {w : World} {c0 c1 c2 c3 c4 c5 c6 : Value} {a b : Vr} {rules : List Ru} (hB : 0 < w.heap.size) (hT : TabAt w) (hG : GV a b) (h : ∀ w', Below w.heap.size w w' -> Calls Tryz.prog 16 #[.agg #[c0, c1, c2, c3, c4, c5, c6]] w' fun e w2 => ∃ va vr, e = .returned (.agg #[va, vr]) /\ Below w'.heap.size w' w2 /\ GModelR w2 va vr [a, b] rules) : HoldsOk w c0 c1 c2 c3 c4 c5 c6 ⟨[a, b], rules⟩ := fun w' fv l T mm hb hO hF hl hmm =>
 tholds_any c0 c1 c2 c3 c4 c5 c6 ⟨[a, b], rules⟩ a b fv l T mm w' (Nat.lt_of_lt_of_le hB hb.size) (hT.below hb hB) hG rfl (fun w2 h2 => mdOk hG h w2 (hb.trans (h2.mono hb.size))) hO hF hl hmm
theorem run_states {m : Mo} {ps : List (List (Int × Int))} {l : List (Int × Int)} (hk : tkcode m ps l = 0) {path : List Int} {s : Nat} (hr : PRun m path s) : ∀ i, i < path.length -> 0 <= path.getD i 0 /\ path.getD i 0 < prodTo m.vars m.vars.length := by
 intro i
 induction i with
 | zero => intro _; rw [hr.first]; exact tk_beg hk
 | succ i ih =>
  intro hi; have h1 := hr.step i (by omega)
  rw [moAt_low hi] at h1; exact nextL_st (pcode_m (tk_zero hk).1).1 (ih (by omega)) h1
def downTo (n : Nat) : Nat -> List Nat
 | 0 => []
 | j + 1 => downTo n j ++ [n - 1 - j]
theorem downTo_length (n : Nat) : ∀ j, (downTo n j).length = j
 | 0 => rfl
 | j + 1 => by rw [downTo, List.length_append, downTo_length n j]; rfl
theorem downTo_mem {n : Nat} : ∀ {j : Nat}, j <= n -> ∀ i, i ∈ downTo n j ↔ n - j <= i /\ i < n
 | 0, _, i => by simp [downTo]
 | j + 1, h, i => by
  rw [downTo, List.mem_append, downTo_mem (by omega) i, List.mem_singleton]
  omega
theorem same_keep {a b : Vr} {rules rules' : List Ru} {l l' : List (Int × Int)} {T : Tm} (hn : ∀ c, nextL ⟨[a, b], rules⟩ c = nextL ⟨[a, b], rules'⟩ c) (hk : tkcode ⟨[a, b], rules⟩ propsL l = 0) (hk' : tkcode ⟨[a, b], rules'⟩ propsL l' = 0) (h : AllKeep ⟨[a, b], rules⟩ propsL T) : AllKeep ⟨[a, b], rules'⟩ propsL T := fun path s hr => by
 have hst := run_states hk' hr; have hr' : PRun ⟨[a, b], rules⟩ path s := ⟨hr.lt, hr.first, fun i hi => by rw [hn]; exact hr.step i hi⟩
 have h1 := h path s hr'
 have e : path.map (letL ⟨[a, b], rules⟩ propsL) = path.map (letL ⟨[a, b], rules'⟩ propsL) := by
  refine List.map_congr_left fun x hx => ?_
  obtain ⟨i, hi, rfl⟩ := List.getElem_of_mem hx; have hs := hst i hi; rw [List.getD_eq_getElem?_getD, List.getElem?_eq_getElem hi, Option.getD_some] at hs
  unfold letL; rw [if_pos (tk_let hk hs).1, if_pos (tk_let hk' hs).1]
 rw [e] at h1; exact h1
theorem kp_order {a b : Vr} {rules : List Ru} {is : List Nat} (h1 : ∀ i ∈ is, i < rules.length) (h2 : ∀ i, i < rules.length -> i ∈ is) {T : Tm} {x y : Bool} (hx : Kp ⟨[a, b], rules⟩ T x) (hy : Kp ⟨[a, b], rulesAt rules is⟩ T y) : y = x := by
 have hn : ∀ c, nextL ⟨[a, b], rules⟩ c = nextL ⟨[a, b], rulesAt rules is⟩ c := fun c => (next_same h1 h2).symm
 have h : x = true ↔ y = true := ⟨fun h => hy.1.2 (same_keep hn hx.2 hy.2 (hx.1.1 h)), fun h => hx.1.2 (same_keep (fun c => (hn c).symm) hy.2 hx.2 (hy.1.1 h))⟩
 cases x <;> cases y <;> simp_all
section
variable {o : Oper} {a : Act} {w : World} {Q : Exit -> Act -> World -> Prop} {m : Mo}
end
def DBox (w : World) (D : Nat) (c0 c1 c2 c3 c4 c5 c6 : Value) : Prop := w.cell? ⟨D, 0, none⟩ = some c0 /\ w.cell? ⟨D, 1, none⟩ = some c1 /\ w.cell? ⟨D, 2, none⟩ = some c2 /\ w.cell? ⟨D, 3, none⟩ = some c3 /\ w.cell? ⟨D, 4, none⟩ = some c4 /\ w.cell? ⟨D, 5, none⟩ = some c5 /\ w.cell? ⟨D, 6, none⟩ = some c6
theorem DBox.below {w w' : World} {D : Nat} {c0 c1 c2 c3 c4 c5 c6 : Value} (h : DBox w D c0 c1 c2 c3 c4 c5 c6) (hb : Below w.heap.size w w') : DBox w' D c0 c1 c2 c3 c4 c5 c6 := by
 obtain ⟨h0, h1, h2, h3, h4, h5, h6⟩ := h; exact ⟨cell_later hb h0, cell_later hb h1, cell_later hb h2, cell_later hb h3, cell_later hb h4, cell_later hb h5, cell_later hb h6⟩
section
variable {m : Mo} {A B : Tm} {a b c d : Bool}
theorem kp_yes {v : Int} (h : Kp m (.leaf 11 v) a) : a = true := h.1.2 (keep_yes v)
end
end Go.Proofs.YteejnjcdfmedlaaGreatDoor
namespace Go.Proofs.YteejnjcdfmedlaaGreatDoor
open Go.ChangeShapes Go.WideShapes Go.ChangeAt Go.RowKit Go.Deep Go.Maps
open Terms Tm
set_option maxHeartbeats 6400000
set_option maxRecDepth 20000
theorem PickedFn_is (n many : Int) (w : World) (hn : I64 n) (hm : 0 < many) (hm2 : many <= 10000) :
  Calls Tryz.prog 13 #[.int .i64 n, .int .i64 many] w fun e w' => e = .returned (.int .i64 (pk n many)) /\ w' = w := by
 have hp := picked_is n many w hn hm hm2; generalize pk n many = r at *; clear hn hm hm2
 go_enter Tryz.func13, Tryz.ntmps13
 go_wp2_with (go_at_call 37; refine hp.mono ?_; rintro e w2 ⟨rfl, rfl⟩)
 go_ret
 exact ⟨rfl, rfl⟩
theorem tkB_rulesO {w : World} {X : Nat} {va vr pv fv : Value} (hb : w.heap[X]? = some (tkB va vr pv fv)) (v : Value) : (w.setCell ⟨X, 1, none⟩ v).heap[X]? = some (tkB va v pv fv) := by
 unfold tkB at *; simp [World.setCell, Array.getElem?_modify, hb]
structure UAt (W wr : World) (U : Nat) (va pv fv : Value) (gv sv : Nat -> Value) (is : List Nat) (xv : Value) : Prop where
 box : wr.heap[U]? = some (tkB va xv pv fv)
 row : wr.ownsRow (U + 1) 61 2 xv is.length (ruCells gv sv is)
 below : Below W.heap.size W wr
 lo : W.heap.size <= U
section
variable {W wr w2 : World} {U : Nat} {va pv fv xv xv' : Value} {gv sv : Nat -> Value} {is : List Nat} {i : Nat}
theorem UAt.keep (h : UAt W wr U va pv fv gv sv is xv) (hb : Below wr.heap.size wr w2) : UAt W w2 U va pv fv gv sv is xv :=
 ⟨(hb.block U (Array.getElem?_eq_some_iff.1 h.box).1).trans h.box, owns_later h.row hb (Nat.le_refl _), h.below.trans (hb.mono h.below.size), h.lo⟩
theorem UAt.step (h : UAt W wr U va pv fv gv sv is xv) (hg : wr.grownBy w2 xv.ownBlock) (ho : w2.ownsRow (U + 1) 61 2 xv' (is.length + 1) (ruCells gv sv is ++ [gv i, sv i])) : UAt W (w2.setCell ⟨U, 1, none⟩ xv') U va pv fv gv sv (is ++ [i]) xv' := by
 have hlt : U < wr.heap.size := (Array.getElem?_eq_some_iff.1 h.box).1
 have hlo := h.lo; have hb : Below (U + 1) wr w2 := (Below.refl _ _).grown hg (by omega) (fun k hk => (h.row.lt k hk).1)
 have hbx : w2.heap[U]? = some (tkB va xv pv fv) := (hb.block U (Nat.lt_succ_self _)).trans h.box; refine ⟨tkB_rulesO hbx _, ?_, (h.below.trans (hb.mono (by omega))).setCell (by show W.heap.size <= U; exact hlo) _, hlo⟩
 have : ruCells gv sv (is ++ [i]) = ruCells gv sv is ++ [gv i, sv i] := by simp [ruCells]
 rw [this, List.length_append]; exact ownsRow_setCell_below ho (Nat.lt_succ_self _) _
theorem UAt.x (h : UAt W wr U va pv fv gv sv is xv) : XAt W wr U va gv sv is xv :=
 ⟨(tkB_cells h.box).1, (tkB_cells h.box).2.1, tkB_free h.box 1, h.row, h.below, h.lo, (Array.getElem?_eq_some_iff.1 h.box).1⟩
end
def orP (T U : Nat) (vr xv : Value) (rb off p : Nat) (gp sp : Value) : Nat -> Value -> World -> Prop
 | 0, v, _ => v = .pointer (some ⟨U, 0, none⟩)
 | 1, v, _ => v = .pointer (some ⟨U, 1, none⟩)
 | 2, v, _ => v = xv
 | 3, v, _ => v = .pointer (some ⟨T, 0, none⟩)
 | 4, v, _ => v = .pointer (some ⟨T, 1, none⟩)
 | 5, v, _ => v = vr
 | 6, v, _ => v = .int .i64 (p : Int)
 | 7, v, _ => v = .pointer (some ⟨rb, off + p * 2, none⟩)
 | 8, v, _ => v = .agg #[gp, sp]
 | 9, v, w => ∃ g, v = .slice (some ⟨g, 0, none⟩) 1 1 /\ w.heap[g]? = some (.cells #[gp, sp] 61 (0, 0))
 | _, _, _ => True
theorem orP_stable (T U : Nat) (vr xv : Value) (rb off p : Nat) (gp sp : Value) (i : Nat) (v : Value) (w w' : World) (hi : i < 10) (h : orP T U vr xv rb off p gp sp i v w) (hb : Below w.heap.size w w') : orP T U vr xv rb off p gp sp i v w' := by
 have hc : i = 0 \/ i = 1 \/ i = 2 \/ i = 3 \/ i = 4 \/ i = 5 \/ i = 6 \/ i = 7 \/ i = 8 \/ i = 9 := by omega
 rcases hc with rfl | rfl | rfl | rfl | rfl | rfl | rfl | rfl | rfl | rfl
 ·exact h
 ·exact h
 ·exact h
 ·exact h
 ·exact h
 ·exact h
 ·exact h
 ·exact h
 ·exact h
 ·obtain ⟨g, h1, h2⟩ := h; exact ⟨g, h1, (hb.block g (Array.getElem?_eq_some_iff.1 h2).1).trans h2⟩
def orQ (T U : Nat) (vr xv : Value) (rb off rn p : Nat) (wh : Int) (gp sp : Value) : Nat -> Value -> World -> Prop
 | 0, v, _ => v = .pointer (some ⟨U, 0, none⟩)
 | 1, v, _ => v = .pointer (some ⟨U, 1, none⟩)
 | 2, v, _ => v = xv
 | 3, v, _ => v = .pointer (some ⟨T, 0, none⟩)
 | 4, v, _ => v = .pointer (some ⟨T, 1, none⟩)
 | 5, v, _ => v = vr
 | 6, v, _ => v = .int .i64 wh
 | 7, v, _ => v = .pointer (some ⟨T, 0, none⟩)
 | 8, v, _ => v = .pointer (some ⟨T, 1, none⟩)
 | 9, v, _ => v = vr
 | 10, v, _ => v = .int .i64 (rn : Int)
 | 11, v, _ => v = .int .i64 (p : Int)
 | 12, v, _ => v = .pointer (some ⟨rb, off + p * 2, none⟩)
 | 13, v, _ => v = .agg #[gp, sp]
 | 14, v, w => ∃ g, v = .slice (some ⟨g, 0, none⟩) 1 1 /\ w.heap[g]? = some (.cells #[gp, sp] 61 (0, 0))
 | _, _, _ => True
theorem orQ_stable (T U : Nat) (vr xv : Value) (rb off rn p : Nat) (wh : Int) (gp sp : Value) (i : Nat) (v : Value) (w w' : World) (hi : i < 15) (h : orQ T U vr xv rb off rn p wh gp sp i v w) (hb : Below w.heap.size w w') : orQ T U vr xv rb off rn p wh gp sp i v w' := by
 have hc : i = 14 \/ i < 14 := by omega
 rcases hc with rfl | h14
 ·obtain ⟨g, h1, h2⟩ := h; exact ⟨g, h1, (hb.block g (Array.getElem?_eq_some_iff.1 h2).1).trans h2⟩
 ·have hc : i = 0 \/ i = 1 \/ i = 2 \/ i = 3 \/ i = 4 \/ i = 5 \/ i = 6 \/ i = 7 \/ i = 8 \/ i = 9 \/ i = 10 \/ i = 11 \/ i = 12 \/ i = 13 := by omega
  rcases hc with rfl | rfl | rfl | rfl | rfl | rfl | rfl | rfl | rfl | rfl | rfl | rfl | rfl | rfl <;> exact h
theorem topOrder_walk (c0 c1 c2 c3 c4 c5 c6 : Value) (a b : Vr) (rules : List Ru) (rawv : Value) (rs : List (Int × Int)) (wh : Int) (w : World) (hB : 0 < w.heap.size) (hT : TabAt w) (hG : GV a b) (hR : Raws w w.heap.size rawv rs) (hwh : I64 wh)
  (hmd : ∀ w', Below w.heap.size w w' -> Calls Tryz.prog 16 #[.agg #[c0, c1, c2, c3, c4, c5, c6]] w' fun e w2 => ∃ va vr, e = .returned (.agg #[va, vr]) /\ Below w'.heap.size w' w2 /\ GModelR w2 va vr [a, b] rules) :
  Calls Tryz.prog 5 #[.agg #[c0, c1, c2, c3, c4, c5, c6], rawv, .int .i64 wh] w fun e w' => e = .returned (.bool true) /\ Below w.heap.size w w' := by
 have hA1 : Below w.heap.size w (w.alloc (.cells #[c0, c1, c2, c3, c4, c5, c6] 25)) := (Below.refl _ _).alloc (Nat.le_refl _) _
 have HD0 : Hid (DBox (w.alloc (.cells #[c0, c1, c2, c3, c4, c5, c6] 25)) w.heap.size c0 c1 c2 c3 c4 c5 c6) := by
  show DBox _ _ _ _ _ _ _ _ _
  refine ⟨?_, ?_, ?_, ?_, ?_, ?_, ?_⟩ <;> simp [go_sem]
 have htk := taskR_any c0 c1 c2 c3 c4 c5 c6 a b rules rawv rs 3 _ hG (by decide) (hR.up hA1) (fun w' h => hmd w' (hA1.trans (h.mono hA1.size)))
 obtain ⟨ra, rn0, rc0, hra⟩ : ∃ a n c, rawv = .slice a n c := by obtain ⟨⟨a, c, h, _⟩, _, _⟩ := hR; exact ⟨_, _, _, h⟩
 subst hra
 have HVc : Hid (∀ (w' : World) (va vr pv fv : Value) (m : Mo) (l : List (Int × Int)) (T : Tm) (mm : Nat), Below w.heap.size w w' -> TaskV w' va vr pv fv m propsL l -> m.vars = [a, b] -> mcode m = 0 -> FOk mm l T -> l.length <= 59 -> mm <= 6 -> Calls Tryz.prog 11 #[.agg #[va, vr, pv, fv]] w' fun e w2 => ∃ bb so sn sc lo ln lc, e = .returned (.tuple #[.agg #[.bool bb, .slice so sn sc, .slice lo ln lc], .int .i64 0]) /\ Below w'.heap.size w' w2 /\ Hid (Kp m T bb)) := fun w' va vr pv fv m l T mm h hv hvars hmc hF hl hmm => vcheck_keep va vr pv fv m a b l T mm w' (Nat.lt_of_lt_of_le hB h.size) (hT.below h hB) hv hG hvars hmc hF hl hmm
 have HH : Hid (HoldsOk w c0 c1 c2 c3 c4 c5 c6 ⟨[a, b], rules⟩) := holdsOk hB hT hG hmd; have HG : Hid (GV a b) := hG; obtain ⟨iR, hiR, r0, r1, r2⟩ := info_parts infoRule; clear hmd hR hT hG
 go_enter Tryz.func5, Tryz.ntmps5
 go_upto_region 2 with (first | (go_at_call 7; refine htk.mono ?_; rintro e w1 ⟨ao, ac, ro, rn, rc, pb, fo, fn, fc, l, T, mm, rfl, hb1, HV, HK, hmm, hfn⟩))
 have hbw1 := hA1.trans (hb1.mono hA1.size); have hbA : Below w1.heap.size w1 (w1.alloc (.cells #[.slice ao 2 ac, .slice ro rn rc, .slice (some ⟨pb, 0, none⟩) 3 3, .slice fo fn fc] 34)) := (Below.refl _ _).alloc (Nat.le_refl _) _; have hbw2 := hbw1.trans (hbA.mono hbw1.size)
 have HX2 : Hid ((w1.alloc (.cells #[.slice ao 2 ac, .slice ro rn rc, .slice (some ⟨pb, 0, none⟩) 3 3, .slice fo fn fc] 34)).heap[w1.heap.size]? = some (tkB (.slice ao 2 ac) (.slice ro rn rc) (.slice (some ⟨pb, 0, none⟩) 3 3) (.slice fo fn fc))) := (MapKept.heap_alloc w1 _).1
 have HD2 : Hid (DBox (w1.alloc (.cells #[.slice ao 2 ac, .slice ro rn rc, .slice (some ⟨pb, 0, none⟩) 3 3, .slice fo fn fc] 34)) w.heap.size c0 c1 c2 c3 c4 c5 c6) := (HD0.out.below hb1).below hbA
 have HV2 : Hid (TaskV (w1.alloc (.cells #[.slice ao 2 ac, .slice ro rn rc, .slice (some ⟨pb, 0, none⟩) 3 3, .slice fo fn fc] 34)) (.slice ao 2 ac) (.slice ro rn rc) (.slice (some ⟨pb, 0, none⟩) 3 3) (.slice fo fn fc) ⟨[a, b], rules⟩ propsL l) := HV.out.below hbA; obtain ⟨⟨hmc, hr5, hrc⟩, hF, hfl, _⟩ := HK.out
 have hvc := HVc.out _ _ _ _ _ ⟨[a, b], rules⟩ l T mm hbw2 HV2.out rfl hmc hF (by omega) (by omega)
 generalize w1.alloc (.cells #[.slice ao 2 ac, .slice ro rn rc, .slice (some ⟨pb, 0, none⟩) 3 3, .slice fo fn fc] 34) = W2 at *; generalize w1.heap.size = X at *; obtain ⟨p0, p1, p2, p3⟩ := tkB_cells HX2.out; have HF : Hid (FOk mm l T /\ l.length <= 59 /\ mm <= 6) := ⟨hF, by omega, by omega⟩
 have HRc : Hid (rules.length <= 5 /\ ∀ j, j < rules.length -> rcode 2 (rules.getD j ru0) = 0) := ⟨hr5, hrc⟩
 clear hmc hr5 hrc hF hfl HK HV htk HD0
 go_upto_region 3 with (first | (go_at_call 11; refine hvc.mono ?_; rintro e w3 ⟨b1, so, sn, sc, lo, ln, lc, rfl, hb3, HK1⟩))
 have hbB : Below w3.heap.size w3 (w3.alloc (.cells #[.bool b1, .slice so sn sc, .slice lo ln lc] 51)) := (Below.refl _ _).alloc (Nat.le_refl _) _; have hb24 := hb3.trans (hbB.mono hb3.size); have HV4 : Hid ((w3.alloc (.cells #[.bool b1, .slice so sn sc, .slice lo ln lc] 51)).cell? ⟨w3.heap.size, 0, none⟩ = some (.bool b1)) := by show _ = _; simp [go_sem]
 generalize w3.alloc (.cells #[.bool b1, .slice so sn sc, .slice lo ln lc] 51) = W4 at *; generalize w3.heap.size = V1 at *; clear p0 p1 p2 p3 hvc; have hbX4 : W4.heap[X]? = some (tkB (.slice ao 2 ac) (.slice ro rn rc) (.slice (some ⟨pb, 0, none⟩) 3 3) (.slice fo fn fc)) := (hb24.block X (Array.getElem?_eq_some_iff.1 HX2.out).1).trans HX2.out
 obtain ⟨p0, p1, p2, p3⟩ := tkB_cells hbX4; have hMV := (HV2.out.below hb24).mo
 have hrl : rules.length = rn := by
  obtain ⟨ao', cap', e, _⟩ := hMV.2
  injection e with _ e2 _
  exact e2.symm
 have hrn5 : rn <= 5 := by rw [<- hrl]; exact HRc.out.1
 obtain ⟨rb, roff, gv, sv, hRC, hro⟩ : ∃ rb roff gv sv, RuC W4 rb roff rules gv sv /\ (0 < rn -> ro = some ⟨rb, roff, none⟩) := by
  by_cases h0 : 0 < rn
  ·obtain ⟨rb, roff, gv, sv, h1, h2⟩ := rulesV_cells hMV.2 (by show 0 < rules.length; omega)
   exact ⟨rb, roff, gv, sv, h2, fun _ => h1⟩
  ·exact ⟨0, 0, fun _ => .nilIface, fun _ => .nilIface, ⟨fun h => by omega, fun i hi => by omega, fun i hi => by omega⟩, fun h => absurd h h0⟩
 have HRC : Hid (∀ i, i < rn -> ∀ w', Below W4.heap.size W4 w' -> (∃ go gn gc, gv i = .slice go gn gc) /\ (∃ go gn gc, sv i = .slice go gn gc) /\ w'.cell? ⟨rb, roff + i * 2, none⟩ = some (gv i) /\ w'.cell? ⟨rb, roff + i * 2 + 1, none⟩ = some (sv i)) := fun i hi w' hb => by
  have hlt := hRC.lt (by omega)
  obtain ⟨e1, o1⟩ := hRC.g i (by omega)
  obtain ⟨e2, o2⟩ := hRC.s i (by omega)
  refine ⟨?_, ?_, (hb.cell (p := ⟨rb, _, none⟩) hlt).trans e1, (hb.cell (p := ⟨rb, _, none⟩) hlt).trans e2⟩
  ·obtain ⟨x1, x2, x3, _⟩ := o1; exact ⟨_, _, _, x3⟩
  ·obtain ⟨x1, x2, x3, _⟩ := o2; exact ⟨_, _, _, x3⟩
 have HRO : Hid (0 < rn -> ro = some ⟨rb, roff, none⟩) := hro; have HRR : Hid (RuC W4 rb roff rules gv sv /\ rules.length = rn) := ⟨hRC, hrl⟩
 have HX4 : Hid (∀ w', Below W4.heap.size W4 w' -> w'.cell? ⟨X, 0, none⟩ = some (.slice ao 2 ac) /\ w'.cell? ⟨X, 1, none⟩ = some (.slice ro rn rc) /\ w'.cell? ⟨X, 2, none⟩ = some (.slice (some ⟨pb, 0, none⟩) 3 3) /\ w'.cell? ⟨X, 3, none⟩ = some (.slice fo fn fc)) := fun w' h => tkB_cells ((h.block X (Array.getElem?_eq_some_iff.1 hbX4).1).trans hbX4)
 have hU0 : UAt W4 (W4.alloc (.cells #[.slice ao 2 ac, .slice none 0 0, .slice (some ⟨pb, 0, none⟩) 3 3, .slice fo fn fc] 34)) W4.heap.size (.slice ao 2 ac) (.slice (some ⟨pb, 0, none⟩) 3 3) (.slice fo fn fc) gv sv [] (.slice none 0 0) := ⟨(MapKept.heap_alloc W4 _).1, World.ownsRow_nil _ _ _ _, (Below.refl _ _).alloc (Nat.le_refl _) _, Nat.le_refl _⟩; have HU0 := (show Hid _ from hU0)
 obtain ⟨z0, z1, z2, z3⟩ := HX4.out _ hU0.below; have hpw := fun (h0 : 0 < (rn : Int)) (w : World) => PickedFn_is wh (rn : Int) w hwh h0 (by omega)
 have hpwr := fun (h0 : 0 < (rn : Int)) => pk_range (n := wh) (m := (rn : Int)) h0
 clear hU0 hro hRC hrl hMV hbX4 hwh
 go_wp2_with fail
 generalize W4.alloc (.cells #[.slice ao 2 ac, .slice none 0 0, .slice (some ⟨pb, 0, none⟩) 3 3, .slice fo fn fc] 34) = W5 at *; generalize hUe : W4.heap.size = U at *; clear p0 p1 p2 p3 z0 z1 z2 z3
 go_loopw [11] (fun i wr => ∃ j : Nat, j <= rn /\ i = .int .i64 ((rn : Int) - 1 - (j : Int)) /\ Hid (∃ xv, UAt W4 wr U (.slice ao 2 ac) (.slice (some ⟨pb, 0, none⟩) 3 3) (.slice fo fn fc) gv sv (downTo rn j) xv)) (fun i _ => (intOf i + 1).toNat)
 case atStart => exact ⟨0, Nat.zero_le _, by simp, _, HU0.out⟩
 case round =>
  obtain ⟨j, hj, rfl, HJ⟩ := hrel; obtain ⟨xv, hx⟩ := HJ.out; obtain ⟨xo, xc, hxv⟩ := owns_slice hx.row; rw [downTo_length] at hxv; subst hxv; have HX : Hid (UAt W4 wr U (.slice ao 2 ac) (.slice (some ⟨pb, 0, none⟩) 3 3) (.slice fo fn fc) gv sv (downTo rn j) (.slice xo j xc)) := hx; obtain ⟨m0, m1, m2, m3⟩ := HX4.out wr (hUe ▸ hx.below)
  by_cases hlt : j < rn
  ·obtain ⟨p, hp⟩ : ∃ p, p + j + 1 = rn := ⟨rn - 1 - j, by omega⟩
   have hpi : (rn : Int) - 1 - (j : Int) = (p : Int) := by omega
   have hpr2 : p < rn := by omega
   have HP : Hid (p = rn - 1 - j) := by show _ = _; omega
   have hpos : ¬ (p : Int) < 0 := by omega
   have hro := HRO.out (by omega)
   subst hro; clear hx HJ; rw [hpi]
   go_upto_block 1 with fail
   go_cut [] (fun wx => Hid (∃ xv, UAt W4 wx U (.slice ao 2 ac) (.slice (some ⟨pb, 0, none⟩) 3 3) (.slice fo fn fc) gv sv (downTo rn j ++ [p]) xv))
   case first =>
    go_upto_region 8 with fail
    rename_i J K' hJ hK'; generalize ha0 : Act.mk _ _ = a0; have hsz : a0.tmps.size = 103 := by rw [<- ha0]; rfl
    have a7 : a0.eval (.tmp 7) = .pointer (some ⟨X, 0, none⟩) := by rw [<- ha0]; rfl
    have a10 : a0.eval (.tmp 10) = .pointer (some ⟨U, 0, none⟩) := by rw [<- ha0]; rfl
    have a11 : a0.eval (.tmp 11) = .int .i64 (p : Int) := by rw [<- ha0]; rfl
    refine wp_anywayC (by rfl) [36, 37, 38, 39, 40, 41, 42, 43, 44, 45, 46, 47, 48] 10 (orP X U (.slice (some ⟨rb, roff, none⟩) rn rc) (.slice xo j xc) rb roff p (gv p) (sv p)) (by rw [hsz]; rfl) (orP_stable _ _ _ _ _ _ _ _ _) ?_ ?_
    ·intro i o hi ho q w' hb hq
     have f : ∀ t, [36, 37, 38, 39, 40, 41, 42, 43, 44, 45, 46, 47, 48].contains t = true -> t < 103 -> (frm a0 [36, 37, 38, 39, 40, 41, 42, 43, 44, 45, 46, 47, 48] q).eval (.tmp t) = q t := fun t h1 h2 => frm_in h1 (by rw [hsz]; exact h2)
     have e7 : (frm a0 [36, 37, 38, 39, 40, 41, 42, 43, 44, 45, 46, 47, 48] q).eval (.tmp 7) = .pointer (some ⟨X, 0, none⟩) := (frm_out rfl).trans a7; have e10 : (frm a0 [36, 37, 38, 39, 40, 41, 42, 43, 44, 45, 46, 47, 48] q).eval (.tmp 10) = .pointer (some ⟨U, 0, none⟩) := (frm_out rfl).trans a10
     have e11 : (frm a0 [36, 37, 38, 39, 40, 41, 42, 43, 44, 45, 46, 47, 48] q).eval (.tmp 11) = .int .i64 (p : Int) := (frm_out rfl).trans a11; have hk := HX.out.keep hb; obtain ⟨_, m1, _, _⟩ := HX4.out w' (hUe ▸ hk.below); obtain ⟨_, x1, _, _⟩ := tkB_cells hk.box; obtain ⟨⟨g1, g2, g3, hg⟩, ⟨s1, s2, s3, hs⟩, hcg, hcs⟩ := HRC.out p hpr2 w' (hUe ▸ hk.below)
     have hA : ∀ o, Below w'.heap.size w' (w'.alloc o) := fun o => (Below.refl _ _).alloc (Nat.le_refl _) o
     obtain ⟨ev, hev⟩ : ∃ ev, ev = (frm a0 [36, 37, 38, 39, 40, 41, 42, 43, 44, 45, 46, 47, 48] q).eval := ⟨_, rfl⟩
     rw [<- hev] at f e7 e10 e11; have hc : i = 0 \/ i = 1 \/ i = 2 \/ i = 3 \/ i = 4 \/ i = 5 \/ i = 6 \/ i = 7 \/ i = 8 \/ i = 9 := by omega
     rcases hc with rfl | rfl | rfl | rfl | rfl | rfl | rfl | rfl | rfl | rfl
     all_goals obtain rfl := Option.some.inj ho
     ·refine op_val (w' := w') ?_ (Below.refl _ _) rfl
      rw [<- hev]; simp [execOp, e10, go_sem]
     ·have e36 := (f 36 rfl (by decide)).trans (hq 0 36 rfl rfl)
      refine op_val (w' := w') ?_ (Below.refl _ _) rfl
      rw [<- hev]; simp [execOp, e36, go_sem]
     ·have e37 := (f 37 rfl (by decide)).trans (hq 1 37 rfl rfl)
      refine op_val (w' := w') ?_ (Below.refl _ _) rfl
      rw [<- hev]; simp [execOp, e37, x1, go_sem]
     ·refine op_val (w' := w') ?_ (Below.refl _ _) rfl
      rw [<- hev]; simp [execOp, e7, go_sem]
     ·have e39 := (f 39 rfl (by decide)).trans (hq 3 39 rfl rfl)
      refine op_val (w' := w') ?_ (Below.refl _ _) rfl
      rw [<- hev]; simp [execOp, e39, go_sem]
     ·have e40 := (f 40 rfl (by decide)).trans (hq 4 40 rfl rfl)
      refine op_val (w' := w') ?_ (Below.refl _ _) rfl
      rw [<- hev]; simp [execOp, e40, m1, go_sem]
     ·refine op_val (w' := w') ?_ (Below.refl _ _) rfl
      rw [<- hev]; simp [execOp, e11, go_sem]
     ·have e41 := (f 41 rfl (by decide)).trans (hq 5 41 rfl rfl)
      have e42 := (f 42 rfl (by decide)).trans (hq 6 42 rfl rfl)
      refine op_val (w' := w') (v := .pointer (some ⟨rb, roff + p * 2, none⟩)) ?_ (Below.refl _ _) rfl
      rw [<- hev]; simp [execOp, e41, e42, go_sem]
      omega
     ·have e43 := (f 43 rfl (by decide)).trans (hq 7 43 rfl rfl)
      refine op_val (w' := w') (v := .agg #[gv p, sv p]) ?_ (Below.refl _ _) rfl
      rw [<- hev]; simp [execOp, e43, go_sem, hcg, hcs]
     ·have e44 := (f 44 rfl (by decide)).trans (hq 8 44 rfl rfl)
      refine op_val (v := .slice (some ⟨w'.heap.size, 0, none⟩) 1 1) (w' := w'.alloc (.cells #[gv p, sv p] 61)) ?_ (hA _) ⟨_, rfl, heap_new _ _⟩
      rw [hg, hs] at e44 ⊢; rw [<- hev]; simp [execOp, e44, go_sem]
    ·intro q w' hb hq
     have f : ∀ q t, [36, 37, 38, 39, 40, 41, 42, 43, 44, 45, 46, 47, 48].contains t = true -> t < 103 -> (frm a0 [36, 37, 38, 39, 40, 41, 42, 43, 44, 45, 46, 47, 48] q).eval (.tmp t) = q t := fun q t h1 h2 => frm_in h1 (by rw [hsz]; exact h2)
     have hk := HX.out.keep hb; have h38 : q 38 = .slice xo j xc := hq 2 38 (by decide) rfl
     obtain ⟨g, hg45, hgb⟩ := hq 9 45 (by decide) rfl
     obtain ⟨⟨g1, g2, g3, hg⟩, ⟨s1, s2, s3, hs⟩, _, _⟩ := HRC.out p hpr2 w' (hUe ▸ hk.below)
     have hrow : w'.ownsRow (U + 1) 61 2 (.slice xo j xc) j (ruCells gv sv (downTo rn j)) := by
      have := hk.row; rw [downTo_length] at this; exact this
     have hUl : U < w'.heap.size := (Array.getElem?_eq_some_iff.1 hk.box).1
     show wpOps Tryz.prog _ _ [10, 11, 12, 13] _ _
     rw [wpOps_cons]; refine op_atR rfl rfl ?_
     refine wp_append_lies _ (.tmp 38) (.tmp 45) 28 rfl (U + 1) 61 iR _ 2 48 Tryz.underlying28 hiR r0 r1 r2 rfl (by decide) (.slice xo j xc) j (ruCells gv sv (downTo rn j)) ((f q 38 rfl (by decide)).trans h38) hrow ⟨g, 0, none⟩ 1 1 [gv p, sv p] ((f q 45 rfl (by decide)).trans hg45) rfl (World.news_of_block hgb) (by intro u hu; simp at hu; rcases hu with rfl | rfl <;> first | (rw [hg]; rfl) | (rw [hs]; rfl)) (by decide) (by unfold maxLen; omega) (by omega) (by omega) _ rfl ?_
     intro g6 cp6 w6 ho6 hg6 hat6 hgl6; have hst := hk.step (i := p) (xv' := .slice (some ⟨g6, 0, none⟩) (j + 1) cp6) hg6 (by rw [downTo_length]; exact ho6)
     have hbx : Below (U + 1) w' w6 := (Below.refl _ _).grown hg6 (by omega) (fun k hk' => (hrow.lt k hk').1)
     have hU6 := (hbx.block U (Nat.lt_succ_self _)).trans hk.box; obtain ⟨_, k1, _, _⟩ := tkB_cells hU6; have kf := tkB_free hU6 1; have e10 : ∀ q, (frm a0 [36, 37, 38, 39, 40, 41, 42, 43, 44, 45, 46, 47, 48] q).eval (.tmp 10) = .pointer (some ⟨U, 0, none⟩) := fun q => (frm_out rfl).trans a10
     rw [late_put 46 rfl rfl, wpOps_cons]; refine op_atR rfl rfl ?_
     refine op_run (w' := w6) (v := .pointer (some ⟨U, 0, none⟩)) ?_ ?_
     ·have e10' := e10 (setV q 46 (.slice (some ⟨g6, 0, none⟩) (j + 1) cp6))
      generalize (frm a0 [36, 37, 38, 39, 40, 41, 42, 43, 44, 45, 46, 47, 48] (setV q 46 (.slice (some ⟨g6, 0, none⟩) (j + 1) cp6))).eval = ev at e10' ⊢; simp [execOp, e10', go_sem]
     rw [late_put 47 rfl rfl, wpOps_cons]; refine op_atR rfl rfl ?_
     have e47 := f (setV (setV q 46 (.slice (some ⟨g6, 0, none⟩) (j + 1) cp6)) 47 (.pointer (some ⟨U, 0, none⟩))) 47 rfl (by decide)
     rw [setV_same] at e47; refine op_run (w' := w6) (v := .pointer (some ⟨U, 1, none⟩)) ?_ ?_
     ·generalize (frm a0 [36, 37, 38, 39, 40, 41, 42, 43, 44, 45, 46, 47, 48] (setV (setV q 46 (.slice (some ⟨g6, 0, none⟩) (j + 1) cp6)) 47 (.pointer (some ⟨U, 0, none⟩)))).eval = ev at e47 ⊢
      simp [execOp, e47, go_sem]
     rw [late_put 48 rfl rfl, wpOps_cons]; refine op_atR rfl rfl ?_
     have e46 := f (setV (setV (setV q 46 (.slice (some ⟨g6, 0, none⟩) (j + 1) cp6)) 47 (.pointer (some ⟨U, 0, none⟩))) 48 (.pointer (some ⟨U, 1, none⟩))) 46 rfl (by decide)
     have e48 := f (setV (setV (setV q 46 (.slice (some ⟨g6, 0, none⟩) (j + 1) cp6)) 47 (.pointer (some ⟨U, 0, none⟩))) 48 (.pointer (some ⟨U, 1, none⟩))) 48 rfl (by decide)
     rw [setV_same] at e48; rw [setV_other (by decide), setV_other (by decide), setV_same] at e46
     refine op_skip (w' := w6.setCell ⟨U, 1, none⟩ (.slice (some ⟨g6, 0, none⟩) (j + 1) cp6)) rfl ?_ ?_
     ·generalize (frm a0 [36, 37, 38, 39, 40, 41, 42, 43, 44, 45, 46, 47, 48] (setV (setV (setV q 46 (.slice (some ⟨g6, 0, none⟩) (j + 1) cp6)) 47 (.pointer (some ⟨U, 0, none⟩))) 48 (.pointer (some ⟨U, 1, none⟩)))).eval = ev at e46 e48 ⊢
      simp [execOp, e46, e48, go_sem, k1, kf]
     show K' _ _
     refine hK' _ _ ?_
     rw [<- ha0]
     go_meet
     exact ⟨_, hst⟩
   case rest =>
    obtain ⟨xv2, hx2⟩ := hcut.out; have HK4 : Hid (∃ xv, UAt W4 wc U (.slice ao 2 ac) (.slice (some ⟨pb, 0, none⟩) 3 3) (.slice fo fn fc) gv sv (downTo rn (j + 1)) xv) := ⟨xv2, by rw [downTo, <- HP.out]; exact hx2⟩
    clear hx2 hcut
    go_wp2_with fail
    go_roundw
    case rel => exact ⟨j + 1, by omega, by go_num, HK4⟩
    case measure => simp [intOf]
  ·obtain rfl : j = rn := by omega
   have hm1 : (j : Int) - 1 - (j : Int) = -1 := by omega
   have HD : Hid ((∀ i ∈ downTo j j, i < j) /\ ∀ i, i < j -> i ∈ downTo j j) := ⟨fun i hi => ((downTo_mem (Nat.le_refl _) i).1 hi).2, fun i hi => (downTo_mem (Nat.le_refl _) i).2 ⟨by omega, hi⟩⟩
   rw [hm1]; clear HJ hx
   go_upto_if 53 with fail
   go_cut [] (fun wx => Hid (∃ is xv, UAt W4 wx U (.slice ao 2 ac) (.slice (some ⟨pb, 0, none⟩) 3 3) (.slice fo fn fc) gv sv is xv /\ is.length <= 12 /\ (∀ i ∈ is, i < j) /\ (∀ i, i < j -> i ∈ is)))
   case first =>
    by_cases h0 : 0 < j
    ·have h0i : (0 : Int) < (j : Int) := by omega
     have hpw1 := fun w => hpw h0i w
     obtain ⟨q0, q1⟩ := hpwr h0i; obtain ⟨p, hp⟩ : ∃ p : Nat, pk wh (j : Int) = (p : Int) := ⟨(pk wh (j : Int)).toNat, by omega⟩
     rw [hp] at hpw1 q0 q1; have hpr2 : p < j := by omega
     have hro := HRO.out h0; subst hro; clear hpw hpwr hp
     go_upto_region 10 with fail
     rename_i J K' hJ hK' Q2 a2' h2'; generalize ha0 : Act.mk _ _ = a0; have hsz : a0.tmps.size = 103 := by rw [<- ha0]; rfl
     have a7 : a0.eval (.tmp 7) = .pointer (some ⟨X, 0, none⟩) := by rw [<- ha0]; rfl
     have a10 : a0.eval (.tmp 10) = .pointer (some ⟨U, 0, none⟩) := by rw [<- ha0]; rfl
     have a2 : a0.eval (.tmp 2) = .int .i64 wh := by rw [<- ha0]; rfl
     refine wp_anywayC (by rfl) [54, 55, 56, 57, 58, 59, 60, 61, 62, 63, 64, 65, 66, 67, 68, 69, 70, 71] 15 (orQ X U (.slice (some ⟨rb, roff, none⟩) j rc) (.slice xo j xc) rb roff j p wh (gv p) (sv p)) (by rw [hsz]; rfl) (orQ_stable _ _ _ _ _ _ _ _ _ _ _) ?_ ?_
     ·intro i o hi ho q w' hb hq
      have f : ∀ t, [54, 55, 56, 57, 58, 59, 60, 61, 62, 63, 64, 65, 66, 67, 68, 69, 70, 71].contains t = true -> t < 103 -> (frm a0 [54, 55, 56, 57, 58, 59, 60, 61, 62, 63, 64, 65, 66, 67, 68, 69, 70, 71] q).eval (.tmp t) = q t := fun t h1 h2 => frm_in h1 (by rw [hsz]; exact h2)
      have e7 : (frm a0 [54, 55, 56, 57, 58, 59, 60, 61, 62, 63, 64, 65, 66, 67, 68, 69, 70, 71] q).eval (.tmp 7) = .pointer (some ⟨X, 0, none⟩) := (frm_out rfl).trans a7; have e10 : (frm a0 [54, 55, 56, 57, 58, 59, 60, 61, 62, 63, 64, 65, 66, 67, 68, 69, 70, 71] q).eval (.tmp 10) = .pointer (some ⟨U, 0, none⟩) := (frm_out rfl).trans a10
      have e2 : (frm a0 [54, 55, 56, 57, 58, 59, 60, 61, 62, 63, 64, 65, 66, 67, 68, 69, 70, 71] q).eval (.tmp 2) = .int .i64 wh := (frm_out rfl).trans a2; have hk := HX.out.keep hb; obtain ⟨_, m1, _, _⟩ := HX4.out w' (hUe ▸ hk.below); obtain ⟨_, x1, _, _⟩ := tkB_cells hk.box; obtain ⟨⟨g1, g2, g3, hg⟩, ⟨s1, s2, s3, hs⟩, hcg, hcs⟩ := HRC.out p hpr2 w' (hUe ▸ hk.below)
      have hA : ∀ o, Below w'.heap.size w' (w'.alloc o) := fun o => (Below.refl _ _).alloc (Nat.le_refl _) o
      obtain ⟨ev, hev⟩ : ∃ ev, ev = (frm a0 [54, 55, 56, 57, 58, 59, 60, 61, 62, 63, 64, 65, 66, 67, 68, 69, 70, 71] q).eval := ⟨_, rfl⟩
      have evf : ∀ n, ev (.func n) = .func (.func n) #[] #[] := fun n => by rw [hev]; rfl
      rw [<- hev] at f e7 e10 e2; have hc : i = 0 \/ i = 1 \/ i = 2 \/ i = 3 \/ i = 4 \/ i = 5 \/ i = 6 \/ i = 7 \/ i = 8 \/ i = 9 \/ i = 10 \/ i = 11 \/ i = 12 \/ i = 13 \/ i = 14 := by omega
      rcases hc with rfl | rfl | rfl | rfl | rfl | rfl | rfl | rfl | rfl | rfl | rfl | rfl | rfl | rfl | rfl
      all_goals obtain rfl := Option.some.inj ho
      ·refine op_val (w' := w') ?_ (Below.refl _ _) rfl
       rw [<- hev]; simp [execOp, e10, go_sem]
      ·have e54 := (f 54 rfl (by decide)).trans (hq 0 54 rfl rfl)
       refine op_val (w' := w') ?_ (Below.refl _ _) rfl
       rw [<- hev]; simp [execOp, e54, go_sem]
      ·have e55 := (f 55 rfl (by decide)).trans (hq 1 55 rfl rfl)
       refine op_val (w' := w') ?_ (Below.refl _ _) rfl
       rw [<- hev]; simp [execOp, e55, x1, go_sem]
      ·refine op_val (w' := w') ?_ (Below.refl _ _) rfl
       rw [<- hev]; simp [execOp, e7, go_sem]
      ·have e57 := (f 57 rfl (by decide)).trans (hq 3 57 rfl rfl)
       refine op_val (w' := w') ?_ (Below.refl _ _) rfl
       rw [<- hev]; simp [execOp, e57, go_sem]
      ·have e58 := (f 58 rfl (by decide)).trans (hq 4 58 rfl rfl)
       refine op_val (w' := w') ?_ (Below.refl _ _) rfl
       rw [<- hev]; simp [execOp, e58, m1, go_sem]
      ·refine op_val (w' := w') ?_ (Below.refl _ _) rfl
       rw [<- hev]; simp [execOp, e2, go_sem]
      ·refine op_val (w' := w') ?_ (Below.refl _ _) rfl
       rw [<- hev]; simp [execOp, e7, go_sem]
      ·have e61 := (f 61 rfl (by decide)).trans (hq 7 61 rfl rfl)
       refine op_val (w' := w') ?_ (Below.refl _ _) rfl
       rw [<- hev]; simp [execOp, e61, go_sem]
      ·have e62 := (f 62 rfl (by decide)).trans (hq 8 62 rfl rfl)
       refine op_val (w' := w') ?_ (Below.refl _ _) rfl
       rw [<- hev]; simp [execOp, e62, m1, go_sem]
      ·have e63 := (f 63 rfl (by decide)).trans (hq 9 63 rfl rfl)
       refine op_val (w' := w') (v := .int .i64 (j : Int)) ?_ (Below.refl _ _) rfl
       rw [<- hev]; simp [execOp, e63, resolve, invoke, builtin, go_sem]
      ·have e60 := (f 60 rfl (by decide)).trans (hq 6 60 rfl rfl)
       have e64 := (f 64 rfl (by decide)).trans (hq 10 64 rfl rfl)
       refine op_call (f := 13) (args := #[.int .i64 wh, .int .i64 (j : Int)]) ?_ ((hpw1 w').mono ?_)
       ·rw [<- hev]; simp [execOp, e60, e64, evf, go_sem]
       ·rintro e w2 ⟨rfl, rfl⟩
        exact ⟨_, rfl, Below.refl _ _, rfl⟩
      ·have e59 := (f 59 rfl (by decide)).trans (hq 5 59 rfl rfl)
       have e65 := (f 65 rfl (by decide)).trans (hq 11 65 rfl rfl)
       refine op_val (w' := w') (v := .pointer (some ⟨rb, roff + p * 2, none⟩)) ?_ (Below.refl _ _) rfl
       rw [<- hev]; simp [execOp, e59, e65, go_sem]
       omega
      ·have e66 := (f 66 rfl (by decide)).trans (hq 12 66 rfl rfl)
       refine op_val (w' := w') (v := .agg #[gv p, sv p]) ?_ (Below.refl _ _) rfl
       rw [<- hev]; simp [execOp, e66, go_sem, hcg, hcs]
      ·have e67 := (f 67 rfl (by decide)).trans (hq 13 67 rfl rfl)
       refine op_val (v := .slice (some ⟨w'.heap.size, 0, none⟩) 1 1) (w' := w'.alloc (.cells #[gv p, sv p] 61)) ?_ (hA _) ⟨_, rfl, heap_new _ _⟩
       rw [hg, hs] at e67 ⊢; rw [<- hev]; simp [execOp, e67, go_sem]
     ·intro q w' hb hq
      have f : ∀ q t, [54, 55, 56, 57, 58, 59, 60, 61, 62, 63, 64, 65, 66, 67, 68, 69, 70, 71].contains t = true -> t < 103 -> (frm a0 [54, 55, 56, 57, 58, 59, 60, 61, 62, 63, 64, 65, 66, 67, 68, 69, 70, 71] q).eval (.tmp t) = q t := fun q t h1 h2 => frm_in h1 (by rw [hsz]; exact h2)
      have hk := HX.out.keep hb; have h56 : q 56 = .slice xo j xc := hq 2 56 (by decide) rfl
      obtain ⟨g, hg68, hgb⟩ := hq 14 68 (by decide) rfl
      obtain ⟨⟨g1, g2, g3, hg⟩, ⟨s1, s2, s3, hs⟩, _, _⟩ := HRC.out p hpr2 w' (hUe ▸ hk.below)
      have hrow : w'.ownsRow (U + 1) 61 2 (.slice xo j xc) j (ruCells gv sv (downTo j j)) := by
       have := hk.row; rw [downTo_length] at this; exact this
      have hUl : U < w'.heap.size := (Array.getElem?_eq_some_iff.1 hk.box).1
      show wpOps Tryz.prog _ _ [15, 16, 17, 18] _ _
      rw [wpOps_cons]; refine op_atR rfl rfl ?_
      refine wp_append_lies _ (.tmp 56) (.tmp 68) 28 rfl (U + 1) 61 iR _ 2 48 Tryz.underlying28 hiR r0 r1 r2 rfl (by decide) (.slice xo j xc) j (ruCells gv sv (downTo j j)) ((f q 56 rfl (by decide)).trans h56) hrow ⟨g, 0, none⟩ 1 1 [gv p, sv p] ((f q 68 rfl (by decide)).trans hg68) rfl (World.news_of_block hgb) (by intro u hu; simp at hu; rcases hu with rfl | rfl <;> first | (rw [hg]; rfl) | (rw [hs]; rfl)) (by decide) (by unfold maxLen; omega) (by omega) (by omega) _ rfl ?_
      intro g6 cp6 w6 ho6 hg6 hat6 hgl6; have hst := hk.step (i := p) (xv' := .slice (some ⟨g6, 0, none⟩) (j + 1) cp6) hg6 (by rw [downTo_length]; exact ho6)
      have hbx : Below (U + 1) w' w6 := (Below.refl _ _).grown hg6 (by omega) (fun k hk' => (hrow.lt k hk').1)
      have hU6 := (hbx.block U (Nat.lt_succ_self _)).trans hk.box; obtain ⟨_, k1, _, _⟩ := tkB_cells hU6; have kf := tkB_free hU6 1; have e10 : ∀ q, (frm a0 [54, 55, 56, 57, 58, 59, 60, 61, 62, 63, 64, 65, 66, 67, 68, 69, 70, 71] q).eval (.tmp 10) = .pointer (some ⟨U, 0, none⟩) := fun q => (frm_out rfl).trans a10
      rw [late_put 69 rfl rfl, wpOps_cons]; refine op_atR rfl rfl ?_
      refine op_run (w' := w6) (v := .pointer (some ⟨U, 0, none⟩)) ?_ ?_
      ·have e10' := e10 (setV q 69 (.slice (some ⟨g6, 0, none⟩) (j + 1) cp6))
       generalize (frm a0 [54, 55, 56, 57, 58, 59, 60, 61, 62, 63, 64, 65, 66, 67, 68, 69, 70, 71] (setV q 69 (.slice (some ⟨g6, 0, none⟩) (j + 1) cp6))).eval = ev at e10' ⊢; simp [execOp, e10', go_sem]
      rw [late_put 70 rfl rfl, wpOps_cons]; refine op_atR rfl rfl ?_
      have e70 := f (setV (setV q 69 (.slice (some ⟨g6, 0, none⟩) (j + 1) cp6)) 70 (.pointer (some ⟨U, 0, none⟩))) 70 rfl (by decide)
      rw [setV_same] at e70; refine op_run (w' := w6) (v := .pointer (some ⟨U, 1, none⟩)) ?_ ?_
      ·generalize (frm a0 [54, 55, 56, 57, 58, 59, 60, 61, 62, 63, 64, 65, 66, 67, 68, 69, 70, 71] (setV (setV q 69 (.slice (some ⟨g6, 0, none⟩) (j + 1) cp6)) 70 (.pointer (some ⟨U, 0, none⟩)))).eval = ev at e70 ⊢
       simp [execOp, e70, go_sem]
      rw [late_put 71 rfl rfl, wpOps_cons]; refine op_atR rfl rfl ?_
      have e69 := f (setV (setV (setV q 69 (.slice (some ⟨g6, 0, none⟩) (j + 1) cp6)) 70 (.pointer (some ⟨U, 0, none⟩))) 71 (.pointer (some ⟨U, 1, none⟩))) 69 rfl (by decide)
      have e71 := f (setV (setV (setV q 69 (.slice (some ⟨g6, 0, none⟩) (j + 1) cp6)) 70 (.pointer (some ⟨U, 0, none⟩))) 71 (.pointer (some ⟨U, 1, none⟩))) 71 rfl (by decide)
      rw [setV_same] at e71; rw [setV_other (by decide), setV_other (by decide), setV_same] at e69
      refine op_skip (w' := w6.setCell ⟨U, 1, none⟩ (.slice (some ⟨g6, 0, none⟩) (j + 1) cp6)) rfl ?_ ?_
      ·generalize (frm a0 [54, 55, 56, 57, 58, 59, 60, 61, 62, 63, 64, 65, 66, 67, 68, 69, 70, 71] (setV (setV (setV q 69 (.slice (some ⟨g6, 0, none⟩) (j + 1) cp6)) 70 (.pointer (some ⟨U, 0, none⟩))) 71 (.pointer (some ⟨U, 1, none⟩)))).eval = ev at e69 e71 ⊢
       simp [execOp, e69, e71, go_sem, k1, kf]
      show K' _ _
      refine hK' _ _ ?_
      rw [<- ha0]
      go_meet
      refine ⟨downTo j j ++ [p], _, hst, by rw [List.length_append, downTo_length]; simp; omega, fun i hi => ?_, fun i hi => List.mem_append_left _ (HD.out.2 i hi)⟩
      rcases List.mem_append.1 hi with h | h
      ·exact HD.out.1 i h
      ·rw [List.mem_singleton.1 h]; exact hpr2
    ·have h0i : ¬ (0 : Int) < (j : Int) := by omega
     clear hpw hpwr
     go_wp2_with fail
     go_meet
     exact ⟨_, _, HX.out, by rw [downTo_length]; omega, HD.out.1, HD.out.2⟩
   case rest =>
    obtain ⟨is, xv, hx2, h12, hi1, hi2⟩ := hcut.out; obtain ⟨xo2, xc2, hxv2⟩ := owns_slice hx2.row; subst hxv2; obtain ⟨hRC, hrl⟩ := HRR.out; have hb4c : Below W4.heap.size W4 wc := hx2.below; have hRY := hx2.x.rules hRC (fun i hi => by rw [hrl]; exact hi1 i hi)
    rw [hUe] at hb4c; have hb2Y : Below W2.heap.size W2 wc := hb24.trans ((hUe ▸ hb4c : Below W4.heap.size W4 wc).mono hb24.size); have hbwY := hbw2.trans (hb2Y.mono hbw2.size)
    have hr' : ∀ q, q < (rulesAt rules is).length -> rcode 2 ((rulesAt rules is).getD q ru0) = 0 := fun q hq => by
     rw [rulesAt_length] at hq; rw [rulesAt_getD hq]; exact HRc.out.2 _ (by rw [hrl]; exact hi1 _ (by rw [List.getD_eq_getElem?_getD, List.getElem?_eq_getElem hq]; exact List.getElem_mem hq))
    have hmc' : mcode ⟨[a, b], rulesAt rules is⟩ = 0 := HG.out.mcode (by rw [rulesAt_length]; exact h12) hr'
    have hV2 := HV2.out.below hb2Y; have hvc2 := HVc.out wc (.slice ao 2 ac) (.slice xo2 is.length xc2) (.slice (some ⟨pb, 0, none⟩) 3 3) (.slice fo fn fc) ⟨[a, b], rulesAt rules is⟩ l T mm hbwY ⟨⟨hV2.mo.1, hRY⟩, hV2.ps, hV2.fo⟩ rfl hmc' HF.out.1 HF.out.2.1 HF.out.2.2; obtain ⟨p0, p1, p2, p3⟩ := tkB_cells hx2.box
    have hV4Y := ((hUe ▸ hb4c : Below W4.heap.size W4 wc).cell (p := ⟨V1, 0, none⟩) (World.block_lt_of_cell? _ _ HV4.out)).trans HV4.out; have HDY : Hid (DBox wc w.heap.size c0 c1 c2 c3 c4 c5 c6) := HD2.out.below hb2Y; have HVY : Hid (wc.cell? ⟨V1, 0, none⟩ = some (.bool b1)) := hV4Y; have HBwY : Hid (Below w.heap.size w wc) := hbwY
    have HIs : Hid ((∀ i ∈ is, i < rules.length) /\ ∀ i, i < rules.length -> i ∈ is) := by rw [hrl]; exact ⟨hi1, hi2⟩
    clear hcut hRY hx2 hb2Y hmc' hV2 hV4Y hbwY hr' hi1 hi2 h12 hRC hrl hb4c HX HX4 HD HU0 HRC HRO HRR HX2 HV2 HVc HF HRc HV4 hpw hpwr hiR r0 r1 r2 m0 m1 m2 m3; obtain ⟨w7, rfl⟩ : ∃ w7, w7 = wc := ⟨_, rfl⟩
    go_upto_region 12 with (first | (go_at_call 11; refine hvc2.mono ?_; rintro e w8 ⟨b2, so2, sn2, sc2, lo2, ln2, lc2, rfl, hb8, HK2⟩))
    have hbD : Below w8.heap.size w8 (w8.alloc (.cells #[.bool b2, .slice so2 sn2 sc2, .slice lo2 ln2 lc2] 51)) := (Below.refl _ _).alloc (Nat.le_refl _) _; have hb79 := hb8.trans (hbD.mono hb8.size); have HV9 : Hid ((w8.alloc (.cells #[.bool b2, .slice so2 sn2 sc2, .slice lo2 ln2 lc2] 51)).cell? ⟨w8.heap.size, 0, none⟩ = some (.bool b2)) := by show _ = _; simp [go_sem]
    generalize w8.alloc (.cells #[.bool b2, .slice so2 sn2 sc2, .slice lo2 ln2 lc2] 51) = W9 at *; generalize w8.heap.size = V2 at *; have hbw9 := HBwY.out.trans (hb79.mono HBwY.out.size); obtain ⟨q0, q1, q2, q3, q4, q5, q6⟩ := HDY.out.below hb79; have hbE : Below W9.heap.size W9 (W9.alloc (.cells #[.int .i64 11, .int .i64 0] 57)) := (Below.refl _ _).alloc (Nat.le_refl _) _
    have hho := HH.out (W9.alloc (.cells #[.int .i64 11, .int .i64 0] 57)) (.slice (some ⟨W9.heap.size, 0, none⟩) 1 1) [(11, 0)] _ 0 (hbw9.trans (hbE.mono hbw9.size)) (ops_one W9 11 0) FOk.yes (by decide) (by decide)
    clear p0 p1 p2 p3 hvc2
    go_upto_region 13 with (first | (go_at_call 12; refine hho.mono ?_; rintro e w11 ⟨bb, rfl, hb11, HKp⟩))
    have hb9F := hbE.trans (hb11.mono hbE.size); have hb7F := hb79.trans (hb9F.mono hb79.size); have v1 := (hb7F.cell (p := ⟨V1, 0, none⟩) (World.block_lt_of_cell? _ _ HVY.out)).trans HVY.out; have v2 := (hb9F.cell (p := ⟨V2, 0, none⟩) (World.block_lt_of_cell? _ _ HV9.out)).trans HV9.out; have hbF := hbw9.trans (hb9F.mono hbw9.size); obtain rfl := kp_yes HKp.out
    obtain rfl := kp_order HIs.out.1 HIs.out.2 HK1.out HK2.out; clear hho HKp HH HV9 HVY HDY HD2 q0 q1 q2 q3 q4 q5 q6 HK1 HK2 HG
    go_wp2_with fail
    go_ret
    exact ⟨by first | rfl | simp, hbF⟩
end Go.Proofs.YteejnjcdfmedlaaGreatDoor
