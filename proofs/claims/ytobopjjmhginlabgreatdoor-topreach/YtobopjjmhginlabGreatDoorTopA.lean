/-
  Joined out of ExGr, VdM, VdM2, VdM3, VdM4, VdM6, TrM, TrWalk, in their order: a claim bears at most so many files.
-/
import Derived.Test.YtobopjjmhginlabGreatDoorLateD
import Derived.Test.YtobopjjmhginlabGreatDoorSccA
import Derived.Test.YtobopjjmhginlabGreatDoorLateE
namespace Go.Proofs.YtobopjjmhginlabGreatDoor
open Go.ChangeShapes Go.WideShapes Go.ChangeAt Go.RowKit Go.Deep Go.Maps
open Terms Tm
set_option maxHeartbeats 6400000
set_option maxRecDepth 20000
noncomputable def exGr (m : Mo) (ps : List (List (Int × Int))) (l : List (Int × Int)) (K : Nat) : Gr := ⟨xpP m ps l K, ((begL m ps l).length : Nat), xpN m ps l K, xpT m ps l K, ((aheadL l).length : Nat)⟩
section
variable {m : Mo} {ps : List (List (Int × Int))} {l : List (Int × Int)} {K : Nat}
theorem xpAt_eq (h : ExDone m ps l K) {i : Nat} (hi : i < K) : xpAt m ps l i = (xpP m ps l K).getD i (0, 0) :=
  (exS_at (begL m ps l) (xpBh m ps l) (Nat.le_of_lt hi) (h.2.2.1 i hi)).symm
theorem xpN_get {K : Nat} : ∀ {j : Nat}, j < K -> (xpN m ps l K).getD j [] = plIx (xpP m ps l j) (xpBh m ps l (xpAt m ps l j)) := by
  induction K with
  | zero => intro j h; omega
  | succ K ih =>
    intro j h; rw [xpN, List.getD_eq_getElem?_getD]
    by_cases hj : j < K
    · rw [List.getElem?_append_left (by rw [xpN_len]; exact hj), <- List.getD_eq_getElem?_getD]
      exact ih hj
    · obtain rfl : j = K := by omega
      rw [List.getElem?_append_right (by rw [xpN_len]; exact Nat.le_refl _), xpN_len]
      simp
theorem xpN_row (h : ExDone m ps l K) {i : Nat} (hi : i < K) : ((xpN m ps l K).getD i []).length = (xpBh m ps l ((xpP m ps l K).getD i (0, 0))).length /\ ∀ q, q < (xpBh m ps l ((xpP m ps l K).getD i (0, 0))).length -> ((xpN m ps l K).getD i []).getD q 0 = (((xpP m ps l K).idxOf ((xpBh m ps l ((xpP m ps l K).getD i (0, 0))).getD q (0, 0)) : Nat) : Int) /\ (xpBh m ps l ((xpP m ps l K).getD i (0, 0))).getD q (0, 0) ∈ xpP m ps l K := by
  rw [xpN_get hi, <- xpAt_eq h hi]; refine ⟨plIx_len _ _, fun q hq => ?_⟩
  have hmem : (xpBh m ps l (xpAt m ps l i)).getD q (0, 0) ∈ xpP m ps l (i + 1) := by
    rw [xpP_succ, plTo_iff]; refine .inr ?_
    rw [List.getD_eq_getElem?_getD, List.getElem?_eq_getElem hq]
    exact List.getElem_mem _
  have hpre : xpP m ps l (i + 1) <+: xpP m ps l K := exS_le _ _ hi; refine ⟨?_, hpre.subset hmem⟩
  rw [plIx_at hq, <- xpP_succ, idx_pre hpre hmem]
theorem exGr_step (h : ExDone m ps l K) {s x : Int × Int} (hs : s ∈ xpP m ps l K) (hx : x ∈ xpBh m ps l s) : x ∈ xpP m ps l K /\ (xpP m ps l K).idxOf x ∈ nxt (exGr m ps l K) ((xpP m ps l K).idxOf s) := by
  have hi := List.idxOf_lt_length_of_mem hs; have hiK : (xpP m ps l K).idxOf s < K := by rw [h.1] at hi; exact hi
  have he : (xpP m ps l K).getD ((xpP m ps l K).idxOf s) (0, 0) = s := by
    rw [List.getD_eq_getElem?_getD, List.getElem?_eq_getElem hi]
    exact List.getElem_idxOf hi
  obtain ⟨r1, r2⟩ := xpN_row h hiK; rw [he] at r1 r2; obtain ⟨q, hq, rfl⟩ := List.getElem_of_mem hx; have hg : (xpBh m ps l s).getD q (0, 0) = (xpBh m ps l s)[q] := by rw [List.getD_eq_getElem?_getD, List.getElem?_eq_getElem hq]; rfl
  obtain ⟨r3, r4⟩ := r2 q hq; rw [hg] at r3 r4; refine ⟨r4, ?_⟩
  unfold nxt; rw [List.mem_map]; refine ⟨((xpN m ps l K).getD ((xpP m ps l K).idxOf s) []).getD q 0, ?_, by rw [r3]; rfl⟩
  show ((xpN m ps l K).getD ((xpP m ps l K).idxOf s) []).getD q 0 ∈ (xpN m ps l K).getD ((xpP m ps l K).idxOf s) []
  generalize (xpN m ps l K).getD ((xpP m ps l K).idxOf s) [] = row at *; rw [List.getD_eq_getElem?_getD, List.getElem?_eq_getElem (by rw [r1]; exact hq)]
  exact List.getElem_mem _
end
theorem SpO.ops {w : World} {base : Nat} {v : Value} {x : List (Int × Int)} (h : SpO w base v x) : OpsV w v x := by
  rcases h.2 with ⟨rfl, h0⟩ | ⟨g, cap, cur, rfl, hb, hg, hnc, hcm, hcs, htake⟩
  · have : x = [] := by simpa using h0
    subst this; exact ⟨none, 0, rfl, ⟨by simp, fun _ => ⟨rfl, rfl⟩⟩, fun h => absurd rfl h⟩
  · refine ⟨_, cap, rfl, ⟨hnc, fun h => by simp at h⟩, fun _ => ⟨g, 0, rfl, (Array.getElem?_eq_some_iff.1 hg).1, fun i hi => ?_⟩⟩
    obtain ⟨f0, f1⟩ := flat_get x i hi; rw [World.ownsRow.cellAt h _ (by omega), World.ownsRow.cellAt h _ (by omega)]
    simpa using ⟨f0, f1⟩
end Go.Proofs.YtobopjjmhginlabGreatDoor
namespace Go.Proofs.YtobopjjmhginlabGreatDoor
open Go.ChangeShapes Go.WideShapes Go.ChangeAt Go.RowKit Go.Deep
open Terms Tm
set_option maxHeartbeats 6400000
set_option maxRecDepth 20000
section
variable {m : Mo} {ps : List (List (Int × Int))} {l : List (Int × Int)} {K : Nat}
theorem foTo_in {x : List Bool} {c : Int} {y : List Bool} {st : Int} {d : Nat} (hf : folR l x c y (d : Int) = true) : ∀ k, d < k -> (st, (d : Int)) ∈ foTo l x c y st k
  | 0, h => by omega
  | k + 1, h => by
    rw [foTo]
    by_cases e : d = k
    · subst e
      rw [if_pos hf]; exact List.mem_append_right _ (List.mem_singleton.2 rfl)
    · have := foTo_in hf (st := st) k (by omega)
      split
      · exact List.mem_append_left _ this
      · exact this
theorem beh_in {code c y : Int} {d : Nat} (hy : y ∈ nextL m code) (hd : d < 2 ^ (aheadL l).length) (hf : folR l (letL m ps code) c (letL m ps y) (d : Int) = true) : (y, (d : Int)) ∈ behL m ps l code c := by
  obtain ⟨q, hq, rfl⟩ := List.getElem_of_mem hy; have hg : (nextL m code).getD q 0 = (nextL m code)[q] := by rw [List.getD_eq_getElem?_getD, List.getElem?_eq_getElem hq]; rfl
  have key : ∀ i, q < i -> i <= (nextL m code).length -> ((nextL m code)[q], (d : Int)) ∈ behTo m ps l code c i := fun i => by
    induction i with
    | zero => intro h; omega
    | succ i ih =>
      intro h1 h2; rw [behTo, List.mem_append]
      by_cases e : q = i
      · subst e
        refine .inr ?_
        rw [hg]; exact foTo_in hf _ hd
      · exact .inl (ih (by omega) (by omega))
  exact key _ hq (Nat.le_refl _)
theorem beg_in {d : Nat} (hd : d < 2 ^ (aheadL l).length) (hf : tru l (letL m ps (begC m)) (d : Int) 0 ≠ true) : (begC m, (d : Int)) ∈ begL m ps l := by
  have key : ∀ k, d < k -> (begC m, (d : Int)) ∈ begTo m ps l k := fun k => by
    induction k with
    | zero => intro h; omega
    | succ k ih =>
      intro h; rw [begTo]
      by_cases e : d = k
      · subst e
        rw [if_neg hf]; exact List.mem_append_right _ (List.mem_singleton.2 rfl)
      · have := ih (by omega)
        split
        · exact this
        · exact List.mem_append_left _ this
  exact key _ hd
theorem tk_fol (hk : tkcode m ps l = 0) {x y : Int} {c d : Nat} (hx : 0 <= x /\ x < prodTo m.vars m.vars.length) (hy : 0 <= y /\ y < prodTo m.vars m.vars.length) (hc : c < 2 ^ (aheadL l).length) (hd : d < 2 ^ (aheadL l).length) : fcode l (letL m ps x) (c : Int) (letL m ps y) (d : Int) = 0 := by
  unfold fcode; rw [if_neg (by rw [(tk_let hk hx).2, (tk_let hk hy).2]; simp), if_neg (by rw [(tk_tru hk hx hc).1]; simp)]
  exact (tk_tru hk hy hd).1
end
section
variable {m : Mo} {ps : List (List (Int × Int))} {l : List (Int × Int)} {K : Nat}
theorem idx_beg {s : Int × Int} (hs : s ∈ begL m ps l) : (xpP m ps l K).idxOf s < (begL m ps l).length /\ s ∈ xpP m ps l K := by
  have h0 : s ∈ xpP m ps l 0 := (plTo_iff _ _ _).2 (.inr hs); have hpre : xpP m ps l 0 <+: xpP m ps l K := exS_le _ _ (Nat.zero_le K); refine ⟨?_, hpre.subset h0⟩
  rw [idx_pre hpre h0]; have h1 := List.idxOf_lt_length_of_mem h0
  have h2 : (xpP m ps l 0).length <= (begL m ps l).length := by
    have := (plTo_length (begL m ps l) []).2
    show (plTo [] (begL m ps l)).length <= _
    simpa using this
  omega
theorem sub_zero (T : Tm) : T.sub 0 = T := by cases T <;> rfl
end
section
variable {m : Mo} {ps : List (List (Int × Int))} {l : List (Int × Int)} {K : Nat}
end
section
variable {m : Mo} {ps : List (List (Int × Int))} {l : List (Int × Int)} {K : Nat}
end
section
variable {m : Mo} {ps : List (List (Int × Int))} {l : List (Int × Int)} {K : Nat}
theorem xp_reached (h : ExDone m ps l K) : ∀ p ∈ xpP m ps l K, RSt (nextL m) (begC m) p.1 :=
  exS_sub (begL m ps l) (xpBh m ps l) (P := fun p => RSt (nextL m) (begC m) p.1) (fun s hs => by
    obtain ⟨h1, _⟩ := xbg_mem _ hs
    show RSt _ _ s.1
    rw [h1]
    exact .first) (fun s hs x hx => by
    have h1 := (xbe_mem _ (Nat.le_refl _) hx).1
    exact .next hs h1) K h.2.2.1
theorem no_ahead : aheadL [((12 : Int), (0 : Int))] = [] := by decide
theorem no_spots (hk : tkcode m ps [(12, 0)] = 0) (h : ExDone m ps [(12, 0)] K) : (∀ p ∈ xpP m ps [(12, 0)] K, p.2 = 0) /\ ∀ x, RSt (nextL m) (begC m) x -> (x, 0) ∈ xpP m ps [(12, 0)] K := by
  have h1 : 2 ^ (aheadL [((12 : Int), (0 : Int))]).length = 1 := by rw [no_ahead]; rfl
  refine ⟨fun p hp => ?_, fun x hx => ?_⟩
  · obtain ⟨_, d, h2, h3⟩ := h.2.2.2 p hp
    rw [h1] at h2; have : d = 0 := by omega
    rw [h3, this]; rfl
  · induction hx with
    | first =>
      have htr : tru [((12 : Int), (0 : Int))] (letL m ps (begC m)) ((0 : Nat) : Int) 0 ≠ true := by
        rw [tru_mk (l := [((12 : Int), (0 : Int))]) (p := 0) (by simp) rfl (fun hh => absurd hh (by decide))]
        simp [mkB]
      exact (idx_beg (beg_in (d := 0) (by rw [h1]; decide) htr)).2
    | @next y z hy hz ih =>
      have hs := h.2.2.2 _ ih; have hm0 := (pcode_m (tk_zero hk).1).1; have hzr := nextL_st hm0 hs.1 hz; refine (exGr_step h ih ?_).1
      refine beh_in (d := 0) hz (by rw [h1]; decide) ?_
      refine folR_yes (tk_fol hk hs.1 hzr (c := 0) (d := 0) (by rw [h1]; decide) (by rw [h1]; decide)) (fun p hp hb => ?_)
      have : p = 0 := by simp at hp; exact hp
      subst this; exact absurd hb (by decide)
end
section
variable {m : Mo} {ps : List (List (Int × Int))} {l : List (Int × Int)} {K : Nat}
theorem reach_mem (hk : tkcode m ps l = 0) (x : Int) : x ∈ reachL m ↔ RSt (nextL m) (begC m) x := by
  have hm0 := (pcode_m (tk_zero hk).1).1; have hb := tk_beg hk; have hN : ((prodTo m.vars m.vars.length).toNat : Int) = prodTo m.vars m.vars.length := by omega
  unfold reachL; rw [if_pos hm0, reachN_mem, hN]
  constructor
  · exact fun h => h.2
  · intro h
    refine ⟨?_, h⟩
    have := RSt.in (N := (prodTo m.vars m.vars.length).toNat) (nx := nextL m) (first := begC m) (by rw [hN]; exact hb) (fun x y hx hy => by rw [hN] at hx ⊢; exact nextL_in hm0 hx hy) h
    rw [hN] at this; exact this
theorem reach_in (hk : tkcode m ps l = 0) (h : ExDone m ps l K) {p : Int × Int} (hp : p ∈ xpP m ps l K) : p.1 ∈ reachL m := (reach_mem hk _).2 (xp_reached h p hp)
theorem rise_nodup : ∀ {x : List Int}, Rise x -> x.Nodup := fun h => List.Pairwise.imp (fun hab e => by omega) h
theorem reach_len (hk : tkcode m ps [(12, 0)] = 0) (h : ExDone m ps [(12, 0)] K) : (reachL m).length = K /\ reachL m ≠ [] := by
  obtain ⟨h1, h2⟩ := no_spots hk h; have hm0 := (pcode_m (tk_zero hk).1).1; have hnd : (xpP m ps [(12, 0)] K).Nodup := exS_nodup _ _ K
  have hr : (reachL m).Nodup := by
    unfold reachL; rw [if_pos hm0]; exact rise_nodup (reachN_rise _ _ _)
  have hA : ((xpP m ps [(12, 0)] K).map Prod.fst).Nodup := by
    refine List.pairwise_map.2 (List.Pairwise.imp_of_mem (fun {a b} ha hb hne e => hne (Prod.ext e ((h1 a ha).trans (h1 b hb).symm))) hnd)
  have s1 : (reachL m) ⊆ (xpP m ps [(12, 0)] K).map Prod.fst := fun x hx => List.mem_map.2 ⟨(x, 0), h2 x ((reach_mem hk x).1 hx), rfl⟩
  have s2 : (xpP m ps [(12, 0)] K).map Prod.fst ⊆ reachL m := fun x hx => by
    obtain ⟨p, hp, rfl⟩ := List.mem_map.1 hx; exact reach_in hk h hp
  have l1 := hr.length_le_of_subset s1; have l2 := hA.length_le_of_subset s2; rw [List.length_map, h.1] at l1 l2; refine ⟨by omega, fun e => ?_⟩
  have : begC m ∈ reachL m := (reach_mem hk _).2 .first; rw [e] at this; exact absurd this List.not_mem_nil
end
end Go.Proofs.YtobopjjmhginlabGreatDoor
namespace Go.Proofs.YtobopjjmhginlabGreatDoor
open Go.ChangeShapes Go.WideShapes Go.ChangeAt Go.RowKit Go.Deep Go.Maps
open Terms Tm
set_option maxHeartbeats 6400000
set_option maxRecDepth 20000
theorem few_spotsT {m : Mo} {a b : Vr} {l : List (Int × Int)} {mm : Nat} (hG : GV a b) (hk : KTaskOk m l mm) (hvars : m.vars = [a, b]) : ¬ ExFull m propsL l := by
  have hspan : 1 <= vspan a * vspan b /\ vspan a * vspan b <= 16 := by
    have h1 : 1 <= vspan a /\ vspan a <= 4 := by have := hG.a2; have := hG.a3; unfold vspan; omega
    have h2 : 1 <= vspan b /\ vspan b <= 4 := by have := hG.b2; have := hG.b3; unfold vspan; omega
    obtain ⟨x1, x2⟩ := h1; obtain ⟨y1, y2⟩ := h2; generalize vspan a = x at *; generalize vspan b = y at *
    rcases (show x = 1 \/ x = 2 \/ x = 3 \/ x = 4 by omega) with rfl | rfl | rfl | rfl <;> omega
  have hah : (aheadL l).length = mm := by obtain ⟨T, hT⟩ := hk.fo; exact hT.ahead
  refine xp_few (P := (vspan a * vspan b).toNat) hk.code ?_ ?_
  · rw [hvars]
    show prodTo [a, b] 2 = _
    rw [prod_two]; omega
  · rw [hah]
    have : 2 ^ mm <= 2 ^ 6 := Nat.pow_le_pow_right (by decide) hk.many
    have h3 : (vspan a * vspan b).toNat * 2 ^ mm <= 16 * 64 := Nat.mul_le_mul (by omega) (by omega)
    omega
theorem FOk.noT : FOk 0 [(12, 0)] (.leaf 12 0) := ⟨rfl, ⟨by decide, by decide⟩, fun o ho => by
  obtain rfl : o = (12, 0) := by simpa using ho
  rfl, by decide⟩
theorem OpsV.spotT {w : World} {ao : Option Addr} {n c : Nat} {x : List (Int × Int)} (h : OpsV w (.slice ao n c) x) {i : Nat} (hi : i < x.length) : ∃ b off, ao = some ⟨b, off, none⟩ /\ w.cell? ⟨b, off + i * 2, none⟩ = some (.int .i64 (x.getD i (0, 0)).1) := by
  obtain ⟨ao', cap, e, _, h⟩ := h
  injection e with e1 e2 e3
  subst e1; obtain ⟨b, off, rfl, hlt, hat⟩ := h (by rintro rfl; simp at hi)
  exact ⟨b, off, rfl, (hat i hi).1⟩
theorem IntsV.numT {w : World} {ao : Option Addr} {n c : Nat} {x : List Int} (h : IntsV w (.slice ao n c) x) {i : Nat} (hi : i < x.length) : ∃ b off, ao = some ⟨b, off, none⟩ /\ w.cell? ⟨b, off + i, none⟩ = some (.int .i64 (x.getD i 0)) := by
  obtain ⟨ao', cap, e, h⟩ := h
  injection e with e1 e2 e3
  subst e1; obtain ⟨b, off, rfl, hlt, hat⟩ := h (by rintro rfl; simp at hi)
  exact ⟨b, off, rfl, hat i hi⟩
theorem topReach_walk (c0 c1 c2 c3 c4 c5 c6 : Value) (a b : Vr) (rawv : Value) (rs : List (Int × Int)) (w : World) (hB : 0 < w.heap.size) (hT : TabAt w) (hG : GV a b) (hR : Raws w w.heap.size rawv rs)
    (hmd : ∀ w', Below w.heap.size w w' -> Calls Tryz.prog 17 #[.agg #[c0, c1, c2, c3, c4, c5, c6]] w' fun e w2 => ∃ va vr, e = .returned (.agg #[va, vr]) /\ Below w'.heap.size w' w2 /\ GModel w2 va vr [a, b]) :
    Calls Tryz.prog 6 #[.agg #[c0, c1, c2, c3, c4, c5, c6], rawv] w fun e w' => e = .returned (.bool true) /\ Below w.heap.size w w' := by
  have hA1 : Below w.heap.size w (w.alloc (.cells #[c0, c1, c2, c3, c4, c5, c6] 25)) := (Below.refl _ _).alloc (Nat.le_refl _) _; have htk := taskFn_any c0 c1 c2 c3 c4 c5 c6 a b rawv rs 2 _ hG (by decide) (hR.up hA1) (fun w' h => hmd w' (hA1.trans (h.mono hA1.size)))
  obtain ⟨ra, rn0, rc0, hra⟩ : ∃ a n c, rawv = .slice a n c := by obtain ⟨⟨a, c, h, _⟩, _, _⟩ := hR; exact ⟨_, _, _, h⟩
  subst hra
  have HEx : Hid (∀ (w' : World) (va vr pv fv : Value) (m : Mo) (l : List (Int × Int)) (mm : Nat), Below w.heap.size w w' -> KTaskOk m l mm -> m.vars = [a, b] -> TaskV w' va vr pv fv m propsL l -> Calls Tryz.prog 11 #[.agg #[va, vr, pv, fv]] w' fun e w2 => ∃ K so sc no nc xo xc, e = .returned (.tuple #[.agg #[.slice so K sc, .int .i64 ((begL m propsL l).length : Nat), .slice no K nc, .slice xo K xc, .int .i64 ((aheadL l).length : Nat)], .int .i64 0]) /\ Below w'.heap.size w' w2 /\ K <= 20000 /\ Hid (ExDone m propsL l K /\ OpsV w2 (.slice so K sc) (xpP m propsL l K))) := fun w' va vr pv fv m l mm h hk hvars hv => by
    refine (explore_any va vr pv fv m propsL l w' (Nat.lt_of_lt_of_le hB h.size) (hT.below h hB) hv).mono fun e w2 hx => ?_
    rcases hx with ⟨_, K, hD, sv, nv, tv, e1, h2, HG⟩ | ⟨_, hf, _, _⟩ | ⟨h1, _, _⟩
    · have hGr := HG.out.1.ops
      obtain ⟨so, sc, rfl⟩ := HG.out.1.shape; obtain ⟨us, n1, _⟩ := HG.out.2.1; obtain ⟨no, nc, rfl⟩ := owns_slice n1; obtain ⟨xo, xc, rfl⟩ := owns_slice HG.out.2.2; rw [hD.1, xpN_len, xpT_len] at e1; rw [hD.1] at hGr; exact ⟨K, so, sc, no, nc, xo, xc, e1, h2, hD.2.1, hD, hGr⟩
    · exact absurd hf (few_spotsT hG hk hvars)
    · exact absurd hk.code h1
  have HRe : Hid (∀ (w' : World) (va vr : Value) (m : Mo), Below w.heap.size w w' -> mcode m = 0 -> ModelV w' va vr m -> Calls Tryz.prog 12 #[.agg #[va, vr]] w' fun e w2 => ∃ vo rl vc, e = .returned (.tuple #[.slice vo rl vc, .int .i64 0]) /\ Below w'.heap.size w' w2 /\ Hid (IntsV w2 (.slice vo rl vc) (reachL m) /\ (reachL m).length = rl)) := fun w' va vr m h hm hv => by
    have h1 := reach_any va vr m w' (Nat.lt_of_lt_of_le hB h.size) (hT.below h hB) hv; rw [hm] at h1; refine h1.mono fun e w2 ⟨v, e1, h2, h3⟩ => ?_
    obtain ⟨ao, cap, rfl, _⟩ := id h3; exact ⟨ao, _, cap, e1, h2, h3, rfl⟩
  clear hmd hR hT hG
  go_enter Tryz.func6, Tryz.ntmps6
  go_upto_region 2 with (first | (go_at_call 10; refine htk.mono ?_; rintro e w1 ⟨ao, ac, ro, rn, rc, pb, fo, fn, fc, m, l, mm, rfl, hb1, HV, HK, hmm, hfn⟩))
  have hbw1 := hA1.trans (hb1.mono hA1.size); have hbA : Below w1.heap.size w1 (w1.alloc (.cells #[.slice ao 2 ac, .slice ro rn rc, .slice (some ⟨pb, 0, none⟩) 3 3, .slice fo fn fc] 42)) := (Below.refl _ _).alloc (Nat.le_refl _) _; have hbw2 := hbw1.trans (hbA.mono hbw1.size)
  have hbx : (w1.alloc (.cells #[.slice ao 2 ac, .slice ro rn rc, .slice (some ⟨pb, 0, none⟩) 3 3, .slice fo fn fc] 42)).heap[w1.heap.size]? = some (tkB (.slice ao 2 ac) (.slice ro rn rc) (.slice (some ⟨pb, 0, none⟩) 3 3) (.slice fo fn fc)) := (MapKept.heap_alloc w1 _).1
  have HV2 : Hid (TaskV (w1.alloc (.cells #[.slice ao 2 ac, .slice ro rn rc, .slice (some ⟨pb, 0, none⟩) 3 3, .slice fo fn fc] 42)) (.slice ao 2 ac) (.slice ro rn rc) (.slice (some ⟨pb, 0, none⟩) 3 3) (.slice fo fn fc) m propsL l) := HV.out.below hbA; obtain ⟨hok, hvars, hfl, hne⟩ := HK.out
  generalize w1.alloc (.cells #[.slice ao 2 ac, .slice ro rn rc, .slice (some ⟨pb, 0, none⟩) 3 3, .slice fo fn fc] 42) = W2 at *; generalize w1.heap.size = X at *; obtain ⟨p0, p1, p2, p3⟩ := tkB_cells hbx; have hex := HEx.out W2 _ _ _ _ m l mm hbw2 hok hvars HV2.out; have HOk : Hid (KTaskOk m l mm /\ m.vars = [a, b]) := ⟨hok, hvars⟩
  have HX2 : Hid (W2.heap[X]? = some (tkB (.slice ao 2 ac) (.slice ro rn rc) (.slice (some ⟨pb, 0, none⟩) 3 3) (.slice fo fn fc))) := hbx; clear hok hvars hfl hne HK HV htk hbx; generalize (begL m propsL l).length = bn at *; generalize (aheadL l).length = an at *
  go_upto_region 3 with (first | (go_at_call 11; refine hex.mono ?_; rintro e w3 ⟨K, so, sc, no, nc, xo, xc, rfl, hb3, hK, HD⟩))
  have hbB : Below w3.heap.size w3 (w3.alloc (.cells #[.slice so K sc, .int .i64 (bn : Nat), .slice no K nc, .slice xo K xc, .int .i64 (an : Nat)] 48)) := (Below.refl _ _).alloc (Nat.le_refl _) _; have hb24 := hb3.trans (hbB.mono hb3.size)
  have hbg : (w3.alloc (.cells #[.slice so K sc, .int .i64 (bn : Nat), .slice no K nc, .slice xo K xc, .int .i64 (an : Nat)] 48)).heap[w3.heap.size]? = some (grB (.slice so K sc) (.slice no K nc) (.slice xo K xc) (bn : Nat) (an : Nat)) := (MapKept.heap_alloc w3 _).1
  have HS4 : Hid (OpsV (w3.alloc (.cells #[.slice so K sc, .int .i64 (bn : Nat), .slice no K nc, .slice xo K xc, .int .i64 (an : Nat)] 48)) (.slice so K sc) (xpP m propsL l K)) := HD.out.2.below hbB; have HDn : Hid (ExDone m propsL l K) := HD.out.1; generalize w3.alloc (.cells #[.slice so K sc, .int .i64 (bn : Nat), .slice no K nc, .slice xo K xc, .int .i64 (an : Nat)] 48) = W4 at *
  generalize w3.heap.size = G at *; have hbw4 := hbw2.trans (hb24.mono hbw2.size); have hbx4 : W4.heap[X]? = some (tkB (.slice ao 2 ac) (.slice ro rn rc) (.slice (some ⟨pb, 0, none⟩) 3 3) (.slice fo fn fc)) := (hb24.block X (Array.getElem?_eq_some_iff.1 HX2.out).1).trans HX2.out
  obtain ⟨q0, q1, q2, q3⟩ := tkB_cells hbx4; have HV4 : Hid (TaskV W4 (.slice ao 2 ac) (.slice ro rn rc) (.slice (some ⟨pb, 0, none⟩) 3 3) (.slice fo fn fc) m propsL l) := HV2.out.below hb24; have HG4 : Hid (W4.heap[G]? = some (grB (.slice so K sc) (.slice no K nc) (.slice xo K xc) (bn : Nat) (an : Nat))) := hbg
  have HX4 : Hid (W4.heap[X]? = some (tkB (.slice ao 2 ac) (.slice ro rn rc) (.slice (some ⟨pb, 0, none⟩) 3 3) (.slice fo fn fc))) := hbx4; have hre := HRe.out W4 _ _ m hbw4 HOk.out.1.mo HV4.out.mo; clear hex p0 p1 p2 p3 HD HX2 HV2 hbg hbx4
  go_upto_region 4 with (first | (go_at_call 12; refine hre.mono ?_; rintro e w5 ⟨vo, rl, vc, rfl, hb5, HR5⟩))
  have hbw5 := hbw4.trans (hb5.mono hbw4.size); have hbx5 : w5.heap[X]? = some (tkB (.slice ao 2 ac) (.slice ro rn rc) (.slice (some ⟨pb, 0, none⟩) 3 3) (.slice fo fn fc)) := (hb5.block X (Array.getElem?_eq_some_iff.1 HX4.out).1).trans HX4.out
  obtain ⟨p0, p1, p2, p3⟩ := tkB_cells hbx5; have HV5 : Hid (TaskV w5 (.slice ao 2 ac) (.slice ro rn rc) (.slice (some ⟨pb, 0, none⟩) 3 3) (.slice fo fn fc) m propsL l) := HV4.out.below hb5; clear hre q0 q1 q2 q3 hbx5
  have HT8 : Hid (TkAt w5 ((w5.alloc (.cells #[.slice ao 2 ac, .slice ro rn rc, .slice (some ⟨pb, 0, none⟩) 3 3, .slice (some ⟨w5.heap.size + 1, 0, none⟩) 1 1] 42)).alloc (.cells #[.int .i64 12, .int .i64 0] 33)) w5.heap.size (.slice ao 2 ac) (.slice ro rn rc) (.slice (some ⟨pb, 0, none⟩) 3 3) (some ⟨w5.heap.size + 1, 0, none⟩) 1 1 m [(12, 0)]) := by
    have h1 : Below w5.heap.size w5 (w5.alloc (.cells #[.slice ao 2 ac, .slice ro rn rc, .slice (some ⟨pb, 0, none⟩) 3 3, .slice (some ⟨w5.heap.size + 1, 0, none⟩) 1 1] 42)) := (Below.refl _ _).alloc (Nat.le_refl _) _; have h2 := h1.alloc h1.size (.cells #[.int .i64 12, .int .i64 0] 33)
    have hO := ops_one (w5.alloc (.cells #[.slice ao 2 ac, .slice ro rn rc, .slice (some ⟨pb, 0, none⟩) 3 3, .slice (some ⟨w5.heap.size + 1, 0, none⟩) 1 1] 42)) 12 0; rw [World.size_alloc] at hO; have hbx := (MapKept.heap_alloc w5 (.cells #[.slice ao 2 ac, .slice ro rn rc, .slice (some ⟨pb, 0, none⟩) 3 3, .slice (some ⟨w5.heap.size + 1, 0, none⟩) 1 1] 42)).1; have hV := HV5.out.below h2
    exact ⟨h2, (((Below.refl (w5.alloc (.cells #[.slice ao 2 ac, .slice ro rn rc, .slice (some ⟨pb, 0, none⟩) 3 3, .slice (some ⟨w5.heap.size + 1, 0, none⟩) 1 1] 42)).heap.size _).alloc (Nat.le_refl _) _).block w5.heap.size (by simp)).trans hbx, ⟨hV.mo, hV.ps, hO⟩, Nat.le_refl _⟩
  have HTab : Hid (∀ w', Below w5.heap.size w5 w' -> Below w.heap.size w w') := fun w' h => hbw5.trans (h.mono hbw5.size)
  have HK12 : Hid (KTaskOk m [(12, 0)] 0) := ⟨HOk.out.1.mo, HOk.out.1.vars, ⟨_, FOk.noT⟩, by decide, by decide⟩
  go_upto_region 6 with fail
  generalize hW8 : (w5.alloc (.cells #[.slice ao 2 ac, .slice ro rn rc, .slice (some ⟨pb, 0, none⟩) 3 3, .slice (some ⟨w5.heap.size + 1, 0, none⟩) 1 1] 42)).alloc (.cells #[.int .i64 12, .int .i64 0] 33) = W8 at *; have hb58 := HT8.out.bel; have hbw8 := HTab.out W8 hb58; obtain ⟨z0, z1, z2, z3⟩ := tkB_cells HT8.out.box
  have hex2 := HEx.out W8 _ _ _ _ m [(12, 0)] 0 hbw8 HK12.out HOk.out.2 HT8.out.tk; generalize (begL m propsL [(12, 0)]).length = bn2 at *; generalize (aheadL [((12 : Int), (0 : Int))]).length = an2 at *; clear p0 p1 p2 p3 hW8 HEx HRe HV5 HV4
  go_upto_region 7 with (first | (go_at_call 11; refine hex2.mono ?_; rintro e w9 ⟨K2, so2, sc2, no2, nc2, xo2, xc2, rfl, hb9, hK2, HD2⟩))
  have hbE : Below w9.heap.size w9 (w9.alloc (.cells #[.slice so2 K2 sc2, .int .i64 (bn2 : Nat), .slice no2 K2 nc2, .slice xo2 K2 xc2, .int .i64 (an2 : Nat)] 48)) := (Below.refl _ _).alloc (Nat.le_refl _) _; have hb89 := hb9.trans (hbE.mono hb9.size); have hb5W := hb58.trans (hb89.mono hb58.size); have hb4W := hb5.trans (hb5W.mono hb5.size)
  have hbg2 : (w9.alloc (.cells #[.slice so2 K2 sc2, .int .i64 (bn2 : Nat), .slice no2 K2 nc2, .slice xo2 K2 xc2, .int .i64 (an2 : Nat)] 48)).heap[w9.heap.size]? = some (grB (.slice so2 K2 sc2) (.slice no2 K2 nc2) (.slice xo2 K2 xc2) (bn2 : Nat) (an2 : Nat)) := (MapKept.heap_alloc w9 _).1; have hbgW := (hb4W.block G (Array.getElem?_eq_some_iff.1 HG4.out).1).trans HG4.out
  have hbF := HTab.out _ hb5W; obtain ⟨hlen, hnil⟩ := reach_len HK12.out.code HD2.out.1; have hrl : rl = K2 := by rw [<- HR5.out.2]; exact hlen
  have hrl0 : 0 < rl := by
    rw [<- HR5.out.2]; exact List.length_pos_iff.2 hnil
  have HRv : Hid (∀ j, j < rl -> ∃ b off, vo = some ⟨b, off, none⟩ /\ (w9.alloc (.cells #[.slice so2 K2 sc2, .int .i64 (bn2 : Nat), .slice no2 K2 nc2, .slice xo2 K2 xc2, .int .i64 (an2 : Nat)] 48)).cell? ⟨b, off + j, none⟩ = some (.int .i64 ((reachL m).getD j 0))) := fun j hj => (HR5.out.1.below hb5W).numT (by rw [HR5.out.2]; exact hj)
  have HSv : Hid (∀ k, k < K -> ∃ b off, so = some ⟨b, off, none⟩ /\ (w9.alloc (.cells #[.slice so2 K2 sc2, .int .i64 (bn2 : Nat), .slice no2 K2 nc2, .slice xo2 K2 xc2, .int .i64 (an2 : Nat)] 48)).cell? ⟨b, off + k * 2, none⟩ = some (.int .i64 ((xpP m propsL l K).getD k (0, 0)).1)) := fun k hk => (HS4.out.below hb4W).spotT (by rw [HDn.out.1]; exact hk)
  have HIn : Hid (∀ k, k < K -> ∃ j, j < rl /\ (reachL m).getD j 0 = ((xpP m propsL l K).getD k (0, 0)).1) := fun k hk => by
    have hp : (xpP m propsL l K).getD k (0, 0) ∈ xpP m propsL l K := by
      have hl : k < (xpP m propsL l K).length := by rw [HDn.out.1]; exact hk
      rw [List.getD_eq_getElem?_getD, List.getElem?_eq_getElem hl]
      exact List.getElem_mem _
    obtain ⟨j, hj, e⟩ := List.getElem_of_mem (reach_in HOk.out.1.code HDn.out hp); refine ⟨j, by rw [<- HR5.out.2]; exact hj, ?_⟩
    rw [List.getD_eq_getElem?_getD, List.getElem?_eq_getElem hj]
    exact e
  obtain ⟨g0, _, _, _, _⟩ := grB_cells hbgW; obtain ⟨h0, _, _, _, _⟩ := grB_cells hbg2; generalize w9.alloc (.cells #[.slice so2 K2 sc2, .int .i64 (bn2 : Nat), .slice no2 K2 nc2, .slice xo2 K2 xc2, .int .i64 (an2 : Nat)] 48) = W9 at *; subst hrl; have hri : ¬ (rl : Int) = 0 := by omega
  have hrn : ¬ rl = 0 := by omega
  clear hlen hnil HD2 hex2 hbg2 hbgW HT8 z0 z1 z2 z3 HR5 HS4 HG4 HX4 hb9 hbE hb89 hb58 hb5W hb4W HK12 HTab hbw8; obtain ⟨R, hR'⟩ : ∃ R, reachL m = R := ⟨_, rfl⟩
  obtain ⟨X9, hX9⟩ : ∃ X9 : Nat -> Int, (fun k => ((xpP m propsL l K).getD k (0, 0)).1) = X9 := ⟨_, rfl⟩
  have HSx : Hid (∀ wr, Below W9.heap.size W9 wr -> ∀ k, k < K -> ∃ b off, so = some ⟨b, off, none⟩ /\ wr.cell? ⟨b, off + k * 2, none⟩ = some (.int .i64 (X9 k))) := fun wr hb k hk => by
    obtain ⟨b, off, e, h⟩ := HSv.out k hk; exact ⟨b, off, e, by rw [<- hX9]; exact (hb.cell (World.block_lt_of_cell? _ _ h)).trans h⟩
  have HIx : Hid (∀ k, k < K -> ∃ j, j < rl /\ R.getD j 0 = X9 k) := fun k hk => by rw [<- hX9, <- hR']; exact HIn.out k hk
  have HRx : Hid (∀ wr, Below W9.heap.size W9 wr -> ∀ j, j < rl -> ∃ b off, vo = some ⟨b, off, none⟩ /\ wr.cell? ⟨b, off + j, none⟩ = some (.int .i64 (R.getD j 0))) := fun wr hb j hj => by
    obtain ⟨b, off, e, h⟩ := HRv.out j hj; exact ⟨b, off, e, by rw [<- hR']; exact (hb.cell (World.block_lt_of_cell? _ _ h)).trans h⟩
  have HGx : Hid (∀ wr, Below W9.heap.size W9 wr -> wr.cell? ⟨G, 0, none⟩ = some (.slice so K sc)) := fun wr hb => (hb.cell (World.block_lt_of_cell? _ _ g0)).trans g0
  clear HSv HIn hR' hX9 HRv
  go_wp2_with fail
  go_loopw [13] (fun i wr => ∃ k : Nat, k <= K /\ i = .int .i64 k /\ Below W9.heap.size W9 wr) (fun i _ => K - (intOf i).toNat)
  case atStart => exact ⟨0, Nat.zero_le _, rfl, Below.refl _ _⟩
  case round =>
    obtain ⟨k, hk, rfl, hbr⟩ := hrel; have g1 := HGx.out wr hbr
    by_cases hkK : k < K
    · have hki : (k : Int) < (K : Int) := by omega
      have HJ : Hid (∃ j, j < rl /\ R.getD j 0 = X9 k) := HIx.out k hkK
      have HSk : Hid (∀ wr, Below W9.heap.size W9 wr -> ∃ b off, so = some ⟨b, off, none⟩ /\ wr.cell? ⟨b, off + k * 2, none⟩ = some (.int .i64 (X9 k))) := fun wr hb => HSx.out wr hb k hkK
      generalize X9 k = x at *
      go_wp2_with fail
      go_loopw [14, 15] (fun u i2 wr2 => ∃ (j : Nat) (bb : Bool), j <= rl /\ u = .bool bb /\ i2 = .int .i64 j /\ Below W9.heap.size W9 wr2 /\ Hid (bb = true ↔ ∃ q, q < j /\ R.getD q 0 = x)) (fun _ i2 _ => rl - (intOf i2).toNat)
      case atStart => exact ⟨0, false, Nat.zero_le _, rfl, rfl, hbr, ⟨fun h => (by cases h), fun ⟨q, h, _⟩ => absurd h (Nat.not_lt_zero _)⟩⟩
      case round =>
        obtain ⟨j, bb, hj, rfl, rfl, hbr2, HBb⟩ := hrel
        by_cases hjl : j < rl
        · have hji : (j : Int) < (rl : Int) := by omega
          obtain ⟨rb, roff, rfl, d0⟩ := HRx.out wr hbr2 j hjl; obtain ⟨sb, soff, rfl, c0⟩ := HSk.out wr hbr2; have g2 := HGx.out wr hbr2
          have HNx : Hid (∀ b2 : Bool, (b2 = true ↔ bb = true \/ R.getD j 0 = x) -> (b2 = true ↔ ∃ q, q < j + 1 /\ R.getD q 0 = x)) := fun b2 h => by
            rw [h, HBb.out]
            constructor
            · rintro (⟨q, h1, h2⟩ | h1)
              · exact ⟨q, by omega, h2⟩
              · exact ⟨j, Nat.lt_succ_self _, h1⟩
            · rintro ⟨q, h1, h2⟩
              by_cases hq : q = j
              · subst hq; exact .inr h2
              · exact .inl ⟨q, by omega, h2⟩
          generalize R.getD j 0 = y at *
          cases bb with
          | true =>
            go_upto_region 16 with fail
            go_quiet (fail)
            go_wp2_with fail
            go_roundw
            case rel => exact ⟨j + 1, true, by omega, by first | rfl | simp, by go_num, ⟨hbr2.os, hbr2.tape, hbr2.output, hbr2.size, hbr2.block⟩, HNx.out true ⟨fun _ => .inl rfl, fun _ => rfl⟩⟩
            case measure => simp [intOf]; omega
          | false =>
            go_upto_region 16 with fail
            go_quiet (fail)
            go_wp2_with fail
            go_roundw
            case rel => exact ⟨j + 1, decide (y = x), by omega, by first | rfl | simp, by go_num, ⟨hbr2.os, hbr2.tape, hbr2.output, hbr2.size, hbr2.block⟩, HNx.out _ (by simp)⟩
            case measure => simp [intOf]; omega
        · obtain rfl : j = rl := by omega
          obtain rfl : bb = true := HBb.out.2 HJ.out
          go_wp2_with fail
          go_roundw
          case rel => exact ⟨k + 1, by omega, by go_num, hbr2⟩
          case measure => simp [intOf]; omega
    · obtain rfl : k = K := by omega
      go_wp2_with fail
      go_ret
      exact ⟨by first | rfl | simp, hbF.trans (hbr.mono hbF.size)⟩
end Go.Proofs.YtobopjjmhginlabGreatDoor
