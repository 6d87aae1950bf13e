import Derived.Test.YtobopjjmhginlaaGreatDoorVdM
namespace Go.Proofs.YtobopjjmhginlaaGreatDoor
open Go.ChangeShapes Go.WideShapes Go.ChangeAt Go.RowKit Go.Deep
open Terms Tm
set_option maxHeartbeats 6400000
set_option maxRecDepth 20000
section
variable {m : Mo} {ps : List (List (Int × Int))} {l : List (Int × Int)} {K : Nat}
theorem beg_len0 : (begL m ps l).length <= (xpP m ps l 0).length := by
  show _ <= (plTo [] (begL m ps l)).length
  have hsub : begL m ps l ⊆ plTo [] (begL m ps l) := fun x hx => (plTo_iff _ _ _).2 (.inr hx)
  exact (xbeg_nodup m ps l).length_le_of_subset hsub
theorem spA_beg {i : Nat} (hi : i < (begL m ps l).length) : spA m ps l K i ∈ begL m ps l := by
  have h0 : i < (xpP m ps l 0).length := Nat.lt_of_lt_of_le hi beg_len0; have e : spA m ps l K i = (xpP m ps l 0).getD i (0, 0) := exS_at (begL m ps l) (xpBh m ps l) (Nat.zero_le K) h0; rw [e]
  have hm : (xpP m ps l 0).getD i (0, 0) ∈ xpP m ps l 0 := by
    rw [List.getD_eq_getElem?_getD, List.getElem?_eq_getElem h0]
    exact List.getElem_mem _
  rcases (plTo_iff _ _ _).1 hm with h | h
  · exact absurd h List.not_mem_nil
  · exact h
theorem idx_beg {s : Int × Int} (hs : s ∈ begL m ps l) : (xpP m ps l K).idxOf s < (begL m ps l).length /\ s ∈ xpP m ps l K := by
  have h0 : s ∈ xpP m ps l 0 := (plTo_iff _ _ _).2 (.inr hs); have hpre : xpP m ps l 0 <+: xpP m ps l K := exS_le _ _ (Nat.zero_le K); refine ⟨?_, hpre.subset h0⟩
  rw [idx_pre hpre h0]; have h1 := List.idxOf_lt_length_of_mem h0
  have h2 : (xpP m ps l 0).length <= (begL m ps l).length := by
    have := (plTo_length (begL m ps l) []).2
    show (plTo [] (begL m ps l)).length <= _
    simpa using this
  omega
theorem getD_map {α β : Type} (f : α -> β) (x : List α) (d : α) (e : β) {i : Nat} (hi : i < x.length) : (x.map f).getD i e = f (x.getD i d) := by
  simp [List.getD_eq_getElem?_getD, hi]
theorem sub_zero (T : Tm) : T.sub 0 = T := by cases T <;> rfl
theorem way_run {T : Tm} (hw : T.Wf) (ho : T.ops = l) (hz : endsCode (l.map Prod.fst) = 0) (hv : ∀ q, q < l.length -> (l.getD q (0, 0)).1 = 13 -> 0 <= (l.getD q (0, 0)).2) (h8 : ∀ q, q < l.length -> 8 <= (l.getD q (0, 0)).1) (hk : tkcode m ps l = 0) (h : ExDone m ps l K) {x : List Nat} {s : Nat} (hx : PWay m ps l K x s) :
    PRun m (x.map fun i => (spA m ps l K i).1) s /\ T.hb (sig ((x.map fun i => (spA m ps l K i).1).map (letL m ps)) s) 0 = false := by
  have hn : (x.map fun i => (spA m ps l K i).1).length = x.length := List.length_map _
  have hln : ((x.map fun i => (spA m ps l K i).1).map (letL m ps)).length = x.length := by simp
  have hp : ∀ i, i < x.length -> (x.map fun i => (spA m ps l K i).1).getD i 0 = (spA m ps l K (x.getD i 0)).1 := fun i hi => getD_map _ x 0 0 hi
  have hls : ∀ i, i < x.length -> ((x.map fun i => (spA m ps l K i).1).map (letL m ps)).getD i [] = letL m ps (spA m ps l K (x.getD i 0)).1 := fun i hi => by rw [getD_map _ _ 0 [] (by rw [hn]; exact hi), hp i hi]
  have hmo : ∀ i, moAt s x.length i < x.length := fun i => moAt_lt hx.lt
  have hbh : ∀ i, i < x.length -> spA m ps l K (x.getD (moAt s x.length (i + 1)) 0) ∈ xpBh m ps l (spA m ps l K (x.getD i 0)) := fun i hi => nxt_beh h (hx.all i hi) (hx.step i hi)
  have h0 : 0 < x.length := Nat.lt_of_le_of_lt (Nat.zero_le _) hx.lt; obtain ⟨b1, d0, b2, b3, b4⟩ := xbg_mem _ (spA_beg (K := K) hx.first); refine ⟨⟨by rw [hn]; exact hx.lt, by rw [hp 0 h0]; exact b1, fun i hi => ?_⟩, ?_⟩
  · rw [hn] at hi ⊢
    rw [hp i hi, hp _ (hmo _)]; exact (xbe_mem _ (Nat.le_refl _) (hbh i hi)).1
  · have hcl := claims_only hw ho hz hv h8 (ls := (x.map fun i => (spA m ps l K i).1).map (letL m ps)) (s := s) (by rw [hln]; exact hx.lt) (fun i => (spA m ps l K (x.getD i 0)).2) (fun i hi => ?_) (fun i hi p hp1 hb => ?_) (fun p hp1 hb => ?_)
    · have hc0 := hcl 0 (by rw [hln]; exact h0)
      have htr := claims_tru hw ho hz hv h8 (ls := (x.map fun i => (spA m ps l K i).1).map (letL m ps)) (s := s) (i := 0) (by rw [hln]; exact h0) (p := 0) (tk_ne hk)
      rw [<- hc0, hls 0 h0, sub_zero, b1, b3] at htr; rw [<- htr]
      cases hb : tru l (letL m ps (begC m)) (d0 : Int) 0 with
      | false => rfl
      | true => exact absurd hb b4
    · rw [hln] at hi
      obtain ⟨_, d, g1, g2⟩ := spA_ok h (hx.all i hi); rw [g2]; have : ((2 ^ (aheadL l).length : Nat) : Int) = (2 : Int) ^ (aheadL l).length := by push_cast; rfl
      rw [<- this]; omega
    · rw [hln] at hi ⊢
      obtain ⟨_, d, _, e2, e3⟩ := xbe_mem _ (Nat.le_refl _) (hbh i hi); rw [<- e2] at e3; rw [hls i hi, hls _ (hmo _)]
      have hF : Fol l (tru l (letL m ps (spA m ps l K (x.getD i 0)).1) (spA m ps l K (x.getD i 0)).2) (tru l (letL m ps (spA m ps l K (x.getD (moAt s x.length (i + 1)) 0)).1) (spA m ps l K (x.getD (moAt s x.length (i + 1)) 0)).2) := by
        by_cases hno : Fol l (tru l (letL m ps (spA m ps l K (x.getD i 0)).1) (spA m ps l K (x.getD i 0)).2) (tru l (letL m ps (spA m ps l K (x.getD (moAt s x.length (i + 1)) 0)).1) (spA m ps l K (x.getD (moAt s x.length (i + 1)) 0)).2)
        · exact hno
        · rw [folR_no hno] at e3; cases e3
      exact hF p hp1 hb
    · obtain ⟨k1, k2⟩ := ahead_at hp1 hb
      obtain ⟨i, i1, i2, i3⟩ := hx.met _ k1; refine ⟨i, i1, by rw [hln]; exact i2, ?_⟩
      rw [hls i i2]; obtain ⟨g0, d, g1, g2⟩ := spA_ok h (hx.all i i2); rw [xpT_get (hx.all i i2), xpAt_eq h (hx.all i i2)] at i3; have i4 : bitB (metN l (letL m ps (spA m ps l K (x.getD i 0)).1) (spA m ps l K (x.getD i 0)).2) (aheadTo l p).length = true := i3; rw [g2] at i4 ⊢; unfold metN at i4; rw [if_pos (tk_tru hk g0 g1).1, met_bit _ _ k1, k2] at i4; unfold waitAt at i4
      simp only [Int.toNat_natCast] at i4; simpa using i4
theorem run_way {T : Tm} (hw : T.Wf) (ho : T.ops = l) (hz : endsCode (l.map Prod.fst) = 0) (hv : ∀ q, q < l.length -> (l.getD q (0, 0)).1 = 13 -> 0 <= (l.getD q (0, 0)).2) (h8 : ∀ q, q < l.length -> 8 <= (l.getD q (0, 0)).1) (hk : tkcode m ps l = 0) (h : ExDone m ps l K) {path : List Int} {s : Nat} (hr : PRun m path s) (hno : T.hb (sig (path.map (letL m ps)) s) 0 = false) :
    ∃ x : List Nat, x.length = path.length /\ PWay m ps l K x s := by
  obtain ⟨hm0, _⟩ := pcode_m (tk_zero hk).1; have hln : (path.map (letL m ps)).length = path.length := List.length_map _; have hls : ∀ i, i < path.length -> (path.map (letL m ps)).getD i [] = letL m ps (path.getD i 0) := fun i hi => getD_map _ _ 0 [] hi
  have h0 : 0 < path.length := Nat.lt_of_le_of_lt (Nat.zero_le _) hr.lt; have hmo : ∀ i, moAt s path.length i < path.length := fun i => moAt_lt hr.lt
  obtain ⟨mine, hmine⟩ : ∃ mine : Nat -> Int, mine = fun i => clmTo (aheadL l) (fun q => (T.sub q).hb (sig (path.map (letL m ps)) s)) i (aheadL l).length := ⟨_, rfl⟩
  obtain ⟨f1, f2⟩ := claims_fit hw ho hz hv h8 (ls := path.map (letL m ps)) (s := s) (by rw [hln]; exact hr.lt) mine (fun i _ => by rw [hmine])
  rw [hln] at f1 f2; have hpw : ((2 ^ (aheadL l).length : Nat) : Int) = (2 : Int) ^ (aheadL l).length := by push_cast; rfl
  have hmd : ∀ i, ∃ d : Nat, d < 2 ^ (aheadL l).length /\ mine i = (d : Int) := fun i => by
    obtain ⟨c0, c1⟩ := clmTo_bounds (aheadL l) (fun q => (T.sub q).hb (sig (path.map (letL m ps)) s)) i (aheadL l).length
    have e : mine i = clmTo (aheadL l) (fun q => (T.sub q).hb (sig (path.map (letL m ps)) s)) i (aheadL l).length := by rw [hmine]
    rw [<- e] at c0 c1; exact ⟨(mine i).toNat, by rw [<- hpw] at c1; omega, by omega⟩
  have hst : ∀ i, i < path.length -> 0 <= path.getD i 0 /\ path.getD i 0 < prodTo m.vars m.vars.length := fun i => by
    induction i with
    | zero => intro _; rw [hr.first]; exact tk_beg hk
    | succ i ih =>
      intro hi; have h1 := hr.step i (by omega)
      rw [moAt_low hi] at h1; exact nextL_st hm0 (ih (by omega)) h1
  have hbh : ∀ i, i < path.length -> (path.getD (moAt s path.length (i + 1)) 0, mine (moAt s path.length (i + 1))) ∈ xpBh m ps l (path.getD i 0, mine i) := fun i hi => by
    obtain ⟨c, c1, c2⟩ := hmd i; obtain ⟨d, d1, d2⟩ := hmd (moAt s path.length (i + 1)); rw [d2]; refine beh_in (hr.step i hi) d1 ?_
    show folR l (letL m ps (path.getD i 0)) (mine i) (letL m ps (path.getD (moAt s path.length (i + 1)) 0)) (d : Int) = true
    rw [<- d2]; refine folR_yes ?_ ?_
    · rw [c2, d2]
      exact tk_fol hk (hst i hi) (hst _ (hmo _)) c1 d1
    · intro p hp hb
      have := f1 i hi p hp hb; rw [hls i hi, hls _ (hmo _)] at this; exact this
  have hbeg : (path.getD 0 0, mine 0) ∈ begL m ps l := by
    obtain ⟨d, d1, d2⟩ := hmd 0; rw [hr.first, d2]; refine beg_in d1 ?_
    have htr := claims_tru hw ho hz hv h8 (ls := path.map (letL m ps)) (s := s) (i := 0) (by rw [hln]; exact h0) (p := 0) (tk_ne hk)
    have e : mine 0 = clmTo (aheadL l) (fun q => (T.sub q).hb (sig (path.map (letL m ps)) s)) 0 (aheadL l).length := by rw [hmine]
    rw [<- e, hls 0 h0, sub_zero, hno, hr.first, d2] at htr; rw [htr]
    simp
  have hmem : ∀ i, i < path.length -> (path.getD i 0, mine i) ∈ xpP m ps l K := fun i => by
    induction i with
    | zero => intro _; exact (idx_beg hbeg).2
    | succ i ih =>
      intro hi; have h1 := hbh i (by omega)
      rw [moAt_low hi] at h1; exact (exGr_step h (ih (by omega)) h1).1
  have hxl : ((List.range path.length).map fun i => (xpP m ps l K).idxOf (path.getD i 0, mine i)).length = path.length := by simp
  have hx : ∀ i, i < path.length -> ((List.range path.length).map fun i => (xpP m ps l K).idxOf (path.getD i 0, mine i)).getD i 0 = (xpP m ps l K).idxOf (path.getD i 0, mine i) := fun i hi => by simp [List.getD_eq_getElem?_getD, hi]
  refine ⟨(List.range path.length).map fun i => (xpP m ps l K).idxOf (path.getD i 0, mine i), hxl, ⟨by rw [hxl]; exact hr.lt, fun i hi => ?_, ?_, fun i hi => ?_, fun k hkk => ?_⟩⟩
  · rw [hxl] at hi
    rw [hx i hi]; have := List.idxOf_lt_length_of_mem (hmem i hi); rw [h.1] at this; exact this
  · rw [hx 0 h0]
    exact (idx_beg hbeg).1
  · rw [hxl] at hi ⊢
    rw [hx i hi, hx _ (hmo _)]; exact (exGr_step h (hmem i hi) (hbh i hi)).2
  · obtain ⟨p, e1, e2, e3, e4⟩ := aheadTo_get l l.length k hkk
    have e1' : (aheadL l).getD k 0 = (p : Int) := e1; obtain ⟨i, i1, i2, i3⟩ := f2 p e2 e3; refine ⟨i, i1, by rw [hxl]; exact i2, ?_⟩
    have hiK : (xpP m ps l K).idxOf (path.getD i 0, mine i) < K := by
      have := List.idxOf_lt_length_of_mem (hmem i i2); rw [h.1] at this; exact this
    have hsp : spA m ps l K ((xpP m ps l K).idxOf (path.getD i 0, mine i)) = (path.getD i 0, mine i) := spA_idx (hmem i i2); have hsp' : (xpP m ps l K).getD ((xpP m ps l K).idxOf (path.getD i 0, mine i)) (0, 0) = (path.getD i 0, mine i) := hsp; rw [hx i i2, xpT_get hiK, xpAt_eq h hiK, hsp']; simp only
    obtain ⟨d, d1, d2⟩ := hmd i; rw [hls i i2] at i3; unfold metN; rw [d2] at i3 ⊢; rw [if_pos (tk_tru hk (hst i i2) d1).1, met_bit _ _ hkk, e1']; unfold waitAt; simp only [Int.toNat_natCast]; rw [i3]; rfl
end
end Go.Proofs.YtobopjjmhginlaaGreatDoor
