import Derived.Test.YtobopjjmhginlaaGreatDoorVdM3
namespace Go.Proofs.YtobopjjmhginlaaGreatDoor
open Go.ChangeShapes Go.WideShapes Go.ChangeAt Go.RowKit Go.Deep
open Terms Tm
set_option maxHeartbeats 6400000
set_option maxRecDepth 20000
def AllKeep (m : Mo) (ps : List (List (Int × Int))) (T : Tm) : Prop := ∀ (path : List Int) (s : Nat), PRun m path s -> T.hb (sig (path.map (letL m ps)) s) 0 = true
section
variable {m : Mo} {ps : List (List (Int × Int))} {l : List (Int × Int)} {K : Nat}
noncomputable def goOn (m : Mo) : Nat -> Int
  | 0 => begC m
  | i + 1 => (nextL m (goOn m i)).getD 0 0
theorem nextL_pos (x : Int) : nextL m x ≠ [] := fun h => by
  have hs := (upL_spec (rawL m x)).2
  have hr : rawL m x = [] := by
    apply List.eq_nil_iff_forall_not_mem.2
    intro y hy; have := (hs y).2 hy; have h' : upL (rawL m x) = [] := h; rw [h'] at this; exact absurd this List.not_mem_nil
  unfold rawL at hr
  split at hr
  · simp at hr
  · next h2 => exact h2 (by simpa using hr)
theorem goOn_step (i : Nat) : goOn m (i + 1) ∈ nextL m (goOn m i) := by
  show (nextL m (goOn m i)).getD 0 0 ∈ nextL m (goOn m i)
  have hl : 0 < (nextL m (goOn m i)).length := List.length_pos_iff.2 (nextL_pos _); rw [List.getD_eq_getElem?_getD, List.getElem?_eq_getElem hl]
  exact List.getElem_mem _
theorem goOn_st (hk : tkcode m ps l = 0) : ∀ i, 0 <= goOn m i /\ goOn m i < prodTo m.vars m.vars.length
  | 0 => tk_beg hk
  | i + 1 => nextL_st (pcode_m (tk_zero hk).1).1 (goOn_st hk i) (goOn_step i)
theorem pigeon {f : Nat -> Int} {P : Nat} (hf : ∀ i, 0 <= f i /\ f i < (P : Int)) : ∃ i j, i < j /\ f i = f j := by
  apply Classical.byContradiction
  intro hno
  have hnd : ((List.range (P + 1)).map f).Nodup := by
    refine List.Pairwise.map _ (fun a b hab => hab) ?_
    refine List.Pairwise.imp ?_ (List.pairwise_lt_range (n := P + 1))
    intro a b hab e; exact hno ⟨a, b, hab, e⟩
  have := nodup_length (N := P) hnd (fun y hy => by
    obtain ⟨i, _, rfl⟩ := List.mem_map.1 hy
    exact hf i)
  simp at this
  omega
theorem run_some (hk : tkcode m ps l = 0) : ∃ path s, PRun m path s := by
  have hpos : (prodTo m.vars m.vars.length).toNat = prodTo m.vars m.vars.length := by have := tk_beg hk; omega
  obtain ⟨i, j, hij, e⟩ := pigeon (f := goOn m) (P := (prodTo m.vars m.vars.length).toNat) (fun i => by rw [hpos]; exact goOn_st hk i)
  have hl : ((List.range j).map (goOn m)).length = j := by simp
  have hg : ∀ q, q < j -> ((List.range j).map (goOn m)).getD q 0 = goOn m q := fun q hq => by simp [List.getD_eq_getElem?_getD, hq]
  refine ⟨(List.range j).map (goOn m), i, by rw [hl]; exact hij, by rw [hg 0 (by omega)]; rfl, fun q hq => ?_⟩
  rw [hl] at hq ⊢; rw [hg q hq]
  by_cases hq2 : q + 1 < j
  · rw [moAt_low hq2, hg _ hq2]
    exact goOn_step q
  · have eq : q + 1 = j := by omega
    have hm : moAt i j (q + 1) = i := by
      rw [eq]; unfold moAt; rw [if_neg (Nat.lt_irrefl _), Nat.mod_self]; rfl
    rw [hm, hg i hij, e, <- eq]; exact goOn_step q
theorem keep_of_none {T : Tm} (hw : T.Wf) (ho : T.ops = l) (hz : endsCode (l.map Prod.fst) = 0) (hv : ∀ q, q < l.length -> (l.getD q (0, 0)).1 = 13 -> 0 <= (l.getD q (0, 0)).2) (h8 : ∀ q, q < l.length -> 8 <= (l.getD q (0, 0)).1) (hk : tkcode m ps l = 0) (h : ExDone m ps l K) (hf : fairC (exGr m ps l K) ≠ 0) : AllKeep m ps T := fun path s hr => by
  cases hb : T.hb (sig (path.map (letL m ps)) s) 0 with
  | true => rfl
  | false =>
    obtain ⟨x, _, hx⟩ := run_way hw ho hz hv h8 hk h hr hb; exact absurd (way_fair h hx) hf
theorem not_keep {T : Tm} (hw : T.Wf) (ho : T.ops = l) (hz : endsCode (l.map Prod.fst) = 0) (hv : ∀ q, q < l.length -> (l.getD q (0, 0)).1 = 13 -> 0 <= (l.getD q (0, 0)).2) (h8 : ∀ q, q < l.length -> 8 <= (l.getD q (0, 0)).1) (hk : tkcode m ps l = 0) (h : ExDone m ps l K) {st lp : List Nat} (hL : LassoOk (exGr m ps l K) st lp) : ¬ AllKeep m ps T := fun ha => by
  obtain ⟨h1, h2⟩ := way_run hw ho hz hv h8 hk h (lasso_way h hL); rw [ha _ _ h1] at h2
  cases h2
theorem keep_yes (v : Int) : AllKeep m ps (leaf 11 v) := fun _ _ _ => hb_yes _ _ _
theorem keep_no (hk : tkcode m ps l = 0) {k v : Int} (h1 : k ≠ 13) (h2 : k ≠ 11) : ¬ AllKeep m ps (leaf k v) := fun ha => by
  obtain ⟨path, s, hr⟩ := run_some hk; have := ha path s hr; rw [hb_no _ _ _ h1 h2] at this
  cases this
theorem keep_and (v : Int) (a b : Tm) : AllKeep m ps (bi 8 v a b) ↔ AllKeep m ps a /\ AllKeep m ps b := by
  constructor
  · intro h
    refine ⟨fun p s hr => ?_, fun p s hr => ?_⟩
    · have := h p s hr; rw [hb_and, Bool.and_eq_true] at this; exact this.1
    · have := h p s hr; rw [hb_and, Bool.and_eq_true] at this; exact this.2
  · rintro ⟨h1, h2⟩ p s hr
    rw [hb_and, h1 p s hr, h2 p s hr]; rfl
theorem keep_not (hk : tkcode m ps l = 0) (v : Int) (a : Tm) (h : AllKeep m ps a) : ¬ AllKeep m ps (un 10 v a) := fun ha => by
  obtain ⟨path, s, hr⟩ := run_some hk; have := ha path s hr; rw [hb_not, h path s hr] at this
  cases this
theorem keep_same {a b : Tm} (h : ∀ σ : Nat -> Nat -> Bool, a.hb σ 0 = b.hb σ 0) : AllKeep m ps a ↔ AllKeep m ps b := ⟨fun ha p s hr => by rw [<- h]; exact ha p s hr, fun ha p s hr => by rw [h]; exact ha p s hr⟩
theorem keep_imp {a b : Tm} (h : ∀ σ : Nat -> Nat -> Bool, a.hb σ 0 = true -> b.hb σ 0 = true) (ha : AllKeep m ps a) : AllKeep m ps b := fun p s hr => h _ (ha p s hr)
end
end Go.Proofs.YtobopjjmhginlaaGreatDoor
