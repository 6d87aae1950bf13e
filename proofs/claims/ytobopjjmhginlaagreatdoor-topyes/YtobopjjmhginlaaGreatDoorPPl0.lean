import Derived.Test.YtobopjjmhginlaaGreatDoorPAt
import Derived.Test.YtobopjjmhginlaaGreatDoorPBegin
namespace Go.Proofs.YtobopjjmhginlaaGreatDoor
open Go.ChangeShapes Go.WideShapes Go.ChangeAt Go.RowKit Go.Deep Go.Maps
open Terms Tm
set_option maxHeartbeats 6400000
set_option maxRecDepth 20000
theorem plTo_app (S a b : List (Int × Int)) : plTo S (a ++ b) = plTo (plTo S a) b := by
  unfold plTo; rw [List.foldl_append]
theorem plTo_take {S l : List (Int × Int)} {k : Nat} (h : k < l.length) : plTo S (l.take (k + 1)) = plOne (plTo S (l.take k)) (l.getD k (0, 0)) := by
  rw [List.take_add_one, List.getElem?_eq_getElem h]
  simp only [Option.toList_some]; rw [plTo_snoc]; simp [List.getD_eq_getElem?_getD, h]
theorem plTo_idx {S l : List (Int × Int)} {k : Nat} (h : k < l.length) : (plTo S l).idxOf (l.getD k (0, 0)) = (plOne (plTo S (l.take k)) (l.getD k (0, 0))).idxOf (l.getD k (0, 0)) := by
  rw [<- plTo_take h]; refine idx_pre ?_ ?_
  · have e : plTo S l = plTo (plTo S (l.take (k + 1))) (l.drop (k + 1)) := by rw [<- plTo_app, List.take_append_drop]
    rw [e]; exact plTo_pre _ _
  · rw [plTo_take h]
    exact plOne_mem _ _
theorem plOne_in {S : List (Int × Int)} {p : Int × Int} (h : p ∈ S) : plOne S p = S := by unfold plOne; rw [if_pos h]
theorem plOne_out {S : List (Int × Int)} {p : Int × Int} (h : p ∉ S) : plOne S p = S ++ [p] := by unfold plOne; rw [if_neg h]
def plIx (S l : List (Int × Int)) : List Int := (List.range l.length).map fun (j : Nat) => (((plTo S l).idxOf (l.getD j (0, 0)) : Nat) : Int)
theorem plIx_len (S l : List (Int × Int)) : (plIx S l).length = l.length := by simp [plIx]
theorem plIx_at {S l : List (Int × Int)} {j : Nat} (h : j < l.length) : (plIx S l).getD j 0 = (((plTo S l).idxOf (l.getD j (0, 0)) : Nat) : Int) := by simp [plIx, List.getD_eq_getElem?_getD, h]
theorem SpV.chg {Z : Nat -> Prop} {w w' : World} {ao : Option Addr} {n c : Nat} {x : List (Int × Int)} (h : SpV w (.slice ao n c) x) (hs : Chg Z w w') (hz : ∀ a, ao = some a -> ¬ Z a.block) : SpV w' (.slice ao n c) x := by
  obtain ⟨ao', cap, e, h⟩ := h
  injection e with e1 e2 e3
  subst e1 e2 e3; refine ⟨ao, c, rfl, fun hne => ?_⟩
  obtain ⟨b, off, rfl, hlt, hat⟩ := h hne; exact ⟨b, off, rfl, Nat.lt_of_lt_of_le hlt hs.size, fun i hi => ⟨hs.cell (hat i hi).1 (hz ⟨b, off, none⟩ rfl), hs.cell (hat i hi).2 (hz ⟨b, off, none⟩ rfl)⟩⟩
theorem SpV.get {w : World} {ao : Option Addr} {n c : Nat} {x : List (Int × Int)} (h : SpV w (.slice ao n c) x) {i : Nat} (hi : i < x.length) : ∃ b off, ao = some ⟨b, off, none⟩ /\ b < w.heap.size /\ w.cell? ⟨b, off + i * 2, none⟩ = some (.int .i64 (x.getD i (0, 0)).1) /\ w.cell? ⟨b, off + i * 2 + 1, none⟩ = some (.int .i64 (x.getD i (0, 0)).2) := by
  obtain ⟨ao', cap, e, h⟩ := h
  injection e with e1 e2 e3
  subst e1; obtain ⟨b, off, rfl, hlt, hat⟩ := h (by rintro rfl; simp at hi)
  exact ⟨b, off, rfl, hlt, (hat i hi).1, (hat i hi).2⟩
structure PlB (w wr : World) (base A lm R n : Nat) (SL SS : List (Int × Int)) (sv svb svk nv tv : Value) (init many : Int) (rf : Nat -> Value) : Prop where
  box : wr.heap[A]? = some (atB svb nv tv init many lm)
  lies : LiesAt wr lm SL
  sp : SpO wr base svk SS
  row : wr.rowIs R 3 n rf
  chg : Chg (atZ A lm sv) w wr
  own : svk.ownBlock = sv.ownBlock \/ ∃ g, svk.ownBlock = some g /\ w.heap.size <= g
  hR : w.heap.size <= R
section
variable {w wr w' : World} {base A lm R n : Nat} {SL SS S' : List (Int × Int)} {sv svb svk sv' nv tv : Value} {init many : Int} {rf : Nat -> Value}
theorem PlB.tyA (h : PlB w wr base A lm R n SL SS sv svb svk nv tv init many rf) : TyB wr A 83 := ⟨_, _, h.box⟩
theorem PlB.tyR (h : PlB w wr base A lm R n SL SS sv svb svk nv tv init many rf) : TyB wr R 3 := by
  obtain ⟨cs, hcs, _⟩ := h.row; exact ⟨cs, (0, 0), hcs⟩
theorem PlB.below (h : PlB w wr base A lm R n SL SS sv svb svk nv tv init many rf) (hb : Below wr.heap.size wr w') : PlB w w' base A lm R n SL SS sv svb svk nv tv init many rf :=
  ⟨(hb.block A h.tyA.lt).trans h.box, h.lies.kept (hb.block lm h.lies.lt), h.sp.later hb (Nat.le_refl _), h.row.of_block (hb.block R h.tyR.lt), h.chg.trans (Chg.of hb), h.own, h.hR⟩
theorem PlB.map (h : PlB w wr base A lm R n SL SS sv svb svk nv tv init many rf) (hg : wr.grownBy w' (some lm)) (hl : LiesAt w' lm S') : PlB w w' base A lm R n S' SS sv svb svk nv tv init many rf := by
  obtain ⟨es, c, em⟩ := h.lies.isMap
  have hne : ∀ i t, TyB wr i t -> some i ≠ some lm := fun i t ht e => by
    injection e with e
    subst e; exact ht.no_map em
  have hb : ∀ i t, TyB wr i t -> w'.heap[i]? = wr.heap[i]? := fun i t ht => hg.block i ht.lt (hne i t ht)
  refine ⟨(hb A _ h.tyA).trans h.box, hl, owns_chg h.sp (Chg.grown hg) (fun g e z => hne g _ (owns_ty h.sp e).2 z.symm), h.row.of_block (hb R _ h.tyR), h.chg.trans2 (Chg.grown hg) (fun i _ e => ?_), h.own, h.hR⟩
  injection e with e
  exact .inr (.inl e.symm)
theorem PlB.app (h : PlB w wr base A lm R n SL SS sv svb svk nv tv init many rf) (hg : wr.grownBy w' svk.ownBlock) (hs : SpO w' base sv' S') (ho : sv'.ownBlock = svk.ownBlock \/ ∃ g, sv'.ownBlock = some g /\ w.heap.size <= g) : PlB w w' base A lm R n SL S' sv svb sv' nv tv init many rf := by
  obtain ⟨es, c, em⟩ := h.lies.isMap; have hne : ∀ i t, TyB wr i t -> t ≠ 87 -> some i ≠ svk.ownBlock := fun i t ht h2 e => h2 (ht.eq (owns_ty h.sp e.symm).2)
  have hb : ∀ i t, TyB wr i t -> t ≠ 87 -> w'.heap[i]? = wr.heap[i]? := fun i t ht h2 => hg.block i ht.lt (hne i t ht h2)
  refine ⟨(hb A _ h.tyA (by decide)).trans h.box, h.lies.kept (hg.block lm h.lies.lt fun e => (owns_ty h.sp e.symm).2.no_map em), hs, h.row.of_block (hb R _ h.tyR (by decide)), h.chg.trans2 (Chg.grown hg) (fun i hi e => ?_), ?_, h.hR⟩
  · rcases h.own with h1 | ⟨g, h1, h2⟩
    · exact .inr (.inr (h1 ▸ e))
    · rw [h1] at e
      injection e with e
      omega
  · rcases ho with h1 | h1
    · rw [h1]; exact h.own
    · exact .inr h1
theorem PlB.setA (h : PlB w wr base A lm R n SL SS sv svb svk nv tv init many rf) : PlB w (wr.setCell ⟨A, 0, none⟩ svk) base A lm R n SL SS sv svk svk nv tv init many rf := by
  obtain ⟨es, c, em⟩ := h.lies.isMap; have hne : ∀ i t, TyB wr i t -> t ≠ 83 -> i ≠ A := fun i t ht h2 e => h2 (ht.eq (e ▸ h.tyA))
  refine ⟨atB_set0 wr h.box svk, h.lies.kept (RowKit.Below.heap_setCell _ _ _ _ (fun e => h.tyA.no_map (e ▸ em))), owns_chg h.sp (Chg.setCell wr _ _) (fun g e => hne g _ (owns_ty h.sp e).2 (by decide)), h.row.of_block (RowKit.Below.heap_setCell _ _ _ _ (hne R _ h.tyR (by decide))), h.chg.trans2 (Chg.setCell wr _ _) (fun i _ e => .inl e), h.own, h.hR⟩
theorem PlB.setR (h : PlB w wr base A lm R n SL SS sv svb svk nv tv init many rf) (k : Nat) (v : Value) : PlB w (wr.setCell ⟨R, k, none⟩ v) base A lm R n SL SS sv svb svk nv tv init many (fun j => if j = k then v else rf j) := by
  obtain ⟨es, c, em⟩ := h.lies.isMap; have hne : ∀ i t, TyB wr i t -> t ≠ 3 -> i ≠ R := fun i t ht h2 e => h2 (ht.eq (e ▸ h.tyR))
  refine ⟨(RowKit.Below.heap_setCell _ _ _ _ (hne A _ h.tyA (by decide))).trans h.box, h.lies.kept (RowKit.Below.heap_setCell _ _ _ _ (fun e => h.tyR.no_map (e ▸ em))), owns_chg h.sp (Chg.setCell wr _ _) (fun g e => hne g _ (owns_ty h.sp e).2 (by decide)), h.row.set k v, h.chg.trans2 (Chg.setCell wr _ _) (fun i hi e => ?_), h.own, h.hR⟩
  have := h.hR; simp only at e
  omega
end
end Go.Proofs.YtobopjjmhginlaaGreatDoor
