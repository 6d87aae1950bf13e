import Derived.Test.YtobopjjmhginlaaGreatDoorPFol
import Derived.Test.YtobopjjmhginlaaGreatDoorReaches
namespace Go.Proofs.YtobopjjmhginlaaGreatDoor
open Go.ChangeShapes Go.WideShapes Go.ChangeAt Go.RowKit Go.Deep Go.Maps
open Terms Tm
set_option maxHeartbeats 6400000
set_option maxRecDepth 20000
noncomputable def foTo (l : List (Int × Int)) (x : List Bool) (c : Int) (y : List Bool) (st : Int) : Nat -> List (Int × Int)
  | 0 => []
  | k + 1 => if folR l x c y (k : Int) = true then foTo l x c y st k ++ [(st, (k : Int))] else foTo l x c y st k
theorem foTo_len (l : List (Int × Int)) (x : List Bool) (c : Int) (y : List Bool) (st : Int) : ∀ k, (foTo l x c y st k).length <= k
  | 0 => Nat.le_refl _
  | k + 1 => by
    rw [foTo]; have := foTo_len l x c y st k
    split
    · rw [List.length_append, List.length_singleton]; omega
    · omega
noncomputable def behTo (m : Mo) (ps : List (List (Int × Int))) (l : List (Int × Int)) (code c : Int) : Nat -> List (Int × Int)
  | 0 => []
  | i + 1 => behTo m ps l code c i ++ foTo l (letL m ps code) c (letL m ps ((nextL m code).getD i 0)) ((nextL m code).getD i 0) (2 ^ (aheadL l).length)
noncomputable def behL (m : Mo) (ps : List (List (Int × Int))) (l : List (Int × Int)) (code c : Int) : List (Int × Int) := behTo m ps l code c (nextL m code).length
theorem behTo_len {m : Mo} {ps : List (List (Int × Int))} {l : List (Int × Int)} (h : 2 ^ (aheadL l).length <= 64) (code c : Int) : ∀ i, (behTo m ps l code c i).length <= i * 64
  | 0 => Nat.le_refl _
  | i + 1 => by
    rw [behTo, List.length_append]; have := behTo_len (m := m) (ps := ps) h code c i; have := foTo_len l (letL m ps code) c (letL m ps ((nextL m code).getD i 0)) ((nextL m code).getD i 0) (2 ^ (aheadL l).length); omega
theorem nextL_st {m : Mo} (hm : mcode m = 0) {x : Int} (hx : 0 <= x /\ x < prodTo m.vars m.vars.length) {y : Int} (hy : y ∈ nextL m x) : 0 <= y /\ y < prodTo m.vars m.vars.length := by
  have h1 := ((upL_spec _).2 y).1 hy; unfold rawL at h1
  split at h1
  · simp at h1; subst h1; exact hx
  · obtain ⟨j, _, e⟩ := (rawTo_mem (Nat.le_refl _) y).1 h1
    exact ruleDo_state (mcode_vars hm) e
theorem nextL_len {m : Mo} (hm : mcode m = 0) {x : Int} (hx : 0 <= x /\ x < prodTo m.vars m.vars.length) : (nextL m x).length <= 4096 := by
  have h1 : (nextL m x).Nodup := by
    have := (upL_spec (rawL m x)).1; exact List.Pairwise.imp (fun {a b} h => by omega) this
  have h2 := (mcode_vars hm).prod (Nat.le_refl m.vars.length); have := nodup_length (N := (prodTo m.vars m.vars.length).toNat) h1 (fun y hy => by have := nextL_st hm hx hy; omega)
  omega
theorem Sk.after {bs bl : Nat} {wb w w' : World} (h : Sk bs bl wb w) (hb : Below wb.heap.size w w') : Sk bs bl wb w' :=
  ⟨hb.os.trans h.os, hb.tape.trans h.tape, hb.output.trans h.output, Nat.le_trans h.size hb.size, fun i hi h1 h2 => (hb.block i hi).trans (h.block i hi h1 h2)⟩
def Bx3 (w : World) (b : Nat) (x y z : Value) : Prop := (w.cell? ⟨b, 0, none⟩ = some x /\ w.cell? ⟨b, 1, none⟩ = some y /\ w.cell? ⟨b, 2, none⟩ = some z) /\ RowTy w (.slice (some ⟨b, 0, none⟩) 1 1) 138
theorem Bx3.new (w : World) (x y z : Value) : Bx3 (w.alloc (.cells #[x, y, z] 138)) w.heap.size x y z := by
  refine ⟨(St3.new w x y z _).2.1, fun a n c e => ?_⟩
  injection e with e _ _
  injection e with e
  subst e; exact ⟨_, _, (MapKept.heap_alloc w _).1⟩
theorem Bx3.sk {bs bl : Nat} {w w' : World} {b : Nat} {x y z : Value} (h : Bx3 w b x y z) (hs : Sk bs bl w w') (hm : TwoMaps w bs bl) : Bx3 w' b x y z :=
  ⟨⟨hs.cell hm h.1.1, hs.cell hm h.1.2.1, hs.cell hm h.1.2.2⟩, h.2.sk hs hm⟩
theorem Bx3.grown {w w' : World} {b : Nat} {x y z : Value} {own : Option Nat} (h : Bx3 w b x y z) (hg : w.grownBy w' own) (ho : ∀ g, own = some g -> ∃ cs fr, w.heap[g]? = some (.cells cs 87 fr)) : Bx3 w' b x y z := by
  obtain ⟨cs, fr, h1⟩ := h.2 _ _ _ rfl
  have e : ∀ i v, w.cell? ⟨b, i, none⟩ = some v -> w'.cell? ⟨b, i, none⟩ = some v := fun i v hv => by
    rw [World.cell?_of_block (hg.block b (Array.getElem?_eq_some_iff.1 h1).1 (fun e2 => by
      obtain ⟨cs', fr', h2⟩ := ho _ e2.symm; rw [h1] at h2
      injection h2 with h2
      injection h2 with _ h3 _
      exact absurd h3 (by decide)))]
    exact hv
  exact ⟨⟨e _ _ h.1.1, e _ _ h.1.2.1, e _ _ h.1.2.2⟩, h.2.grown hg (by decide) ho⟩
theorem Bx3.below {w w' : World} {b : Nat} {x y z : Value} (h : Bx3 w b x y z) (hb : Below w.heap.size w w') : Bx3 w' b x y z := by
  obtain ⟨cs, fr, h1⟩ := h.2 _ _ _ rfl; have hlt : b < w.heap.size := (Array.getElem?_eq_some_iff.1 h1).1
  exact ⟨⟨(hb.cell (p := ⟨b, 0, none⟩) hlt).trans h.1.1, (hb.cell (p := ⟨b, 1, none⟩) hlt).trans h.1.2.1, (hb.cell (p := ⟨b, 2, none⟩) hlt).trans h.1.2.2⟩, h.2.below hb⟩
theorem SpO.own {w : World} {base : Nat} {vo : Option Addr} {n cap : Nat} {x : List (Int × Int)} (h : SpO w base (.slice vo n cap) x) (o : Obj) : ∀ g, (Value.slice vo n cap).ownBlock = some g -> base <= g /\ ∃ cs fr, (w.alloc o).heap[g]? = some (.cells cs 87 fr) := by
  intro g hg
  rcases h.2 with ⟨h0, _⟩ | ⟨g', cap', cur, h1, h2, h3, _⟩
  · rw [h0] at hg; simp [Value.ownBlock] at hg
  · rw [h1] at hg
    simp [Value.ownBlock] at hg
    subst hg; exact ⟨h2, cur, _, (Below.heap_alloc w o g' (Array.getElem?_eq_some_iff.1 h3).1).trans h3⟩
end Go.Proofs.YtobopjjmhginlaaGreatDoor
