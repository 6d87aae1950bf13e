/-
  The contract of the laws' own models: a copy of a model.
-/
import Derived.Test.YtnicbkkkecfdpaaGreatDoorModelOwn
import Derived.Deep.RegionHeld3
import Derived.Deep.RegionLaw
import Derived.Deep.DrawnRows
namespace Go.Proofs.YtnicbkkkecfdpaaGreatDoor
open Go.ChangeShapes Go.WideShapes Go.ChangeAt Go.RowKit Go.Deep
open Terms Tm
attribute [local go_sem ↓] Go.wp_at_zero Go.wp_at_succ

set_option maxRecDepth 20000 in
theorem take_snocS (l : List St) {q : Nat} (h : q < l.length) : l.take (q + 1) = l.take q ++ [l.getD q st0] := by
  rw [List.take_succ_eq_append_getElem h, List.getD_eq_getElem?_getD, List.getElem?_eq_getElem h]; rfl
set_option maxRecDepth 20000 in
theorem take_snocR (l : List Ru) {q : Nat} (h : q < l.length) : l.take (q + 1) = l.take q ++ [l.getD q ru0] := by
  rw [List.take_succ_eq_append_getElem h, List.getD_eq_getElem?_getD, List.getElem?_eq_getElem h]; rfl

/-- the rule that is being made: its cells, and all that is older stands. -/
def RuleCur (w2 wr : World) (gv vS : Value) (l : List St) : Prop :=
  wr.cell? ⟨w2.heap.size, 0, none⟩ = some gv ∧ wr.cell? ⟨w2.heap.size, 1, none⟩ = some vS ∧ wr.frozen? ⟨w2.heap.size, 1, none⟩ = false ∧ SetsOwn wr (w2.heap.size + 1) vS l ∧ Below w2.heap.size w2 wr ∧ w2.heap.size < wr.heap.size
/-- the rules that are made: the model's cells, and all that is older stands. -/
def RulesCur (w1 wr : World) (va vR : Value) (l : List Ru) : Prop :=
  wr.cell? ⟨w1.heap.size, 0, none⟩ = some va ∧ wr.cell? ⟨w1.heap.size, 1, none⟩ = some vR ∧ wr.frozen? ⟨w1.heap.size, 1, none⟩ = false ∧ RulesOwn wr (w1.heap.size + 1) vR l ∧ Below w1.heap.size w1 wr ∧ w1.heap.size < wr.heap.size

set_option maxRecDepth 20000 in
theorem RuleCur.at3 {w2 wr W3 : World} {o : Obj} {gv vS : Value} {l : List St} (h : RuleCur w2 wr gv vS l) (hb3 : Below ((wr.alloc o).drew).heap.size (wr.alloc o).drew W3) :
    W3.cell? ⟨w2.heap.size, 0, none⟩ = some gv ∧ W3.cell? ⟨w2.heap.size, 1, none⟩ = some vS ∧ W3.frozen? ⟨w2.heap.size, 1, none⟩ = false ∧ w2.heap.size < W3.heap.size ∧ Below wr.heap.size wr W3 := by
  obtain ⟨h0, h1, h2, _, _, h5⟩ := h
  have hb : Below wr.heap.size wr W3 := ((Below.refl wr.heap.size wr).alloc (Nat.le_refl _) o).drew.trans (hb3.mono (by simp))
  exact ⟨(hb.cell (p := ⟨w2.heap.size, 0, none⟩) h5).trans h0, (hb.cell (p := ⟨w2.heap.size, 1, none⟩) h5).trans h1, (hb.frozen (p := ⟨w2.heap.size, 1, none⟩) h5).trans h2, Nat.lt_of_lt_of_le h5 hb.size, hb⟩
set_option maxRecDepth 20000 in
theorem RuleCur.at4 {w2 wr W3 w4 : World} {o o3 : Obj} {gv vS : Value} {l : List St} {us : List Value} (h : RuleCur w2 wr gv vS l) (hus : wr.ownsRow (w2.heap.size + 1) 64 2 vS l.length us) (hb3 : Below ((wr.alloc o).drew).heap.size (wr.alloc o).drew W3) (hg4 : (W3.alloc o3).grownBy w4 vS.ownBlock) :
    w4.cell? ⟨w2.heap.size, 0, none⟩ = some gv ∧ w4.cell? ⟨w2.heap.size, 1, none⟩ = some vS ∧ w4.frozen? ⟨w2.heap.size, 1, none⟩ = false := by
  obtain ⟨h0, h1, h2, h3, _⟩ := h.at3 hb3
  have hA : Below W3.heap.size W3 (W3.alloc o3) := (Below.refl _ _).alloc (Nat.le_refl _) o3
  have hne : some w2.heap.size ≠ vS.ownBlock := fun he => by have := (hus.lt _ he.symm).1; omega
  have hlt : w2.heap.size < (W3.alloc o3).heap.size := Nat.lt_of_lt_of_le h3 hA.size
  exact ⟨(hg4.cell_far ⟨w2.heap.size, 0, none⟩ hlt hne).trans ((hA.cell (p := ⟨w2.heap.size, 0, none⟩) h3).trans h0), (hg4.cell_far ⟨w2.heap.size, 1, none⟩ hlt hne).trans ((hA.cell (p := ⟨w2.heap.size, 1, none⟩) h3).trans h1), (hg4.frozen_far ⟨w2.heap.size, 1, none⟩ hlt hne).trans ((hA.frozen (p := ⟨w2.heap.size, 1, none⟩) h3).trans h2)⟩
set_option maxRecDepth 20000 in
/-- one set more. -/
theorem RuleCur.step {w2 wr W3 w4 : World} {o o3 : Obj} {gv vS v3 : Value} {l : List St} {x : St} {us : List Value} {v' : Value} (h : RuleCur w2 wr gv vS l) (hus : wr.ownsRow (w2.heap.size + 1) 64 2 vS l.length us)
    (hts : ∀ j, j < l.length → us.getD (j * 2) .nilIface = .int .i64 (l.getD j st0).var ∧ wr.ownsRow (w2.heap.size + 1) 92 2 (us.getD (j * 2 + 1) .nilIface) (l.getD j st0).val.length (flat (l.getD j st0).val))
    (hb3 : Below ((wr.alloc o).drew).heap.size (wr.alloc o).drew W3) (ho3 : W3.ownsRow ((wr.alloc o).drew).heap.size 92 2 v3 x.val.length (flat x.val)) (hg4 : (W3.alloc o3).grownBy w4 vS.ownBlock)
    (ho4 : w4.ownsRow (w2.heap.size + 1) 64 2 v' (l.length + 1) (us ++ [.int .i64 x.var, v3])) : RuleCur w2 (w4.setCell ⟨w2.heap.size, 1, none⟩ v') gv v' (l ++ [x]) := by
  obtain ⟨f0, f1, f2⟩ := h.at4 hus hb3 hg4
  obtain ⟨_, _, _, h3, hb⟩ := h.at3 hb3
  have hA : Below W3.heap.size W3 (W3.alloc o3) := (Below.refl _ _).alloc (Nat.le_refl _) o3
  have hsz : w2.heap.size < wr.heap.size := h.2.2.2.2.2
  have hso : SetsOwn w4 (w2.heap.size + 1) v' (l ++ [x]) := SetsOwn.snoc (owns_later hus hb (Nat.le_refl _)) (fun j hj => ⟨(hts j hj).1, owns_later (hts j hj).2 hb (Nat.le_refl _)⟩) (owns_mono ho3 (by simp; omega)) ⟨o3, rfl⟩ hg4 ho4
  have hb4 : Below w2.heap.size w2 w4 := ((h.2.2.2.2.1.trans (hb.mono (by omega))).alloc (by omega) o3).grown hg4 (by simp; omega) (fun q hq => by have := (hus.lt q hq).1; omega)
  have hs4 : w2.heap.size < w4.heap.size := World.block_lt_of_cell? w4 ⟨w2.heap.size, 1, none⟩ f1
  refine ⟨?_, ?_, ?_, hso.setCell (Nat.lt_succ_self _) _, hb4.setCell (by simp) _, by simpa using hs4⟩
  · rw [World.cell?_setCell_other _ _ _ _ (by simp)]; exact f0
  · exact World.cell?_setCell_same _ _ _ f1
  · rw [World.frozen?_setCell]; exact f2

set_option maxRecDepth 20000 in
theorem RulesCur.at4 {w1 wo wr w4 : World} {o3 : Obj} {va vR : Value} {l : List Ru} {us : List Value} (h : RulesCur w1 wo va vR l) (hus : wo.ownsRow (w1.heap.size + 1) 62 2 vR l.length us) (hb : Below wo.heap.size wo wr) (hg4 : (wr.alloc o3).grownBy w4 vR.ownBlock) :
    w4.cell? ⟨w1.heap.size, 0, none⟩ = some va ∧ w4.cell? ⟨w1.heap.size, 1, none⟩ = some vR ∧ w4.frozen? ⟨w1.heap.size, 1, none⟩ = false := by
  obtain ⟨h0, h1, h2, _, _, h5⟩ := h
  have h6 : w1.heap.size < wr.heap.size := Nat.lt_of_lt_of_le h5 hb.size
  have hA : Below wr.heap.size wr (wr.alloc o3) := (Below.refl _ _).alloc (Nat.le_refl _) o3
  have hne : some w1.heap.size ≠ vR.ownBlock := fun he => by have := (hus.lt _ he.symm).1; omega
  have hlt : w1.heap.size < (wr.alloc o3).heap.size := Nat.lt_of_lt_of_le h6 hA.size
  exact ⟨(hg4.cell_far ⟨w1.heap.size, 0, none⟩ hlt hne).trans ((hA.cell (p := ⟨w1.heap.size, 0, none⟩) h6).trans ((hb.cell (p := ⟨w1.heap.size, 0, none⟩) h5).trans h0)), (hg4.cell_far ⟨w1.heap.size, 1, none⟩ hlt hne).trans ((hA.cell (p := ⟨w1.heap.size, 1, none⟩) h6).trans ((hb.cell (p := ⟨w1.heap.size, 1, none⟩) h5).trans h1)), (hg4.frozen_far ⟨w1.heap.size, 1, none⟩ hlt hne).trans ((hA.frozen (p := ⟨w1.heap.size, 1, none⟩) h6).trans ((hb.frozen (p := ⟨w1.heap.size, 1, none⟩) h5).trans h2))⟩
set_option maxRecDepth 20000 in
/-- one rule more. -/
theorem RulesCur.step {w1 wo wr w4 : World} {o3 : Obj} {va vR gv vS v' : Value} {l : List Ru} {x : Ru} {us : List Value} (h : RulesCur w1 wo va vR l) (hus : wo.ownsRow (w1.heap.size + 1) 62 2 vR l.length us)
    (hts : ∀ j, j < l.length → wo.ownsRow (w1.heap.size + 1) 92 2 (us.getD (j * 2) .nilIface) (l.getD j ru0).guard.length (flat (l.getD j ru0).guard) ∧ SetsOwn wo (w1.heap.size + 1) (us.getD (j * 2 + 1) .nilIface) (l.getD j ru0).sets)
    (hb : Below wo.heap.size wo wr) (hgu : wr.ownsRow (w1.heap.size + 1) 92 2 gv x.guard.length (flat x.guard)) (hsu : SetsOwn wr (w1.heap.size + 1) vS x.sets) (hg4 : (wr.alloc o3).grownBy w4 vR.ownBlock)
    (ho4 : w4.ownsRow (w1.heap.size + 1) 62 2 v' (l.length + 1) (us ++ [gv, vS])) : RulesCur w1 (w4.setCell ⟨w1.heap.size, 1, none⟩ v') va v' (l ++ [x]) := by
  obtain ⟨f0, f1, f2⟩ := h.at4 hus hb hg4
  have hsz : w1.heap.size < wo.heap.size := h.2.2.2.2.2
  have hsz2 := hb.size
  have hro : RulesOwn w4 (w1.heap.size + 1) v' (l ++ [x]) := RulesOwn.snoc (owns_later hus hb (Nat.le_refl _)) (fun j hj => ⟨owns_later (hts j hj).1 hb (Nat.le_refl _), (hts j hj).2.later hb (Nat.le_refl _)⟩) hgu hsu ⟨o3, rfl⟩ hg4 ho4
  have hb4 : Below w1.heap.size w1 w4 := ((h.2.2.2.2.1.trans (hb.mono (by omega))).alloc (by omega) o3).grown hg4 (by simp; omega) (fun q hq => by have := (hus.lt q hq).1; omega)
  have hs4 : w1.heap.size < w4.heap.size := World.block_lt_of_cell? w4 ⟨w1.heap.size, 1, none⟩ f1
  refine ⟨?_, ?_, ?_, hro.setCell (Nat.lt_succ_self _) _, hb4.setCell (by simp) _, by simpa using hs4⟩
  · rw [World.cell?_setCell_other _ _ _ _ (by simp)]; exact f0
  · exact World.cell?_setCell_same _ _ _ f1
  · rw [World.frozen?_setCell]; exact f2
set_option maxRecDepth 20000 in
theorem sb_facts {w2 wr W3 : World} {t : TypeId} {x0 x1 vS : Value} {us : List Value} {q : Nat} (hus : wr.ownsRow (w2.heap.size + 1) 64 2 vS q us) (hlt2 : w2.heap.size < wr.heap.size) (hb3 : Below ((wr.alloc (.cells #[x0, x1] t)).drew).heap.size (wr.alloc (.cells #[x0, x1] t)).drew W3) :
    (W3.cell? ⟨wr.heap.size, 0, none⟩ = some x0 ∧ W3.cell? ⟨wr.heap.size, 1, none⟩ = some x1) ∧ (∀ o, (W3.alloc o).cell? ⟨wr.heap.size, 0, none⟩ = some x0 ∧ (W3.alloc o).cell? ⟨wr.heap.size, 1, none⟩ = some x1) ∧
    (∀ {o : Obj} {w4 : World}, (W3.alloc o).grownBy w4 vS.ownBlock → w4.cell? ⟨wr.heap.size, 0, none⟩ = some x0 ∧ w4.cell? ⟨wr.heap.size, 1, none⟩ = some x1) ∧ (∀ o, (W3.alloc o).ownsRow (w2.heap.size + 1) 64 2 vS q us) ∧ (∀ o, w2.heap.size + 1 ≤ (W3.alloc o).heap.size) := by
  have hsz : wr.heap.size < W3.heap.size := by have := hb3.size; simp at this; omega
  have hb : Below wr.heap.size wr W3 := ((Below.refl wr.heap.size wr).alloc (Nat.le_refl _) _).drew.trans (hb3.mono (by simp))
  have hA : ∀ o, Below W3.heap.size W3 (W3.alloc o) := fun o => (Below.refl _ _).alloc (Nat.le_refl _) o
  have k0 : W3.cell? ⟨wr.heap.size, 0, none⟩ = some x0 := (hb3.cell (p := ⟨wr.heap.size, 0, none⟩) (by simp)).trans (by simp [go_sem])
  have k1 : W3.cell? ⟨wr.heap.size, 1, none⟩ = some x1 := (hb3.cell (p := ⟨wr.heap.size, 1, none⟩) (by simp)).trans (by simp [go_sem])
  have hne : some wr.heap.size ≠ vS.ownBlock := fun he => by have := (hus.lt _ he.symm).2; omega
  have ka : ∀ o, (W3.alloc o).cell? ⟨wr.heap.size, 0, none⟩ = some x0 ∧ (W3.alloc o).cell? ⟨wr.heap.size, 1, none⟩ = some x1 := fun o => ⟨((hA o).cell (p := ⟨wr.heap.size, 0, none⟩) hsz).trans k0, ((hA o).cell (p := ⟨wr.heap.size, 1, none⟩) hsz).trans k1⟩
  exact ⟨⟨k0, k1⟩, ka, fun {o w4} hg => ⟨(hg.cell_far ⟨wr.heap.size, 0, none⟩ (by simp; omega) hne).trans (ka o).1, (hg.cell_far ⟨wr.heap.size, 1, none⟩ (by simp; omega) hne).trans (ka o).2⟩,
    fun o => (owns_later hus hb (Nat.le_refl _)).alloc o, fun o => by simp; omega⟩

set_option maxRecDepth 20000 in
set_option maxHeartbeats 6400000 in
theorem models_any (va vr : Value) (m : Mo) (w : World) (hsz : MoSz m) (hV : ModelV w va vr m) :
    Calls Tryz.prog 12 #[.agg #[va, vr]] w fun e w' => ∃ va' vr', e = .returned (.agg #[va', vr']) ∧ Below w.heap.size w w' ∧ ModelV w' va' vr' m := by
  obtain ⟨hsv, hsr, hsz⟩ := hsz
  obtain ⟨⟨ao, cap, rfl, hcap, hvat⟩, hR⟩ := hV
  obtain ⟨ro, rc, rfl⟩ := hR.shape
  obtain ⟨vs, l⟩ := m
  simp only at *
  have HR : Hid (RulesV w (.slice ro l.length rc) l) := hR
  have HSZ := (show Hid _ from hsz)
  obtain ⟨n, hn⟩ : ∃ n, n = l.length := ⟨_, rfl⟩
  have HN : Hid (n = l.length) := hn
  rw [← hn] at hsr HR ⊢
  have hA : ∀ o o', Below w.heap.size w ((w.alloc o).alloc o') := fun o o' => ((Below.refl _ _).alloc (Nat.le_refl _) o).alloc (by simp) o'
  have hnews : ∀ o o' ad, ao = some ad → ∀ j u, (vflat vs)[j]? = some u → ((w.alloc o).alloc o').cell? (ad.add j) = some u := fun o o' ad had j u hj => by
    have hlt : 0 < vs.length := by
      rcases Nat.eq_zero_or_pos vs.length with h0 | h0
      · have := (List.getElem?_eq_some_iff.1 hj).1; rw [vflat_length] at this; omega
      · exact h0
    obtain ⟨b, off, e, hb, hat⟩ := hvat hlt
    rw [had] at e
    obtain rfl := Option.some.inj e
    exact vflat_cells (fun i hi => (hat i hi).below (hA o o') hb) j u hj
  have HNews := (show Hid _ from hnews)
  have HOwn : Hid (∀ (w' : World) (base : Nat) (v : Value), w'.ownsRow base 76 4 v vs.length (vflat vs) → VarsV w' v vs) := fun w' base v h => varsV_of_owns h
  obtain ⟨iv, hiv, hv0, hv1, hv2⟩ := info_parts infoVar
  obtain ⟨is, his, hsa0, hsa1, hsa2⟩ := info_parts infoSet
  obtain ⟨ir, hir, hr0, hr1, hr2⟩ := info_parts infoRule
  have hvl := vflat_length vs
  have hvo := vflat_one vs
  generalize vflat vs = cells at *
  obtain ⟨vn, hvn⟩ : ∃ vn, vn = vs.length := ⟨_, rfl⟩
  rw [← hvn] at hsv hcap hvl HOwn ⊢
  clear hR hn hnews hvat hsz hvn
  go_enter Tryz.func12, Tryz.ntmps12
  go_wp2_with (at_builtin; refine wpList_copy rfl _ _ 22 rfl (w.heap.size + 2) 76 iv _ 4 40 Tryz.underlying22 hiv hv0 hv1 hv2 rfl (by decide) rfl ao vn cap cells rfl hcap.2 hvl (HNews.out _ _) hvo ?c3 hsv ?c5 ?_)
  case c3 => unfold maxLen; omega
  case c5 => simp
  intro va' w1 hown1 hgrow1
  obtain ⟨va1, vc1, rfl⟩ := owns_slice hown1
  have hb01 : Below (w.heap.size + 2) ((w.alloc (.cells #[.slice ao vn cap, .slice ro n rc] 25)).alloc (.cells #[.slice none 0 0, .slice none 0 0] 25)) w1 := (Below.refl _ _).grown hgrow1 (by simp) (fun q hq => by cases hq)
  have hs1 : w.heap.size + 2 ≤ w1.heap.size := by have := hb01.size; simp at this; omega
  have hb1 : Below w.heap.size w w1 := (hA _ _).trans (hb01.mono (by omega))
  have HBx : Hid (∀ wr, Below w1.heap.size w1 wr → wr.cell? ⟨w.heap.size, 1, none⟩ = some (.slice ro n rc) ∧ wr.cell? ⟨w.heap.size + 1, 0, none⟩ = some (.slice none 0 0) ∧ wr.cell? ⟨w.heap.size + 1, 1, none⟩ = some (.slice none 0 0) ∧ wr.frozen? ⟨w.heap.size + 1, 0, none⟩ = false ∧ wr.frozen? ⟨w.heap.size + 1, 1, none⟩ = false) := fun wr hb => by
    refine ⟨?_, ?_, ?_, ?_, ?_⟩
    · rw [hb.cell (p := ⟨w.heap.size, 1, none⟩) (by simp only; omega), hb01.cell (p := ⟨w.heap.size, 1, none⟩) (by simp)]; simp [go_sem]
    · rw [hb.cell (p := ⟨w.heap.size + 1, 0, none⟩) (by simp only; omega), hb01.cell (p := ⟨w.heap.size + 1, 0, none⟩) (by simp)]; simp [go_sem]
    · rw [hb.cell (p := ⟨w.heap.size + 1, 1, none⟩) (by simp only; omega), hb01.cell (p := ⟨w.heap.size + 1, 1, none⟩) (by simp)]; simp [go_sem]
    · rw [hb.frozen (p := ⟨w.heap.size + 1, 0, none⟩) (by simp only; omega), hb01.frozen (p := ⟨w.heap.size + 1, 0, none⟩) (by simp)]; simp [go_sem]
    · rw [hb.frozen (p := ⟨w.heap.size + 1, 1, none⟩) (by simp only; omega), hb01.frozen (p := ⟨w.heap.size + 1, 1, none⟩) (by simp)]; simp [go_sem]
  have HO1 : Hid (w1.ownsRow (w.heap.size + 2) 76 4 (.slice va1 vn vc1) vn cells) := hown1
  have HB1 : Hid (Below w.heap.size w w1) := hb1
  clear hgrow1 hown1 hb01 hA HNews hvl hvo hiv hv0 hv1 hv2 hcap hb1
  go_wp2
  go_loopw [4] (fun i wr => ∃ (k : Nat) (vR : Value), k ≤ n ∧ i = .int .i64 k ∧ Hid (RulesCur w1 wr (.slice va1 vn vc1) vR (l.take k))) (fun i _ => n - (intOf i).toNat)
  case atStart => exact ⟨0, .slice none 0 0, Nat.zero_le _, rfl, by simp [go_sem], by simp [go_sem], by simp [go_sem], RulesOwn.nil _ _, (Below.refl _ _).alloc (Nat.le_refl _) _, by simp⟩
  case round =>
    obtain ⟨k, vR, hk, rfl, HC⟩ := hrel
    obtain ⟨e0, e1, ef, hro, hbel, hlt1⟩ := HC.out
    have HRO := (show Hid _ from hro)
    have HBel := (show Hid _ from hbel)
    have hbw := HB1.out.trans (hbel.mono HB1.out.size)
    obtain ⟨cB, cr0, cr1, fr0, fr1⟩ := HBx.out wr hbel
    by_cases hlt : k < n
    · obtain ⟨b, off, rfl, hblt, hat⟩ := HR.out.at (i := k) (by rw [← HN.out]; exact hlt)
      obtain ⟨⟨u, c0', hO⟩, sv, c1', hS⟩ := hat
      have hrsz := HSZ.out k (by rw [← HN.out]; exact hlt)
      have HTk := (show Hid _ from take_snocR l (q := k) (by rw [← HN.out]; exact hlt))
      generalize l.getD k ru0 = r at *
      obtain ⟨gd, ss⟩ := r
      obtain ⟨hgz, hsz2, hsz3⟩ := hrsz
      simp only at hO hS hgz hsz2 hsz3
      obtain ⟨ua, uc, rfl⟩ := hO.shape
      obtain ⟨sa, sc, rfl⟩ := hS.shape
      have c0 := (hbw.cell (p := ⟨b, off + k * 2, none⟩) hblt).trans c0'
      have hops := ops_any _ gd wr hgz (hO.below hbw)
      have HS : Hid (SetsV w (.slice sa ss.length sc) ss) := hS
      have HSz3 := (show Hid _ from hsz3)
      obtain ⟨gn, hgn⟩ : ∃ gn, gn = gd.length := ⟨_, rfl⟩
      have HGN : Hid (gn = gd.length) := hgn
      rw [← hgn] at hgz c0 c0' hops
      clear hgn
      obtain ⟨sn, hsn⟩ : ∃ sn, sn = ss.length := ⟨_, rfl⟩
      have HSN : Hid (sn = ss.length) := hsn
      rw [← hsn] at hsz2 HS c1'
      clear hO hS hsn hsz3 hbel hro
      go_wp2_with (go_at_call 14; refine hops.mono ?_; rintro e w2 ⟨gv, rfl, hb2, ho2⟩; obtain ⟨ga, gc, rfl⟩ := owns_slice ho2)
      generalize wr = wo at *
      have hwo : w.heap.size < wo.heap.size := by omega
      have HB2 : Hid (Below wo.heap.size wo w2) := hb2
      have HO2 := (show Hid _ from ho2)
      have HBw : Hid (Below w.heap.size w wo) := hbw
      clear hops hb2 ho2 hbw
      go_loopw [6] (fun i wr => ∃ (q : Nat) (vS : Value), q ≤ sn ∧ i = .int .i64 q ∧ Hid (RuleCur w2 wr (.slice ga gn gc) vS (ss.take q))) (fun i _ => sn - (intOf i).toNat)
      case atStart => exact ⟨0, .slice none 0 0, Nat.zero_le _, rfl, by simp [go_sem], by simp [go_sem], by simp [go_sem], SetsOwn.nil _ _, (Below.refl _ _).alloc (Nat.le_refl _) _, by simp⟩
      case round =>
        obtain ⟨q, vS, hq, rfl, HC2⟩ := hrel
        obtain ⟨d0, d1, df, hso, hbel2, hlt2⟩ := HC2.out
        have hbo2 : Below wo.heap.size wo wr := HB2.out.trans (hbel2.mono HB2.out.size)
        have hbw2 : Below w.heap.size w wr := HBw.out.trans (hbo2.mono HBw.out.size)
        have cB2 := (hbo2.cell (p := ⟨w.heap.size, 1, none⟩) hwo).trans cB
        have c12 := (hbw2.cell (p := ⟨b, off + k * 2 + 1, none⟩) hblt).trans c1'
        by_cases hqs : q < sn
        · obtain ⟨sb, soff, rfl, hsb, hsat⟩ := HS.out.at (i := q) (by rw [← HSN.out]; exact hqs)
          obtain ⟨f0', uu, f1', hOu⟩ := hsat
          have hvz := HSz3.out q (by rw [← HSN.out]; exact hqs)
          have HTq := (show Hid _ from take_snocS ss (q := q) (by rw [← HSN.out]; exact hqs))
          generalize ss.getD q st0 = x at *
          obtain ⟨y, val⟩ := x
          simp only [StSz] at f0' hOu hvz
          obtain ⟨ua2, uc2, rfl⟩ := hOu.shape
          have f0 := (hbw2.cell (p := ⟨sb, soff + q * 2, none⟩) hsb).trans f0'
          have f1 := (hbw2.cell (p := ⟨sb, soff + q * 2 + 1, none⟩) hsb).trans f1'
          have hops2 := fun o => ops_any _ val ((wr.alloc o).drew) hvz (hOu.below (hbw2.alloc hbw2.size o).drew)
          obtain ⟨us, hus, hts⟩ := hso
          have hlq : (ss.take q).length = q := by rw [List.length_take, ← HSN.out]; omega
          have HUS := (show Hid _ from hus)
          have HTS := (show Hid _ from hts)
          rw [hlq] at hus
          obtain ⟨vl, hvl⟩ : ∃ vl, vl = val.length := ⟨_, rfl⟩
          have HVL : Hid (vl = val.length) := hvl
          rw [← hvl] at f1 hops2 hvz
          have HLQ : Hid ((ss.take q).length = q) := hlq
          have h63 : q + 1 ≤ maxLen := by unfold maxLen; omega
          have hby : (q + 1) * 32 ≤ 140737488355328 := by omega
          clear hOu f0' f1' hts hbel2 hbo2 hbw2 hlq hvl HC e0 e1 ef HRO HBel cr0 cr1 fr0 fr1 HR HBx HSZ HO1 HOwn HS HSz3 HO2 HB2 HBw cB c0 c0' c1' HB1 hir hr0 hr1 hr2 hgz
          go_wp2_with fail
          clear cB2 c12 f0 f1
          go_region_law (first
              | (refine step_append_lies _ (by rfl) (.tmp 48) (.tmp 55) 60 (by rfl) (w2.heap.size + 1) 64 is _ 2 32 Tryz.underlying60 his hsa0 hsa1 hsa2 (by rfl) (by decide) vS q us (by rfl) (hus3 _) ⟨w3.heap.size, 0, none⟩ 1 1 [.int .i64 y, .slice a3 vl c3] (by rfl) (by rfl) (two_new _ _ _ _) (by intro u hu; simp at hu; rcases hu with rfl | rfl <;> rfl) (by decide) h63 hby (hbase3 _) (w3.heap.size + 1) (by simp) ?_; intro g cp w4 ho4 hg4 hat4 hl4; obtain ⟨g0, g1, gf⟩ := HC2.out.at4 HUS.out hb3 hg4)
              | (go_simp; go_at_call 14; refine (hops2 _).mono ?_; rintro e w3 ⟨v3, rfl, hb3, ho3⟩; obtain ⟨a3, c3, rfl⟩ := owns_slice ho3; obtain ⟨p0, p1, pf, psz, hbw3⟩ := HC2.out.at3 hb3; obtain ⟨⟨hk3, hk3'⟩, hk3a, hkk, hus3, hbase3⟩ := sb_facts hus hlt2 hb3))
          all_goals
            have hst : RuleCur w2 (w4.setCell ⟨w2.heap.size, 1, none⟩ (.slice (some ⟨g, 0, none⟩) (q + 1) cp)) (.slice ga gn gc) (.slice (some ⟨g, 0, none⟩) (q + 1) cp) (ss.take (q + 1)) := by
              rw [HTq.out]
              exact RuleCur.step (x := ⟨y, val⟩) HC2.out HUS.out HTS.out hb3 (by rw [← HVL.out]; exact ho3) hg4 (by rw [HLQ.out]; exact ho4)
            have HST := (show Hid _ from hst)
            clear hst ho4 hg4 ho3 hb3 hus3 hbase3 hkk hk3a HUS HTS HC2 hus
            go_wp2_with fail
            go_roundw
            case rel => exact ⟨q + 1, _, hqs, by go_num, HST.out⟩
            case measure => simp [intOf]; omega
        · have hqe : q = sn := by omega
          have hso' : SetsOwn wr (w2.heap.size + 1) vS ss := by rwa [List.take_of_length_le (by rw [← HSN.out]; omega)] at hso
          obtain ⟨sa3, sc3, hvs⟩ : ∃ a c, vS = .slice a sn c := by
            obtain ⟨us, h1, _⟩ := hso'
            rw [← HSN.out] at h1
            exact owns_slice h1
          subst hvs
          have e1' := (hbo2.cell (p := ⟨w1.heap.size, 1, none⟩) hlt1).trans e1
          have ef' := (hbo2.frozen (p := ⟨w1.heap.size, 1, none⟩) hlt1).trans ef
          have hgu : wr.ownsRow (w1.heap.size + 1) 92 2 (.slice ga gn gc) gd.length (flat gd) := by
            have := HO2.out
            rw [HGN.out] at this
            have := owns_mono (owns_later this hbel2 (Nat.le_refl _)) (show w1.heap.size + 1 ≤ wo.heap.size from hlt1)
            rwa [← HGN.out] at this ⊢
          have hsu : SetsOwn wr (w1.heap.size + 1) (.slice sa3 sn sc3) ss := hso'.mono (by have := HB2.out.size; omega)
          obtain ⟨us, hus, hts⟩ := HRO.out
          have HUS := (show Hid _ from hus)
          have HTS := (show Hid _ from hts)
          have hlk : (l.take k).length = k := by rw [List.length_take, ← HN.out]; omega
          have HLK : Hid ((l.take k).length = k) := hlk
          rw [hlk] at hus
          have hus2 := owns_later hus hbo2 (Nat.le_refl _)
          have HGU := (show Hid _ from hgu)
          have HSU := (show Hid _ from hsu)
          have HBO : Hid (Below wo.heap.size wo wr) := hbo2
          have h63 : k + 1 ≤ maxLen := by unfold maxLen; omega
          have hby : (k + 1) * 48 ≤ 140737488355328 := by omega
          have hbase : ∀ o, w1.heap.size + 1 ≤ (wr.alloc o).heap.size := fun o => by have := hbo2.size; simp; omega
          have hus3 := fun o => hus2.alloc o
          clear hso hso' hgu hsu hts hlk hus hus2 hbel2 hbw2 hbo2 HC2 HO2 HB2 HBw HO1 HOwn HBx HR HS HSz3 HSZ HB1 c0 c0' c1' cB cr0 cr1 fr0 fr1 e0 e1 ef
          go_wp2_with (at_builtin; refine wpList_append_lies _ rfl (.tmp 59) (.tmp 61) 23 rfl (w1.heap.size + 1) 62 ir _ 2 48 Tryz.underlying23 hir hr0 hr1 hr2 rfl (by decide) vR k us rfl (hus3 _) ⟨wr.heap.size, 0, none⟩ 1 1 [.slice ga gn gc, .slice sa3 sn sc3] rfl rfl (two_new _ _ _ _) (by intro u hu; simp at hu; rcases hu with rfl | rfl <;> rfl) (by decide) h63 hby (hbase _) (wr.heap.size + 1) (by simp) ?_; intro g cp w4 ho4 hg4 hat4 hl4; obtain ⟨g0, g1, gf⟩ := HC.out.at4 HUS.out HBO.out hg4)
          have hst : RulesCur w1 (w4.setCell ⟨w1.heap.size, 1, none⟩ (.slice (some ⟨g, 0, none⟩) (k + 1) cp)) (.slice va1 vn vc1) (.slice (some ⟨g, 0, none⟩) (k + 1) cp) (l.take (k + 1)) := by
            rw [HTk.out]
            exact RulesCur.step (x := ⟨gd, ss⟩) HC.out HUS.out HTS.out HBO.out HGU.out HSU.out hg4 (by rw [HLK.out]; exact ho4)
          have HST := (show Hid _ from hst)
          clear hst
          go_roundw
          case rel => exact ⟨k + 1, _, hlt, by go_num, HST.out⟩
          case measure => simp [intOf]; omega
    · have hkn : k = n := by omega
      obtain ⟨ra, rcap, hvr⟩ : ∃ ra rcap, vR = .slice ra n rcap := by
        obtain ⟨us, h1, _⟩ := hro
        obtain ⟨a, c, rfl⟩ := owns_slice h1
        exact ⟨a, c, by rw [List.length_take, ← HN.out, hkn, Nat.min_self]⟩
      subst hvr
      have hfin : ModelV ((wr.setCell ⟨w.heap.size + 1, 0, none⟩ (.slice va1 vn vc1)).setCell ⟨w.heap.size + 1, 1, none⟩ (.slice ra n rcap)) (.slice va1 vn vc1) (.slice ra n rcap) ⟨vs, l⟩ := by
        refine ⟨?_, ?_⟩
        · exact HOwn.out _ (w.heap.size + 2) _ (owns_setCell (owns_setCell (owns_later HO1.out hbel (Nat.le_refl _)) (by omega) _) (by omega) _)
        · have := ((hro.setCell (b := w.heap.size + 1) (o := 0) (by omega) (.slice va1 vn vc1)).setCell (b := w.heap.size + 1) (o := 1) (by omega) (.slice ra n rcap)).rulesV
          rwa [List.take_of_length_le (by rw [← HN.out]; omega)] at this
      have HFin := (show Hid _ from hfin)
      clear hfin hro HC HRO
      go_wp2
      refine bodyPost_ret (v := .agg #[.slice va1 vn vc1, .slice ra n rcap]) (by simp [results, Tryz.results12, go_sem, cr0, cr1]) rfl ⟨_, _, rfl, ?_, HFin.out⟩
      exact (hbw.setCell (by simp) _).setCell (by simp) _
end Go.Proofs.YtnicbkkkecfdpaaGreatDoor
