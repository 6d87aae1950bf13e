import Derived.Test.YtipleacacfejcaaDoorKeepRows
import Derived.Deep.AppendLies
import Derived.Deep.RegionLaw
import Derived.Deep.RegionHeld3
import Derived.Deep.Cut
import Derived.Deep.CutBlock
import Derived.Deep.CutRange
import Derived.Deep.DeepCutAuto
namespace Go.Proofs.YtipleacacfejcaaDoor
open Go.ChangeShapes Go.WideShapes Go.ChangeAt Go.RowKit Go.Deep
open Terms Tm

/-- what the operations of the first region leave. -/
def mtP (M : Nat) (va : Value) (base : Nat) (l2 : List Vr) (x k : Int) (pt : Value) (cv : Vr) : Nat → Value → World → Prop
  | 0, v, _ => v = .pointer (some ⟨M, 0, none⟩)
  | 1, v, _ => v = va
  | 2, v, w => w.ownsRow base 32 4 v 2 (vflat l2)
  | 3, v, _ => v = .pointer (some ⟨M, 0, none⟩)
  | 4, v, _ => v = va
  | 5, v, _ => v = .int .i64 x
  | 6, v, _ => v = .int .i64 k
  | 7, v, _ => v = pt
  | 8, v, _ => v = .agg #[.string cv.name, .int .i64 cv.lo, .int .i64 cv.hi, .int .i64 cv.ini]
  | 9, v, w => ∃ g, v = .slice (some ⟨g, 0, none⟩) 1 1 ∧ w.heap[g]? = some (.cells #[.string cv.name, .int .i64 cv.lo, .int .i64 cv.hi, .int .i64 cv.ini] 32 (0, 0))
  | _, _, _ => True
set_option maxRecDepth 20000 in
theorem mtP_stable (M : Nat) (va : Value) (base : Nat) (l2 : List Vr) (x k : Int) (pt : Value) (cv : Vr) (i : Nat) (v : Value) (w w' : World) (hi : i < 10) (h : mtP M va base l2 x k pt cv i v w) (hb : Below w.heap.size w w') : mtP M va base l2 x k pt cv i v w' := by
  have hc : i = 0 ∨ i = 1 ∨ i = 2 ∨ i = 3 ∨ i = 4 ∨ i = 5 ∨ i = 6 ∨ i = 7 ∨ i = 8 ∨ i = 9 := by omega
  rcases hc with rfl | rfl | rfl | rfl | rfl | rfl | rfl | rfl | rfl | rfl
  case inr.inr.inl => exact owns_later h hb (Nat.le_refl _)
  case inr.inr.inr.inr.inr.inr.inr.inr.inr =>
    obtain ⟨g, h1, h2⟩ := h
    exact ⟨g, h1, (hb.block g (Array.getElem?_eq_some_iff.1 h2).1).trans h2⟩
  all_goals exact h
/-- the memory of the rule that sets a variable twice. -/
def mtU (w : World) : World := ((((w.alloc (.cells #[.int .i64 11, .int .i64 0] 35)).alloc (.cells #[.int .i64 1, .int .i64 0] 35)).alloc (.cells #[.int .i64 1, .int .i64 1] 35)).alloc (.cells #[.int .i64 1, .slice (some ⟨w.heap.size + 1, 0, none⟩) 1 1, .int .i64 1, .slice (some ⟨w.heap.size + 1 + 1, 0, none⟩) 1 1] 39)).alloc (.cells #[.slice (some ⟨w.heap.size, 0, none⟩) 1 1, .slice (some ⟨w.heap.size + 1 + 1 + 1, 0, none⟩) 2 2] 42)
set_option maxRecDepth 20000 in
theorem mtU_lies {w w8 : World} (hg : ∀ b x, w.heap.size ≤ b → (mtU w).heap[b]? = some x → w8.heap[b]? = some x) : RuPairs w8 [(.slice (some ⟨w.heap.size, 0, none⟩) 1 1, .slice (some ⟨w.heap.size + 1 + 1 + 1, 0, none⟩) 2 2)] [⟨[(11, 0)], [⟨1, [(1, 0)]⟩, ⟨1, [(1, 1)]⟩]⟩] := by
  have s1 : (w.alloc (.cells #[.int .i64 11, .int .i64 0] 35)).heap.size = w.heap.size + 1 := by simp
  have s2 : ((w.alloc (.cells #[.int .i64 11, .int .i64 0] 35)).alloc (.cells #[.int .i64 1, .int .i64 0] 35)).heap.size = w.heap.size + 2 := by simp
  have s3 : (((w.alloc (.cells #[.int .i64 11, .int .i64 0] 35)).alloc (.cells #[.int .i64 1, .int .i64 0] 35)).alloc (.cells #[.int .i64 1, .int .i64 1] 35)).heap.size = w.heap.size + 3 := by simp
  have h0 := hg _ _ (Nat.le_refl _) (heap_keep _ _ (heap_keep _ _ (heap_keep _ _ (heap_keep _ _ (heap_new w _)))))
  have h1 := heap_new (w.alloc (.cells #[.int .i64 11, .int .i64 0] 35)) (.cells #[.int .i64 1, .int .i64 0] 35)
  rw [s1] at h1
  have h1 := hg _ _ (by omega) (heap_keep _ _ (heap_keep _ _ (heap_keep _ _ h1)))
  have h2 := heap_new ((w.alloc (.cells #[.int .i64 11, .int .i64 0] 35)).alloc (.cells #[.int .i64 1, .int .i64 0] 35)) (.cells #[.int .i64 1, .int .i64 1] 35)
  rw [s2] at h2
  have h2 := hg _ _ (by omega) (heap_keep _ _ (heap_keep _ _ h2))
  have h3 := heap_new (((w.alloc (.cells #[.int .i64 11, .int .i64 0] 35)).alloc (.cells #[.int .i64 1, .int .i64 0] 35)).alloc (.cells #[.int .i64 1, .int .i64 1] 35)) (.cells #[.int .i64 1, .slice (some ⟨w.heap.size + 1, 0, none⟩) 1 1, .int .i64 1, .slice (some ⟨w.heap.size + 1 + 1, 0, none⟩) 1 1] 39)
  rw [s3] at h3
  have h3 := hg _ _ (by omega) (heap_keep _ _ h3)
  exact RuPairs.cons (ops_lit h0) (sets_two h3 (ops_lit h1) (ops_lit h2)) (RuPairs.nil _)
/-- the memory of the rule whose guard is a number. -/
def mtV (w : World) : World := (w.alloc (.cells #[.int .i64 1, .int .i64 1] 35)).alloc (.cells #[.slice (some ⟨w.heap.size, 0, none⟩) 1 1, .slice none 0 0] 42)
set_option maxRecDepth 20000 in
theorem mtV_lies {w w8 : World} (hg : ∀ b x, w.heap.size ≤ b → (mtV w).heap[b]? = some x → w8.heap[b]? = some x) : RuPairs w8 [(.slice (some ⟨w.heap.size, 0, none⟩) 1 1, .slice none 0 0)] [⟨[(1, 1)], []⟩] := by
  have h0 := hg _ _ (Nat.le_refl _) (heap_keep _ _ (heap_new w _))
  exact RuPairs.cons (ops_lit h0) (sets_nil _) (RuPairs.nil _)
set_option maxRecDepth 20000 in
theorem mtU_below (w : World) : Below w.heap.size w (mtU w) := by
  unfold mtU
  repeat refine Below.alloc ?_ (by simp <;> omega) _
  exact Below.refl _ _
set_option maxRecDepth 20000 in
theorem mtV_below (w : World) : Below w.heap.size w (mtV w) := by
  unfold mtV
  repeat refine Below.alloc ?_ (by simp <;> omega) _
  exact Below.refl _ _
set_option maxRecDepth 20000 in
theorem mtU_owns {w : World} {v : Value} {base n : Nat} {xs : List Value} (ho : w.ownsRow base 42 2 v n xs) : (mtU w).ownsRow base 42 2 v n xs := ((((ho.alloc _).alloc _).alloc _).alloc _).alloc _
set_option maxRecDepth 20000 in
theorem mtV_owns {w : World} {v : Value} {base n : Nat} {xs : List Value} (ho : w.ownsRow base 42 2 v n xs) : (mtV w).ownsRow base 42 2 v n xs := (ho.alloc _).alloc _
set_option maxRecDepth 20000 in
theorem mtU_news (w : World) : ∀ j u, ([.slice (some ⟨w.heap.size, 0, none⟩) 1 1, .slice (some ⟨w.heap.size + 1 + 1 + 1, 0, none⟩) 2 2] : List Value)[j]? = some u → (mtU w).cell? ((⟨w.heap.size + 1 + 1 + 1 + 1, 0, none⟩ : Addr).add j) = some u := by
  have h := two_new ((((w.alloc (.cells #[.int .i64 11, .int .i64 0] 35)).alloc (.cells #[.int .i64 1, .int .i64 0] 35)).alloc (.cells #[.int .i64 1, .int .i64 1] 35)).alloc (.cells #[.int .i64 1, .slice (some ⟨w.heap.size + 1, 0, none⟩) 1 1, .int .i64 1, .slice (some ⟨w.heap.size + 1 + 1, 0, none⟩) 1 1] 39)) (.slice (some ⟨w.heap.size, 0, none⟩) 1 1) (.slice (some ⟨w.heap.size + 1 + 1 + 1, 0, none⟩) 2 2) 42
  rwa [show ((((w.alloc (.cells #[.int .i64 11, .int .i64 0] 35)).alloc (.cells #[.int .i64 1, .int .i64 0] 35)).alloc (.cells #[.int .i64 1, .int .i64 1] 35)).alloc (.cells #[.int .i64 1, .slice (some ⟨w.heap.size + 1, 0, none⟩) 1 1, .int .i64 1, .slice (some ⟨w.heap.size + 1 + 1, 0, none⟩) 1 1] 39)).heap.size = w.heap.size + 1 + 1 + 1 + 1 by simp] at h
set_option maxRecDepth 20000 in
theorem mtV_news (w : World) : ∀ j u, ([.slice (some ⟨w.heap.size, 0, none⟩) 1 1, .slice none 0 0] : List Value)[j]? = some u → (mtV w).cell? ((⟨w.heap.size + 1, 0, none⟩ : Addr).add j) = some u := by
  have h := two_new (w.alloc (.cells #[.int .i64 1, .int .i64 1] 35)) (.slice (some ⟨w.heap.size, 0, none⟩) 1 1) (.slice none 0 0) 42
  rwa [show (w.alloc (.cells #[.int .i64 1, .int .i64 1] 35)).heap.size = w.heap.size + 1 by simp] at h
set_option maxRecDepth 20000 in
theorem mtU_size (w : World) : w.heap.size ≤ (mtU w).heap.size := (mtU_below w).size
set_option maxRecDepth 20000 in
theorem mtV_size (w : World) : w.heap.size ≤ (mtV w).heap.size := (mtV_below w).size
/-- a model with other rules. -/
def MtR (W : World) (Y : Nat) (va : Value) (rs : List Ru) (w : World) : Prop := ∃ yo yc, RulesV w (.slice yo rs.length yc) rs ∧ w.cell? ⟨Y, 0, none⟩ = some va ∧ w.cell? ⟨Y, 1, none⟩ = some (.slice yo rs.length yc) ∧ Y < w.heap.size ∧ Below W.heap.size W w
set_option maxRecDepth 20000 in
/-- behind the store. -/
theorem mt_stored {W W5 w8 : World} {Y rn g8 cp8 : Nat} {va v0 : Value} {l : List (Value × Value)} {rules : List Ru} {x : Ru} {gx sx : Value} (hb5 : Below W.heap.size W W5) (hb : Below W5.heap.size W5 w8) (hL : RuPairs W l rules) (hx : RuPairs (w8.setCell ⟨Y, 1, none⟩ (.slice (some ⟨g8, 0, none⟩) (rn + 1) cp8)) [(gx, sx)] [x]) (hrl : rules.length = rn) (ho : w8.ownsRow W5.heap.size 42 2 (.slice (some ⟨g8, 0, none⟩) (rn + 1) cp8) (rn + 1) (ruFlat l ++ [gx, sx]))
    (y0 : w8.cell? ⟨Y, 0, none⟩ = some va) (y1 : w8.cell? ⟨Y, 1, none⟩ = some v0) (hY : W.heap.size ≤ Y) (hY5 : Y < W5.heap.size) : MtR W Y va (rules ++ [x]) (w8.setCell ⟨Y, 1, none⟩ (.slice (some ⟨g8, 0, none⟩) (rn + 1) cp8)) := by
  have hle : (rules ++ [x]).length = rn + 1 := by simp [hrl]
  have hs8 := hb.size
  have hbf : Below W.heap.size W (w8.setCell ⟨Y, 1, none⟩ (.slice (some ⟨g8, 0, none⟩) (rn + 1) cp8)) := (hb5.trans (hb.mono hb5.size)).setCell hY _
  have ho' := ownsRow_setCell_below ho (a := ⟨Y, 1, none⟩) hY5 (.slice (some ⟨g8, 0, none⟩) (rn + 1) cp8)
  refine ⟨some ⟨g8, 0, none⟩, cp8, ?_, ?_, ?_, ?_, hbf⟩
  · rw [hle]
    have e : ruFlat l ++ [gx, sx] = ruFlat (l ++ [(gx, sx)]) := by rw [ruFlat_app]; rfl
    rw [e] at ho'
    exact pairs_rules ho' hle.symm ((hL.below hbf).app hx)
  · rw [World.cell?_setCell_other _ _ _ _ (by simp)]; exact y0
  · rw [hle]; exact World.cell?_setCell_same w8 ⟨Y, 1, none⟩ _ y1
  · simp; omega
set_option maxRecDepth 20000 in
/-- what is behind the row is as it was. -/
theorem mt_far {w u w8 : World} {v : Value} {base n Y i : Nat} {xs : List Value} {y : Value} (ho : w.ownsRow base 42 2 v n xs) (hg : u.grownBy w8 v.ownBlock) (hY : Y < w.heap.size) : ∀ b x, w.heap.size ≤ b → u.heap[b]? = some x → (w8.setCell ⟨Y, i, none⟩ y).heap[b]? = some x := fun b x hb h => by
  rw [Below.heap_setCell _ _ _ _ (show b ≠ Y by omega)]
  exact heap_grown hg h (fun e => by have := (ho.lt b e).2; omega)
/-- the model with a variable twice. -/
def MtX (W : World) (X : Nat) (a b : Vr) (vr : Value) (w : World) : Prop := ∃ g cp c, (c = a ∨ c = b) ∧ VarsV w (.slice (some ⟨g, 0, none⟩) 3 cp) [a, b, c] ∧ w.cell? ⟨X, 0, none⟩ = some (.slice (some ⟨g, 0, none⟩) 3 cp) ∧ w.cell? ⟨X, 1, none⟩ = some vr ∧ X < w.heap.size ∧ Below W.heap.size W w

set_option maxHeartbeats 3200000 in
set_option maxRecDepth 20000 in
theorem modelTwice_walk (c0 c1 c2 c3 c4 c5 c6 : Value) (a b : Vr) (x : Int) (w : World) (hB : 0 < w.heap.size) (hT : TabAt w) (hG : GV a b) (hx : I64 x)
    (hmd : ∀ w', Below w.heap.size w w' → Calls Tryd.prog 5 #[.agg #[c0, c1, c2, c3, c4, c5, c6]] w' fun e w2 => ∃ va vr, e = .returned (.agg #[va, vr]) ∧ Below w'.heap.size w' w2 ∧ GModel w2 va vr [a, b]) :
    Calls Tryd.prog 3 #[.agg #[c0, c1, c2, c3, c4, c5, c6], .int .i64 x] w fun e w' => e = .returned (.bool true) ∧ Below w.heap.size w w' := by
  have HT : Hid (∀ w', Below w.heap.size w w' → 0 < w'.heap.size ∧ TabAt w') := fun w' hb => ⟨Nat.lt_of_lt_of_le hB hb.size, hT.below hb hB⟩
  have hA : ∀ o, Below w.heap.size w (w.alloc o) := fun o => (Below.refl _ _).alloc (Nat.le_refl _) o
  clear hB hT
  go_enter Tryd.func3, Tryd.ntmps3
  go_upto_region 2 with (go_at_call 5; refine (hmd _ (hA _)).mono ?_; rintro e w1 ⟨va, vr, rfl, hb1, hM⟩; obtain ⟨ao, cap, ro, rn, rc, rfl, rfl, hrn⟩ := hM.shape)
  obtain ⟨hbW, hk⟩ := kept (a := a) (b := b) (t := 29) HT.out ((hA _).trans (hb1.mono (hA _).size)) hM rfl
  have hs12 : w1.heap.size < (w1.alloc (.cells #[.slice ao 2 cap, .slice ro rn rc] 29)).heap.size := by simp
  generalize w1.alloc (.cells #[.slice ao 2 cap, .slice ro rn rc] 29) = W2 at hbW hk hs12 ⊢
  have HK : Hid (∀ w', Below W2.heap.size W2 w' → (0 < w'.heap.size ∧ TabAt w' ∧ GModel w' (.slice ao 2 cap) (.slice ro rn rc) [a, b]) ∧ w'.cell? ⟨w1.heap.size, 0, none⟩ = some (.slice ao 2 cap) ∧ w'.cell? ⟨w1.heap.size, 1, none⟩ = some (.slice ro rn rc)) := hk
  have HBW : Hid (Below w.heap.size w W2) := hbW
  obtain ⟨⟨z0, z1, z2⟩, z3, z4⟩ := hk W2 (Below.refl _ _)
  obtain ⟨rules, hMV, hle, hrc⟩ := id z2
  obtain ⟨l, hL, hrl, hro, hcells⟩ := rules_pairs hMV.2
  have HL : Hid (RuPairs W2 l rules) := hL
  have HRO : Hid (ro = none → rc = 0 ∧ rn = 0) := hro
  have HCE : Hid (∀ w', Below W2.heap.size W2 w' → ∀ ad, ro = some ad → ∀ j u, (ruFlat l)[j]? = some u → w'.cell? (ad.add j) = some u) := hcells
  have HLE : Hid (rules.length ≤ 5 ∧ ∀ j, j < rules.length → rcode 2 (rules.getD j ru0) = 0) := ⟨hle, hrc⟩
  have HRL : Hid (rules.length = rn) := hrl
  have HLL : Hid ((ruFlat l).length = rn * 2) := by show _ = _; rw [ruFlat_length, hL.len, hrl]
  have hrn5 : rn ≤ 5 := by rw [← hrl]; exact hle
  clear hMV hle hrc hL hrl hro hcells
  obtain ⟨p, off, rfl, hp, hva, hvb⟩ := kvars z2
  have HV : Hid (∀ w', Below W2.heap.size W2 w' → VarAt w' p off a ∧ VarAt w' p (off + 4) b) := fun w' hb => ⟨hva.below hb hp, hvb.below hb hp⟩
  have hpx := fun w => picked_is x 2 w hx (by omega) (by omega)
  have hxr := pk_range (n := x) (m := 2) (by omega)
  generalize pk x 2 = k at hpx hxr
  obtain ⟨hk0, hk1⟩ := hxr
  obtain ⟨M, hM1⟩ : ∃ M, M = w1.heap.size := ⟨_, rfl⟩
  rw [← hM1] at HK z3 z4 hs12 ⊢
  clear hva hvb hk hbW hM hb1 hmd hx z0 z1 z2 hrn hA hM1
  obtain ⟨kn, hkn, hkk⟩ : ∃ kn : Nat, k = (kn : Int) ∧ kn < 2 := ⟨k.toNat, by omega, by omega⟩
  subst hkn
  obtain ⟨cv, hcv, HC⟩ : ∃ cv, (cv = a ∨ cv = b) ∧ Hid (∀ w', Below W2.heap.size W2 w' → VarAt w' p (off + kn * 4) cv) := by
    have h01 : kn = 0 ∨ kn = 1 := by omega
    rcases h01 with rfl | rfl
    · exact ⟨a, .inl rfl, fun w' hb => (HV.out w' hb).1⟩
    · exact ⟨b, .inr rfl, fun w' hb => (HV.out w' hb).2⟩
  have HVF : Hid (∀ w', Below W2.heap.size W2 w' → ∀ ad, (some ⟨p, off, none⟩ : Option Addr) = some ad → ∀ j u, (vflat [a, b])[j]? = some u → w'.cell? (ad.add j) = some u) := fun w' hb ad he => by
    injection he with he
    subst he
    refine vflat_cells fun i hi => ?_
    have hj2 : i = 0 ∨ i = 1 := by simp at hi; omega
    rcases hj2 with rfl | rfl
    · exact (HV.out w' hb).1
    · exact (HV.out w' hb).2
  obtain ⟨iv, hiv, hv0, hv1, hv2⟩ := info_parts infoVar
  go_upto_region 3 with fail
  have hb23 : Below W2.heap.size W2 (W2.alloc (.cells #[.slice (some ⟨p, off, none⟩) 2 cap, .slice ro rn rc] 29)) := (Below.refl _ _).alloc (Nat.le_refl _) _
  have hX0 : (W2.alloc (.cells #[.slice (some ⟨p, off, none⟩) 2 cap, .slice ro rn rc] 29)).cell? ⟨W2.heap.size, 0, none⟩ = some (.slice (some ⟨p, off, none⟩) 2 cap) := by simp [go_sem]
  have hX1 : (W2.alloc (.cells #[.slice (some ⟨p, off, none⟩) 2 cap, .slice ro rn rc] 29)).cell? ⟨W2.heap.size, 1, none⟩ = some (.slice ro rn rc) := by simp [go_sem]
  have hXf : (W2.alloc (.cells #[.slice (some ⟨p, off, none⟩) 2 cap, .slice ro rn rc] 29)).frozen? ⟨W2.heap.size, 0, none⟩ = false := by simp [go_sem]
  have hXl : W2.heap.size < (W2.alloc (.cells #[.slice (some ⟨p, off, none⟩) 2 cap, .slice ro rn rc] 29)).heap.size := by simp
  generalize W2.alloc (.cells #[.slice (some ⟨p, off, none⟩) 2 cap, .slice ro rn rc] 29) = W3 at hb23 hX0 hX1 hXf hXl ⊢
  go_cut [] (fun wx => Hid (MtX W2 W2.heap.size a b (.slice ro rn rc) wx))
  case first =>
    rename_i J K' hJ hK'
    generalize ha0 : Act.mk _ _ = a0
    have hsz : a0.tmps.size = 66 := by rw [← ha0]; rfl
    have a5 : a0.eval (.tmp 5) = .pointer (some ⟨M, 0, none⟩) := by rw [← ha0]; rfl
    have a1 : a0.eval (.tmp 1) = .int .i64 x := by rw [← ha0]; rfl
    have a6 : a0.eval (.tmp 6) = .pointer (some ⟨W2.heap.size, 0, none⟩) := by rw [← ha0]; rfl
    refine wp_anyway (by rfl) [12, 13, 14, 15, 16, 17, 18, 19, 20, 21, 22, 23] 10 (mtP M (.slice (some ⟨p, off, none⟩) 2 cap) W3.heap.size [a, b] x kn (.pointer (some ⟨p, off + kn * 4, none⟩)) cv) (by rw [hsz]; rfl) (mtP_stable _ _ _ _ _ _ _ _) ?_ ?_
    · intro i o hi ho q w' hb hq
      have hbW := hb23.trans (hb.mono hb23.size)
      have f : ∀ t, [12, 13, 14, 15, 16, 17, 18, 19, 20, 21, 22, 23].contains t = true → t < 66 → (frm a0 [12, 13, 14, 15, 16, 17, 18, 19, 20, 21, 22, 23] q).eval (.tmp t) = q t := fun t h1 h2 => frm_in h1 (by rw [hsz]; exact h2)
      have e5 : (frm a0 [12, 13, 14, 15, 16, 17, 18, 19, 20, 21, 22, 23] q).eval (.tmp 5) = .pointer (some ⟨M, 0, none⟩) := (frm_out rfl).trans a5
      have e1 : (frm a0 [12, 13, 14, 15, 16, 17, 18, 19, 20, 21, 22, 23] q).eval (.tmp 1) = .int .i64 x := (frm_out rfl).trans a1
      obtain ⟨m0, m1⟩ := (HK.out w' hbW).2
      obtain ⟨ev, hev⟩ : ∃ ev, ev = (frm a0 [12, 13, 14, 15, 16, 17, 18, 19, 20, 21, 22, 23] q).eval := ⟨_, rfl⟩
      have evc : ∀ v, ev (.const v) = v := fun v => by rw [hev]; rfl
      have evf : ∀ n, ev (.func n) = .func (.func n) #[] #[] := fun n => by rw [hev]; rfl
      rw [← hev] at f e5 e1
      have hc : i = 0 ∨ i = 1 ∨ i = 2 ∨ i = 3 ∨ i = 4 ∨ i = 5 ∨ i = 6 ∨ i = 7 ∨ i = 8 ∨ i = 9 := by omega
      rcases hc with rfl | rfl | rfl | rfl | rfl | rfl | rfl | rfl | rfl | rfl
      all_goals obtain rfl := Option.some.inj ho
      · refine op_val (w' := w') (v := .pointer (some ⟨M, 0, none⟩)) ?_ (Below.refl _ _) rfl
        rw [← hev]
        simp [execOp, e5, go_sem]
      · have e12 := (f 12 rfl (by decide)).trans (hq 0 12 rfl rfl)
        refine op_val (w' := w') ?_ (Below.refl _ _) rfl
        rw [← hev]
        simp [execOp, e12, go_sem, m0]
      · have e13 := (f 13 rfl (by decide)).trans (hq 1 13 rfl rfl)
        exact wp_copy (.const (.slice none 0 0)) (.tmp 13) 26 rfl W3.heap.size 32 iv _ 4 40 Tryd.underlying26 hiv hv0 hv1 hv2 rfl (by decide) rfl (some ⟨p, off, none⟩) 2 cap (vflat [a, b]) (by rw [← hev]; exact e13) (fun h => by cases h) rfl (HVF.out _ hbW) (vflat_one _) (by decide) (by decide) hb.size fun v' w2 ho2 hg2 => ⟨v', rfl, below_of_grown hg2, ho2⟩
      · refine op_val (w' := w') (v := .pointer (some ⟨M, 0, none⟩)) ?_ (Below.refl _ _) rfl
        rw [← hev]
        simp [execOp, e5, go_sem]
      · have e15 := (f 15 rfl (by decide)).trans (hq 3 15 rfl rfl)
        refine op_val (w' := w') ?_ (Below.refl _ _) rfl
        rw [← hev]
        simp [execOp, e15, go_sem, m0]
      · refine op_val (w' := w') ?_ (Below.refl _ _) rfl
        rw [← hev]
        simp [execOp, e1, go_sem]
      · have e17 := (f 17 rfl (by decide)).trans (hq 5 17 rfl rfl)
        refine op_call (f := 6) (args := #[.int .i64 x, .int .i64 2]) ?_ ((hpx w').mono ?_)
        · rw [← hev]; simp [execOp, e17, evc, evf, go_sem]
        · rintro e w2 ⟨rfl, rfl⟩
          exact ⟨_, rfl, Below.refl _ _, rfl⟩
      · have e16 := (f 16 rfl (by decide)).trans (hq 4 16 rfl rfl)
        have e18 := (f 18 rfl (by decide)).trans (hq 6 18 rfl rfl)
        refine op_val (w' := w') ?_ (Below.refl _ _) rfl
        rw [← hev]
        simp [execOp, e16, e18, go_sem]
        intro h; omega
      · have e19 := (f 19 rfl (by decide)).trans (hq 7 19 rfl rfl)
        obtain ⟨q0, q1, q2, q3⟩ := HC.out w' hbW
        refine op_val (w' := w') ?_ (Below.refl _ _) rfl
        rw [← hev]
        simp [execOp, e19, go_sem, q0, q1, q2, q3]
      · have e20 := (f 20 rfl (by decide)).trans (hq 8 20 rfl rfl)
        refine op_val (v := .slice (some ⟨w'.heap.size, 0, none⟩) 1 1) (w' := w'.alloc (.cells #[.string cv.name, .int .i64 cv.lo, .int .i64 cv.hi, .int .i64 cv.ini] 32)) ?_ ((Below.refl _ _).alloc (Nat.le_refl _) _) ⟨_, rfl, heap_new _ _⟩
        rw [← hev]
        simp [execOp, e20, go_sem]
    · intro q w' hb hq
      have hbW := hb23.trans (hb.mono hb23.size)
      have f : ∀ q t, [12, 13, 14, 15, 16, 17, 18, 19, 20, 21, 22, 23].contains t = true → t < 66 → (frm a0 [12, 13, 14, 15, 16, 17, 18, 19, 20, 21, 22, 23] q).eval (.tmp t) = q t := fun q t h1 h2 => frm_in h1 (by rw [hsz]; exact h2)
      have ho2 : w'.ownsRow W3.heap.size 32 4 (q 14) 2 (vflat [a, b]) := hq 2 14 (by decide) rfl
      obtain ⟨g, hg21, hgb⟩ := hq 9 21 (by decide) rfl
      show wpOps Tryd.prog _ _ [10, 11, 12] _ _
      rw [wpOps_cons]
      refine op_at rfl rfl ?_
      refine wp_append_lies _ (.tmp 14) (.tmp 21) 26 rfl W3.heap.size 32 iv _ 4 40 Tryd.underlying26 hiv hv0 hv1 hv2 rfl (by decide) (q 14) 2 (vflat [a, b]) (f q 14 rfl (by decide)) ho2 ⟨g, 0, none⟩ 1 1 [.string cv.name, .int .i64 cv.lo, .int .i64 cv.hi, .int .i64 cv.ini] ((f q 21 rfl (by decide)).trans hg21) rfl (World.news_of_block hgb) (by intro u hu; simp at hu; rcases hu with rfl | rfl | rfl | rfl <;> rfl) (by decide) (by decide) (by decide) hb.size _ rfl ?_
      intro g6 cp6 w6 ho6 hg6 hat6 hgl6
      have hb6 : Below W3.heap.size W3 w6 := hb.grown hg6 hb.size (fun z hz => (ho2.lt z hz).1)
      have k60 : w6.cell? ⟨W2.heap.size, 0, none⟩ = some (.slice (some ⟨p, off, none⟩) 2 cap) := (hb6.cell (p := ⟨W2.heap.size, 0, none⟩) hXl).trans hX0
      have k61 : w6.cell? ⟨W2.heap.size, 1, none⟩ = some (.slice ro rn rc) := (hb6.cell (p := ⟨W2.heap.size, 1, none⟩) hXl).trans hX1
      have kf6 : w6.frozen? ⟨W2.heap.size, 0, none⟩ = false := (hb6.frozen (p := ⟨W2.heap.size, 0, none⟩) hXl).trans hXf
      rw [late_put 22 rfl rfl, wpOps_cons]
      refine op_at rfl rfl ?_
      have e6 : (frm a0 [12, 13, 14, 15, 16, 17, 18, 19, 20, 21, 22, 23] (setV q 22 (.slice (some ⟨g6, 0, none⟩) 3 cp6))).eval (.tmp 6) = .pointer (some ⟨W2.heap.size, 0, none⟩) := (frm_out rfl).trans a6
      refine op_run (w' := w6) (v := .pointer (some ⟨W2.heap.size, 0, none⟩)) ?_ ?_
      · generalize (frm a0 [12, 13, 14, 15, 16, 17, 18, 19, 20, 21, 22, 23] (setV q 22 (.slice (some ⟨g6, 0, none⟩) 3 cp6))).eval = ev at e6 ⊢
        simp [execOp, e6, go_sem]
      rw [late_put 23 rfl rfl, wpOps_cons]
      refine op_at rfl rfl ?_
      have e22 := f (setV (setV q 22 (.slice (some ⟨g6, 0, none⟩) 3 cp6)) 23 (.pointer (some ⟨W2.heap.size, 0, none⟩))) 22 rfl (by decide)
      have e23 := f (setV (setV q 22 (.slice (some ⟨g6, 0, none⟩) 3 cp6)) 23 (.pointer (some ⟨W2.heap.size, 0, none⟩))) 23 rfl (by decide)
      rw [setV_same] at e23
      rw [setV_other (by decide), setV_same] at e22
      refine op_skip (w' := w6.setCell ⟨W2.heap.size, 0, none⟩ (.slice (some ⟨g6, 0, none⟩) 3 cp6)) rfl ?_ ?_
      · generalize (frm a0 [12, 13, 14, 15, 16, 17, 18, 19, 20, 21, 22, 23] (setV (setV q 22 (.slice (some ⟨g6, 0, none⟩) 3 cp6)) 23 (.pointer (some ⟨W2.heap.size, 0, none⟩)))).eval = ev at e22 e23 ⊢
        simp [execOp, e22, e23, go_sem, k60, kf6]
      show K' _ _
      refine hK' _ _ ?_
      rw [← ha0]
      go_meet
      obtain ⟨hg6l, hcp6, va0, va1, va2⟩ := vars_three (c := cv) ho6
      have hne : g6 ≠ W2.heap.size := by
        rcases hat6 with hat6 | hat6
        · have := (ho2.lt g6 hat6).1; omega
        · have := hb.size; omega
      have hs6 : g6 < (w6.setCell ⟨W2.heap.size, 0, none⟩ (.slice (some ⟨g6, 0, none⟩) 3 cp6)).heap.size := by simpa using hg6l
      refine ⟨g6, cp6, cv, hcv, three_vars hs6 hcp6 (va0.setOther hne _) (va1.setOther hne _) (va2.setOther hne _), World.cell?_setCell_same w6 ⟨W2.heap.size, 0, none⟩ _ k60, ?_, ?_, ?_⟩
      · rw [World.cell?_setCell_other _ _ _ _ (by simp)]; exact k61
      · have := hb6.size; simp; omega
      · exact (hb23.trans (hb6.mono hb23.size)).setCell (Nat.le_refl _) _
  case rest =>
    obtain ⟨wa, hwa⟩ : ∃ wa, wa = wc := ⟨_, rfl⟩
    rw [← hwa] at hcut ⊢
    clear hwa
    obtain ⟨g3, cp3, c3, hc3, hV3, x0, x1, hXl3, hb3⟩ := hcut.out
    clear hcut hX0 hX1 hXf hb23 HV HC HVF hpx hiv hv0 hv1 hv2 hcv z3 z4
    obtain ⟨m0, m1⟩ := (HK.out wa hb3).2
    obtain ⟨iR, hiR, r0, r1, r2⟩ := info_parts infoRule
    obtain ⟨X, hXX⟩ : ∃ X, X = W2.heap.size := ⟨_, rfl⟩
    rw [← hXX] at x0 x1 hXl3 ⊢
    have HXX : Hid (X = W2.heap.size) := hXX
    clear hXX
    go_upto_region 5 with fail
    have hb5 : Below wa.heap.size wa (wa.alloc (.cells #[.slice (some ⟨p, off, none⟩) 2 cap, .slice ro rn rc] 29)) := (Below.refl _ _).alloc (Nat.le_refl _) _
    have y0 : (wa.alloc (.cells #[.slice (some ⟨p, off, none⟩) 2 cap, .slice ro rn rc] 29)).cell? ⟨wa.heap.size, 0, none⟩ = some (.slice (some ⟨p, off, none⟩) 2 cap) := by simp [go_sem]
    have y1 : (wa.alloc (.cells #[.slice (some ⟨p, off, none⟩) 2 cap, .slice ro rn rc] 29)).cell? ⟨wa.heap.size, 1, none⟩ = some (.slice ro rn rc) := by simp [go_sem]
    have yf : (wa.alloc (.cells #[.slice (some ⟨p, off, none⟩) 2 cap, .slice ro rn rc] 29)).frozen? ⟨wa.heap.size, 1, none⟩ = false := by simp [go_sem]
    have yl : wa.heap.size < (wa.alloc (.cells #[.slice (some ⟨p, off, none⟩) 2 cap, .slice ro rn rc] 29)).heap.size := by simp
    generalize wa.alloc (.cells #[.slice (some ⟨p, off, none⟩) 2 cap, .slice ro rn rc] 29) = W5 at hb5 y0 y1 yf yl ⊢
    have hb25 : Below W2.heap.size W2 W5 := hb3.trans (hb5.mono hb3.size)
    obtain ⟨m50, m51⟩ := (HK.out W5 hb25).2
    obtain ⟨Y, hYY⟩ : ∃ Y, Y = wa.heap.size := ⟨_, rfl⟩
    rw [← hYY] at y0 y1 yf yl ⊢
    have hYM : ¬ Y = M := by have := hb3.size; omega
    have HYY : Hid (Y = wa.heap.size) := hYY
    clear hYY
    go_cut [] (fun wx => Hid (MtR wa Y (.slice (some ⟨p, off, none⟩) 2 cap) (rules ++ [⟨[(11, 0)], [⟨1, [(1, 0)]⟩, ⟨1, [(1, 1)]⟩]⟩]) wx))
    case first =>
      have tk1 := True.intro
      have tk2 := True.intro
      go_wp2_with (first
        | (at_builtin; refine wpList_copy rfl (.const (.slice none 0 0)) (.tmp 26) 27 rfl W5.heap.size 42 iR _ 2 48 Tryd.underlying27 hiR r0 r1 r2 rfl (by decide) rfl ro rn rc (ruFlat l) rfl HRO.out HLL.out (HCE.out _ hb25) HL.out.one (by unfold maxLen; omega) (by omega) (Nat.le_refl _) ?_; intro v6 w6 ho6 hg6; obtain ⟨o6, p6, rfl⟩ := owns_slice ho6; have hb6 := below_of_grown hg6)
        | (clear tk1; go_at_call 7; refine (num_is 0 _).mono ?_; rintro e w7 ⟨rfl, rfl⟩)
        | (clear tk2; go_at_call 7; refine (num_is 1 _).mono ?_; rintro e w7 ⟨rfl, rfl⟩)
        | (at_builtin; refine wpList_append_lies _ rfl (.tmp 27) (.tmp 36) 27 rfl W5.heap.size 42 iR _ 2 48 Tryd.underlying27 hiR r0 r1 r2 rfl (by decide) (.slice o6 rn p6) rn (ruFlat l) rfl (mtU_owns ho6) ⟨w6.heap.size + 1 + 1 + 1 + 1, 0, none⟩ 1 1 [.slice (some ⟨w6.heap.size, 0, none⟩) 1 1, .slice (some ⟨w6.heap.size + 1 + 1 + 1, 0, none⟩) 2 2] rfl rfl (mtU_news w6) (by intro u hu; simp at hu; rcases hu with rfl | rfl <;> rfl) (by decide) (by unfold maxLen; omega) (by omega) (Nat.le_trans hb6.size (mtU_size w6)) _ rfl ?_; intro g8 cp8 w8 ho8 hg8 hat8 hgl8; have HG8 : Hid ((mtU w6).grownBy w8 (Value.slice o6 rn p6).ownBlock) := hg8; have hb8 : Below W5.heap.size W5 w8 := (hb6.trans ((mtU_below w6).mono hb6.size)).grown HG8.out (Nat.le_trans hb6.size (mtU_size w6)) (fun z hz => (ho6.lt z hz).1); have k81 : w8.cell? ⟨Y, 1, none⟩ = some (.slice ro rn rc) := (hb8.cell (p := ⟨Y, 1, none⟩) yl).trans y1; have kf8 : w8.frozen? ⟨Y, 1, none⟩ = false := (hb8.frozen (p := ⟨Y, 1, none⟩) yl).trans yf))
      go_meet
      exact mt_stored hb5 hb8 (HL.out.below hb3) (mtU_lies (mt_far ho6 HG8.out (Nat.lt_of_lt_of_le yl hb6.size))) HRL.out ho8 ((hb8.cell (p := ⟨Y, 0, none⟩) yl).trans y0) k81 (by rw [HYY.out]; exact Nat.le_refl _) yl
    case rest =>
      obtain ⟨wb, hwb⟩ : ∃ wb, wb = wc := ⟨_, rfl⟩
      rw [← hwb] at hcut ⊢
      clear hwb
      obtain ⟨yo, yc, hRY, yb0, yb1, hYl, hbY⟩ := hcut.out
      have hb2b : Below W2.heap.size W2 wb := hb3.trans (hbY.mono hb3.size)
      obtain ⟨n0, n1⟩ := (HK.out wb hb2b).2
      clear hcut y0 y1 yf yl m50 m51 hb25 hb5 m0 m1
      go_upto_region 7 with fail
      have hb7 : Below wb.heap.size wb (wb.alloc (.cells #[.slice (some ⟨p, off, none⟩) 2 cap, .slice ro rn rc] 29)) := (Below.refl _ _).alloc (Nat.le_refl _) _
      have y0 : (wb.alloc (.cells #[.slice (some ⟨p, off, none⟩) 2 cap, .slice ro rn rc] 29)).cell? ⟨wb.heap.size, 0, none⟩ = some (.slice (some ⟨p, off, none⟩) 2 cap) := by simp [go_sem]
      have y1 : (wb.alloc (.cells #[.slice (some ⟨p, off, none⟩) 2 cap, .slice ro rn rc] 29)).cell? ⟨wb.heap.size, 1, none⟩ = some (.slice ro rn rc) := by simp [go_sem]
      have yf : (wb.alloc (.cells #[.slice (some ⟨p, off, none⟩) 2 cap, .slice ro rn rc] 29)).frozen? ⟨wb.heap.size, 1, none⟩ = false := by simp [go_sem]
      have yl : wb.heap.size < (wb.alloc (.cells #[.slice (some ⟨p, off, none⟩) 2 cap, .slice ro rn rc] 29)).heap.size := by simp
      generalize wb.alloc (.cells #[.slice (some ⟨p, off, none⟩) 2 cap, .slice ro rn rc] 29) = W7 at hb7 y0 y1 yf yl ⊢
      have hb27 : Below W2.heap.size W2 W7 := hb2b.trans (hb7.mono hb2b.size)
      obtain ⟨m70, m71⟩ := (HK.out W7 hb27).2
      obtain ⟨Z, hZZ⟩ : ∃ Z, Z = wb.heap.size := ⟨_, rfl⟩
      rw [← hZZ] at y0 y1 yf yl ⊢
      have hZM : ¬ Z = M := by have := hb2b.size; omega
      have HZZ : Hid (Z = wb.heap.size) := hZZ
      clear hZZ
      go_cut [] (fun wx => Hid (MtR wb Z (.slice (some ⟨p, off, none⟩) 2 cap) (rules ++ [⟨[(1, 1)], []⟩]) wx))
      case first =>
        go_wp2_with (first
          | (at_builtin; refine wpList_copy rfl (.const (.slice none 0 0)) (.tmp 41) 27 rfl W7.heap.size 42 iR _ 2 48 Tryd.underlying27 hiR r0 r1 r2 rfl (by decide) rfl ro rn rc (ruFlat l) rfl HRO.out HLL.out (HCE.out _ hb27) HL.out.one (by unfold maxLen; omega) (by omega) (Nat.le_refl _) ?_; intro v6 w6 ho6 hg6; obtain ⟨o6, p6, rfl⟩ := owns_slice ho6; have hb6 := below_of_grown hg6)
          | (go_at_call 7; refine (num_is 1 _).mono ?_; rintro e w7 ⟨rfl, rfl⟩)
          | (at_builtin; refine wpList_append_lies _ rfl (.tmp 42) (.tmp 45) 27 rfl W7.heap.size 42 iR _ 2 48 Tryd.underlying27 hiR r0 r1 r2 rfl (by decide) (.slice o6 rn p6) rn (ruFlat l) rfl (mtV_owns ho6) ⟨w6.heap.size + 1, 0, none⟩ 1 1 [.slice (some ⟨w6.heap.size, 0, none⟩) 1 1, .slice none 0 0] rfl rfl (mtV_news w6) (by intro u hu; simp at hu; rcases hu with rfl | rfl <;> rfl) (by decide) (by unfold maxLen; omega) (by omega) (Nat.le_trans hb6.size (mtV_size w6)) _ rfl ?_; intro g8 cp8 w8 ho8 hg8 hat8 hgl8; have HG8 : Hid ((mtV w6).grownBy w8 (Value.slice o6 rn p6).ownBlock) := hg8; have hb8 : Below W7.heap.size W7 w8 := (hb6.trans ((mtV_below w6).mono hb6.size)).grown HG8.out (Nat.le_trans hb6.size (mtV_size w6)) (fun z hz => (ho6.lt z hz).1); have k81 : w8.cell? ⟨Z, 1, none⟩ = some (.slice ro rn rc) := (hb8.cell (p := ⟨Z, 1, none⟩) yl).trans y1; have kf8 : w8.frozen? ⟨Z, 1, none⟩ = false := (hb8.frozen (p := ⟨Z, 1, none⟩) yl).trans yf))
        go_meet
        exact mt_stored hb7 hb8 (HL.out.below hb2b) (mtV_lies (mt_far ho6 HG8.out (Nat.lt_of_lt_of_le yl hb6.size))) HRL.out ho8 ((hb8.cell (p := ⟨Z, 0, none⟩) yl).trans y0) k81 (by rw [HZZ.out]; exact Nat.le_refl _) yl
      case rest =>
        obtain ⟨wd, hwd⟩ : ∃ wd, wd = wc := ⟨_, rfl⟩
        rw [← hwd] at hcut ⊢
        clear hwd
        obtain ⟨zo, zc, hRZ, zd0, zd1, hZl, hbZ⟩ := hcut.out
        clear hcut y0 y1 yf yl m70 m71 hb27 hb7 n0 n1
        have hb2d : Below W2.heap.size W2 wd := hb2b.trans (hbZ.mono hb2b.size)
        have hbad : Below wa.heap.size wa wd := hbY.trans (hbZ.mono hbY.size)
        have hG' := hG
        have hle := HLE.out.1
        have HC1 : Hid (∀ w', Below wd.heap.size wd w' → Calls Tryd.prog 8 #[.agg #[.slice (some ⟨p, off, none⟩) 2 cap, .slice ro rn rc]] w' fun e w2 => e = .returned (.int .i64 0) ∧ Below w'.heap.size w' w2) := fun w' hb => by
          obtain ⟨⟨q0, q1, rules', q2, q3, q4⟩, _⟩ := HK.out w' (hb2d.trans (hb.mono hb2d.size))
          have := mcheck_any _ _ ⟨_, rules'⟩ w' q0 q1 q2
          rwa [hG.mcode (Nat.le_trans q3 (by decide)) q4] at this
        have HC2 : Hid (∀ w', Below wd.heap.size wd w' → Calls Tryd.prog 8 #[.agg #[.slice (some ⟨g3, 0, none⟩) 3 cp3, .slice ro rn rc]] w' fun e w2 => e = .returned (.int .i64 7) ∧ Below w'.heap.size w' w2) := fun w' hb => by
          obtain ⟨⟨q0, q1, q2⟩, _⟩ := HK.out w' (hb2d.trans (hb.mono hb2d.size))
          exact kcheckX hG hc3 q0 q1 (hV3.below (hbad.trans (hb.mono hbad.size))) q2.rules
        have HC3 : Hid (∀ w', Below wd.heap.size wd w' → Calls Tryd.prog 8 #[.agg #[.slice (some ⟨p, off, none⟩) 2 cap, .slice yo (rules ++ [(⟨[(11, 0)], [⟨1, [(1, 0)]⟩, ⟨1, [(1, 1)]⟩]⟩ : Ru)]).length yc]] w' fun e w2 => e = .returned (.int .i64 7) ∧ Below w'.heap.size w' w2) := fun w' hb => by
          obtain ⟨⟨q0, q1, rules', q2, q3, q4⟩, _⟩ := HK.out w' (hb2d.trans (hb.mono hb2d.size))
          have := mcheck_any _ _ ⟨_, rules ++ [⟨[(11, 0)], [⟨1, [(1, 0)]⟩, ⟨1, [(1, 1)]⟩]⟩]⟩ w' q0 q1 ⟨q2.1, hRY.below (hbZ.trans (hb.mono hbZ.size))⟩
          rwa [gv_mcodeR hG hle HLE.out.2 (by rw [rule_twice]; decide), rule_twice] at this
        have HC4 : Hid (∀ w', Below wd.heap.size wd w' → Calls Tryd.prog 8 #[.agg #[.slice (some ⟨p, off, none⟩) 2 cap, .slice zo (rules ++ [(⟨[(1, 1)], []⟩ : Ru)]).length zc]] w' fun e w2 => e = .returned (.int .i64 5) ∧ Below w'.heap.size w' w2) := fun w' hb => by
          obtain ⟨⟨q0, q1, rules', q2, q3, q4⟩, _⟩ := HK.out w' (hb2d.trans (hb.mono hb2d.size))
          have := mcheck_any _ _ ⟨_, rules ++ [⟨[(1, 1)], []⟩]⟩ w' q0 q1 ⟨q2.1, hRZ.below hb⟩
          rwa [gv_mcodeR hG hle HLE.out.2 (by rw [rule_num]; decide), rule_num] at this
        have HX : Hid (∀ w', Below wd.heap.size wd w' → (w'.cell? ⟨M, 0, none⟩ = some (.slice (some ⟨p, off, none⟩) 2 cap) ∧ w'.cell? ⟨M, 1, none⟩ = some (.slice ro rn rc)) ∧ (w'.cell? ⟨X, 0, none⟩ = some (.slice (some ⟨g3, 0, none⟩) 3 cp3) ∧ w'.cell? ⟨X, 1, none⟩ = some (.slice ro rn rc)) ∧ (w'.cell? ⟨Y, 0, none⟩ = some (.slice (some ⟨p, off, none⟩) 2 cap) ∧ w'.cell? ⟨Y, 1, none⟩ = some (.slice yo (rules ++ [(⟨[(11, 0)], [⟨1, [(1, 0)]⟩, ⟨1, [(1, 1)]⟩]⟩ : Ru)]).length yc)) ∧ (w'.cell? ⟨Z, 0, none⟩ = some (.slice (some ⟨p, off, none⟩) 2 cap) ∧ w'.cell? ⟨Z, 1, none⟩ = some (.slice zo (rules ++ [(⟨[(1, 1)], []⟩ : Ru)]).length zc))) := fun w' hb => by
          have ha := hbad.trans (hb.mono hbad.size)
          have hb' := hbZ.trans (hb.mono hbZ.size)
          exact ⟨(HK.out w' (hb2d.trans (hb.mono hb2d.size))).2, ⟨(ha.cell (p := ⟨X, 0, none⟩) hXl3).trans x0, (ha.cell (p := ⟨X, 1, none⟩) hXl3).trans x1⟩, ⟨(hb'.cell (p := ⟨Y, 0, none⟩) hYl).trans yb0, (hb'.cell (p := ⟨Y, 1, none⟩) hYl).trans yb1⟩, (hb.cell (p := ⟨Z, 0, none⟩) hZl).trans zd0, (hb.cell (p := ⟨Z, 1, none⟩) hZl).trans zd1⟩
        have HBF : Hid (Below w.heap.size w wd) := HBW.out.trans (hb2d.mono HBW.out.size)
        clear hRZ hRY hV3 zd0 zd1 yb0 yb1 x0 x1 hG hG' hc3 hle hbad hb2d hbZ hbY hb2b hb3 hXl3 hYl hZl HZZ HYY HXX HK HL HLE HRL HLL HCE HRO hiR r0 r1 r2
        generalize (rules ++ [(⟨[(11, 0)], [⟨1, [(1, 0)]⟩, ⟨1, [(1, 1)]⟩]⟩ : Ru)]).length = yn at HC3 HX
        generalize (rules ++ [(⟨[(1, 1)], []⟩ : Ru)]).length = zn at HC4 HX
        obtain ⟨⟨i0, i1⟩, _, _, _⟩ := HX.out wd (Below.refl _ _)
        have hk1 := HC1.out wd (Below.refl _ _)
        have tk1 := True.intro
        have tk2 := True.intro
        have tk3 := True.intro
        have tk4 := True.intro
        go_wp2_with (first
          | (clear tk1; go_at_call 8; refine hk1.mono ?_; rintro e v1 ⟨rfl, hv1⟩; obtain ⟨_, ⟨j0, j1⟩, _, _⟩ := HX.out v1 hv1; have hk2 := HC2.out v1 hv1)
          | (clear tk2; go_at_call 8; refine hk2.mono ?_; rintro e v2 ⟨rfl, hv2'⟩; have hv2 := hv1.trans (hv2'.mono hv1.size); obtain ⟨_, _, ⟨l0, l1⟩, _⟩ := HX.out v2 hv2; have hk3 := HC3.out v2 hv2)
          | (clear tk3; go_at_call 8; refine hk3.mono ?_; rintro e v3 ⟨rfl, hv3'⟩; have hv3 := hv2.trans (hv3'.mono hv2.size); obtain ⟨_, _, _, o0, o1⟩ := HX.out v3 hv3; have hk4 := HC4.out v3 hv3)
          | (clear tk4; go_at_call 8; refine hk4.mono ?_; rintro e v4 ⟨rfl, hv4'⟩; have hv4 := hv3.trans (hv4'.mono hv3.size)))
        go_ret
        exact ⟨by first | rfl | simp, HBF.out.trans (hv4.mono HBF.out.size)⟩
end Go.Proofs.YtipleacacfejcaaDoor
