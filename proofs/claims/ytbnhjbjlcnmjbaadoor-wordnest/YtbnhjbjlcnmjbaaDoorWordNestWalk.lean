import Derived.Test.YtbnhjbjlcnmjbaaDoorKeepHolds2
import Derived.Test.YtbnhjbjlcnmjbaaDoorLawOps
import Derived.Test.YtbnhjbjlcnmjbaaDoorSpreadM

import Derived.Deep.RegionHeld3
import Derived.Deep.Cut
import Derived.Deep.CutBlock
import Derived.Deep.CutRange
import Derived.Deep.DeepCutAuto
namespace Go.Proofs.YtbnhjbjlcnmjbaaDoor
open Go.ChangeShapes Go.WideShapes Go.ChangeAt Go.RowKit Go.Deep
open Terms

/-- what the operations leave that put the laws together. -/
def wordNestP (xv yv : Value) (x y : List (Int × Int)) : Nat → Value → World → Prop
  | 0, v, _ => v = xv
  | 1, v, w => One w v x
  | 2, v, w => OpsV w v (((18 : Int), (0 : Int)) :: x)
  | 3, v, w => One w v (((18 : Int), (0 : Int)) :: x)
  | 4, v, w => OpsV w v (((18 : Int), (0 : Int)) :: (((18 : Int), (0 : Int)) :: x))
  | 5, v, _ => v = xv
  | 6, v, w => One w v x
  | 7, v, w => OpsV w v (((18 : Int), (0 : Int)) :: x)
  | 8, v, w => Pair w v (((18 : Int), (0 : Int)) :: (((18 : Int), (0 : Int)) :: x)) (((18 : Int), (0 : Int)) :: x)
  | 9, v, _ => v = xv
  | 10, v, w => One w v x
  | 11, v, w => OpsV w v (((17 : Int), (0 : Int)) :: x)
  | 12, v, w => One w v (((17 : Int), (0 : Int)) :: x)
  | 13, v, w => OpsV w v (((17 : Int), (0 : Int)) :: (((17 : Int), (0 : Int)) :: x))
  | 14, v, _ => v = xv
  | 15, v, w => One w v x
  | 16, v, w => OpsV w v (((17 : Int), (0 : Int)) :: x)
  | 17, v, w => Pair w v (((17 : Int), (0 : Int)) :: (((17 : Int), (0 : Int)) :: x)) (((17 : Int), (0 : Int)) :: x)
  | 18, v, _ => v = xv
  | 19, v, _ => v = xv
  | 20, v, _ => v = yv
  | 21, v, w => Two w v x y
  | 22, v, w => OpsV w v (((15 : Int), (0 : Int)) :: (x ++ y))
  | 23, v, w => Two w v x (((15 : Int), (0 : Int)) :: (x ++ y))
  | 24, v, w => OpsV w v (((15 : Int), (0 : Int)) :: (x ++ (((15 : Int), (0 : Int)) :: (x ++ y))))
  | 25, v, _ => v = xv
  | 26, v, _ => v = yv
  | 27, v, w => Two w v x y
  | 28, v, w => OpsV w v (((15 : Int), (0 : Int)) :: (x ++ y))
  | 29, v, w => Pair w v (((15 : Int), (0 : Int)) :: (x ++ (((15 : Int), (0 : Int)) :: (x ++ y)))) (((15 : Int), (0 : Int)) :: (x ++ y))
  | 30, v, _ => v = xv
  | 31, v, _ => v = xv
  | 32, v, _ => v = yv
  | 33, v, w => Two w v x y
  | 34, v, w => OpsV w v (((16 : Int), (0 : Int)) :: (x ++ y))
  | 35, v, w => Two w v x (((16 : Int), (0 : Int)) :: (x ++ y))
  | 36, v, w => OpsV w v (((16 : Int), (0 : Int)) :: (x ++ (((16 : Int), (0 : Int)) :: (x ++ y))))
  | 37, v, _ => v = xv
  | 38, v, _ => v = yv
  | 39, v, w => Two w v x y
  | 40, v, w => OpsV w v (((16 : Int), (0 : Int)) :: (x ++ y))
  | 41, v, w => Pair w v (((16 : Int), (0 : Int)) :: (x ++ (((16 : Int), (0 : Int)) :: (x ++ y)))) (((16 : Int), (0 : Int)) :: (x ++ y))
  | 42, v, _ => v = xv
  | 43, v, w => One w v x
  | 44, v, w => OpsV w v (((17 : Int), (0 : Int)) :: x)
  | 45, v, w => One w v (((17 : Int), (0 : Int)) :: x)
  | 46, v, w => OpsV w v (((18 : Int), (0 : Int)) :: (((17 : Int), (0 : Int)) :: x))
  | 47, v, w => One w v (((18 : Int), (0 : Int)) :: (((17 : Int), (0 : Int)) :: x))
  | 48, v, w => OpsV w v (((17 : Int), (0 : Int)) :: (((18 : Int), (0 : Int)) :: (((17 : Int), (0 : Int)) :: x)))
  | 49, v, _ => v = xv
  | 50, v, w => One w v x
  | 51, v, w => OpsV w v (((17 : Int), (0 : Int)) :: x)
  | 52, v, w => One w v (((17 : Int), (0 : Int)) :: x)
  | 53, v, w => OpsV w v (((18 : Int), (0 : Int)) :: (((17 : Int), (0 : Int)) :: x))
  | 54, v, w => Pair w v (((17 : Int), (0 : Int)) :: (((18 : Int), (0 : Int)) :: (((17 : Int), (0 : Int)) :: x))) (((18 : Int), (0 : Int)) :: (((17 : Int), (0 : Int)) :: x))
  | 55, v, _ => v = xv
  | 56, v, w => One w v x
  | 57, v, w => OpsV w v (((18 : Int), (0 : Int)) :: x)
  | 58, v, w => One w v (((18 : Int), (0 : Int)) :: x)
  | 59, v, w => OpsV w v (((17 : Int), (0 : Int)) :: (((18 : Int), (0 : Int)) :: x))
  | 60, v, w => One w v (((17 : Int), (0 : Int)) :: (((18 : Int), (0 : Int)) :: x))
  | 61, v, w => OpsV w v (((18 : Int), (0 : Int)) :: (((17 : Int), (0 : Int)) :: (((18 : Int), (0 : Int)) :: x)))
  | 62, v, _ => v = xv
  | 63, v, w => One w v x
  | 64, v, w => OpsV w v (((18 : Int), (0 : Int)) :: x)
  | 65, v, w => One w v (((18 : Int), (0 : Int)) :: x)
  | 66, v, w => OpsV w v (((17 : Int), (0 : Int)) :: (((18 : Int), (0 : Int)) :: x))
  | 67, v, w => Pair w v (((18 : Int), (0 : Int)) :: (((17 : Int), (0 : Int)) :: (((18 : Int), (0 : Int)) :: x))) (((17 : Int), (0 : Int)) :: (((18 : Int), (0 : Int)) :: x))
  | 68, v, w => LawsV w v [((((18 : Int), (0 : Int)) :: (((18 : Int), (0 : Int)) :: x)), (((18 : Int), (0 : Int)) :: x)), ((((17 : Int), (0 : Int)) :: (((17 : Int), (0 : Int)) :: x)), (((17 : Int), (0 : Int)) :: x)), ((((15 : Int), (0 : Int)) :: (x ++ (((15 : Int), (0 : Int)) :: (x ++ y)))), (((15 : Int), (0 : Int)) :: (x ++ y))), ((((16 : Int), (0 : Int)) :: (x ++ (((16 : Int), (0 : Int)) :: (x ++ y)))), (((16 : Int), (0 : Int)) :: (x ++ y))), ((((17 : Int), (0 : Int)) :: (((18 : Int), (0 : Int)) :: (((17 : Int), (0 : Int)) :: x))), (((18 : Int), (0 : Int)) :: (((17 : Int), (0 : Int)) :: x))), ((((18 : Int), (0 : Int)) :: (((17 : Int), (0 : Int)) :: (((18 : Int), (0 : Int)) :: x))), (((17 : Int), (0 : Int)) :: (((18 : Int), (0 : Int)) :: x)))]
  | _, _, _ => True
theorem wordNest_lt : ∀ i, i < 69 → i = 0 ∨ i = 1 ∨ i = 2 ∨ i = 3 ∨ i = 4 ∨ i = 5 ∨ i = 6 ∨ i = 7 ∨ i = 8 ∨ i = 9 ∨ i = 10 ∨ i = 11 ∨ i = 12 ∨ i = 13 ∨ i = 14 ∨ i = 15 ∨ i = 16 ∨ i = 17 ∨ i = 18 ∨ i = 19 ∨ i = 20 ∨ i = 21 ∨ i = 22 ∨ i = 23 ∨ i = 24 ∨ i = 25 ∨ i = 26 ∨ i = 27 ∨ i = 28 ∨ i = 29 ∨ i = 30 ∨ i = 31 ∨ i = 32 ∨ i = 33 ∨ i = 34 ∨ i = 35 ∨ i = 36 ∨ i = 37 ∨ i = 38 ∨ i = 39 ∨ i = 40 ∨ i = 41 ∨ i = 42 ∨ i = 43 ∨ i = 44 ∨ i = 45 ∨ i = 46 ∨ i = 47 ∨ i = 48 ∨ i = 49 ∨ i = 50 ∨ i = 51 ∨ i = 52 ∨ i = 53 ∨ i = 54 ∨ i = 55 ∨ i = 56 ∨ i = 57 ∨ i = 58 ∨ i = 59 ∨ i = 60 ∨ i = 61 ∨ i = 62 ∨ i = 63 ∨ i = 64 ∨ i = 65 ∨ i = 66 ∨ i = 67 ∨ i = 68 := by intro i hi; omega
set_option maxHeartbeats 3200000 in
set_option maxRecDepth 20000 in
theorem wordNestP_stable (xv yv : Value) (x y : List (Int × Int)) (i : Nat) (v : Value) (w w' : World) (hlt : i < 69) (h : wordNestP xv yv x y i v w) (hb : Below w.heap.size w w') : wordNestP xv yv x y i v w' := by
  rcases wordNest_lt i hlt with rfl | rfl | rfl | rfl | rfl | rfl | rfl | rfl | rfl | rfl | rfl | rfl | rfl | rfl | rfl | rfl | rfl | rfl | rfl | rfl | rfl | rfl | rfl | rfl | rfl | rfl | rfl | rfl | rfl | rfl | rfl | rfl | rfl | rfl | rfl | rfl | rfl | rfl | rfl | rfl | rfl | rfl | rfl | rfl | rfl | rfl | rfl | rfl | rfl | rfl | rfl | rfl | rfl | rfl | rfl | rfl | rfl | rfl | rfl | rfl | rfl | rfl | rfl | rfl | rfl | rfl | rfl | rfl | rfl
  · exact h
  · exact One.below (w := w) h hb
  · exact OpsV.below (w := w) h hb
  · exact One.below (w := w) h hb
  · exact OpsV.below (w := w) h hb
  · exact h
  · exact One.below (w := w) h hb
  · exact OpsV.below (w := w) h hb
  · exact Pair.below (w := w) h hb
  · exact h
  · exact One.below (w := w) h hb
  · exact OpsV.below (w := w) h hb
  · exact One.below (w := w) h hb
  · exact OpsV.below (w := w) h hb
  · exact h
  · exact One.below (w := w) h hb
  · exact OpsV.below (w := w) h hb
  · exact Pair.below (w := w) h hb
  · exact h
  · exact h
  · exact h
  · exact Two.below (w := w) h hb
  · exact OpsV.below (w := w) h hb
  · exact Two.below (w := w) h hb
  · exact OpsV.below (w := w) h hb
  · exact h
  · exact h
  · exact Two.below (w := w) h hb
  · exact OpsV.below (w := w) h hb
  · exact Pair.below (w := w) h hb
  · exact h
  · exact h
  · exact h
  · exact Two.below (w := w) h hb
  · exact OpsV.below (w := w) h hb
  · exact Two.below (w := w) h hb
  · exact OpsV.below (w := w) h hb
  · exact h
  · exact h
  · exact Two.below (w := w) h hb
  · exact OpsV.below (w := w) h hb
  · exact Pair.below (w := w) h hb
  · exact h
  · exact One.below (w := w) h hb
  · exact OpsV.below (w := w) h hb
  · exact One.below (w := w) h hb
  · exact OpsV.below (w := w) h hb
  · exact One.below (w := w) h hb
  · exact OpsV.below (w := w) h hb
  · exact h
  · exact One.below (w := w) h hb
  · exact OpsV.below (w := w) h hb
  · exact One.below (w := w) h hb
  · exact OpsV.below (w := w) h hb
  · exact Pair.below (w := w) h hb
  · exact h
  · exact One.below (w := w) h hb
  · exact OpsV.below (w := w) h hb
  · exact One.below (w := w) h hb
  · exact OpsV.below (w := w) h hb
  · exact One.below (w := w) h hb
  · exact OpsV.below (w := w) h hb
  · exact h
  · exact One.below (w := w) h hb
  · exact OpsV.below (w := w) h hb
  · exact One.below (w := w) h hb
  · exact OpsV.below (w := w) h hb
  · exact Pair.below (w := w) h hb
  · exact LawsV.below (w := w) h hb

set_option maxHeartbeats 6400000 in
set_option maxRecDepth 20000 in
theorem wordNest_walk (xv yv s0 s1 : Value) (xs ys : List (Int × Int)) (a b : List Int) (w : World) (hB : 0 < w.heap.size) (hT : TabAt w) (hRx : Raws w w.heap.size xv xs) (hRy : Raws w w.heap.size yv ys) (hA : IntsR w s0 a) (hBb : IntsR w s1 b) :
    Calls Tryd.prog 6 #[xv, yv, .agg #[s0, s1]] w fun e w' => e = .returned (.bool true) ∧ Below w.heap.size w w' := by
  have HWo : Hid (∀ w1, Below w.heap.size w w1 → Calls Tryd.prog 7 #[.agg #[s0, s1]] w1 fun e w' => ∃ so sc lo lc ss ll, e = .returned (.agg #[.slice so ss.length sc, .slice lo ll.length lc]) ∧ Below w1.heap.size w1 w' ∧ Hid (WOk ss ll) ∧ Hid (LettersV w' (.slice so ss.length sc) ss ∧ LettersV w' (.slice lo ll.length lc) ll)) := fun w1 h => wordFn_any s0 s1 a b w1 (hA.below h) (hBb.below h)
  have HFx : Hid (∀ w1, Below w.heap.size w w1 → Calls Tryd.prog 8 #[xv, .int .i64 3, .int .i64 1] w1 fun e w' => ∃ a c t T m, e = .returned (.slice a t.length c) ∧ Below w1.heap.size w1 w' ∧ Hid (KFor w' (.slice a t.length c) 1 t T m)) := fun w1 h => (formulaFn_any xv xs 3 1 w1 (by omega) (by omega) (by omega) (hRx.up h)).mono fun e w' ⟨a, c, t, m, h1, h2, h3, h4, h5, h6⟩ => by
    obtain ⟨T, hT⟩ := h2.ok
    exact ⟨a, c, t, T, m, h1, h6, h5, hT, h4, h2.ne, h3⟩
  have HFy : Hid (∀ w1, Below w.heap.size w w1 → Calls Tryd.prog 8 #[yv, .int .i64 3, .int .i64 1] w1 fun e w' => ∃ a c t T m, e = .returned (.slice a t.length c) ∧ Below w1.heap.size w1 w' ∧ Hid (KFor w' (.slice a t.length c) 1 t T m)) := fun w1 h => (formulaFn_any yv ys 3 1 w1 (by omega) (by omega) (by omega) (hRy.up h)).mono fun e w' ⟨a, c, t, m, h1, h2, h3, h4, h5, h6⟩ => by
    obtain ⟨T, hT⟩ := h2.ok
    exact ⟨a, c, t, T, m, h1, h6, h5, hT, h4, h2.ne, h3⟩
  obtain ⟨xq0, xq1, xq2, rfl⟩ : ∃ a n c, xv = .slice a n c := by obtain ⟨⟨a, c, h, _⟩, _, _⟩ := hRx; exact ⟨_, _, _, h⟩
  obtain ⟨yq0, yq1, yq2, rfl⟩ : ∃ a n c, yv = .slice a n c := by obtain ⟨⟨a, c, h, _⟩, _, _⟩ := hRy; exact ⟨_, _, _, h⟩
  obtain ⟨e0, e1, e2, rfl⟩ : ∃ a n c, s0 = .slice a n c := by obtain ⟨a, c, h, _⟩ := hA.v; exact ⟨_, _, _, h⟩
  obtain ⟨g0, g1, g2, rfl⟩ : ∃ a n c, s1 = .slice a n c := by obtain ⟨a, c, h, _⟩ := hBb.v; exact ⟨_, _, _, h⟩
  have hA0 : ∀ o, Below w.heap.size w (w.alloc o) := fun o => (Below.refl _ _).alloc (Nat.le_refl _) o
  have HT : Hid (0 < w.heap.size ∧ TabAt w) := ⟨hB, hT⟩
  clear hRx hRy hA hBb hT hB
  go_enter Tryd.func6, Tryd.ntmps6
  go_upto_region 4 with (first | (go_at_call 7; refine (HWo.out _ (by first | exact Below.refl _ _ | exact hA0 _)).mono ?_; rintro e w1 ⟨so, sc, lo, lc, ss, ll, rfl, hb1, HWk, HLs⟩; have hbw1 : Below w.heap.size w w1 := (by first | exact hb1 | exact (hA0 _).trans (hb1.mono (hA0 _).size)); have hbA := hbw1.alloc hbw1.size (.cells #[.slice so ss.length sc, .slice lo ll.length lc] 28); have hq0 := HFx.out _ hbA) | (go_at_call_of 8 xq1; refine hq0.mono ?_; rintro e v0 ⟨xa, xc, x, Tx, mx, rfl, hbf0, Hx⟩; have hbF0 := hbA.trans (hbf0.mono hbA.size); have hq1 := HFy.out _ hbF0) | (go_at_call_of 8 yq1; refine hq1.mono ?_; rintro e v1 ⟨ya, yc, y, Ty, my, rfl, hbf1, Hy⟩; have hbF1 := hbF0.trans (hbf1.mono hbF0.size); have HK := (show Hid _ from KCtx.start HT.out hbw1 HLs.out HWk.out ((hbf0).trans (hbf1.mono (hbf0).size))); have hkc := HK.out.c0; have hkd := HK.out.c1; have hklt := HK.out.lt; have hs5 : ss.length ≤ 5 := HWk.out.stem; have hl5 : ll.length ≤ 5 := HWk.out.loop))
  have Kx : Hid (KFor v1 (.slice xa x.length xc) 1 x Tx mx) := Hx.out.later (hbf1)
  have Ky : Hid (KFor v1 (.slice ya y.length yc) 1 y Ty my) := Hy
  have HC0 : Hid (Below v1.heap.size v1 v1) := Below.refl _ _
  clear HFx Hx HFy Hy HWo HLs HWk HT hA0 hbA hbw1 hb1 hkc hkd hs5 hl5 hklt hbf0 hbF0 hq0 hbf1 hbF1 hq1
  generalize w1.heap.size = wb at *
  generalize v1 = w3 at *
  generalize hxn : x.length = xn at *
  have Lx : Hid (x.length = xn) := hxn
  clear hxn
  generalize hyn : y.length = yn at *
  have Ly : Hid (y.length = yn) := hyn
  clear hyn
  generalize hsn : ss.length = sn at *
  generalize hln : ll.length = ln at *
  have LS : Hid (ss.length = sn) := hsn
  have LL : Hid (ll.length = ln) := hln
  clear hsn hln
  have lx : x.length ≤ 17 := Kx.out.len
  have ly : y.length ≤ 17 := Ky.out.len
  have hs5 : sn ≤ 5 := by rw [← LS.out]; exact HK.out.ok.stem
  have hl5 : ln ≤ 5 := by rw [← LL.out]; exact HK.out.ok.loop
  have hL : (.slice xa xn xc : Value) = .slice xa x.length xc ∧ (.slice ya yn yc : Value) = .slice ya y.length yc := ⟨by rw [Lx.out], by rw [Ly.out]⟩
  clear hL
  go_cut [10] (fun sv wx => ∃ g, sv = .slice (some ⟨g, 0, none⟩) 6 6 ∧ Hid (LawsV wx (.slice (some ⟨g, 0, none⟩) 6 6) [((((18 : Int), (0 : Int)) :: (((18 : Int), (0 : Int)) :: x)), (((18 : Int), (0 : Int)) :: x)), ((((17 : Int), (0 : Int)) :: (((17 : Int), (0 : Int)) :: x)), (((17 : Int), (0 : Int)) :: x)), ((((15 : Int), (0 : Int)) :: (x ++ (((15 : Int), (0 : Int)) :: (x ++ y)))), (((15 : Int), (0 : Int)) :: (x ++ y))), ((((16 : Int), (0 : Int)) :: (x ++ (((16 : Int), (0 : Int)) :: (x ++ y)))), (((16 : Int), (0 : Int)) :: (x ++ y))), ((((17 : Int), (0 : Int)) :: (((18 : Int), (0 : Int)) :: (((17 : Int), (0 : Int)) :: x))), (((18 : Int), (0 : Int)) :: (((17 : Int), (0 : Int)) :: x))), ((((18 : Int), (0 : Int)) :: (((17 : Int), (0 : Int)) :: (((18 : Int), (0 : Int)) :: x))), (((17 : Int), (0 : Int)) :: (((18 : Int), (0 : Int)) :: x)))] ∧ Below w3.heap.size w3 wx))
  case first =>
    rename_i J K' hJ hK'
    generalize ha0 : Act.mk _ _ = a0
    have hsz : a0.tmps.size = 138 := by rw [← ha0]; rfl
    have a8 : a0.eval (.tmp 8) = .slice xa xn xc := by rw [← ha0]; rfl
    have a9 : a0.eval (.tmp 9) = .slice ya yn yc := by rw [← ha0]; rfl
    have hVx : ∀ w', Below w3.heap.size w3 w' → OpsV w' (.slice xa xn xc) x := fun w' hb => Kx.out.v.below hb
    have hVy : ∀ w', Below w3.heap.size w3 w' → OpsV w' (.slice ya yn yc) y := fun w' hb => Ky.out.v.below hb
    refine wp_inorder [24, 25, 26, 27, 28, 29, 30, 31, 32, 33, 34, 35, 36, 37, 38, 39, 40, 41, 42, 43, 44, 45, 46, 47, 48, 49, 50, 51, 52, 53, 54, 55, 56, 57, 58, 59, 60, 61, 62, 63, 64, 65, 66, 67, 68, 69, 70, 71, 72, 73, 74, 75, 76, 77, 78, 79, 80, 81, 82, 83, 84, 85, 86, 87, 88, 89, 90, 91, 92, 10] 69 (wordNestP (.slice xa xn xc) (.slice ya yn yc) x y) (by rw [hsz]; rfl) (wordNestP_stable _ _ _ _ ) ?_ ?_
    · intro i o hi ho q w' hb hq
      have f : ∀ t, [24, 25, 26, 27, 28, 29, 30, 31, 32, 33, 34, 35, 36, 37, 38, 39, 40, 41, 42, 43, 44, 45, 46, 47, 48, 49, 50, 51, 52, 53, 54, 55, 56, 57, 58, 59, 60, 61, 62, 63, 64, 65, 66, 67, 68, 69, 70, 71, 72, 73, 74, 75, 76, 77, 78, 79, 80, 81, 82, 83, 84, 85, 86, 87, 88, 89, 90, 91, 92, 10].contains t = true → t < 138 → (frm a0 [24, 25, 26, 27, 28, 29, 30, 31, 32, 33, 34, 35, 36, 37, 38, 39, 40, 41, 42, 43, 44, 45, 46, 47, 48, 49, 50, 51, 52, 53, 54, 55, 56, 57, 58, 59, 60, 61, 62, 63, 64, 65, 66, 67, 68, 69, 70, 71, 72, 73, 74, 75, 76, 77, 78, 79, 80, 81, 82, 83, 84, 85, 86, 87, 88, 89, 90, 91, 92, 10] q).eval (.tmp t) = q t := fun t h1 h2 => frm_in h1 (by rw [hsz]; exact h2)
      rcases wordNest_lt i hi with rfl | rfl | rfl | rfl | rfl | rfl | rfl | rfl | rfl | rfl | rfl | rfl | rfl | rfl | rfl | rfl | rfl | rfl | rfl | rfl | rfl | rfl | rfl | rfl | rfl | rfl | rfl | rfl | rfl | rfl | rfl | rfl | rfl | rfl | rfl | rfl | rfl | rfl | rfl | rfl | rfl | rfl | rfl | rfl | rfl | rfl | rfl | rfl | rfl | rfl | rfl | rfl | rfl | rfl | rfl | rfl | rfl | rfl | rfl | rfl | rfl | rfl | rfl | rfl | rfl | rfl | rfl | rfl | rfl
      all_goals obtain rfl := Option.some.inj ho
      · exact st_move rfl ((frm_out rfl).trans a8)
      · exact st_one rfl ((f 24 rfl (by decide)).trans (hq 0 24 rfl rfl)) (hVx w' hb)
      · exact st_join1 rfl (by rw [(f 25 rfl (by decide))]; exact (hq 1 25 rfl rfl)) (by have := lx; omega) Kx.out.ne
      · exact st_one rfl (f 26 rfl (by decide)) (hq 2 26 rfl rfl)
      · exact st_join1 rfl (by rw [(f 27 rfl (by decide))]; exact (hq 3 27 rfl rfl)) (by have := lx; simp; omega) (by simp)
      · exact st_move rfl ((frm_out rfl).trans a8)
      · exact st_one rfl ((f 29 rfl (by decide)).trans (hq 5 29 rfl rfl)) (hVx w' hb)
      · exact st_join1 rfl (by rw [(f 30 rfl (by decide))]; exact (hq 6 30 rfl rfl)) (by have := lx; omega) Kx.out.ne
      · exact st_pair rfl (by rw [(f 28 rfl (by decide))]; exact (hq 4 28 rfl rfl)) (by rw [(f 31 rfl (by decide))]; exact (hq 7 31 rfl rfl))
      · exact st_move rfl ((frm_out rfl).trans a8)
      · exact st_one rfl ((f 33 rfl (by decide)).trans (hq 9 33 rfl rfl)) (hVx w' hb)
      · exact st_join1 rfl (by rw [(f 34 rfl (by decide))]; exact (hq 10 34 rfl rfl)) (by have := lx; omega) Kx.out.ne
      · exact st_one rfl (f 35 rfl (by decide)) (hq 11 35 rfl rfl)
      · exact st_join1 rfl (by rw [(f 36 rfl (by decide))]; exact (hq 12 36 rfl rfl)) (by have := lx; simp; omega) (by simp)
      · exact st_move rfl ((frm_out rfl).trans a8)
      · exact st_one rfl ((f 38 rfl (by decide)).trans (hq 14 38 rfl rfl)) (hVx w' hb)
      · exact st_join1 rfl (by rw [(f 39 rfl (by decide))]; exact (hq 15 39 rfl rfl)) (by have := lx; omega) Kx.out.ne
      · exact st_pair rfl (by rw [(f 37 rfl (by decide))]; exact (hq 13 37 rfl rfl)) (by rw [(f 40 rfl (by decide))]; exact (hq 16 40 rfl rfl))
      · exact st_move rfl ((frm_out rfl).trans a8)
      · exact st_move rfl ((frm_out rfl).trans a8)
      · exact st_move rfl ((frm_out rfl).trans a9)
      · exact st_two rfl ((f 43 rfl (by decide)).trans (hq 19 43 rfl rfl)) ((f 44 rfl (by decide)).trans (hq 20 44 rfl rfl)) (hVx w' hb) (hVy w' hb)
      · exact st_join2 rfl (by rw [(f 45 rfl (by decide))]; exact (hq 21 45 rfl rfl)) (by have := lx; omega) (by have := ly; omega) Kx.out.ne Ky.out.ne
      · exact st_two rfl ((f 42 rfl (by decide)).trans (hq 18 42 rfl rfl)) (f 46 rfl (by decide)) (hVx w' hb) (hq 22 46 rfl rfl)
      · exact st_join2 rfl (by rw [(f 47 rfl (by decide))]; exact (hq 23 47 rfl rfl)) (by have := lx; omega) (by have := lx; have := ly; simp; omega) Kx.out.ne (by simp)
      · exact st_move rfl ((frm_out rfl).trans a8)
      · exact st_move rfl ((frm_out rfl).trans a9)
      · exact st_two rfl ((f 49 rfl (by decide)).trans (hq 25 49 rfl rfl)) ((f 50 rfl (by decide)).trans (hq 26 50 rfl rfl)) (hVx w' hb) (hVy w' hb)
      · exact st_join2 rfl (by rw [(f 51 rfl (by decide))]; exact (hq 27 51 rfl rfl)) (by have := lx; omega) (by have := ly; omega) Kx.out.ne Ky.out.ne
      · exact st_pair rfl (by rw [(f 48 rfl (by decide))]; exact (hq 24 48 rfl rfl)) (by rw [(f 52 rfl (by decide))]; exact (hq 28 52 rfl rfl))
      · exact st_move rfl ((frm_out rfl).trans a8)
      · exact st_move rfl ((frm_out rfl).trans a8)
      · exact st_move rfl ((frm_out rfl).trans a9)
      · exact st_two rfl ((f 55 rfl (by decide)).trans (hq 31 55 rfl rfl)) ((f 56 rfl (by decide)).trans (hq 32 56 rfl rfl)) (hVx w' hb) (hVy w' hb)
      · exact st_join2 rfl (by rw [(f 57 rfl (by decide))]; exact (hq 33 57 rfl rfl)) (by have := lx; omega) (by have := ly; omega) Kx.out.ne Ky.out.ne
      · exact st_two rfl ((f 54 rfl (by decide)).trans (hq 30 54 rfl rfl)) (f 58 rfl (by decide)) (hVx w' hb) (hq 34 58 rfl rfl)
      · exact st_join2 rfl (by rw [(f 59 rfl (by decide))]; exact (hq 35 59 rfl rfl)) (by have := lx; omega) (by have := lx; have := ly; simp; omega) Kx.out.ne (by simp)
      · exact st_move rfl ((frm_out rfl).trans a8)
      · exact st_move rfl ((frm_out rfl).trans a9)
      · exact st_two rfl ((f 61 rfl (by decide)).trans (hq 37 61 rfl rfl)) ((f 62 rfl (by decide)).trans (hq 38 62 rfl rfl)) (hVx w' hb) (hVy w' hb)
      · exact st_join2 rfl (by rw [(f 63 rfl (by decide))]; exact (hq 39 63 rfl rfl)) (by have := lx; omega) (by have := ly; omega) Kx.out.ne Ky.out.ne
      · exact st_pair rfl (by rw [(f 60 rfl (by decide))]; exact (hq 36 60 rfl rfl)) (by rw [(f 64 rfl (by decide))]; exact (hq 40 64 rfl rfl))
      · exact st_move rfl ((frm_out rfl).trans a8)
      · exact st_one rfl ((f 66 rfl (by decide)).trans (hq 42 66 rfl rfl)) (hVx w' hb)
      · exact st_join1 rfl (by rw [(f 67 rfl (by decide))]; exact (hq 43 67 rfl rfl)) (by have := lx; omega) Kx.out.ne
      · exact st_one rfl (f 68 rfl (by decide)) (hq 44 68 rfl rfl)
      · exact st_join1 rfl (by rw [(f 69 rfl (by decide))]; exact (hq 45 69 rfl rfl)) (by have := lx; simp; omega) (by simp)
      · exact st_one rfl (f 70 rfl (by decide)) (hq 46 70 rfl rfl)
      · exact st_join1 rfl (by rw [(f 71 rfl (by decide))]; exact (hq 47 71 rfl rfl)) (by have := lx; simp; omega) (by simp)
      · exact st_move rfl ((frm_out rfl).trans a8)
      · exact st_one rfl ((f 73 rfl (by decide)).trans (hq 49 73 rfl rfl)) (hVx w' hb)
      · exact st_join1 rfl (by rw [(f 74 rfl (by decide))]; exact (hq 50 74 rfl rfl)) (by have := lx; omega) Kx.out.ne
      · exact st_one rfl (f 75 rfl (by decide)) (hq 51 75 rfl rfl)
      · exact st_join1 rfl (by rw [(f 76 rfl (by decide))]; exact (hq 52 76 rfl rfl)) (by have := lx; simp; omega) (by simp)
      · exact st_pair rfl (by rw [(f 72 rfl (by decide))]; exact (hq 48 72 rfl rfl)) (by rw [(f 77 rfl (by decide))]; exact (hq 53 77 rfl rfl))
      · exact st_move rfl ((frm_out rfl).trans a8)
      · exact st_one rfl ((f 79 rfl (by decide)).trans (hq 55 79 rfl rfl)) (hVx w' hb)
      · exact st_join1 rfl (by rw [(f 80 rfl (by decide))]; exact (hq 56 80 rfl rfl)) (by have := lx; omega) Kx.out.ne
      · exact st_one rfl (f 81 rfl (by decide)) (hq 57 81 rfl rfl)
      · exact st_join1 rfl (by rw [(f 82 rfl (by decide))]; exact (hq 58 82 rfl rfl)) (by have := lx; simp; omega) (by simp)
      · exact st_one rfl (f 83 rfl (by decide)) (hq 59 83 rfl rfl)
      · exact st_join1 rfl (by rw [(f 84 rfl (by decide))]; exact (hq 60 84 rfl rfl)) (by have := lx; simp; omega) (by simp)
      · exact st_move rfl ((frm_out rfl).trans a8)
      · exact st_one rfl ((f 86 rfl (by decide)).trans (hq 62 86 rfl rfl)) (hVx w' hb)
      · exact st_join1 rfl (by rw [(f 87 rfl (by decide))]; exact (hq 63 87 rfl rfl)) (by have := lx; omega) Kx.out.ne
      · exact st_one rfl (f 88 rfl (by decide)) (hq 64 88 rfl rfl)
      · exact st_join1 rfl (by rw [(f 89 rfl (by decide))]; exact (hq 65 89 rfl rfl)) (by have := lx; simp; omega) (by simp)
      · exact st_pair rfl (by rw [(f 85 rfl (by decide))]; exact (hq 61 85 rfl rfl)) (by rw [(f 90 rfl (by decide))]; exact (hq 66 90 rfl rfl))
      · obtain ⟨ev, hev⟩ : ∃ ev, ev = (frm a0 [24, 25, 26, 27, 28, 29, 30, 31, 32, 33, 34, 35, 36, 37, 38, 39, 40, 41, 42, 43, 44, 45, 46, 47, 48, 49, 50, 51, 52, 53, 54, 55, 56, 57, 58, 59, 60, 61, 62, 63, 64, 65, 66, 67, 68, 69, 70, 71, 72, 73, 74, 75, 76, 77, 78, 79, 80, 81, 82, 83, 84, 85, 86, 87, 88, 89, 90, 91, 92, 10] q).eval := ⟨_, rfl⟩
        rw [← hev] at f
        obtain ⟨ao0, co0, bo0, do0, he0, hx0, hy0⟩ := pair_slices (hq 8 32 rfl rfl)
        have e0 := (f 32 rfl (by decide)).trans he0
        obtain ⟨ao1, co1, bo1, do1, he1, hx1, hy1⟩ := pair_slices (hq 17 41 rfl rfl)
        have e1 := (f 41 rfl (by decide)).trans he1
        obtain ⟨ao2, co2, bo2, do2, he2, hx2, hy2⟩ := pair_slices (hq 29 53 rfl rfl)
        have e2 := (f 53 rfl (by decide)).trans he2
        obtain ⟨ao3, co3, bo3, do3, he3, hx3, hy3⟩ := pair_slices (hq 41 65 rfl rfl)
        have e3 := (f 65 rfl (by decide)).trans he3
        obtain ⟨ao4, co4, bo4, do4, he4, hx4, hy4⟩ := pair_slices (hq 54 78 rfl rfl)
        have e4 := (f 78 rfl (by decide)).trans he4
        obtain ⟨ao5, co5, bo5, do5, he5, hx5, hy5⟩ := pair_slices (hq 67 91 rfl rfl)
        have e5 := (f 91 rfl (by decide)).trans he5
        generalize hp0 : ((((18 : Int), (0 : Int)) :: (((18 : Int), (0 : Int)) :: x)) : List (Int × Int)).length = p0 at he0 hx0 e0
        generalize hr0 : ((((18 : Int), (0 : Int)) :: x) : List (Int × Int)).length = r0 at he0 hy0 e0
        generalize hp1 : ((((17 : Int), (0 : Int)) :: (((17 : Int), (0 : Int)) :: x)) : List (Int × Int)).length = p1 at he1 hx1 e1
        generalize hr1 : ((((17 : Int), (0 : Int)) :: x) : List (Int × Int)).length = r1 at he1 hy1 e1
        generalize hp2 : ((((15 : Int), (0 : Int)) :: (x ++ (((15 : Int), (0 : Int)) :: (x ++ y)))) : List (Int × Int)).length = p2 at he2 hx2 e2
        generalize hr2 : ((((15 : Int), (0 : Int)) :: (x ++ y)) : List (Int × Int)).length = r2 at he2 hy2 e2
        generalize hp3 : ((((16 : Int), (0 : Int)) :: (x ++ (((16 : Int), (0 : Int)) :: (x ++ y)))) : List (Int × Int)).length = p3 at he3 hx3 e3
        generalize hr3 : ((((16 : Int), (0 : Int)) :: (x ++ y)) : List (Int × Int)).length = r3 at he3 hy3 e3
        generalize hp4 : ((((17 : Int), (0 : Int)) :: (((18 : Int), (0 : Int)) :: (((17 : Int), (0 : Int)) :: x))) : List (Int × Int)).length = p4 at he4 hx4 e4
        generalize hr4 : ((((18 : Int), (0 : Int)) :: (((17 : Int), (0 : Int)) :: x)) : List (Int × Int)).length = r4 at he4 hy4 e4
        generalize hp5 : ((((18 : Int), (0 : Int)) :: (((17 : Int), (0 : Int)) :: (((18 : Int), (0 : Int)) :: x))) : List (Int × Int)).length = p5 at he5 hx5 e5
        generalize hr5 : ((((17 : Int), (0 : Int)) :: (((18 : Int), (0 : Int)) :: x)) : List (Int × Int)).length = r5 at he5 hy5 e5
        have hA : Below w'.heap.size w' (w'.alloc (.cells #[.slice ao0 p0 co0, .slice bo0 r0 do0, .slice ao1 p1 co1, .slice bo1 r1 do1, .slice ao2 p2 co2, .slice bo2 r2 do2, .slice ao3 p3 co3, .slice bo3 r3 do3, .slice ao4 p4 co4, .slice bo4 r4 do4, .slice ao5 p5 co5, .slice bo5 r5 do5] 44)) := (Below.refl _ _).alloc (Nat.le_refl _) _
        refine op_val (w' := w'.alloc (.cells #[.slice ao0 p0 co0, .slice bo0 r0 do0, .slice ao1 p1 co1, .slice bo1 r1 do1, .slice ao2 p2 co2, .slice bo2 r2 do2, .slice ao3 p3 co3, .slice bo3 r3 do3, .slice ao4 p4 co4, .slice bo4 r4 do4, .slice ao5 p5 co5, .slice bo5 r5 do5] 44)) (v := .slice (some ⟨w'.heap.size, 0, none⟩) 6 6) ?_ hA ⟨_, rfl, by simp, fun i hi => ?_⟩
        · rw [← hev]
          simp [execOp, e0, e1, e2, e3, e4, e5, go_sem]
        · have hc : i = 0 ∨ i = 1 ∨ i = 2 ∨ i = 3 ∨ i = 4 ∨ i = 5 := by have : i < 6 := hi; omega
          rcases hc with rfl | rfl | rfl | rfl | rfl | rfl
          · exact ⟨_, _, by simp [go_sem], by simp [go_sem], OpsV.below hx0 hA, OpsV.below hy0 hA⟩
          · exact ⟨_, _, by simp [go_sem], by simp [go_sem], OpsV.below hx1 hA, OpsV.below hy1 hA⟩
          · exact ⟨_, _, by simp [go_sem], by simp [go_sem], OpsV.below hx2 hA, OpsV.below hy2 hA⟩
          · exact ⟨_, _, by simp [go_sem], by simp [go_sem], OpsV.below hx3 hA, OpsV.below hy3 hA⟩
          · exact ⟨_, _, by simp [go_sem], by simp [go_sem], OpsV.below hx4 hA, OpsV.below hy4 hA⟩
          · exact ⟨_, _, by simp [go_sem], by simp [go_sem], OpsV.below hx5 hA, OpsV.below hy5 hA⟩
    · intro q w' hb hq
      have f : ∀ q t, [24, 25, 26, 27, 28, 29, 30, 31, 32, 33, 34, 35, 36, 37, 38, 39, 40, 41, 42, 43, 44, 45, 46, 47, 48, 49, 50, 51, 52, 53, 54, 55, 56, 57, 58, 59, 60, 61, 62, 63, 64, 65, 66, 67, 68, 69, 70, 71, 72, 73, 74, 75, 76, 77, 78, 79, 80, 81, 82, 83, 84, 85, 86, 87, 88, 89, 90, 91, 92, 10].contains t = true → t < 138 → (frm a0 [24, 25, 26, 27, 28, 29, 30, 31, 32, 33, 34, 35, 36, 37, 38, 39, 40, 41, 42, 43, 44, 45, 46, 47, 48, 49, 50, 51, 52, 53, 54, 55, 56, 57, 58, 59, 60, 61, 62, 63, 64, 65, 66, 67, 68, 69, 70, 71, 72, 73, 74, 75, 76, 77, 78, 79, 80, 81, 82, 83, 84, 85, 86, 87, 88, 89, 90, 91, 92, 10] q).eval (.tmp t) = q t := fun q t h1 h2 => frm_in h1 (by rw [hsz]; exact h2)
      have hlw := hq 68 92 (by decide) rfl
      obtain ⟨g, hg, hgl, hgc⟩ := id hlw
      have e92 := (f q 92 rfl (by decide)).trans hg
      show wpOps Tryd.prog _ _ [69] _ _
      rw [wpOps_cons]
      refine op_at rfl rfl ?_
      refine op_run (w' := w') (v := .slice (some ⟨g, 0, none⟩) 6 6) ?_ ?_
      · generalize (frm a0 [24, 25, 26, 27, 28, 29, 30, 31, 32, 33, 34, 35, 36, 37, 38, 39, 40, 41, 42, 43, 44, 45, 46, 47, 48, 49, 50, 51, 52, 53, 54, 55, 56, 57, 58, 59, 60, 61, 62, 63, 64, 65, 66, 67, 68, 69, 70, 71, 72, 73, 74, 75, 76, 77, 78, 79, 80, 81, 82, 83, 84, 85, 86, 87, 88, 89, 90, 91, 92, 10] q).eval = ev at e92 ⊢
        simp [execOp, e92, go_sem]
      rw [late_put 10 rfl rfl]
      show K' _ _
      refine hK' _ _ ?_
      rw [← ha0]
      go_meet
      exact ⟨g, setV_same q 10 _, by rw [hg] at hlw; exact hlw, hb⟩
  case rest =>
    obtain ⟨g, rfl, HLW⟩ := hcut
    have HF : Hid (∀ q, q < 6 → ∃ m0 T0 m1 T1, (FOk m0 (([((((18 : Int), (0 : Int)) :: (((18 : Int), (0 : Int)) :: x)), (((18 : Int), (0 : Int)) :: x)), ((((17 : Int), (0 : Int)) :: (((17 : Int), (0 : Int)) :: x)), (((17 : Int), (0 : Int)) :: x)), ((((15 : Int), (0 : Int)) :: (x ++ (((15 : Int), (0 : Int)) :: (x ++ y)))), (((15 : Int), (0 : Int)) :: (x ++ y))), ((((16 : Int), (0 : Int)) :: (x ++ (((16 : Int), (0 : Int)) :: (x ++ y)))), (((16 : Int), (0 : Int)) :: (x ++ y))), ((((17 : Int), (0 : Int)) :: (((18 : Int), (0 : Int)) :: (((17 : Int), (0 : Int)) :: x))), (((18 : Int), (0 : Int)) :: (((17 : Int), (0 : Int)) :: x))), ((((18 : Int), (0 : Int)) :: (((17 : Int), (0 : Int)) :: (((18 : Int), (0 : Int)) :: x))), (((17 : Int), (0 : Int)) :: (((18 : Int), (0 : Int)) :: x)))] : List (List (Int × Int) × List (Int × Int))).getD q ([], [])).1 T0 ∧ (([((((18 : Int), (0 : Int)) :: (((18 : Int), (0 : Int)) :: x)), (((18 : Int), (0 : Int)) :: x)), ((((17 : Int), (0 : Int)) :: (((17 : Int), (0 : Int)) :: x)), (((17 : Int), (0 : Int)) :: x)), ((((15 : Int), (0 : Int)) :: (x ++ (((15 : Int), (0 : Int)) :: (x ++ y)))), (((15 : Int), (0 : Int)) :: (x ++ y))), ((((16 : Int), (0 : Int)) :: (x ++ (((16 : Int), (0 : Int)) :: (x ++ y)))), (((16 : Int), (0 : Int)) :: (x ++ y))), ((((17 : Int), (0 : Int)) :: (((18 : Int), (0 : Int)) :: (((17 : Int), (0 : Int)) :: x))), (((18 : Int), (0 : Int)) :: (((17 : Int), (0 : Int)) :: x))), ((((18 : Int), (0 : Int)) :: (((17 : Int), (0 : Int)) :: (((18 : Int), (0 : Int)) :: x))), (((17 : Int), (0 : Int)) :: (((18 : Int), (0 : Int)) :: x)))] : List (List (Int × Int) × List (Int × Int))).getD q ([], [])).1.length ≤ 60 ∧ m0 ≤ 6) ∧ (FOk m1 (([((((18 : Int), (0 : Int)) :: (((18 : Int), (0 : Int)) :: x)), (((18 : Int), (0 : Int)) :: x)), ((((17 : Int), (0 : Int)) :: (((17 : Int), (0 : Int)) :: x)), (((17 : Int), (0 : Int)) :: x)), ((((15 : Int), (0 : Int)) :: (x ++ (((15 : Int), (0 : Int)) :: (x ++ y)))), (((15 : Int), (0 : Int)) :: (x ++ y))), ((((16 : Int), (0 : Int)) :: (x ++ (((16 : Int), (0 : Int)) :: (x ++ y)))), (((16 : Int), (0 : Int)) :: (x ++ y))), ((((17 : Int), (0 : Int)) :: (((18 : Int), (0 : Int)) :: (((17 : Int), (0 : Int)) :: x))), (((18 : Int), (0 : Int)) :: (((17 : Int), (0 : Int)) :: x))), ((((18 : Int), (0 : Int)) :: (((17 : Int), (0 : Int)) :: (((18 : Int), (0 : Int)) :: x))), (((17 : Int), (0 : Int)) :: (((18 : Int), (0 : Int)) :: x)))] : List (List (Int × Int) × List (Int × Int))).getD q ([], [])).2 T1 ∧ (([((((18 : Int), (0 : Int)) :: (((18 : Int), (0 : Int)) :: x)), (((18 : Int), (0 : Int)) :: x)), ((((17 : Int), (0 : Int)) :: (((17 : Int), (0 : Int)) :: x)), (((17 : Int), (0 : Int)) :: x)), ((((15 : Int), (0 : Int)) :: (x ++ (((15 : Int), (0 : Int)) :: (x ++ y)))), (((15 : Int), (0 : Int)) :: (x ++ y))), ((((16 : Int), (0 : Int)) :: (x ++ (((16 : Int), (0 : Int)) :: (x ++ y)))), (((16 : Int), (0 : Int)) :: (x ++ y))), ((((17 : Int), (0 : Int)) :: (((18 : Int), (0 : Int)) :: (((17 : Int), (0 : Int)) :: x))), (((18 : Int), (0 : Int)) :: (((17 : Int), (0 : Int)) :: x))), ((((18 : Int), (0 : Int)) :: (((17 : Int), (0 : Int)) :: (((18 : Int), (0 : Int)) :: x))), (((17 : Int), (0 : Int)) :: (((18 : Int), (0 : Int)) :: x)))] : List (List (Int × Int) × List (Int × Int))).getD q ([], [])).2.length ≤ 60 ∧ m1 ≤ 6) ∧ T0.hb (sig (ss ++ ll) ss.length) 0 = T1.hb (sig (ss ++ ll) ss.length) 0) := fun q hq => by
      have kx := Kx.out.many
      have ky := Ky.out.many
      have hc : q = 0 ∨ q = 1 ∨ q = 2 ∨ q = 3 ∨ q = 4 ∨ q = 5 := by omega
      rcases hc with rfl | rfl | rfl | rfl | rfl | rfl
      · exact ⟨_, _, _, _, ⟨(FOk.tun (k := 18) (by decide) (FOk.tun (k := 18) (by decide) Kx.out.ok)), by show ((((18 : Int), (0 : Int)) :: (((18 : Int), (0 : Int)) :: x)) : List (Int × Int)).length ≤ 60; simp; omega, by omega⟩, ⟨(FOk.tun (k := 18) (by decide) Kx.out.ok), by show ((((18 : Int), (0 : Int)) :: x) : List (Int × Int)).length ≤ 60; simp; omega, by omega⟩, hb_GG _ ..⟩
      · exact ⟨_, _, _, _, ⟨(FOk.tun (k := 17) (by decide) (FOk.tun (k := 17) (by decide) Kx.out.ok)), by show ((((17 : Int), (0 : Int)) :: (((17 : Int), (0 : Int)) :: x)) : List (Int × Int)).length ≤ 60; simp; omega, by omega⟩, ⟨(FOk.tun (k := 17) (by decide) Kx.out.ok), by show ((((17 : Int), (0 : Int)) :: x) : List (Int × Int)).length ≤ 60; simp; omega, by omega⟩, hb_FF _ ..⟩
      · exact ⟨_, _, _, _, ⟨(FOk.tbi (k := 15) (by decide) (by decide) Kx.out.ok (FOk.tbi (k := 15) (by decide) (by decide) Kx.out.ok Ky.out.ok)), by show ((((15 : Int), (0 : Int)) :: (x ++ (((15 : Int), (0 : Int)) :: (x ++ y)))) : List (Int × Int)).length ≤ 60; simp; omega, by omega⟩, ⟨(FOk.tbi (k := 15) (by decide) (by decide) Kx.out.ok Ky.out.ok), by show ((((15 : Int), (0 : Int)) :: (x ++ y)) : List (Int × Int)).length ≤ 60; simp; omega, by omega⟩, hb_UU _ ..⟩
      · exact ⟨_, _, _, _, ⟨(FOk.tbi (k := 16) (by decide) (by decide) Kx.out.ok (FOk.tbi (k := 16) (by decide) (by decide) Kx.out.ok Ky.out.ok)), by show ((((16 : Int), (0 : Int)) :: (x ++ (((16 : Int), (0 : Int)) :: (x ++ y)))) : List (Int × Int)).length ≤ 60; simp; omega, by omega⟩, ⟨(FOk.tbi (k := 16) (by decide) (by decide) Kx.out.ok Ky.out.ok), by show ((((16 : Int), (0 : Int)) :: (x ++ y)) : List (Int × Int)).length ≤ 60; simp; omega, by omega⟩, hb_RR _ ..⟩
      · exact ⟨_, _, _, _, ⟨(FOk.tun (k := 17) (by decide) (FOk.tun (k := 18) (by decide) (FOk.tun (k := 17) (by decide) Kx.out.ok))), by show ((((17 : Int), (0 : Int)) :: (((18 : Int), (0 : Int)) :: (((17 : Int), (0 : Int)) :: x))) : List (Int × Int)).length ≤ 60; simp; omega, by omega⟩, ⟨(FOk.tun (k := 18) (by decide) (FOk.tun (k := 17) (by decide) Kx.out.ok)), by show ((((18 : Int), (0 : Int)) :: (((17 : Int), (0 : Int)) :: x)) : List (Int × Int)).length ≤ 60; simp; omega, by omega⟩, hb_FGF _ ..⟩
      · exact ⟨_, _, _, _, ⟨(FOk.tun (k := 18) (by decide) (FOk.tun (k := 17) (by decide) (FOk.tun (k := 18) (by decide) Kx.out.ok))), by show ((((18 : Int), (0 : Int)) :: (((17 : Int), (0 : Int)) :: (((18 : Int), (0 : Int)) :: x))) : List (Int × Int)).length ≤ 60; simp; omega, by omega⟩, ⟨(FOk.tun (k := 17) (by decide) (FOk.tun (k := 18) (by decide) Kx.out.ok)), by show ((((17 : Int), (0 : Int)) :: (((18 : Int), (0 : Int)) :: x)) : List (Int × Int)).length ≤ 60; simp; omega, by omega⟩, hb_GFG _ ..⟩
    generalize ([((((18 : Int), (0 : Int)) :: (((18 : Int), (0 : Int)) :: x)), (((18 : Int), (0 : Int)) :: x)), ((((17 : Int), (0 : Int)) :: (((17 : Int), (0 : Int)) :: x)), (((17 : Int), (0 : Int)) :: x)), ((((15 : Int), (0 : Int)) :: (x ++ (((15 : Int), (0 : Int)) :: (x ++ y)))), (((15 : Int), (0 : Int)) :: (x ++ y))), ((((16 : Int), (0 : Int)) :: (x ++ (((16 : Int), (0 : Int)) :: (x ++ y)))), (((16 : Int), (0 : Int)) :: (x ++ y))), ((((17 : Int), (0 : Int)) :: (((18 : Int), (0 : Int)) :: (((17 : Int), (0 : Int)) :: x))), (((18 : Int), (0 : Int)) :: (((17 : Int), (0 : Int)) :: x))), ((((18 : Int), (0 : Int)) :: (((17 : Int), (0 : Int)) :: (((18 : Int), (0 : Int)) :: x))), (((17 : Int), (0 : Int)) :: (((18 : Int), (0 : Int)) :: x)))] : List (List (Int × Int) × List (Int × Int))) = laws at HLW HF
    have HWC : Hid (Below w3.heap.size w3 wc) := HLW.out.2
    have HQ : Hid (∀ q, q < 6 → ∃ (ao : Option Addr) (n1 c1 : Nat) (bo : Option Addr) (n2 c2 : Nat) (r : Bool), wc.cell? ⟨g, q * 2, none⟩ = some (.slice ao n1 c1) ∧ wc.cell? ⟨g, q * 2 + 1, none⟩ = some (.slice bo n2 c2) ∧ ∀ w', Below wc.heap.size wc w' → (Calls Tryd.prog 11 #[.slice ao n1 c1, .agg #[.slice so sn sc, .slice lo ln lc]] w' fun e w2 => e = .returned (.tuple #[.bool r, .bool true]) ∧ Below w'.heap.size w' w2) ∧ (Calls Tryd.prog 11 #[.slice bo n2 c2, .agg #[.slice so sn sc, .slice lo ln lc]] w' fun e w2 => e = .returned (.tuple #[.bool r, .bool true]) ∧ Below w'.heap.size w' w2)) := fun q hq => by
      obtain ⟨g', he, hgl, hgc⟩ := HLW.out.1
      injection he with he1 he2 he3
      injection he1 with he1
      injection he1 with he4 _ _
      subst he4
      obtain ⟨x, y, k1, k2, o1, o2⟩ := hgc q (by omega)
      obtain ⟨m0, T0, m1, T1, ⟨f0, f1, f2⟩, ⟨f3, f4, f5⟩, hEq⟩ := HF.out q hq
      obtain ⟨ao, c1, rfl, _⟩ := id o1
      obtain ⟨bo, c2, rfl, _⟩ := id o2
      exact ⟨ao, _, c1, bo, _, c2, T1.hb (sig (ss ++ ll) ss.length) 0, k1, k2, fun w' hb => ⟨(HK.out.later (HWC.out.trans (hb.mono HWC.out.size))).holds (o1.below hb) f0 f1 f2 hEq, (HK.out.later (HWC.out.trans (hb.mono HWC.out.size))).holds (o2.below hb) f3 f4 f5 rfl⟩⟩
    have HX : Hid (∀ w', Below wc.heap.size wc w' → w'.cell? ⟨wb, 0, none⟩ = some (.slice so sn sc) ∧ w'.cell? ⟨wb, 1, none⟩ = some (.slice lo ln lc)) := fun w' hb => ⟨(HK.out.later (HWC.out.trans (hb.mono HWC.out.size))).c0, (HK.out.later (HWC.out.trans (hb.mono HWC.out.size))).c1⟩
    have HP : Hid (∀ w', Below wc.heap.size wc w' → 0 < w'.heap.size ∧ TabAt w' ∧ OpsV w' (.slice xa xn xc) x) := fun w' hb => by
      have h := HWC.out.trans (hb.mono HWC.out.size)
      exact ⟨(HK.out.later h).pos, (HK.out.later h).tab, Kx.out.v.below h⟩
    have HMC : Hid (mocode 3 x [] [] = 1) := by
      show _ = _
      unfold mocode
      rw [Kx.out.ok.code (by omega) (by have := Kx.out.many; omega), if_neg (by simp)]
      exact wcode_size (by omega) (.inr (.inl (by simp)))
    have HBF : Hid (∀ w', Below wc.heap.size wc w' → Below w.heap.size w w') := fun w' hb => (HK.out.later (HWC.out.trans (hb.mono HWC.out.size))).below
    clear HLW HF HK HC0 Kx Lx lx Ky Ly ly
    go_wp2_with fail
    go_loopw [11] (fun i wr => ∃ q : Nat, q ≤ 6 ∧ i = .int .i64 (q : Int) ∧ Hid (Below wc.heap.size wc wr)) (fun i _ => 6 - (intOf i).toNat)
    case atStart => exact ⟨0, Nat.zero_le _, rfl, Below.refl _ _⟩
    case round =>
      obtain ⟨q, hq, rfl, HB⟩ := hrel
      by_cases hlt : q < 6
      · obtain ⟨ao, n1, c1, bo, n2, c2, r, k1, k2, hcalls⟩ := HQ.out q hlt
        have HCL : Hid (∀ w', Below wr.heap.size wr w' → (w'.cell? ⟨wb, 0, none⟩ = some (.slice so sn sc) ∧ w'.cell? ⟨wb, 1, none⟩ = some (.slice lo ln lc)) ∧ (w'.cell? ⟨g, q * 2, none⟩ = some (.slice ao n1 c1) ∧ w'.cell? ⟨g, q * 2 + 1, none⟩ = some (.slice bo n2 c2))) := fun w' hb => by
          have h := HB.out.trans (hb.mono HB.out.size)
          exact ⟨HX.out w' h, cell_later h k1, cell_later h k2⟩
        have HCa : Hid (∀ w', Below wr.heap.size wr w' → (Calls Tryd.prog 11 #[.slice ao n1 c1, .agg #[.slice so sn sc, .slice lo ln lc]] w' fun e w2 => e = .returned (.tuple #[.bool r, .bool true]) ∧ Below w'.heap.size w' w2) ∧ (Calls Tryd.prog 11 #[.slice bo n2 c2, .agg #[.slice so sn sc, .slice lo ln lc]] w' fun e w2 => e = .returned (.tuple #[.bool r, .bool true]) ∧ Below w'.heap.size w' w2)) := fun w' hb => hcalls w' (HB.out.trans (hb.mono HB.out.size))
        have hB0 : Below wr.heap.size wr wr := Below.refl _ _
        obtain ⟨⟨p0, p1⟩, p2, p3⟩ := HCL.out wr hB0
        have HC8 : Hid (∀ w', Below wr.heap.size wr w' → w'.cell? ⟨wb, 0, none⟩ = some (.slice so sn sc) ∧ w'.cell? ⟨wb, 1, none⟩ = some (.slice lo ln lc) ∧ w'.cell? ⟨g, q * 2, none⟩ = some (.slice ao n1 c1)) := fun w' hb => ⟨(HCL.out w' hb).1.1, (HCL.out w' hb).1.2, (HCL.out w' hb).2.1⟩
        have HC9 : Hid (∀ w', Below wr.heap.size wr w' → w'.cell? ⟨wb, 0, none⟩ = some (.slice so sn sc) ∧ w'.cell? ⟨wb, 1, none⟩ = some (.slice lo ln lc) ∧ w'.cell? ⟨g, q * 2 + 1, none⟩ = some (.slice bo n2 c2)) := fun w' hb => ⟨(HCL.out w' hb).1.1, (HCL.out w' hb).1.2, (HCL.out w' hb).2.2⟩
        clear hcalls k1 k2
        go_wp2_with fail
        go_region_held3 (fun w' => w'.cell? ⟨wb, 0, none⟩ = some (.slice so sn sc) ∧ w'.cell? ⟨wb, 1, none⟩ = some (.slice lo ln lc) ∧ w'.cell? ⟨g, q * 2, none⟩ = some (.slice ao n1 c1))
          (exact HC8.out _ (by first | exact hbv | exact hB0 | exact hB0.drew))
          ((go_at_call 11; refine (HCa.out _ (by first | exact hB0 | exact hB0.drew)).1.mono ?_; rintro e v1 ⟨rfl, hv1⟩; have hbv : Below wr.heap.size wr v1 := (by first | exact hv1 | exact hB0.drew.trans hv1)))
        all_goals
          have HBv : Hid (Below wr.heap.size wr v1) := hbv
          obtain ⟨⟨p0, p1⟩, p2, p3⟩ := HCL.out v1 hbv
          clear hv1
          go_wp2_with fail
          go_region_held3 (fun w' => w'.cell? ⟨wb, 0, none⟩ = some (.slice so sn sc) ∧ w'.cell? ⟨wb, 1, none⟩ = some (.slice lo ln lc) ∧ w'.cell? ⟨g, q * 2 + 1, none⟩ = some (.slice bo n2 c2))
            (exact HC9.out _ (by first | exact hbu | exact hbv | exact hbv.drew))
            ((go_at_call 11; refine (HCa.out _ (by first | exact hbv | exact hbv.drew)).2.mono ?_; rintro e v2 ⟨rfl, hv2⟩; have hbu : Below wr.heap.size wr v2 := (by first | exact hbv.drew.trans (hv2.mono hbv.size) | exact hbv.trans (hv2.mono hbv.size))))
          all_goals
            have HBu : Hid (Below wc.heap.size wc v2) := HB.out.trans (hbu.mono HB.out.size)
            clear hbu hv2 hbv HBv HCL HCa HC8 HC9 p0 p1 p2 p3 hB0
            cases r
            all_goals
              go_wp2_with fail
              go_roundw
              case rel => exact ⟨q + 1, by omega, by go_num, HBu⟩
              case measure => simp [intOf]; omega
      · have hqn : q = 6 := by omega
        subst hqn
        obtain ⟨hp0, hp1, hp2⟩ := HP.out wr HB.out
        have hmb := moments_bad (.slice xa xn xc) (.slice none 0 0) (.slice none 0 0) x [] [] 3 wr hp0 hp1 hp2 (by simp) (by simp) ⟨[], none, 0, rfl, fun _ => ⟨rfl, rfl⟩, LetsU.nil _, fun h => absurd rfl h⟩ ⟨[], none, 0, rfl, fun _ => ⟨rfl, rfl⟩, LetsU.nil _, fun h => absurd rfl h⟩ (by rw [HMC.out]; decide)
        rw [HMC.out] at hmb
        have hbr := HBF.out wr HB.out
        clear HQ HX HP HMC HBF HWC hp0 hp1 hp2
        go_wp2_with (go_at_call 9; refine hmb.mono ?_; rintro e w5 ⟨rfl, hb5⟩)
        go_ret
        exact ⟨by first | rfl | simp, hbr.trans (hb5.mono hbr.size)⟩
end Go.Proofs.YtbnhjbjlcnmjbaaDoor
