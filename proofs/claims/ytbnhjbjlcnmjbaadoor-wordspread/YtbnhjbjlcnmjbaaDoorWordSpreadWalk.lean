import Derived.Test.YtbnhjbjlcnmjbaaDoorKeepHolds2
import Derived.Test.YtbnhjbjlcnmjbaaDoorLawOps
import Derived.Test.YtbnhjbjlcnmjbaaDoorSpreadM
import Derived.Test.YtbnhjbjlcnmjbaaDoorKeepSmall
import Derived.Deep.RegionHeld3
import Derived.Deep.Cut
import Derived.Deep.CutBlock
import Derived.Deep.CutRange
import Derived.Deep.DeepCutAuto
namespace Go.Proofs.YtbnhjbjlcnmjbaaDoor
open Go.ChangeShapes Go.WideShapes Go.ChangeAt Go.RowKit Go.Deep
open Terms

/-- what the operations leave that put the laws together. -/
def wordSpreadP (xv yv zv : Value) (x y z : List (Int × Int)) : Nat → Value → World → Prop
  | 0, v, _ => v = xv
  | 1, v, _ => v = yv
  | 2, v, w => Two w v x y
  | 3, v, w => OpsV w v (((8 : Int), (0 : Int)) :: (x ++ y))
  | 4, v, w => One w v (((8 : Int), (0 : Int)) :: (x ++ y))
  | 5, v, w => OpsV w v (((18 : Int), (0 : Int)) :: (((8 : Int), (0 : Int)) :: (x ++ y)))
  | 6, v, _ => v = xv
  | 7, v, w => One w v x
  | 8, v, w => OpsV w v (((18 : Int), (0 : Int)) :: x)
  | 9, v, _ => v = yv
  | 10, v, w => One w v y
  | 11, v, w => OpsV w v (((18 : Int), (0 : Int)) :: y)
  | 12, v, w => Two w v (((18 : Int), (0 : Int)) :: x) (((18 : Int), (0 : Int)) :: y)
  | 13, v, w => OpsV w v (((8 : Int), (0 : Int)) :: ((((18 : Int), (0 : Int)) :: x) ++ (((18 : Int), (0 : Int)) :: y)))
  | 14, v, w => Pair w v (((18 : Int), (0 : Int)) :: (((8 : Int), (0 : Int)) :: (x ++ y))) (((8 : Int), (0 : Int)) :: ((((18 : Int), (0 : Int)) :: x) ++ (((18 : Int), (0 : Int)) :: y)))
  | 15, v, _ => v = xv
  | 16, v, _ => v = yv
  | 17, v, w => Two w v x y
  | 18, v, w => OpsV w v (((9 : Int), (0 : Int)) :: (x ++ y))
  | 19, v, w => One w v (((9 : Int), (0 : Int)) :: (x ++ y))
  | 20, v, w => OpsV w v (((17 : Int), (0 : Int)) :: (((9 : Int), (0 : Int)) :: (x ++ y)))
  | 21, v, _ => v = xv
  | 22, v, w => One w v x
  | 23, v, w => OpsV w v (((17 : Int), (0 : Int)) :: x)
  | 24, v, _ => v = yv
  | 25, v, w => One w v y
  | 26, v, w => OpsV w v (((17 : Int), (0 : Int)) :: y)
  | 27, v, w => Two w v (((17 : Int), (0 : Int)) :: x) (((17 : Int), (0 : Int)) :: y)
  | 28, v, w => OpsV w v (((9 : Int), (0 : Int)) :: ((((17 : Int), (0 : Int)) :: x) ++ (((17 : Int), (0 : Int)) :: y)))
  | 29, v, w => Pair w v (((17 : Int), (0 : Int)) :: (((9 : Int), (0 : Int)) :: (x ++ y))) (((9 : Int), (0 : Int)) :: ((((17 : Int), (0 : Int)) :: x) ++ (((17 : Int), (0 : Int)) :: y)))
  | 30, v, _ => v = xv
  | 31, v, _ => v = yv
  | 32, v, _ => v = zv
  | 33, v, w => Two w v y z
  | 34, v, w => OpsV w v (((9 : Int), (0 : Int)) :: (y ++ z))
  | 35, v, w => Two w v x (((9 : Int), (0 : Int)) :: (y ++ z))
  | 36, v, w => OpsV w v (((15 : Int), (0 : Int)) :: (x ++ (((9 : Int), (0 : Int)) :: (y ++ z))))
  | 37, v, _ => v = xv
  | 38, v, _ => v = yv
  | 39, v, w => Two w v x y
  | 40, v, w => OpsV w v (((15 : Int), (0 : Int)) :: (x ++ y))
  | 41, v, _ => v = xv
  | 42, v, _ => v = zv
  | 43, v, w => Two w v x z
  | 44, v, w => OpsV w v (((15 : Int), (0 : Int)) :: (x ++ z))
  | 45, v, w => Two w v (((15 : Int), (0 : Int)) :: (x ++ y)) (((15 : Int), (0 : Int)) :: (x ++ z))
  | 46, v, w => OpsV w v (((9 : Int), (0 : Int)) :: ((((15 : Int), (0 : Int)) :: (x ++ y)) ++ (((15 : Int), (0 : Int)) :: (x ++ z))))
  | 47, v, w => Pair w v (((15 : Int), (0 : Int)) :: (x ++ (((9 : Int), (0 : Int)) :: (y ++ z)))) (((9 : Int), (0 : Int)) :: ((((15 : Int), (0 : Int)) :: (x ++ y)) ++ (((15 : Int), (0 : Int)) :: (x ++ z))))
  | 48, v, _ => v = xv
  | 49, v, _ => v = yv
  | 50, v, w => Two w v x y
  | 51, v, w => OpsV w v (((8 : Int), (0 : Int)) :: (x ++ y))
  | 52, v, _ => v = zv
  | 53, v, w => Two w v (((8 : Int), (0 : Int)) :: (x ++ y)) z
  | 54, v, w => OpsV w v (((15 : Int), (0 : Int)) :: ((((8 : Int), (0 : Int)) :: (x ++ y)) ++ z))
  | 55, v, _ => v = xv
  | 56, v, _ => v = zv
  | 57, v, w => Two w v x z
  | 58, v, w => OpsV w v (((15 : Int), (0 : Int)) :: (x ++ z))
  | 59, v, _ => v = yv
  | 60, v, _ => v = zv
  | 61, v, w => Two w v y z
  | 62, v, w => OpsV w v (((15 : Int), (0 : Int)) :: (y ++ z))
  | 63, v, w => Two w v (((15 : Int), (0 : Int)) :: (x ++ z)) (((15 : Int), (0 : Int)) :: (y ++ z))
  | 64, v, w => OpsV w v (((8 : Int), (0 : Int)) :: ((((15 : Int), (0 : Int)) :: (x ++ z)) ++ (((15 : Int), (0 : Int)) :: (y ++ z))))
  | 65, v, w => Pair w v (((15 : Int), (0 : Int)) :: ((((8 : Int), (0 : Int)) :: (x ++ y)) ++ z)) (((8 : Int), (0 : Int)) :: ((((15 : Int), (0 : Int)) :: (x ++ z)) ++ (((15 : Int), (0 : Int)) :: (y ++ z))))
  | 66, v, _ => v = xv
  | 67, v, _ => v = yv
  | 68, v, w => Two w v x y
  | 69, v, w => OpsV w v (((8 : Int), (0 : Int)) :: (x ++ y))
  | 70, v, w => One w v (((8 : Int), (0 : Int)) :: (x ++ y))
  | 71, v, w => OpsV w v (((14 : Int), (0 : Int)) :: (((8 : Int), (0 : Int)) :: (x ++ y)))
  | 72, v, _ => v = xv
  | 73, v, w => One w v x
  | 74, v, w => OpsV w v (((14 : Int), (0 : Int)) :: x)
  | 75, v, _ => v = yv
  | 76, v, w => One w v y
  | 77, v, w => OpsV w v (((14 : Int), (0 : Int)) :: y)
  | 78, v, w => Two w v (((14 : Int), (0 : Int)) :: x) (((14 : Int), (0 : Int)) :: y)
  | 79, v, w => OpsV w v (((8 : Int), (0 : Int)) :: ((((14 : Int), (0 : Int)) :: x) ++ (((14 : Int), (0 : Int)) :: y)))
  | 80, v, w => Pair w v (((14 : Int), (0 : Int)) :: (((8 : Int), (0 : Int)) :: (x ++ y))) (((8 : Int), (0 : Int)) :: ((((14 : Int), (0 : Int)) :: x) ++ (((14 : Int), (0 : Int)) :: y)))
  | 81, v, w => LawsV w v [((((18 : Int), (0 : Int)) :: (((8 : Int), (0 : Int)) :: (x ++ y))), (((8 : Int), (0 : Int)) :: ((((18 : Int), (0 : Int)) :: x) ++ (((18 : Int), (0 : Int)) :: y)))), ((((17 : Int), (0 : Int)) :: (((9 : Int), (0 : Int)) :: (x ++ y))), (((9 : Int), (0 : Int)) :: ((((17 : Int), (0 : Int)) :: x) ++ (((17 : Int), (0 : Int)) :: y)))), ((((15 : Int), (0 : Int)) :: (x ++ (((9 : Int), (0 : Int)) :: (y ++ z)))), (((9 : Int), (0 : Int)) :: ((((15 : Int), (0 : Int)) :: (x ++ y)) ++ (((15 : Int), (0 : Int)) :: (x ++ z))))), ((((15 : Int), (0 : Int)) :: ((((8 : Int), (0 : Int)) :: (x ++ y)) ++ z)), (((8 : Int), (0 : Int)) :: ((((15 : Int), (0 : Int)) :: (x ++ z)) ++ (((15 : Int), (0 : Int)) :: (y ++ z))))), ((((14 : Int), (0 : Int)) :: (((8 : Int), (0 : Int)) :: (x ++ y))), (((8 : Int), (0 : Int)) :: ((((14 : Int), (0 : Int)) :: x) ++ (((14 : Int), (0 : Int)) :: y))))]
  | _, _, _ => True
theorem wordSpread_lt : ∀ i, i < 82 → i = 0 ∨ i = 1 ∨ i = 2 ∨ i = 3 ∨ i = 4 ∨ i = 5 ∨ i = 6 ∨ i = 7 ∨ i = 8 ∨ i = 9 ∨ i = 10 ∨ i = 11 ∨ i = 12 ∨ i = 13 ∨ i = 14 ∨ i = 15 ∨ i = 16 ∨ i = 17 ∨ i = 18 ∨ i = 19 ∨ i = 20 ∨ i = 21 ∨ i = 22 ∨ i = 23 ∨ i = 24 ∨ i = 25 ∨ i = 26 ∨ i = 27 ∨ i = 28 ∨ i = 29 ∨ i = 30 ∨ i = 31 ∨ i = 32 ∨ i = 33 ∨ i = 34 ∨ i = 35 ∨ i = 36 ∨ i = 37 ∨ i = 38 ∨ i = 39 ∨ i = 40 ∨ i = 41 ∨ i = 42 ∨ i = 43 ∨ i = 44 ∨ i = 45 ∨ i = 46 ∨ i = 47 ∨ i = 48 ∨ i = 49 ∨ i = 50 ∨ i = 51 ∨ i = 52 ∨ i = 53 ∨ i = 54 ∨ i = 55 ∨ i = 56 ∨ i = 57 ∨ i = 58 ∨ i = 59 ∨ i = 60 ∨ i = 61 ∨ i = 62 ∨ i = 63 ∨ i = 64 ∨ i = 65 ∨ i = 66 ∨ i = 67 ∨ i = 68 ∨ i = 69 ∨ i = 70 ∨ i = 71 ∨ i = 72 ∨ i = 73 ∨ i = 74 ∨ i = 75 ∨ i = 76 ∨ i = 77 ∨ i = 78 ∨ i = 79 ∨ i = 80 ∨ i = 81 := by intro i hi; omega
set_option maxHeartbeats 3200000 in
set_option maxRecDepth 20000 in
theorem wordSpreadP_stable (xv yv zv : Value) (x y z : List (Int × Int)) (i : Nat) (v : Value) (w w' : World) (hlt : i < 82) (h : wordSpreadP xv yv zv x y z i v w) (hb : Below w.heap.size w w') : wordSpreadP xv yv zv x y z i v w' := by
  rcases wordSpread_lt i hlt with rfl | rfl | rfl | rfl | rfl | rfl | rfl | rfl | rfl | rfl | rfl | rfl | rfl | rfl | rfl | rfl | rfl | rfl | rfl | rfl | rfl | rfl | rfl | rfl | rfl | rfl | rfl | rfl | rfl | rfl | rfl | rfl | rfl | rfl | rfl | rfl | rfl | rfl | rfl | rfl | rfl | rfl | rfl | rfl | rfl | rfl | rfl | rfl | rfl | rfl | rfl | rfl | rfl | rfl | rfl | rfl | rfl | rfl | rfl | rfl | rfl | rfl | rfl | rfl | rfl | rfl | rfl | rfl | rfl | rfl | rfl | rfl | rfl | rfl | rfl | rfl | rfl | rfl | rfl | rfl | rfl | rfl
  · exact h
  · exact h
  · exact Two.below (w := w) h hb
  · exact OpsV.below (w := w) h hb
  · exact One.below (w := w) h hb
  · exact OpsV.below (w := w) h hb
  · exact h
  · exact One.below (w := w) h hb
  · exact OpsV.below (w := w) h hb
  · exact h
  · exact One.below (w := w) h hb
  · exact OpsV.below (w := w) h hb
  · exact Two.below (w := w) h hb
  · exact OpsV.below (w := w) h hb
  · exact Pair.below (w := w) h hb
  · exact h
  · exact h
  · exact Two.below (w := w) h hb
  · exact OpsV.below (w := w) h hb
  · exact One.below (w := w) h hb
  · exact OpsV.below (w := w) h hb
  · exact h
  · exact One.below (w := w) h hb
  · exact OpsV.below (w := w) h hb
  · exact h
  · exact One.below (w := w) h hb
  · exact OpsV.below (w := w) h hb
  · exact Two.below (w := w) h hb
  · exact OpsV.below (w := w) h hb
  · exact Pair.below (w := w) h hb
  · exact h
  · exact h
  · exact h
  · exact Two.below (w := w) h hb
  · exact OpsV.below (w := w) h hb
  · exact Two.below (w := w) h hb
  · exact OpsV.below (w := w) h hb
  · exact h
  · exact h
  · exact Two.below (w := w) h hb
  · exact OpsV.below (w := w) h hb
  · exact h
  · exact h
  · exact Two.below (w := w) h hb
  · exact OpsV.below (w := w) h hb
  · exact Two.below (w := w) h hb
  · exact OpsV.below (w := w) h hb
  · exact Pair.below (w := w) h hb
  · exact h
  · exact h
  · exact Two.below (w := w) h hb
  · exact OpsV.below (w := w) h hb
  · exact h
  · exact Two.below (w := w) h hb
  · exact OpsV.below (w := w) h hb
  · exact h
  · exact h
  · exact Two.below (w := w) h hb
  · exact OpsV.below (w := w) h hb
  · exact h
  · exact h
  · exact Two.below (w := w) h hb
  · exact OpsV.below (w := w) h hb
  · exact Two.below (w := w) h hb
  · exact OpsV.below (w := w) h hb
  · exact Pair.below (w := w) h hb
  · exact h
  · exact h
  · exact Two.below (w := w) h hb
  · exact OpsV.below (w := w) h hb
  · exact One.below (w := w) h hb
  · exact OpsV.below (w := w) h hb
  · exact h
  · exact One.below (w := w) h hb
  · exact OpsV.below (w := w) h hb
  · exact h
  · exact One.below (w := w) h hb
  · exact OpsV.below (w := w) h hb
  · exact Two.below (w := w) h hb
  · exact OpsV.below (w := w) h hb
  · exact Pair.below (w := w) h hb
  · exact LawsV.below (w := w) h hb

set_option maxHeartbeats 6400000 in
set_option maxRecDepth 20000 in
theorem wordSpread_walk (xv yv zv s0 s1 : Value) (xs ys zs : List (Int × Int)) (a b : List Int) (w : World) (hB : 0 < w.heap.size) (hT : TabAt w) (hRx : Raws w w.heap.size xv xs) (hRy : Raws w w.heap.size yv ys) (hRz : Raws w w.heap.size zv zs) (hA : IntsR w s0 a) (hBb : IntsR w s1 b) :
    Calls Tryd.prog 5 #[xv, yv, zv, .agg #[s0, s1]] w fun e w' => e = .returned (.bool true) ∧ Below w.heap.size w w' := by
  have HWo : Hid (∀ w1, Below w.heap.size w w1 → Calls Tryd.prog 7 #[.agg #[s0, s1]] w1 fun e w' => ∃ so sc lo lc ss ll, e = .returned (.agg #[.slice so ss.length sc, .slice lo ll.length lc]) ∧ Below w1.heap.size w1 w' ∧ Hid (WOk ss ll) ∧ Hid (LettersV w' (.slice so ss.length sc) ss ∧ LettersV w' (.slice lo ll.length lc) ll)) := fun w1 h => wordFn_any s0 s1 a b w1 (hA.below h) (hBb.below h)
  have HFx : Hid (∀ w1, Below w.heap.size w w1 → Calls Tryd.prog 12 #[xv] w1 fun e w' => ∃ a c t T m, e = .returned (.slice a t.length c) ∧ Below w1.heap.size w1 w' ∧ Hid (KFor w' (.slice a t.length c) 1 t T m ∧ t.length ≤ 7)) := fun w1 h => smallFn_any xv xs w1 (hRx.up h)
  have HFy : Hid (∀ w1, Below w.heap.size w w1 → Calls Tryd.prog 12 #[yv] w1 fun e w' => ∃ a c t T m, e = .returned (.slice a t.length c) ∧ Below w1.heap.size w1 w' ∧ Hid (KFor w' (.slice a t.length c) 1 t T m ∧ t.length ≤ 7)) := fun w1 h => smallFn_any yv ys w1 (hRy.up h)
  have HFz : Hid (∀ w1, Below w.heap.size w w1 → Calls Tryd.prog 12 #[zv] w1 fun e w' => ∃ a c t T m, e = .returned (.slice a t.length c) ∧ Below w1.heap.size w1 w' ∧ Hid (KFor w' (.slice a t.length c) 1 t T m ∧ t.length ≤ 7)) := fun w1 h => smallFn_any zv zs w1 (hRz.up h)
  obtain ⟨xq0, xq1, xq2, rfl⟩ : ∃ a n c, xv = .slice a n c := by obtain ⟨⟨a, c, h, _⟩, _, _⟩ := hRx; exact ⟨_, _, _, h⟩
  obtain ⟨yq0, yq1, yq2, rfl⟩ : ∃ a n c, yv = .slice a n c := by obtain ⟨⟨a, c, h, _⟩, _, _⟩ := hRy; exact ⟨_, _, _, h⟩
  obtain ⟨zq0, zq1, zq2, rfl⟩ : ∃ a n c, zv = .slice a n c := by obtain ⟨⟨a, c, h, _⟩, _, _⟩ := hRz; exact ⟨_, _, _, h⟩
  obtain ⟨e0, e1, e2, rfl⟩ : ∃ a n c, s0 = .slice a n c := by obtain ⟨a, c, h, _⟩ := hA.v; exact ⟨_, _, _, h⟩
  obtain ⟨g0, g1, g2, rfl⟩ : ∃ a n c, s1 = .slice a n c := by obtain ⟨a, c, h, _⟩ := hBb.v; exact ⟨_, _, _, h⟩
  have hA0 : ∀ o, Below w.heap.size w (w.alloc o) := fun o => (Below.refl _ _).alloc (Nat.le_refl _) o
  have HT : Hid (0 < w.heap.size ∧ TabAt w) := ⟨hB, hT⟩
  clear hRx hRy hRz hA hBb hT hB
  go_enter Tryd.func5, Tryd.ntmps5
  go_upto_region 5 with (first | (go_at_call 7; refine (HWo.out _ (by first | exact Below.refl _ _ | exact hA0 _)).mono ?_; rintro e w1 ⟨so, sc, lo, lc, ss, ll, rfl, hb1, HWk, HLs⟩; have hbw1 : Below w.heap.size w w1 := (by first | exact hb1 | exact (hA0 _).trans (hb1.mono (hA0 _).size)); have hbA := hbw1.alloc hbw1.size (.cells #[.slice so ss.length sc, .slice lo ll.length lc] 28); have hq0 := HFx.out _ hbA) | (go_at_call_of 12 xq1; refine hq0.mono ?_; rintro e v0 ⟨xa, xc, x, Tx, mx, rfl, hbf0, H7x⟩; have Hx := (show Hid _ from H7x.out.1); have hbF0 := hbA.trans (hbf0.mono hbA.size); have hq1 := HFy.out _ hbF0) | (go_at_call_of 12 yq1; refine hq1.mono ?_; rintro e v1 ⟨ya, yc, y, Ty, my, rfl, hbf1, H7y⟩; have Hy := (show Hid _ from H7y.out.1); have hbF1 := hbF0.trans (hbf1.mono hbF0.size); have hq2 := HFz.out _ hbF1) | (go_at_call_of 12 zq1; refine hq2.mono ?_; rintro e v2 ⟨za, zc, z, Tz, mz, rfl, hbf2, H7z⟩; have Hz := (show Hid _ from H7z.out.1); have hbF2 := hbF1.trans (hbf2.mono hbF1.size); have HK := (show Hid _ from KCtx.start HT.out hbw1 HLs.out HWk.out (((hbf0).trans (hbf1.mono (hbf0).size)).trans (hbf2.mono ((hbf0).trans (hbf1.mono (hbf0).size)).size))); have hkc := HK.out.c0; have hkd := HK.out.c1; have hklt := HK.out.lt; have hs5 : ss.length ≤ 5 := HWk.out.stem; have hl5 : ll.length ≤ 5 := HWk.out.loop))
  have Sx : Hid (x.length ≤ 7) := H7x.out.2
  clear H7x
  have Kx : Hid (KFor v2 (.slice xa x.length xc) 1 x Tx mx) := Hx.out.later ((hbf1).trans (hbf2.mono (hbf1).size))
  have Sy : Hid (y.length ≤ 7) := H7y.out.2
  clear H7y
  have Ky : Hid (KFor v2 (.slice ya y.length yc) 1 y Ty my) := Hy.out.later (hbf2)
  have Sz : Hid (z.length ≤ 7) := H7z.out.2
  clear H7z
  have Kz : Hid (KFor v2 (.slice za z.length zc) 1 z Tz mz) := Hz
  have HC0 : Hid (Below v2.heap.size v2 v2) := Below.refl _ _
  clear HFx Hx HFy Hy HFz Hz HWo HLs HWk HT hA0 hbA hbw1 hb1 hkc hkd hs5 hl5 hklt hbf0 hbF0 hq0 hbf1 hbF1 hq1 hbf2 hbF2 hq2
  generalize w1.heap.size = wb at *
  generalize v2 = w3 at *
  generalize hxn : x.length = xn at *
  have Lx : Hid (x.length = xn) := hxn
  clear hxn
  generalize hyn : y.length = yn at *
  have Ly : Hid (y.length = yn) := hyn
  clear hyn
  generalize hzn : z.length = zn at *
  have Lz : Hid (z.length = zn) := hzn
  clear hzn
  generalize hsn : ss.length = sn at *
  generalize hln : ll.length = ln at *
  have LS : Hid (ss.length = sn) := hsn
  have LL : Hid (ll.length = ln) := hln
  clear hsn hln
  have lx : x.length ≤ 7 := by rw [Lx.out]; exact Sx.out
  have ly : y.length ≤ 7 := by rw [Ly.out]; exact Sy.out
  have lz : z.length ≤ 7 := by rw [Lz.out]; exact Sz.out
  have hs5 : sn ≤ 5 := by rw [← LS.out]; exact HK.out.ok.stem
  have hl5 : ln ≤ 5 := by rw [← LL.out]; exact HK.out.ok.loop
  have hL : (.slice xa xn xc : Value) = .slice xa x.length xc ∧ (.slice ya yn yc : Value) = .slice ya y.length yc ∧ (.slice za zn zc : Value) = .slice za z.length zc := ⟨by rw [Lx.out], by rw [Ly.out], by rw [Lz.out]⟩
  clear hL
  go_cut [13] (fun sv wx => ∃ g, sv = .slice (some ⟨g, 0, none⟩) 5 5 ∧ Hid (LawsV wx (.slice (some ⟨g, 0, none⟩) 5 5) [((((18 : Int), (0 : Int)) :: (((8 : Int), (0 : Int)) :: (x ++ y))), (((8 : Int), (0 : Int)) :: ((((18 : Int), (0 : Int)) :: x) ++ (((18 : Int), (0 : Int)) :: y)))), ((((17 : Int), (0 : Int)) :: (((9 : Int), (0 : Int)) :: (x ++ y))), (((9 : Int), (0 : Int)) :: ((((17 : Int), (0 : Int)) :: x) ++ (((17 : Int), (0 : Int)) :: y)))), ((((15 : Int), (0 : Int)) :: (x ++ (((9 : Int), (0 : Int)) :: (y ++ z)))), (((9 : Int), (0 : Int)) :: ((((15 : Int), (0 : Int)) :: (x ++ y)) ++ (((15 : Int), (0 : Int)) :: (x ++ z))))), ((((15 : Int), (0 : Int)) :: ((((8 : Int), (0 : Int)) :: (x ++ y)) ++ z)), (((8 : Int), (0 : Int)) :: ((((15 : Int), (0 : Int)) :: (x ++ z)) ++ (((15 : Int), (0 : Int)) :: (y ++ z))))), ((((14 : Int), (0 : Int)) :: (((8 : Int), (0 : Int)) :: (x ++ y))), (((8 : Int), (0 : Int)) :: ((((14 : Int), (0 : Int)) :: x) ++ (((14 : Int), (0 : Int)) :: y))))] ∧ Below w3.heap.size w3 wx))
  case first =>
    rename_i J K' hJ hK'
    generalize ha0 : Act.mk _ _ = a0
    have hsz : a0.tmps.size = 159 := by rw [← ha0]; rfl
    have a10 : a0.eval (.tmp 10) = .slice xa xn xc := by rw [← ha0]; rfl
    have a11 : a0.eval (.tmp 11) = .slice ya yn yc := by rw [← ha0]; rfl
    have a12 : a0.eval (.tmp 12) = .slice za zn zc := by rw [← ha0]; rfl
    have hVx : ∀ w', Below w3.heap.size w3 w' → OpsV w' (.slice xa xn xc) x := fun w' hb => Kx.out.v.below hb
    have hVy : ∀ w', Below w3.heap.size w3 w' → OpsV w' (.slice ya yn yc) y := fun w' hb => Ky.out.v.below hb
    have hVz : ∀ w', Below w3.heap.size w3 w' → OpsV w' (.slice za zn zc) z := fun w' hb => Kz.out.v.below hb
    refine wp_inorder [29, 30, 31, 32, 33, 34, 35, 36, 37, 38, 39, 40, 41, 42, 43, 44, 45, 46, 47, 48, 49, 50, 51, 52, 53, 54, 55, 56, 57, 58, 59, 60, 61, 62, 63, 64, 65, 66, 67, 68, 69, 70, 71, 72, 73, 74, 75, 76, 77, 78, 79, 80, 81, 82, 83, 84, 85, 86, 87, 88, 89, 90, 91, 92, 93, 94, 95, 96, 97, 98, 99, 100, 101, 102, 103, 104, 105, 106, 107, 108, 109, 110, 13] 82 (wordSpreadP (.slice xa xn xc) (.slice ya yn yc) (.slice za zn zc) x y z) (by rw [hsz]; rfl) (wordSpreadP_stable _ _ _ _ _ _ ) ?_ ?_
    · intro i o hi ho q w' hb hq
      have f : ∀ t, [29, 30, 31, 32, 33, 34, 35, 36, 37, 38, 39, 40, 41, 42, 43, 44, 45, 46, 47, 48, 49, 50, 51, 52, 53, 54, 55, 56, 57, 58, 59, 60, 61, 62, 63, 64, 65, 66, 67, 68, 69, 70, 71, 72, 73, 74, 75, 76, 77, 78, 79, 80, 81, 82, 83, 84, 85, 86, 87, 88, 89, 90, 91, 92, 93, 94, 95, 96, 97, 98, 99, 100, 101, 102, 103, 104, 105, 106, 107, 108, 109, 110, 13].contains t = true → t < 159 → (frm a0 [29, 30, 31, 32, 33, 34, 35, 36, 37, 38, 39, 40, 41, 42, 43, 44, 45, 46, 47, 48, 49, 50, 51, 52, 53, 54, 55, 56, 57, 58, 59, 60, 61, 62, 63, 64, 65, 66, 67, 68, 69, 70, 71, 72, 73, 74, 75, 76, 77, 78, 79, 80, 81, 82, 83, 84, 85, 86, 87, 88, 89, 90, 91, 92, 93, 94, 95, 96, 97, 98, 99, 100, 101, 102, 103, 104, 105, 106, 107, 108, 109, 110, 13] q).eval (.tmp t) = q t := fun t h1 h2 => frm_in h1 (by rw [hsz]; exact h2)
      rcases wordSpread_lt i hi with rfl | rfl | rfl | rfl | rfl | rfl | rfl | rfl | rfl | rfl | rfl | rfl | rfl | rfl | rfl | rfl | rfl | rfl | rfl | rfl | rfl | rfl | rfl | rfl | rfl | rfl | rfl | rfl | rfl | rfl | rfl | rfl | rfl | rfl | rfl | rfl | rfl | rfl | rfl | rfl | rfl | rfl | rfl | rfl | rfl | rfl | rfl | rfl | rfl | rfl | rfl | rfl | rfl | rfl | rfl | rfl | rfl | rfl | rfl | rfl | rfl | rfl | rfl | rfl | rfl | rfl | rfl | rfl | rfl | rfl | rfl | rfl | rfl | rfl | rfl | rfl | rfl | rfl | rfl | rfl | rfl | rfl
      all_goals obtain rfl := Option.some.inj ho
      · exact st_move rfl ((frm_out rfl).trans a10)
      · exact st_move rfl ((frm_out rfl).trans a11)
      · exact st_two rfl ((f 29 rfl (by decide)).trans (hq 0 29 rfl rfl)) ((f 30 rfl (by decide)).trans (hq 1 30 rfl rfl)) (hVx w' hb) (hVy w' hb)
      · exact st_join2 rfl (by rw [(f 31 rfl (by decide))]; exact (hq 2 31 rfl rfl)) (by have := lx; omega) (by have := ly; omega) Kx.out.ne Ky.out.ne
      · exact st_one rfl (f 32 rfl (by decide)) (hq 3 32 rfl rfl)
      · exact st_join1 rfl (by rw [(f 33 rfl (by decide))]; exact (hq 4 33 rfl rfl)) (by have := lx; have := ly; simp; omega) (by simp)
      · exact st_move rfl ((frm_out rfl).trans a10)
      · exact st_one rfl ((f 35 rfl (by decide)).trans (hq 6 35 rfl rfl)) (hVx w' hb)
      · exact st_join1 rfl (by rw [(f 36 rfl (by decide))]; exact (hq 7 36 rfl rfl)) (by have := lx; omega) Kx.out.ne
      · exact st_move rfl ((frm_out rfl).trans a11)
      · exact st_one rfl ((f 38 rfl (by decide)).trans (hq 9 38 rfl rfl)) (hVy w' hb)
      · exact st_join1 rfl (by rw [(f 39 rfl (by decide))]; exact (hq 10 39 rfl rfl)) (by have := ly; omega) Ky.out.ne
      · exact st_two rfl (f 37 rfl (by decide)) (f 40 rfl (by decide)) (hq 8 37 rfl rfl) (hq 11 40 rfl rfl)
      · exact st_join2 rfl (by rw [(f 41 rfl (by decide))]; exact (hq 12 41 rfl rfl)) (by have := lx; simp; omega) (by have := ly; simp; omega) (by simp) (by simp)
      · exact st_pair rfl (by rw [(f 34 rfl (by decide))]; exact (hq 5 34 rfl rfl)) (by rw [(f 42 rfl (by decide))]; exact (hq 13 42 rfl rfl))
      · exact st_move rfl ((frm_out rfl).trans a10)
      · exact st_move rfl ((frm_out rfl).trans a11)
      · exact st_two rfl ((f 44 rfl (by decide)).trans (hq 15 44 rfl rfl)) ((f 45 rfl (by decide)).trans (hq 16 45 rfl rfl)) (hVx w' hb) (hVy w' hb)
      · exact st_join2 rfl (by rw [(f 46 rfl (by decide))]; exact (hq 17 46 rfl rfl)) (by have := lx; omega) (by have := ly; omega) Kx.out.ne Ky.out.ne
      · exact st_one rfl (f 47 rfl (by decide)) (hq 18 47 rfl rfl)
      · exact st_join1 rfl (by rw [(f 48 rfl (by decide))]; exact (hq 19 48 rfl rfl)) (by have := lx; have := ly; simp; omega) (by simp)
      · exact st_move rfl ((frm_out rfl).trans a10)
      · exact st_one rfl ((f 50 rfl (by decide)).trans (hq 21 50 rfl rfl)) (hVx w' hb)
      · exact st_join1 rfl (by rw [(f 51 rfl (by decide))]; exact (hq 22 51 rfl rfl)) (by have := lx; omega) Kx.out.ne
      · exact st_move rfl ((frm_out rfl).trans a11)
      · exact st_one rfl ((f 53 rfl (by decide)).trans (hq 24 53 rfl rfl)) (hVy w' hb)
      · exact st_join1 rfl (by rw [(f 54 rfl (by decide))]; exact (hq 25 54 rfl rfl)) (by have := ly; omega) Ky.out.ne
      · exact st_two rfl (f 52 rfl (by decide)) (f 55 rfl (by decide)) (hq 23 52 rfl rfl) (hq 26 55 rfl rfl)
      · exact st_join2 rfl (by rw [(f 56 rfl (by decide))]; exact (hq 27 56 rfl rfl)) (by have := lx; simp; omega) (by have := ly; simp; omega) (by simp) (by simp)
      · exact st_pair rfl (by rw [(f 49 rfl (by decide))]; exact (hq 20 49 rfl rfl)) (by rw [(f 57 rfl (by decide))]; exact (hq 28 57 rfl rfl))
      · exact st_move rfl ((frm_out rfl).trans a10)
      · exact st_move rfl ((frm_out rfl).trans a11)
      · exact st_move rfl ((frm_out rfl).trans a12)
      · exact st_two rfl ((f 60 rfl (by decide)).trans (hq 31 60 rfl rfl)) ((f 61 rfl (by decide)).trans (hq 32 61 rfl rfl)) (hVy w' hb) (hVz w' hb)
      · exact st_join2 rfl (by rw [(f 62 rfl (by decide))]; exact (hq 33 62 rfl rfl)) (by have := ly; omega) (by have := lz; omega) Ky.out.ne Kz.out.ne
      · exact st_two rfl ((f 59 rfl (by decide)).trans (hq 30 59 rfl rfl)) (f 63 rfl (by decide)) (hVx w' hb) (hq 34 63 rfl rfl)
      · exact st_join2 rfl (by rw [(f 64 rfl (by decide))]; exact (hq 35 64 rfl rfl)) (by have := lx; omega) (by have := ly; have := lz; simp; omega) Kx.out.ne (by simp)
      · exact st_move rfl ((frm_out rfl).trans a10)
      · exact st_move rfl ((frm_out rfl).trans a11)
      · exact st_two rfl ((f 66 rfl (by decide)).trans (hq 37 66 rfl rfl)) ((f 67 rfl (by decide)).trans (hq 38 67 rfl rfl)) (hVx w' hb) (hVy w' hb)
      · exact st_join2 rfl (by rw [(f 68 rfl (by decide))]; exact (hq 39 68 rfl rfl)) (by have := lx; omega) (by have := ly; omega) Kx.out.ne Ky.out.ne
      · exact st_move rfl ((frm_out rfl).trans a10)
      · exact st_move rfl ((frm_out rfl).trans a12)
      · exact st_two rfl ((f 70 rfl (by decide)).trans (hq 41 70 rfl rfl)) ((f 71 rfl (by decide)).trans (hq 42 71 rfl rfl)) (hVx w' hb) (hVz w' hb)
      · exact st_join2 rfl (by rw [(f 72 rfl (by decide))]; exact (hq 43 72 rfl rfl)) (by have := lx; omega) (by have := lz; omega) Kx.out.ne Kz.out.ne
      · exact st_two rfl (f 69 rfl (by decide)) (f 73 rfl (by decide)) (hq 40 69 rfl rfl) (hq 44 73 rfl rfl)
      · exact st_join2 rfl (by rw [(f 74 rfl (by decide))]; exact (hq 45 74 rfl rfl)) (by have := lx; have := ly; simp; omega) (by have := lx; have := lz; simp; omega) (by simp) (by simp)
      · exact st_pair rfl (by rw [(f 65 rfl (by decide))]; exact (hq 36 65 rfl rfl)) (by rw [(f 75 rfl (by decide))]; exact (hq 46 75 rfl rfl))
      · exact st_move rfl ((frm_out rfl).trans a10)
      · exact st_move rfl ((frm_out rfl).trans a11)
      · exact st_two rfl ((f 77 rfl (by decide)).trans (hq 48 77 rfl rfl)) ((f 78 rfl (by decide)).trans (hq 49 78 rfl rfl)) (hVx w' hb) (hVy w' hb)
      · exact st_join2 rfl (by rw [(f 79 rfl (by decide))]; exact (hq 50 79 rfl rfl)) (by have := lx; omega) (by have := ly; omega) Kx.out.ne Ky.out.ne
      · exact st_move rfl ((frm_out rfl).trans a12)
      · exact st_two rfl (f 80 rfl (by decide)) ((f 81 rfl (by decide)).trans (hq 52 81 rfl rfl)) (hq 51 80 rfl rfl) (hVz w' hb)
      · exact st_join2 rfl (by rw [(f 82 rfl (by decide))]; exact (hq 53 82 rfl rfl)) (by have := lx; have := ly; simp; omega) (by have := lz; omega) (by simp) Kz.out.ne
      · exact st_move rfl ((frm_out rfl).trans a10)
      · exact st_move rfl ((frm_out rfl).trans a12)
      · exact st_two rfl ((f 84 rfl (by decide)).trans (hq 55 84 rfl rfl)) ((f 85 rfl (by decide)).trans (hq 56 85 rfl rfl)) (hVx w' hb) (hVz w' hb)
      · exact st_join2 rfl (by rw [(f 86 rfl (by decide))]; exact (hq 57 86 rfl rfl)) (by have := lx; omega) (by have := lz; omega) Kx.out.ne Kz.out.ne
      · exact st_move rfl ((frm_out rfl).trans a11)
      · exact st_move rfl ((frm_out rfl).trans a12)
      · exact st_two rfl ((f 88 rfl (by decide)).trans (hq 59 88 rfl rfl)) ((f 89 rfl (by decide)).trans (hq 60 89 rfl rfl)) (hVy w' hb) (hVz w' hb)
      · exact st_join2 rfl (by rw [(f 90 rfl (by decide))]; exact (hq 61 90 rfl rfl)) (by have := ly; omega) (by have := lz; omega) Ky.out.ne Kz.out.ne
      · exact st_two rfl (f 87 rfl (by decide)) (f 91 rfl (by decide)) (hq 58 87 rfl rfl) (hq 62 91 rfl rfl)
      · exact st_join2 rfl (by rw [(f 92 rfl (by decide))]; exact (hq 63 92 rfl rfl)) (by have := lx; have := lz; simp; omega) (by have := ly; have := lz; simp; omega) (by simp) (by simp)
      · exact st_pair rfl (by rw [(f 83 rfl (by decide))]; exact (hq 54 83 rfl rfl)) (by rw [(f 93 rfl (by decide))]; exact (hq 64 93 rfl rfl))
      · exact st_move rfl ((frm_out rfl).trans a10)
      · exact st_move rfl ((frm_out rfl).trans a11)
      · exact st_two rfl ((f 95 rfl (by decide)).trans (hq 66 95 rfl rfl)) ((f 96 rfl (by decide)).trans (hq 67 96 rfl rfl)) (hVx w' hb) (hVy w' hb)
      · exact st_join2 rfl (by rw [(f 97 rfl (by decide))]; exact (hq 68 97 rfl rfl)) (by have := lx; omega) (by have := ly; omega) Kx.out.ne Ky.out.ne
      · exact st_one rfl (f 98 rfl (by decide)) (hq 69 98 rfl rfl)
      · exact st_join1 rfl (by rw [(f 99 rfl (by decide))]; exact (hq 70 99 rfl rfl)) (by have := lx; have := ly; simp; omega) (by simp)
      · exact st_move rfl ((frm_out rfl).trans a10)
      · exact st_one rfl ((f 101 rfl (by decide)).trans (hq 72 101 rfl rfl)) (hVx w' hb)
      · exact st_join1 rfl (by rw [(f 102 rfl (by decide))]; exact (hq 73 102 rfl rfl)) (by have := lx; omega) Kx.out.ne
      · exact st_move rfl ((frm_out rfl).trans a11)
      · exact st_one rfl ((f 104 rfl (by decide)).trans (hq 75 104 rfl rfl)) (hVy w' hb)
      · exact st_join1 rfl (by rw [(f 105 rfl (by decide))]; exact (hq 76 105 rfl rfl)) (by have := ly; omega) Ky.out.ne
      · exact st_two rfl (f 103 rfl (by decide)) (f 106 rfl (by decide)) (hq 74 103 rfl rfl) (hq 77 106 rfl rfl)
      · exact st_join2 rfl (by rw [(f 107 rfl (by decide))]; exact (hq 78 107 rfl rfl)) (by have := lx; simp; omega) (by have := ly; simp; omega) (by simp) (by simp)
      · exact st_pair rfl (by rw [(f 100 rfl (by decide))]; exact (hq 71 100 rfl rfl)) (by rw [(f 108 rfl (by decide))]; exact (hq 79 108 rfl rfl))
      · obtain ⟨ev, hev⟩ : ∃ ev, ev = (frm a0 [29, 30, 31, 32, 33, 34, 35, 36, 37, 38, 39, 40, 41, 42, 43, 44, 45, 46, 47, 48, 49, 50, 51, 52, 53, 54, 55, 56, 57, 58, 59, 60, 61, 62, 63, 64, 65, 66, 67, 68, 69, 70, 71, 72, 73, 74, 75, 76, 77, 78, 79, 80, 81, 82, 83, 84, 85, 86, 87, 88, 89, 90, 91, 92, 93, 94, 95, 96, 97, 98, 99, 100, 101, 102, 103, 104, 105, 106, 107, 108, 109, 110, 13] q).eval := ⟨_, rfl⟩
        rw [← hev] at f
        obtain ⟨ao0, co0, bo0, do0, he0, hx0, hy0⟩ := pair_slices (hq 14 43 rfl rfl)
        have e0 := (f 43 rfl (by decide)).trans he0
        obtain ⟨ao1, co1, bo1, do1, he1, hx1, hy1⟩ := pair_slices (hq 29 58 rfl rfl)
        have e1 := (f 58 rfl (by decide)).trans he1
        obtain ⟨ao2, co2, bo2, do2, he2, hx2, hy2⟩ := pair_slices (hq 47 76 rfl rfl)
        have e2 := (f 76 rfl (by decide)).trans he2
        obtain ⟨ao3, co3, bo3, do3, he3, hx3, hy3⟩ := pair_slices (hq 65 94 rfl rfl)
        have e3 := (f 94 rfl (by decide)).trans he3
        obtain ⟨ao4, co4, bo4, do4, he4, hx4, hy4⟩ := pair_slices (hq 80 109 rfl rfl)
        have e4 := (f 109 rfl (by decide)).trans he4
        generalize hp0 : ((((18 : Int), (0 : Int)) :: (((8 : Int), (0 : Int)) :: (x ++ y))) : List (Int × Int)).length = p0 at he0 hx0 e0
        generalize hr0 : ((((8 : Int), (0 : Int)) :: ((((18 : Int), (0 : Int)) :: x) ++ (((18 : Int), (0 : Int)) :: y))) : List (Int × Int)).length = r0 at he0 hy0 e0
        generalize hp1 : ((((17 : Int), (0 : Int)) :: (((9 : Int), (0 : Int)) :: (x ++ y))) : List (Int × Int)).length = p1 at he1 hx1 e1
        generalize hr1 : ((((9 : Int), (0 : Int)) :: ((((17 : Int), (0 : Int)) :: x) ++ (((17 : Int), (0 : Int)) :: y))) : List (Int × Int)).length = r1 at he1 hy1 e1
        generalize hp2 : ((((15 : Int), (0 : Int)) :: (x ++ (((9 : Int), (0 : Int)) :: (y ++ z)))) : List (Int × Int)).length = p2 at he2 hx2 e2
        generalize hr2 : ((((9 : Int), (0 : Int)) :: ((((15 : Int), (0 : Int)) :: (x ++ y)) ++ (((15 : Int), (0 : Int)) :: (x ++ z)))) : List (Int × Int)).length = r2 at he2 hy2 e2
        generalize hp3 : ((((15 : Int), (0 : Int)) :: ((((8 : Int), (0 : Int)) :: (x ++ y)) ++ z)) : List (Int × Int)).length = p3 at he3 hx3 e3
        generalize hr3 : ((((8 : Int), (0 : Int)) :: ((((15 : Int), (0 : Int)) :: (x ++ z)) ++ (((15 : Int), (0 : Int)) :: (y ++ z)))) : List (Int × Int)).length = r3 at he3 hy3 e3
        generalize hp4 : ((((14 : Int), (0 : Int)) :: (((8 : Int), (0 : Int)) :: (x ++ y))) : List (Int × Int)).length = p4 at he4 hx4 e4
        generalize hr4 : ((((8 : Int), (0 : Int)) :: ((((14 : Int), (0 : Int)) :: x) ++ (((14 : Int), (0 : Int)) :: y))) : List (Int × Int)).length = r4 at he4 hy4 e4
        have hA : Below w'.heap.size w' (w'.alloc (.cells #[.slice ao0 p0 co0, .slice bo0 r0 do0, .slice ao1 p1 co1, .slice bo1 r1 do1, .slice ao2 p2 co2, .slice bo2 r2 do2, .slice ao3 p3 co3, .slice bo3 r3 do3, .slice ao4 p4 co4, .slice bo4 r4 do4] 44)) := (Below.refl _ _).alloc (Nat.le_refl _) _
        refine op_val (w' := w'.alloc (.cells #[.slice ao0 p0 co0, .slice bo0 r0 do0, .slice ao1 p1 co1, .slice bo1 r1 do1, .slice ao2 p2 co2, .slice bo2 r2 do2, .slice ao3 p3 co3, .slice bo3 r3 do3, .slice ao4 p4 co4, .slice bo4 r4 do4] 44)) (v := .slice (some ⟨w'.heap.size, 0, none⟩) 5 5) ?_ hA ⟨_, rfl, by simp, fun i hi => ?_⟩
        · rw [← hev]
          simp [execOp, e0, e1, e2, e3, e4, go_sem]
        · have hc : i = 0 ∨ i = 1 ∨ i = 2 ∨ i = 3 ∨ i = 4 := by have : i < 5 := hi; omega
          rcases hc with rfl | rfl | rfl | rfl | rfl
          · exact ⟨_, _, by simp [go_sem], by simp [go_sem], OpsV.below hx0 hA, OpsV.below hy0 hA⟩
          · exact ⟨_, _, by simp [go_sem], by simp [go_sem], OpsV.below hx1 hA, OpsV.below hy1 hA⟩
          · exact ⟨_, _, by simp [go_sem], by simp [go_sem], OpsV.below hx2 hA, OpsV.below hy2 hA⟩
          · exact ⟨_, _, by simp [go_sem], by simp [go_sem], OpsV.below hx3 hA, OpsV.below hy3 hA⟩
          · exact ⟨_, _, by simp [go_sem], by simp [go_sem], OpsV.below hx4 hA, OpsV.below hy4 hA⟩
    · intro q w' hb hq
      have f : ∀ q t, [29, 30, 31, 32, 33, 34, 35, 36, 37, 38, 39, 40, 41, 42, 43, 44, 45, 46, 47, 48, 49, 50, 51, 52, 53, 54, 55, 56, 57, 58, 59, 60, 61, 62, 63, 64, 65, 66, 67, 68, 69, 70, 71, 72, 73, 74, 75, 76, 77, 78, 79, 80, 81, 82, 83, 84, 85, 86, 87, 88, 89, 90, 91, 92, 93, 94, 95, 96, 97, 98, 99, 100, 101, 102, 103, 104, 105, 106, 107, 108, 109, 110, 13].contains t = true → t < 159 → (frm a0 [29, 30, 31, 32, 33, 34, 35, 36, 37, 38, 39, 40, 41, 42, 43, 44, 45, 46, 47, 48, 49, 50, 51, 52, 53, 54, 55, 56, 57, 58, 59, 60, 61, 62, 63, 64, 65, 66, 67, 68, 69, 70, 71, 72, 73, 74, 75, 76, 77, 78, 79, 80, 81, 82, 83, 84, 85, 86, 87, 88, 89, 90, 91, 92, 93, 94, 95, 96, 97, 98, 99, 100, 101, 102, 103, 104, 105, 106, 107, 108, 109, 110, 13] q).eval (.tmp t) = q t := fun q t h1 h2 => frm_in h1 (by rw [hsz]; exact h2)
      have hlw := hq 81 110 (by decide) rfl
      obtain ⟨g, hg, hgl, hgc⟩ := id hlw
      have e110 := (f q 110 rfl (by decide)).trans hg
      show wpOps Tryd.prog _ _ [82] _ _
      rw [wpOps_cons]
      refine op_at rfl rfl ?_
      refine op_run (w' := w') (v := .slice (some ⟨g, 0, none⟩) 5 5) ?_ ?_
      · generalize (frm a0 [29, 30, 31, 32, 33, 34, 35, 36, 37, 38, 39, 40, 41, 42, 43, 44, 45, 46, 47, 48, 49, 50, 51, 52, 53, 54, 55, 56, 57, 58, 59, 60, 61, 62, 63, 64, 65, 66, 67, 68, 69, 70, 71, 72, 73, 74, 75, 76, 77, 78, 79, 80, 81, 82, 83, 84, 85, 86, 87, 88, 89, 90, 91, 92, 93, 94, 95, 96, 97, 98, 99, 100, 101, 102, 103, 104, 105, 106, 107, 108, 109, 110, 13] q).eval = ev at e110 ⊢
        simp [execOp, e110, go_sem]
      rw [late_put 13 rfl rfl]
      show K' _ _
      refine hK' _ _ ?_
      rw [← ha0]
      go_meet
      exact ⟨g, setV_same q 13 _, by rw [hg] at hlw; exact hlw, hb⟩
  case rest =>
    obtain ⟨g, rfl, HLW⟩ := hcut
    have HF : Hid (∀ q, q < 5 → ∃ m0 T0 m1 T1, (FOk m0 (([((((18 : Int), (0 : Int)) :: (((8 : Int), (0 : Int)) :: (x ++ y))), (((8 : Int), (0 : Int)) :: ((((18 : Int), (0 : Int)) :: x) ++ (((18 : Int), (0 : Int)) :: y)))), ((((17 : Int), (0 : Int)) :: (((9 : Int), (0 : Int)) :: (x ++ y))), (((9 : Int), (0 : Int)) :: ((((17 : Int), (0 : Int)) :: x) ++ (((17 : Int), (0 : Int)) :: y)))), ((((15 : Int), (0 : Int)) :: (x ++ (((9 : Int), (0 : Int)) :: (y ++ z)))), (((9 : Int), (0 : Int)) :: ((((15 : Int), (0 : Int)) :: (x ++ y)) ++ (((15 : Int), (0 : Int)) :: (x ++ z))))), ((((15 : Int), (0 : Int)) :: ((((8 : Int), (0 : Int)) :: (x ++ y)) ++ z)), (((8 : Int), (0 : Int)) :: ((((15 : Int), (0 : Int)) :: (x ++ z)) ++ (((15 : Int), (0 : Int)) :: (y ++ z))))), ((((14 : Int), (0 : Int)) :: (((8 : Int), (0 : Int)) :: (x ++ y))), (((8 : Int), (0 : Int)) :: ((((14 : Int), (0 : Int)) :: x) ++ (((14 : Int), (0 : Int)) :: y))))] : List (List (Int × Int) × List (Int × Int))).getD q ([], [])).1 T0 ∧ (([((((18 : Int), (0 : Int)) :: (((8 : Int), (0 : Int)) :: (x ++ y))), (((8 : Int), (0 : Int)) :: ((((18 : Int), (0 : Int)) :: x) ++ (((18 : Int), (0 : Int)) :: y)))), ((((17 : Int), (0 : Int)) :: (((9 : Int), (0 : Int)) :: (x ++ y))), (((9 : Int), (0 : Int)) :: ((((17 : Int), (0 : Int)) :: x) ++ (((17 : Int), (0 : Int)) :: y)))), ((((15 : Int), (0 : Int)) :: (x ++ (((9 : Int), (0 : Int)) :: (y ++ z)))), (((9 : Int), (0 : Int)) :: ((((15 : Int), (0 : Int)) :: (x ++ y)) ++ (((15 : Int), (0 : Int)) :: (x ++ z))))), ((((15 : Int), (0 : Int)) :: ((((8 : Int), (0 : Int)) :: (x ++ y)) ++ z)), (((8 : Int), (0 : Int)) :: ((((15 : Int), (0 : Int)) :: (x ++ z)) ++ (((15 : Int), (0 : Int)) :: (y ++ z))))), ((((14 : Int), (0 : Int)) :: (((8 : Int), (0 : Int)) :: (x ++ y))), (((8 : Int), (0 : Int)) :: ((((14 : Int), (0 : Int)) :: x) ++ (((14 : Int), (0 : Int)) :: y))))] : List (List (Int × Int) × List (Int × Int))).getD q ([], [])).1.length ≤ 60 ∧ m0 ≤ 6) ∧ (FOk m1 (([((((18 : Int), (0 : Int)) :: (((8 : Int), (0 : Int)) :: (x ++ y))), (((8 : Int), (0 : Int)) :: ((((18 : Int), (0 : Int)) :: x) ++ (((18 : Int), (0 : Int)) :: y)))), ((((17 : Int), (0 : Int)) :: (((9 : Int), (0 : Int)) :: (x ++ y))), (((9 : Int), (0 : Int)) :: ((((17 : Int), (0 : Int)) :: x) ++ (((17 : Int), (0 : Int)) :: y)))), ((((15 : Int), (0 : Int)) :: (x ++ (((9 : Int), (0 : Int)) :: (y ++ z)))), (((9 : Int), (0 : Int)) :: ((((15 : Int), (0 : Int)) :: (x ++ y)) ++ (((15 : Int), (0 : Int)) :: (x ++ z))))), ((((15 : Int), (0 : Int)) :: ((((8 : Int), (0 : Int)) :: (x ++ y)) ++ z)), (((8 : Int), (0 : Int)) :: ((((15 : Int), (0 : Int)) :: (x ++ z)) ++ (((15 : Int), (0 : Int)) :: (y ++ z))))), ((((14 : Int), (0 : Int)) :: (((8 : Int), (0 : Int)) :: (x ++ y))), (((8 : Int), (0 : Int)) :: ((((14 : Int), (0 : Int)) :: x) ++ (((14 : Int), (0 : Int)) :: y))))] : List (List (Int × Int) × List (Int × Int))).getD q ([], [])).2 T1 ∧ (([((((18 : Int), (0 : Int)) :: (((8 : Int), (0 : Int)) :: (x ++ y))), (((8 : Int), (0 : Int)) :: ((((18 : Int), (0 : Int)) :: x) ++ (((18 : Int), (0 : Int)) :: y)))), ((((17 : Int), (0 : Int)) :: (((9 : Int), (0 : Int)) :: (x ++ y))), (((9 : Int), (0 : Int)) :: ((((17 : Int), (0 : Int)) :: x) ++ (((17 : Int), (0 : Int)) :: y)))), ((((15 : Int), (0 : Int)) :: (x ++ (((9 : Int), (0 : Int)) :: (y ++ z)))), (((9 : Int), (0 : Int)) :: ((((15 : Int), (0 : Int)) :: (x ++ y)) ++ (((15 : Int), (0 : Int)) :: (x ++ z))))), ((((15 : Int), (0 : Int)) :: ((((8 : Int), (0 : Int)) :: (x ++ y)) ++ z)), (((8 : Int), (0 : Int)) :: ((((15 : Int), (0 : Int)) :: (x ++ z)) ++ (((15 : Int), (0 : Int)) :: (y ++ z))))), ((((14 : Int), (0 : Int)) :: (((8 : Int), (0 : Int)) :: (x ++ y))), (((8 : Int), (0 : Int)) :: ((((14 : Int), (0 : Int)) :: x) ++ (((14 : Int), (0 : Int)) :: y))))] : List (List (Int × Int) × List (Int × Int))).getD q ([], [])).2.length ≤ 60 ∧ m1 ≤ 6) ∧ T0.hb (sig (ss ++ ll) ss.length) 0 = T1.hb (sig (ss ++ ll) ss.length) 0) := fun q hq => by
      have kx := Kx.out.many
      have ky := Ky.out.many
      have kz := Kz.out.many
      have hc : q = 0 ∨ q = 1 ∨ q = 2 ∨ q = 3 ∨ q = 4 := by omega
      rcases hc with rfl | rfl | rfl | rfl | rfl
      · exact ⟨_, _, _, _, ⟨(FOk.tun (k := 18) (by decide) (FOk.bin (k := 8) (by decide) (by decide) Kx.out.ok Ky.out.ok)), by show ((((18 : Int), (0 : Int)) :: (((8 : Int), (0 : Int)) :: (x ++ y))) : List (Int × Int)).length ≤ 60; simp; omega, by omega⟩, ⟨(FOk.bin (k := 8) (by decide) (by decide) (FOk.tun (k := 18) (by decide) Kx.out.ok) (FOk.tun (k := 18) (by decide) Ky.out.ok)), by show ((((8 : Int), (0 : Int)) :: ((((18 : Int), (0 : Int)) :: x) ++ (((18 : Int), (0 : Int)) :: y))) : List (Int × Int)).length ≤ 60; simp; omega, by omega⟩, hb_Gand _ ..⟩
      · exact ⟨_, _, _, _, ⟨(FOk.tun (k := 17) (by decide) (FOk.bin (k := 9) (by decide) (by decide) Kx.out.ok Ky.out.ok)), by show ((((17 : Int), (0 : Int)) :: (((9 : Int), (0 : Int)) :: (x ++ y))) : List (Int × Int)).length ≤ 60; simp; omega, by omega⟩, ⟨(FOk.bin (k := 9) (by decide) (by decide) (FOk.tun (k := 17) (by decide) Kx.out.ok) (FOk.tun (k := 17) (by decide) Ky.out.ok)), by show ((((9 : Int), (0 : Int)) :: ((((17 : Int), (0 : Int)) :: x) ++ (((17 : Int), (0 : Int)) :: y))) : List (Int × Int)).length ≤ 60; simp; omega, by omega⟩, hb_For _ ..⟩
      · exact ⟨_, _, _, _, ⟨(FOk.tbi (k := 15) (by decide) (by decide) Kx.out.ok (FOk.bin (k := 9) (by decide) (by decide) Ky.out.ok Kz.out.ok)), by show ((((15 : Int), (0 : Int)) :: (x ++ (((9 : Int), (0 : Int)) :: (y ++ z)))) : List (Int × Int)).length ≤ 60; simp; omega, by omega⟩, ⟨(FOk.bin (k := 9) (by decide) (by decide) (FOk.tbi (k := 15) (by decide) (by decide) Kx.out.ok Ky.out.ok) (FOk.tbi (k := 15) (by decide) (by decide) Kx.out.ok Kz.out.ok)), by show ((((9 : Int), (0 : Int)) :: ((((15 : Int), (0 : Int)) :: (x ++ y)) ++ (((15 : Int), (0 : Int)) :: (x ++ z)))) : List (Int × Int)).length ≤ 60; simp; omega, by omega⟩, hb_Uor _ ..⟩
      · exact ⟨_, _, _, _, ⟨(FOk.tbi (k := 15) (by decide) (by decide) (FOk.bin (k := 8) (by decide) (by decide) Kx.out.ok Ky.out.ok) Kz.out.ok), by show ((((15 : Int), (0 : Int)) :: ((((8 : Int), (0 : Int)) :: (x ++ y)) ++ z)) : List (Int × Int)).length ≤ 60; simp; omega, by omega⟩, ⟨(FOk.bin (k := 8) (by decide) (by decide) (FOk.tbi (k := 15) (by decide) (by decide) Kx.out.ok Kz.out.ok) (FOk.tbi (k := 15) (by decide) (by decide) Ky.out.ok Kz.out.ok)), by show ((((8 : Int), (0 : Int)) :: ((((15 : Int), (0 : Int)) :: (x ++ z)) ++ (((15 : Int), (0 : Int)) :: (y ++ z)))) : List (Int × Int)).length ≤ 60; simp; omega, by omega⟩, hb_Uand _ ..⟩
      · exact ⟨_, _, _, _, ⟨(FOk.tun (k := 14) (by decide) (FOk.bin (k := 8) (by decide) (by decide) Kx.out.ok Ky.out.ok)), by show ((((14 : Int), (0 : Int)) :: (((8 : Int), (0 : Int)) :: (x ++ y))) : List (Int × Int)).length ≤ 60; simp; omega, by omega⟩, ⟨(FOk.bin (k := 8) (by decide) (by decide) (FOk.tun (k := 14) (by decide) Kx.out.ok) (FOk.tun (k := 14) (by decide) Ky.out.ok)), by show ((((8 : Int), (0 : Int)) :: ((((14 : Int), (0 : Int)) :: x) ++ (((14 : Int), (0 : Int)) :: y))) : List (Int × Int)).length ≤ 60; simp; omega, by omega⟩, hb_Xand _ ..⟩
    generalize ([((((18 : Int), (0 : Int)) :: (((8 : Int), (0 : Int)) :: (x ++ y))), (((8 : Int), (0 : Int)) :: ((((18 : Int), (0 : Int)) :: x) ++ (((18 : Int), (0 : Int)) :: y)))), ((((17 : Int), (0 : Int)) :: (((9 : Int), (0 : Int)) :: (x ++ y))), (((9 : Int), (0 : Int)) :: ((((17 : Int), (0 : Int)) :: x) ++ (((17 : Int), (0 : Int)) :: y)))), ((((15 : Int), (0 : Int)) :: (x ++ (((9 : Int), (0 : Int)) :: (y ++ z)))), (((9 : Int), (0 : Int)) :: ((((15 : Int), (0 : Int)) :: (x ++ y)) ++ (((15 : Int), (0 : Int)) :: (x ++ z))))), ((((15 : Int), (0 : Int)) :: ((((8 : Int), (0 : Int)) :: (x ++ y)) ++ z)), (((8 : Int), (0 : Int)) :: ((((15 : Int), (0 : Int)) :: (x ++ z)) ++ (((15 : Int), (0 : Int)) :: (y ++ z))))), ((((14 : Int), (0 : Int)) :: (((8 : Int), (0 : Int)) :: (x ++ y))), (((8 : Int), (0 : Int)) :: ((((14 : Int), (0 : Int)) :: x) ++ (((14 : Int), (0 : Int)) :: y))))] : List (List (Int × Int) × List (Int × Int))) = laws at HLW HF
    have HWC : Hid (Below w3.heap.size w3 wc) := HLW.out.2
    have HQ : Hid (∀ q, q < 5 → ∃ (ao : Option Addr) (n1 c1 : Nat) (bo : Option Addr) (n2 c2 : Nat) (r : Bool), wc.cell? ⟨g, q * 2, none⟩ = some (.slice ao n1 c1) ∧ wc.cell? ⟨g, q * 2 + 1, none⟩ = some (.slice bo n2 c2) ∧ ∀ w', Below wc.heap.size wc w' → (Calls Tryd.prog 11 #[.slice ao n1 c1, .agg #[.slice so sn sc, .slice lo ln lc]] w' fun e w2 => e = .returned (.tuple #[.bool r, .bool true]) ∧ Below w'.heap.size w' w2) ∧ (Calls Tryd.prog 11 #[.slice bo n2 c2, .agg #[.slice so sn sc, .slice lo ln lc]] w' fun e w2 => e = .returned (.tuple #[.bool r, .bool true]) ∧ Below w'.heap.size w' w2)) := fun q hq => by
      obtain ⟨g', he, hgl, hgc⟩ := HLW.out.1
      injection he with he1 he2 he3
      injection he1 with he1
      injection he1 with he4 _ _
      subst he4
      obtain ⟨x, y, k1, k2, o1, o2⟩ := hgc q (by omega)
      obtain ⟨m0, T0, m1, T1, ⟨f0, f1, f2⟩, ⟨f3, f4, f5⟩, hEq⟩ := HF.out q hq
      obtain ⟨ao, c1, rfl, _⟩ := id o1
      obtain ⟨bo, c2, rfl, _⟩ := id o2
      exact ⟨ao, _, c1, bo, _, c2, T1.hb (sig (ss ++ ll) ss.length) 0, k1, k2, fun w' hb => ⟨(HK.out.later (HWC.out.trans (hb.mono HWC.out.size))).holds (o1.below hb) f0 f1 f2 hEq, (HK.out.later (HWC.out.trans (hb.mono HWC.out.size))).holds (o2.below hb) f3 f4 f5 rfl⟩⟩
    have HX : Hid (∀ w', Below wc.heap.size wc w' → w'.cell? ⟨wb, 0, none⟩ = some (.slice so sn sc) ∧ w'.cell? ⟨wb, 1, none⟩ = some (.slice lo ln lc)) := fun w' hb => ⟨(HK.out.later (HWC.out.trans (hb.mono HWC.out.size))).c0, (HK.out.later (HWC.out.trans (hb.mono HWC.out.size))).c1⟩
    have HY : Hid (∀ w6 g, Below wc.heap.size wc w6 → w6.cell? ⟨g, 0, none⟩ = some (.int .i64 11) → w6.cell? ⟨g, 1, none⟩ = some (.int .i64 0) → g < w6.heap.size → Calls Tryd.prog 11 #[.slice (some ⟨g, 0, none⟩) 1 1, .agg #[.slice so sn sc, .slice lo ln lc]] w6 fun e w' => e = .returned (.tuple #[.bool true, .bool true]) ∧ Below w6.heap.size w6 w') := fun w6 g hb c0 c1 hl => (HK.out.later (HWC.out.trans (hb.mono HWC.out.size))).holds (t := [(11, 0)]) ⟨some ⟨g, 0, none⟩, 1, rfl, ⟨by simp, fun h => by cases h⟩, fun _ => ⟨g, 0, rfl, hl, fun i hi => by
      obtain rfl : i = 0 := by simpa using hi
      exact ⟨c0, c1⟩⟩⟩ FOk.yes (by simp) (by omega) (Tm.hb_yes _ _ _)
    have HBF : Hid (∀ w', Below wc.heap.size wc w' → Below w.heap.size w w') := fun w' hb => (HK.out.later (HWC.out.trans (hb.mono HWC.out.size))).below
    clear HLW HF HK HC0 Kx Lx lx Ky Ly ly Kz Lz lz
    go_wp2_with fail
    go_loopw [14] (fun i wr => ∃ q : Nat, q ≤ 5 ∧ i = .int .i64 (q : Int) ∧ Hid (Below wc.heap.size wc wr)) (fun i _ => 5 - (intOf i).toNat)
    case atStart => exact ⟨0, Nat.zero_le _, rfl, Below.refl _ _⟩
    case round =>
      obtain ⟨q, hq, rfl, HB⟩ := hrel
      by_cases hlt : q < 5
      · obtain ⟨ao, n1, c1, bo, n2, c2, r, k1, k2, hcalls⟩ := HQ.out q hlt
        have HCL : Hid (∀ w', Below wr.heap.size wr w' → (w'.cell? ⟨wb, 0, none⟩ = some (.slice so sn sc) ∧ w'.cell? ⟨wb, 1, none⟩ = some (.slice lo ln lc)) ∧ (w'.cell? ⟨g, q * 2, none⟩ = some (.slice ao n1 c1) ∧ w'.cell? ⟨g, q * 2 + 1, none⟩ = some (.slice bo n2 c2))) := fun w' hb => by
          have h := HB.out.trans (hb.mono HB.out.size)
          exact ⟨HX.out w' h, cell_later h k1, cell_later h k2⟩
        have HCa : Hid (∀ w', Below wr.heap.size wr w' → (Calls Tryd.prog 11 #[.slice ao n1 c1, .agg #[.slice so sn sc, .slice lo ln lc]] w' fun e w2 => e = .returned (.tuple #[.bool r, .bool true]) ∧ Below w'.heap.size w' w2) ∧ (Calls Tryd.prog 11 #[.slice bo n2 c2, .agg #[.slice so sn sc, .slice lo ln lc]] w' fun e w2 => e = .returned (.tuple #[.bool r, .bool true]) ∧ Below w'.heap.size w' w2)) := fun w' hb => hcalls w' (HB.out.trans (hb.mono HB.out.size))
        have hB0 : Below wr.heap.size wr wr := Below.refl _ _
        obtain ⟨⟨p0, p1⟩, p2, p3⟩ := HCL.out wr hB0
        have HC8 : Hid (∀ w', Below wr.heap.size wr w' → w'.cell? ⟨wb, 0, none⟩ = some (.slice so sn sc) ∧ w'.cell? ⟨wb, 1, none⟩ = some (.slice lo ln lc) ∧ w'.cell? ⟨g, q * 2, none⟩ = some (.slice ao n1 c1)) := fun w' hb => ⟨(HCL.out w' hb).1.1, (HCL.out w' hb).1.2, (HCL.out w' hb).2.1⟩
        have HC9 : Hid (∀ w', Below wr.heap.size wr w' → w'.cell? ⟨wb, 0, none⟩ = some (.slice so sn sc) ∧ w'.cell? ⟨wb, 1, none⟩ = some (.slice lo ln lc) ∧ w'.cell? ⟨g, q * 2 + 1, none⟩ = some (.slice bo n2 c2)) := fun w' hb => ⟨(HCL.out w' hb).1.1, (HCL.out w' hb).1.2, (HCL.out w' hb).2.2⟩
        clear hcalls k1 k2
        go_wp2_with fail
        go_region_held3 (fun w' => w'.cell? ⟨wb, 0, none⟩ = some (.slice so sn sc) ∧ w'.cell? ⟨wb, 1, none⟩ = some (.slice lo ln lc) ∧ w'.cell? ⟨g, q * 2, none⟩ = some (.slice ao n1 c1))
          (exact HC8.out _ (by first | exact hbv | exact hB0 | exact hB0.drew))
          ((go_at_call 11; refine (HCa.out _ (by first | exact hB0 | exact hB0.drew)).1.mono ?_; rintro e v1 ⟨rfl, hv1⟩; have hbv : Below wr.heap.size wr v1 := (by first | exact hv1 | exact hB0.drew.trans hv1)))
        all_goals
          have HBv : Hid (Below wr.heap.size wr v1) := hbv
          obtain ⟨⟨p0, p1⟩, p2, p3⟩ := HCL.out v1 hbv
          clear hv1
          go_wp2_with fail
          go_region_held3 (fun w' => w'.cell? ⟨wb, 0, none⟩ = some (.slice so sn sc) ∧ w'.cell? ⟨wb, 1, none⟩ = some (.slice lo ln lc) ∧ w'.cell? ⟨g, q * 2 + 1, none⟩ = some (.slice bo n2 c2))
            (exact HC9.out _ (by first | exact hbu | exact hbv | exact hbv.drew))
            ((go_at_call 11; refine (HCa.out _ (by first | exact hbv | exact hbv.drew)).2.mono ?_; rintro e v2 ⟨rfl, hv2⟩; have hbu : Below wr.heap.size wr v2 := (by first | exact hbv.drew.trans (hv2.mono hbv.size) | exact hbv.trans (hv2.mono hbv.size))))
          all_goals
            have HBu : Hid (Below wc.heap.size wc v2) := HB.out.trans (hbu.mono HB.out.size)
            clear hbu hv2 hbv HBv HCL HCa HC8 HC9 p0 p1 p2 p3 hB0
            cases r
            all_goals
              go_wp2_with fail
              go_roundw
              case rel => exact ⟨q + 1, by omega, by go_num, HBu⟩
              case measure => simp [intOf]; omega
      · have hqn : q = 5 := by omega
        subst hqn
        have hE := fun o => HY.out (wr.alloc o) wr.heap.size (HB.out.alloc HB.out.size o)
        have hbr := HBF.out wr HB.out
        obtain ⟨p0, p1⟩ := HX.out wr HB.out
        have hlt2 : wb < wr.heap.size := World.block_lt_of_cell? wr ⟨wb, 0, none⟩ p0
        have hne2 : ¬ wb = wr.heap.size := by omega
        clear HQ HX HY HBF HWC
        go_wp2_with (go_at_call 11; refine (hE _ (by simp [go_sem]) (by simp [go_sem]) (by simp)).mono ?_; rintro e w5 ⟨rfl, hb5⟩)
        go_ret
        exact ⟨by first | rfl | simp, (hbr.alloc hbr.size _).trans (hb5.mono (by have := hbr.size; simp; omega))⟩
end Go.Proofs.YtbnhjbjlcnmjbaaDoor
