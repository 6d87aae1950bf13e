/-
  The walk of the law WordNot.
-/
import Derived.Test.YtbpepkockdigmaaDoorKeepHolds
import Derived.Deep.RegionHeld3
namespace Go.Proofs.YtbpepkockdigmaaDoor
open Go.ChangeShapes Go.WideShapes Go.ChangeAt Go.RowKit Go.Deep
open Terms

set_option maxHeartbeats 3200000 in
set_option maxRecDepth 20000 in
theorem wordNot_walk (xv yv s0 s1 : Value) (xs ys : List (Int × Int)) (a b : List Int) (w : World) (hB : 0 < w.heap.size) (hT : TabAt w) (hRx : Raws w w.heap.size xv xs) (hRy : Raws w w.heap.size yv ys) (hA : IntsR w s0 a) (hBb : IntsR w s1 b) :
    Calls Tryd.prog 3 #[xv, yv, .agg #[s0, s1]] w fun e w' => e = .returned (.bool true) ∧ Below w.heap.size w w' := by
  have HWo : Hid (∀ w1, Below w.heap.size w w1 → Calls Tryd.prog 9 #[.agg #[s0, s1]] w1 fun e w' => ∃ so sc lo lc ss ll, e = .returned (.agg #[.slice so ss.length sc, .slice lo ll.length lc]) ∧ Below w1.heap.size w1 w' ∧ Hid (WOk ss ll) ∧ Hid (LettersV w' (.slice so ss.length sc) ss ∧ LettersV w' (.slice lo ll.length lc) ll)) := fun w1 h => wordFn_any s0 s1 a b w1 (hA.below h) (hBb.below h)
  have HFx : Hid (∀ w1, Below w.heap.size w w1 → Calls Tryd.prog 10 #[xv, .int .i64 3, .int .i64 3] w1 fun e w' => ∃ a c t T m, e = .returned (.slice a t.length c) ∧ Below w1.heap.size w1 w' ∧ Hid (KFor w' (.slice a t.length c) 3 t T m)) := fun w1 h => (formulaFn_any xv xs 3 3 w1 (by omega) (by omega) (by omega) (hRx.up h)).mono fun e w' ⟨a, c, t, m, h1, h2, h3, h4, h5, h6⟩ => by
    obtain ⟨T, hT⟩ := h2.ok
    exact ⟨a, c, t, T, m, h1, h6, h5, hT, h4, h2.ne, h3⟩
  have HFy : Hid (∀ w1, Below w.heap.size w w1 → Calls Tryd.prog 10 #[yv, .int .i64 3, .int .i64 3] w1 fun e w' => ∃ a c t T m, e = .returned (.slice a t.length c) ∧ Below w1.heap.size w1 w' ∧ Hid (KFor w' (.slice a t.length c) 3 t T m)) := fun w1 h => (formulaFn_any yv ys 3 3 w1 (by omega) (by omega) (by omega) (hRy.up h)).mono fun e w' ⟨a, c, t, m, h1, h2, h3, h4, h5, h6⟩ => by
    obtain ⟨T, hT⟩ := h2.ok
    exact ⟨a, c, t, T, m, h1, h6, h5, hT, h4, h2.ne, h3⟩
  obtain ⟨xq0, xq1, xq2, rfl⟩ : ∃ a n c, xv = .slice a n c := by obtain ⟨⟨a, c, h, _⟩, _, _⟩ := hRx; exact ⟨_, _, _, h⟩
  obtain ⟨yq0, yq1, yq2, rfl⟩ : ∃ a n c, yv = .slice a n c := by obtain ⟨⟨a, c, h, _⟩, _, _⟩ := hRy; exact ⟨_, _, _, h⟩
  obtain ⟨e0, e1, e2, rfl⟩ : ∃ a n c, s0 = .slice a n c := by obtain ⟨a, c, h, _⟩ := hA.v; exact ⟨_, _, _, h⟩
  obtain ⟨g0, g1, g2, rfl⟩ : ∃ a n c, s1 = .slice a n c := by obtain ⟨a, c, h, _⟩ := hBb.v; exact ⟨_, _, _, h⟩
  have hA0 : ∀ o, Below w.heap.size w (w.alloc o) := fun o => (Below.refl _ _).alloc (Nat.le_refl _) o
  have HT : Hid (0 < w.heap.size ∧ TabAt w) := ⟨hB, hT⟩
  clear hRx hRy hA hBb hT hB
  go_enter Tryd.func3, Tryd.ntmps3
  go_wp2_with (first | (go_at_call 9; refine (HWo.out _ (by first | exact Below.refl _ _ | exact hA0 _)).mono ?_; rintro e w1 ⟨so, sc, lo, lc, ss, ll, rfl, hb1, HWk, HLs⟩; have hbw1 : Below w.heap.size w w1 := (by first | exact hb1 | exact (hA0 _).trans (hb1.mono (hA0 _).size)); have hbA := hbw1.alloc hbw1.size (.cells #[.slice so ss.length sc, .slice lo ll.length lc] 28); have hq0 := HFx.out _ hbA) | (go_at_call_of 10 xq1; refine hq0.mono ?_; rintro e v0 ⟨xa, xc, x, Tx, mx, rfl, hbf0, Hx⟩; have hbF0 := hbA.trans (hbf0.mono hbA.size); have hq1 := HFy.out _ hbF0) | (go_at_call_of 10 yq1; refine hq1.mono ?_; rintro e v1 ⟨ya, yc, y, Ty, my, rfl, hbf1, Hy⟩; have hbF1 := hbF0.trans (hbf1.mono hbF0.size); have HK := (show Hid _ from KCtx.start HT.out hbw1 HLs.out HWk.out ((hbf0).trans (hbf1.mono (hbf0).size))); have hkc := HK.out.c0; have hkd := HK.out.c1))
  have Kx : Hid (KFor v1 (.slice xa x.length xc) 3 x Tx mx) := Hx.out.later (hbf1)
  have Ky : Hid (KFor v1 (.slice ya y.length yc) 3 y Ty my) := Hy
  have HC0 : Hid (Below v1.heap.size v1 v1) := Below.refl _ _
  clear HFx Hx HFy Hy HWo HLs HWk HT hA0 hbA hbw1 hb1 hkc hkd hbf0 hbF0 hq0 hbf1 hbF1 hq1
  generalize w1.heap.size = wb at *
  generalize v1 = w3 at *
  generalize hxn : x.length = xn at *
  have Lx : Hid (x.length = xn) := hxn
  clear hxn
  generalize hyn : y.length = yn at *
  have Ly : Hid (y.length = yn) := hyn
  clear hyn
  generalize hsn : ss.length = sn at *
  generalize hln : ll.length = ln at *
  have LS : Hid (ss.length = sn) := hsn
  have LL : Hid (ll.length = ln) := hln
  clear hsn hln
  obtain ⟨A, hA⟩ : ∃ A, Tx.hb (sig (ss ++ ll) ss.length) 0 = A := ⟨_, rfl⟩
  obtain ⟨C, hC⟩ : ∃ C, Ty.hb (sig (ss ++ ll) ss.length) 0 = C := ⟨_, rfl⟩
  have HA : Hid (Tx.hb (sig (ss ++ ll) ss.length) 0 = A) := hA
  have HC : Hid (Ty.hb (sig (ss ++ ll) ss.length) 0 = C) := hC
  clear hA hC
  have hE0 : Calls Tryd.prog 11 #[(.slice xa xn xc), .agg #[.slice so sn sc, .slice lo ln lc]] w3 fun e w' => e = .returned (.tuple #[.bool (A), .bool true]) ∧ Below w3.heap.size w3 w' := (HK.out.later HC0.out).holds (Kx.out.v.below HC0.out) Kx.out.ok (by have := Kx.out.len; have := Kx.out.many; omega) (by have := Kx.out.len; have := Kx.out.many; omega) HA.out
  have hc0 := (HK.out.later HC0.out).c0
  have hd0 := (HK.out.later HC0.out).c1
  go_wp2_with (go_at_call 11; refine hE0.mono ?_; rintro e w0c ⟨rfl, hb0c⟩)
  have HC1 : Hid (Below w3.heap.size w3 w0c) := (HC0.out.trans (hb0c.mono HC0.out.size))
  clear hE0 hc0 hd0 hb0c
  have hB1 : Below w0c.heap.size w0c w0c := Below.refl _ _
  have hS1 : ∀ w', Below w0c.heap.size w0c w' → w'.cell? ⟨wb, 0, none⟩ = some (.slice so sn sc) ∧ w'.cell? ⟨wb, 1, none⟩ = some (.slice lo ln lc) := fun w' hw' => ⟨(HK.out.later (HC1.out.trans (hw'.mono HC1.out.size))).c0, (HK.out.later (HC1.out.trans (hw'.mono HC1.out.size))).c1⟩
  have hJ1x0 : ∀ (g : Nat) (w' : World), w'.cell? ⟨g, 0, none⟩ = some (.slice xa xn xc) → Below w0c.heap.size w0c w' → Calls Tryd.prog 12 #[.int .i64 10, .slice (some ⟨g, 0, none⟩) 1 1] w' fun e w'' => ∃ a c, e = .returned (.slice a ((((10 : Int), (0 : Int)) :: x) : List (Int × Int)).length c) ∧ Below w'.heap.size w' w'' ∧ OpsV w'' (.slice a ((((10 : Int), (0 : Int)) :: x) : List (Int × Int)).length c) (((10 : Int), (0 : Int)) :: x) := fun g w'  c0 hw => joined1 10 g (.slice xa xn xc) x w' c0 (by have := Kx.out.len; have := Kx.out.many; omega) Kx.out.ne (Kx.out.v.below (HC1.out.trans (hw.mono HC1.out.size)))
  have hE1 : ∀ (w6 : World) (jv : Value), Below w0c.heap.size w0c w6 → OpsV w6 jv (((10 : Int), (0 : Int)) :: x) → Calls Tryd.prog 11 #[jv, .agg #[.slice so sn sc, .slice lo ln lc]] w6 fun e w' => e = .returned (.tuple #[.bool (!A), .bool true]) ∧ Below w6.heap.size w6 w' := fun w6 jv hw6 ho => (HK.out.later (HC1.out.trans (hw6.mono HC1.out.size))).holds ho (FOk.not Kx.out.ok) (by have := Kx.out.len; have := Kx.out.many; simp; omega) (by have := Kx.out.len; have := Kx.out.many; omega) (by rw [Tm.hb_not, HA.out])
  generalize ((((10 : Int), (0 : Int)) :: x) : List (Int × Int)).length = mm1x0 at hJ1x0
  try go_wp2_with fail
  go_region_held3 (fun w' => w'.cell? ⟨wb, 0, none⟩ = some (.slice so sn sc) ∧ w'.cell? ⟨wb, 1, none⟩ = some (.slice lo ln lc))
    (exact hS1 _ (by first | exact hcF1 | exact hc1n0 | exact hc1n0.alloc hc1n0.size _ | exact hB1 | exact hB1.drew | exact (hB1.alloc (Nat.le_refl _) _).drew | exact ((hB1.alloc (Nat.le_refl _) _).alloc (by simp) _).drew))
    (first | (go_at_call 12; refine (hJ1x0 _ _ ?_ ?_).mono ?_; (focus (simp [go_sem]; done)); (focus (first | exact hB1 | exact hB1.drew | exact (hB1.alloc (Nat.le_refl _) _).drew | exact ((hB1.alloc (Nat.le_refl _) _).alloc (by simp) _).drew)); rintro e w1n0 ⟨ja1n0, jc1n0, rfl, hb1n0, ho1n0⟩; have hc1n0 : Below w0c.heap.size w0c w1n0 := Below.trans (by first | exact hB1 | exact hB1.drew | exact (hB1.alloc (Nat.le_refl _) _).drew | exact ((hB1.alloc (Nat.le_refl _) _).alloc (by simp) _).drew) (hb1n0.mono (by first | exact Nat.le_refl _ | (simp; omega) | simp))) | (go_at_call 11; refine (hE1 _ _ hc1n0 ho1n0).mono ?_; rintro e w1c ⟨rfl, hb1c⟩; have hcF1 : Below w0c.heap.size w0c w1c := hc1n0.trans (hb1c.mono hc1n0.size)))
  have HC2 : Hid (Below w3.heap.size w3 w1c) := (HC1.out.trans (hcF1.mono HC1.out.size))
  clear hE1 hS1 hB1 hb1c hcF1 hJ1x0 hb1n0 ho1n0 hc1n0
  have hE2 : Calls Tryd.prog 11 #[(.slice ya yn yc), .agg #[.slice so sn sc, .slice lo ln lc]] w1c fun e w' => e = .returned (.tuple #[.bool (C), .bool true]) ∧ Below w1c.heap.size w1c w' := (HK.out.later HC2.out).holds (Ky.out.v.below HC2.out) Ky.out.ok (by have := Ky.out.len; have := Ky.out.many; omega) (by have := Ky.out.len; have := Ky.out.many; omega) HC.out
  have hc2 := (HK.out.later HC2.out).c0
  have hd2 := (HK.out.later HC2.out).c1
  go_wp2_with (go_at_call 11; refine hE2.mono ?_; rintro e w2c ⟨rfl, hb2c⟩)
  have HC3 : Hid (Below w3.heap.size w3 w2c) := (HC2.out.trans (hb2c.mono HC2.out.size))
  clear hE2 hc2 hd2 hb2c
  have hB3 : Below w2c.heap.size w2c w2c := Below.refl _ _
  have hS3 : ∀ w', Below w2c.heap.size w2c w' → w'.cell? ⟨wb, 0, none⟩ = some (.slice so sn sc) ∧ w'.cell? ⟨wb, 1, none⟩ = some (.slice lo ln lc) := fun w' hw' => ⟨(HK.out.later (HC3.out.trans (hw'.mono HC3.out.size))).c0, (HK.out.later (HC3.out.trans (hw'.mono HC3.out.size))).c1⟩
  have hJ3x0 : ∀ (g : Nat) (w' : World), w'.cell? ⟨g, 0, none⟩ = some (.slice xa xn xc) → w'.cell? ⟨g, 1, none⟩ = some (.slice ya yn yc) → Below w2c.heap.size w2c w' → Calls Tryd.prog 12 #[.int .i64 8, .slice (some ⟨g, 0, none⟩) 2 2] w' fun e w'' => ∃ a c, e = .returned (.slice a ((((8 : Int), (0 : Int)) :: (x ++ y)) : List (Int × Int)).length c) ∧ Below w'.heap.size w' w'' ∧ OpsV w'' (.slice a ((((8 : Int), (0 : Int)) :: (x ++ y)) : List (Int × Int)).length c) (((8 : Int), (0 : Int)) :: (x ++ y)) := fun g w'  c0 c1 hw => joined2 8 g (.slice xa xn xc) (.slice ya yn yc) x y w' c0 c1 (by have := Kx.out.len; have := Kx.out.many; omega) (by have := Ky.out.len; have := Ky.out.many; omega) Kx.out.ne Ky.out.ne (Kx.out.v.below (HC3.out.trans (hw.mono HC3.out.size))) (Ky.out.v.below (HC3.out.trans (hw.mono HC3.out.size)))
  have hE3 : ∀ (w6 : World) (jv : Value), Below w2c.heap.size w2c w6 → OpsV w6 jv (((8 : Int), (0 : Int)) :: (x ++ y)) → Calls Tryd.prog 11 #[jv, .agg #[.slice so sn sc, .slice lo ln lc]] w6 fun e w' => e = .returned (.tuple #[.bool (A && C), .bool true]) ∧ Below w6.heap.size w6 w' := fun w6 jv hw6 ho => (HK.out.later (HC3.out.trans (hw6.mono HC3.out.size))).holds ho (FOk.bin (k := 8) (by decide) (by decide) Kx.out.ok Ky.out.ok) (by have := Kx.out.len; have := Kx.out.many; have := Ky.out.len; have := Ky.out.many; simp; omega) (by have := Kx.out.len; have := Kx.out.many; have := Ky.out.len; have := Ky.out.many; omega) (by rw [Tm.hb_and, HA.out, HC.out])
  generalize ((((8 : Int), (0 : Int)) :: (x ++ y)) : List (Int × Int)).length = mm3x0 at hJ3x0
  try go_wp2_with fail
  go_region_held3 (fun w' => w'.cell? ⟨wb, 0, none⟩ = some (.slice so sn sc) ∧ w'.cell? ⟨wb, 1, none⟩ = some (.slice lo ln lc))
    (exact hS3 _ (by first | exact hcF3 | exact hc3n0 | exact hc3n0.alloc hc3n0.size _ | exact hB3 | exact hB3.drew | exact (hB3.alloc (Nat.le_refl _) _).drew | exact ((hB3.alloc (Nat.le_refl _) _).alloc (by simp) _).drew))
    (first | (go_at_call 12; refine (hJ3x0 _ _ ?_ ?_ ?_).mono ?_; (focus (simp [go_sem]; done)); (focus (simp [go_sem]; done)); (focus (first | exact hB3 | exact hB3.drew | exact (hB3.alloc (Nat.le_refl _) _).drew | exact ((hB3.alloc (Nat.le_refl _) _).alloc (by simp) _).drew)); rintro e w3n0 ⟨ja3n0, jc3n0, rfl, hb3n0, ho3n0⟩; have hc3n0 : Below w2c.heap.size w2c w3n0 := Below.trans (by first | exact hB3 | exact hB3.drew | exact (hB3.alloc (Nat.le_refl _) _).drew | exact ((hB3.alloc (Nat.le_refl _) _).alloc (by simp) _).drew) (hb3n0.mono (by first | exact Nat.le_refl _ | (simp; omega) | simp))) | (go_at_call 11; refine (hE3 _ _ hc3n0 ho3n0).mono ?_; rintro e w3c ⟨rfl, hb3c⟩; have hcF3 : Below w2c.heap.size w2c w3c := hc3n0.trans (hb3c.mono hc3n0.size)))
  have HC4 : Hid (Below w3.heap.size w3 w3c) := (HC3.out.trans (hcF3.mono HC3.out.size))
  clear hE3 hS3 hB3 hb3c hcF3 hJ3x0 hb3n0 ho3n0 hc3n0
  have hB4 : Below w3c.heap.size w3c w3c := Below.refl _ _
  have hS4 : ∀ w', Below w3c.heap.size w3c w' → w'.cell? ⟨wb, 0, none⟩ = some (.slice so sn sc) ∧ w'.cell? ⟨wb, 1, none⟩ = some (.slice lo ln lc) := fun w' hw' => ⟨(HK.out.later (HC4.out.trans (hw'.mono HC4.out.size))).c0, (HK.out.later (HC4.out.trans (hw'.mono HC4.out.size))).c1⟩
  have hJ4x0 : ∀ (g : Nat) (w' : World), w'.cell? ⟨g, 0, none⟩ = some (.slice xa xn xc) → w'.cell? ⟨g, 1, none⟩ = some (.slice ya yn yc) → Below w3c.heap.size w3c w' → Calls Tryd.prog 12 #[.int .i64 9, .slice (some ⟨g, 0, none⟩) 2 2] w' fun e w'' => ∃ a c, e = .returned (.slice a ((((9 : Int), (0 : Int)) :: (x ++ y)) : List (Int × Int)).length c) ∧ Below w'.heap.size w' w'' ∧ OpsV w'' (.slice a ((((9 : Int), (0 : Int)) :: (x ++ y)) : List (Int × Int)).length c) (((9 : Int), (0 : Int)) :: (x ++ y)) := fun g w'  c0 c1 hw => joined2 9 g (.slice xa xn xc) (.slice ya yn yc) x y w' c0 c1 (by have := Kx.out.len; have := Kx.out.many; omega) (by have := Ky.out.len; have := Ky.out.many; omega) Kx.out.ne Ky.out.ne (Kx.out.v.below (HC4.out.trans (hw.mono HC4.out.size))) (Ky.out.v.below (HC4.out.trans (hw.mono HC4.out.size)))
  have hE4 : ∀ (w6 : World) (jv : Value), Below w3c.heap.size w3c w6 → OpsV w6 jv (((9 : Int), (0 : Int)) :: (x ++ y)) → Calls Tryd.prog 11 #[jv, .agg #[.slice so sn sc, .slice lo ln lc]] w6 fun e w' => e = .returned (.tuple #[.bool (A || C), .bool true]) ∧ Below w6.heap.size w6 w' := fun w6 jv hw6 ho => (HK.out.later (HC4.out.trans (hw6.mono HC4.out.size))).holds ho (FOk.bin (k := 9) (by decide) (by decide) Kx.out.ok Ky.out.ok) (by have := Kx.out.len; have := Kx.out.many; have := Ky.out.len; have := Ky.out.many; simp; omega) (by have := Kx.out.len; have := Kx.out.many; have := Ky.out.len; have := Ky.out.many; omega) (by rw [Tm.hb_or, HA.out, HC.out])
  generalize ((((9 : Int), (0 : Int)) :: (x ++ y)) : List (Int × Int)).length = mm4x0 at hJ4x0
  try go_wp2_with fail
  go_region_held3 (fun w' => w'.cell? ⟨wb, 0, none⟩ = some (.slice so sn sc) ∧ w'.cell? ⟨wb, 1, none⟩ = some (.slice lo ln lc))
    (exact hS4 _ (by first | exact hcF4 | exact hc4n0 | exact hc4n0.alloc hc4n0.size _ | exact hB4 | exact hB4.drew | exact (hB4.alloc (Nat.le_refl _) _).drew | exact ((hB4.alloc (Nat.le_refl _) _).alloc (by simp) _).drew))
    (first | (go_at_call 12; refine (hJ4x0 _ _ ?_ ?_ ?_).mono ?_; (focus (simp [go_sem]; done)); (focus (simp [go_sem]; done)); (focus (first | exact hB4 | exact hB4.drew | exact (hB4.alloc (Nat.le_refl _) _).drew | exact ((hB4.alloc (Nat.le_refl _) _).alloc (by simp) _).drew)); rintro e w4n0 ⟨ja4n0, jc4n0, rfl, hb4n0, ho4n0⟩; have hc4n0 : Below w3c.heap.size w3c w4n0 := Below.trans (by first | exact hB4 | exact hB4.drew | exact (hB4.alloc (Nat.le_refl _) _).drew | exact ((hB4.alloc (Nat.le_refl _) _).alloc (by simp) _).drew) (hb4n0.mono (by first | exact Nat.le_refl _ | (simp; omega) | simp))) | (go_at_call 11; refine (hE4 _ _ hc4n0 ho4n0).mono ?_; rintro e w4c ⟨rfl, hb4c⟩; have hcF4 : Below w3c.heap.size w3c w4c := hc4n0.trans (hb4c.mono hc4n0.size)))
  have HC5 : Hid (Below w3.heap.size w3 w4c) := (HC4.out.trans (hcF4.mono HC4.out.size))
  clear hE4 hS4 hB4 hb4c hcF4 hJ4x0 hb4n0 ho4n0 hc4n0
  have hbf := (HK.out.later HC5.out).below
  clear HK Kx Ky HC0 HC1 HC2 HC3 HC4 HC5
  cases A <;> cases C
  all_goals
    go_wp2_with fail
    go_ret
    exact ⟨by first | rfl | simp, hbf⟩
end Go.Proofs.YtbpepkockdigmaaDoor
