/-
  The walk of the law MeetsAll.
-/
import Derived.Test.YtefbadgmcgdpiaaDoorKeepLet
import Derived.Deep.RegionHeld3
namespace Go.Proofs.YtefbadgmcgdpiaaDoor
open Go.ChangeShapes Go.WideShapes Go.ChangeAt Go.RowKit Go.Deep
open Terms

set_option maxHeartbeats 3200000 in
set_option maxRecDepth 20000 in
theorem meetsAll_walk (xv yv : Value) (xs ys : List (Int × Int)) (n : Int) (w : World) (hB : 0 < w.heap.size) (hT : TabAt w) (hRx : Raws w w.heap.size xv xs) (hRy : Raws w w.heap.size yv ys) (jn : I64 n) :
    Calls Tryd.prog 4 #[xv, yv, .int .i64 n] w fun e w' => e = .returned (.bool true) ∧ Below w.heap.size w w' := by
  have HLe : Hid (∀ w1, Calls Tryd.prog 9 #[.int .i64 n] w1 fun e w' => ∃ g, e = .returned (.slice (some ⟨g, 0, none⟩) 3 3) ∧ Below w1.heap.size w1 w' ∧ Hid (BoolsV w' (.slice (some ⟨g, 0, none⟩) 3 3) (letN n))) := fun w1 => letterFn_is n w1 jn
  have HL3 : Hid ((letN n).length = 3) := rfl
  have HFx : Hid (∀ w1, Below w.heap.size w w1 → Calls Tryd.prog 5 #[xv, .int .i64 3, .int .i64 0] w1 fun e w' => ∃ a c t T m, e = .returned (.slice a t.length c) ∧ Below w1.heap.size w1 w' ∧ Hid (KFor w' (.slice a t.length c) 0 t T m)) := fun w1 h => (formulaFn_any xv xs 3 0 w1 (by omega) (by omega) (by omega) (hRx.up h)).mono fun e w' ⟨a, c, t, m, h1, h2, h3, h4, h5, h6⟩ => by
    obtain ⟨T, hT⟩ := h2.ok
    exact ⟨a, c, t, T, m, h1, h6, h5, hT, h4, h2.ne, h3⟩
  have HFy : Hid (∀ w1, Below w.heap.size w w1 → Calls Tryd.prog 5 #[yv, .int .i64 3, .int .i64 0] w1 fun e w' => ∃ a c t T m, e = .returned (.slice a t.length c) ∧ Below w1.heap.size w1 w' ∧ Hid (KFor w' (.slice a t.length c) 0 t T m)) := fun w1 h => (formulaFn_any yv ys 3 0 w1 (by omega) (by omega) (by omega) (hRy.up h)).mono fun e w' ⟨a, c, t, m, h1, h2, h3, h4, h5, h6⟩ => by
    obtain ⟨T, hT⟩ := h2.ok
    exact ⟨a, c, t, T, m, h1, h6, h5, hT, h4, h2.ne, h3⟩
  obtain ⟨xq0, xq1, xq2, rfl⟩ : ∃ a n c, xv = .slice a n c := by obtain ⟨⟨a, c, h, _⟩, _, _⟩ := hRx; exact ⟨_, _, _, h⟩
  obtain ⟨yq0, yq1, yq2, rfl⟩ : ∃ a n c, yv = .slice a n c := by obtain ⟨⟨a, c, h, _⟩, _, _⟩ := hRy; exact ⟨_, _, _, h⟩
  have HT : Hid (0 < w.heap.size ∧ TabAt w) := ⟨hB, hT⟩
  have hq0 := HFx.out w (Below.refl _ _)
  clear hRx hRy hT hB jn
  generalize letN n = let0 at *
  go_enter Tryd.func4, Tryd.ntmps4
  go_wp2_with (first | (go_at_call_of 5 xq1; refine hq0.mono ?_; rintro e v0 ⟨xa, xc, x, Tx, mx, rfl, hbf0, Hx⟩; have hbF0 := hbf0; have hq1 := HFy.out _ hbF0) | (go_at_call_of 5 yq1; refine hq1.mono ?_; rintro e v1 ⟨ya, yc, y, Ty, my, rfl, hbf1, Hy⟩; have hbF1 := hbF0.trans (hbf1.mono hbF0.size)))
  have Kx : Hid (KFor v1 (.slice xa x.length xc) 0 x Tx mx) := Hx.out.later (hbf1)
  have Ky : Hid (KFor v1 (.slice ya y.length yc) 0 y Ty my) := Hy
  have HC0 : Hid (Below v1.heap.size v1 v1) := Below.refl _ _
  have HK : Hid (Below w.heap.size w v1 ∧ 0 < v1.heap.size ∧ TabAt v1) := ⟨hbF1, Nat.lt_of_lt_of_le HT.out.1 hbF1.size, HT.out.2.below hbF1 HT.out.1⟩
  clear HFx Hx HFy Hy HT hbf0 hbF0 hq0 hbf1 hbF1 hq1
  generalize v1 = w3 at *
  generalize hxn : x.length = xn at *
  have Lx : Hid (x.length = xn) := hxn
  clear hxn
  generalize hyn : y.length = yn at *
  have Ly : Hid (y.length = yn) := hyn
  clear hyn
  have hm : mx = 0 := by have := Kx.out.many; omega
  have hm' : my = 0 := by have := Ky.out.many; omega
  subst hm hm'
  have hB0 : Below w3.heap.size w3 w3 := Below.refl _ _
  have hJ0 : ∀ (g : Nat) (w' : World), w'.cell? ⟨g, 0, none⟩ = some (.slice xa xn xc) → Below w3.heap.size w3 w' → Calls Tryd.prog 10 #[.int .i64 14, .slice (some ⟨g, 0, none⟩) 1 1] w' fun e w'' => ∃ a c, e = .returned (.slice a ((((14 : Int), (0 : Int)) :: x) : List (Int × Int)).length c) ∧ Below w'.heap.size w' w'' ∧ OpsV w'' (.slice a ((((14 : Int), (0 : Int)) :: x) : List (Int × Int)).length c) (((14 : Int), (0 : Int)) :: x) := fun g w' c0 hw => joined1 14 g (.slice xa xn xc) x w' c0 (by have := Kx.out.len; have := Kx.out.many; omega) Kx.out.ne (Kx.out.v.below (HC0.out.trans (hw.mono HC0.out.size)))
  have hE0 : ∀ (w6 : World) (jv lv : Value), Below w3.heap.size w3 w6 → OpsV w6 jv (((14 : Int), (0 : Int)) :: x) → BoolsV w6 lv let0 → Calls Tryd.prog 11 #[jv, lv, .int .i64 0] w6 fun e w' => e = .returned (.tuple #[.int .i64 1, .int .i64 0]) ∧ Below w6.heap.size w6 w' := fun w6 jv lv hw6 ho hl => by
    have hb6 := (HC0.out.trans (hw6.mono HC0.out.size))
    have hp6 : 0 < w6.heap.size := Nat.lt_of_lt_of_le HK.out.2.1 hb6.size
    have ht6 : TabAt w6 := HK.out.2.2.below hb6 HK.out.2.1
    exact (lmeets_any jv lv (((14 : Int), (0 : Int)) :: x) let0 0 w6 hp6 ht6 ho hl).mono fun e w' ⟨h1, h2⟩ => ⟨by rw [h1, (met_one (FOk.tun (k := 14) (by decide) Kx.out.ok) (by decide) (by have := Kx.out.len; have := Kx.out.many; simp; omega) HL3.out (by decide) (fun x y => rfl)).1, (met_one (FOk.tun (k := 14) (by decide) Kx.out.ok) (by decide) (by have := Kx.out.len; have := Kx.out.many; simp; omega) HL3.out (by decide) (fun x y => rfl)).2], h2⟩
  generalize ((((14 : Int), (0 : Int)) :: x) : List (Int × Int)).length = mm0 at hJ0
  have ta0 := True.intro
  have tb0 := True.intro
  have tc0 := True.intro
  go_wp2_with (first | (clear ta0; go_at_call 10; refine (hJ0 _ _ ?_ ?_).mono ?_; (focus (simp [go_sem]; done)); (focus (first | exact hB0 | exact hB0.drew | exact (hB0.alloc (Nat.le_refl _) _).drew | exact (hB0.alloc (Nat.le_refl _) _))); rintro e w0a ⟨ja0, jc0, rfl, hb0a, ho0⟩; have hc0a : Below w3.heap.size w3 w0a := Below.trans (by first | exact hB0 | exact hB0.drew | exact (hB0.alloc (Nat.le_refl _) _).drew | exact (hB0.alloc (Nat.le_refl _) _)) (hb0a.mono (by first | exact Nat.le_refl _ | (simp; omega) | simp))) | (clear tb0; go_at_call 9; refine (HLe.out _).mono ?_; rintro e w0b ⟨gl0, rfl, hb0b, HB0⟩; have hc0b : Below w3.heap.size w3 w0b := hc0a.trans (hb0b.mono hc0a.size)) | (clear tc0; go_at_call 11; refine (hE0 _ _ _ hc0b (ho0.below hb0b) HB0.out).mono ?_; rintro e w0c ⟨rfl, hb0c⟩; have hcF0 : Below w3.heap.size w3 w0c := hc0b.trans (hb0c.mono hc0b.size)))
  have HC1 : Hid (Below w3.heap.size w3 w0c) := (HC0.out.trans (hcF0.mono HC0.out.size))
  clear hB0 hJ0 hE0 hb0a hb0b hb0c ho0 HB0 hc0a hc0b hcF0
  have hB1 : Below w0c.heap.size w0c w0c := Below.refl _ _
  have hJ1 : ∀ (g : Nat) (w' : World), w'.cell? ⟨g, 0, none⟩ = some (.slice xa xn xc) → Below w0c.heap.size w0c w' → Calls Tryd.prog 10 #[.int .i64 14, .slice (some ⟨g, 0, none⟩) 1 1] w' fun e w'' => ∃ a c, e = .returned (.slice a ((((14 : Int), (0 : Int)) :: x) : List (Int × Int)).length c) ∧ Below w'.heap.size w' w'' ∧ OpsV w'' (.slice a ((((14 : Int), (0 : Int)) :: x) : List (Int × Int)).length c) (((14 : Int), (0 : Int)) :: x) := fun g w' c0 hw => joined1 14 g (.slice xa xn xc) x w' c0 (by have := Kx.out.len; have := Kx.out.many; omega) Kx.out.ne (Kx.out.v.below (HC1.out.trans (hw.mono HC1.out.size)))
  have hE1 : ∀ (w6 : World) (jv lv : Value), Below w0c.heap.size w0c w6 → OpsV w6 jv (((14 : Int), (0 : Int)) :: x) → BoolsV w6 lv let0 → Calls Tryd.prog 11 #[jv, lv, .int .i64 1] w6 fun e w' => e = .returned (.tuple #[.int .i64 1, .int .i64 0]) ∧ Below w6.heap.size w6 w' := fun w6 jv lv hw6 ho hl => by
    have hb6 := (HC1.out.trans (hw6.mono HC1.out.size))
    have hp6 : 0 < w6.heap.size := Nat.lt_of_lt_of_le HK.out.2.1 hb6.size
    have ht6 : TabAt w6 := HK.out.2.2.below hb6 HK.out.2.1
    exact (lmeets_any jv lv (((14 : Int), (0 : Int)) :: x) let0 1 w6 hp6 ht6 ho hl).mono fun e w' ⟨h1, h2⟩ => ⟨by rw [h1, (met_one (FOk.tun (k := 14) (by decide) Kx.out.ok) (by decide) (by have := Kx.out.len; have := Kx.out.many; simp; omega) HL3.out (by decide) (fun x y => rfl)).1, (met_one (FOk.tun (k := 14) (by decide) Kx.out.ok) (by decide) (by have := Kx.out.len; have := Kx.out.many; simp; omega) HL3.out (by decide) (fun x y => rfl)).2], h2⟩
  generalize ((((14 : Int), (0 : Int)) :: x) : List (Int × Int)).length = mm1 at hJ1
  have ta1 := True.intro
  have tb1 := True.intro
  have tc1 := True.intro
  go_wp2_with (first | (clear ta1; go_at_call 10; refine (hJ1 _ _ ?_ ?_).mono ?_; (focus (simp [go_sem]; done)); (focus (first | exact hB1 | exact hB1.drew | exact (hB1.alloc (Nat.le_refl _) _).drew | exact (hB1.alloc (Nat.le_refl _) _))); rintro e w1a ⟨ja1, jc1, rfl, hb1a, ho1⟩; have hc1a : Below w0c.heap.size w0c w1a := Below.trans (by first | exact hB1 | exact hB1.drew | exact (hB1.alloc (Nat.le_refl _) _).drew | exact (hB1.alloc (Nat.le_refl _) _)) (hb1a.mono (by first | exact Nat.le_refl _ | (simp; omega) | simp))) | (clear tb1; go_at_call 9; refine (HLe.out _).mono ?_; rintro e w1b ⟨gl1, rfl, hb1b, HB1⟩; have hc1b : Below w0c.heap.size w0c w1b := hc1a.trans (hb1b.mono hc1a.size)) | (clear tc1; go_at_call 11; refine (hE1 _ _ _ hc1b (ho1.below hb1b) HB1.out).mono ?_; rintro e w1c ⟨rfl, hb1c⟩; have hcF1 : Below w0c.heap.size w0c w1c := hc1b.trans (hb1c.mono hc1b.size)))
  have HC2 : Hid (Below w3.heap.size w3 w1c) := (HC1.out.trans (hcF1.mono HC1.out.size))
  clear hB1 hJ1 hE1 hb1a hb1b hb1c ho1 HB1 hc1a hc1b hcF1
  have hB2 : Below w1c.heap.size w1c w1c := Below.refl _ _
  have hJ2 : ∀ (g : Nat) (w' : World), w'.cell? ⟨g, 0, none⟩ = some (.slice xa xn xc) → w'.cell? ⟨g, 1, none⟩ = some (.slice ya yn yc) → Below w1c.heap.size w1c w' → Calls Tryd.prog 10 #[.int .i64 15, .slice (some ⟨g, 0, none⟩) 2 2] w' fun e w'' => ∃ a c, e = .returned (.slice a ((((15 : Int), (0 : Int)) :: (x ++ y)) : List (Int × Int)).length c) ∧ Below w'.heap.size w' w'' ∧ OpsV w'' (.slice a ((((15 : Int), (0 : Int)) :: (x ++ y)) : List (Int × Int)).length c) (((15 : Int), (0 : Int)) :: (x ++ y)) := fun g w' c0 c1 hw => joined2 15 g (.slice xa xn xc) (.slice ya yn yc) x y w' c0 c1 (by have := Kx.out.len; have := Kx.out.many; omega) (by have := Ky.out.len; have := Ky.out.many; omega) Kx.out.ne Ky.out.ne (Kx.out.v.below (HC2.out.trans (hw.mono HC2.out.size))) (Ky.out.v.below (HC2.out.trans (hw.mono HC2.out.size)))
  have hE2 : ∀ (w6 : World) (jv lv : Value), Below w1c.heap.size w1c w6 → OpsV w6 jv (((15 : Int), (0 : Int)) :: (x ++ y)) → BoolsV w6 lv let0 → Calls Tryd.prog 11 #[jv, lv, .int .i64 0] w6 fun e w' => e = .returned (.tuple #[.int .i64 1, .int .i64 0]) ∧ Below w6.heap.size w6 w' := fun w6 jv lv hw6 ho hl => by
    have hb6 := (HC2.out.trans (hw6.mono HC2.out.size))
    have hp6 : 0 < w6.heap.size := Nat.lt_of_lt_of_le HK.out.2.1 hb6.size
    have ht6 : TabAt w6 := HK.out.2.2.below hb6 HK.out.2.1
    exact (lmeets_any jv lv (((15 : Int), (0 : Int)) :: (x ++ y)) let0 0 w6 hp6 ht6 ho hl).mono fun e w' ⟨h1, h2⟩ => ⟨by rw [h1, (met_one (FOk.tbi (k := 15) (by decide) (by decide) Kx.out.ok Ky.out.ok) (by decide) (by have := Kx.out.len; have := Kx.out.many; have := Ky.out.len; have := Ky.out.many; simp; omega) HL3.out (by decide) (fun x y => by cases x <;> cases y <;> decide)).1, (met_one (FOk.tbi (k := 15) (by decide) (by decide) Kx.out.ok Ky.out.ok) (by decide) (by have := Kx.out.len; have := Kx.out.many; have := Ky.out.len; have := Ky.out.many; simp; omega) HL3.out (by decide) (fun x y => by cases x <;> cases y <;> decide)).2], h2⟩
  generalize ((((15 : Int), (0 : Int)) :: (x ++ y)) : List (Int × Int)).length = mm2 at hJ2
  have ta2 := True.intro
  have tb2 := True.intro
  have tc2 := True.intro
  go_wp2_with (first | (clear ta2; go_at_call 10; refine (hJ2 _ _ ?_ ?_ ?_).mono ?_; (focus (simp [go_sem]; done)); (focus (simp [go_sem]; done)); (focus (first | exact hB2 | exact hB2.drew | exact (hB2.alloc (Nat.le_refl _) _).drew | exact (hB2.alloc (Nat.le_refl _) _))); rintro e w2a ⟨ja2, jc2, rfl, hb2a, ho2⟩; have hc2a : Below w1c.heap.size w1c w2a := Below.trans (by first | exact hB2 | exact hB2.drew | exact (hB2.alloc (Nat.le_refl _) _).drew | exact (hB2.alloc (Nat.le_refl _) _)) (hb2a.mono (by first | exact Nat.le_refl _ | (simp; omega) | simp))) | (clear tb2; go_at_call 9; refine (HLe.out _).mono ?_; rintro e w2b ⟨gl2, rfl, hb2b, HB2⟩; have hc2b : Below w1c.heap.size w1c w2b := hc2a.trans (hb2b.mono hc2a.size)) | (clear tc2; go_at_call 11; refine (hE2 _ _ _ hc2b (ho2.below hb2b) HB2.out).mono ?_; rintro e w2c ⟨rfl, hb2c⟩; have hcF2 : Below w1c.heap.size w1c w2c := hc2b.trans (hb2c.mono hc2b.size)))
  have HC3 : Hid (Below w3.heap.size w3 w2c) := (HC2.out.trans (hcF2.mono HC2.out.size))
  clear hB2 hJ2 hE2 hb2a hb2b hb2c ho2 HB2 hc2a hc2b hcF2
  have hB3 : Below w2c.heap.size w2c w2c := Below.refl _ _
  have hJ3 : ∀ (g : Nat) (w' : World), w'.cell? ⟨g, 0, none⟩ = some (.slice xa xn xc) → w'.cell? ⟨g, 1, none⟩ = some (.slice ya yn yc) → Below w2c.heap.size w2c w' → Calls Tryd.prog 10 #[.int .i64 16, .slice (some ⟨g, 0, none⟩) 2 2] w' fun e w'' => ∃ a c, e = .returned (.slice a ((((16 : Int), (0 : Int)) :: (x ++ y)) : List (Int × Int)).length c) ∧ Below w'.heap.size w' w'' ∧ OpsV w'' (.slice a ((((16 : Int), (0 : Int)) :: (x ++ y)) : List (Int × Int)).length c) (((16 : Int), (0 : Int)) :: (x ++ y)) := fun g w' c0 c1 hw => joined2 16 g (.slice xa xn xc) (.slice ya yn yc) x y w' c0 c1 (by have := Kx.out.len; have := Kx.out.many; omega) (by have := Ky.out.len; have := Ky.out.many; omega) Kx.out.ne Ky.out.ne (Kx.out.v.below (HC3.out.trans (hw.mono HC3.out.size))) (Ky.out.v.below (HC3.out.trans (hw.mono HC3.out.size)))
  have hE3 : ∀ (w6 : World) (jv lv : Value), Below w2c.heap.size w2c w6 → OpsV w6 jv (((16 : Int), (0 : Int)) :: (x ++ y)) → BoolsV w6 lv let0 → Calls Tryd.prog 11 #[jv, lv, .int .i64 1] w6 fun e w' => e = .returned (.tuple #[.int .i64 1, .int .i64 0]) ∧ Below w6.heap.size w6 w' := fun w6 jv lv hw6 ho hl => by
    have hb6 := (HC3.out.trans (hw6.mono HC3.out.size))
    have hp6 : 0 < w6.heap.size := Nat.lt_of_lt_of_le HK.out.2.1 hb6.size
    have ht6 : TabAt w6 := HK.out.2.2.below hb6 HK.out.2.1
    exact (lmeets_any jv lv (((16 : Int), (0 : Int)) :: (x ++ y)) let0 1 w6 hp6 ht6 ho hl).mono fun e w' ⟨h1, h2⟩ => ⟨by rw [h1, (met_one (FOk.tbi (k := 16) (by decide) (by decide) Kx.out.ok Ky.out.ok) (by decide) (by have := Kx.out.len; have := Kx.out.many; have := Ky.out.len; have := Ky.out.many; simp; omega) HL3.out (by decide) (fun x y => by cases x <;> cases y <;> decide)).1, (met_one (FOk.tbi (k := 16) (by decide) (by decide) Kx.out.ok Ky.out.ok) (by decide) (by have := Kx.out.len; have := Kx.out.many; have := Ky.out.len; have := Ky.out.many; simp; omega) HL3.out (by decide) (fun x y => by cases x <;> cases y <;> decide)).2], h2⟩
  generalize ((((16 : Int), (0 : Int)) :: (x ++ y)) : List (Int × Int)).length = mm3 at hJ3
  have ta3 := True.intro
  have tb3 := True.intro
  have tc3 := True.intro
  go_wp2_with (first | (clear ta3; go_at_call 10; refine (hJ3 _ _ ?_ ?_ ?_).mono ?_; (focus (simp [go_sem]; done)); (focus (simp [go_sem]; done)); (focus (first | exact hB3 | exact hB3.drew | exact (hB3.alloc (Nat.le_refl _) _).drew | exact (hB3.alloc (Nat.le_refl _) _))); rintro e w3a ⟨ja3, jc3, rfl, hb3a, ho3⟩; have hc3a : Below w2c.heap.size w2c w3a := Below.trans (by first | exact hB3 | exact hB3.drew | exact (hB3.alloc (Nat.le_refl _) _).drew | exact (hB3.alloc (Nat.le_refl _) _)) (hb3a.mono (by first | exact Nat.le_refl _ | (simp; omega) | simp))) | (clear tb3; go_at_call 9; refine (HLe.out _).mono ?_; rintro e w3b ⟨gl3, rfl, hb3b, HB3⟩; have hc3b : Below w2c.heap.size w2c w3b := hc3a.trans (hb3b.mono hc3a.size)) | (clear tc3; go_at_call 11; refine (hE3 _ _ _ hc3b (ho3.below hb3b) HB3.out).mono ?_; rintro e w3c ⟨rfl, hb3c⟩; have hcF3 : Below w2c.heap.size w2c w3c := hc3b.trans (hb3c.mono hc3b.size)))
  have HC4 : Hid (Below w3.heap.size w3 w3c) := (HC3.out.trans (hcF3.mono HC3.out.size))
  clear hB3 hJ3 hE3 hb3a hb3b hb3c ho3 HB3 hc3a hc3b hcF3
  have hbf := HK.out.1.trans (HC4.out.mono HK.out.1.size)
  go_wp2_with fail
  go_ret
  exact ⟨by first | rfl | simp, hbf⟩
end Go.Proofs.YtefbadgmcgdpiaaDoor
