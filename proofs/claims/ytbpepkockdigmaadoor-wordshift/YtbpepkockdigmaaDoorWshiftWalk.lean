/-
  The walk of the law WordShift.
-/
import Derived.Test.YtbpepkockdigmaaDoorKeepShift
import Derived.Deep.RegionHeld3
namespace Go.Proofs.YtbpepkockdigmaaDoor
open Go.ChangeShapes Go.WideShapes Go.ChangeAt Go.RowKit Go.Deep
open Terms

set_option maxHeartbeats 3200000 in
set_option maxRecDepth 20000 in
theorem wordShift_walk (xv s0 s1 : Value) (xs : List (Int × Int)) (a b : List Int) (w : World) (hB : 0 < w.heap.size) (hT : TabAt w) (hRx : Raws w w.heap.size xv xs) (hA : IntsR w s0 a) (hBb : IntsR w s1 b) :
    Calls Tryd.prog 8 #[xv, .agg #[s0, s1]] w fun e w' => e = .returned (.bool true) ∧ Below w.heap.size w w' := by
  have HWo : Hid (∀ w1, Below w.heap.size w w1 → Calls Tryd.prog 9 #[.agg #[s0, s1]] w1 fun e w' => ∃ so sc lo lc ss ll, e = .returned (.agg #[.slice so ss.length sc, .slice lo ll.length lc]) ∧ Below w1.heap.size w1 w' ∧ Hid (WOk ss ll) ∧ Hid ((LettersV w' (.slice so ss.length sc) ss ∧ LettersV w' (.slice lo ll.length lc) ll) ∧ ss.length ≤ sc ∧ ll.length ≤ lc)) := fun w1 h => wordFn_cap s0 s1 a b w1 (hA.below h) (hBb.below h)
  have HFx : Hid (∀ w1, Below w.heap.size w w1 → Calls Tryd.prog 10 #[xv, .int .i64 3, .int .i64 4] w1 fun e w' => ∃ a c t T m, e = .returned (.slice a t.length c) ∧ Below w1.heap.size w1 w' ∧ Hid (KFor w' (.slice a t.length c) 4 t T m)) := fun w1 h => (formulaFn_any xv xs 3 4 w1 (by omega) (by omega) (by omega) (hRx.up h)).mono fun e w' ⟨a, c, t, m, h1, h2, h3, h4, h5, h6⟩ => by
    obtain ⟨T, hT⟩ := h2.ok
    exact ⟨a, c, t, T, m, h1, h6, h5, hT, h4, h2.ne, h3⟩
  obtain ⟨xq0, xq1, xq2, rfl⟩ : ∃ a n c, xv = .slice a n c := by obtain ⟨⟨a, c, h, _⟩, _, _⟩ := hRx; exact ⟨_, _, _, h⟩
  obtain ⟨e0, e1, e2, rfl⟩ : ∃ a n c, s0 = .slice a n c := by obtain ⟨a, c, h, _⟩ := hA.v; exact ⟨_, _, _, h⟩
  obtain ⟨g0, g1, g2, rfl⟩ : ∃ a n c, s1 = .slice a n c := by obtain ⟨a, c, h, _⟩ := hBb.v; exact ⟨_, _, _, h⟩
  have hA0 : ∀ o, Below w.heap.size w (w.alloc o) := fun o => (Below.refl _ _).alloc (Nat.le_refl _) o
  have HT : Hid (0 < w.heap.size ∧ TabAt w) := ⟨hB, hT⟩
  clear hRx hA hBb hT hB
  go_enter Tryd.func8, Tryd.ntmps8
  go_wp2_with (first | (go_at_call 9; refine (HWo.out _ (by first | exact Below.refl _ _ | exact hA0 _)).mono ?_; rintro e w1 ⟨so, sc, lo, lc, ss, ll, rfl, hb1, HWk, HLs⟩; have hbw1 : Below w.heap.size w w1 := (by first | exact hb1 | exact (hA0 _).trans (hb1.mono (hA0 _).size)); have hbA := hbw1.alloc hbw1.size (.cells #[.slice so ss.length sc, .slice lo ll.length lc] 28); have hq0 := HFx.out _ hbA) | (go_at_call_of 10 xq1; refine hq0.mono ?_; rintro e v0 ⟨xa, xc, x, Tx, mx, rfl, hbf0, Hx⟩; have hbF0 := hbA.trans (hbf0.mono hbA.size); have HK := (show Hid _ from KCtx.start HT.out hbw1 HLs.out.1 HWk.out (hbf0)); have hkc := HK.out.c0; have hkd := HK.out.c1; have hklt := HK.out.lt; have hs5 : ss.length ≤ 5 := HWk.out.stem; have hl5 : ll.length ≤ 5 := HWk.out.loop; have hl1 : 1 ≤ ll.length := HWk.out.one; have hcs := HLs.out.2.1; have hcl := HLs.out.2.2; rcases (Nat.lt_or_ge 0 ss.length) with hz | hz))
  · obtain ⟨b, off, rfl, hbl, _⟩ := HK.out.s.at (i := 0) hz
    have hz1 : (1 : Int) ≤ (ss.length : Int) := by omega
    have hcs1 : (ss.length : Int) ≤ (sc : Int) := by omega
    by_cases hsc : sc = 1
    · subst hsc
      go_region
      obtain ⟨w3, hw3⟩ : ∃ w3, w3 = (v0.alloc (.cells #[.slice (some ⟨b, off, none⟩) 0 0, .slice lo ll.length lc] 28)).drew := ⟨_, rfl⟩
      have hb03 : Below v0.heap.size v0 w3 := by rw [hw3]; exact ((Below.refl _ _).alloc (Nat.le_refl _) _).drew
      have HK3 : Hid (KCtx w w1.heap.size (.slice (some ⟨b, off, none⟩) ss.length 1) (.slice lo ll.length lc) ss ll w3) := HK.out.later hb03
      have Kx : Hid (KFor w3 (.slice xa x.length xc) 4 x Tx mx) := Hx.out.later hb03
      have HV : Hid (KCtx w v0.heap.size (.slice (some ⟨b, off, none⟩) 0 0) (.slice lo ll.length lc) ss.tail ll w3) := HK3.out.other (by rw [hw3]; simp [World.drew]) (by rw [hw3]; simp [go_sem]) (by rw [hw3]; simp [go_sem]) (by have h := HK3.out.s.tail hz hcs; rw [if_pos rfl, show ss.length - 1 = 0 by omega] at h; exact h) HK3.out.l HK3.out.ok.tail
      have HSh : Hid (sig (ss.tail ++ ll) ss.tail.length = fun j => sig (ss ++ ll) ss.length (j + 1)) := shift_tail hz hl1
      rw [← hw3]
      clear hw3 HFx Hx HWo HLs HWk HT hA0 hbA hbw1 hb1 hkc hkd hs5 hl5 hklt hcs hcl hz hz1 hcs1 hbf0 hbF0 hq0 hb03 HK hl1 
      go_wp2_with fail
      all_goals
        generalize w1.heap.size = wb at *
        generalize v0.heap.size = vb at *
        generalize hxn : x.length = xn at *
        have Lx : Hid (x.length = xn) := hxn
        clear hxn
        generalize hsn : ss.length = sn at *
        generalize hln : ll.length = ln at *
        have LS : Hid (ss.length = sn) := hsn
        have LL : Hid (ll.length = ln) := hln
        clear hsn hln
        have HC0 : Hid (Below w3.heap.size w3 w3) := Below.refl _ _
        obtain ⟨A, hA⟩ : ∃ A, Tm.hb (sig (ss ++ ll) ss.length) (.un 14 0 Tx) 0 = A := ⟨_, rfl⟩
        have HA : Hid (Tm.hb (sig (ss ++ ll) ss.length) (.un 14 0 Tx) 0 = A) := hA
        clear hA
        have hB0 : Below w3.heap.size w3 w3 := Below.refl _ _
        have hS0 : ∀ w', Below w3.heap.size w3 w' → w'.cell? ⟨wb, 0, none⟩ = some (.slice (some ⟨b, off, none⟩) sn 1) ∧ w'.cell? ⟨wb, 1, none⟩ = some (.slice lo ln lc) := fun w' hw' => ⟨(HK3.out.later (HC0.out.trans (hw'.mono HC0.out.size))).c0, (HK3.out.later (HC0.out.trans (hw'.mono HC0.out.size))).c1⟩
        have hJ0x0 : ∀ (g : Nat) (w' : World), w'.cell? ⟨g, 0, none⟩ = some (.slice xa xn xc) → Below w3.heap.size w3 w' → Calls Tryd.prog 12 #[.int .i64 14, .slice (some ⟨g, 0, none⟩) 1 1] w' fun e w'' => ∃ a c, e = .returned (.slice a ((((14 : Int), (0 : Int)) :: x) : List (Int × Int)).length c) ∧ Below w'.heap.size w' w'' ∧ OpsV w'' (.slice a ((((14 : Int), (0 : Int)) :: x) : List (Int × Int)).length c) (((14 : Int), (0 : Int)) :: x) := fun g w'  c0 hw => joined1 14 g (.slice xa xn xc) x w' c0 (by have := Kx.out.len; have := Kx.out.many; omega) Kx.out.ne (Kx.out.v.below (HC0.out.trans (hw.mono HC0.out.size)))
        have hE0 : ∀ (w6 : World) (jv : Value), Below w3.heap.size w3 w6 → OpsV w6 jv (((14 : Int), (0 : Int)) :: x) → Calls Tryd.prog 11 #[jv, .agg #[.slice (some ⟨b, off, none⟩) sn 1, .slice lo ln lc]] w6 fun e w' => e = .returned (.tuple #[.bool (A), .bool true]) ∧ Below w6.heap.size w6 w' := fun w6 jv hw6 ho => (HK3.out.later (HC0.out.trans (hw6.mono HC0.out.size))).holds ho (FOk.tun (k := 14) (by decide) Kx.out.ok) (by have := Kx.out.len; have := Kx.out.many; simp; omega) (by have := Kx.out.len; have := Kx.out.many; omega) HA.out
        generalize ((((14 : Int), (0 : Int)) :: x) : List (Int × Int)).length = mm0x0 at hJ0x0
        try go_wp2_with fail
        go_region_held3 (fun w' => w'.cell? ⟨wb, 0, none⟩ = some (.slice (some ⟨b, off, none⟩) sn 1) ∧ w'.cell? ⟨wb, 1, none⟩ = some (.slice lo ln lc))
          (exact hS0 _ (by first | exact hcF0 | exact hc0n0 | exact hc0n0.alloc hc0n0.size _ | exact hB0 | exact hB0.drew | exact (hB0.alloc (Nat.le_refl _) _).drew | exact ((hB0.alloc (Nat.le_refl _) _).alloc (by simp) _).drew))
          (first | (go_at_call 12; refine (hJ0x0 _ _ ?_ ?_).mono ?_; (focus (simp [go_sem]; done)); (focus (first | exact hB0 | exact hB0.drew | exact (hB0.alloc (Nat.le_refl _) _).drew | exact ((hB0.alloc (Nat.le_refl _) _).alloc (by simp) _).drew)); rintro e w0n0 ⟨ja0n0, jc0n0, rfl, hb0n0, ho0n0⟩; have hc0n0 : Below w3.heap.size w3 w0n0 := Below.trans (by first | exact hB0 | exact hB0.drew | exact (hB0.alloc (Nat.le_refl _) _).drew | exact ((hB0.alloc (Nat.le_refl _) _).alloc (by simp) _).drew) (hb0n0.mono (by first | exact Nat.le_refl _ | (simp; omega) | simp))) | (go_at_call 11; refine (hE0 _ _ hc0n0 ho0n0).mono ?_; rintro e w0c ⟨rfl, hb0c⟩; have hcF0 : Below w3.heap.size w3 w0c := hc0n0.trans (hb0c.mono hc0n0.size)))
        have HC1 : Hid (Below w3.heap.size w3 w0c) := (HC0.out.trans (hcF0.mono HC0.out.size))
        have HD0 := (show Hid _ from hcF0)
        clear hE0 hS0 hB0 hb0c hcF0 hJ0x0 hb0n0 ho0n0 hc0n0
        have hE1 : Calls Tryd.prog 11 #[.slice xa xn xc, .agg #[.slice (some ⟨b, off, none⟩) 0 0, .slice lo ln lc]] w0c fun e w' => e = .returned (.tuple #[.bool A, .bool true]) ∧ Below w0c.heap.size w0c w' := (HV.out.later HC1.out).holds (Kx.out.v.below HC1.out) Kx.out.ok (by have := Kx.out.len; omega) (by have := Kx.out.many; omega) (by rw [hb_shift1 HSh.out 0, ← LS.out, HA.out])
        have hc1 := (HV.out.later HC1.out).c0
        have hd1 := (HV.out.later HC1.out).c1
        have HY : Hid (∀ w6 g, Below w3.heap.size w3 w6 → w6.cell? ⟨g, 0, none⟩ = some (.int .i64 11) → w6.cell? ⟨g, 1, none⟩ = some (.int .i64 0) → g < w6.heap.size → Calls Tryd.prog 11 #[.slice (some ⟨g, 0, none⟩) 1 1, .agg #[.slice (some ⟨b, off, none⟩) sn 1, .slice lo ln lc]] w6 fun e w' => e = .returned (.tuple #[.bool true, .bool true]) ∧ Below w6.heap.size w6 w') := fun w6 g hb c0 c1 hl => (HK3.out.later hb).holds (t := [(11, 0)]) ⟨some ⟨g, 0, none⟩, 1, rfl, ⟨by simp, fun h => by cases h⟩, fun _ => ⟨g, 0, rfl, hl, fun i hi => by
          obtain rfl : i = 0 := by simpa using hi
          exact ⟨c0, c1⟩⟩⟩ FOk.one (by simp) (by omega) (Tm.hb_yes _ _ _)
        have tk1 := True.intro
        have tk2 := True.intro
        go_wp2_with (first | (clear tk1; go_at_call_of 11 xn; refine hE1.mono ?_; rintro e w1c ⟨rfl, hb1c⟩; have HC2 : Hid (Below w3.heap.size w3 w1c) := HC1.out.trans (hb1c.mono HC1.out.size); have hk1c := (HK3.out.later HC2.out).c0; have hk1d := (HK3.out.later HC2.out).c1; have hk1l := (HK3.out.later HC2.out).lt; have hb2A := HC2.out.alloc HC2.out.size (.cells #[.int .i64 11, .int .i64 0] 42); have hE2 := HY.out _ w1c.heap.size hb2A (by simp [go_sem]) (by simp [go_sem]) (by simp)) | (clear tk2; go_at_call 11; refine hE2.mono ?_; rintro e w2c ⟨rfl, hb2c⟩))
        have hbf := (HK3.out.later (hb2A.trans (hb2c.mono hb2A.size))).below
        clear HY hE1 hE2 hc1 hd1 HK3 HV Kx HC0 HC1 HC2
        cases A
        all_goals
          go_wp2_with fail
          go_ret
          exact ⟨by first | rfl | simp, hbf⟩
    · go_region
      obtain ⟨w3, hw3⟩ : ∃ w3, w3 = (v0.alloc (.cells #[.slice (some ⟨b, off + 1, none⟩) (ss.length - 1) (sc - 1), .slice lo ll.length lc] 28)).drew := ⟨_, rfl⟩
      have hb03 : Below v0.heap.size v0 w3 := by rw [hw3]; exact ((Below.refl _ _).alloc (Nat.le_refl _) _).drew
      have HK3 : Hid (KCtx w w1.heap.size (.slice (some ⟨b, off, none⟩) ss.length sc) (.slice lo ll.length lc) ss ll w3) := HK.out.later hb03
      have Kx : Hid (KFor w3 (.slice xa x.length xc) 4 x Tx mx) := Hx.out.later hb03
      have HV : Hid (KCtx w v0.heap.size (.slice (some ⟨b, off + 1, none⟩) (ss.length - 1) (sc - 1)) (.slice lo ll.length lc) ss.tail ll w3) := HK3.out.other (by rw [hw3]; simp [World.drew]) (by rw [hw3]; simp [go_sem]) (by rw [hw3]; simp [go_sem]) (by have h := HK3.out.s.tail hz hcs; rw [if_neg hsc] at h; exact h) HK3.out.l HK3.out.ok.tail
      have HSh : Hid (sig (ss.tail ++ ll) ss.tail.length = fun j => sig (ss ++ ll) ss.length (j + 1)) := shift_tail hz hl1
      rw [← hw3]
      generalize ss.length - 1 = vn at *
      clear hw3 HFx Hx HWo HLs HWk HT hA0 hbA hbw1 hb1 hkc hkd hs5 hl5 hklt hcs hcl hz hz1 hcs1 hbf0 hbF0 hq0 hb03 HK hl1 hsc
      generalize sc - 1 = vc at *
      go_wp2_with fail
      all_goals
        generalize w1.heap.size = wb at *
        generalize v0.heap.size = vb at *
        generalize hxn : x.length = xn at *
        have Lx : Hid (x.length = xn) := hxn
        clear hxn
        generalize hsn : ss.length = sn at *
        generalize hln : ll.length = ln at *
        have LS : Hid (ss.length = sn) := hsn
        have LL : Hid (ll.length = ln) := hln
        clear hsn hln
        have HC0 : Hid (Below w3.heap.size w3 w3) := Below.refl _ _
        obtain ⟨A, hA⟩ : ∃ A, Tm.hb (sig (ss ++ ll) ss.length) (.un 14 0 Tx) 0 = A := ⟨_, rfl⟩
        have HA : Hid (Tm.hb (sig (ss ++ ll) ss.length) (.un 14 0 Tx) 0 = A) := hA
        clear hA
        have hB0 : Below w3.heap.size w3 w3 := Below.refl _ _
        have hS0 : ∀ w', Below w3.heap.size w3 w' → w'.cell? ⟨wb, 0, none⟩ = some (.slice (some ⟨b, off, none⟩) sn sc) ∧ w'.cell? ⟨wb, 1, none⟩ = some (.slice lo ln lc) := fun w' hw' => ⟨(HK3.out.later (HC0.out.trans (hw'.mono HC0.out.size))).c0, (HK3.out.later (HC0.out.trans (hw'.mono HC0.out.size))).c1⟩
        have hJ0x0 : ∀ (g : Nat) (w' : World), w'.cell? ⟨g, 0, none⟩ = some (.slice xa xn xc) → Below w3.heap.size w3 w' → Calls Tryd.prog 12 #[.int .i64 14, .slice (some ⟨g, 0, none⟩) 1 1] w' fun e w'' => ∃ a c, e = .returned (.slice a ((((14 : Int), (0 : Int)) :: x) : List (Int × Int)).length c) ∧ Below w'.heap.size w' w'' ∧ OpsV w'' (.slice a ((((14 : Int), (0 : Int)) :: x) : List (Int × Int)).length c) (((14 : Int), (0 : Int)) :: x) := fun g w'  c0 hw => joined1 14 g (.slice xa xn xc) x w' c0 (by have := Kx.out.len; have := Kx.out.many; omega) Kx.out.ne (Kx.out.v.below (HC0.out.trans (hw.mono HC0.out.size)))
        have hE0 : ∀ (w6 : World) (jv : Value), Below w3.heap.size w3 w6 → OpsV w6 jv (((14 : Int), (0 : Int)) :: x) → Calls Tryd.prog 11 #[jv, .agg #[.slice (some ⟨b, off, none⟩) sn sc, .slice lo ln lc]] w6 fun e w' => e = .returned (.tuple #[.bool (A), .bool true]) ∧ Below w6.heap.size w6 w' := fun w6 jv hw6 ho => (HK3.out.later (HC0.out.trans (hw6.mono HC0.out.size))).holds ho (FOk.tun (k := 14) (by decide) Kx.out.ok) (by have := Kx.out.len; have := Kx.out.many; simp; omega) (by have := Kx.out.len; have := Kx.out.many; omega) HA.out
        generalize ((((14 : Int), (0 : Int)) :: x) : List (Int × Int)).length = mm0x0 at hJ0x0
        try go_wp2_with fail
        go_region_held3 (fun w' => w'.cell? ⟨wb, 0, none⟩ = some (.slice (some ⟨b, off, none⟩) sn sc) ∧ w'.cell? ⟨wb, 1, none⟩ = some (.slice lo ln lc))
          (exact hS0 _ (by first | exact hcF0 | exact hc0n0 | exact hc0n0.alloc hc0n0.size _ | exact hB0 | exact hB0.drew | exact (hB0.alloc (Nat.le_refl _) _).drew | exact ((hB0.alloc (Nat.le_refl _) _).alloc (by simp) _).drew))
          (first | (go_at_call 12; refine (hJ0x0 _ _ ?_ ?_).mono ?_; (focus (simp [go_sem]; done)); (focus (first | exact hB0 | exact hB0.drew | exact (hB0.alloc (Nat.le_refl _) _).drew | exact ((hB0.alloc (Nat.le_refl _) _).alloc (by simp) _).drew)); rintro e w0n0 ⟨ja0n0, jc0n0, rfl, hb0n0, ho0n0⟩; have hc0n0 : Below w3.heap.size w3 w0n0 := Below.trans (by first | exact hB0 | exact hB0.drew | exact (hB0.alloc (Nat.le_refl _) _).drew | exact ((hB0.alloc (Nat.le_refl _) _).alloc (by simp) _).drew) (hb0n0.mono (by first | exact Nat.le_refl _ | (simp; omega) | simp))) | (go_at_call 11; refine (hE0 _ _ hc0n0 ho0n0).mono ?_; rintro e w0c ⟨rfl, hb0c⟩; have hcF0 : Below w3.heap.size w3 w0c := hc0n0.trans (hb0c.mono hc0n0.size)))
        have HC1 : Hid (Below w3.heap.size w3 w0c) := (HC0.out.trans (hcF0.mono HC0.out.size))
        have HD0 := (show Hid _ from hcF0)
        clear hE0 hS0 hB0 hb0c hcF0 hJ0x0 hb0n0 ho0n0 hc0n0
        have hE1 : Calls Tryd.prog 11 #[.slice xa xn xc, .agg #[.slice (some ⟨b, off + 1, none⟩) vn (vc), .slice lo ln lc]] w0c fun e w' => e = .returned (.tuple #[.bool A, .bool true]) ∧ Below w0c.heap.size w0c w' := (HV.out.later HC1.out).holds (Kx.out.v.below HC1.out) Kx.out.ok (by have := Kx.out.len; omega) (by have := Kx.out.many; omega) (by rw [hb_shift1 HSh.out 0, ← LS.out, HA.out])
        have hc1 := (HV.out.later HC1.out).c0
        have hd1 := (HV.out.later HC1.out).c1
        have HY : Hid (∀ w6 g, Below w3.heap.size w3 w6 → w6.cell? ⟨g, 0, none⟩ = some (.int .i64 11) → w6.cell? ⟨g, 1, none⟩ = some (.int .i64 0) → g < w6.heap.size → Calls Tryd.prog 11 #[.slice (some ⟨g, 0, none⟩) 1 1, .agg #[.slice (some ⟨b, off, none⟩) sn sc, .slice lo ln lc]] w6 fun e w' => e = .returned (.tuple #[.bool true, .bool true]) ∧ Below w6.heap.size w6 w') := fun w6 g hb c0 c1 hl => (HK3.out.later hb).holds (t := [(11, 0)]) ⟨some ⟨g, 0, none⟩, 1, rfl, ⟨by simp, fun h => by cases h⟩, fun _ => ⟨g, 0, rfl, hl, fun i hi => by
          obtain rfl : i = 0 := by simpa using hi
          exact ⟨c0, c1⟩⟩⟩ FOk.one (by simp) (by omega) (Tm.hb_yes _ _ _)
        have tk1 := True.intro
        have tk2 := True.intro
        go_wp2_with (first | (clear tk1; go_at_call_of 11 xn; refine hE1.mono ?_; rintro e w1c ⟨rfl, hb1c⟩; have HC2 : Hid (Below w3.heap.size w3 w1c) := HC1.out.trans (hb1c.mono HC1.out.size); have hk1c := (HK3.out.later HC2.out).c0; have hk1d := (HK3.out.later HC2.out).c1; have hk1l := (HK3.out.later HC2.out).lt; have hb2A := HC2.out.alloc HC2.out.size (.cells #[.int .i64 11, .int .i64 0] 42); have hE2 := HY.out _ w1c.heap.size hb2A (by simp [go_sem]) (by simp [go_sem]) (by simp)) | (clear tk2; go_at_call 11; refine hE2.mono ?_; rintro e w2c ⟨rfl, hb2c⟩))
        have hbf := (HK3.out.later (hb2A.trans (hb2c.mono hb2A.size))).below
        clear HY hE1 hE2 hc1 hd1 HK3 HV Kx HC0 HC1 HC2
        cases A
        all_goals
          go_wp2_with fail
          go_ret
          exact ⟨by first | rfl | simp, hbf⟩
  · have hss : ss = [] := List.length_eq_zero_iff.1 (by omega)
    obtain ⟨us, lo', lc', hv, _, hlu, hlat⟩ := id HK.out.l
    injection hv with q1 q2 q3
    subst q1 q3
    obtain ⟨b, off, rfl, hbl, hat⟩ := hlat (by rintro rfl; simp at hl1)
    obtain ⟨W0, hW0⟩ : ∃ W0, W0 = v0.alloc (.cells #[.slice none 0 0, .slice none 0 0] 28) := ⟨_, rfl⟩
    have hz00 : W0.heap.size = v0.heap.size + 1 := by rw [hW0]; simp
    have hbv : Below v0.heap.size v0 W0 := by rw [hW0]; exact (Below.refl _ _).alloc (Nat.le_refl _) _
    have HHead : Hid (∀ W : World, Below W0.heap.size W0 W → W.cell? ⟨w1.heap.size, 1, none⟩ = some (.slice (some ⟨b, off, none⟩) ll.length lc) ∧ W.cell? ⟨b, off, none⟩ = some (us.getD 0 nilV) ∧ W.cell? ⟨v0.heap.size, 0, none⟩ = some (.slice none 0 0) ∧ W.cell? ⟨v0.heap.size, 1, none⟩ = some (.slice none 0 0) ∧ W.frozen? ⟨v0.heap.size, 0, none⟩ = false ∧ W.frozen? ⟨v0.heap.size, 1, none⟩ = false) := fun W h0 => by
      have h := hbv.trans (h0.mono hbv.size)
      refine ⟨(h.cell (p := ⟨w1.heap.size, 1, none⟩) hklt).trans hkd, (h.cell (p := ⟨b, off, none⟩) hbl).trans (hat 0 (by omega)), (h0.cell (p := ⟨v0.heap.size, 0, none⟩) (by show v0.heap.size < _; omega)).trans ?_, (h0.cell (p := ⟨v0.heap.size, 1, none⟩) (by show v0.heap.size < _; omega)).trans ?_, (h0.frozen (p := ⟨v0.heap.size, 0, none⟩) (by show v0.heap.size < _; omega)).trans ?_, (h0.frozen (p := ⟨v0.heap.size, 1, none⟩) (by show v0.heap.size < _; omega)).trans ?_⟩ <;> (rw [hW0]; simp [go_sem])
    have HNews : Hid (∀ W : World, Below W0.heap.size W0 W → ∀ (j : Nat) (u : Value), us.tail[j]? = some u → W.cell? ((⟨b, off + 1, none⟩ : Addr).add j) = some u) := fun W h0 j u hj => by
      have h := hbv.trans (h0.mono hbv.size)
      have hjl := (List.getElem?_eq_some_iff.1 hj).1
      rw [List.length_tail, hlu.1] at hjl
      rw [add_plain, h.cell (p := ⟨b, off + 1 + j, none⟩) hbl, show off + 1 + j = off + (j + 1) by omega, hat (j + 1) (by omega), ← tail_getD, List.getD_eq_getElem?_getD, hj]
      rfl
    have HOne : Hid (∀ u ∈ us.tail, u.oneCell' = true) := fun u hu => hlu.one u (List.mem_of_mem_tail hu)
    have HOne1 : Hid ((us.getD 0 nilV).oneCell' = true) := hlu.one _ (by rw [List.getD_eq_getElem?_getD, List.getElem?_eq_getElem (by rw [hlu.1]; omega), Option.getD_some]; exact List.getElem_mem _)
    have HLen : Hid (us.tail.length = (ll.length - 1) * 1) := by show _ = _; rw [List.length_tail, hlu.1, Nat.mul_one]
    obtain ⟨ua, un, uc, hu0⟩ : ∃ a n c, us.getD 0 nilV = .slice a n c := by
      obtain ⟨a, c, e, _⟩ := hlu.2 0 (by omega)
      exact ⟨a, _, c, e⟩
    rw [hu0] at HHead HOne1
    have hb0 : Below W0.heap.size W0 W0.drew := (Below.refl _ _).drew
    have hsA : ∀ o, W0.heap.size ≤ (W0.drew.alloc o).heap.size := fun o => by rw [World.size_alloc]; exact Nat.le_succ _
    have hz1 : (1 : Int) ≤ (ll.length : Int) := by omega
    have hzi : (0 : Int) < (ll.length : Int) := by omega
    have hcs1 : (ll.length : Int) ≤ (lc : Int) := by omega
    obtain ⟨i0, hi, hz0, hz1', hz2⟩ := info_parts infoBools
    have tk1 := True.intro
    have tk2 := True.intro
    rw [← hW0]
    have HW0 : Hid (W0 = v0.alloc (.cells #[.slice none 0 0, .slice none 0 0] 28)) := hW0
    have hzn : 0 < ll.length := by omega
    have HZ00 : Hid (W0.heap.size = v0.heap.size + 1) := hz00
    clear hW0 hz00
    by_cases hll : ll.length = 1
    · have HL1 : Hid (ll.length = 1) := hll
      rw [hll] at HHead hcl ⊢
      clear hz1 hzi hcs1 hzn
      by_cases hlc : lc = 1
      · subst hlc
        go_region_held3 (fun W => W.cell? ⟨w1.heap.size, 1, none⟩ = some (.slice (some ⟨b, off, none⟩) 1 1) ∧ W.cell? ⟨b, off, none⟩ = some (.slice ua un uc))
          (first | exact ⟨(HHead.out _ (by first | exact hbB | exact hb0.alloc (Nat.le_refl _) _ | exact hb0 | exact Below.refl _ _)).1, (HHead.out _ (by first | exact hbB | exact hb0.alloc (Nat.le_refl _) _ | exact hb0 | exact Below.refl _ _)).2.1⟩ | (obtain ⟨y0, y1, _⟩ := HHead.out _ hbB; exact ⟨by rw [World.cell?_setCell_other _ _ _ _ (by intro e; injection e with e1 _; omega), World.cell?_setCell_other _ _ _ _ (by intro e; injection e with e1 _; omega)]; exact y0, by rw [World.cell?_setCell_other _ _ _ _ (by intro e; injection e with e1 _; omega), World.cell?_setCell_other _ _ _ _ (by intro e; injection e with e1 _; omega)]; exact y1⟩))
          (first | (clear tk2; refine step_append_lies _ rfl (.tmp 31) (.tmp 36) 26 rfl W0.heap.size 36 i0 _ 1 24 Tryd.underlying26 hi hz0 hz1' hz2 (by rfl) (by decide) (.slice none 0 0) 0 [] (by rfl) (World.ownsRow_nil _ _ _ _) ⟨_, 0, none⟩ 1 1 [.slice ua un uc] (by rfl) (by rfl) (cell_one_new _ _ _) (by intro u hu; simp at hu; subst hu; rfl) (by decide) (by unfold maxLen; omega) (by omega) (by first | exact hsA _ | exact Nat.le_refl _) _ rfl ?_; intro gB capB wB howB hgrB hatB hltB; have hbB : Below W0.heap.size W0 wB := Below.grown (by first | exact hb0.alloc (Nat.le_refl _) _) hgrB (by first | exact hsA _ | exact Nat.le_refl _) (fun z hz => by cases hz); have q7 := HHead.out wB hbB; obtain ⟨_, _, k0, k1, f0, f1⟩ := q7))
        all_goals
          have hz00 := HZ00.out
          obtain ⟨w3, hw3⟩ : ∃ w3, w3 = ((wB.setCell ⟨v0.heap.size, 0, none⟩ (.slice none 0 0)).setCell ⟨v0.heap.size, 1, none⟩ (.slice (some ⟨gB, 0, none⟩) 1 capB)) := ⟨_, rfl⟩
          have hb0B := hbv.trans (hbB.mono hbv.size)
          have hb03 : Below v0.heap.size v0 w3 := by rw [hw3]; exact (hb0B.setCell (p := ⟨v0.heap.size, 0, none⟩) (Nat.le_refl _) _).setCell (p := ⟨v0.heap.size, 1, none⟩) (Nat.le_refl _) _
          have HK3 : Hid (KCtx w w1.heap.size (.slice so ss.length sc) (.slice (some ⟨b, off, none⟩) ll.length 1) ss ll w3) := HK.out.later hb03
          have Kx : Hid (KFor w3 (.slice xa x.length xc) 4 x Tx mx) := Hx.out.later hb03
          have hoB : wB.ownsRow W0.heap.size 36 1 (.slice (some ⟨gB, 0, none⟩) ll.length capB) ll.length (us.tail ++ [us.getD 0 nilV]) := by
            rw [HL1.out, hu0, show us.tail = [] from List.length_eq_zero_iff.1 (by rw [List.length_tail, hlu.1, HL1.out])]
            exact howB
          have hsz : v0.heap.size < wB.heap.size := by have := hbB.size; omega
          have HV : Hid (KCtx w v0.heap.size (.slice none 0 0) (.slice (some ⟨gB, 0, none⟩) 1 capB) [] (ll.tail ++ [ll.getD 0 []]) w3) := HK3.out.other (by rw [hw3]; simpa using hsz) (by rw [hw3]; rw [World.cell?_setCell_other _ _ _ _ (by intro e; injection e with _ e2; cases e2)]; exact World.cell?_setCell_same' _ _ _ (by rw [k0]; rfl)) (by rw [hw3]; exact World.cell?_setCell_same' _ _ _ (by rw [World.cell?_setCell_other _ _ _ _ (by intro e; injection e with _ e2; cases e2), k1]; rfl)) ⟨[], none, 0, rfl, fun _ => ⟨rfl, rfl⟩, LetsU.nil _, fun h => absurd rfl h⟩ (by have h := LettersV.turn hlu hl1 hb03 (W := w3) (base := W0.heap.size) (gB := gB) (capB := capB) (by rw [hw3]; exact owns_low (owns_low hoB (p := ⟨v0.heap.size, 0, none⟩) (by show v0.heap.size < _; omega) _) (p := ⟨v0.heap.size, 1, none⟩) (by show v0.heap.size < _; omega) _); rw [HL1.out] at h; exact h) HK3.out.ok.turn
          have HSh : Hid (sig (([] : List (List Bool)) ++ (ll.tail ++ [ll.getD 0 []])) ([] : List (List Bool)).length = fun j => sig (ss ++ ll) ss.length (j + 1)) := shift_turn hss hl1
          rw [← hw3]
          have hs0 : ss.length = 0 := by rw [hss]; rfl
          rw [hs0, HL1.out] at HK3
          clear hw3 HFx Hx HWo HLs HWk HT hA0 hbA hbw1 hb1 hkc hkd hs5 hl5 hklt hcs hcl hz  hbf0 hbF0 hq0 hb03 HK hss hs0
          go_wp2_with fail
          all_goals
            generalize w1.heap.size = wb at *
            generalize v0.heap.size = vb at *
            generalize hxn : x.length = xn at *
            have Lx : Hid (x.length = xn) := hxn
            clear hxn
            generalize hsn : ss.length = sn at *
            generalize hln : ll.length = ln at *
            have LS : Hid (ss.length = sn) := hsn
            have LL : Hid (ll.length = ln) := hln
            clear hsn hln
            have HC0 : Hid (Below w3.heap.size w3 w3) := Below.refl _ _
            obtain ⟨A, hA⟩ : ∃ A, Tm.hb (sig (ss ++ ll) ss.length) (.un 14 0 Tx) 0 = A := ⟨_, rfl⟩
            have HA : Hid (Tm.hb (sig (ss ++ ll) ss.length) (.un 14 0 Tx) 0 = A) := hA
            clear hA
            have hB0 : Below w3.heap.size w3 w3 := Below.refl _ _
            have hS0 : ∀ w', Below w3.heap.size w3 w' → w'.cell? ⟨wb, 0, none⟩ = some (.slice so 0 sc) ∧ w'.cell? ⟨wb, 1, none⟩ = some (.slice (some ⟨b, off, none⟩) 1 1) := fun w' hw' => ⟨(HK3.out.later (HC0.out.trans (hw'.mono HC0.out.size))).c0, (HK3.out.later (HC0.out.trans (hw'.mono HC0.out.size))).c1⟩
            have hJ0x0 : ∀ (g : Nat) (w' : World), w'.cell? ⟨g, 0, none⟩ = some (.slice xa xn xc) → Below w3.heap.size w3 w' → Calls Tryd.prog 12 #[.int .i64 14, .slice (some ⟨g, 0, none⟩) 1 1] w' fun e w'' => ∃ a c, e = .returned (.slice a ((((14 : Int), (0 : Int)) :: x) : List (Int × Int)).length c) ∧ Below w'.heap.size w' w'' ∧ OpsV w'' (.slice a ((((14 : Int), (0 : Int)) :: x) : List (Int × Int)).length c) (((14 : Int), (0 : Int)) :: x) := fun g w'  c0 hw => joined1 14 g (.slice xa xn xc) x w' c0 (by have := Kx.out.len; have := Kx.out.many; omega) Kx.out.ne (Kx.out.v.below (HC0.out.trans (hw.mono HC0.out.size)))
            have hE0 : ∀ (w6 : World) (jv : Value), Below w3.heap.size w3 w6 → OpsV w6 jv (((14 : Int), (0 : Int)) :: x) → Calls Tryd.prog 11 #[jv, .agg #[.slice so 0 sc, .slice (some ⟨b, off, none⟩) 1 1]] w6 fun e w' => e = .returned (.tuple #[.bool (A), .bool true]) ∧ Below w6.heap.size w6 w' := fun w6 jv hw6 ho => (HK3.out.later (HC0.out.trans (hw6.mono HC0.out.size))).holds ho (FOk.tun (k := 14) (by decide) Kx.out.ok) (by have := Kx.out.len; have := Kx.out.many; simp; omega) (by have := Kx.out.len; have := Kx.out.many; omega) HA.out
            generalize ((((14 : Int), (0 : Int)) :: x) : List (Int × Int)).length = mm0x0 at hJ0x0
            try go_wp2_with fail
            go_region_held3 (fun w' => w'.cell? ⟨wb, 0, none⟩ = some (.slice so 0 sc) ∧ w'.cell? ⟨wb, 1, none⟩ = some (.slice (some ⟨b, off, none⟩) 1 1))
              (exact hS0 _ (by first | exact hcF0 | exact hc0n0 | exact hc0n0.alloc hc0n0.size _ | exact hB0 | exact hB0.drew | exact (hB0.alloc (Nat.le_refl _) _).drew | exact ((hB0.alloc (Nat.le_refl _) _).alloc (by simp) _).drew))
              (first | (go_at_call 12; refine (hJ0x0 _ _ ?_ ?_).mono ?_; (focus (simp [go_sem]; done)); (focus (first | exact hB0 | exact hB0.drew | exact (hB0.alloc (Nat.le_refl _) _).drew | exact ((hB0.alloc (Nat.le_refl _) _).alloc (by simp) _).drew)); rintro e w0n0 ⟨ja0n0, jc0n0, rfl, hb0n0, ho0n0⟩; have hc0n0 : Below w3.heap.size w3 w0n0 := Below.trans (by first | exact hB0 | exact hB0.drew | exact (hB0.alloc (Nat.le_refl _) _).drew | exact ((hB0.alloc (Nat.le_refl _) _).alloc (by simp) _).drew) (hb0n0.mono (by first | exact Nat.le_refl _ | (simp; omega) | simp))) | (go_at_call 11; refine (hE0 _ _ hc0n0 ho0n0).mono ?_; rintro e w0c ⟨rfl, hb0c⟩; have hcF0 : Below w3.heap.size w3 w0c := hc0n0.trans (hb0c.mono hc0n0.size)))
            have HC1 : Hid (Below w3.heap.size w3 w0c) := (HC0.out.trans (hcF0.mono HC0.out.size))
            have HD0 := (show Hid _ from hcF0)
            clear hE0 hS0 hB0 hb0c hcF0 hJ0x0 hb0n0 ho0n0 hc0n0
            have hE1 : Calls Tryd.prog 11 #[.slice xa xn xc, .agg #[.slice none 0 0, .slice (some ⟨gB, 0, none⟩) 1 capB]] w0c fun e w' => e = .returned (.tuple #[.bool A, .bool true]) ∧ Below w0c.heap.size w0c w' := (HV.out.later HC1.out).holds (Kx.out.v.below HC1.out) Kx.out.ok (by have := Kx.out.len; omega) (by have := Kx.out.many; omega) (by rw [hb_shift1 HSh.out 0, ← LS.out, HA.out])
            have hc1 := (HV.out.later HC1.out).c0
            have hd1 := (HV.out.later HC1.out).c1
            have HY : Hid (∀ w6 g, Below w3.heap.size w3 w6 → w6.cell? ⟨g, 0, none⟩ = some (.int .i64 11) → w6.cell? ⟨g, 1, none⟩ = some (.int .i64 0) → g < w6.heap.size → Calls Tryd.prog 11 #[.slice (some ⟨g, 0, none⟩) 1 1, .agg #[.slice so 0 sc, .slice (some ⟨b, off, none⟩) 1 1]] w6 fun e w' => e = .returned (.tuple #[.bool true, .bool true]) ∧ Below w6.heap.size w6 w') := fun w6 g hb c0 c1 hl => (HK3.out.later hb).holds (t := [(11, 0)]) ⟨some ⟨g, 0, none⟩, 1, rfl, ⟨by simp, fun h => by cases h⟩, fun _ => ⟨g, 0, rfl, hl, fun i hi => by
              obtain rfl : i = 0 := by simpa using hi
              exact ⟨c0, c1⟩⟩⟩ FOk.one (by simp) (by omega) (Tm.hb_yes _ _ _)
            have tk1 := True.intro
            have tk2 := True.intro
            go_wp2_with (first | (clear tk1; go_at_call_of 11 xn; refine hE1.mono ?_; rintro e w1c ⟨rfl, hb1c⟩; have HC2 : Hid (Below w3.heap.size w3 w1c) := HC1.out.trans (hb1c.mono HC1.out.size); have hk1c := (HK3.out.later HC2.out).c0; have hk1d := (HK3.out.later HC2.out).c1; have hk1l := (HK3.out.later HC2.out).lt; have hb2A := HC2.out.alloc HC2.out.size (.cells #[.int .i64 11, .int .i64 0] 42); have hE2 := HY.out _ w1c.heap.size hb2A (by simp [go_sem]) (by simp [go_sem]) (by simp)) | (clear tk2; go_at_call 11; refine hE2.mono ?_; rintro e w2c ⟨rfl, hb2c⟩))
            have hbf := (HK3.out.later (hb2A.trans (hb2c.mono hb2A.size))).below
            clear HY hE1 hE2 hc1 hd1 HK3 HV Kx HC0 HC1 HC2
            cases A
            all_goals
              go_wp2_with fail
              go_ret
              exact ⟨by first | rfl | simp, hbf⟩
      · have hcs1 : (1 : Int) ≤ (lc : Int) := by omega
        go_region_held3 (fun W => W.cell? ⟨w1.heap.size, 1, none⟩ = some (.slice (some ⟨b, off, none⟩) 1 lc) ∧ W.cell? ⟨b, off, none⟩ = some (.slice ua un uc))
          (first | exact ⟨(HHead.out _ (by first | exact hbB | exact hb0.alloc (Nat.le_refl _) _ | exact hb0 | exact Below.refl _ _)).1, (HHead.out _ (by first | exact hbB | exact hb0.alloc (Nat.le_refl _) _ | exact hb0 | exact Below.refl _ _)).2.1⟩ | (obtain ⟨y0, y1, _⟩ := HHead.out _ hbB; exact ⟨by rw [World.cell?_setCell_other _ _ _ _ (by intro e; injection e with e1 _; omega), World.cell?_setCell_other _ _ _ _ (by intro e; injection e with e1 _; omega)]; exact y0, by rw [World.cell?_setCell_other _ _ _ _ (by intro e; injection e with e1 _; omega), World.cell?_setCell_other _ _ _ _ (by intro e; injection e with e1 _; omega)]; exact y1⟩))
          (first | (clear tk2; refine step_append_lies _ rfl (.tmp 31) (.tmp 36) 26 rfl W0.heap.size 36 i0 _ 1 24 Tryd.underlying26 hi hz0 hz1' hz2 (by rfl) (by decide) (.slice none 0 0) 0 [] (by rfl) (World.ownsRow_nil _ _ _ _) ⟨_, 0, none⟩ 1 1 [.slice ua un uc] (by rfl) (by rfl) (cell_one_new _ _ _) (by intro u hu; simp at hu; subst hu; rfl) (by decide) (by unfold maxLen; omega) (by omega) (by first | exact hsA _ | exact Nat.le_refl _) _ rfl ?_; intro gB capB wB howB hgrB hatB hltB; have hbB : Below W0.heap.size W0 wB := Below.grown (by first | exact hb0.alloc (Nat.le_refl _) _) hgrB (by first | exact hsA _ | exact Nat.le_refl _) (fun z hz => by cases hz); have q7 := HHead.out wB hbB; obtain ⟨_, _, k0, k1, f0, f1⟩ := q7))
        all_goals
          have hz00 := HZ00.out
          obtain ⟨w3, hw3⟩ : ∃ w3, w3 = ((wB.setCell ⟨v0.heap.size, 0, none⟩ (.slice none 0 0)).setCell ⟨v0.heap.size, 1, none⟩ (.slice (some ⟨gB, 0, none⟩) 1 capB)) := ⟨_, rfl⟩
          have hb0B := hbv.trans (hbB.mono hbv.size)
          have hb03 : Below v0.heap.size v0 w3 := by rw [hw3]; exact (hb0B.setCell (p := ⟨v0.heap.size, 0, none⟩) (Nat.le_refl _) _).setCell (p := ⟨v0.heap.size, 1, none⟩) (Nat.le_refl _) _
          have HK3 : Hid (KCtx w w1.heap.size (.slice so ss.length sc) (.slice (some ⟨b, off, none⟩) ll.length lc) ss ll w3) := HK.out.later hb03
          have Kx : Hid (KFor w3 (.slice xa x.length xc) 4 x Tx mx) := Hx.out.later hb03
          have hoB : wB.ownsRow W0.heap.size 36 1 (.slice (some ⟨gB, 0, none⟩) ll.length capB) ll.length (us.tail ++ [us.getD 0 nilV]) := by
            rw [HL1.out, hu0, show us.tail = [] from List.length_eq_zero_iff.1 (by rw [List.length_tail, hlu.1, HL1.out])]
            exact howB
          have hsz : v0.heap.size < wB.heap.size := by have := hbB.size; omega
          have HV : Hid (KCtx w v0.heap.size (.slice none 0 0) (.slice (some ⟨gB, 0, none⟩) 1 capB) [] (ll.tail ++ [ll.getD 0 []]) w3) := HK3.out.other (by rw [hw3]; simpa using hsz) (by rw [hw3]; rw [World.cell?_setCell_other _ _ _ _ (by intro e; injection e with _ e2; cases e2)]; exact World.cell?_setCell_same' _ _ _ (by rw [k0]; rfl)) (by rw [hw3]; exact World.cell?_setCell_same' _ _ _ (by rw [World.cell?_setCell_other _ _ _ _ (by intro e; injection e with _ e2; cases e2), k1]; rfl)) ⟨[], none, 0, rfl, fun _ => ⟨rfl, rfl⟩, LetsU.nil _, fun h => absurd rfl h⟩ (by have h := LettersV.turn hlu hl1 hb03 (W := w3) (base := W0.heap.size) (gB := gB) (capB := capB) (by rw [hw3]; exact owns_low (owns_low hoB (p := ⟨v0.heap.size, 0, none⟩) (by show v0.heap.size < _; omega) _) (p := ⟨v0.heap.size, 1, none⟩) (by show v0.heap.size < _; omega) _); rw [HL1.out] at h; exact h) HK3.out.ok.turn
          have HSh : Hid (sig (([] : List (List Bool)) ++ (ll.tail ++ [ll.getD 0 []])) ([] : List (List Bool)).length = fun j => sig (ss ++ ll) ss.length (j + 1)) := shift_turn hss hl1
          rw [← hw3]
          have hs0 : ss.length = 0 := by rw [hss]; rfl
          rw [hs0, HL1.out] at HK3
          clear hw3 HFx Hx HWo HLs HWk HT hA0 hbA hbw1 hb1 hkc hkd hs5 hl5 hklt hcs hcl hz hcs1 hlc hbf0 hbF0 hq0 hb03 HK hss hs0
          go_wp2_with fail
          all_goals
            generalize w1.heap.size = wb at *
            generalize v0.heap.size = vb at *
            generalize hxn : x.length = xn at *
            have Lx : Hid (x.length = xn) := hxn
            clear hxn
            generalize hsn : ss.length = sn at *
            generalize hln : ll.length = ln at *
            have LS : Hid (ss.length = sn) := hsn
            have LL : Hid (ll.length = ln) := hln
            clear hsn hln
            have HC0 : Hid (Below w3.heap.size w3 w3) := Below.refl _ _
            obtain ⟨A, hA⟩ : ∃ A, Tm.hb (sig (ss ++ ll) ss.length) (.un 14 0 Tx) 0 = A := ⟨_, rfl⟩
            have HA : Hid (Tm.hb (sig (ss ++ ll) ss.length) (.un 14 0 Tx) 0 = A) := hA
            clear hA
            have hB0 : Below w3.heap.size w3 w3 := Below.refl _ _
            have hS0 : ∀ w', Below w3.heap.size w3 w' → w'.cell? ⟨wb, 0, none⟩ = some (.slice so 0 sc) ∧ w'.cell? ⟨wb, 1, none⟩ = some (.slice (some ⟨b, off, none⟩) 1 lc) := fun w' hw' => ⟨(HK3.out.later (HC0.out.trans (hw'.mono HC0.out.size))).c0, (HK3.out.later (HC0.out.trans (hw'.mono HC0.out.size))).c1⟩
            have hJ0x0 : ∀ (g : Nat) (w' : World), w'.cell? ⟨g, 0, none⟩ = some (.slice xa xn xc) → Below w3.heap.size w3 w' → Calls Tryd.prog 12 #[.int .i64 14, .slice (some ⟨g, 0, none⟩) 1 1] w' fun e w'' => ∃ a c, e = .returned (.slice a ((((14 : Int), (0 : Int)) :: x) : List (Int × Int)).length c) ∧ Below w'.heap.size w' w'' ∧ OpsV w'' (.slice a ((((14 : Int), (0 : Int)) :: x) : List (Int × Int)).length c) (((14 : Int), (0 : Int)) :: x) := fun g w'  c0 hw => joined1 14 g (.slice xa xn xc) x w' c0 (by have := Kx.out.len; have := Kx.out.many; omega) Kx.out.ne (Kx.out.v.below (HC0.out.trans (hw.mono HC0.out.size)))
            have hE0 : ∀ (w6 : World) (jv : Value), Below w3.heap.size w3 w6 → OpsV w6 jv (((14 : Int), (0 : Int)) :: x) → Calls Tryd.prog 11 #[jv, .agg #[.slice so 0 sc, .slice (some ⟨b, off, none⟩) 1 lc]] w6 fun e w' => e = .returned (.tuple #[.bool (A), .bool true]) ∧ Below w6.heap.size w6 w' := fun w6 jv hw6 ho => (HK3.out.later (HC0.out.trans (hw6.mono HC0.out.size))).holds ho (FOk.tun (k := 14) (by decide) Kx.out.ok) (by have := Kx.out.len; have := Kx.out.many; simp; omega) (by have := Kx.out.len; have := Kx.out.many; omega) HA.out
            generalize ((((14 : Int), (0 : Int)) :: x) : List (Int × Int)).length = mm0x0 at hJ0x0
            try go_wp2_with fail
            go_region_held3 (fun w' => w'.cell? ⟨wb, 0, none⟩ = some (.slice so 0 sc) ∧ w'.cell? ⟨wb, 1, none⟩ = some (.slice (some ⟨b, off, none⟩) 1 lc))
              (exact hS0 _ (by first | exact hcF0 | exact hc0n0 | exact hc0n0.alloc hc0n0.size _ | exact hB0 | exact hB0.drew | exact (hB0.alloc (Nat.le_refl _) _).drew | exact ((hB0.alloc (Nat.le_refl _) _).alloc (by simp) _).drew))
              (first | (go_at_call 12; refine (hJ0x0 _ _ ?_ ?_).mono ?_; (focus (simp [go_sem]; done)); (focus (first | exact hB0 | exact hB0.drew | exact (hB0.alloc (Nat.le_refl _) _).drew | exact ((hB0.alloc (Nat.le_refl _) _).alloc (by simp) _).drew)); rintro e w0n0 ⟨ja0n0, jc0n0, rfl, hb0n0, ho0n0⟩; have hc0n0 : Below w3.heap.size w3 w0n0 := Below.trans (by first | exact hB0 | exact hB0.drew | exact (hB0.alloc (Nat.le_refl _) _).drew | exact ((hB0.alloc (Nat.le_refl _) _).alloc (by simp) _).drew) (hb0n0.mono (by first | exact Nat.le_refl _ | (simp; omega) | simp))) | (go_at_call 11; refine (hE0 _ _ hc0n0 ho0n0).mono ?_; rintro e w0c ⟨rfl, hb0c⟩; have hcF0 : Below w3.heap.size w3 w0c := hc0n0.trans (hb0c.mono hc0n0.size)))
            have HC1 : Hid (Below w3.heap.size w3 w0c) := (HC0.out.trans (hcF0.mono HC0.out.size))
            have HD0 := (show Hid _ from hcF0)
            clear hE0 hS0 hB0 hb0c hcF0 hJ0x0 hb0n0 ho0n0 hc0n0
            have hE1 : Calls Tryd.prog 11 #[.slice xa xn xc, .agg #[.slice none 0 0, .slice (some ⟨gB, 0, none⟩) 1 capB]] w0c fun e w' => e = .returned (.tuple #[.bool A, .bool true]) ∧ Below w0c.heap.size w0c w' := (HV.out.later HC1.out).holds (Kx.out.v.below HC1.out) Kx.out.ok (by have := Kx.out.len; omega) (by have := Kx.out.many; omega) (by rw [hb_shift1 HSh.out 0, ← LS.out, HA.out])
            have hc1 := (HV.out.later HC1.out).c0
            have hd1 := (HV.out.later HC1.out).c1
            have HY : Hid (∀ w6 g, Below w3.heap.size w3 w6 → w6.cell? ⟨g, 0, none⟩ = some (.int .i64 11) → w6.cell? ⟨g, 1, none⟩ = some (.int .i64 0) → g < w6.heap.size → Calls Tryd.prog 11 #[.slice (some ⟨g, 0, none⟩) 1 1, .agg #[.slice so 0 sc, .slice (some ⟨b, off, none⟩) 1 lc]] w6 fun e w' => e = .returned (.tuple #[.bool true, .bool true]) ∧ Below w6.heap.size w6 w') := fun w6 g hb c0 c1 hl => (HK3.out.later hb).holds (t := [(11, 0)]) ⟨some ⟨g, 0, none⟩, 1, rfl, ⟨by simp, fun h => by cases h⟩, fun _ => ⟨g, 0, rfl, hl, fun i hi => by
              obtain rfl : i = 0 := by simpa using hi
              exact ⟨c0, c1⟩⟩⟩ FOk.one (by simp) (by omega) (Tm.hb_yes _ _ _)
            have tk1 := True.intro
            have tk2 := True.intro
            go_wp2_with (first | (clear tk1; go_at_call_of 11 xn; refine hE1.mono ?_; rintro e w1c ⟨rfl, hb1c⟩; have HC2 : Hid (Below w3.heap.size w3 w1c) := HC1.out.trans (hb1c.mono HC1.out.size); have hk1c := (HK3.out.later HC2.out).c0; have hk1d := (HK3.out.later HC2.out).c1; have hk1l := (HK3.out.later HC2.out).lt; have hb2A := HC2.out.alloc HC2.out.size (.cells #[.int .i64 11, .int .i64 0] 42); have hE2 := HY.out _ w1c.heap.size hb2A (by simp [go_sem]) (by simp [go_sem]) (by simp)) | (clear tk2; go_at_call 11; refine hE2.mono ?_; rintro e w2c ⟨rfl, hb2c⟩))
            have hbf := (HK3.out.later (hb2A.trans (hb2c.mono hb2A.size))).below
            clear HY hE1 hE2 hc1 hd1 HK3 HV Kx HC0 HC1 HC2
            cases A
            all_goals
              go_wp2_with fail
              go_ret
              exact ⟨by first | rfl | simp, hbf⟩
    · have hlc : ¬ lc = 1 := by omega
      have hm0 : 0 < ll.length - 1 := by omega
      go_region_held3 (fun W => W.cell? ⟨w1.heap.size, 1, none⟩ = some (.slice (some ⟨b, off, none⟩) ll.length lc) ∧ W.cell? ⟨b, off, none⟩ = some (.slice ua un uc))
        (first | exact ⟨(HHead.out _ (by first | exact hbB | exact hbA.alloc (by have := hbA.size; omega) _ | exact hbA | exact hb0.alloc (Nat.le_refl _) _ | exact hb0 | exact Below.refl _ _)).1, (HHead.out _ (by first | exact hbB | exact hbA.alloc (by have := hbA.size; omega) _ | exact hbA | exact hb0.alloc (Nat.le_refl _) _ | exact hb0 | exact Below.refl _ _)).2.1⟩ | (obtain ⟨y0, y1, _⟩ := HHead.out _ hbB; exact ⟨by rw [World.cell?_setCell_other _ _ _ _ (by intro e; injection e with e1 _; omega), World.cell?_setCell_other _ _ _ _ (by intro e; injection e with e1 _; omega)]; exact y0, by rw [World.cell?_setCell_other _ _ _ _ (by intro e; injection e with e1 _; omega), World.cell?_setCell_other _ _ _ _ (by intro e; injection e with e1 _; omega)]; exact y1⟩))
        (first
          | (clear tk1; refine step_append_lies _ (by rfl) (.const (.slice none 0 0)) (.tmp 30) 26 (by rfl) W0.heap.size 36 i0 _ 1 24 Tryd.underlying26 hi hz0 hz1' hz2 (by rfl) (by decide) (.slice none 0 0) 0 [] (by rfl) (World.ownsRow_nil _ _ _ _) ⟨b, off + 1, none⟩ (ll.length - 1) (lc - 1) us.tail (by rfl) HLen.out (HNews.out _ (by first | exact hb0 | exact hb0.alloc (Nat.le_refl _) _)) HOne.out hm0 (by unfold maxLen; omega) (by omega) (by first | exact Nat.le_refl _ | exact hsA _) _ rfl ?_; intro gA capA wA howA hgrA hatA hltA; have hbA : Below W0.heap.size W0 wA := Below.grown (by first | exact hb0 | exact hb0.alloc (Nat.le_refl _) _) hgrA (by first | exact Nat.le_refl _ | exact hsA _) (fun z hz => by cases hz); rw [Nat.zero_add, List.nil_append] at howA; have hwA := hbA.size)
          | (clear tk2; refine step_append_lies _ (by rfl) (.tmp 31) (.tmp 36) 26 (by rfl) W0.heap.size 36 i0 _ 1 24 Tryd.underlying26 hi hz0 hz1' hz2 (by rfl) (by decide) (.slice (some ⟨gA, 0, none⟩) (ll.length - 1) capA) (ll.length - 1) us.tail (by first | rfl | (show Value.slice (some ⟨gA, 0, none⟩) (0 + (ll.length - 1)) capA = _; rw [Nat.zero_add])) (by first | exact howA | exact howA.alloc _) ⟨_, 0, none⟩ 1 1 [.slice ua un uc] (by rfl) (by rfl) (by first | exact cell_one_new _ _ _ | (intro j u hj; refine Eq.trans (hgrA.cell_far _ ?_ ?_) (show (World.alloc _ _).cell? _ = _ from cell_one_new W0 _ _ j u hj); (focus (rw [add_plain]; have h9 := World.size_alloc W0 (.cells #[.slice ua un uc] 36); show W0.heap.size < (W0.alloc (.cells #[.slice ua un uc] 36)).heap.size; omega)); (focus (intro h; cases h)))) (by intro u hu; simp at hu; subst hu; rfl) (by decide) (by unfold maxLen; omega) (by omega) (by first | exact hwA | (simp; omega)) _ rfl ?_; intro gB capB wB howB hgrB hatB hltB; have hbB : Below W0.heap.size W0 wB := Below.grown (by first | exact hbA | exact hbA.alloc (by omega) _) hgrB (by first | exact hwA | (simp; omega)) (fun z hz => (howA.lt z hz).1); have q7 := HHead.out wB hbB; obtain ⟨_, _, k0, k1, f0, f1⟩ := q7))
      all_goals
        have hz00 := HZ00.out
        obtain ⟨w3, hw3⟩ : ∃ w3, w3 = ((wB.setCell ⟨v0.heap.size, 0, none⟩ (.slice none 0 0)).setCell ⟨v0.heap.size, 1, none⟩ (.slice (some ⟨gB, 0, none⟩) ll.length capB)) := ⟨_, rfl⟩
        have hb0B := hbv.trans (hbB.mono hbv.size)
        have hb03 : Below v0.heap.size v0 w3 := by rw [hw3]; exact (hb0B.setCell (p := ⟨v0.heap.size, 0, none⟩) (Nat.le_refl _) _).setCell (p := ⟨v0.heap.size, 1, none⟩) (Nat.le_refl _) _
        have HK3 : Hid (KCtx w w1.heap.size (.slice so ss.length sc) (.slice (some ⟨b, off, none⟩) ll.length lc) ss ll w3) := HK.out.later hb03
        have Kx : Hid (KFor w3 (.slice xa x.length xc) 4 x Tx mx) := Hx.out.later hb03
        have hoB : wB.ownsRow W0.heap.size 36 1 (.slice (some ⟨gB, 0, none⟩) ll.length capB) ll.length (us.tail ++ [us.getD 0 nilV]) := by
          rw [hu0]
          have h := howB
          rw [show ll.length - 1 + 1 = ll.length by omega] at h
          exact h
        have hsz : v0.heap.size < wB.heap.size := by have := hbB.size; omega
        have HV : Hid (KCtx w v0.heap.size (.slice none 0 0) (.slice (some ⟨gB, 0, none⟩) ll.length capB) [] (ll.tail ++ [ll.getD 0 []]) w3) := HK3.out.other (by rw [hw3]; simpa using hsz) (by rw [hw3]; rw [World.cell?_setCell_other _ _ _ _ (by intro e; injection e with _ e2; cases e2)]; exact World.cell?_setCell_same' _ _ _ (by rw [k0]; rfl)) (by rw [hw3]; exact World.cell?_setCell_same' _ _ _ (by rw [World.cell?_setCell_other _ _ _ _ (by intro e; injection e with _ e2; cases e2), k1]; rfl)) ⟨[], none, 0, rfl, fun _ => ⟨rfl, rfl⟩, LetsU.nil _, fun h => absurd rfl h⟩ (LettersV.turn hlu hl1 hb03 (by rw [hw3]; exact owns_low (owns_low hoB (p := ⟨v0.heap.size, 0, none⟩) (by show v0.heap.size < _; omega) _) (p := ⟨v0.heap.size, 1, none⟩) (by show v0.heap.size < _; omega) _)) HK3.out.ok.turn
        have HSh : Hid (sig (([] : List (List Bool)) ++ (ll.tail ++ [ll.getD 0 []])) ([] : List (List Bool)).length = fun j => sig (ss ++ ll) ss.length (j + 1)) := shift_turn hss hl1
        rw [← hw3]
        have hs0 : ss.length = 0 := by rw [hss]; rfl
        rw [hs0] at HK3
        clear hw3 HFx Hx HWo HLs HWk HT hA0 hbA hbw1 hb1 hkc hkd hs5 hl5 hklt hcs hcl hz hz1 hcs1 hbf0 hbF0 hq0 hb03 HK hss hs0
        go_wp2_with fail
        all_goals
          generalize w1.heap.size = wb at *
          generalize v0.heap.size = vb at *
          generalize hxn : x.length = xn at *
          have Lx : Hid (x.length = xn) := hxn
          clear hxn
          generalize hsn : ss.length = sn at *
          generalize hln : ll.length = ln at *
          have LS : Hid (ss.length = sn) := hsn
          have LL : Hid (ll.length = ln) := hln
          clear hsn hln
          have HC0 : Hid (Below w3.heap.size w3 w3) := Below.refl _ _
          obtain ⟨A, hA⟩ : ∃ A, Tm.hb (sig (ss ++ ll) ss.length) (.un 14 0 Tx) 0 = A := ⟨_, rfl⟩
          have HA : Hid (Tm.hb (sig (ss ++ ll) ss.length) (.un 14 0 Tx) 0 = A) := hA
          clear hA
          have hB0 : Below w3.heap.size w3 w3 := Below.refl _ _
          have hS0 : ∀ w', Below w3.heap.size w3 w' → w'.cell? ⟨wb, 0, none⟩ = some (.slice so 0 sc) ∧ w'.cell? ⟨wb, 1, none⟩ = some (.slice (some ⟨b, off, none⟩) ln lc) := fun w' hw' => ⟨(HK3.out.later (HC0.out.trans (hw'.mono HC0.out.size))).c0, (HK3.out.later (HC0.out.trans (hw'.mono HC0.out.size))).c1⟩
          have hJ0x0 : ∀ (g : Nat) (w' : World), w'.cell? ⟨g, 0, none⟩ = some (.slice xa xn xc) → Below w3.heap.size w3 w' → Calls Tryd.prog 12 #[.int .i64 14, .slice (some ⟨g, 0, none⟩) 1 1] w' fun e w'' => ∃ a c, e = .returned (.slice a ((((14 : Int), (0 : Int)) :: x) : List (Int × Int)).length c) ∧ Below w'.heap.size w' w'' ∧ OpsV w'' (.slice a ((((14 : Int), (0 : Int)) :: x) : List (Int × Int)).length c) (((14 : Int), (0 : Int)) :: x) := fun g w'  c0 hw => joined1 14 g (.slice xa xn xc) x w' c0 (by have := Kx.out.len; have := Kx.out.many; omega) Kx.out.ne (Kx.out.v.below (HC0.out.trans (hw.mono HC0.out.size)))
          have hE0 : ∀ (w6 : World) (jv : Value), Below w3.heap.size w3 w6 → OpsV w6 jv (((14 : Int), (0 : Int)) :: x) → Calls Tryd.prog 11 #[jv, .agg #[.slice so 0 sc, .slice (some ⟨b, off, none⟩) ln lc]] w6 fun e w' => e = .returned (.tuple #[.bool (A), .bool true]) ∧ Below w6.heap.size w6 w' := fun w6 jv hw6 ho => (HK3.out.later (HC0.out.trans (hw6.mono HC0.out.size))).holds ho (FOk.tun (k := 14) (by decide) Kx.out.ok) (by have := Kx.out.len; have := Kx.out.many; simp; omega) (by have := Kx.out.len; have := Kx.out.many; omega) HA.out
          generalize ((((14 : Int), (0 : Int)) :: x) : List (Int × Int)).length = mm0x0 at hJ0x0
          try go_wp2_with fail
          go_region_held3 (fun w' => w'.cell? ⟨wb, 0, none⟩ = some (.slice so 0 sc) ∧ w'.cell? ⟨wb, 1, none⟩ = some (.slice (some ⟨b, off, none⟩) ln lc))
            (exact hS0 _ (by first | exact hcF0 | exact hc0n0 | exact hc0n0.alloc hc0n0.size _ | exact hB0 | exact hB0.drew | exact (hB0.alloc (Nat.le_refl _) _).drew | exact ((hB0.alloc (Nat.le_refl _) _).alloc (by simp) _).drew))
            (first | (go_at_call 12; refine (hJ0x0 _ _ ?_ ?_).mono ?_; (focus (simp [go_sem]; done)); (focus (first | exact hB0 | exact hB0.drew | exact (hB0.alloc (Nat.le_refl _) _).drew | exact ((hB0.alloc (Nat.le_refl _) _).alloc (by simp) _).drew)); rintro e w0n0 ⟨ja0n0, jc0n0, rfl, hb0n0, ho0n0⟩; have hc0n0 : Below w3.heap.size w3 w0n0 := Below.trans (by first | exact hB0 | exact hB0.drew | exact (hB0.alloc (Nat.le_refl _) _).drew | exact ((hB0.alloc (Nat.le_refl _) _).alloc (by simp) _).drew) (hb0n0.mono (by first | exact Nat.le_refl _ | (simp; omega) | simp))) | (go_at_call 11; refine (hE0 _ _ hc0n0 ho0n0).mono ?_; rintro e w0c ⟨rfl, hb0c⟩; have hcF0 : Below w3.heap.size w3 w0c := hc0n0.trans (hb0c.mono hc0n0.size)))
          have HC1 : Hid (Below w3.heap.size w3 w0c) := (HC0.out.trans (hcF0.mono HC0.out.size))
          have HD0 := (show Hid _ from hcF0)
          clear hE0 hS0 hB0 hb0c hcF0 hJ0x0 hb0n0 ho0n0 hc0n0
          have hE1 : Calls Tryd.prog 11 #[.slice xa xn xc, .agg #[.slice none 0 0, .slice (some ⟨gB, 0, none⟩) ln capB]] w0c fun e w' => e = .returned (.tuple #[.bool A, .bool true]) ∧ Below w0c.heap.size w0c w' := (HV.out.later HC1.out).holds (Kx.out.v.below HC1.out) Kx.out.ok (by have := Kx.out.len; omega) (by have := Kx.out.many; omega) (by rw [hb_shift1 HSh.out 0, ← LS.out, HA.out])
          have hc1 := (HV.out.later HC1.out).c0
          have hd1 := (HV.out.later HC1.out).c1
          have HY : Hid (∀ w6 g, Below w3.heap.size w3 w6 → w6.cell? ⟨g, 0, none⟩ = some (.int .i64 11) → w6.cell? ⟨g, 1, none⟩ = some (.int .i64 0) → g < w6.heap.size → Calls Tryd.prog 11 #[.slice (some ⟨g, 0, none⟩) 1 1, .agg #[.slice so 0 sc, .slice (some ⟨b, off, none⟩) ln lc]] w6 fun e w' => e = .returned (.tuple #[.bool true, .bool true]) ∧ Below w6.heap.size w6 w') := fun w6 g hb c0 c1 hl => (HK3.out.later hb).holds (t := [(11, 0)]) ⟨some ⟨g, 0, none⟩, 1, rfl, ⟨by simp, fun h => by cases h⟩, fun _ => ⟨g, 0, rfl, hl, fun i hi => by
            obtain rfl : i = 0 := by simpa using hi
            exact ⟨c0, c1⟩⟩⟩ FOk.one (by simp) (by omega) (Tm.hb_yes _ _ _)
          have tk1 := True.intro
          have tk2 := True.intro
          go_wp2_with (first | (clear tk1; go_at_call_of 11 xn; refine hE1.mono ?_; rintro e w1c ⟨rfl, hb1c⟩; have HC2 : Hid (Below w3.heap.size w3 w1c) := HC1.out.trans (hb1c.mono HC1.out.size); have hk1c := (HK3.out.later HC2.out).c0; have hk1d := (HK3.out.later HC2.out).c1; have hk1l := (HK3.out.later HC2.out).lt; have hb2A := HC2.out.alloc HC2.out.size (.cells #[.int .i64 11, .int .i64 0] 42); have hE2 := HY.out _ w1c.heap.size hb2A (by simp [go_sem]) (by simp [go_sem]) (by simp)) | (clear tk2; go_at_call 11; refine hE2.mono ?_; rintro e w2c ⟨rfl, hb2c⟩))
          have hbf := (HK3.out.later (hb2A.trans (hb2c.mono hb2A.size))).below
          clear HY hE1 hE2 hc1 hd1 HK3 HV Kx HC0 HC1 HC2
          cases A
          all_goals
            go_wp2_with fail
            go_ret
            exact ⟨by first | rfl | simp, hbf⟩
end Go.Proofs.YtbpepkockdigmaaDoor
