/-
  The walk of the law WordLoop.
-/
import Derived.Test.YtbpepkockdigmaaDoorKeepHolds2
import Derived.Test.YtbpepkockdigmaaDoorWordsLoop
import Derived.Deep.RegionHeld3
namespace Go.Proofs.YtbpepkockdigmaaDoor
open Go.ChangeShapes Go.WideShapes Go.ChangeAt Go.RowKit Go.Deep
open Terms

set_option maxHeartbeats 3200000 in
set_option maxRecDepth 20000 in
theorem wordLoop_walk (xv s0 s1 : Value) (xs : List (Int × Int)) (a b : List Int) (w : World) (hB : 0 < w.heap.size) (hT : TabAt w) (hRx : Raws w w.heap.size xv xs) (hA : IntsR w s0 a) (hBb : IntsR w s1 b) :
    Calls Tryd.prog 6 #[xv, .agg #[s0, s1]] w fun e w' => e = .returned (.bool true) ∧ Below w.heap.size w w' := by
  have HWo : Hid (∀ w1, Below w.heap.size w w1 → Calls Tryd.prog 9 #[.agg #[s0, s1]] w1 fun e w' => ∃ so sc lo lc ss ll, e = .returned (.agg #[.slice so ss.length sc, .slice lo ll.length lc]) ∧ Below w1.heap.size w1 w' ∧ Hid (WOk ss ll) ∧ Hid (LettersV w' (.slice so ss.length sc) ss ∧ LettersV w' (.slice lo ll.length lc) ll)) := fun w1 h => wordFn_any s0 s1 a b w1 (hA.below h) (hBb.below h)
  have HFx : Hid (∀ w1, Below w.heap.size w w1 → Calls Tryd.prog 10 #[xv, .int .i64 3, .int .i64 2] w1 fun e w' => ∃ a c t T m, e = .returned (.slice a t.length c) ∧ Below w1.heap.size w1 w' ∧ Hid (KFor w' (.slice a t.length c) 2 t T m)) := fun w1 h => (formulaFn_any xv xs 3 2 w1 (by omega) (by omega) (by omega) (hRx.up h)).mono fun e w' ⟨a, c, t, m, h1, h2, h3, h4, h5, h6⟩ => by
    obtain ⟨T, hT⟩ := h2.ok
    exact ⟨a, c, t, T, m, h1, h6, h5, hT, h4, h2.ne, h3⟩
  obtain ⟨xq0, xq1, xq2, rfl⟩ : ∃ a n c, xv = .slice a n c := by obtain ⟨⟨a, c, h, _⟩, _, _⟩ := hRx; exact ⟨_, _, _, h⟩
  obtain ⟨e0, e1, e2, rfl⟩ : ∃ a n c, s0 = .slice a n c := by obtain ⟨a, c, h, _⟩ := hA.v; exact ⟨_, _, _, h⟩
  obtain ⟨g0, g1, g2, rfl⟩ : ∃ a n c, s1 = .slice a n c := by obtain ⟨a, c, h, _⟩ := hBb.v; exact ⟨_, _, _, h⟩
  have hA0 : ∀ o, Below w.heap.size w (w.alloc o) := fun o => (Below.refl _ _).alloc (Nat.le_refl _) o
  have HT : Hid (0 < w.heap.size ∧ TabAt w) := ⟨hB, hT⟩
  clear hRx hA hBb hT hB
  go_enter Tryd.func6, Tryd.ntmps6
  go_wp2_with (first | (go_at_call 9; refine (HWo.out _ (by first | exact Below.refl _ _ | exact hA0 _)).mono ?_; rintro e w1 ⟨so, sc, lo, lc, ss, ll, rfl, hb1, HWk, HLs⟩; have hbw1 : Below w.heap.size w w1 := (by first | exact hb1 | exact (hA0 _).trans (hb1.mono (hA0 _).size)); have hbA := hbw1.alloc hbw1.size (.cells #[.slice so ss.length sc, .slice lo ll.length lc] 28); have hq0 := HFx.out _ hbA) | (go_at_call_of 10 xq1; refine hq0.mono ?_; rintro e v0 ⟨xa, xc, x, Tx, mx, rfl, hbf0, Hx⟩; have hbF0 := hbA.trans (hbf0.mono hbA.size); have HK := (show Hid _ from KCtx.start HT.out hbw1 HLs.out HWk.out (hbf0)); have hkc := HK.out.c0; have hkd := HK.out.c1; have hs5 : ss.length ≤ 5 := HWk.out.stem; have hl5 : ll.length ≤ 5 := HWk.out.loop))
  have Kx : Hid (KFor v0 (.slice xa x.length xc) 2 x Tx mx) := Hx
  have HC0 : Hid (Below v0.heap.size v0 v0) := Below.refl _ _
  clear HFx Hx HWo HLs HWk HT hA0 hbA hbw1 hb1 hkc hkd hs5 hl5 hbf0 hbF0 hq0
  generalize w1.heap.size = wb at *
  generalize v0 = w3 at *
  generalize hxn : x.length = xn at *
  have Lx : Hid (x.length = xn) := hxn
  clear hxn
  generalize hsn : ss.length = sn at *
  generalize hln : ll.length = ln at *
  have LS : Hid (ss.length = sn) := hsn
  have LL : Hid (ll.length = ln) := hln
  clear hsn hln
  obtain ⟨nm, hnm⟩ : ∃ nm, nm = sn + ln := ⟨_, rfl⟩
  have HNM : Hid (nm = ss.length + ll.length) := by show _ = _; rw [hnm, LS.out, LL.out]
  have HNS : Hid (nm = sn + ln) := hnm
  clear hnm
  have hE0 : Calls Tryd.prog 13 #[(.slice xa xn xc), .agg #[.slice so sn sc, .slice lo ln lc], .int .i64 3] w3 fun e w' => ∃ rb, e = .returned (.tuple #[.slice (some ⟨rb, 0, none⟩) nm nm, .int .i64 0]) ∧ Below w3.heap.size w3 w' ∧ Hid (RowT w' rb nm (Tm.hb (sig (ss ++ ll) ss.length) Tx)) := (HK.out.later HC0.out).moments (Kx.out.v.below HC0.out) Kx.out.ok (by have := Kx.out.len; have := Kx.out.many; omega) (by have := Kx.out.len; have := Kx.out.many; omega) HNM.out
  have hc0 := (HK.out.later HC0.out).c0
  have hd0 := (HK.out.later HC0.out).c1
  go_wp2_with (go_at_call 13; refine hE0.mono ?_; rintro e w0c ⟨r0, rfl, hb0c, HR0⟩)
  have HC1 : Hid (Below w3.heap.size w3 w0c) := (HC0.out.trans (hb0c.mono HC0.out.size))
  clear hE0 hc0 hd0 hb0c
  have hB1 : Below w0c.heap.size w0c w0c := Below.refl _ _
  have hS1 : ∀ w', Below w0c.heap.size w0c w' → w'.cell? ⟨wb, 0, none⟩ = some (.slice so sn sc) ∧ w'.cell? ⟨wb, 1, none⟩ = some (.slice lo ln lc) := fun w' hw' => ⟨(HK.out.later (HC1.out.trans (hw'.mono HC1.out.size))).c0, (HK.out.later (HC1.out.trans (hw'.mono HC1.out.size))).c1⟩
  have hJ1x0 : ∀ (g : Nat) (w' : World), w'.cell? ⟨g, 0, none⟩ = some (.slice xa xn xc) → Below w0c.heap.size w0c w' → Calls Tryd.prog 12 #[.int .i64 17, .slice (some ⟨g, 0, none⟩) 1 1] w' fun e w'' => ∃ a c, e = .returned (.slice a ((((17 : Int), (0 : Int)) :: x) : List (Int × Int)).length c) ∧ Below w'.heap.size w' w'' ∧ OpsV w'' (.slice a ((((17 : Int), (0 : Int)) :: x) : List (Int × Int)).length c) (((17 : Int), (0 : Int)) :: x) := fun g w'  c0 hw => joined1 17 g (.slice xa xn xc) x w' c0 (by have := Kx.out.len; have := Kx.out.many; omega) Kx.out.ne (Kx.out.v.below (HC1.out.trans (hw.mono HC1.out.size)))
  have hE1 : ∀ (w6 : World) (jv : Value), Below w0c.heap.size w0c w6 → OpsV w6 jv (((17 : Int), (0 : Int)) :: x) → Calls Tryd.prog 13 #[jv, .agg #[.slice so sn sc, .slice lo ln lc], .int .i64 3] w6 fun e w' => ∃ rb, e = .returned (.tuple #[.slice (some ⟨rb, 0, none⟩) nm nm, .int .i64 0]) ∧ Below w6.heap.size w6 w' ∧ Hid (RowT w' rb nm (Tm.hb (sig (ss ++ ll) ss.length) (.un 17 0 Tx))) := fun w6 jv hw6 ho => (HK.out.later (HC1.out.trans (hw6.mono HC1.out.size))).moments ho (FOk.tun (k := 17) (by decide) Kx.out.ok) (by have := Kx.out.len; have := Kx.out.many; simp; omega) (by have := Kx.out.len; have := Kx.out.many; omega) HNM.out
  generalize ((((17 : Int), (0 : Int)) :: x) : List (Int × Int)).length = mm1x0 at hJ1x0
  try go_wp2_with fail
  go_region_held3 (fun w' => w'.cell? ⟨wb, 0, none⟩ = some (.slice so sn sc) ∧ w'.cell? ⟨wb, 1, none⟩ = some (.slice lo ln lc))
    (exact hS1 _ (by first | exact hcF1 | exact hc1n0 | exact hc1n0.alloc hc1n0.size _ | exact hB1 | exact hB1.drew | exact (hB1.alloc (Nat.le_refl _) _).drew | exact ((hB1.alloc (Nat.le_refl _) _).alloc (by simp) _).drew))
    (first | (go_at_call 12; refine (hJ1x0 _ _ ?_ ?_).mono ?_; (focus (simp [go_sem]; done)); (focus (first | exact hB1 | exact hB1.drew | exact (hB1.alloc (Nat.le_refl _) _).drew | exact ((hB1.alloc (Nat.le_refl _) _).alloc (by simp) _).drew)); rintro e w1n0 ⟨ja1n0, jc1n0, rfl, hb1n0, ho1n0⟩; have hc1n0 : Below w0c.heap.size w0c w1n0 := Below.trans (by first | exact hB1 | exact hB1.drew | exact (hB1.alloc (Nat.le_refl _) _).drew | exact ((hB1.alloc (Nat.le_refl _) _).alloc (by simp) _).drew) (hb1n0.mono (by first | exact Nat.le_refl _ | (simp; omega) | simp))) | (go_at_call 13; refine (hE1 _ _ hc1n0 ho1n0).mono ?_; rintro e w1c ⟨r1, rfl, hb1c, HR1⟩; have hcF1 : Below w0c.heap.size w0c w1c := hc1n0.trans (hb1c.mono hc1n0.size)))
  have HC2 : Hid (Below w3.heap.size w3 w1c) := (HC1.out.trans (hcF1.mono HC1.out.size))
  have HD1 := (show Hid _ from hcF1)
  clear hE1 hS1 hB1 hb1c hcF1 hJ1x0 hb1n0 ho1n0 hc1n0
  have hB2 : Below w1c.heap.size w1c w1c := Below.refl _ _
  have hS2 : ∀ w', Below w1c.heap.size w1c w' → w'.cell? ⟨wb, 0, none⟩ = some (.slice so sn sc) ∧ w'.cell? ⟨wb, 1, none⟩ = some (.slice lo ln lc) := fun w' hw' => ⟨(HK.out.later (HC2.out.trans (hw'.mono HC2.out.size))).c0, (HK.out.later (HC2.out.trans (hw'.mono HC2.out.size))).c1⟩
  have hJ2x0 : ∀ (g : Nat) (w' : World), w'.cell? ⟨g, 0, none⟩ = some (.slice xa xn xc) → Below w1c.heap.size w1c w' → Calls Tryd.prog 12 #[.int .i64 18, .slice (some ⟨g, 0, none⟩) 1 1] w' fun e w'' => ∃ a c, e = .returned (.slice a ((((18 : Int), (0 : Int)) :: x) : List (Int × Int)).length c) ∧ Below w'.heap.size w' w'' ∧ OpsV w'' (.slice a ((((18 : Int), (0 : Int)) :: x) : List (Int × Int)).length c) (((18 : Int), (0 : Int)) :: x) := fun g w'  c0 hw => joined1 18 g (.slice xa xn xc) x w' c0 (by have := Kx.out.len; have := Kx.out.many; omega) Kx.out.ne (Kx.out.v.below (HC2.out.trans (hw.mono HC2.out.size)))
  have hE2 : ∀ (w6 : World) (jv : Value), Below w1c.heap.size w1c w6 → OpsV w6 jv (((18 : Int), (0 : Int)) :: x) → Calls Tryd.prog 13 #[jv, .agg #[.slice so sn sc, .slice lo ln lc], .int .i64 3] w6 fun e w' => ∃ rb, e = .returned (.tuple #[.slice (some ⟨rb, 0, none⟩) nm nm, .int .i64 0]) ∧ Below w6.heap.size w6 w' ∧ Hid (RowT w' rb nm (Tm.hb (sig (ss ++ ll) ss.length) (.un 18 0 Tx))) := fun w6 jv hw6 ho => (HK.out.later (HC2.out.trans (hw6.mono HC2.out.size))).moments ho (FOk.tun (k := 18) (by decide) Kx.out.ok) (by have := Kx.out.len; have := Kx.out.many; simp; omega) (by have := Kx.out.len; have := Kx.out.many; omega) HNM.out
  generalize ((((18 : Int), (0 : Int)) :: x) : List (Int × Int)).length = mm2x0 at hJ2x0
  try go_wp2_with fail
  go_region_held3 (fun w' => w'.cell? ⟨wb, 0, none⟩ = some (.slice so sn sc) ∧ w'.cell? ⟨wb, 1, none⟩ = some (.slice lo ln lc))
    (exact hS2 _ (by first | exact hcF2 | exact hc2n0 | exact hc2n0.alloc hc2n0.size _ | exact hB2 | exact hB2.drew | exact (hB2.alloc (Nat.le_refl _) _).drew | exact ((hB2.alloc (Nat.le_refl _) _).alloc (by simp) _).drew))
    (first | (go_at_call 12; refine (hJ2x0 _ _ ?_ ?_).mono ?_; (focus (simp [go_sem]; done)); (focus (first | exact hB2 | exact hB2.drew | exact (hB2.alloc (Nat.le_refl _) _).drew | exact ((hB2.alloc (Nat.le_refl _) _).alloc (by simp) _).drew)); rintro e w2n0 ⟨ja2n0, jc2n0, rfl, hb2n0, ho2n0⟩; have hc2n0 : Below w1c.heap.size w1c w2n0 := Below.trans (by first | exact hB2 | exact hB2.drew | exact (hB2.alloc (Nat.le_refl _) _).drew | exact ((hB2.alloc (Nat.le_refl _) _).alloc (by simp) _).drew) (hb2n0.mono (by first | exact Nat.le_refl _ | (simp; omega) | simp))) | (go_at_call 13; refine (hE2 _ _ hc2n0 ho2n0).mono ?_; rintro e w2c ⟨r2, rfl, hb2c, HR2⟩; have hcF2 : Below w1c.heap.size w1c w2c := hc2n0.trans (hb2c.mono hc2n0.size)))
  have HC3 : Hid (Below w3.heap.size w3 w2c) := (HC2.out.trans (hcF2.mono HC2.out.size))
  have HD2 := (show Hid _ from hcF2)
  clear hE2 hS2 hB2 hb2c hcF2 hJ2x0 hb2n0 ho2n0 hc2n0
  have HK3 : Hid (KCtx w wb (.slice so sn sc) (.slice lo ln lc) ss ll w2c) := HK.out.later HC3.out
  have HRa : Hid (RowT w2c r0 nm (Tm.hb (sig (ss ++ ll) ss.length) Tx)) := (HR0.out.later (by exact HD1.out)).later HD2.out
  have hc0 := HK3.out.c0
  have hc1 := HK3.out.c1
  have hs5 : sn ≤ 5 := by rw [← LS.out]; exact HK.out.ok.stem
  have hl5 : ln ≤ 5 := by rw [← LL.out]; exact HK.out.ok.loop
  have hl1 : 1 ≤ ln := by rw [← LL.out]; exact HK.out.ok.one
  have hn10 : nm ≤ 10 := by have := HNS.out; omega
  have hsn : sn < nm := by have := HNS.out; omega
  have hbf := HK3.out.below
  have HR1' : Hid (RowT w2c r1 nm (Tm.hb (sig (ss ++ ll) ss.length) (.un 17 0 Tx))) := HR1.out.later HD2.out
  have HS17 : Hid (∀ i, i < nm → Tm.hb (sig (ss ++ ll) ss.length) (.un 17 0 Tx) i = smN (Tm.hb (sig (ss ++ ll) ss.length) Tx) (min i sn) (nm - min i sn)) := fun i hi => by
    have hl : (ss ++ ll).length = nm := by rw [List.length_append, HNM.out]
    have := fin_loop (ls := ss ++ ll) (s := ss.length) (by rw [hl, LS.out]; exact hsn) 0 Tx (i := i) (by rw [hl]; exact hi)
    rw [hl] at this
    rw [this, LS.out]
  have HS18 : Hid (∀ i, i < nm → Tm.hb (sig (ss ++ ll) ss.length) (.un 18 0 Tx) i = alN (Tm.hb (sig (ss ++ ll) ss.length) Tx) (min i sn) (nm - min i sn)) := fun i hi => by
    have hl : (ss ++ ll).length = nm := by rw [List.length_append, HNM.out]
    have := glob_loop (ls := ss ++ ll) (s := ss.length) (by rw [hl, LS.out]; exact hsn) 0 Tx (i := i) (by rw [hl]; exact hi)
    rw [hl] at this
    rw [this, LS.out]
  generalize Tm.hb (sig (ss ++ ll) ss.length) Tx = hh at *
  generalize Tm.hb (sig (ss ++ ll) ss.length) (.un 17 0 Tx) = h17 at *
  generalize Tm.hb (sig (ss ++ ll) ss.length) (.un 18 0 Tx) = h18 at *
  have HLt : Hid (w2c.heap.size ≠ 0 ∧ wb < w2c.heap.size) := ⟨by have := HK3.out.pos; omega, HK3.out.lt⟩
  clear HC0 HC1 HC2 HC3 HD1 HD2 HR0 HR1 HK HNM HK3 Kx
  go_wp2_with fail
  rotate_left
  · rename_i hx
    exact absurd (by have := HNS.out; omega) hx
  · rename ((nm : Int) = (sn : Int) + (ln : Int)) => hx
    clear hx
    go_loopw [13] (fun i wr => ∃ q : Nat, q ≤ nm ∧ i = .int .i64 (q : Int) ∧ Hid (Below w2c.heap.size w2c wr)) (fun i _ => nm - (intOf i).toNat)
    case atStart => exact ⟨0, Nat.zero_le _, rfl, Below.refl _ _⟩
    case round =>
      obtain ⟨q, hq, rfl, HBel⟩ := hrel
      have hbel := HBel.out
      have hd0 := (hbel.cell (p := ⟨wb, 0, none⟩) HLt.out.2).trans hc0
      have hd1 := (hbel.cell (p := ⟨wb, 1, none⟩) HLt.out.2).trans hc1
      by_cases hlt : q < nm
      · by_cases hms : sn < q
        · have HQ := hms
          have HE17 : Hid (h17 q = smN hh sn (nm - sn)) := by show _ = _; rw [HS17.out q hlt, show min q sn = sn by omega]
          have HE18 : Hid (h18 q = alN hh sn (nm - sn)) := by show _ = _; rw [HS18.out q hlt, show min q sn = sn by omega]
          have hLn : sn < nm := by omega
          have e17 := (HR1'.out.later hbel).2 q hlt
          have e18 := (HR2.out.later hbel).2 q hlt
          generalize h17 q = b17 at *
          generalize h18 q = b18 at *
          generalize wr = wo at *
          go_wp2_with fail
          go_loopw [14, 15, 16] (fun sv av kv wr => ∃ d : Nat, sn + d ≤ nm ∧ kv = .int .i64 ((sn + d : Nat) : Int) ∧ sv = .bool (smN hh sn d) ∧ av = .bool (alN hh sn d) ∧ Hid (Below wo.heap.size wo wr)) (fun _ _ kv _ => nm - (intOf kv).toNat)
          case atStart => exact ⟨0, by omega, rfl, rfl, rfl, Below.refl _ _⟩
          case round =>
            obtain ⟨d, hd, rfl, rfl, rfl, HBd⟩ := hrel
            have hbd := HBd.out
            have hb2 := hbel.trans (hbd.mono hbel.size)
            obtain ⟨kk, hkk⟩ : ∃ kk, kk = sn + d := ⟨_, rfl⟩
            have HKk : Hid (kk = sn + d) := hkk
            rw [← hkk] at hd ⊢
            clear hkk
            by_cases hld : kk < nm
            · have ca := (HRa.out.later hb2).2 kk hld
              have HSm : Hid (smN hh sn (d + 1) = (smN hh sn d || hh kk)) := by show _ = _; rw [HKk.out]; rfl
              have HAl : Hid (alN hh sn (d + 1) = (alN hh sn d && hh kk)) := by show _ = _; rw [HKk.out]; rfl
              generalize hh kk = hv at *
              generalize smN hh sn d = sd at *
              generalize alN hh sn d = ad at *
              cases sd <;> cases ad <;> cases hv
              all_goals
                go_wp2_with fail
                exact ⟨⟨d + 1, by have := HKk.out; omega, by have := HKk.out; first | (congr 1; omega) | (simp; omega), by rw [HSm.out]; rfl, by rw [HAl.out]; rfl, by first | exact hbd | exact hbd.drew⟩, by simp [intOf]; omega⟩
            · have hdn : d = nm - sn := by have := HKk.out; omega
              rw [← hdn] at HE17 HE18
              have f17 := (hbd.cell (p := ⟨r1, q, none⟩) (Nat.lt_of_lt_of_le HR1'.out.1 hbel.size)).trans e17
              have f18 := (hbd.cell (p := ⟨r2, q, none⟩) (Nat.lt_of_lt_of_le HR2.out.1 hbel.size)).trans e18
              rw [← HE17.out, ← HE18.out]
              clear hdn HE17 HE18
              cases b17 <;> cases b18
              all_goals
                go_wp2_with fail
                exact ⟨⟨q + 1, hlt, by first | rfl | simp, by first | exact hb2 | exact hb2.drew⟩, by simp [intOf]; omega⟩
        · have HQ := hms
          have HE17 : Hid (h17 q = smN hh q (nm - q)) := by show _ = _; rw [HS17.out q hlt, show min q sn = q by omega]
          have HE18 : Hid (h18 q = alN hh q (nm - q)) := by show _ = _; rw [HS18.out q hlt, show min q sn = q by omega]
          have hLn : q < nm := by omega
          have e17 := (HR1'.out.later hbel).2 q hlt
          have e18 := (HR2.out.later hbel).2 q hlt
          generalize h17 q = b17 at *
          generalize h18 q = b18 at *
          generalize wr = wo at *
          go_wp2_with fail
          go_loopw [14, 15, 16] (fun sv av kv wr => ∃ d : Nat, q + d ≤ nm ∧ kv = .int .i64 ((q + d : Nat) : Int) ∧ sv = .bool (smN hh q d) ∧ av = .bool (alN hh q d) ∧ Hid (Below wo.heap.size wo wr)) (fun _ _ kv _ => nm - (intOf kv).toNat)
          case atStart => exact ⟨0, by omega, rfl, rfl, rfl, Below.refl _ _⟩
          case round =>
            obtain ⟨d, hd, rfl, rfl, rfl, HBd⟩ := hrel
            have hbd := HBd.out
            have hb2 := hbel.trans (hbd.mono hbel.size)
            obtain ⟨kk, hkk⟩ : ∃ kk, kk = q + d := ⟨_, rfl⟩
            have HKk : Hid (kk = q + d) := hkk
            rw [← hkk] at hd ⊢
            clear hkk
            by_cases hld : kk < nm
            · have ca := (HRa.out.later hb2).2 kk hld
              have HSm : Hid (smN hh q (d + 1) = (smN hh q d || hh kk)) := by show _ = _; rw [HKk.out]; rfl
              have HAl : Hid (alN hh q (d + 1) = (alN hh q d && hh kk)) := by show _ = _; rw [HKk.out]; rfl
              generalize hh kk = hv at *
              generalize smN hh q d = sd at *
              generalize alN hh q d = ad at *
              cases sd <;> cases ad <;> cases hv
              all_goals
                go_wp2_with fail
                exact ⟨⟨d + 1, by have := HKk.out; omega, by have := HKk.out; first | (congr 1; omega) | (simp; omega), by rw [HSm.out]; rfl, by rw [HAl.out]; rfl, by first | exact hbd | exact hbd.drew⟩, by simp [intOf]; omega⟩
            · have hdn : d = nm - q := by have := HKk.out; omega
              rw [← hdn] at HE17 HE18
              have f17 := (hbd.cell (p := ⟨r1, q, none⟩) (Nat.lt_of_lt_of_le HR1'.out.1 hbel.size)).trans e17
              have f18 := (hbd.cell (p := ⟨r2, q, none⟩) (Nat.lt_of_lt_of_le HR2.out.1 hbel.size)).trans e18
              rw [← HE17.out, ← HE18.out]
              clear hdn HE17 HE18
              cases b17 <;> cases b18
              all_goals
                go_wp2_with fail
                exact ⟨⟨q + 1, hlt, by first | rfl | simp, by first | exact hb2 | exact hb2.drew⟩, by simp [intOf]; omega⟩
      · obtain rfl : q = nm := by omega
        go_wp2_with fail
        go_ret
        exact ⟨rfl, hbf.trans (hbel.mono hbf.size)⟩
end Go.Proofs.YtbpepkockdigmaaDoor
