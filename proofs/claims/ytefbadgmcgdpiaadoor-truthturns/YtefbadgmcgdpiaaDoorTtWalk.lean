/-
  The walk of the law TruthTurns.
-/
import Derived.Test.YtefbadgmcgdpiaaDoorTtMath
import Derived.Test.YtefbadgmcgdpiaaDoorLogicAh
import Derived.Deep.RegionHeld3
namespace Go.Proofs.YtefbadgmcgdpiaaDoor
open Go.ChangeShapes Go.WideShapes Go.ChangeAt Go.RowKit Go.Deep
open Terms

set_option maxHeartbeats 3200000 in
set_option maxRecDepth 20000 in
theorem truthTurns_walk (xv : Value) (xs : List (Int × Int)) (n claim : Int) (w : World) (hB : 0 < w.heap.size) (hT : TabAt w) (hRx : Raws w w.heap.size xv xs) (jn : I64 n) (jclaim : I64 claim) :
    Calls Tryd.prog 3 #[xv, .int .i64 n, .int .i64 claim] w fun e w' => e = .returned (.bool true) ∧ Below w.heap.size w w' := by
  have HLe : Hid (∀ w1, Calls Tryd.prog 9 #[.int .i64 n] w1 fun e w' => ∃ g, e = .returned (.slice (some ⟨g, 0, none⟩) 3 3) ∧ Below w1.heap.size w1 w' ∧ Hid (BoolsV w' (.slice (some ⟨g, 0, none⟩) 3 3) (letN n))) := fun w1 => letterFn_is n w1 jn
  have HL3 : Hid ((letN n).length = 3) := rfl
  have HFx : Hid (∀ w1, Below w.heap.size w w1 → Calls Tryd.prog 5 #[xv, .int .i64 3, .int .i64 4] w1 fun e w' => ∃ a c t T m, e = .returned (.slice a t.length c) ∧ Below w1.heap.size w1 w' ∧ Hid (KFor w' (.slice a t.length c) 4 t T m)) := fun w1 h => (formulaFn_any xv xs 3 4 w1 (by omega) (by omega) (by omega) (hRx.up h)).mono fun e w' ⟨a, c, t, m, h1, h2, h3, h4, h5, h6⟩ => by
    obtain ⟨T, hT⟩ := h2.ok
    exact ⟨a, c, t, T, m, h1, h6, h5, hT, h4, h2.ne, h3⟩
  obtain ⟨xq0, xq1, xq2, rfl⟩ : ∃ a n c, xv = .slice a n c := by obtain ⟨⟨a, c, h, _⟩, _, _⟩ := hRx; exact ⟨_, _, _, h⟩
  have HT : Hid (0 < w.heap.size ∧ TabAt w) := ⟨hB, hT⟩
  have hq0 := HFx.out w (Below.refl _ _)
  clear hRx hT hB jn
  have HJC : Hid (I64 claim) := jclaim
  clear jclaim
  generalize letN n = let0 at *
  go_enter Tryd.func3, Tryd.ntmps3
  go_wp2_with (first | (go_at_call_of 5 xq1; refine hq0.mono ?_; rintro e v0 ⟨xa, xc, x, Tx, mx, rfl, hbf0, Hx⟩; have hbF0 := hbf0))
  have Kx : Hid (KFor v0 (.slice xa x.length xc) 4 x Tx mx) := Hx
  have HC0 : Hid (Below v0.heap.size v0 v0) := Below.refl _ _
  have HK : Hid (Below w.heap.size w v0 ∧ 0 < v0.heap.size ∧ TabAt v0) := ⟨hbF0, Nat.lt_of_lt_of_le HT.out.1 hbF0.size, HT.out.2.below hbF0 HT.out.1⟩
  clear HFx Hx HT hbf0 hbF0 hq0
  generalize v0 = w3 at *
  generalize hxn : x.length = xn at *
  have Lx : Hid (x.length = xn) := hxn
  clear hxn
  have hm4 : mx ≤ 4 := Kx.out.many
  have hx0 : 0 < x.length := List.length_pos_iff.2 Kx.out.ne
  have hxn0 : 0 < xn := by have := Lx.out; omega
  have hx17 : xn ≤ 17 := by have := Lx.out; have := Kx.out.len; omega
  have HX0 : Hid (0 < x.length) := hx0
  have hah : Calls Tryd.prog 6 #[.slice xa xn xc, .int .i64 3] w3 fun e w' => ∃ ao ac, e = .returned (.tuple #[.slice ao mx ac, .int .i64 0]) ∧ Below w3.heap.size w3 w' ∧ Hid (w'.ownsRow w3.heap.size 3 1 (.slice ao mx ac) mx (ivals (aheadL x))) := by
    have := lahead_own (.slice xa xn xc) x 3 w3 HK.out.2.1 HK.out.2.2 Kx.out.v (Kx.out.ok.code (by have := Kx.out.len; omega) (by omega))
    rw [Kx.out.ok.ahead] at this
    exact this
  obtain ⟨cc, hcc⟩ : ∃ cc, cc = pk claim (2 ^ mx) := ⟨_, rfl⟩
  have h2m : (0 : Int) < 2 ^ mx := Int.pow_pos (by decide)
  have hps := pow_small (k := mx) (by omega)
  obtain ⟨hc0, hc1⟩ := pk_range (n := claim) (m := 2 ^ mx) h2m
  have HPk : Hid (∀ w1, Calls Tryd.prog 7 #[.int .i64 claim, .int .i64 (2 ^ mx)] w1 fun e w' => e = .returned (.int .i64 cc) ∧ w' = w1) := fun w1 => by rw [hcc]; exact picked_is claim (2 ^ mx) w1 HJC.out h2m (by omega)
  rw [← hcc] at hc0 hc1
  have hc64 : cc < 64 := by omega
  clear hcc hx0 HJC
  have HTC : Hid (tcode x let0 cc = 0) := tcode_fok Kx.out.ok (by have := Kx.out.len; omega) (by omega) HL3.out hc0 hc1
  have HTC' : Hid (tcode ((10, 0) :: x) let0 cc = 0) := tcode_fok Kx.out.ok.not (by have := Kx.out.len; simp; omega) (by omega) HL3.out hc0 hc1
  go_wp2_with (first | (go_at_call 6; refine hah.mono ?_; rintro e wA ⟨aao, aac, rfl, hbA, HOA⟩; have HC0' : Hid (Below w3.heap.size w3 wA) := hbA) | (go_at_call 7; refine (HPk.out _).mono ?_; rintro e wP ⟨rfl, rfl⟩))
  clear HC0 hah HPk
  have HC0 := HC0'
  clear HC0'
  have hB0 : Below wP.heap.size wP wP := Below.refl _ _
  have hE0 : ∀ (w6 : World) (lv : Value), Below wP.heap.size wP w6 → BoolsV w6 lv let0 → Calls Tryd.prog 8 #[(.slice xa xn xc), lv, .int .i64 cc] w6 fun e w' => ∃ rb off c, e = .returned (.tuple #[.slice (some ⟨rb, off, none⟩) xn c, .int .i64 0]) ∧ Below w6.heap.size w6 w' ∧ Hid (rb < w'.heap.size ∧ ∀ j, j < xn → w'.cell? ⟨rb, off + j, none⟩ = some (.bool (tru x let0 cc j))) := fun w6 lv hw6 hl => by
    have hb6 := (HC0.out.trans (hw6.mono HC0.out.size))
    have hp6 : 0 < w6.heap.size := Nat.lt_of_lt_of_le HK.out.2.1 hb6.size
    have ht6 : TabAt w6 := HK.out.2.2.below hb6 HK.out.2.1
    have ho := Kx.out.v.below hb6
    exact (ltruths_any _ lv x let0 cc w6 hp6 ht6 ho hl).mono fun e w' ⟨v', h1, h2, h3⟩ => by
      obtain ⟨rb, off, c, rfl, q1, q2⟩ := truths_row HTC.out HX0.out h3
      exact ⟨rb, off, c, by rw [h1, HTC.out, Lx.out], h2, q1, fun j hj => q2 j (by rw [Lx.out]; exact hj)⟩
  have tb0 := True.intro
  have tc0 := True.intro
  go_wp2_with (first | (clear tb0; go_at_call 9; refine (HLe.out _).mono ?_; rintro e w0b ⟨gl0, rfl, hb0b, HB0⟩; have hc0b : Below wP.heap.size wP w0b := (by first | exact hb0b | exact hB0.drew.trans (hb0b.mono hB0.drew.size))) | (clear tc0; go_at_call 8; refine (hE0 _ _ hc0b HB0.out).mono ?_; rintro e w0c ⟨r0, o0, c0, rfl, hb0c, HR0⟩; have hcF0 : Below wP.heap.size wP w0c := hc0b.trans (hb0c.mono hc0b.size)))
  have HC1 : Hid (Below w3.heap.size w3 w0c) := (HC0.out.trans (hcF0.mono HC0.out.size))
  have HD0 := (show Hid _ from hcF0)
  clear hB0 hE0 hb0b hb0c HB0 hc0b hcF0
  have HRF : Hid (∀ w1, Below w0c.heap.size w0c w1 → ∀ r1 o1, (r1 < w1.heap.size ∧ ∀ j, j < xn + 1 → w1.cell? ⟨r1, o1 + j, none⟩ = some (.bool (tru ((10, 0) :: x) let0 cc j))) → w1.cell? ⟨r0, o0, none⟩ = some (.bool (tru x let0 cc 0)) ∧ w1.cell? ⟨r1, o1, none⟩ = some (.bool (!tru x let0 cc 0)) ∧ (∀ j, j < xn → w1.cell? ⟨r0, o0 + j, none⟩ = some (.bool (tru x let0 cc j))) ∧ ∀ j, j < xn → w1.cell? ⟨r1, o1 + (j + 1), none⟩ = some (.bool (tru x let0 cc j))) := fun w1 hb r1 o1 h => by
    have h59 : x.length ≤ 59 := by have := Kx.out.len; omega
    have e0 : ∀ j, j < xn → w1.cell? ⟨r0, o0 + j, none⟩ = some (.bool (tru x let0 cc j)) := fun j hj => (hb.cell (p := ⟨r0, o0 + j, none⟩) HR0.out.1).trans (HR0.out.2 j hj)
    refine ⟨e0 0 hxn0, ?_, e0, fun j hj => ?_⟩
    · rw [← tru_not Kx.out.ok h59 HX0.out]; exact h.2 0 (by omega)
    · rw [h.2 (j + 1) (by omega), tru_shift Kx.out.ok h59 let0 cc x.length j (by omega) (by rw [Lx.out]; exact hj)]
  have hB1 : Below w0c.heap.size w0c w0c := Below.refl _ _
  have hJ1 : ∀ (g : Nat) (w' : World), w'.cell? ⟨g, 0, none⟩ = some (.slice xa xn xc) → Below w0c.heap.size w0c w' → Calls Tryd.prog 10 #[.int .i64 10, .slice (some ⟨g, 0, none⟩) 1 1] w' fun e w'' => ∃ a c, e = .returned (.slice a ((((10 : Int), (0 : Int)) :: x) : List (Int × Int)).length c) ∧ Below w'.heap.size w' w'' ∧ OpsV w'' (.slice a ((((10 : Int), (0 : Int)) :: x) : List (Int × Int)).length c) (((10 : Int), (0 : Int)) :: x) := fun g w' c0 hw => joined1 10 g (.slice xa xn xc) x w' c0 (by have := Kx.out.len; have := Kx.out.many; omega) Kx.out.ne (Kx.out.v.below (HC1.out.trans (hw.mono HC1.out.size)))
  have hE1 : ∀ (w6 : World) (jv lv : Value), Below w0c.heap.size w0c w6 → OpsV w6 jv (((10 : Int), (0 : Int)) :: x) → BoolsV w6 lv let0 → Calls Tryd.prog 8 #[jv, lv, .int .i64 cc] w6 fun e w' => ∃ rb off c, e = .returned (.tuple #[.slice (some ⟨rb, off, none⟩) (xn + 1) c, .int .i64 0]) ∧ Below w6.heap.size w6 w' ∧ Hid (rb < w'.heap.size ∧ ∀ j, j < xn + 1 → w'.cell? ⟨rb, off + j, none⟩ = some (.bool (tru ((10, 0) :: x) let0 cc j))) := fun w6 jv lv hw6 ho hl => by
    have hb6 := (HC1.out.trans (hw6.mono HC1.out.size))
    have hp6 : 0 < w6.heap.size := Nat.lt_of_lt_of_le HK.out.2.1 hb6.size
    have ht6 : TabAt w6 := HK.out.2.2.below hb6 HK.out.2.1
    exact (ltruths_any jv lv ((10, 0) :: x) let0 cc w6 hp6 ht6 ho hl).mono fun e w' ⟨v', h1, h2, h3⟩ => by
      obtain ⟨rb, off, c, rfl, q1, q2⟩ := truths_row HTC'.out (by simp) h3
      exact ⟨rb, off, c, by rw [h1, HTC'.out, List.length_cons, Lx.out], h2, q1, fun j hj => q2 j (by rw [List.length_cons, Lx.out]; exact hj)⟩
  generalize ((((10 : Int), (0 : Int)) :: x) : List (Int × Int)).length = mm1 at hJ1
  have ta1 := True.intro
  have tb1 := True.intro
  have tc1 := True.intro
  go_wp2_with (first | (clear ta1; go_at_call 10; refine (hJ1 _ _ ?_ ?_).mono ?_; (focus (simp [go_sem]; done)); (focus (first | exact hB1 | exact hB1.drew | exact (hB1.alloc (Nat.le_refl _) _).drew | exact (hB1.alloc (Nat.le_refl _) _))); rintro e w1a ⟨ja1, jc1, rfl, hb1a, ho1⟩; have hc1a : Below w0c.heap.size w0c w1a := Below.trans (by first | exact hB1 | exact hB1.drew | exact (hB1.alloc (Nat.le_refl _) _).drew | exact (hB1.alloc (Nat.le_refl _) _)) (hb1a.mono (by first | exact Nat.le_refl _ | (simp; omega) | simp))) | (clear tb1; go_at_call 9; refine (HLe.out _).mono ?_; rintro e w1b ⟨gl1, rfl, hb1b, HB1⟩; have hc1b : Below w0c.heap.size w0c w1b := hc1a.trans (hb1b.mono hc1a.size)) | (clear tc1; go_at_call 8; refine (hE1 _ _ _ hc1b (ho1.below hb1b) HB1.out).mono ?_; rintro e w1c ⟨r1, o1, c1, rfl, hb1c, HR1⟩; have hbx := (HC1.out.trans ((hc1b.trans (hb1c.mono hc1b.size)).mono HC1.out.size)); have HQ := (show Hid _ from HRF.out w1c (hc1b.trans (hb1c.mono hc1b.size)) r1 o1 HR1.out); have hcA := HQ.out.1; have hcB := HQ.out.2.1; have hcF1 : Below w0c.heap.size w0c w1c := hc1b.trans (hb1c.mono hc1b.size)))
  have HC2 : Hid (Below w3.heap.size w3 w1c) := (HC1.out.trans (hcF1.mono HC1.out.size))
  have HD1 := (show Hid _ from hcF1)
  clear hB1 hJ1 hE1 hb1a hb1b hb1c ho1 HB1 hc1a hc1b hcF1
  have HQ0 : Hid (∀ j, j < xn → w1c.cell? ⟨r0, o0 + j, none⟩ = some (.bool (tru x let0 cc j))) := HQ.out.2.2.1
  have HQ1 : Hid (∀ j, j < xn → w1c.cell? ⟨r1, o1 + (j + 1), none⟩ = some (.bool (tru x let0 cc j))) := HQ.out.2.2.2
  have HRl : Hid (r0 < w1c.heap.size ∧ r1 < w1c.heap.size) := ⟨Nat.lt_of_lt_of_le HR0.out.1 HD1.out.size, HR1.out.1⟩
  have HAt : Hid (∀ k, k < mx → ∃ p : Nat, (aheadL x).getD k 0 = (p : Int) ∧ p < xn ∧ tru x let0 cc p = bitB cc k) := fun k hk => by
    obtain ⟨p, q1, q2, q3, q4⟩ := aheadTo_get x x.length k (by show k < (aheadL x).length; rw [Kx.out.ok.ahead]; exact hk)
    exact ⟨p, q1, by rw [← Lx.out]; exact q2, by rw [tru_look q2 q3, q4]⟩
  have HOb : Hid (IntsV w1c (.slice aao mx aac) (aheadL x)) := by
    have h := HOA.out
    have e := Kx.out.ok.ahead
    rw [← e] at h
    have := (intsV_of_owns h).below (HD0.out.trans (HD1.out.mono HD0.out.size))
    rw [e] at this
    exact this
  have hbf := HK.out.1.trans (HC2.out.mono HK.out.1.size)
  generalize hz0 : tru x let0 cc 0 = A at *
  clear hz0 HQ HRF HR0 HR1 HD0 HD1 HOA HC0 HC1 HC2 HLe
  cases A
  all_goals
    go_region
    go_wp2_with fail
    go_loopw [15] (fun i wr => ∃ k : Nat, k ≤ mx ∧ i = .int .i64 (k : Int) ∧ Hid (Below w1c.heap.size w1c wr)) (fun i _ => mx - (intOf i).toNat)
    case atStart => exact ⟨0, Nat.zero_le _, rfl, (Below.refl _ _).drew⟩
    case round =>
      obtain ⟨k, hk, rfl, HBel⟩ := hrel
      have hbel := HBel.out
      by_cases hlt : k < mx
      · obtain ⟨p, hp1, hp2, hp3⟩ := HAt.out k hlt
        obtain ⟨ao', ac', hsl, hai⟩ := HOb.out.below hbel
        injection hsl with e1 e2 e3
        subst e1
        obtain ⟨ab, aoff, rfl, habl, haat⟩ := hai (by intro h; rw [h] at e2; simp at e2; omega)
        have hca := haat k (by rw [← e2]; exact hlt)
        rw [hp1] at hca
        have hct := (hbel.cell (p := ⟨r0, o0 + p, none⟩) HRl.out.1).trans (HQ0.out p hp2)
        rw [hp3] at hct
        have hbb : (bits BinOp.and IntKind.i64 (cc / 2 ^ k) 1 == 1) = bitB cc k := bits_bitB hc0 hc64
        have h2k : (0 : Int) < 2 ^ k := Int.pow_pos (by decide)
        have hk6 : k < 64 := by omega
        generalize bitB cc k = bv at *
        clear hp1 hp3 haat hai e2 e3
        cases bv
        all_goals
          go_wp2_with fail
          go_region
          go_wp2_with fail
          exact ⟨⟨k + 1, hlt, by first | rfl | simp, by first | exact hbel | exact hbel.drew⟩, by simp [intOf]; omega⟩
      · obtain rfl : k = mx := by omega
        generalize wr = wo at *
        go_wp2_with fail
        go_loopw [16] (fun i wr => ∃ q : Nat, q ≤ xn ∧ i = .int .i64 (q : Int) ∧ Hid (Below wo.heap.size wo wr)) (fun i _ => xn - (intOf i).toNat)
        case atStart => exact ⟨0, Nat.zero_le _, rfl, Below.refl _ _⟩
        case round =>
          obtain ⟨q, hq, rfl, HBq⟩ := hrel
          have hbq := hbel.trans (HBq.out.mono hbel.size)
          have hbq2 := HBq.out
          by_cases hlq : q < xn
          · have g0 := (hbq.cell (p := ⟨r0, o0 + q, none⟩) HRl.out.1).trans (HQ0.out q hlq)
            have g1 := (hbq.cell (p := ⟨r1, o1 + (q + 1), none⟩) HRl.out.2).trans (HQ1.out q hlq)
            generalize tru x let0 cc q = bq at *
            cases bq
            all_goals
              go_wp2_with fail
              go_region
              go_wp2_with fail
              exact ⟨⟨q + 1, hlq, by first | rfl | simp, by first | exact hbq2 | exact hbq2.drew⟩, by simp [intOf]; omega⟩
          · obtain rfl : q = xn := by omega
            go_wp2_with fail
            go_ret
            exact ⟨rfl, hbf.trans (hbq.mono hbf.size)⟩
end Go.Proofs.YtefbadgmcgdpiaaDoor
