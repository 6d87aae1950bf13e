/-
  The contract of the document's own MetBy.
-/
import Derived.Test.YtnhkoagfjcmafaaDoorLogicMeet
import Derived.Test.YtnhkoagfjcmafaaDoorRefTruL
namespace Go.Proofs.YtnhkoagfjcmafaaDoor
open Go.ChangeShapes Go.WideShapes Go.ChangeAt Go.RowKit Go.Deep
open Terms

theorem ahead_conv {l : List (Int × Int)} {q : Nat} (hq : q < l.length) (hk : lookB (l.getD q (0, 0)).1 = true) : (aheadTo l q).length < (aheadL l).length ∧ ((aheadL l).getD (aheadTo l q).length 0).toNat = q := by
  have h := aheadTo_lt l hq hk
  refine ⟨h, ?_⟩
  obtain ⟨p, h1, h2, h3, h4⟩ := aheadTo_get l l.length (aheadTo l q).length h
  have h1' : (aheadL l).getD (aheadTo l q).length 0 = (p : Int) := h1
  have : p = q := by
    rcases Nat.lt_trichotomy p q with h | h | h
    · have := aheadTo_lt l h h3; omega
    · exact h
    · have := aheadTo_lt l h hk; omega
  rw [h1', this]; rfl

set_option maxHeartbeats 1600000 in
set_option maxRecDepth 20000 in
/-- THE CONTRACT OF the document's MetBy. -/
theorem rmet_any (v lv : Value) (l : List (Int × Int)) (letter : List Bool) (claim : Int) (w : World) (hV : OpsV w v l) (hL : BoolsV w lv letter) :
    Calls Tryd.prog 21 #[v, lv, .int .i64 claim] w fun e w' => e = .returned (.tuple #[.int .i64 (metN l letter claim), .int .i64 (tcode l letter claim)]) ∧ Below w.heap.size w w' := by
  have htr := rtruths_any v lv l letter claim w hV hL
  obtain ⟨lo, lc, rfl, hl⟩ := id hL
  by_cases hc : tcode l letter claim = 0
  · have hlc : lcode letter.length l = 0 := by
      by_cases h : lcode letter.length l = 0
      · exact h
      · rw [tcode_bad h] at hc; exact absurd hc h
    obtain ⟨_, _, hz, hlf, h6⟩ := lcode_zero hlc
    obtain ⟨hne, h60⟩ := ends_ne hz
    rw [List.length_map] at h60
    obtain ⟨ao, cap, rfl, _, hvv⟩ := id hV
    obtain ⟨b, off, rfl, hbl, hat⟩ := hvv (by rintro rfl; exact hne rfl)
    rw [hc, show metN l letter claim = metTo l (tru l letter claim) (aheadL l).length by unfold metN; rw [hc]; rfl]
    have htl : truL l letter claim = truTo l letter claim l.length := by unfold truL truTo; rw [hc]; rfl
    rw [hc, htl] at htr
    have hl0 : 0 < l.length := by
      cases l with
      | nil => exact absurd rfl hne
      | cons _ _ => simp
    have htr2 : Calls Tryd.prog 16 #[.slice (some ⟨b, off, none⟩) l.length cap, .slice lo letter.length lc, .int .i64 claim] w fun e w' => ∃ tb toff tc, e = .returned (.tuple #[.slice (some ⟨tb, toff, none⟩) l.length tc, .int .i64 0]) ∧ Below w.heap.size w w' ∧ tb < w'.heap.size ∧ Hid (∀ q, q < l.length → w'.cell? ⟨tb, toff + q, none⟩ = some (.bool (tru l letter claim q))) := htr.mono fun e w' ⟨v', he, hb, hv'⟩ => by
      obtain ⟨to', tc, rfl, ht⟩ := hv'
      rw [truTo_length] at he
      obtain ⟨tb, toff, rfl, htl, hta⟩ := ht (by intro h; have := truTo_length l letter claim l.length; rw [h] at this; simp at this; omega)
      refine ⟨tb, toff, tc, he, hb, htl, fun q hq => ?_⟩
      rw [hta q (by rw [truTo_length]; exact hq)]
      simp [truTo, List.getD_eq_getElem?_getD, hq]
    have HA : Hid (OpsAt w b off l) := hat
    have HSe : Hid (∀ w' p, Below w.heap.size w w' → p < l.length → pn (l.getD p (0, 0)).1 = 2 → Calls Tryd.prog 29 #[.slice (some ⟨b, off, none⟩) l.length cap, .int .i64 (p : Int)] w' fun e w2 => e = .returned (.int .i64 (sec l p : Int)) ∧ w2 = w') := fun w' p hb hp h2 => rsec_any b off cap p l w' h60 hz hp h2 (hat.below hb hbl)
    have HPt : Hid (∀ p, p < l.length → (1 ≤ pn (l.getD p (0, 0)).1 → p + 1 < l.length) ∧ (pn (l.getD p (0, 0)).1 = 2 → p + 1 < sec l p ∧ sec l p < l.length)) := fun p hp => part_in hz hp
    have HAc : Hid (∀ p, p < l.length → lookB (l.getD p (0, 0)).1 = true → (aheadTo l p).length < (aheadL l).length ∧ metTo l (tru l letter claim) ((aheadTo l p).length + 1) = metTo l (tru l letter claim) (aheadTo l p).length + if waitB (l.getD p (0, 0)).1 (tru l letter claim p) (tru l letter claim (p + 1)) (tru l letter claim (sec l p)) = true then 0 else 2 ^ (aheadTo l p).length) := fun p hp hk => by
      obtain ⟨h1, h2⟩ := ahead_conv hp hk
      refine ⟨h1, ?_⟩
      simp only [metTo]
      rw [h2]
      rfl
    have HMB : Hid (∀ k, 0 ≤ metTo l (tru l letter claim) k ∧ metTo l (tru l letter claim) k < 2 ^ k) := metTo_bounds _ _
    have HEnd : Hid (aheadTo l l.length = aheadL l) := rfl
    have HM0 : Hid (metTo l (tru l letter claim) 0 = 0) := rfl
    generalize metTo l (tru l letter claim) = mt at *
    generalize tru l letter claim = tr at *
    obtain ⟨n, hn⟩ : ∃ n, n = l.length := ⟨_, rfl⟩
    have HN : Hid (n = l.length) := hn
    rw [← hn] at htr2 HSe HPt HAc HEnd h60 ⊢
    generalize letter.length = ln at *
    clear htr hV hL hl hvv hat hc hlc hz hlf hne htl hn hl0
    go_enter Tryd.func21, Tryd.ntmps21
    go_wp2_with (go_at_call 16; refine htr2.mono ?_; rintro e w1 ⟨tb, toff, tc, rfl, hb1, htl, HT⟩)
    clear htr2
    go_loopw [10, 11, 12] (fun out pw i wr => ∃ q : Nat, q ≤ n ∧ i = .int .i64 (q : Int) ∧ out = .int .i64 (mt (aheadTo l q).length) ∧ pw = .int .i64 (2 ^ (aheadTo l q).length) ∧ Hid (Below w1.heap.size w1 wr)) (fun _ _ i _ => n - (intOf i).toNat)
    case atStart => exact ⟨0, Nat.zero_le _, rfl, by rw [show (aheadTo l 0).length = 0 from rfl, HM0.out], rfl, Below.refl _ _⟩
    case round =>
      obtain ⟨q, hq, rfl, rfl, rfl, HBel⟩ := hrel
      have hbel := HBel.out
      have hbw := hb1.trans (hbel.mono hb1.size)
      by_cases hlt : q < n
      · obtain ⟨c0, c1⟩ := (HA.out.below hbw hbl) q (by rw [← HN.out]; exact hlt)
        obtain ⟨hp1, hp2⟩ := HPt.out q hlt
        have hsc := HSe.out wr q hbw hlt
        have hac := HAc.out q hlt
        have HY : Hid (lookB (l.getD q (0, 0)).1 = true → (aheadTo l (q + 1)).length = (aheadTo l q).length + 1) := fun h => by rw [aheadTo_yes h]; simp
        have HNo : Hid (lookB (l.getD q (0, 0)).1 = false → aheadTo l (q + 1) = aheadTo l q) := aheadTo_no
        have hcv : ∀ j, j < n → wr.cell? ⟨tb, toff + j, none⟩ = some (.bool (tr j)) := fun j hj => (hbel.cell (p := ⟨tb, toff + j, none⟩) htl).trans (HT.out j hj)
        have t0 := hcv q hlt
        generalize l.getD q (0, 0) = xy at c0 c1 hp1 hp2 hsc hac HY HNo
        obtain ⟨kx, vx⟩ := xy
        simp only at c0 c1 hp1 hp2 hsc hac HY HNo
        have hlk := fun w => rlook_any kx w
        cases hb : lookB kx with
        | false =>
          have HAh : Hid ((aheadTo l (q + 1)).length = (aheadTo l q).length) := by show _ = _; rw [HNo.out hb]
          rw [hb] at hlk
          clear hb HY HNo hac hsc hp1 hp2 hcv t0 HAc HPt HSe HA HMB
          generalize (aheadTo l q).length = ix at *
          go_wp2_with (go_at_call 25; refine (hlk _).mono ?_; rintro e w3 ⟨rfl, hw3⟩; obtain rfl := hw3.symm)
          exact ⟨⟨q + 1, hlt, by first | rfl | simp, by rw [HAh.out], by rw [HAh.out], hbel⟩, by simp [intOf]; omega⟩
        | true =>
          have HAh := (show Hid _ from HY.out hb)
          obtain ⟨hix, hmt⟩ := hac hb
          rw [hb] at hlk
          have hkk : 14 ≤ kx ∧ kx ≤ 18 := by simpa [lookB] using hb
          have hpn : 1 ≤ pn kx := by
            unfold pn
            split
            · omega
            · split
              · omega
              · omega
          have hq1 := hp1 hpn
          have t1 := hcv (q + 1) hq1
          obtain ⟨hm0, hm1⟩ := HMB.out (aheadTo l q).length
          have hps := pow_small (k := (aheadTo l q).length) (by omega)
          have h2k : (0 : Int) < 2 ^ (aheadTo l q).length := Int.pow_pos (by decide)
          have HPw : Hid ((2 : Int) ^ ((aheadTo l q).length + 1) = 2 ^ (aheadTo l q).length * 2) := Int.pow_succ 2 _
          generalize (aheadTo l q).length = ix at *
          have hcase : kx = 14 ∨ kx = 15 ∨ kx = 16 ∨ kx = 17 ∨ kx = 18 := by omega
          clear hb HY HNo hac hkk hpn hp1 HAc HPt HSe HA HMB
          rcases hcase with rfl | rfl | rfl | rfl | rfl
          · have HMt : Hid (mt (ix + 1) = mt ix + 2 ^ ix) := by show _ = _; rw [hmt]; simp [waitB]
            generalize tr q = z at *
            generalize tr (q + 1) = x at *
            generalize mt ix = m0 at *
            generalize (2 : Int) ^ ix = pw at *
            clear hmt hcv hsc hp2
            go_wp2_with (go_at_call 25; refine (hlk _).mono ?_; rintro e w3 ⟨rfl, hw3⟩; obtain rfl := hw3.symm)
            exact ⟨⟨q + 1, hlt, by first | rfl | simp, by rw [HAh.out, HMt.out], by rw [HAh.out, HPw.out], hbel⟩, by simp [intOf]; omega⟩
          · obtain ⟨hs1, hs2⟩ := hp2 (by decide)
            have t2 := hcv (sec l q) hs2
            have hsq := hsc (by decide)
            generalize hsn : sec l q = sn at *
            rw [show waitB 15 (tr q) (tr (q + 1)) (tr sn) = (tr q && !tr sn) by simp [waitB]] at hmt
            have HMt := (show Hid _ from hmt)
            generalize tr q = z at *
            generalize tr (q + 1) = x at *
            generalize tr sn = y at *
            generalize mt ix = m0 at *
            generalize (2 : Int) ^ ix = pw at *
            clear hmt hcv hsc hp2 hsn
            cases z <;> cases y
            all_goals
              go_wp2_with (first | (go_at_call 25; refine (hlk _).mono ?_; rintro e w3 ⟨rfl, hw3⟩; obtain rfl := hw3.symm) | (go_at_call 29; refine hsq.mono ?_; rintro e w3 ⟨rfl, hw3⟩; obtain rfl := hw3.symm))
              exact ⟨⟨q + 1, hlt, by first | rfl | simp, by rw [HAh.out, HMt.out]; simp, by rw [HAh.out, HPw.out], hbel⟩, by simp [intOf]; omega⟩
          · obtain ⟨hs1, hs2⟩ := hp2 (by decide)
            have t2 := hcv (sec l q) hs2
            have hsq := hsc (by decide)
            generalize hsn : sec l q = sn at *
            rw [show waitB 16 (tr q) (tr (q + 1)) (tr sn) = (!tr q && tr sn) by simp [waitB]] at hmt
            have HMt := (show Hid _ from hmt)
            generalize tr q = z at *
            generalize tr (q + 1) = x at *
            generalize tr sn = y at *
            generalize mt ix = m0 at *
            generalize (2 : Int) ^ ix = pw at *
            clear hmt hcv hsc hp2 hsn
            cases z <;> cases y
            all_goals
              go_wp2_with (first | (go_at_call 25; refine (hlk _).mono ?_; rintro e w3 ⟨rfl, hw3⟩; obtain rfl := hw3.symm) | (go_at_call 29; refine hsq.mono ?_; rintro e w3 ⟨rfl, hw3⟩; obtain rfl := hw3.symm))
              exact ⟨⟨q + 1, hlt, by first | rfl | simp, by rw [HAh.out, HMt.out]; simp, by rw [HAh.out, HPw.out], hbel⟩, by simp [intOf]; omega⟩
          · rw [show waitB 17 (tr q) (tr (q + 1)) (tr (sec l q)) = (tr q && !tr (q + 1)) by simp [waitB]] at hmt
            have HMt := (show Hid _ from hmt)
            generalize tr q = z at *
            generalize tr (q + 1) = x at *
            generalize mt ix = m0 at *
            generalize (2 : Int) ^ ix = pw at *
            clear hmt hcv hsc hp2
            cases z <;> cases x
            all_goals
              go_wp2_with (go_at_call 25; refine (hlk _).mono ?_; rintro e w3 ⟨rfl, hw3⟩; obtain rfl := hw3.symm)
              exact ⟨⟨q + 1, hlt, by first | rfl | simp, by rw [HAh.out, HMt.out]; simp, by rw [HAh.out, HPw.out], hbel⟩, by simp [intOf]; omega⟩
          · rw [show waitB 18 (tr q) (tr (q + 1)) (tr (sec l q)) = (!tr q && tr (q + 1)) by simp [waitB]] at hmt
            have HMt := (show Hid _ from hmt)
            generalize tr q = z at *
            generalize tr (q + 1) = x at *
            generalize mt ix = m0 at *
            generalize (2 : Int) ^ ix = pw at *
            clear hmt hcv hsc hp2
            cases z <;> cases x
            all_goals
              go_wp2_with (go_at_call 25; refine (hlk _).mono ?_; rintro e w3 ⟨rfl, hw3⟩; obtain rfl := hw3.symm)
              exact ⟨⟨q + 1, hlt, by first | rfl | simp, by rw [HAh.out, HMt.out]; simp, by rw [HAh.out, HPw.out], hbel⟩, by simp [intOf]; omega⟩
      · obtain rfl : q = n := by omega
        go_wp2_with fail
        go_ret2
        rw [← HEnd.out]
        exact ⟨rfl, hbw⟩
  · rw [show metN l letter claim = 0 by unfold metN; rw [if_neg hc]]
    have htl : truL l letter claim = [] := by unfold truL; rw [if_neg hc]
    rw [htl] at htr
    obtain ⟨oo, oc, rfl, _⟩ := id hV
    generalize tcode l letter claim = x at *
    generalize letter.length = ln at *
    generalize l.length = n at *
    clear hV hL hl htl
    go_enter Tryd.func21, Tryd.ntmps21
    go_wp2_with (go_at_call 16; refine htr.mono ?_; rintro e w1 ⟨tv, rfl, hb1, ht1⟩; obtain ⟨to', tc, rfl, _⟩ := ht1)
    go_ret2
    exact ⟨rfl, hb1⟩
end Go.Proofs.YtnhkoagfjcmafaaDoor
