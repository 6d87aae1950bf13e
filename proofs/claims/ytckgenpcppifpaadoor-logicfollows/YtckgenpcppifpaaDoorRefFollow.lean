/-
  The contract of the document's own FollowsOn.
-/
import Derived.Test.YtckgenpcppifpaaDoorLogicFollow
import Derived.Test.YtckgenpcppifpaaDoorRefTruL
namespace Go.Proofs.YtckgenpcppifpaaDoor
open Go.ChangeShapes Go.WideShapes Go.ChangeAt Go.RowKit Go.Deep
open Terms

/-- the truths as the document lays them. -/
def TruAt (w : World) (tb toff n : Nat) (h : Nat → Bool) : Prop := ∀ q, q < n → w.cell? ⟨tb, toff + q, none⟩ = some (.bool (h q))
theorem rtruths_ok (v lv : Value) (l : List (Int × Int)) (letter : List Bool) (claim : Int) (w : World) (hV : OpsV w v l) (hL : BoolsV w lv letter) (hl0 : 0 < l.length) (hc : tcode l letter claim = 0) :
    Calls Tryd.prog 29 #[v, lv, .int .i64 claim] w fun e w' => ∃ tb toff tc, e = .returned (.tuple #[.slice (some ⟨tb, toff, none⟩) l.length tc, .int .i64 0]) ∧ Below w.heap.size w w' ∧ tb < w'.heap.size ∧ Hid (TruAt w' tb toff l.length (tru l letter claim)) := by
  have htl : truL l letter claim = truTo l letter claim l.length := by unfold truL truTo; rw [hc]; rfl
  have htr := rtruths_any v lv l letter claim w hV hL
  rw [hc, htl] at htr
  refine htr.mono fun e w' ⟨v', he, hb, hv'⟩ => ?_
  obtain ⟨to', tc, rfl, ht⟩ := hv'
  rw [truTo_length] at he
  obtain ⟨tb, toff, rfl, htl, hta⟩ := ht (by intro h; have := truTo_length l letter claim l.length; rw [h] at this; simp at this; omega)
  refine ⟨tb, toff, tc, he, hb, htl, fun q hq => ?_⟩
  rw [hta q (by rw [truTo_length]; exact hq)]
  simp [truTo, List.getD_eq_getElem?_getD, hq]

set_option maxHeartbeats 3200000 in
set_option maxRecDepth 20000 in
theorem rfol_main (b off cap : Nat) (l : List (Int × Int)) (no xo : Option Addr) (nc xc ln : Nat) (now next : List Bool) (claim later : Int) (w : World) (hz : endsCode (l.map Prod.fst) = 0) (hbl : b < w.heap.size) (hat : OpsAt w b off l) (hcap : l.length ≤ cap) (hL : BoolsV w (.slice no ln nc) now) (hX : BoolsV w (.slice xo ln xc) next) (hc1 : tcode l now claim = 0) (hc2 : tcode l next later = 0) (fr : Bool) (hyes : Fol l (tru l now claim) (tru l next later) → fr = true) (hnot : ¬ Fol l (tru l now claim) (tru l next later) → fr = false) :
    Calls Tryd.prog 20 #[.slice (some ⟨b, off, none⟩) l.length cap, .slice no ln nc, .int .i64 claim, .slice xo ln xc, .int .i64 later] w fun e w' => e = .returned (.tuple #[.bool fr, .int .i64 0]) ∧ Below w.heap.size w w' := by
  obtain ⟨hne, h60⟩ := ends_ne hz
  rw [List.length_map] at h60
  have hl0 : 0 < l.length := by
    cases l with
    | nil => exact absurd rfl hne
    | cons _ _ => simp
  have hV : OpsV w (.slice (some ⟨b, off, none⟩) l.length cap) l := ⟨_, cap, rfl, ⟨hcap, fun h => by simp at h⟩, fun _ => ⟨b, off, rfl, hbl, hat⟩⟩
  have hta := rtruths_ok _ _ l now claim w hV hL hl0 hc1
  have htb := fun w1 (hb : Below w.heap.size w w1) => rtruths_ok _ _ l next later w1 (hV.below hb) (hX.below hb) hl0 hc2
  have HA : Hid (OpsAt w b off l) := hat
  have HSe : Hid (∀ w' p, Below w.heap.size w w' → p < l.length → pn (l.getD p (0, 0)).1 = 2 → Calls Tryd.prog 30 #[.slice (some ⟨b, off, none⟩) l.length cap, .int .i64 (p : Int)] w' fun e w2 => e = .returned (.int .i64 (sec l p : Int)) ∧ w2 = w') := fun w' p hb hp h2 => rsec_any b off cap p l w' h60 hz hp h2 (hat.below hb hbl)
  have HPt : Hid (∀ p, p < l.length → (1 ≤ pn (l.getD p (0, 0)).1 → p + 1 < l.length) ∧ (pn (l.getD p (0, 0)).1 = 2 → p + 1 < sec l p ∧ sec l p < l.length)) := fun p hp => part_in hz hp
  have HFol : Hid (Fol l (tru l now claim) (tru l next later) ↔ ∀ p, p < l.length → lookB (l.getD p (0, 0)).1 = true → tru l now claim p = comeB (l.getD p (0, 0)).1 (tru l now claim (p + 1)) (tru l now claim (sec l p)) (tru l next later p) (tru l next later (p + 1))) := Iff.rfl
  have HYes := (show Hid _ from hyes)
  have HNot := (show Hid _ from hnot)
  generalize Fol l (tru l now claim) (tru l next later) = FP at *
  generalize tru l now claim = tn at *
  generalize tru l next later = tx at *
  obtain ⟨n, hn⟩ : ∃ n, n = l.length := ⟨_, rfl⟩
  have HN : Hid (n = l.length) := hn
  rw [← hn] at hta htb HSe HPt HFol h60 ⊢
  obtain ⟨ALL, HALL⟩ : ∃ ALL : Nat → Prop, Hid (∀ q, ALL q ↔ ∀ p, p < q → lookB (l.getD p (0, 0)).1 = true → tn p = comeB (l.getD p (0, 0)).1 (tn (p + 1)) (tn (sec l p)) (tx p) (tx (p + 1))) := ⟨_, fun _ => Iff.rfl⟩
  clear hat hV hL hX hc1 hc2 hyes hnot hz hne hn hl0 hcap
  go_enter Tryd.func20, Tryd.ntmps20
  go_wp2_with (first | (go_at_call 29; refine hta.mono ?_; clear hta; rintro e w1 ⟨ta, aoff, tc, rfl, hb1, hal, HTa⟩; have htb1 := htb w1 hb1) | (go_at_call 29; refine htb1.mono ?_; clear htb1; rintro e w2 ⟨tb, boff, uc, rfl, hb2, hbl2, HTb⟩))
  have hb12 := hb1.trans (hb2.mono hb1.size)
  clear htb
  go_loopw [15] (fun i wr => ∃ q : Nat, q ≤ n ∧ i = .int .i64 (q : Int) ∧ Hid (ALL q) ∧ Hid (Below w2.heap.size w2 wr)) (fun i _ => n - (intOf i).toNat)
  case atStart => exact ⟨0, Nat.zero_le _, rfl, (HALL.out 0).2 fun p hp => absurd hp (Nat.not_lt_zero _), Below.refl _ _⟩
  case round =>
    obtain ⟨q, hq, rfl, HAll, HBel⟩ := hrel
    have hbel := HBel.out
    have hbw := hb12.trans (hbel.mono hb12.size)
    by_cases hlt : q < n
    · obtain ⟨c0, c1⟩ := (HA.out.below hbw hbl) q (by rw [← HN.out]; exact hlt)
      obtain ⟨hp1, hp2⟩ := HPt.out q hlt
      have hsc := HSe.out wr q hbw hlt
      have hca : ∀ j, j < n → wr.cell? ⟨ta, aoff + j, none⟩ = some (.bool (tn j)) := fun j hj => (hbel.cell (p := ⟨ta, aoff + j, none⟩) (Nat.lt_of_lt_of_le hal hb2.size)).trans ((hb2.cell (p := ⟨ta, aoff + j, none⟩) hal).trans (HTa.out j hj))
      have hcb : ∀ j, j < n → wr.cell? ⟨tb, boff + j, none⟩ = some (.bool (tx j)) := fun j hj => (hbel.cell (p := ⟨tb, boff + j, none⟩) hbl2).trans (HTb.out j hj)
      have t0 := hca q hlt
      have s0 := hcb q hlt
      have HNl0 : Hid (lookB (l.getD q (0, 0)).1 = false → ∀ p, p < q + 1 → lookB (l.getD p (0, 0)).1 = true → tn p = comeB (l.getD p (0, 0)).1 (tn (p + 1)) (tn (sec l p)) (tx p) (tx (p + 1))) := fun h p hp hk => by
        by_cases hpq : p < q
        · exact (HALL.out q).1 HAll.out p hpq hk
        · obtain rfl : p = q := by omega
          rw [h] at hk; cases hk
      have HNx0 : Hid (tn q = comeB (l.getD q (0, 0)).1 (tn (q + 1)) (tn (sec l q)) (tx q) (tx (q + 1)) → ∀ p, p < q + 1 → lookB (l.getD p (0, 0)).1 = true → tn p = comeB (l.getD p (0, 0)).1 (tn (p + 1)) (tn (sec l p)) (tx p) (tx (p + 1))) := fun h p hp hk => by
        by_cases hpq : p < q
        · exact (HALL.out q).1 HAll.out p hpq hk
        · obtain rfl : p = q := by omega
          exact h
      have HBd0 : Hid (lookB (l.getD q (0, 0)).1 = true → ¬ tn q = comeB (l.getD q (0, 0)).1 (tn (q + 1)) (tn (sec l q)) (tx q) (tx (q + 1)) → fr = false) := fun hk h => HNot.out fun hf => h (HFol.out.1 hf q hlt hk)
      generalize l.getD q (0, 0) = xy at c0 c1 hp1 hp2 hsc HBd0 HNl0 HNx0
      obtain ⟨kx, vx⟩ := xy
      simp only at c0 c1 hp1 hp2 hsc
      have HBd1 : Hid (lookB kx = true → ¬ tn q = comeB kx (tn (q + 1)) (tn (sec l q)) (tx q) (tx (q + 1)) → fr = false) := HBd0.out
      clear HBd0
      have HNl : Hid (lookB kx = false → ALL (q + 1)) := fun h => (HALL.out _).2 (HNl0.out h)
      have HNx : Hid (tn q = comeB kx (tn (q + 1)) (tn (sec l q)) (tx q) (tx (q + 1)) → ALL (q + 1)) := fun h => (HALL.out _).2 (HNx0.out h)
      clear HNl0 HNx0
      have hlk := fun w => rlook_any kx w
      cases hb : lookB kx with
      | false =>
        have HNl2 : Hid (ALL (q + 1)) := HNl.out hb
        rw [hb] at hlk
        clear hb HNl HNx HBd1 hsc hp1 hp2 hca hcb t0 s0 HPt HSe HA HFol HYes HNot HAll
        go_wp2_with (go_at_call 25; refine (hlk _).mono ?_; rintro e w3 ⟨rfl, hw3⟩; obtain rfl := hw3.symm)
        exact ⟨⟨q + 1, hlt, by first | rfl | simp, HNl2, hbel⟩, by simp [intOf]; omega⟩
      | true =>
        have HBd : Hid (¬ tn q = comeB kx (tn (q + 1)) (tn (sec l q)) (tx q) (tx (q + 1)) → fr = false) := HBd1.out hb
        rw [hb] at hlk
        have hkk : 14 ≤ kx ∧ kx ≤ 18 := by simpa [lookB] using hb
        have hpn : 1 ≤ pn kx := by
          unfold pn
          split
          · omega
          · split
            · omega
            · omega
        have hq1 := hp1 hpn
        have t1 := hca (q + 1) hq1
        have s1 := hcb (q + 1) hq1
        have hcase : kx = 14 ∨ kx = 15 ∨ kx = 16 ∨ kx = 17 ∨ kx = 18 := by omega
        clear hb HNl HBd1 hkk hpn hp1 HPt HSe HA HFol HYes HNot HAll
        rcases hcase with rfl | rfl | rfl | rfl | rfl
        · rw [show comeB 14 (tn (q + 1)) (tn (sec l q)) (tx q) (tx (q + 1)) = (tx (q + 1)) by simp [comeB]] at HNx HBd
          generalize tn q = a at *
          generalize tn (q + 1) = x at *
          generalize tx q = z at *
          generalize tx (q + 1) = nx at *
          clear hca hcb hsc hp2
          cases a <;> cases nx
          all_goals
            go_wp2_with ((go_at_call 25; refine (hlk _).mono ?_; rintro e w3 ⟨rfl, hw3⟩; obtain rfl := hw3.symm))
            first | (exact ⟨⟨q + 1, hlt, by first | rfl | simp, HNx.out (by simp), hbel⟩, by simp [intOf]; omega⟩) | (go_ret2; rw [HBd.out (by simp)]; exact ⟨rfl, hbw⟩)
        · obtain ⟨hs1, hs2⟩ := hp2 (by decide)
          have t2 := hca (sec l q) hs2
          have hsq := hsc (by decide)
          generalize hsn : sec l q = sn at *
          rw [show comeB 15 (tn (q + 1)) (tn sn) (tx q) (tx (q + 1)) = (tn sn || (tn (q + 1) && tx q)) by simp [comeB]] at HNx HBd
          generalize tn sn = y at *
          generalize tn q = a at *
          generalize tn (q + 1) = x at *
          generalize tx q = z at *
          generalize tx (q + 1) = nx at *
          clear hca hcb hsc hp2 hsn
          cases a <;> cases y <;> cases x <;> cases z
          all_goals
            go_wp2_with (first | (go_at_call 25; refine (hlk _).mono ?_; rintro e w3 ⟨rfl, hw3⟩; obtain rfl := hw3.symm) | (go_at_call 30; refine hsq.mono ?_; rintro e w3 ⟨rfl, hw3⟩; obtain rfl := hw3.symm))
            first | (exact ⟨⟨q + 1, hlt, by first | rfl | simp, HNx.out (by simp), hbel⟩, by simp [intOf]; omega⟩) | (go_ret2; rw [HBd.out (by simp)]; exact ⟨rfl, hbw⟩)
        · obtain ⟨hs1, hs2⟩ := hp2 (by decide)
          have t2 := hca (sec l q) hs2
          have hsq := hsc (by decide)
          generalize hsn : sec l q = sn at *
          rw [show comeB 16 (tn (q + 1)) (tn sn) (tx q) (tx (q + 1)) = (tn sn && (tn (q + 1) || tx q)) by simp [comeB]] at HNx HBd
          generalize tn sn = y at *
          generalize tn q = a at *
          generalize tn (q + 1) = x at *
          generalize tx q = z at *
          generalize tx (q + 1) = nx at *
          clear hca hcb hsc hp2 hsn
          cases a <;> cases y <;> cases x <;> cases z
          all_goals
            go_wp2_with (first | (go_at_call 25; refine (hlk _).mono ?_; rintro e w3 ⟨rfl, hw3⟩; obtain rfl := hw3.symm) | (go_at_call 30; refine hsq.mono ?_; rintro e w3 ⟨rfl, hw3⟩; obtain rfl := hw3.symm))
            first | (exact ⟨⟨q + 1, hlt, by first | rfl | simp, HNx.out (by simp), hbel⟩, by simp [intOf]; omega⟩) | (go_ret2; rw [HBd.out (by simp)]; exact ⟨rfl, hbw⟩)
        · rw [show comeB 17 (tn (q + 1)) (tn (sec l q)) (tx q) (tx (q + 1)) = (tn (q + 1) || tx q) by simp [comeB]] at HNx HBd
          generalize tn q = a at *
          generalize tn (q + 1) = x at *
          generalize tx q = z at *
          generalize tx (q + 1) = nx at *
          clear hca hcb hsc hp2
          cases a <;> cases x <;> cases z
          all_goals
            go_wp2_with ((go_at_call 25; refine (hlk _).mono ?_; rintro e w3 ⟨rfl, hw3⟩; obtain rfl := hw3.symm))
            first | (exact ⟨⟨q + 1, hlt, by first | rfl | simp, HNx.out (by simp), hbel⟩, by simp [intOf]; omega⟩) | (go_ret2; rw [HBd.out (by simp)]; exact ⟨rfl, hbw⟩)
        · rw [show comeB 18 (tn (q + 1)) (tn (sec l q)) (tx q) (tx (q + 1)) = (tn (q + 1) && tx q) by simp [comeB]] at HNx HBd
          generalize tn q = a at *
          generalize tn (q + 1) = x at *
          generalize tx q = z at *
          generalize tx (q + 1) = nx at *
          clear hca hcb hsc hp2
          cases a <;> cases x <;> cases z
          all_goals
            go_wp2_with ((go_at_call 25; refine (hlk _).mono ?_; rintro e w3 ⟨rfl, hw3⟩; obtain rfl := hw3.symm))
            first | (exact ⟨⟨q + 1, hlt, by first | rfl | simp, HNx.out (by simp), hbel⟩, by simp [intOf]; omega⟩) | (go_ret2; rw [HBd.out (by simp)]; exact ⟨rfl, hbw⟩)
    · obtain rfl : q = n := by omega
      have HFr : Hid (fr = true) := HYes.out (HFol.out.2 fun p hp hk => (HALL.out q).1 HAll.out p hp hk)
      clear HAll HYes HNot HFol HSe HPt
      go_wp2_with fail
      go_ret2
      rw [HFr.out]
      exact ⟨rfl, hbw⟩

theorem tcode_len {l : List (Int × Int)} {letter : List Bool} {claim : Int} (h : tcode l letter claim = 0) : lcode letter.length l = 0 := by
  by_cases h2 : lcode letter.length l = 0
  · exact h2
  · rw [tcode_bad h2] at h; exact absurd h h2

set_option maxHeartbeats 1600000 in
set_option maxRecDepth 20000 in
/-- THE CONTRACT OF the document's FollowsOn. -/
theorem rfol_any (v nv xv : Value) (l : List (Int × Int)) (now next : List Bool) (claim later : Int) (w : World) (hV : OpsV w v l) (hL : BoolsV w nv now) (hX : BoolsV w xv next) :
    Calls Tryd.prog 20 #[v, nv, .int .i64 claim, xv, .int .i64 later] w fun e w' => e = .returned (.tuple #[.bool (folR l now claim next later), .int .i64 (fcode l now claim next later)]) ∧ Below w.heap.size w w' := by
  obtain ⟨oo, oc, rfl, ⟨hcap, hn0⟩, hvv⟩ := id hV
  obtain ⟨no, nc, rfl, _⟩ := id hL
  obtain ⟨xo, xc, rfl, _⟩ := id hX
  by_cases hlen : now.length = next.length
  · have hta := rtruths_any _ _ l now claim w hV hL
    by_cases hc1 : tcode l now claim = 0
    · by_cases hc2 : tcode l next later = 0
      · have hf : fcode l now claim next later = 0 := by unfold fcode; rw [if_neg (by simpa using hlen), if_neg (by simpa using hc1), hc2]
        obtain ⟨_, _, hz, _, _⟩ := lcode_zero (tcode_len hc1)
        obtain ⟨hne, _⟩ := ends_ne hz
        obtain ⟨b, off, rfl, hbl, hat⟩ := hvv (by rintro rfl; exact hne rfl)
        rw [hf]
        rw [← hlen] at hX ⊢
        exact rfol_main b off oc l no xo nc xc now.length now next claim later w hz hbl hat hcap hL hX hc1 hc2 _ (folR_yes hf) folR_no
      · have hf : fcode l now claim next later = tcode l next later := by unfold fcode; rw [if_neg (by simpa using hlen), if_neg (by simpa using hc1)]
        rw [folR_bad (by rw [hf]; exact hc2), hf]
        have htb := fun w1 (hb : Below w.heap.size w w1) => rtruths_any _ _ l next later w1 (hV.below hb) (hX.below hb)
        rw [hc1] at hta
        rw [← hlen] at htb ⊢
        generalize tcode l next later = x at *
        generalize truL l next later = tl at *
        generalize truL l now claim = tm at *
        generalize now.length = ln at *
        generalize l.length = n at *
        clear hV hL hX hvv hn0 hcap hf hlen hc1
        go_enter Tryd.func20, Tryd.ntmps20
        go_wp2_with (first | (go_at_call 29; refine hta.mono ?_; clear hta; rintro e w1 ⟨tv, rfl, hb1, ht1⟩; obtain ⟨to', tc, rfl, _⟩ := ht1; have htb1 := htb w1 hb1) | (go_at_call 29; refine htb1.mono ?_; clear htb1; rintro e w2 ⟨uv, rfl, hb2, ht2⟩; obtain ⟨uo', uc, rfl, _⟩ := ht2))
        go_ret2
        exact ⟨rfl, hb1.trans (hb2.mono hb1.size)⟩
    · have hf : fcode l now claim next later = tcode l now claim := by unfold fcode; rw [if_neg (by simpa using hlen), if_pos hc1]
      rw [folR_bad (by rw [hf]; exact hc1), hf]
      rw [← hlen]
      generalize tcode l now claim = x at *
      generalize truL l now claim = tm at *
      generalize now.length = ln at *
      generalize l.length = n at *
      clear hV hL hX hvv hn0 hcap hf hlen
      go_enter Tryd.func20, Tryd.ntmps20
      go_wp2_with (go_at_call 29; refine hta.mono ?_; clear hta; rintro e w1 ⟨tv, rfl, hb1, ht1⟩; obtain ⟨to', tc, rfl, _⟩ := ht1)
      go_ret2
      exact ⟨rfl, hb1⟩
  · have hf : fcode l now claim next later = 1 := by unfold fcode; rw [if_pos hlen]
    rw [folR_bad (by rw [hf]; decide), hf]
    generalize l.length = n at *
    have hne : ¬ (now.length : Int) = next.length := by omega
    generalize now.length = ln at *
    generalize next.length = xn at *
    clear hV hL hX hvv hn0 hcap hf hlen
    go_enter Tryd.func20, Tryd.ntmps20
    go_wp2_with fail
    go_ret2
    exact ⟨rfl, Below.refl _ _⟩
end Go.Proofs.YtckgenpcppifpaaDoor
