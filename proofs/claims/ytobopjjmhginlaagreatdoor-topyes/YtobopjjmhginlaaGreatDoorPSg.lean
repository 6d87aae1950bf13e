import Derived.Test.YtobopjjmhginlaaGreatDoorPState
namespace Go.Proofs.YtobopjjmhginlaaGreatDoor
open Go.ChangeShapes Go.WideShapes Go.ChangeAt Go.RowKit Go.Deep
open Terms Tm
set_option maxHeartbeats 6400000
set_option maxRecDepth 20000
theorem signOf_any (B : Nat) (va vr pv fv lv : Value) (l : List (Int × Int)) (lt : List Bool) (c : Nat) (ho : Option Addr) (hcp bs bl : Nat) (w : World) (hB : 0 < w.heap.size) (hT : TabAt w) (hF : OpsV w fv l) (hL : BoolsV w lv lt)
    (hz : endsCode (l.map Prod.fst) = 0) (h6 : (aheadL l).length <= 6) (htc : tcode l lt (c : Int) = 0) (hS : SurvAt w B va vr pv fv (.slice ho (aheadL l).length hcp) bs bl) (hA : IntsV w (.slice ho (aheadL l).length hcp) (aheadL l)) :
    Calls Tryz.prog 84 #[.pointer (some ⟨B, 0, none⟩), lv, .int .i64 (c : Int)] w fun e w' => e = .returned (.tuple #[.int .i64 (sgAt l lt c), .int .i64 0]) /\ Below w.heap.size w w' := by
  obtain ⟨hne, h60⟩ := ends_ne hz; rw [List.length_map] at h60
  have hl0 : 0 < l.length := by
    rcases Nat.eq_zero_or_pos l.length with h0 | h0
    · rw [List.length_eq_zero_iff.1 h0] at hne
      simp at hne
    · exact h0
  have htr : Calls Tryz.prog 44 #[fv, lv, .int .i64 (c : Int)] w fun e w' => ∃ b off cp, e = .returned (.tuple #[.slice (some ⟨b, off, none⟩) l.length cp, .int .i64 0]) /\ Below w.heap.size w w' /\ b < w'.heap.size /\ Hid (∀ j, j < l.length -> w'.cell? ⟨b, off + j, none⟩ = some (.bool (tru l lt (c : Int) j))) := by
    refine (ltruths_any fv lv l lt (c : Int) w hB hT hF hL).mono fun e w' ⟨v, h1, h2, h3⟩ => ?_
    have t2 : truL l lt (c : Int) = (List.range l.length).map (tru l lt (c : Int)) := by unfold truL; rw [if_pos htc]; rw [t2] at h3; obtain ⟨lo, lc, rfl, hx⟩ := h3; obtain ⟨b, off, rfl, hb, hat⟩ := hx (by intro h0; have := congrArg List.length h0; rw [List.length_map, List.length_range, List.length_nil] at this; omega)
    refine ⟨b, off, lc, by rw [h1, htc]; simp, h2, hb, fun j hj => ?_⟩
    have c0 := hat j (by simpa using hj)
    rw [c0]; simp [List.getD_eq_getElem?_getD, hj]
  obtain ⟨fo, fc, rfl, _, hfv⟩ := id hF; obtain ⟨fb, foff, rfl, hfb, hfat⟩ := hfv (by intro h0; rw [h0] at hl0; simp at hl0)
  obtain ⟨lo, lc, rfl, _⟩ := id hL
  have HP : Hid (∀ k, k < (aheadL l).length -> ∃ p : Nat, (∃ ab aoff, ho = some ⟨ab, aoff, none⟩ /\ ab < w.heap.size /\ w.cell? ⟨ab, aoff + k, none⟩ = some (.int .i64 (p : Int))) /\ p < l.length /\ askP l p < l.length /\ w.cell? ⟨fb, foff + p * 2, none⟩ = some (.int .i64 (l.getD p (0, 0)).1) /\ ((aheadL l).getD k 0).toNat = p) := fun k hk => by
    obtain ⟨p, h1, h2, h3, _⟩ := aheadTo_get l l.length k hk; obtain ⟨ao2, c2, e1, hah⟩ := hA
    injection e1 with e2 e3 e4
    subst e2; obtain ⟨ab, aoff, rfl, hab, haat⟩ := hah (by intro h0; rw [h0] at hk; simp at hk)
    have h1' : (aheadL l).getD k 0 = (p : Int) := h1; refine ⟨p, ⟨ab, aoff, rfl, hab, by rw [haat k hk, h1']⟩, h2, ?_, (hfat p h2).1, by rw [h1']; rfl⟩
    unfold askP
    split
    · refine (part_in hz h2).1 ?_
      have hk' : 14 <= (l.getD p (0, 0)).1 /\ (l.getD p (0, 0)).1 <= 18 := by simpa [lookB] using h3
      unfold pn
      split
      · omega
      · split <;> omega
    · exact h2
  have HSt : Hid (∀ k, signTo l (tru l lt (c : Int)) (k + 1) = signTo l (tru l lt (c : Int)) k + if tru l lt (c : Int) (askP l ((aheadL l).getD k 0).toNat) = true then 2 ^ k else 0) := fun _ => rfl
  have HSb : Hid (∀ k, 0 <= signTo l (tru l lt (c : Int)) k /\ signTo l (tru l lt (c : Int)) k < 2 ^ k) := signTo_bounds _ _
  have HS0 : Hid (signTo l (tru l lt (c : Int)) 0 = 0) := rfl; unfold sgAt signN; generalize signTo l (tru l lt (c : Int)) = sg at *; generalize hth : tru l lt (c : Int) = th at *; obtain ⟨_, s0, s1, s2, s3, s4, s5, s6⟩ := id hS
  have HS : Hid (∀ w1, Below w.heap.size w w1 -> w1.cell? ⟨B, 3, none⟩ = some (.slice (some ⟨fb, foff, none⟩) l.length fc) /\ w1.cell? ⟨B, 4, none⟩ = some (.slice ho (aheadL l).length hcp)) := fun w1 h => ⟨(hS.later h).c3, (hS.later h).c4⟩
  have HFb : Hid (fb < w.heap.size) := hfb; generalize (aheadL l).length = an at *; generalize lt.length = ltn at *; generalize hnn : l.length = n at *; clear hT hF hL hz htc hA hfv hfat hnn hth hS hne hfb
  go_enter Tryz.func84, Tryz.ntmps84
  go_wp2_with (first | (go_at_call 44; refine htr.mono ?_; rintro e w1 ⟨b, off, cp, rfl, hb1, hblt, HTb⟩; obtain ⟨q3, q4⟩ := HS.out w1 hb1))
  clear htr
  go_loopw [10, 33] (fun x i wr => ∃ k : Nat, k <= an /\ i = .int .i64 (k : Int) /\ x = .int .i64 (sg k) /\ wr = w1) (fun _ i _ => an - (intOf i).toNat)
  case atStart => exact ⟨0, Nat.zero_le _, rfl, by rw [HS0.out], rfl⟩
  case round =>
    obtain ⟨k, hk, rfl, rfl, rfl⟩ := hrel
    by_cases hlt : k < an
    · obtain ⟨p, ⟨ab, aoff, rfl, hab, hca⟩, hpn, hpa, hpc, hpi⟩ := HP.out k hlt
      have HSk := (show Hid _ from HSt.out k)
      rw [hpi] at HSk; have d0 := (hb1.cell (p := ⟨ab, aoff + k, none⟩) hab).trans hca; have d1 := (hb1.cell (p := ⟨fb, foff + p * 2, none⟩) HFb.out).trans hpc; have d2 := HTb.out (askP l p) hpa; obtain ⟨hm0, hm1⟩ := HSb.out k; have hk6 : k < 6 := by omega
      have hps := pow_small (k := k) (by omega)
      have h2k : (0 : Int) < 2 ^ k := Int.pow_pos (by decide)
      have HOr : Hid (bits BinOp.or IntKind.i64 (sg k) (2 ^ k) = sg k + 2 ^ k) := or_bit hk6 hm0 hm1; have hpi2 : (p : Int) < (n : Int) := by omega
      unfold askP at d2 hpa HSk; clear HP HSt HSb hca hpc hpi
      by_cases h14 : (l.getD p (0, 0)).1 = 14
      · rw [if_pos h14] at d2 hpa HSk
        rw [h14] at d1; have hpa2 : (p : Int) + 1 < (n : Int) := by omega
        clear h14; generalize th (p + 1) = tv at *
        cases tv with
        | true =>
          have HS2 : Hid (sg (k + 1) = sg k + 2 ^ k) := by show _ = _; rw [HSk.out]; simp
          clear HSk
          go_wp2_with fail
          exact ⟨⟨k + 1, hlt, by first | rfl | simp, by rw [HS2.out, <- HOr.out], by trivial⟩, by simp [intOf]; omega⟩
        | false =>
          have HS2 : Hid (sg (k + 1) = sg k) := by show _ = _; rw [HSk.out]; simp
          clear HSk
          go_wp2_with fail
          exact ⟨⟨k + 1, hlt, by first | rfl | simp, by rw [HS2.out], by trivial⟩, by simp [intOf]; omega⟩
      · rw [if_neg h14] at d2 hpa HSk
        generalize (l.getD p (0, 0)).1 = kx at *; generalize th p = tv at *
        cases tv with
        | true =>
          have HS2 : Hid (sg (k + 1) = sg k + 2 ^ k) := by show _ = _; rw [HSk.out]; simp
          clear HSk
          go_wp2_with fail
          exact ⟨⟨k + 1, hlt, by first | rfl | simp, by rw [HS2.out, <- HOr.out], by trivial⟩, by simp [intOf]; omega⟩
        | false =>
          have HS2 : Hid (sg (k + 1) = sg k) := by show _ = _; rw [HSk.out]; simp
          clear HSk
          go_wp2_with fail
          exact ⟨⟨k + 1, hlt, by first | rfl | simp, by rw [HS2.out], by trivial⟩, by simp [intOf]; omega⟩
    · obtain rfl : k = an := by omega
      go_wp2_with fail
      go_ret2
      exact ⟨rfl, hb1⟩
end Go.Proofs.YtobopjjmhginlaaGreatDoor
