/-
  The document's StoreFault.
-/
import Derived.Test.YtjapkkdbmpcoeaaURef2
namespace Go.Proofs.Ytjapkkdbmpcoeaa
open Go.ChangeShapes Go.WideShapes Go.ChangeAt Go.RowKit Go.Deep

theorem rise_adj : ∀ {l : List Int}, (∀ j, j + 1 < l.length → l.getD j 0 < l.getD (j + 1) 0) → l.Pairwise (· < ·)
  | [], _ => List.Pairwise.nil
  | [x], _ => by simp
  | x :: y :: l, h => by
    have ih : (y :: l).Pairwise (· < ·) := rise_adj fun j hj => by have := h (j + 1) (by simp at hj ⊢; omega); simpa using this
    have h0 : x < y := by have := h 0 (by simp); simpa using this
    refine List.pairwise_cons.2 ⟨fun z hz => ?_, ih⟩
    rcases List.mem_cons.1 hz with rfl | hz
    · exact h0
    · have := List.rel_of_pairwise_cons ih hz; omega
theorem adj_rise {l : List Int} (h : l.Pairwise (· < ·)) {j : Nat} (hj : j + 1 < l.length) : l.getD j 0 < l.getD (j + 1) 0 := by
  rw [getD_get (by omega), getD_get hj]
  exact List.pairwise_iff_getElem.1 h j (j + 1) (by omega) hj (by omega)
/-- the first lists may be. -/
def RunsTo (lo : List Int) (rs : List (List Int)) (k : Nat) : Prop := lo.length < 8 ∧ lo.length + (rs.take k).flatten.length ≤ 20000 ∧ ∀ j, j < k → rs.getD j [] ≠ [] ∧ (rs.getD j []).Pairwise (· < ·)
theorem RunsTo.start {lo : List Int} {rs : List (List Int)} (h : lo.length < 8) : RunsTo lo rs 0 := ⟨h, by simp; omega, fun j hj => by omega⟩
theorem RunsTo.next {lo : List Int} {rs : List (List Int)} {k : Nat} (h : RunsTo lo rs k) (h1 : lo.length + (rs.take (k + 1)).flatten.length ≤ 20000) (h2 : rs.getD k [] ≠ []) (h3 : (rs.getD k []).Pairwise (· < ·)) : RunsTo lo rs (k + 1) := by
  refine ⟨h.1, h1, fun j hj => ?_⟩
  rcases Nat.lt_or_eq_of_le (Nat.le_of_lt_succ hj) with h4 | rfl
  · exact h.2.2 j h4
  · exact ⟨h2, h3⟩
theorem mem_getD {α : Type} {l : List α} {x : α} (d : α) (h : x ∈ l) : ∃ j, j < l.length ∧ l.getD j d = x := by
  obtain ⟨j, hj, e⟩ := List.mem_iff_getElem.1 h
  exact ⟨j, hj, by rw [getD_get hj]; exact e⟩
theorem RunsTo.done {lo : List Int} {rs : List (List Int)} (h : RunsTo lo rs rs.length) : SizeOk lo rs ∧ ∀ r ∈ rs, r.Pairwise (· < ·) := by
  obtain ⟨h1, h2, h3⟩ := h
  rw [List.take_length] at h2
  refine ⟨⟨h1, fun r hr => ?_, h2⟩, fun r hr => ?_⟩
  · obtain ⟨j, hj, e⟩ := mem_getD [] hr
    rw [← e]; exact (h3 j hj).1
  · obtain ⟨j, hj, e⟩ := mem_getD [] hr
    rw [← e]; exact (h3 j hj).2
theorem May.runs {lo : List Int} {rs : List (List Int)} (h : May lo rs) {k : Nat} (hk : k < rs.length) : lo.length + (rs.take (k + 1)).flatten.length ≤ 20000 ∧ rs.getD k [] ≠ [] ∧ (rs.getD k []).Pairwise (· < ·) := by
  have e : rs.flatten.length = (rs.take (k + 1)).flatten.length + (rs.drop (k + 1)).flatten.length := by rw [← List.length_append, ← List.flatten_append, List.take_append_drop]
  have := h.size.many
  exact ⟨by omega, h.size.full _ (getD_mem hk []), h.rise _ (getD_mem hk [])⟩
/-- the first keys, as they rise, may be. -/
def KeysTo (U : List Int) (k : Nat) : Prop := ∀ j, j < k → (0 ≤ U.getD j 0 ∧ U.getD j 0 ≤ 2147483647) ∧ (0 < j → U.getD (j - 1) 0 ≠ U.getD j 0)
theorem KeysTo.next {U : List Int} {k : Nat} (h : KeysTo U k) (h1 : 0 ≤ U.getD k 0) (h2 : U.getD k 0 ≤ 2147483647) (h3 : 0 < k → U.getD (k - 1) 0 ≠ U.getD k 0) : KeysTo U (k + 1) := fun j hj => by
  rcases Nat.lt_or_eq_of_le (Nat.le_of_lt_succ hj) with h4 | rfl
  · exact h j h4
  · exact ⟨⟨h1, h2⟩, h3⟩
theorem sorted_at {l : List Int} (h : l.Pairwise (· ≤ ·)) {j : Nat} (hj : j + 1 < l.length) : l.getD j 0 ≤ l.getD (j + 1) 0 := by
  rw [getD_get (by omega), getD_get hj]
  exact List.pairwise_iff_getElem.1 h j (j + 1) (by omega) hj (by omega)
theorem KeysTo.done {lo : List Int} {rs : List (List Int)} (hs : SizeOk lo rs) (hr : ∀ r ∈ rs, r.Pairwise (· < ·)) (h : KeysTo (up (keysL lo rs)) (up (keysL lo rs)).length) : May lo rs := by
  have hrise : (up (keysL lo rs)).Pairwise (· < ·) := rise_adj fun j hj => by
    have h1 := sorted_at (up_sorted (keysL lo rs)) hj
    have h2 := (h (j + 1) hj).2 (by omega)
    rw [Nat.add_sub_cancel] at h2
    omega
  refine ⟨hs, hr, fun x hx => ?_, (up_perm _).nodup_iff.1 (rise_nodup hrise)⟩
  obtain ⟨j, hj, e⟩ := mem_getD 0 ((up_perm (keysL lo rs)).mem_iff.2 hx)
  rw [← e]
  exact (h j hj).1
theorem May.keys {lo : List Int} {rs : List (List Int)} (h : May lo rs) {k : Nat} (hk : k < (up (keysL lo rs)).length) : (0 ≤ (up (keysL lo rs)).getD k 0 ∧ (up (keysL lo rs)).getD k 0 ≤ 2147483647) ∧ (0 < k → (up (keysL lo rs)).getD (k - 1) 0 ≠ (up (keysL lo rs)).getD k 0) := by
  refine ⟨h.range _ ((up_perm _).mem_iff.1 (getD_mem hk 0)), fun h0 => ?_⟩
  have hr : (up (keysL lo rs)).Pairwise (· < ·) := rise_of (up_sorted _) ((up_perm _).nodup_iff.2 h.nodup)
  have := adj_rise hr (j := k - 1) (by omega)
  rw [Nat.sub_add_cancel h0] at this
  omega

set_option maxHeartbeats 1600000 in
set_option maxRecDepth 20000 in
/-- THE CONTRACT OF StoreFault. -/
theorem rfault_any (lo : List Int) (rs : List (List Int)) (la ra : Option Addr) (lc rc : Nat) (w : World) (hz : StSz lo rs) (hL : IntsV w (.slice la lo.length lc) lo) (hR : LisV w (.slice ra rs.length rc) rs) :
    Calls Try.prog 9 #[.agg #[.slice la lo.length lc, .slice ra rs.length rc]] w fun e w' => e = .returned (.int .i64 (sC lo rs)) ∧ Below w.heap.size w w' := by
  obtain ⟨hbA, hcA⟩ := Bc.arg w (.slice la lo.length lc) (.slice ra rs.length rc) 25
  obtain ⟨n, hn⟩ : ∃ n, rs.length = n := ⟨_, rfl⟩
  obtain ⟨m, hm⟩ : ∃ m, lo.length = m := ⟨_, rfl⟩
  have HN : Hid (rs.length = n) := hn
  have HM : Hid (lo.length = m) := hm
  obtain ⟨W0, hW0⟩ : ∃ W0, W0 = w.alloc (.cells #[.slice la lo.length lc, .slice ra rs.length rc] 25) := ⟨_, rfl⟩
  rw [← hW0] at hbA hcA
  have HR : Hid (LisV w (.slice ra rs.length rc) rs) := hR
  have HBW : Hid (∀ w1, Below W0.heap.size W0 w1 → Below w.heap.size w w1) := fun w1 h => hbA.trans (h.mono hbA.size)
  have HC : Hid (∀ w1, Below W0.heap.size W0 w1 → w1.cell? ⟨w.heap.size, 0, none⟩ = some (.slice la lo.length lc) ∧ w1.cell? ⟨w.heap.size, 1, none⟩ = some (.slice ra rs.length rc)) := fun w1 h => (hcA.later h).2
  have HZ : Hid (∀ i, i < rs.length → (rs.getD i []).length * 8 ≤ 140737488355328) := hz.each
  have HK : Hid (SizeOk lo rs → ∀ w1, Below W0.heap.size W0 w1 → Calls Try.prog 22 #[.agg #[.slice la lo.length lc, .slice ra rs.length rc]] w1 fun e w' => ∃ ao cap, e = .returned (.slice ao (keysL lo rs).length cap) ∧ Below w1.heap.size w1 w' ∧ Hid (IntsV w' (.slice ao (keysL lo rs).length cap) (keysL lo rs))) := fun hs w1 h => (rkeys_any lo rs la ra lc rc w1 hs.many hs.runs (hL.below (HBW.out w1 h)) (hR.below (HBW.out w1 h))).mono fun e w' ⟨ao, cap, h1, h2, h3⟩ => ⟨ao, cap, h1, h2, h3.out.v⟩
  have HUp : Hid (SizeOk lo rs → ∀ (ao : Option Addr) (cap : Nat) (w1 : World), IntsV w1 (.slice ao (keysL lo rs).length cap) (keysL lo rs) → Calls Try.prog 23 #[.slice ao (keysL lo rs).length cap] w1 fun e w' => ∃ ao cap, e = .returned (.slice ao (up (keysL lo rs)).length cap) ∧ Below w1.heap.size w1 w' ∧ Hid (IntsV w' (.slice ao (up (keysL lo rs)).length cap) (up (keysL lo rs)))) := fun hs ao cap w1 h => (rup_any _ (keysL lo rs) w1 (by rw [keysL, List.length_append]; have := hs.many; omega) h).mono fun e w' ⟨ao, cap, h1, h2, h3⟩ => ⟨ao, cap, by rw [up_length]; exact h1, h2, by have := h3.out.v; rw [← up_length (keysL lo rs)] at this; exact this⟩
  have HB0 : Hid (Below W0.heap.size W0 W0) := Below.refl _ _
  have hl1 := hz.loose
  have hl2 := hz.runs
  have HBad : Hid (∀ w1, Below W0.heap.size W0 w1 → ¬ May lo rs → Ending.returned (.int .i64 9) = .returned (.int .i64 (sC lo rs)) ∧ Below w.heap.size w w1) := fun w1 h1 h2 => ⟨by rw [sC_bad h2], HBW.out w1 h1⟩
  have HGood : Hid (∀ w1, Below W0.heap.size W0 w1 → May lo rs → Ending.returned (.int .i64 0) = .returned (.int .i64 (sC lo rs)) ∧ Below w.heap.size w w1) := fun w1 h1 h2 => ⟨by rw [sC_ok h2], HBW.out w1 h1⟩
  rw [hn] at HR HC hW0 hl2 HK ⊢
  rw [hm] at HC hW0 hl1 HK ⊢
  clear hL hR hcA hbA hn hm hz
  by_cases h8 : m < 8
  · go_enter Try.func9, Try.ntmps9
    go_wp2_with fail
    rw [← hW0]
    clear hW0
    obtain ⟨a0, a1⟩ := HC.out W0 HB0.out
    have h8i : ¬ (7 : Int) < (m : Int) := by omega
    have HSt : Hid (RunsTo lo rs 0) := RunsTo.start (by rw [HM.out]; exact h8)
    go_wp2_with fail
    go_loopw [3, 4, 5, 6] (fun s i r z wr => ∃ k : Nat, k ≤ n ∧ i = .int .i64 k ∧ s = .int .i64 ((m + (rs.take k).flatten.length : Nat) : Int) ∧ Hid (RunsTo lo rs k) ∧ Below W0.heap.size W0 wr) (fun _ i _ _ _ => n - (intOf i).toNat)
    case atStart => exact ⟨0, Nat.zero_le _, rfl, rfl, HSt, HB0.out⟩
    case round =>
      obtain ⟨k, hk, rfl, rfl, HT, hB⟩ := hrel
      obtain ⟨e0, e1⟩ := HC.out wr hB
      by_cases hlt : k < n
      · have hlt2 : k < rs.length := by rw [HN.out]; exact hlt
        obtain ⟨b, off, rfl, hb, u, c1, hu⟩ := HR.out.at hlt2
        obtain ⟨uo, uc, rfl⟩ := hu.shape
        have c2 := ((HBW.out wr hB).cell (p := ⟨b, off + k, none⟩) hb).trans c1
        have hr8 := HZ.out k hlt2
        have HFl : Hid ((rs.take (k + 1)).flatten.length = (rs.take k).flatten.length + (rs.getD k []).length) := by show _ = _; rw [take_get hlt2 [], flat_snoc, List.length_append]
        have hs20 : m + (rs.take k).flatten.length ≤ 20000 := by have := HT.out.2.1; rw [HM.out] at this; exact this
        have HBr : Hid (∀ w1, Below W0.heap.size W0 w1 → (rs.getD k [] = [] ∨ 20000 < m + (rs.take k).flatten.length + (rs.getD k []).length ∨ ¬ (rs.getD k []).Pairwise (· < ·)) → Ending.returned (.int .i64 9) = .returned (.int .i64 (sC lo rs)) ∧ Below w.heap.size w w1) := fun w1 h1 h2 => HBad.out w1 h1 fun hm => by
          obtain ⟨m1, m2, m3⟩ := hm.runs hlt2
          rw [HFl.out, HM.out] at m1
          rcases h2 with h2 | h2 | h2
          · exact m2 h2
          · omega
          · exact h2 m3
        have HNx : Hid (rs.getD k [] ≠ [] → m + (rs.take k).flatten.length + (rs.getD k []).length ≤ 20000 → (rs.getD k []).Pairwise (· < ·) → RunsTo lo rs (k + 1)) := fun h1 h2 h3 => HT.out.next (by rw [HFl.out, HM.out]; omega) h1 h3
        have HU : Hid (∀ w1, Below W0.heap.size W0 w1 → IntsV w1 (.slice uo (rs.getD k []).length uc) (rs.getD k [])) := fun w1 h => hu.below (HBW.out w1 h)
        clear hu c1 HT
        generalize hss : (rs.take k).flatten.length = s at *
        clear hss
        generalize hrr : rs.getD k [] = r at *
        clear hrr
        obtain ⟨rn, hrn⟩ : ∃ rn, r.length = rn := ⟨_, rfl⟩
        have HRn : Hid (r.length = rn) := hrn
        rw [hrn] at c2 hr8 HFl HBr HNx HU
        clear hrn
        by_cases hr0 : rn = 0
        · have hbr := HBr.out wr hB (.inl (List.length_eq_zero_iff.1 (by rw [HRn.out]; exact hr0)))
          have HBR : Hid (Ending.returned (.int .i64 9) = .returned (.int .i64 (sC lo rs)) ∧ Below w.heap.size w wr) := hbr
          subst hr0
          clear HBr hbr
          go_wp2_with fail
          go_ret
          exact HBR.out
        · have hrp : ¬ (rn : Int) = 0 := by omega
          by_cases hbig : 20000 < m + s + rn
          · have hbr := HBr.out wr hB (.inr (.inl hbig))
            have HBR : Hid (Ending.returned (.int .i64 9) = .returned (.int .i64 (sC lo rs)) ∧ Below w.heap.size w wr) := hbr
            have hbi : (20000 : Int) < (m : Int) + (s : Int) + (rn : Int) := by omega
            clear HBr hbr
            go_wp2_with fail
            all_goals go_ret
            all_goals exact HBR.out
          · have hbi : ¬ (20000 : Int) < (m : Int) + (s : Int) + (rn : Int) := by omega
            have HBr2 : Hid (∀ w1, Below W0.heap.size W0 w1 → ¬ r.Pairwise (· < ·) → Ending.returned (.int .i64 9) = .returned (.int .i64 (sC lo rs)) ∧ Below w.heap.size w w1) := fun w1 h1 h2 => HBr.out w1 h1 (.inr (.inr h2))
            have HNx2 : Hid (r.Pairwise (· < ·) → RunsTo lo rs (k + 1)) := fun h => HNx.out (by rintro rfl; exact hr0 HRn.out.symm) (by omega) h
            clear HBr HNx
            generalize wr = wo at *
            go_wp2_with fail
            go_loopw [6] (fun j wr => ∃ q : Nat, 1 ≤ q ∧ q ≤ rn ∧ j = .int .i64 q ∧ Hid (∀ i, i + 1 < q → r.getD i 0 < r.getD (i + 1) 0) ∧ Below W0.heap.size W0 wr) (fun j _ => rn - (intOf j).toNat)
            case atStart => exact ⟨1, Nat.le_refl _, by omega, rfl, (by show ∀ i, i + 1 < 1 → _; intro i hi; omega), hB⟩
            case round =>
              obtain ⟨q, hq1, hq2, rfl, HA, hB2⟩ := hrel
              by_cases hqr : q < rn
              · obtain ⟨p, hp⟩ : ∃ p, p + 1 = q := ⟨q - 1, by omega⟩
                obtain ⟨b2, off2, rfl, hb2, _, hat⟩ := (HU.out wr hB2).at (i := q) (by rw [HRn.out]; exact hqr)
                have d1 := hat q (by rw [HRn.out]; exact hqr)
                have d2 := hat p (by rw [HRn.out]; omega)
                have i0 : (0 : Int) ≤ (p : Int) := by omega
                have i1 : (q : Int) < (rn : Int) := by omega
                have i2 : (p : Int) < (rn : Int) := by omega
                have i4 : (q : Int) - 1 = (p : Int) := by omega
                have i5 : IntKind.i64.wrap ((q : Int) - 1) = (p : Int) := by rw [i4, IntWalk.i64_left]; exact IntWalk.wrap64_in _ (by omega)
                have i6 : wrap64 ((q : Int) - 1) = (p : Int) := by rw [i4]; exact IntWalk.wrap64_in _ (by omega)
                have HBq : Hid (r.getD q 0 ≤ r.getD p 0 → ∀ w1, Below W0.heap.size W0 w1 → Ending.returned (.int .i64 9) = .returned (.int .i64 (sC lo rs)) ∧ Below w.heap.size w w1) := fun h w1 h1 => HBr2.out w1 h1 fun hp2 => by
                  have := adj_rise hp2 (j := p) (by rw [HRn.out]; omega)
                  rw [hp] at this
                  omega
                have HAq : Hid (r.getD p 0 < r.getD q 0 → ∀ i, i + 1 < q + 1 → r.getD i 0 < r.getD (i + 1) 0) := fun h i hi => by
                  rcases Nat.lt_or_eq_of_le (Nat.le_of_lt_succ hi) with h4 | h4
                  · exact HA.out i h4
                  · obtain rfl : i = p := by omega
                    rw [hp]; exact h
                clear hat HBr2 HA hp i4
                generalize r.getD q 0 = y at *
                generalize r.getD p 0 = x at *
                by_cases hxy : y ≤ x
                · have hbr := HBq.out hxy
                  have HBR : Hid (∀ w1, Below W0.heap.size W0 w1 → Ending.returned (.int .i64 9) = .returned (.int .i64 (sC lo rs)) ∧ Below w.heap.size w w1) := hbr
                  clear hbr HBq HAq
                  go_wp2_with fail
                  go_quiet (fail)
                  go_wp2_with fail
                  go_ret
                  exact HBR.out _ (below_drewN hB2 _)
                · have hyx : x < y := by omega
                  have ha := HAq.out hyx
                  have HA2 : Hid (∀ i, i + 1 < q + 1 → r.getD i 0 < r.getD (i + 1) 0) := ha
                  clear ha HAq HBq
                  go_wp2_with fail
                  go_quiet (fail)
                  go_wp2_with fail
                  go_roundw
                  case rel => exact ⟨q + 1, by omega, by omega, by go_num, HA2, below_drewN hB2 _⟩
                  case measure => simp [intOf]; omega
              · obtain rfl : q = rn := by omega
                have hnx := HNx2.out (rise_adj fun j hj => HA.out j (by rw [HRn.out] at hj; exact hj))
                have HN3 : Hid (RunsTo lo rs (k + 1)) := hnx
                clear hnx HA HBr2
                go_wp2_with fail
                go_roundw
                case rel => exact ⟨k + 1, by omega, by go_num, by rw [HFl.out]; simp; omega, HN3, hB2⟩
                case measure => simp [intOf]; omega
      · obtain rfl : k = n := by omega
        have hdone : SizeOk lo rs ∧ ∀ r ∈ rs, r.Pairwise (· < ·) := by have h := HT.out; rw [← HN.out] at h; exact h.done
        have HD : Hid (∀ r ∈ rs, r.Pairwise (· < ·)) := hdone.2
        have hsz := hdone.1
        have hkc := HK.out hsz
        have HK2 : Hid (∀ w1, Below W0.heap.size W0 w1 → Calls Try.prog 22 #[.agg #[.slice la m lc, .slice ra k rc]] w1 fun e w' => ∃ ao cap, e = .returned (.slice ao (keysL lo rs).length cap) ∧ Below w1.heap.size w1 w' ∧ Hid (IntsV w' (.slice ao (keysL lo rs).length cap) (keysL lo rs))) := hkc
        have HU2 : Hid (∀ (ao : Option Addr) (cap : Nat) (w1 : World), IntsV w1 (.slice ao (keysL lo rs).length cap) (keysL lo rs) → Calls Try.prog 23 #[.slice ao (keysL lo rs).length cap] w1 fun e w' => ∃ ao cap, e = .returned (.slice ao (up (keysL lo rs)).length cap) ∧ Below w1.heap.size w1 w' ∧ Hid (IntsV w' (.slice ao (up (keysL lo rs)).length cap) (up (keysL lo rs)))) := HUp.out hsz
        have hun : (up (keysL lo rs)).length ≤ 20000 := by rw [up_length, keysL, List.length_append]; have := hsz.many; omega
        have HDone : Hid (KeysTo (up (keysL lo rs)) (up (keysL lo rs)).length → May lo rs) := fun h => KeysTo.done hsz HD.out h
        have HKey : Hid (∀ q, q < (up (keysL lo rs)).length → ¬ ((0 ≤ (up (keysL lo rs)).getD q 0 ∧ (up (keysL lo rs)).getD q 0 ≤ 2147483647) ∧ (0 < q → (up (keysL lo rs)).getD (q - 1) 0 ≠ (up (keysL lo rs)).getD q 0)) → ¬ May lo rs) := fun q hq h hm => h (hm.keys hq)
        have hkw := HK2.out wr hB
        have HSt2 : Hid (KeysTo (up (keysL lo rs)) 0) := fun j hj => by omega
        clear HT hdone hkc HK HUp HK2 hsz
        generalize up (keysL lo rs) = U at *
        generalize (keysL lo rs).length = kn at *
        obtain ⟨un, huu⟩ : ∃ un, U.length = un := ⟨_, rfl⟩
        have HUn : Hid (U.length = un) := huu
        rw [huu] at HU2 hun HDone HKey
        clear huu
        generalize wr = wo at *
        go_wp2_with (first | (go_at_call 22; refine hkw.mono ?_; rintro e w1 ⟨ko, kc, rfl, hb1, hx1⟩; have hB1 := hB.trans (hb1.mono hB.size); have hup := HU2.out ko kc w1 hx1.out) | (go_at_call 23; refine hup.mono ?_; rintro e w2 ⟨vo, vc, rfl, hb2, hx2⟩; have hB2 := hB1.trans (hb2.mono hB1.size)))
        have HX : Hid (∀ w3, Below w2.heap.size w2 w3 → IntsV w3 (.slice vo un vc) U) := fun w3 h => hx2.out.below h
        go_loopw [9] (fun j wr => ∃ q : Nat, q ≤ un ∧ j = .int .i64 q ∧ Hid (KeysTo U q) ∧ Below w2.heap.size w2 wr) (fun j _ => un - (intOf j).toNat)
        case atStart => exact ⟨0, Nat.zero_le _, rfl, HSt2, Below.refl _ _⟩
        case round =>
          obtain ⟨q, hq, rfl, HA, hB3⟩ := hrel
          have hBW := hB2.trans (hB3.mono hB2.size)
          by_cases hqr : q < un
          · obtain ⟨b2, off2, rfl, hb2', _, hat⟩ := (HX.out wr hB3).at (i := q) (by rw [HUn.out]; exact hqr)
            have d1 := hat q (by rw [HUn.out]; exact hqr)
            have hin := fun w1 => in_any (U.getD q 0) 0 2147483647 w1
            have HBd : Hid (¬ ((0 ≤ U.getD q 0 ∧ U.getD q 0 ≤ 2147483647) ∧ (0 < q → U.getD (q - 1) 0 ≠ U.getD q 0)) → ∀ w1, Below W0.heap.size W0 w1 → Ending.returned (.int .i64 9) = .returned (.int .i64 (sC lo rs)) ∧ Below w.heap.size w w1) := fun h w1 h1 => HBad.out w1 h1 (HKey.out q hqr h)
            have HGd : Hid (0 ≤ U.getD q 0 → U.getD q 0 ≤ 2147483647 → (0 < q → U.getD (q - 1) 0 ≠ U.getD q 0) → KeysTo U (q + 1)) := fun h1 h2 h3 => HA.out.next h1 h2 h3
            have i1 : (q : Int) < (un : Int) := by omega
            by_cases hr : 0 ≤ U.getD q 0 ∧ U.getD q 0 ≤ 2147483647
            · rcases Nat.eq_zero_or_pos q with h0 | h0
              · have hk2 := HGd.out hr.1 hr.2 (fun h => by omega)
                have HK3 : Hid (KeysTo U (q + 1)) := hk2
                subst h0
                have hin2 : ∀ w1, Calls Try.prog 24 #[.int .i64 (U.getD 0 0), .int .i64 0, .int .i64 2147483647] w1 fun e w' => e = .returned (.bool true) ∧ w' = w1 := fun w1 => (hin w1).mono fun e w' ⟨h1, h2⟩ => ⟨by rw [h1, decide_eq_true hr.1, decide_eq_true hr.2]; rfl, h2⟩
                clear hk2 HBd HGd HA hat hin hr
                rw [Nat.add_zero] at d1
                generalize U.getD 0 0 = x at *
                go_wp2_with fail
                go_quiet (first | (go_at_call 24; exact Calls.quiet_of_same (hin2 _)))
                go_wp2_with fail
                go_roundw
                case rel => exact ⟨0 + 1, by omega, by go_num, HK3, below_drewN hB3 _⟩
                case measure => simp [intOf]; omega
              · obtain ⟨p, hp⟩ : ∃ p, p + 1 = q := ⟨q - 1, by omega⟩
                have hpq : q - 1 = p := by omega
                rw [hpq] at HBd HGd
                have d2 := hat p (by rw [HUn.out]; omega)
                have i0 : (0 : Int) < (q : Int) := by omega
                have i0d : decide (0 < q) = true := decide_eq_true h0
                have i2 : (p : Int) < (un : Int) := by omega
                have i4 : (q : Int) - 1 = (p : Int) := by omega
                have i5 : IntKind.i64.wrap ((q : Int) - 1) = (p : Int) := by rw [i4, IntWalk.i64_left]; exact IntWalk.wrap64_in _ (by omega)
                have i6 : wrap64 ((q : Int) - 1) = (p : Int) := by rw [i4]; exact IntWalk.wrap64_in _ (by omega)
                have hin2 : ∀ w1, Calls Try.prog 24 #[.int .i64 (U.getD q 0), .int .i64 0, .int .i64 2147483647] w1 fun e w' => e = .returned (.bool true) ∧ w' = w1 := fun w1 => (hin w1).mono fun e w' ⟨h1, h2⟩ => ⟨by rw [h1, decide_eq_true hr.1, decide_eq_true hr.2]; rfl, h2⟩
                by_cases hxy : U.getD q 0 = U.getD p 0
                · have hbd := HBd.out (fun h => h.2 h0 hxy.symm)
                  have HBR : Hid (∀ w1, Below W0.heap.size W0 w1 → Ending.returned (.int .i64 9) = .returned (.int .i64 (sC lo rs)) ∧ Below w.heap.size w w1) := hbd
                  rw [← hxy] at d2
                  clear hbd HBd HGd HA hat hin hr hxy hp hpq i4
                  generalize U.getD q 0 = x at *
                  go_wp2_with fail
                  go_quiet (first | (go_at_call 24; exact Calls.quiet_of_same (hin2 _)))
                  go_wp2_with fail
                  go_ret
                  exact HBR.out _ (below_drewN hBW _)
                · have hk2 := HGd.out hr.1 hr.2 (fun _ h => hxy h.symm)
                  have HK3 : Hid (KeysTo U (q + 1)) := hk2
                  clear hk2 HBd HGd HA hat hin hr hp hpq i4
                  generalize U.getD q 0 = x at *
                  generalize U.getD p 0 = y at *
                  go_wp2_with fail
                  go_quiet (first | (go_at_call 24; exact Calls.quiet_of_same (hin2 _)))
                  go_wp2_with fail
                  go_roundw
                  case rel => exact ⟨q + 1, by omega, by go_num, HK3, below_drewN hB3 _⟩
                  case measure => simp [intOf]; omega
            · have hbd := HBd.out (fun h => hr h.1)
              have HBR : Hid (∀ w1, Below W0.heap.size W0 w1 → Ending.returned (.int .i64 9) = .returned (.int .i64 (sC lo rs)) ∧ Below w.heap.size w w1) := hbd
              have hin2 : ∀ w1, Calls Try.prog 24 #[.int .i64 (U.getD q 0), .int .i64 0, .int .i64 2147483647] w1 fun e w' => e = .returned (.bool false) ∧ w' = w1 := fun w1 => (hin w1).mono fun e w' ⟨h1, h2⟩ => ⟨by rw [h1]; congr 2; simp only [Bool.and_eq_false_iff, decide_eq_false_iff_not]; omega, h2⟩
              clear hbd HBd HGd HA hat hin hr
              generalize U.getD q 0 = x at *
              go_wp2_with fail
              go_quiet (first | (go_at_call 24; exact Calls.quiet_of_same (hin2 _)))
              go_wp2_with fail
              go_ret
              exact HBR.out _ (below_drewN hBW _)
          · obtain rfl : q = un := by omega
            have hmay := HDone.out HA.out
            have HG : Hid (∀ w1, Below W0.heap.size W0 w1 → Ending.returned (.int .i64 0) = .returned (.int .i64 (sC lo rs)) ∧ Below w.heap.size w w1) := fun w1 h => HGood.out w1 h hmay
            clear hmay HA
            go_wp2_with fail
            go_ret
            exact HG.out _ hBW
  · have HMa : Hid (¬ May lo rs) := fun h => h8 (by rw [← HM.out]; exact h.size.loose)
    have h8i : (7 : Int) < (m : Int) := by omega
    obtain ⟨a0, a1⟩ := HC.out W0 HB0.out
    go_enter Try.func9, Try.ntmps9
    go_wp2_with fail
    rw [← hW0]
    clear hW0
    go_wp2_with fail
    go_ret
    exact HBad.out W0 HB0.out HMa.out
end Go.Proofs.Ytjapkkdbmpcoeaa
