/-
  merged: two rising lists become a new one.
-/
import Derived.Test.YtncfkpfbjenpjaaUApp
namespace Go.Proofs.Ytncfkpfbjenpjaa
open Go.ChangeShapes Go.WideShapes Go.ChangeAt Go.RowKit Go.Deep

/-- how far two lists have become one. -/
def MgAt (w wr : World) (a b : List Int) (u : Value) (i j : Nat) : Prop := ∃ al : List Int, al ++ mg (a.drop i) (b.drop j) = mg a b ∧ al.length = i + j ∧ OwnI wr w.heap.size u al ∧ Below w.heap.size w wr

set_option maxHeartbeats 1600000 in
set_option maxRecDepth 20000 in
/-- THE CONTRACT OF merged. -/
theorem merged_any (va vb : Value) (a b : List Int) (w : World) (ha : a.length ≤ 100000) (hb : b.length ≤ 100000) (hA : IntsV w va a) (hB : IntsV w vb b) :
    Calls Try.prog 40 #[va, vb] w fun e w' => ∃ ao cap, e = .returned (.slice ao (mg a b).length cap) ∧ Below w.heap.size w w' ∧ Hid (OwnI w' w.heap.size (.slice ao (mg a b).length cap) (mg a b)) := by
  obtain ⟨ao, ac, rfl⟩ := hA.shape
  obtain ⟨bo, bc, rfl⟩ := hB.shape
  obtain ⟨i0, hi, hz0, hz1, hz2⟩ := info_parts infoInt
  obtain ⟨an, han⟩ : ∃ an, a.length = an := ⟨_, rfl⟩
  obtain ⟨bn, hbn⟩ : ∃ bn, b.length = bn := ⟨_, rfl⟩
  have HA : Hid (IntsV w (.slice ao a.length ac) a) := hA
  have HB : Hid (IntsV w (.slice bo b.length bc) b) := hB
  have HAn : Hid (a.length = an) := han
  have HBn : Hid (b.length = bn) := hbn
  rw [han] at ha HA ⊢
  rw [hbn] at hb HB ⊢
  clear hA hB han hbn
  have hmk : ∀ w1 : World, (Instr.makeSlice 22 (.int .i64 0) (.int .i64 ((an : Int) + (bn : Int)))).run Try.prog w1 = .ok (.slice (some ⟨w1.heap.size, 0, none⟩) 0 (an + bn)) (w1.alloc (.cells (madeCells #[.int .i64 0] (an + bn)) 3)) := fun w1 => by
    have := run_make (P := Try.prog) w1 22 3 i0 (.int .i64 0) Try.underlying22 hi hz0 .i64 .i64 0 ((an : Int) + (bn : Int)) (Int.le_refl _) (by omega) (by rw [hz2]; omega) (by omega)
    have e : ((an : Int) + (bn : Int)).toNat = an + bn := by omega
    rw [e] at this
    simpa [hz1, Value.cells] using this
  have hO0 : (w.alloc (.cells (madeCells #[.int .i64 0] (an + bn)) 3)).ownsRow w.heap.size 3 1 (.slice (some ⟨w.heap.size, 0, none⟩) 0 (an + bn)) 0 [] := World.ownsRow_made w _ (an + bn) (Nat.le_refl _) (by unfold maxLen; omega) (by simp [size_madeCells])
  have HM0 : Hid (MgAt w (w.alloc (.cells (madeCells #[.int .i64 0] (an + bn)) 3)) a b (.slice (some ⟨w.heap.size, 0, none⟩) 0 (an + bn)) 0 0) := ⟨[], by simp, rfl, hO0, (Below.refl _ _).alloc (Nat.le_refl _) _⟩
  clear hO0
  go_enter Try.func40, Try.ntmps40
  go_wp2
  go_loopw [5, 6, 7] (fun u i j wr => ∃ ki kj : Nat, ki ≤ an ∧ kj ≤ bn ∧ i = .int .i64 ki ∧ j = .int .i64 kj ∧ Hid (MgAt w wr a b u ki kj)) (fun _ i j _ => an + bn - (intOf i).toNat - (intOf j).toNat)
  case atStart => exact ⟨0, 0, Nat.zero_le _, Nat.zero_le _, rfl, rfl, HM0⟩
  case round =>
    obtain ⟨ki, kj, hki, hkj, rfl, rfl, HM⟩ := hrel
    obtain ⟨al, hal, hall, hown, hbel⟩ := HM.out
    obtain ⟨uo, uc, rfl⟩ := owns_slice hown
    by_cases hia : ki < an
    · by_cases hjb : kj < bn
      · obtain ⟨b1, off1, rfl, hb1, hc1, hat1⟩ := HA.out.at (i := ki) (by rw [HAn.out]; exact hia)
        obtain ⟨b2, off2, rfl, hb2, hc2, hat2⟩ := HB.out.at (i := kj) (by rw [HBn.out]; exact hjb)
        have c1 := (hbel.cell (p := ⟨b1, off1 + ki, none⟩) hb1).trans (hat1 ki (by rw [HAn.out]; exact hia))
        have c2 := (hbel.cell (p := ⟨b2, off2 + kj, none⟩) hb2).trans (hat2 kj (by rw [HBn.out]; exact hjb))
        obtain ⟨hs1, hs2⟩ := mg_step (by rw [HAn.out]; exact hia) (by rw [HBn.out]; exact hjb) hal
        have HS1 : Hid (a.getD ki 0 < b.getD kj 0 → (al ++ [a.getD ki 0]) ++ mg (a.drop (ki + 1)) (b.drop kj) = mg a b) := hs1
        have HS2 : Hid (¬ a.getD ki 0 < b.getD kj 0 → (al ++ [b.getD kj 0]) ++ mg (a.drop ki) (b.drop (kj + 1)) = mg a b) := hs2
        have HN : Hid (al.length = ki + kj) := hall
        have HSn : Hid (∀ (w4 : World) (v' : Value) (x : Int), w4.ownsRow w.heap.size 3 1 v' (ki + kj + 1) (ivals al ++ [.int .i64 x]) → OwnI w4 w.heap.size v' (al ++ [x])) := fun w4 v' x h => OwnI.snoc (by rw [hall]; exact h)
        have hown1 : wr.ownsRow w.heap.size 3 1 (.slice uo (ki + kj) uc) (ki + kj) (ivals al) := by unfold OwnI at hown; rw [hall] at hown; exact hown
        have HD : Hid (∀ nq, (wr.drewN nq).ownsRow w.heap.size 3 1 (.slice uo (ki + kj) uc) (ki + kj) (ivals al) ∧ Below w.heap.size w (wr.drewN nq) ∧ w.heap.size ≤ (wr.drewN nq).heap.size) := fun nq => ⟨owns_later hown1 (below_drewN (Below.refl wr.heap.size wr) nq) (Nat.le_refl _), below_drewN hbel nq, (below_drewN hbel nq).size⟩
        clear hown1
        rw [hall]
        clear hs1 hs2 hat1 hat2 hal hall HM hown
        generalize a.getD ki 0 = x at *
        generalize b.getD kj 0 = y at *
        have hlen : ki + kj + 1 ≤ maxLen := by unfold maxLen; omega
        have hlen2 : (ki + kj + 1) * 8 ≤ 140737488355328 := by omega
        by_cases hxy : x < y
        · have hm := HS1.out hxy
          have HMm : Hid ((al ++ [x]) ++ mg (a.drop (ki + 1)) (b.drop kj) = mg a b) := hm
          clear hm HS1 HS2
          go_wp2_with fail
          go_quiet (fail)
          obtain ⟨hown2, hbd, hsz⟩ := HD.out nq
          go_wp2_with (at_builtin; refine wpList_append_own _ rfl _ _ 22 rfl w.heap.size 3 i0 (.int .i64 0) 1 8 Try.underlying22 hi hz0 hz1 hz2 rfl (by decide) (.slice uo (ki + kj) uc) (ki + kj) (ivals al) rfl (hown2.alloc _) ⟨wr.heap.size, 0, none⟩ 1 1 [.int .i64 x] rfl rfl (one_cell _ _ _) (by simp [Value.oneCell']) hlen hlen2 (Nat.le_trans hsz (by simp)) ?_; intro v' w4 hown' hgrow _; have hb4 : Below w.heap.size w w4 := (hbd.alloc hbd.size _).grown hgrow (Nat.le_trans hsz (by simp)) (fun q hq => (hown2.lt q hq).1); have HO4 := HSn.out w4 v' x hown'; clear hgrow hown')
          go_roundw
          case rel => exact ⟨ki + 1, kj, by omega, by omega, by go_num, rfl, al ++ [x], HMm.out, by rw [List.length_append, HN.out]; simp; omega, HO4, hb4⟩
          case measure => simp [intOf]; omega
        · have hm := HS2.out hxy
          have HMm : Hid ((al ++ [y]) ++ mg (a.drop ki) (b.drop (kj + 1)) = mg a b) := hm
          clear hm HS1 HS2
          go_wp2_with fail
          go_quiet (fail)
          obtain ⟨hown2, hbd, hsz⟩ := HD.out nq
          go_wp2_with (at_builtin; refine wpList_append_own _ rfl _ _ 22 rfl w.heap.size 3 i0 (.int .i64 0) 1 8 Try.underlying22 hi hz0 hz1 hz2 rfl (by decide) (.slice uo (ki + kj) uc) (ki + kj) (ivals al) rfl (hown2.alloc _) ⟨wr.heap.size, 0, none⟩ 1 1 [.int .i64 y] rfl rfl (one_cell _ _ _) (by simp [Value.oneCell']) hlen hlen2 (Nat.le_trans hsz (by simp)) ?_; intro v' w4 hown' hgrow _; have hb4 : Below w.heap.size w w4 := (hbd.alloc hbd.size _).grown hgrow (Nat.le_trans hsz (by simp)) (fun q hq => (hown2.lt q hq).1); have HO4 := HSn.out w4 v' y hown'; clear hgrow hown')
          go_roundw
          case rel => exact ⟨ki, kj + 1, by omega, by omega, rfl, by go_num, al ++ [y], HMm.out, by rw [List.length_append, HN.out]; simp; omega, HO4, hb4⟩
          case measure => simp [intOf]; omega
      · have hjb' : kj = bn := by omega
        have hfin : mg a b = al ++ a.drop ki ++ b.drop kj := by rw [← hal]; rw [show b.drop kj = [] from List.drop_eq_nil_of_le (by rw [HBn.out]; omega), mg_nil, List.append_nil]
        obtain ⟨so1, sc1, hsl1, hV1⟩ := slice_i HA.out (k := ki) (by omega)
        obtain ⟨so2, sc2, hsl2, hV2⟩ := slice_i HB.out (k := kj) (by omega)
        have HV1 : Hid (∀ w1, Below w.heap.size w w1 → IntsV w1 (.slice so1 (an - ki) sc1) (a.drop ki)) := fun w1 h => hV1.below h
        have HV2 : Hid (∀ w1, Below w.heap.size w w1 → IntsV w1 (.slice so2 (bn - kj) sc2) (b.drop kj)) := fun w1 h => hV2.below h
        have hown1 : wr.drew.ownsRow w.heap.size 3 1 (.slice uo (ki + kj) uc) (ki + kj) (ivals al) := by unfold OwnI at hown; rw [hall] at hown; exact hown.drew
        have hbd : Below w.heap.size w wr.drew := hbel.drew
        have HF : Hid (∀ (w' : World) (v : Value), w'.ownsRow w.heap.size 3 1 v (ki + kj + (an - ki) + (bn - kj)) (ivals al ++ ivals (a.drop ki) ++ ivals (b.drop kj)) → OwnI w' w.heap.size v (mg a b) ∧ (mg a b).length = ki + kj + (an - ki) + (bn - kj)) := fun w' v h => by
          have e : (mg a b).length = ki + kj + (an - ki) + (bn - kj) := by rw [hfin, List.length_append, List.length_append, List.length_drop, List.length_drop, hall, HAn.out, HBn.out]
          refine ⟨?_, e⟩
          unfold OwnI
          rw [e, hfin, ivals_append, ivals_append]
          exact h
        obtain ⟨p1, hp1⟩ : ∃ p1, an - ki = p1 := ⟨_, rfl⟩
        obtain ⟨p2, hp2⟩ : ∃ p2, bn - kj = p2 := ⟨_, rfl⟩
        have hq1 : p1 ≤ 100000 := by omega
        have hq2 : p2 ≤ 100000 := by omega
        obtain ⟨kk, hkk⟩ : ∃ kk, ki + kj = kk := ⟨_, rfl⟩
        have hq3 : kk ≤ 200000 := by omega
        rw [hp1] at hsl1 HV1 HF
        rw [hp2] at hsl2 HV2 HF
        rw [hkk] at hown1 HF
        rw [hall, hkk]
        clear hV1 hV2 hfin hal hown HM hp1 hp2 hall hkk
        go_wp2_with fail
        clear hia hjb hjb' hki hkj ha hb
        go_region_held3 (fun _ => True) (trivial)
          (first
            | (refine step_append_i (by rfl) (.tmp 51) (.tmp 54) (by rfl) w.heap.size kk uc uo (ivals al) (by rfl) hown1 so1 p1 sc1 (a.drop ki) (by rfl) (HV1.out _ hbd) (by omega) hbd.size ?_; intro vo1 cap1 w3 hown3 hg3; have hb3 := hbd.grown hg3 hbd.size (fun q hq => (hown1.lt q hq).1))
            | (refine step_append_i (by rfl) (.tmp 55) (.tmp 58) (by rfl) w.heap.size (kk + p1) cap1 vo1 (ivals al ++ ivals (a.drop ki)) (by rfl) hown3 so2 p2 sc2 (b.drop kj) (by rfl) (HV2.out _ hb3) (by omega) hb3.size ?_; intro vo2 cap2 w4 hown4 hg4; have hb4 := hb3.grown hg4 hb3.size (fun q hq => (hown3.lt q hq).1)))
        obtain ⟨hO4, hL4⟩ := HF.out _ _ hown4
        go_wp2_with fail
        go_ret
        exact ⟨vo2, cap2, by rw [hL4]; rfl, hb4, by rw [hL4]; exact hO4⟩
    · have hia' : ki = an := by omega
      have hfin : mg a b = al ++ a.drop ki ++ b.drop kj := by rw [← hal]; rw [show a.drop ki = [] from List.drop_eq_nil_of_le (by rw [HAn.out]; omega), mg_nil', List.append_nil]
      obtain ⟨so1, sc1, hsl1, hV1⟩ := slice_i HA.out (k := ki) (by omega)
      obtain ⟨so2, sc2, hsl2, hV2⟩ := slice_i HB.out (k := kj) (by omega)
      have HV1 : Hid (∀ w1, Below w.heap.size w w1 → IntsV w1 (.slice so1 (an - ki) sc1) (a.drop ki)) := fun w1 h => hV1.below h
      have HV2 : Hid (∀ w1, Below w.heap.size w w1 → IntsV w1 (.slice so2 (bn - kj) sc2) (b.drop kj)) := fun w1 h => hV2.below h
      have hown1 : wr.drew.ownsRow w.heap.size 3 1 (.slice uo (ki + kj) uc) (ki + kj) (ivals al) := by unfold OwnI at hown; rw [hall] at hown; exact hown.drew
      have hbd : Below w.heap.size w wr.drew := hbel.drew
      have HF : Hid (∀ (w' : World) (v : Value), w'.ownsRow w.heap.size 3 1 v (ki + kj + (an - ki) + (bn - kj)) (ivals al ++ ivals (a.drop ki) ++ ivals (b.drop kj)) → OwnI w' w.heap.size v (mg a b) ∧ (mg a b).length = ki + kj + (an - ki) + (bn - kj)) := fun w' v h => by
        have e : (mg a b).length = ki + kj + (an - ki) + (bn - kj) := by rw [hfin, List.length_append, List.length_append, List.length_drop, List.length_drop, hall, HAn.out, HBn.out]
        refine ⟨?_, e⟩
        unfold OwnI
        rw [e, hfin, ivals_append, ivals_append]
        exact h
      obtain ⟨p1, hp1⟩ : ∃ p1, an - ki = p1 := ⟨_, rfl⟩
      obtain ⟨p2, hp2⟩ : ∃ p2, bn - kj = p2 := ⟨_, rfl⟩
      have hq1 : p1 ≤ 100000 := by omega
      have hq2 : p2 ≤ 100000 := by omega
      obtain ⟨kk, hkk⟩ : ∃ kk, ki + kj = kk := ⟨_, rfl⟩
      have hq3 : kk ≤ 200000 := by omega
      rw [hp1] at hsl1 HV1 HF
      rw [hp2] at hsl2 HV2 HF
      rw [hkk] at hown1 HF
      rw [hall, hkk]
      clear hV1 hV2 hfin hal hown HM hp1 hp2 hall hkk
      go_wp2_with fail
      clear hia hia' hki hkj ha hb
      go_region_held3 (fun _ => True) (trivial)
        (first
          | (refine step_append_i (by rfl) (.tmp 51) (.tmp 54) (by rfl) w.heap.size kk uc uo (ivals al) (by rfl) hown1 so1 p1 sc1 (a.drop ki) (by rfl) (HV1.out _ hbd) (by omega) hbd.size ?_; intro vo1 cap1 w3 hown3 hg3; have hb3 := hbd.grown hg3 hbd.size (fun q hq => (hown1.lt q hq).1))
          | (refine step_append_i (by rfl) (.tmp 55) (.tmp 58) (by rfl) w.heap.size (kk + p1) cap1 vo1 (ivals al ++ ivals (a.drop ki)) (by rfl) hown3 so2 p2 sc2 (b.drop kj) (by rfl) (HV2.out _ hb3) (by omega) hb3.size ?_; intro vo2 cap2 w4 hown4 hg4; have hb4 := hb3.grown hg4 hb3.size (fun q hq => (hown3.lt q hq).1)))
      obtain ⟨hO4, hL4⟩ := HF.out _ _ hown4
      go_wp2_with fail
      go_ret
      exact ⟨vo2, cap2, by rw [hL4]; rfl, hb4, by rw [hL4]; exact hO4⟩
end Go.Proofs.Ytncfkpfbjenpjaa
