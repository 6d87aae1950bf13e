/-
  Proved: foretellkeep.TapeKeeps answers true at every two lists of lists of numbers, every number and every list of numbers (what was synced is read behind every crash; of what was not the first whole records, perhaps; and more can be written). No condition.
-/
import Derived.Test.YtjnobdpjohbdnaaTMem
import Derived.Test.YtjnobdpjohbdnaaTKp0
namespace Go.Proofs.Ytjnobdpjohbdnaa
open Go.ChangeShapes Go.WideShapes Go.ChangeAt Go.RowKit Go.Deep

set_option maxHeartbeats 3200000 in
set_option maxRecDepth 20000 in
theorem tapeKeeps_walk (v : Value) (ls : List (List Int)) (mv : Value) (hs : List (List Int)) (x : Int) (fv : Value) (fl : List Int) (w : World) (hx : I64 x) (hz : ls.length * 24 ≤ 140737488355328) (hzm : hs.length * 24 ≤ 140737488355328) (hV : ListsR w v ls) (hM : ListsR w mv hs) (hF : IntsR w fv fl) :
    Calls Try.prog 5 #[v, mv, .int .i64 x, fv] w fun e w' => e = .returned (.bool true) ∧ Below w.heap.size w w' := by
  obtain ⟨ao, cap, rfl⟩ : ∃ ao cap, v = .slice ao ls.length cap := by obtain ⟨_, a, c, h, _⟩ := id hV; exact ⟨a, c, h⟩
  obtain ⟨mo, mcap, rfl⟩ : ∃ mo mcap, mv = .slice mo hs.length mcap := by obtain ⟨_, a, c, h, _⟩ := id hM; exact ⟨a, c, h⟩
  obtain ⟨fo, fcap, rfl⟩ : ∃ fo fcap, fv = .slice fo fl.length fcap := by obtain ⟨a, c, h, _⟩ := hF.v; exact ⟨a, c, h⟩
  have htp := taped_any _ ls w hz hV
  obtain ⟨rs, hrs⟩ : ∃ rs, rsN ls = rs := ⟨_, rfl⟩
  obtain ⟨ms, hms⟩ : ∃ ms, msN hs = ms := ⟨_, rfl⟩
  have hrs1 : ∀ l ∈ rs, l.length ≤ 12 ∧ wrC l = 0 := fun l hl => rsN_small ls l (by rw [hrs]; exact hl)
  have hms1 : ∀ l ∈ ms, l.length ≤ 12 ∧ wrC l = 0 := fun l hl => msN_small hs l (by rw [hms]; exact hl)
  have hrl : rs.length ≤ 10 := by rw [← hrs, rsN_length]; omega
  have hml : ms.length = min 8 hs.length := by rw [← hms, msN_length]
  have hok : ∀ l ∈ rs ++ ms, wrC l = 0 := fun l hl => by
    rcases List.mem_append.1 hl with h | h
    · exact (hrs1 l h).2
    · exact (hms1 l h).2
  have HLe : Hid (∀ k, (bysN (rs ++ ms.take k)).length ≤ 1008 ∧ (bysN rs).length ≤ (bysN (rs ++ ms.take k)).length) := fun k => by
    have h1 := bysN_le (rs ++ ms.take k) (fun l hl => by
      rcases List.mem_append.1 hl with h | h
      · exact (hrs1 l h).1
      · exact (hms1 l (List.mem_of_mem_take h)).1)
    have h2 : (rs ++ ms.take k).length ≤ 18 := by rw [List.length_append, List.length_take]; omega
    rw [bysN_append, List.length_append] at h1 ⊢
    omega
  rw [show TpPost w ls = fun e w' => ∃ ta tc a c, e = .returned (.tuple #[.agg #[.slice ta (bysN (rsN ls)).length tc, .int .i64 0], .slice a (rsN ls).length c, .bool true]) ∧ Below w.heap.size w w' ∧ Hid (w'.ownsRow w.heap.size 5 1 (.slice ta (bysN (rsN ls)).length tc) (bysN (rsN ls)).length (bvals (bysN (rsN ls))) ∧ LisO w' w.heap.size (.slice a (rsN ls).length c) (rsN ls)) from rfl, hrs] at htp
  obtain ⟨s0, hs0⟩ : ∃ s0, (bysN rs).length = s0 := ⟨_, rfl⟩
  have HSy : Hid (∀ (ta : Option Addr) (tc : Nat) (w1 : World), BytesV w1 (.slice ta s0 tc) (bysN rs) → Calls Try.prog 15 #[.agg #[.slice ta s0 tc, .int .i64 0]] w1 fun e w' => ∃ xo xc, e = .returned (.tuple #[.agg #[.slice xo s0 xc, .int .i64 s0], .int .i64 0]) ∧ Below w1.heap.size w1 w' ∧ Hid (w'.ownsRow w1.heap.size 5 1 (.slice xo s0 xc) s0 (bvals (bysN rs)))) := fun ta tc w1 h => by
    have := sync_ok ta tc (bysN rs) 0 w1 (by have := (HLe.out 0).2; have := (HLe.out 0).1; simp [mayB]; omega) (by rw [hs0]; exact h)
    rw [hs0] at this
    refine this.mono fun e w' ⟨xo, xc, h1, h2, h3⟩ => ?_
    rw [hs0] at h1 h3
    exact ⟨xo, xc, h1, h2, h3⟩
  have HRe : Hid (∀ (v : Value) (l : List Int) (w1 : World), IntsR w1 v l → Calls Try.prog 16 #[v] w1 fun e w' => ∃ ao cap, e = .returned (.slice ao (recN l).length cap) ∧ Below w1.heap.size w1 w' ∧ Hid (w'.ownsRow w1.heap.size 3 1 (.slice ao (recN l).length cap) (recN l).length (ivals (recN l)))) := fun v l w1 h => record_any v l w1 h
  have HMv : Hid (∀ w1, Below w.heap.size w w1 → ListsR w1 (.slice mo hs.length mcap) hs) := fun w1 hb => hM.below hb
  have HBy0 : Hid (∀ (w1 : World) (b : Nat) (v : Value), w1.ownsRow b 5 1 v s0 (bvals (bysN rs)) → BytesV w1 v (bysN rs)) := fun w1 b v h => bytesV_of_owns (by rw [hs0]; exact h)
  obtain ⟨i0, hi, hz0, hz1, hz2⟩ := info_parts infoInts
  rw [hs0] at htp
  obtain ⟨n, hn⟩ : ∃ n, hs.length = n := ⟨_, rfl⟩
  have HN : Hid (hs.length = n) := hn
  rw [hn] at hzm HMv hml ⊢
  generalize hrn : rs.length = rn at *
  have HRn : Hid (rs.length = rn) := hrn
  clear hn hV hM hrn
  go_enter Try.func5, Try.ntmps5
  go_wp2_with (first | (go_at_call 12; refine htp.mono ?_; rintro e w1 ⟨ta, tc, a, c, rfl, hb1, HO1⟩; have hTY := TY.new w1 (.slice ta s0 tc) (.int .i64 0); have hbn : Below w1.heap.size w1 (w1.alloc (.cells #[.slice ta s0 tc, .int .i64 0] 29)) := ((Below.refl _ _).alloc (Nat.le_refl _) _); have hsy := HSy.out ta tc _ ((HBy0.out _ _ _ HO1.out.1).below hbn); have hb1n := hb1.trans (hbn.mono hb1.size)) | (go_at_call 15; refine hsy.mono ?_; rintro e w2 ⟨ta2, tc2, rfl, hb2, HO2⟩; have hT2 := hTY.later hb2 hTY.1.lt; have hB2 := hb1n.trans (hb2.mono hb1n.size); obtain ⟨⟨_, p0, p1, f0, f1⟩, _⟩ := id hT2))
  have hTl := hb1.size
  have hT3 := hT2.set (.slice ta2 s0 tc2) (.int .i64 s0)
  have hO3 := owns_set2 (owns_mono HO2.out hb1n.size) hT2 (by decide) (.slice ta2 s0 tc2) (.int .i64 s0)
  have hL3 := (((HO1.out.2.later hbn (Nat.le_refl _)).later hb2 (Nat.le_refl _)).set2 hT2 (.slice ta2 s0 tc2) (.int .i64 s0))
  have hB3 := (hB2.setCell (p := ⟨w1.heap.size, 0, none⟩) hTl (.slice ta2 s0 tc2)).setCell (p := ⟨w1.heap.size, 1, none⟩) hTl (.int .i64 s0)
  obtain ⟨T, hTd⟩ : ∃ T, w1.heap.size = T := ⟨_, rfl⟩
  rw [hTd] at hT3 hO3 hL3 hB3 hTl p0 p1 f0 f1 ⊢
  clear hT2 hTY hTd hsy hbn htp HSy HO2 hb2 hb1n hB2
  go_loopw [13, 14] (fun u i wr => ∃ k : Nat, k ≤ n ∧ k ≤ 8 ∧ i = .int .i64 k ∧ (∃ a c, u = .slice a (rn + k) c ∧ Hid (LisO wr w.heap.size (.slice a (rn + k) c) (rs ++ ms.take k))) ∧ Below w.heap.size w wr ∧ (∃ ta tc tn, Hid (tn = (bysN (rs ++ ms.take k)).length) ∧ TY wr T (.slice ta tn tc) (.int .i64 s0) ∧ Hid (wr.ownsRow w.heap.size 5 1 (.slice ta tn tc) tn (bvals (bysN (rs ++ ms.take k)))))) (fun _ i _ => 8 - (intOf i).toNat)
  case atStart => exact ⟨0, Nat.zero_le _, Nat.zero_le _, rfl, ⟨a, c, rfl, by rw [List.take_zero, List.append_nil]; exact hL3⟩, hB3, ta2, tc2, s0, by rw [List.take_zero, List.append_nil]; exact hs0.symm, hT3, by rw [List.take_zero, List.append_nil]; exact hO3⟩
  case round =>
    obtain ⟨k, hk, hk8, rfl, ⟨a4, c4, rfl, HL⟩, hB, ta, tc, tn, HTn, hT, HTo⟩ := hrel
    by_cases hin : k < n ∧ k < 8
    · obtain ⟨hlt, hlt8⟩ := hin
      · have hlt2 : k < hs.length := by rw [HN.out]; exact hlt
        obtain ⟨b, off, rfl, hbl, uo, uc, cc1, hu⟩ := (HMv.out wr hB).at hlt2
        have hre := HRe.out _ (hs.getD k []) wr hu
        have hTk := msN_take hlt2 hlt8
        rw [hms] at hTk
        obtain ⟨r, hr⟩ : ∃ r, recN (hs.getD k []) = r := ⟨_, rfl⟩
        obtain ⟨hr1, hr2, hr3⟩ := recN_ok (hs.getD k [])
        rw [hr] at hre hTk hr1 hr2 hr3
        obtain ⟨hd1, hd2⟩ := HLe.out k
        have hTk2 : rs ++ ms.take (k + 1) = (rs ++ ms.take k) ++ [r] := by rw [hTk, List.append_assoc]
        have HTk2 : Hid (rs ++ ms.take (k + 1) = (rs ++ ms.take k) ++ [r]) := hTk2
        have HWr : Hid (∀ (xo : Option Addr) (xc : Nat) (w2 : World), Below wr.heap.size wr w2 → IntsV w2 (.slice xo r.length xc) r → Calls Try.prog 17 #[.agg #[.slice ta tn tc, .int .i64 s0], .slice xo r.length xc] w2 fun e w' => ∃ ya yc, e = .returned (.tuple #[.agg #[.slice ya (tn + (4 * r.length + 8)) yc, .int .i64 s0], .int .i64 0]) ∧ Below w2.heap.size w2 w' ∧ Hid (w'.ownsRow w2.heap.size 5 1 (.slice ya (tn + (4 * r.length + 8)) yc) (tn + (4 * r.length + 8)) (bvals (bysN (rs ++ ms.take (k + 1)))))) := fun xo xc w2 hb hv => by
          have hbv : BytesV w2 (.slice ta tn tc) (bysN (rs ++ ms.take k)) := bytesV_of_owns (l := bysN (rs ++ ms.take k)) (by rw [← HTn.out]; exact owns_later HTo.out hb (Nat.le_refl _))
          have htn := HTn.out
          rw [htn] at hbv ⊢
          have := write_ok ta tc (bysN (rs ++ ms.take k)) s0 (.slice xo r.length xc) r w2 hbv hv (by simp [mayB]; omega) (by omega) hr1 (by omega)
          rw [hTk2, bysN_snoc]
          refine this.mono fun e w' ⟨ya, yc, h1, h2, h3⟩ => ?_
          have hle : (bysN (rs ++ ms.take k) ++ recB r).length = (bysN (rs ++ ms.take k)).length + (4 * r.length + 8) := by rw [List.length_append, recB_length]
          rw [hle] at h1 h3
          exact ⟨ya, yc, h1, h2, h3⟩
        have HIv : Hid (∀ (w1 : World) (b : Nat) (v : Value), w1.ownsRow b 3 1 v r.length (ivals r) → IntsV w1 v r) := fun w1 b v h => intsV_of_owns h
        have HTn' : Hid (tn + (4 * r.length + 8) = (bysN (rs ++ ms.take (k + 1))).length) := by show _ = _; rw [hTk2, bysN_snoc, List.length_append, recB_length, HTn.out]
        have hLk : (rs ++ ms.take k).length = rn + k := by rw [List.length_append, HRn.out, List.length_take]; omega
        have HUs : Hid (∃ us, wr.ownsRow w.heap.size 37 1 (.slice a4 (rn + k) c4) (rn + k) us ∧ us.length = rn + k ∧ ∀ i, i < rn + k → wr.ownsRow w.heap.size 3 1 (us.getD i nilV) ((rs ++ ms.take k).getD i []).length (ivals ((rs ++ ms.take k).getD i []))) := by
          obtain ⟨us, h1, h2, h3⟩ := HL.out
          exact ⟨us, by rw [hLk] at h1; exact h1, by omega, fun i hi => h3 i (by omega)⟩
        obtain ⟨us, hu1, hu2, hu3⟩ := HUs.out
        have HU : Hid (wr.ownsRow w.heap.size 37 1 (.slice a4 (rn + k) c4) (rn + k) us ∧ us.length = rn + k ∧ ∀ i, i < rn + k → wr.ownsRow w.heap.size 3 1 (us.getD i nilV) ((rs ++ ms.take k).getD i []).length (ivals ((rs ++ ms.take k).getD i []))) := ⟨hu1, hu2, hu3⟩
        have HUone : Hid (∀ u ∈ us, u.oneCell' = true) := fun u hu => by
          obtain ⟨i, hi2, rfl⟩ := List.getElem_of_mem hu
          obtain ⟨xo, xc, e⟩ := owns_slice (hu3 i (by omega))
          have : us.getD i nilV = us[i] := by simp [List.getD_eq_getElem?_getD, hi2]
          rw [← this, e]
          rfl
        have HUl : Hid (us.length = (rn + k) * 1) := by show _ = _; omega
        obtain ⟨_, hno4⟩ := owns_room hu1
        have hno : a4 = none → c4 = 0 ∧ rn + k = 0 := fun h => ⟨hno4 h, by have := (owns_room hu1).1; have := hno4 h; omega⟩
        have HLS : Hid (∀ (X w5 : World) (v5 u v' : Value), X.ownsRow w.heap.size 37 1 v5 (rn + k) us → (∀ i, i < rn + k → X.ownsRow w.heap.size 3 1 (us.getD i nilV) ((rs ++ ms.take k).getD i []).length (ivals ((rs ++ ms.take k).getD i []))) → X.ownsRow w.heap.size 3 1 u r.length (ivals r) → (X.alloc (.cells #[u] 37)).grownBy w5 v5.ownBlock → w5.ownsRow w.heap.size 37 1 v' (rn + k + 1) (us ++ [u]) → LisO w5 w.heap.size v' (rs ++ ms.take (k + 1))) := fun X w5 v5 u v' h1 h3 h4 hg ho => by
          rw [HTk2.out]
          exact LisO.snoc (w := X.alloc (.cells #[u] 37)) (v := v5) (by rw [hLk]; exact h1.alloc _) (by rw [hLk]; exact HU.out.2.1) (fun i hi => (h3 i (by omega)).alloc _) (h4.alloc _) (by rw [hLk]; exact ho) hg
        have htl : tn ≤ 1008 := by have := HTn.out; omega
        obtain ⟨y, hy⟩ : ∃ y, tn + (4 * r.length + 8) = y := ⟨_, rfl⟩
        rw [hy] at HWr HTn'
        have hrl2 : rn ≤ 10 := hrl
        clear hTk hTk2 hr hr1 hr2 hr3 hd1 hd2 hu1 hu2 hu3 HUs HL hu hy hno4 hLk
        generalize (hs.getD k []).length = ul at *
        generalize r.length = rl at *
        obtain ⟨⟨hTlt, t0, t1, tf0, tf1⟩, _⟩ := id hT
        have c1 := True.intro
        have c2 := True.intro
        go_wp2_with (first
          | (go_at_call 16; refine hre.mono ?_; rintro e w2 ⟨xo, xc, rfl, hb2, hO2⟩; have hT2 := hT.later hb2 hTlt; have hB2 := hB.trans (hb2.mono hB.size); have hs2 := hb2.size; have hwr := HWr.out xo xc w2 hb2 (HIv.out _ _ _ hO2.out); obtain ⟨⟨_, p0, p1, pf0, pf1⟩, _⟩ := id hT2)
          | (go_at_call 17; refine hwr.mono ?_; rintro e w3 ⟨ya, yc, rfl, hb3, hO3'⟩; have hT3' := hT2.later hb3 hT2.1.lt; have hB3' := hB2.trans (hb3.mono hB2.size); have hs3 := hb3.size; have hbn3 : Below w3.heap.size w3 (w3.alloc (.cells #[.slice ya y yc, .int .i64 s0] 29)) := (Below.refl _ _).alloc (Nat.le_refl _) _; have hT4 := hT3'.later hbn3 hT3'.1.lt; obtain ⟨⟨_, q0, q1, g0, g1⟩, _⟩ := id hT4; obtain ⟨⟨_, m0, m1, n0, n1⟩, _⟩ := id hT3'; have hb23 := hb2.trans (hb3.mono hb2.size); have hXrow : (((w3.setCell ⟨T, 0, none⟩ (.slice ya y yc)).setCell ⟨T, 1, none⟩ (.int .i64 s0)).alloc (.cells #[.slice ya y yc, .int .i64 s0] 29)).ownsRow w.heap.size 37 1 (.slice a4 (rn + k) c4) (rn + k) us := (owns_set2 (owns_later HU.out.1 hb23 (Nat.le_refl _)) hT3' (by decide) _ _).alloc _; have hXb : w.heap.size ≤ (((w3.setCell ⟨T, 0, none⟩ (.slice ya y yc)).setCell ⟨T, 1, none⟩ (.int .i64 s0)).alloc (.cells #[.slice ya y yc, .int .i64 s0] 29)).heap.size := (by have := hB3'.size; simp; omega))
          | (clear c1; at_builtin; refine wpList_copy rfl _ _ 27 rfl w.heap.size 37 i0 (.slice none 0 0) 1 24 Try.underlying27 hi hz0 hz1 hz2 rfl (by decide) rfl a4 (rn + k) c4 us rfl hno HUl.out (owns_cells hXrow) HUone.out (by unfold maxLen; omega) (by omega) hXb ?_; intro v5 w5 ho5 hg5; obtain ⟨a5, c5, hv5⟩ := owns_slice ho5; subst hv5; have hb5 := below_of_grown hg5; have hs5 := Nat.le_trans hXb hb5.size)
          | (clear c2; at_builtin; refine wpList_append_own _ rfl _ _ 27 rfl w.heap.size 37 i0 (.slice none 0 0) 1 24 Try.underlying27 hi hz0 hz1 hz2 rfl (by decide) (.slice a5 (rn + k) c5) (rn + k) us rfl (ho5.alloc _) ⟨_, 0, none⟩ 1 1 [.slice xo rl xc] rfl rfl (one_cell _ _ _) (by simp [Value.oneCell']) (by unfold maxLen; omega) (by omega) (Nat.le_trans hs5 (by simp)) ?_; intro v' w6 hown' hgrow _))
        have hTX := (hT3'.set (.slice ya y yc) (.int .i64 s0)).later ((Below.refl _ _).alloc (Nat.le_refl _) (.cells #[.slice ya y yc, .int .i64 s0] 29)) (by simpa using hT3'.1.lt)
        have hT5 := hTX.later hb5 hTX.1.lt
        have hT5a := hT5.later ((Below.refl _ _).alloc (Nat.le_refl _) (.cells #[.slice xo rl xc] 37)) hT5.1.lt
        have hT6 := hT5a.grownE (ho5.alloc _) (by decide) hgrow
        have htX := owns_later ((owns_set2 (owns_mono hO3'.out (Nat.le_trans hB.size hs2)) hT3' (by decide) (.slice ya y yc) (.int .i64 s0)).alloc (.cells #[.slice ya y yc, .int .i64 s0] 29)) hb5 (Nat.le_refl _)
        have ht6 := (htX.alloc (.cells #[.slice xo rl xc] 37)).kept hgrow (owns_apart (by decide) htX ho5)
        have hr5 := owns_later ((owns_set2 (owns_later (owns_mono hO2.out hB.size) hb3 (Nat.le_refl _)) hT3' (by decide) (.slice ya y yc) (.int .i64 s0)).alloc (.cells #[.slice ya y yc, .int .i64 s0] 29)) hb5 (Nat.le_refl _)
        have hL6 := HLS.out w5 w6 _ _ v' ho5 (fun i hi2 => owns_later ((owns_set2 (owns_later (HU.out.2.2 i hi2) hb23 (Nat.le_refl _)) hT3' (by decide) (.slice ya y yc) (.int .i64 s0)).alloc (.cells #[.slice ya y yc, .int .i64 s0] 29)) hb5 (Nat.le_refl _)) hr5 hgrow hown'
        have hBX := ((hB3'.setCell (p := ⟨T, 0, none⟩) hTl (.slice ya y yc)).setCell (p := ⟨T, 1, none⟩) hTl (.int .i64 s0)).alloc (by simpa using hB3'.size) (.cells #[.slice ya y yc, .int .i64 s0] 29)
        have hB5 := hBX.trans (hb5.mono hBX.size)
        have hB6 := (hB5.alloc hB5.size (.cells #[.slice xo rl xc] 37)).grown hgrow (Nat.le_trans hB5.size (by simp)) (fun q hq => (ho5.lt q hq).1)
        obtain ⟨a6, c6, hv6⟩ := owns_slice hown'
        subst hv6
        refine ⟨⟨k + 1, by omega, by omega, by go_num, ⟨a6, c6, rfl, hL6⟩, hB6, ya, yc, y, HTn'.out, hT6, ht6⟩, by simp [intOf]; omega⟩
    · have hall : ms.take k = ms := List.take_of_length_le (by omega)
      rw [hall] at HL HTn HTo
      have hLa : (rs ++ ms).length = rn + k := by
        have := congrArg List.length hall
        rw [List.length_take] at this
        rw [List.length_append, HRn.out]
        omega
      obtain ⟨hd1, hd2⟩ := HLe.out k
      rw [hall] at hd1 hd2
      have htn := HTn.out
      have hpr := pk_range (n := x) (m := 200) (by decide)
      have hpk := fun w1 => picked_is x 200 w1 hx (by decide) (by decide)
      generalize pk x 200 = kp at *
      obtain ⟨q, hq⟩ : ∃ q, leftN tn s0 kp = q := ⟨_, rfl⟩
      have hq1 : s0 ≤ q ∧ q ≤ tn := by unfold leftN at hq; omega
      obtain ⟨j, r, A, hj1, hj2, hE1, hrq, hA1, hAl, hA2, hA3⟩ := keeps_m hok (q := q) (by omega) (by omega)
      obtain ⟨R, hR⟩ : ∃ R, recN fl = R := ⟨_, rfl⟩
      obtain ⟨hR1, hR2, hR3⟩ := recN_ok fl
      rw [hR] at hR1 hR2 hR3
      have hre2 := fun w1 (hb : Below w.heap.size w w1) => HRe.out _ fl w1 (hF.below hb)
      rw [hR] at hre2
      obtain ⟨G, hG⟩ : ∃ G, (rs ++ ms).take j = G := ⟨_, rfl⟩
      rw [hG] at hE1 hA2 hA3
      have hGl : G.length = j := by rw [← hG, List.length_take]; omega
      have hback : readL (A ++ recB R) = (G ++ [R], (A ++ recB R).length) := by
        have hok2 : ∀ l ∈ G ++ [R], wrC l = 0 := fun l hl => by
          rcases List.mem_append.1 hl with h | h
          · exact hok l (by rw [← hG] at h; exact List.mem_of_mem_take h)
          · rw [List.mem_singleton.1 h]; exact hR3
        have := read_back hok2
        rw [bysN_snoc, ← hA3] at this
        exact this
      have hAs : A.length ≤ 1008 := by omega
      have HCr : Hid (∀ (w1 : World), BytesV w1 (.slice ta tn tc) (bysN (rs ++ ms)) → Calls Try.prog 18 #[.agg #[.slice ta tn tc, .int .i64 s0], .int .i64 kp] w1 fun e w' => ∃ xo xc, e = .returned (.tuple #[.agg #[.slice xo q xc, .int .i64 q], .int .i64 0]) ∧ Below w1.heap.size w1 w' ∧ Hid (w'.ownsRow w1.heap.size 5 1 (.slice xo q xc) q (bvals ((bysN (rs ++ ms)).take q)))) := fun w1 h => by
        have hql : ((bysN (rs ++ ms)).take q).length = q := by rw [List.length_take]; omega
        have := crash_ok ta tc (bysN (rs ++ ms)) s0 kp w1 (by simp [mayB]; omega) hpr.1 (by rw [← htn]; exact h)
        rw [← htn, hq] at this
        refine this.mono fun e w' ⟨xo, xc, h1, h2, h3⟩ => ?_
        rw [hql] at h1 h3
        exact ⟨xo, xc, h1, h2, h3⟩
      have HRp : Hid (∀ (xo : Option Addr) (xc : Nat) (w1 : World), BytesV w1 (.slice xo q xc) ((bysN (rs ++ ms)).take q) → Calls Try.prog 19 #[.agg #[.slice xo q xc, .int .i64 q]] w1 fun e w' => ∃ yo yc, e = .returned (.tuple #[.agg #[.slice yo r yc, .int .i64 r], .int .i64 0]) ∧ Below w1.heap.size w1 w' ∧ Hid (w'.ownsRow w1.heap.size 5 1 (.slice yo r yc) r (bvals A))) := fun xo xc w1 h => by
        have hql : ((bysN (rs ++ ms)).take q).length = q := by rw [List.length_take]; omega
        have := repair_ok xo xc ((bysN (rs ++ ms)).take q) q w1 (by simp [mayB]; omega) (by rw [hql]; exact h)
        rw [hE1, hA1, hql] at this
        have e0 : min (q : Int) (r : Int) = (r : Int) := by omega
        refine this.mono fun e w' ⟨yo, yc, h1, h2, h3⟩ => ?_
        rw [hAl] at h1 h3
        rw [show ((G, r).2 : Nat) = r from rfl, e0] at h1
        exact ⟨yo, yc, h1, h2, h3⟩
      have HRd : Hid (∀ (xo : Option Addr) (xc : Nat) (w1 : World), BytesV w1 (.slice xo r xc) A → Calls Try.prog 13 #[.agg #[.slice xo r xc, .int .i64 r]] w1 fun e w' => ∃ yo yc, e = .returned (.tuple #[.slice yo j yc, .int .i64 r, .int .i64 0]) ∧ Below w1.heap.size w1 w' ∧ Hid (LisO w' w1.heap.size (.slice yo j yc) G)) := fun xo xc w1 h => by
        have := read_ok xo xc A r w1 (by simp [mayB]; omega) (by rw [hAl]; exact h)
        rw [hAl] at this
        refine this.mono fun e w' ⟨yo, yc, h1, h2, h3⟩ => ?_
        rw [hA2] at h1 h3
        rw [show (G, r).1.length = j from hGl] at h1 h3
        exact ⟨yo, yc, h1, h2, h3⟩
      have HWr : Hid (∀ (xo : Option Addr) (xc : Nat) (zo : Option Addr) (zc : Nat) (w1 : World), BytesV w1 (.slice xo r xc) A → IntsV w1 (.slice zo R.length zc) R → Calls Try.prog 17 #[.agg #[.slice xo r xc, .int .i64 r], .slice zo R.length zc] w1 fun e w' => ∃ yo yc, e = .returned (.tuple #[.agg #[.slice yo (r + (4 * R.length + 8)) yc, .int .i64 r], .int .i64 0]) ∧ Below w1.heap.size w1 w' ∧ Hid (w'.ownsRow w1.heap.size 5 1 (.slice yo (r + (4 * R.length + 8)) yc) (r + (4 * R.length + 8)) (bvals (A ++ recB R)))) := fun xo xc zo zc w1 h h2 => by
        have := write_ok xo xc A r (.slice zo R.length zc) R w1 (by rw [hAl]; exact h) h2 (by simp [mayB]; omega) (by omega) hR1 (by omega)
        rw [hAl] at this
        refine this.mono fun e w' ⟨yo, yc, g1, g2, g3⟩ => ?_
        have hle : (A ++ recB R).length = r + (4 * R.length + 8) := by rw [List.length_append, recB_length, hAl]
        rw [hle] at g1 g3
        exact ⟨yo, yc, g1, g2, g3⟩
      have HRd2 : Hid (∀ (xo : Option Addr) (xc : Nat) (w1 : World), BytesV w1 (.slice xo (r + (4 * R.length + 8)) xc) (A ++ recB R) → Calls Try.prog 13 #[.agg #[.slice xo (r + (4 * R.length + 8)) xc, .int .i64 r]] w1 fun e w' => ∃ yo yc zn, e = .returned (.tuple #[.slice yo (j + 1) yc, .int .i64 zn, .int .i64 0]) ∧ Below w1.heap.size w1 w' ∧ Hid (LisO w' w1.heap.size (.slice yo (j + 1) yc) (G ++ [R]))) := fun xo xc w1 h => by
        have hle : (A ++ recB R).length = r + (4 * R.length + 8) := by rw [List.length_append, recB_length, hAl]
        have := read_ok xo xc (A ++ recB R) r w1 (by rw [hle]; simp [mayB]; omega) (by rw [hle]; exact h)
        rw [hle] at this
        refine this.mono fun e w' ⟨yo, yc, h1, h2, h3⟩ => ?_
        rw [hback] at h1 h3
        have hl2 : (G ++ [R]).length = j + 1 := by simp [hGl]
        rw [show (G ++ [R], (A ++ recB R).length).1.length = j + 1 from hl2] at h1 h3
        exact ⟨yo, yc, _, h1, h2, h3⟩
      have hsmall : ∀ l ∈ rs ++ ms, l.length ≤ 12 := fun l hl => by
        rcases List.mem_append.1 hl with h | h
        · exact (hrs1 l h).1
        · exact (hms1 l h).1
      have hGs : ∀ i, i < G.length → (G.getD i []).length ≤ 140737488355328 := fun i hi2 => by
        have hm : G.getD i [] ∈ G := by rw [List.getD_eq_getElem?_getD, List.getElem?_eq_getElem hi2]; simp
        have hm2 : G.getD i [] ∈ rs ++ ms := by
          generalize G.getD i [] = gi at hm
          rw [← hG] at hm
          exact List.mem_of_mem_take hm
        have := hsmall _ hm2
        omega
      have HBt : Hid (∀ w1, Below wr.heap.size wr w1 → BytesV w1 (.slice ta tn tc) (bysN (rs ++ ms))) := fun w1 hb => bytesV_of_owns (l := bysN (rs ++ ms)) (by rw [← htn]; exact owns_later HTo.out hb (Nat.le_refl _))
      have HEb : Hid (∀ (w1 : World) (b : Nat) (v : Value), w1.ownsRow b 5 1 v q (bvals ((bysN (rs ++ ms)).take q)) → BytesV w1 v ((bysN (rs ++ ms)).take q)) := fun w1 b v h => bytesV_of_owns (by rw [List.length_take, Nat.min_eq_left (by omega)]; exact h)
      have HAb : Hid (∀ (w1 : World) (b : Nat) (v : Value), w1.ownsRow b 5 1 v r (bvals A) → BytesV w1 v A) := fun w1 b v h => bytesV_of_owns (by rw [hAl]; exact h)
      have HFb : Hid (∀ (w1 : World) (b : Nat) (v : Value), w1.ownsRow b 5 1 v (r + (4 * R.length + 8)) (bvals (A ++ recB R)) → BytesV w1 v (A ++ recB R)) := fun w1 b v h => bytesV_of_owns (by rw [List.length_append, recB_length, hAl]; exact h)
      have HIvR : Hid (∀ (w1 : World) (b : Nat) (v : Value), w1.ownsRow b 3 1 v R.length (ivals R) → IntsV w1 v R) := fun w1 b v h => intsV_of_owns h
      have HSm : Hid (∀ (ao bo : Option Addr) (ac bc : Nat) (w1 : World), LisV w1 (.slice ao j ac) G → LisV w1 (.slice bo j bc) G → Calls Try.prog 14 #[.slice ao j ac, .slice bo j bc] w1 fun e w' => e = .returned (.bool true) ∧ Below w1.heap.size w1 w') := fun ao bo ac bc w1 h1 h2 => by
        have := sameListsK_true ao bo ac bc G w1 (by omega) hGs (by rw [hGl]; exact h1) (by rw [hGl]; exact h2)
        rw [hGl] at this
        exact this
      have HSi : Hid (∀ (va vb : Value) (w1 : World), IntsV w1 va R → IntsV w1 vb R → Calls Try.prog 20 #[va, vb] w1 fun e w' => e = .returned (.bool true) ∧ Below w1.heap.size w1 w') := fun va vb w1 h1 h2 => (sameIntsK_true va vb R w1 (by omega) h1 h2).mono fun e w' ⟨h1, _, h2⟩ => ⟨h1, h2 ▸ below_drewN (Below.refl _ _) _⟩
      have HAll : Hid (∀ (w1 : World) (b : Nat), LisO w1 b (.slice a4 (rn + k) c4) (rs ++ ms) → LisV w1 (.slice a4 j c4) G ∧ (j : Int) ≤ (c4 : Int)) := fun w1 b h => by
        have hp := h.v.pre hj2
        rw [hG] at hp
        exact ⟨hp, by have := h.room.1; omega⟩
      have HAg : Hid (∀ (w1 : World) (b : Nat) (yo : Option Addr) (yc : Nat), LisO w1 b (.slice yo (j + 1) yc) (G ++ [R]) → LisV w1 (.slice yo j yc) G ∧ (j : Int) ≤ (yc : Int) ∧ ∃ g off, yo = some ⟨g, off, none⟩ ∧ g < w1.heap.size ∧ ∃ uo uc, w1.cell? ⟨g, off + j, none⟩ = some (.slice uo R.length uc) ∧ IntsV w1 (.slice uo R.length uc) R) := fun w1 b yo yc h => by
        have hp := h.v.pre (j := j) (by simp [hGl])
        have e1 : (G ++ [R]).take j = G := by rw [← hGl, List.take_left]
        rw [e1] at hp
        obtain ⟨g, off, e2, hlt, u, hc, hu⟩ := h.v.at (i := j) (by simp [hGl])
        have e3 : (G ++ [R]).getD j [] = R := by rw [getD_app, hGl, if_neg (by omega), Nat.sub_self]; rfl
        rw [e3] at hu
        obtain ⟨uo, uc, rfl⟩ : ∃ uo uc, u = .slice uo R.length uc := by obtain ⟨a, c, e, _⟩ := id hu; exact ⟨a, c, e⟩
        refine ⟨hp, ?_, g, off, e2, hlt, uo, uc, hc, hu⟩
        have := h.room.1
        rw [List.length_append, hGl] at this
        simp at this
        omega
      have hjn : (rn : Int) ≤ (j : Int) ∧ (j : Int) ≤ ((rn + k : Nat) : Int) := by have := HRn.out; omega
      obtain ⟨hjn1, hjn2⟩ := hjn
      clear hd1 hd2 hj1 hj2 hE1 hA1 hAl hA2 hA3 hR hR1 hR3 hG hGl hback hok hpr hq hrs hms hrs1 hms1 hml hsmall hGs hall hLa htn hs0 hrq HLe HRe HTn HMv
      generalize hRl : R.length = Rl at *
      clear hRl
      obtain ⟨rr, hrr⟩ : ∃ rr, r + (4 * Rl + 8) = rr := ⟨_, rfl⟩
      rw [hrr] at HWr HRd2 HFb
      clear hrr
      generalize (bysN (rs ++ ms)).take q = E at *
      generalize bysN (rs ++ ms) = Db at *
      generalize A ++ recB R = F at *
      generalize rs ++ ms = al at *
      have hTO := HTo.out
      clear HTo HBy0 HN
      obtain ⟨⟨hTlt, t0, t1, tf0, tf1⟩, _⟩ := id hT
      have hj18 : (j : Int) ≤ 18 := by omega
      have hex : (¬ k < n) ∨ (k < n ∧ ¬ k < 8) := by omega
      have tk1 := True.intro
      have tk2 := True.intro
      have tk3 := True.intro
      rcases hex with hlt | ⟨hlt, hlt8⟩
      · go_wp2_with fail
        go_cut [18] (fun u18 w' => u18 = .int .i64 0 ∧ Below w.heap.size w w' ∧ ∃ xo xc, TY w' T (.slice xo q xc) (.int .i64 q) ∧ Hid (w'.ownsRow w.heap.size 5 1 (.slice xo q xc) q (bvals E)) ∧ Hid (LisO w' w.heap.size (.slice a4 (rn + k) c4) al))
        case first =>
          have hdr : Below wr.heap.size wr wr.drew := (Below.refl _ _).drew
          have hxA := HCr.out wr.drew (HBt.out _ hdr)
          go_region_law (first
            | (go_simp; go_at_call 11; refine (hpk _).mono ?_; rintro e wq ⟨rfl, HEq⟩; subst HEq)
            | (go_simp; go_at_call 18; refine hxA.mono ?_; rintro e w9 ⟨xo, xc, rfl, hb9, hv9⟩; have hs9 := hdr.trans (hb9.mono hdr.size); have hT9 := hT.later hs9 hTlt; have hB9 := hB.trans (hs9.mono hB.size); obtain ⟨⟨_, k0, k1, kf0, kf1⟩, _⟩ := id hT9))
          all_goals go_wp2_with fail
          all_goals go_meet
          all_goals exact ⟨rfl, (hB9.setCell (p := ⟨T, 0, none⟩) hTl _).setCell (p := ⟨T, 1, none⟩) hTl _, xo, xc, hT9.set _ _, owns_set2 (owns_mono hv9.out (Nat.le_trans hB.size hdr.size)) hT9 (by decide) _ _, (HL.out.later hs9 (Nat.le_refl _)).set2 hT9 _ _⟩
        case rest =>
          obtain ⟨rfl, hB10, xo, xc, hT10, HE10, HL10⟩ := hcut
          have hrp := HRp.out xo xc _ (HEb.out _ _ _ HE10.out)
          obtain ⟨⟨hlt10, d0, d1, df0, df1⟩, _⟩ := id hT10
          clear HCr HBt HRp HEb HE10 hpk hTO hT t0 t1 tf0 tf1 hTlt HL hlt
          go_wp2_with (first
            | (go_at_call 19; refine hrp.mono ?_; rintro e w11 ⟨yo, yc, rfl, hb11, HA11⟩; have hT11 := hT10.later hb11 hlt10; have hB11 := hB10.trans (hb11.mono hB10.size); obtain ⟨⟨hlt11, e0, e1, ef0, ef1⟩, _⟩ := id hT11; have hrd := HRd.out yo yc _ (HAb.out _ _ _ (owns_set2 HA11.out hT11 (by decide) (.slice yo r yc) (.int .i64 r))); have hT11s := hT11.set (.slice yo r yc) (.int .i64 r))
            | (clear tk1; go_at_call 13; refine hrd.mono ?_; rintro e w12 ⟨zo, zc, rfl, hb12, HG12⟩; have hT12 := hT11s.later hb12 hT11s.1.lt; have hB12s := (hB11.setCell (p := ⟨T, 0, none⟩) hTl (.slice yo r yc)).setCell (p := ⟨T, 1, none⟩) hTl (.int .i64 r); have hB12 := hB12s.trans (hb12.mono hB12s.size); have hL12 := ((HL10.out.later hb11 (Nat.le_refl _)).set2 hT11 (.slice yo r yc) (.int .i64 r)).later hb12 (Nat.le_refl _); obtain ⟨hal12, hjc⟩ := HAll.out _ _ hL12; have hsm := HSm.out zo a4 zc c4 w12 HG12.out.v hal12; obtain ⟨⟨hlt12, g0, g1, gf0, gf1⟩, _⟩ := id hT12)
            | (clear tk2; go_at_call 14; refine hsm.mono ?_; rintro e w13 ⟨rfl, hb13⟩; have hB13 := hB12.trans (hb13.mono hB12.size); have hre3 := hre2 w13 hB13)
            | (go_at_call 16; refine hre3.mono ?_; rintro e w14 ⟨po, pc, rfl, hb14, HO14⟩; have hB14 := hB13.trans (hb14.mono hB13.size); have hb24 := hb13.trans (hb14.mono hb13.size); have hT14 := hT12.later hb24 hlt12; have hA14 := owns_later (owns_later (owns_set2 HA11.out hT11 (by decide) (.slice yo r yc) (.int .i64 r)) hb12 (Nat.le_refl _)) hb24 (Nat.le_refl _); have hwr := HWr.out yo yc po pc w14 (HAb.out _ _ _ hA14) (HIvR.out _ _ _ HO14.out); obtain ⟨⟨hlt14, i0', i1', if0, if1⟩, _⟩ := id hT14)
            | (go_at_call 17; refine hwr.mono ?_; rintro e w15 ⟨yo2, yc2, rfl, hb15, HF15⟩; have hB15 := hB14.trans (hb15.mono hB14.size); have hT15 := hT14.later hb15 hlt14; obtain ⟨⟨hlt15, j0, j1, jf0, jf1⟩, _⟩ := id hT15; have hrd2 := HRd2.out yo2 yc2 _ (HFb.out _ _ _ (owns_set2 HF15.out hT15 (by decide) (.slice yo2 rr yc2) (.int .i64 r))); have hB15s := (hB15.setCell (p := ⟨T, 0, none⟩) hTl (.slice yo2 rr yc2)).setCell (p := ⟨T, 1, none⟩) hTl (.int .i64 r); have hG15 := ((HG12.out.later hb24 (Nat.le_refl _)).later hb15 (Nat.le_refl _)).set2 hT15 (.slice yo2 rr yc2) (.int .i64 r); have hR15 := owns_set2 (owns_later HO14.out hb15 (Nat.le_refl _)) hT15 (by decide) (.slice yo2 rr yc2) (.int .i64 r))
            | (go_at_call 13; refine hrd2.mono ?_; rintro e w16 ⟨vo, vc, zn, rfl, hb16, HG16⟩; have hB16 := hB15s.trans (hb16.mono hB15s.size); obtain ⟨hag16, hvc, g, off, hvo, hg16, uo, uc, hcell, hu16⟩ := HAg.out _ _ vo vc HG16.out; subst hvo; have hsm2 := HSm.out (some ⟨g, off, none⟩) zo vc zc w16 hag16 (hG15.later hb16 (Nat.le_refl _)).v; have hR16 := owns_later hR15 hb16 (Nat.le_refl _))
            | (go_at_call 14; refine hsm2.mono ?_; rintro e w17 ⟨rfl, hb17⟩; have hB17 := hB16.trans (hb17.mono hB16.size); have hcell17 := (hb17.cell hg16).trans hcell; have hsi := HSi.out (.slice uo Rl uc) (.slice po Rl pc) w17 (hu16.below hb17) (HIvR.out _ _ _ (owns_later hR16 hb17 (Nat.le_refl _))))
            | (go_at_call 20; refine hsi.mono ?_; rintro e w18 ⟨rfl, hb18⟩; have hB18 := hB17.trans (hb18.mono hB17.size)))
          all_goals go_ret
          all_goals exact ⟨by first | rfl | simp, hB18⟩
      · go_wp2_with fail
        go_cut [18] (fun u18 w' => u18 = .int .i64 0 ∧ Below w.heap.size w w' ∧ ∃ xo xc, TY w' T (.slice xo q xc) (.int .i64 q) ∧ Hid (w'.ownsRow w.heap.size 5 1 (.slice xo q xc) q (bvals E)) ∧ Hid (LisO w' w.heap.size (.slice a4 (rn + k) c4) al))
        case first =>
          have hdr : Below wr.heap.size wr wr.drew := (Below.refl _ _).drew
          have hxA := HCr.out wr.drew (HBt.out _ hdr)
          go_region_law (first
            | (go_simp; go_at_call 11; refine (hpk _).mono ?_; rintro e wq ⟨rfl, HEq⟩; subst HEq)
            | (go_simp; go_at_call 18; refine hxA.mono ?_; rintro e w9 ⟨xo, xc, rfl, hb9, hv9⟩; have hs9 := hdr.trans (hb9.mono hdr.size); have hT9 := hT.later hs9 hTlt; have hB9 := hB.trans (hs9.mono hB.size); obtain ⟨⟨_, k0, k1, kf0, kf1⟩, _⟩ := id hT9))
          all_goals go_wp2_with fail
          all_goals go_meet
          all_goals exact ⟨rfl, (hB9.setCell (p := ⟨T, 0, none⟩) hTl _).setCell (p := ⟨T, 1, none⟩) hTl _, xo, xc, hT9.set _ _, owns_set2 (owns_mono hv9.out (Nat.le_trans hB.size hdr.size)) hT9 (by decide) _ _, (HL.out.later hs9 (Nat.le_refl _)).set2 hT9 _ _⟩
        case rest =>
          obtain ⟨rfl, hB10, xo, xc, hT10, HE10, HL10⟩ := hcut
          have hrp := HRp.out xo xc _ (HEb.out _ _ _ HE10.out)
          obtain ⟨⟨hlt10, d0, d1, df0, df1⟩, _⟩ := id hT10
          clear HCr HBt HRp HEb HE10 hpk hTO hT t0 t1 tf0 tf1 hTlt HL hlt hlt8
          go_wp2_with (first
            | (go_at_call 19; refine hrp.mono ?_; rintro e w11 ⟨yo, yc, rfl, hb11, HA11⟩; have hT11 := hT10.later hb11 hlt10; have hB11 := hB10.trans (hb11.mono hB10.size); obtain ⟨⟨hlt11, e0, e1, ef0, ef1⟩, _⟩ := id hT11; have hrd := HRd.out yo yc _ (HAb.out _ _ _ (owns_set2 HA11.out hT11 (by decide) (.slice yo r yc) (.int .i64 r))); have hT11s := hT11.set (.slice yo r yc) (.int .i64 r))
            | (clear tk1; go_at_call 13; refine hrd.mono ?_; rintro e w12 ⟨zo, zc, rfl, hb12, HG12⟩; have hT12 := hT11s.later hb12 hT11s.1.lt; have hB12s := (hB11.setCell (p := ⟨T, 0, none⟩) hTl (.slice yo r yc)).setCell (p := ⟨T, 1, none⟩) hTl (.int .i64 r); have hB12 := hB12s.trans (hb12.mono hB12s.size); have hL12 := ((HL10.out.later hb11 (Nat.le_refl _)).set2 hT11 (.slice yo r yc) (.int .i64 r)).later hb12 (Nat.le_refl _); obtain ⟨hal12, hjc⟩ := HAll.out _ _ hL12; have hsm := HSm.out zo a4 zc c4 w12 HG12.out.v hal12; obtain ⟨⟨hlt12, g0, g1, gf0, gf1⟩, _⟩ := id hT12)
            | (clear tk2; go_at_call 14; refine hsm.mono ?_; rintro e w13 ⟨rfl, hb13⟩; have hB13 := hB12.trans (hb13.mono hB12.size); have hre3 := hre2 w13 hB13)
            | (go_at_call 16; refine hre3.mono ?_; rintro e w14 ⟨po, pc, rfl, hb14, HO14⟩; have hB14 := hB13.trans (hb14.mono hB13.size); have hb24 := hb13.trans (hb14.mono hb13.size); have hT14 := hT12.later hb24 hlt12; have hA14 := owns_later (owns_later (owns_set2 HA11.out hT11 (by decide) (.slice yo r yc) (.int .i64 r)) hb12 (Nat.le_refl _)) hb24 (Nat.le_refl _); have hwr := HWr.out yo yc po pc w14 (HAb.out _ _ _ hA14) (HIvR.out _ _ _ HO14.out); obtain ⟨⟨hlt14, i0', i1', if0, if1⟩, _⟩ := id hT14)
            | (go_at_call 17; refine hwr.mono ?_; rintro e w15 ⟨yo2, yc2, rfl, hb15, HF15⟩; have hB15 := hB14.trans (hb15.mono hB14.size); have hT15 := hT14.later hb15 hlt14; obtain ⟨⟨hlt15, j0, j1, jf0, jf1⟩, _⟩ := id hT15; have hrd2 := HRd2.out yo2 yc2 _ (HFb.out _ _ _ (owns_set2 HF15.out hT15 (by decide) (.slice yo2 rr yc2) (.int .i64 r))); have hB15s := (hB15.setCell (p := ⟨T, 0, none⟩) hTl (.slice yo2 rr yc2)).setCell (p := ⟨T, 1, none⟩) hTl (.int .i64 r); have hG15 := ((HG12.out.later hb24 (Nat.le_refl _)).later hb15 (Nat.le_refl _)).set2 hT15 (.slice yo2 rr yc2) (.int .i64 r); have hR15 := owns_set2 (owns_later HO14.out hb15 (Nat.le_refl _)) hT15 (by decide) (.slice yo2 rr yc2) (.int .i64 r))
            | (go_at_call 13; refine hrd2.mono ?_; rintro e w16 ⟨vo, vc, zn, rfl, hb16, HG16⟩; have hB16 := hB15s.trans (hb16.mono hB15s.size); obtain ⟨hag16, hvc, g, off, hvo, hg16, uo, uc, hcell, hu16⟩ := HAg.out _ _ vo vc HG16.out; subst hvo; have hsm2 := HSm.out (some ⟨g, off, none⟩) zo vc zc w16 hag16 (hG15.later hb16 (Nat.le_refl _)).v; have hR16 := owns_later hR15 hb16 (Nat.le_refl _))
            | (go_at_call 14; refine hsm2.mono ?_; rintro e w17 ⟨rfl, hb17⟩; have hB17 := hB16.trans (hb17.mono hB16.size); have hcell17 := (hb17.cell hg16).trans hcell; have hsi := HSi.out (.slice uo Rl uc) (.slice po Rl pc) w17 (hu16.below hb17) (HIvR.out _ _ _ (owns_later hR16 hb17 (Nat.le_refl _))))
            | (go_at_call 20; refine hsi.mono ?_; rintro e w18 ⟨rfl, hb18⟩; have hB18 := hB17.trans (hb18.mono hB17.size)))
          all_goals go_ret
          all_goals exact ⟨by first | rfl | simp, hB18⟩

set_option maxRecDepth 20000 in
theorem tapeKeeps_contract (H : Type) (enc : TypeId × Value → H) (W : World) (base : Nat) (args : Array Value) (ds gs : List (DataW H)) (before : List MemPlace)
    (hval : ∀ (j : Nat) t v, Try.f5.params[j]? = some t → args[j]? = some v → Value.okWide Try.prog W .any base t v)
    (hW : DataW.Whole enc Try.prog Try.f5.params.toList Rows.tapeKeepsSpec.vars false W args.toList ds gs before)
    (hsz0 : (DataW.weightsEach Try.prog (Try.f5.params.toList ++ (OpenSpec.ofChange Rows.tapeKeepsSpec).bare.plain.varTypes Try.prog) (ds ++ gs)).all (· ≤ reachBytes) = true)
    (_hL : laidMetH Try.prog Rows.tapeKeepsRow.laid W) :
    Calls Try.prog 5 args W fun e W' => ∃ v, e = .returned v ∧ Rows.tapeKeepsSpec.post enc Try.prog Try.f5 false true false false W args v W' := by
  have hW' := hW
  obtain ⟨p, q, hA0, hV, rfl, hfz, hnd⟩ := hW
  have hA : DataW.TrodAll enc Try.prog W 0 (fun _ => true) true Try.f5.params.toList args.toList ds p := hA0
  rw [Try.params5] at hA hval
  obtain ⟨v0, vs0, d0, ds0, p0, q0, hargs, rfl, rfl, h0, r0⟩ := trodAll_cons hA
  obtain ⟨v1, vs1, d1, ds1, p1, q1, rfl, rfl, rfl, h1, r1⟩ := trodAll_cons r0
  obtain ⟨v2, vs2, d2, ds2, p2, q2, rfl, rfl, rfl, h2, r2⟩ := trodAll_cons r1
  obtain ⟨v3, vs3, d3, ds3, p3, q3, rfl, rfl, rfl, h3, r3⟩ := trodAll_cons r2
  obtain ⟨rfl, rfl, rfl⟩ := trodAll_nil r3
  obtain rfl : args = #[v0, v1, v2, v3] := by cases args; simp_all
  obtain ⟨rfl, rfl⟩ := trodVars_none hV
  have hsz : (DataW.weightsEach Try.prog [27, 27, 3, 37] [d0, d1, d2, d3]).all (· ≤ reachBytes) = true := hsz0
  obtain ⟨ls, hV, hz⟩ := open_rawlists (hval 0 27 v0 rfl rfl) h0 hsz (j := 0) rfl rfl
  obtain ⟨hs, hM, hzm⟩ := open_rawlists (hval 1 27 v1 rfl rfl) h1 hsz (j := 1) rfl rfl
  obtain ⟨x, rfl, rfl, rfl, wf2⟩ := open_int Try.underlying3 (hval 2 3 v2 rfl rfl) h2
  obtain ⟨fl, hF⟩ := open_raws (hval 3 37 v3 rfl rfl) h3 hsz (j := 3) rfl rfl
  refine (tapeKeeps_walk v0 ls v1 hs x v3 fl W (bounds_i64 wf2) hz hzm hV hM hF).mono fun e W' ⟨he, hb⟩ => ⟨_, he, ?_⟩
  refine law_post (fun t ht => ?_) rfl (by kernel_rfl) hW' rfl rfl rfl hb
  rw [Try.params5] at ht
  simp only [List.mem_cons, List.not_mem_nil, or_false] at ht
  rcases ht with rfl | rfl | rfl | rfl
  · exact ⟨by kernel_rfl, of_decide_eq_true (by kernel_rfl)⟩
  · exact ⟨by kernel_rfl, of_decide_eq_true (by kernel_rfl)⟩
  · exact ⟨by kernel_rfl, of_decide_eq_true (by kernel_rfl)⟩
  · exact ⟨by kernel_rfl, of_decide_eq_true (by kernel_rfl)⟩

/-- A WORLD FOR THE WITNESS: the settled one. -/
noncomputable def tapeKeepsWorld (os : Os) : World := World.holding Try.prog os ⟨#[], #[], []⟩
set_option maxRecDepth 20000 in
theorem tapeKeeps_met (os : Os) : laidMet Try.prog Rows.tapeKeepsRow.laid ((tapeKeepsWorld os).forCall (fun _ _ => 0) ⟨#[], #[.slice none 0 0, .slice none 0 0, .int .i64 0, .slice none 0 0], []⟩).memory :=
  laidMet_of_run' 8 (by kernel_rfl) (by kernel_rfl)
set_option maxRecDepth 20000 in
theorem tapeKeeps_reads (os : Os) {H : Type} (enc : TypeId × Value → H) : ∃ places, DataW.whole enc Try.prog ((tapeKeepsWorld os).forCall (fun _ _ => 0) ⟨#[], #[.slice none 0 0, .slice none 0 0, .int .i64 0, .slice none 0 0], []⟩).memory Try.f5.params.toList Rows.tapeKeepsSpec.vars false #[Value.slice none 0 0, .slice none 0 0, .int .i64 0, .slice none 0 0].toList 8 = some ([.nil, .nil, .lit (.int .i64 0), .nil], [], places) :=
  ⟨[], by kernel_rfl⟩

set_option maxRecDepth 100000 in
theorem tapeKeeps_lifted (os : Os) (started : os.Started) (H : Type) (enc : TypeId × Value → H) (F : Stop.Interp) :
    ReturnsInHanded {} Try.checked os 5 .any ((OpenSpec.ofChange Rows.tapeKeepsSpec).preRow enc Try.prog Try.f5 Rows.tapeKeepsRow.domain false Rows.tapeKeepsRow.laid) (((OpenSpec.ofChange Rows.tapeKeepsSpec).at F).post enc Try.prog Try.f5 false true false false) := by
  obtain ⟨places, hx⟩ := tapeKeeps_reads os enc
  refine returnsInHanded_of_row (C := Try.checked) (s := OpenSpec.ofChange Rows.tapeKeepsSpec) own started (by kernel_rfl) Try.func5
    (witness_row_at (enc := enc) (C := Try.checked) false (tapeKeepsWorld os) #[.slice none 0 0, .slice none 0 0, .int .i64 0, .slice none 0 0] rfl (by kernel_rfl) (by kernel_rfl) (by kernel_rfl)
      (OpenSpec.preRow_of_cond 8 hx (by kernel_rfl) (fun k hk => by cases hk) (by kernel_rfl) (tapeKeeps_met os))) ?_
  intro W base args ds gs before hval hW _ _ hsz hL _ _
  exact tapeKeeps_contract H enc W base args ds gs before hval hW hsz hL

set_option maxRecDepth 20000 in
theorem tapeKeeps_said : Rows.TapeKeepsSaid :=
  OpenClaim.holds_of_cond 5 Try.f5 rfl rfl rfl rfl rfl rfl rfl ⟨rfl, rfl, rfl, rfl, rfl⟩ rfl rfl rfl rfl rfl (by kernel_rfl) Try.func5 (by kernel_rfl)
    (of_decide_eq_true (by kernel_rfl)) (by unfold Func.isWrapper; first | (rw [if_pos (by decide +kernel)]; kernel_rfl) | (rw [if_neg (by decide +kernel)]; exact ⟨rfl, rfl⟩))
    (fun os started H enc _ F => by rw [OpenClaim.pre_eq_preRow]; exact tapeKeeps_lifted os started H enc F)

#print axioms tapeKeeps_said
end Go.Proofs.Ytjnobdpjohbdnaa
