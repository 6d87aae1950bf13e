/-
  The document's RecordsOf.
-/
import Derived.Test.YtojioopoblphfaaTRead
namespace Go.Proofs.Ytojioopoblphfaa
open Go.ChangeShapes Go.WideShapes Go.ChangeAt Go.RowKit Go.Deep

set_option maxHeartbeats 1600000 in
set_option maxRecDepth 20000 in
theorem recsOf_bad (ao : Option Addr) (cap : Nat) (l : List UInt8) (s : Int) (w : World) (hm : mayB l.length s = false) :
    Calls Try.prog 22 #[.agg #[.slice ao l.length cap, .int .i64 s]] w fun e w' => e = .returned (.tuple #[.slice none 0 0, .int .i64 0, .int .i64 9]) ∧ Below w.heap.size w w' := by
  obtain ⟨hbA, hcA⟩ := Bc.arg w (.slice ao l.length cap) (.int .i64 s) 27
  have hmb := tmay_any ao l.length cap s (w.alloc (.cells #[.slice ao l.length cap, .int .i64 s] 27))
  rw [hm] at hmb
  have HA : Hid (∀ w1, Below (w.alloc (.cells #[.slice ao l.length cap, .int .i64 s] 27)).heap.size (w.alloc (.cells #[.slice ao l.length cap, .int .i64 s] 27)) w1 → Below w.heap.size w w1) := fun w1 hb => hbA.trans (hb.mono hbA.size)
  generalize l.length = n at *
  clear hbA hcA hm
  go_enter Try.func22, Try.ntmps22
  go_wp2_with (go_at_call 31; refine hmb.mono ?_; rintro e w1 ⟨rfl, hb1⟩; have hx := HA.out w1 hb1)
  go_ret3
  exact ⟨rfl, hx⟩

set_option maxRecDepth 20000 in
theorem elemBytes : Try.prog.elem 22 = 5 := by kernel_rfl
theorem sl_mid {b off m cap a n : Nat} (w : World) (h1 : a + 4 * n + 8 ≤ cap) : (Instr.slice 22 (.slice (some ⟨b, off, none⟩) m cap) (some (.int .i64 (a : Int))) (some (.int .i64 ((a : Int) + 4 * (n : Int) + 8))) none).run Try.prog w = .ok (.slice (some ⟨b, off + a, none⟩) (4 * n + 8) (cap - a)) w := by
  obtain ⟨i0, hi, hz0, hz1, hz2⟩ := info_parts infoByte
  rw [run_slice_lh w 22 (some ⟨b, off, none⟩) m cap (by rw [elemBytes]; exact Try.underlying22) .i64 .i64 (a : Int) ((a : Int) + 4 * (n : Int) + 8) (by omega) (by omega) (by omega), elemBytes]
  have e1 : ((a : Int) + 4 * (n : Int) + 8).toNat = a + 4 * n + 8 := by omega
  have e2 : (a : Int).toNat = a := by omega
  have e3 : a + 4 * n + 8 - a = 4 * n + 8 := by omega
  have e4 : ¬ cap = a := by omega
  simp [sizeOf, typeInfo, hi, hz1, sliced, e1, e2, e3, e4, Addr.add, Result.andThen]
theorem recAt_short {D : List UInt8} (h : D.length < 4) : recAt D = none := by rw [recAt, if_pos h]
theorem recAt_big {D : List UInt8} (h : ¬ D.length < 4) (h2 : 4000 < four D 0 ∨ D.length < 4 * four D 0 + 8) : recAt D = none := by rw [recAt, if_neg h, if_pos h2]
theorem recAt_not {D : List UInt8} (h1 : ¬ D.length < 4) (h2 : ¬ (4000 < four D 0 ∨ D.length < 4 * four D 0 + 8)) (h : ¬ (wrC (numsAt D (four D 0)) = 0 ∧ recB (numsAt D (four D 0)) = D.take (4 * four D 0 + 8))) : recAt D = none := by
  cases hr : recAt D with
  | none => rfl
  | some l =>
    refine absurd ?_ h
    have := recAt_some hr
    have e : recAt D = some (numsAt D (four D 0)) := by rw [hr, this.2.2.2.2]
    simpa using (rec_iff h1 h2).2 e
theorem recAt_yes {D : List UInt8} (h1 : ¬ D.length < 4) (h2 : ¬ (4000 < four D 0 ∨ D.length < 4 * four D 0 + 8)) (h : wrC (numsAt D (four D 0)) = 0 ∧ recB (numsAt D (four D 0)) = D.take (4 * four D 0 + 8)) : recAt D = some (numsAt D (four D 0)) :=
  (rec_iff h1 h2).1 (by simpa using h)

set_option maxHeartbeats 1600000 in
set_option maxRecDepth 20000 in
theorem recsOf_ok (ao : Option Addr) (cap : Nat) (d : List UInt8) (s : Int) (w : World) (hm : mayB d.length s = true) (hV : BytesV w (.slice ao d.length cap) d) :
    Calls Try.prog 22 #[.agg #[.slice ao d.length cap, .int .i64 s]] w (RdPost w d) := by
  have hl : d.length ≤ 1048576 := by simp [mayB] at hm; omega
  obtain ⟨hbA, hcA⟩ := Bc.arg w (.slice ao d.length cap) (.int .i64 s) 27
  have hmb := tmay_any ao d.length cap s (w.alloc (.cells #[.slice ao d.length cap, .int .i64 s] 27))
  rw [hm] at hmb
  have HA : Hid (∀ w1, Below (w.alloc (.cells #[.slice ao d.length cap, .int .i64 s] 27)).heap.size (w.alloc (.cells #[.slice ao d.length cap, .int .i64 s] 27)) w1 → Below w.heap.size w w1 ∧ Bc w1 w.heap.size (.slice ao d.length cap) (.int .i64 s)) := fun w1 hb => ⟨hbA.trans (hb.mono hbA.size), hcA.later hb⟩
  obtain ⟨i0, hi, hz0, hz1, hz2⟩ := info_parts infoInts
  obtain ⟨i1, hj, hy0, hy1, hy2⟩ := info_parts infoInt
  have HFo : Hid (∀ (i : Nat) (w1 : World), i + 4 ≤ d.length → Below w.heap.size w w1 → Calls Try.prog 37 #[.slice ao d.length cap, .int .i64 i] w1 fun e w' => e = .returned (.int .i64 (four d i)) ∧ ∃ q, w' = w1.drewN q) := fun i w1 h4 hb => fourAt_any ao cap d i w1 h4 hl (hV.below hb)
  have HRb : Hid (∀ (v : Value) (l : List Int) (w1 : World), l.length ≤ 140737488355328 → IntsV w1 v l → Calls Try.prog 32 #[v] w1 (RbPost w1 l)) := fun v l w1 h1 h2 => rb_any v l w1 h1 h2
  have HVb : Hid (∀ w1, Below w.heap.size w w1 → BytesV w1 (.slice ao d.length cap) d) := fun w1 hb => hV.below hb
  obtain ⟨m, hmd⟩ : ∃ m, d.length = m := ⟨_, rfl⟩
  have HM : Hid (d.length = m) := hmd
  have HLe : Hid (∀ k, (run k d).2 ≤ m ∧ 8 * (run k d).1.length ≤ (run k d).2) := fun k => ⟨by have := run_le d k; omega, run_records d k⟩
  rw [hmd] at hmb HA HFo HVb hl ⊢
  clear hmd hV hm hbA hcA
  go_enter Try.func22, Try.ntmps22
  go_wp2_with (go_at_call 31; refine hmb.mono ?_; rintro e w1 ⟨rfl, hb1⟩; obtain ⟨hx, hc⟩ := HA.out w1 hb1)
  go_loopw [5, 6] (fun u i wr => ∃ k : Nat, Hid (8 * k ≤ (run k d).2) ∧ i = .int .i64 ((run k d).2 : Nat) ∧ (∃ a c, u = .slice a (run k d).1.length c ∧ Hid (LisO wr w1.heap.size (.slice a (run k d).1.length c) (run k d).1)) ∧ Below w1.heap.size w1 wr) (fun _ i _ => m - (intOf i).toNat)
  case atStart => exact ⟨0, Nat.le_refl _, rfl, ⟨none, 0, rfl, LisO.nil _ _⟩, Below.refl _ _⟩
  case round =>
    obtain ⟨k, HK, rfl, ⟨a, c, rfl, HL⟩, hB⟩ := hrel
    obtain ⟨hp1, hp2⟩ := HLe.out k
    obtain ⟨_, a0, a1⟩ := hc.later hB
    have hbw := hx.trans (hB.mono hx.size)
    have hDl : (d.drop (run k d).2).length = m - (run k d).2 := by rw [List.length_drop, HM.out]
    have HFin : Hid (∀ (w2 : World), recAt (d.drop (run k d).2) = none → Below wr.heap.size wr w2 → RdPost w d (.returned (.tuple #[.slice a (run k d).1.length c, .int .i64 ((run k d).2 : Nat), .int .i64 0])) w2) := fun w2 hr hb2 => by
      have HE := read_stop HK.out hr
      exact ⟨a, c, by rw [HE], hbw.trans (hb2.mono hbw.size), by rw [HE]; exact (HL.out.later hb2 (Nat.le_refl _)).mono hx.size⟩
    by_cases hs4 : m < (run k d).2 + 4
    · have hr : recAt (d.drop (run k d).2) = none := recAt_short (by rw [hDl]; omega)
      have hfin := HFin.out wr hr (Below.refl _ _)
      clear HFin hr hDl HLe HK
      generalize hrk : run k d = rk at *
      clear hrk
      obtain ⟨rs, at'⟩ := rk
      simp only at *
      have hnot : ¬ ((at' : Int) + 4 ≤ (m : Int)) := by omega
      go_wp2_with fail
      go_ret3
      exact hfin
    · have hfo := HFo.out (run k d).2 wr (by omega) hbw
      obtain ⟨n, hn⟩ : ∃ n, four d (run k d).2 = n := ⟨_, rfl⟩
      have hn0 : four (d.drop (run k d).2) 0 = n := by rw [four_drop, Nat.add_zero, hn]
      have hnl := four_lt d (run k d).2
      rw [hn] at hfo hnl
      by_cases hbig : 4000 < n ∨ m < (run k d).2 + 4 * n + 8
      · have hr : recAt (d.drop (run k d).2) = none := recAt_big (by rw [hDl]; omega) (by rw [hn0, hDl]; omega)
        have HFi : Hid (∀ (w2 : World), Below wr.heap.size wr w2 → RdPost w d (.returned (.tuple #[.slice a (run k d).1.length c, .int .i64 ((run k d).2 : Nat), .int .i64 0])) w2) := fun w2 hb => HFin.out w2 hr hb
        clear HFin hr hDl HLe HK hn hn0
        generalize hrk : run k d = rk at *
        clear hrk
        obtain ⟨rs, at'⟩ := rk
        simp only at *
        by_cases hn4 : 4000 < n
        · go_wp2_with (first | (go_at_call 37; refine hfo.mono ?_; rintro e w2 ⟨rfl, q2, rfl⟩))
          go_ret3
          exact HFi.out _ (below_drewN (Below.refl _ _) _)
        · have hbg : m < at' + 4 * n + 8 := by omega
          clear hbig
          go_wp2_with (first | (go_at_call 37; refine hfo.mono ?_; rintro e w2 ⟨rfl, q2, rfl⟩))
          go_ret3
          exact HFi.out _ (below_drewN (Below.refl _ _) _)
      · have hn4 : ¬ 4000 < n := by omega
        have hfit : (run k d).2 + (4 * n + 8) ≤ m := by omega
        have HNo : Hid (¬ (wrC (numsAt (d.drop (run k d).2) n) = 0 ∧ recB (numsAt (d.drop (run k d).2) n) = (d.drop (run k d).2).take (4 * n + 8)) → recAt (d.drop (run k d).2) = none) := fun h => recAt_not (by rw [hDl]; omega) (by rw [hn0, hDl]; omega) (by rw [hn0]; exact h)
        have HYes : Hid ((wrC (numsAt (d.drop (run k d).2) n) = 0 ∧ recB (numsAt (d.drop (run k d).2) n) = (d.drop (run k d).2).take (4 * n + 8)) → run (k + 1) d = ((run k d).1 ++ [numsAt (d.drop (run k d).2) n], (run k d).2 + (4 * n + 8)) ∧ 8 * (k + 1) ≤ (run (k + 1) d).2) := fun h => by
          have hr := recAt_yes (by rw [hDl]; omega) (by rw [hn0, hDl]; omega) (by rw [hn0]; exact h)
          rw [hn0] at hr
          have := run_go hr
          rw [numsAt_length] at this
          refine ⟨this, ?_⟩
          rw [this]
          have := HK.out
          show 8 * (k + 1) ≤ (run k d).2 + (4 * n + 8)
          omega
        have HFs : Hid (∀ (i : Nat) (w2 : World), i < n → Below w.heap.size w w2 → Calls Try.prog 37 #[.slice ao m cap, .int .i64 ((run k d).2 + 4 + 4 * i : Nat)] w2 fun e w' => e = .returned (.int .i64 (four (d.drop (run k d).2) (4 + 4 * i))) ∧ ∃ q, w' = w2.drewN q) := fun i w2 hi2 hb => by
          have := HFo.out ((run k d).2 + 4 + 4 * i) w2 (by omega) hb
          rw [four_drop, ← Nat.add_assoc]
          exact this
        have HSub : Hid (∀ w2, Below w.heap.size w w2 → ∃ b off, ao = some ⟨b, off, none⟩ ∧ BytesV w2 (.slice (some ⟨b, off + (run k d).2, none⟩) (4 * n + 8) (cap - (run k d).2)) ((d.drop (run k d).2).take (4 * n + 8))) := fun w2 hb => by
          obtain ⟨b, off, e, hbl, hmd, hmc, hba⟩ := (HVb.out w2 hb).at (by rw [HM.out]; omega)
          refine ⟨b, off, e, ?_⟩
          have h1 := hba.drop hbl (by omega) (cap := cap) (run k d).2
          obtain ⟨b2, off2, e2, hbl2, _, hmc2, hba2⟩ := h1.at (by rw [hDl]; omega)
          injection e2 with e2
          injection e2 with e3 e4
          subst e3 e4
          have h2 := hba2.take hbl2 (by rw [hDl] at hmc2 ⊢; exact hmc2) (4 * n + 8)
          rw [List.length_take, hDl, Nat.min_eq_left (by omega)] at h2
          exact h2
        have hcapm : m ≤ cap := by
          obtain ⟨b, off, e, hbl, hmd, hmc, hba⟩ := (HVb.out w (Below.refl _ _)).at (by rw [HM.out]; omega)
          exact hmc
        clear hn hn0 hDl HLe HK HFo hbig hmb
        generalize hrk : run k d = rk at *
        clear hrk
        obtain ⟨rs, at'⟩ := rk
        simp only at *
        obtain ⟨D, hD⟩ : ∃ D, d.drop at' = D := ⟨_, rfl⟩
        rw [hD] at HNo HYes HFs HSub HFin
        clear hD
        generalize wr = wo at *
        have hcO := hc.later hB
        have HBox : Hid (∀ w2, Below wo.heap.size wo w2 → Bc w2 w.heap.size (.slice ao m cap) (.int .i64 s)) := fun w2 hb => hcO.later hb
        have hlt4 : ¬ ((m : Int) < (at' : Int) + 4 * (n : Int) + 8) := by omega
        go_wp2_with (first | (go_at_call 37; refine hfo.mono ?_; rintro e w2 ⟨rfl, q2, HE2⟩; have hb2 : Below wo.heap.size wo w2 := HE2 ▸ below_drewN (Below.refl _ _) _; clear HE2; obtain ⟨_, b0, b1⟩ := HBox.out w2 hb2))
        go_loopw [8, 9] (fun u i wr => ∃ q : Nat, q ≤ n ∧ i = .int .i64 q ∧ (∃ x y, u = .slice x q y ∧ Hid (wr.ownsRow wo.heap.size 3 1 (.slice x q y) q (ivals (numsAt D q)))) ∧ Below wo.heap.size wo wr) (fun _ i _ => n - (intOf i).toNat)
        case atStart => exact ⟨0, Nat.zero_le _, rfl, ⟨none, 0, rfl, World.ownsRow_nil _ _ _ _⟩, hb2⟩
        case round =>
          obtain ⟨q, hqn, rfl, ⟨x, y, rfl, HO⟩, hBr⟩ := hrel
          obtain ⟨_, c0, c1⟩ := HBox.out wr hBr
          have hbr := hbw.trans (hBr.mono hbw.size)
          by_cases hlt : q < n
          · have hfq := HFs.out q wr hlt hbr
            have HNx : Hid (ivals (numsAt D q) ++ [.int .i64 (four D (4 + 4 * q) : Int)] = ivals (numsAt D (q + 1))) := by show _ = _; rw [numsAt_succ]; simp [ivals]
            have ecast : ((at' + 4 + 4 * q : Nat) : Int) = (at' : Int) + 4 + 4 * (q : Int) := by omega
            rw [ecast] at hfq
            clear ecast
            generalize four D (4 + 4 * q) = f at *
            go_wp2_with (first | (go_at_call 37; refine hfq.mono ?_; rintro e w3 ⟨rfl, q3, HE3⟩; have hb3 : Below wr.heap.size wr w3 := HE3 ▸ below_drewN (Below.refl _ _) _; clear HE3; have hO3 := owns_later HO.out hb3 (Nat.le_refl _); have hB3 := hBr.trans (hb3.mono hBr.size); have hs3 := hB3.size) | (at_builtin; refine wpList_append_own _ rfl _ _ 28 rfl wo.heap.size 3 i1 (.int .i64 0) 1 8 Try.underlying28 hj hy0 hy1 hy2 rfl (by decide) (.slice x q y) q (ivals (numsAt D q)) rfl (hO3.alloc _) ⟨w3.heap.size, 0, none⟩ 1 1 [.int .i64 (f : Int)] rfl rfl (one_cell _ _ _) (by simp [Value.oneCell']) (by unfold maxLen; omega) (by omega) (Nat.le_trans hs3 (by simp)) ?_; intro v' w4 hown' hgrow _; have hb4 : Below wo.heap.size wo w4 := (hB3.alloc hB3.size _).grown hgrow (Nat.le_trans hs3 (by simp)) (fun q hq => (hO3.lt q hq).1); rw [HNx.out] at hown'; obtain ⟨a4, c4, hv4⟩ := owns_slice hown'; subst hv4; clear hgrow))
            refine ⟨⟨q + 1, by omega, by go_num, ⟨a4, c4, rfl, hown'⟩, hb4⟩, by simp [intOf]; omega⟩
          · obtain rfl : q = n := by omega
            have hiv : IntsV wr (.slice x q y) (numsAt D q) := intsV_of_owns (l := numsAt D q) (by rw [numsAt_length]; exact HO.out)
            have hrb := HRb.out _ (numsAt D q) wr (by rw [numsAt_length]; omega) hiv
            by_cases hwc : wrC (numsAt D q) = 0
            · have hrl : (recB (numsAt D q)).length = 4 * q + 8 := by rw [recB_length, numsAt_length]
              have hrb' : Calls Try.prog 32 #[.slice x q y] wr fun e w' => ∃ xo xc, e = .returned (.tuple #[.slice xo (4 * q + 8) xc, .int .i64 0]) ∧ Below wr.heap.size wr w' ∧ Hid (BytesV w' (.slice xo (4 * q + 8) xc) (recB (numsAt D q))) := hrb.mono fun e w' h => by
                obtain ⟨xo, xc, h1, h2⟩ := h.2.2 hwc
                rw [← hrl]
                exact ⟨xo, xc, h1, h.1, bytesV_of_owns h2.out⟩
              obtain ⟨b, off, rfl, _⟩ := HSub.out wr hbr
              have HTx : Hid (∀ (w5 : World) (xo : Option Addr) (xc : Nat), Below wo.heap.size wo w5 → BytesV w5 (.slice xo (4 * q + 8) xc) (recB (numsAt D q)) → (∀ z, (convert 22 9 (.slice xo (4 * q + 8) xc)).run Try.prog (w5.drewN z) = .ok (.string ⟨(recB (numsAt D q)).toArray⟩) (w5.drewN z)) ∧ ∀ z, (convert 22 9 (.slice (some ⟨b, off + at', none⟩) (4 * q + 8) (cap - at'))).run Try.prog (w5.drewN z) = .ok (.string ⟨(D.take (4 * q + 8)).toArray⟩) (w5.drewN z)) := fun w5 xo xc hb hv => by
                have hb5 := hbw.trans (hb.mono hbw.size)
                refine ⟨fun z => ?_, fun z => ?_⟩
                · have h1 := hv.below (below_drewN (Below.refl _ _) z)
                  rw [← hrl] at h1 ⊢
                  exact h1.text
                · obtain ⟨b2, off2, e2, h2⟩ := HSub.out (w5.drewN z) (below_drewN hb5 z)
                  injection e2 with e2
                  injection e2 with e3 e4
                  subst e3 e4
                  have hl2 : (D.take (4 * q + 8)).length = 4 * q + 8 := by obtain ⟨_, _, e5, _⟩ := h2; injection e5 with _ e6 _; exact e6.symm
                  have h3 : BytesV (w5.drewN z) (.slice (some ⟨b, off + at', none⟩) (D.take (4 * q + 8)).length (cap - at')) (D.take (4 * q + 8)) := by rw [hl2]; exact h2
                  have h4 := h3.text
                  rw [hl2] at h4
                  exact h4
              by_cases hEq : recB (numsAt D q) = D.take (4 * q + 8)
              · obtain ⟨hnx, hks⟩ := HYes.out ⟨hwc, hEq⟩
                have HKs : Hid (8 * (k + 1) ≤ (run (k + 1) d).2) := hks
                have HE1 : Hid ((run (k + 1) d).1.length = rs.length + 1) := by show _ = _; rw [hnx]; simp
                have HE2 : Hid ((run (k + 1) d).1 = rs ++ [numsAt D q]) := by show _ = _; rw [hnx]
                have HE3 : Hid ((run (k + 1) d).2 = at' + (4 * q + 8)) := by show _ = _; rw [hnx]
                clear hrb HFin HYes HNo hwc hrl hks hnx
                have hbe : (recB (numsAt D q) == D.take (4 * q + 8)) = true := by simp [hEq]
                clear hEq
                generalize recB (numsAt D q) = R1 at *
                generalize D.take (4 * q + 8) = R2 at *
                obtain ⟨us, hu1, hu2, hu3⟩ := HL.out
                have HU1 : Hid (wo.ownsRow w1.heap.size 28 1 (.slice a rs.length c) rs.length us) := hu1
                have HLS : Hid (∀ (w2 w4 : World) (v' : Value), Below wo.heap.size wo w2 → w2.ownsRow wo.heap.size 3 1 (.slice x q y) q (ivals (numsAt D q)) → (w2.alloc (.cells #[.slice x q y] 28)).grownBy w4 (Value.slice a rs.length c).ownBlock → w4.ownsRow w1.heap.size 28 1 v' (rs.length + 1) (us ++ [.slice x q y]) → LisO w4 w1.heap.size v' (rs ++ [numsAt D q])) := fun w2 w4 v' hb hu hg ho => LisO.snoc (w := w2.alloc (.cells #[.slice x q y] 28)) ((owns_later hu1 hb (Nat.le_refl _)).alloc _) hu2 (fun i hi => (owns_later (hu3 i hi) hb (Nat.le_refl _)).alloc _) (by rw [numsAt_length]; exact (owns_mono hu hB.size).alloc _) ho hg
                obtain ⟨hrn, hrm⟩ := rs_bound hp2 hp1 hl
                have i1 : ((at' : Int) + 4 * (q : Int) + 8) ≤ (cap : Int) := by omega
                have i2 : (at' : Int) ≤ (at' : Int) + 4 * (q : Int) + 8 := by omega
                have i3 : ¬ cap = at' := by omega
                have hsl := fun w1 => sl_mid (b := b) (off := off) (m := m) (cap := cap) (a := at') (n := q) w1 (by omega)
                have HMe : Hid (at' + (4 * q + 8) ≤ m) := hfit
                clear hu1 hu2 hu3 HL
                generalize rs.length = rn at *
                go_wp2_with (first | (go_at_call 32; refine hrb'.mono ?_; rintro e w5 ⟨xo, xc, rfl, hb5, HB5⟩; have hB5 := hBr.trans (hb5.mono hBr.size); have hO5 := owns_later HO.out hb5 (Nat.le_refl _); obtain ⟨_, d0, d1⟩ := HBox.out w5 hB5; obtain ⟨t1, t2⟩ := HTx.out w5 xo xc hB5 HB5.out))
                go_quiet (fail)
                have hB6 := below_drewN hB5 nq
                have hO6 := owns_later hO5 (below_drewN (Below.refl _ _) nq) (Nat.le_refl _)
                generalize w5.drewN nq = w6 at *
                have hrow := owns_later HU1.out hB6 (Nat.le_refl _)
                have hBw6 := hB.trans (hB6.mono hB.size)
                have hs6 := hBw6.size
                go_wp2_with (first | (at_builtin; refine wpList_append_own _ rfl _ _ 40 rfl w1.heap.size 28 i0 (.slice none 0 0) 1 24 Try.underlying40 hi hz0 hz1 hz2 rfl (by decide) (.slice a rn c) rn us rfl (hrow.alloc _) ⟨w6.heap.size, 0, none⟩ 1 1 [.slice x q y] rfl rfl (one_cell _ _ _) (by simp [Value.oneCell']) hrm hrn (Nat.le_trans hs6 (by simp)) ?_; intro v' w7 hown' hgrow _; have hb7 : Below w1.heap.size w1 w7 := (hBw6.alloc hBw6.size _).grown hgrow (Nat.le_trans hs6 (by simp)) (fun q hq => (hrow.lt q hq).1); have hL7 := HLS.out w6 w7 v' hB6 hO6 hgrow hown'; obtain ⟨a7, c7, hv7⟩ := owns_slice hown'; subst hv7; clear hgrow))
                have e9 : ((at' : Int) + (4 * (q : Int) + 8)) = (at' : Int) + ((4 * q + 8 : Nat) : Int) := by rw [Int.natCast_add, Int.natCast_mul]; rfl
                rw [e9]
                refine ⟨⟨k + 1, HKs.out, by rw [HE3.out]; rfl, ⟨a7, c7, by rw [HE1.out], by rw [HE1.out, HE2.out]; exact hL7⟩, hb7⟩, step_meas HMe.out (Nat.le_add_left _ _)⟩
              · have hr := HNo.out (fun h => hEq h.2)
                have HFi : Hid (∀ (w2 : World), Below wo.heap.size wo w2 → RdPost w d (.returned (.tuple #[.slice a rs.length c, .int .i64 (at' : Nat), .int .i64 0])) w2) := fun w2 hb => HFin.out w2 hr hb
                clear hrb HFin hr HYes HNo hwc hrl
                have hbe : (recB (numsAt D q) == D.take (4 * q + 8)) = false := by simp [hEq]
                clear hEq
                generalize recB (numsAt D q) = R1 at *
                generalize D.take (4 * q + 8) = R2 at *
                have i1 : ((at' : Int) + 4 * (q : Int) + 8) ≤ (cap : Int) := by omega
                have i2 : (at' : Int) ≤ (at' : Int) + 4 * (q : Int) + 8 := by omega
                have i3 : ¬ cap = at' := by omega
                have hsl := fun w1 => sl_mid (b := b) (off := off) (m := m) (cap := cap) (a := at') (n := q) w1 (by omega)
                go_wp2_with (first | (go_at_call 32; refine hrb'.mono ?_; rintro e w5 ⟨xo, xc, rfl, hb5, HB5⟩; have hB5 := hBr.trans (hb5.mono hBr.size); obtain ⟨_, d0, d1⟩ := HBox.out w5 hB5; obtain ⟨t1, t2⟩ := HTx.out w5 xo xc hB5 HB5.out))
                go_quiet (fail)
                go_wp2_with fail
                go_ret3
                exact HFi.out _ (below_drewN hB5 _)
            · have hr := HNo.out (fun h => hwc h.1)
              have hrb' : Calls Try.prog 32 #[.slice x q y] wr fun e w' => e = .returned (.tuple #[.slice none 0 0, .int .i64 (wrC (numsAt D q))]) ∧ Below wr.heap.size wr w' := hrb.mono fun e w' h => ⟨h.2.1 hwc, h.1⟩
              have HFi : Hid (∀ (w2 : World), Below wo.heap.size wo w2 → RdPost w d (.returned (.tuple #[.slice a rs.length c, .int .i64 (at' : Nat), .int .i64 0])) w2) := fun w2 hb => HFin.out w2 hr hb
              generalize wrC (numsAt D q) = ec at *
              clear hrb HFin hr HYes HNo
              go_wp2_with (first | (go_at_call 32; refine hrb'.mono ?_; rintro e w5 ⟨rfl, hb5⟩; have hB5 := hBr.trans (hb5.mono hBr.size); obtain ⟨_, d0, d1⟩ := HBox.out w5 hB5))
              go_quiet (fail)
              go_wp2_with fail
              go_ret3
              exact HFi.out _ (below_drewN hB5 _)
end Go.Proofs.Ytojioopoblphfaa
