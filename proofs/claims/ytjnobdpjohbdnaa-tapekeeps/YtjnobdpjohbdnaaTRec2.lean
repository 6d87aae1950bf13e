/-
  tape.withRecord and the document's RecordBytes.
-/
import Derived.Test.YtjnobdpjohbdnaaTRec
namespace Go.Proofs.Ytjnobdpjohbdnaa
open Go.ChangeShapes Go.WideShapes Go.ChangeAt Go.RowKit Go.Deep

/-- what lies behind a place of an own row. -/
theorem owns_from {w : World} {base : Nat} {ao : Option Addr} {cap n k : Nat} {l m : List UInt8} (h : w.ownsRow base 5 1 (.slice ao n cap) n (bvals (l ++ m))) (hl : l.length = k) (hm : 0 < m.length) :
    ∃ g, ao = some ⟨g, 0, none⟩ ∧ n = k + m.length ∧ n ≤ cap ∧ BytesV w (.slice (some ⟨g, k, none⟩) m.length (cap - k)) m := by
  rcases h.2 with ⟨hv, h0⟩ | ⟨g, cap', cur, hv, hb, hg, hnc, hcm, hcs, htake⟩
  · have := h.1
    rw [bvals_length, List.length_append] at this
    omega
  · simp at hv
    obtain ⟨rfl, rfl⟩ := hv
    have hn : n = k + m.length := by
      have := h.1
      rw [bvals_length, List.length_append] at this
      omega
    refine ⟨g, rfl, hn, hnc, some ⟨g, k, none⟩, cap - k, rfl, ⟨by omega, fun h => by simp at h⟩, fun _ => ⟨g, k, rfl, (Array.getElem?_eq_some_iff.1 hg).1, fun i hi => ?_⟩⟩
    rw [h.cellAt (k + i) (by omega)]
    rw [bvals_append, List.getElem?_append_right (by rw [bvals_length]; omega), bvals_length, show k + i - l.length = i by omega]
    simp [bvals, List.getD_eq_getElem?_getD, hi]

set_option maxHeartbeats 1600000 in
set_option maxRecDepth 20000 in
theorem withRecord_any (ao : Option Addr) (cap : Nat) (d : List UInt8) (v : Value) (l : List Int) (base : Nat) (w : World) (hO : w.ownsRow base 5 1 (.slice ao d.length cap) d.length (bvals d)) (hd : d.length ≤ 1048576) (hc : wrC l = 0) (hb : base ≤ w.heap.size)
    (hI : ∀ w1, Below base w w1 → IntsV w1 v l) :
    Calls Try.prog 27 #[.slice ao d.length cap, v] w fun e w' => ∃ ao' cap', e = .returned (.slice ao' (d ++ recB l).length cap') ∧ Below base w w' ∧ Hid (w'.ownsRow base 5 1 (.slice ao' (d ++ recB l).length cap') (d ++ recB l).length (bvals (d ++ recB l))) := by
  have hl4 : l.length ≤ 4000 := by unfold wrC at hc; split at hc <;> omega
  have hany : l.any outB = false := by
    unfold wrC at hc
    rw [if_neg (by omega)] at hc
    cases h : l.any outB
    · rfl
    · rw [h] at hc; simp at hc
  obtain ⟨bo, bcap, rfl⟩ : ∃ bo bcap, v = .slice bo l.length bcap := by obtain ⟨bo, bcap, h, _⟩ := hI w (Below.refl _ _); exact ⟨bo, bcap, h⟩
  have hw1 := withWord_any ao cap d.length (bvals d) l.length base w hO (by omega) (by omega) hb
  have HWW : Hid (∀ (ao' : Option Addr) (cap' : Nat) (x : List UInt8) (n : Nat) (w1 : World), w1.ownsRow base 5 1 (.slice ao' x.length cap') x.length (bvals x) → x.length ≤ 2097152 → n < 4294967296 → Below base w w1 → Calls Try.prog 30 #[.slice ao' x.length cap', .int .i64 n] w1 fun e w' => ∃ ao' cap', e = .returned (.slice ao' (x.length + 4) cap') ∧ Below base w w' ∧ Hid (w'.ownsRow base 5 1 (.slice ao' (x ++ word4 n).length cap') (x ++ word4 n).length (bvals (x ++ word4 n)))) := fun ao' cap' x n w1 h hx hn hb1 => (withWord_any ao' cap' x.length (bvals x) n base w1 h hn hx (Nat.le_trans hb hb1.size)).mono fun e w' ⟨a, c, h1, h2, h3⟩ => ⟨a, c, h1, hb1.trans h2, by rw [List.length_append, word4_length, bvals_append]; exact h3⟩
  have HI : Hid (∀ w1, Below base w w1 → IntsV w1 (.slice bo l.length bcap) l) := hI
  obtain ⟨n, hn⟩ : ∃ n, l.length = n := ⟨_, rfl⟩
  obtain ⟨k, hk⟩ : ∃ k, d.length = k := ⟨_, rfl⟩
  have HK : Hid (d.length = k) := hk
  have HN : Hid (l.length = n) := hn
  have HAny : Hid (l.any outB = false) := hany
  have HFin : Hid (d ++ headB n l ++ word4 (sumL (headB n l)) = d ++ recB l) := by show _ = _; rw [recB, HN.out, List.append_assoc]
  rw [hn] at hw1 hl4 HI ⊢
  rw [hk] at hw1 hd ⊢
  have hlr : (d ++ recB l).length = k + 4 + 4 * n + 4 := by rw [List.length_append, recB_length, HK.out, HN.out]; omega
  rw [hlr]
  have HLr : Hid ((d ++ recB l).length = k + 4 + 4 * n + 4) := hlr
  clear hn hI hc hany hO hk hlr
  go_enter Try.func27, Try.ntmps27
  go_wp2_with (go_at_call 30; refine hw1.mono ?_; rintro e w1 ⟨a1, c1, rfl, hb1, hO1⟩)
  go_loopw [0, 16] (fun u i wr => ∃ q : Nat, q ≤ n ∧ i = .int .i64 q ∧ ∃ a c, u = .slice a (k + 4 + 4 * q) c ∧ Below base w wr ∧ Hid (wr.ownsRow base 5 1 (.slice a (k + 4 + 4 * q) c) (k + 4 + 4 * q) (bvals (d ++ headB n (l.take q))))) (fun _ i _ => n - (intOf i).toNat)
  case atStart => exact ⟨0, Nat.zero_le _, rfl, a1, c1, rfl, hb1, by rw [show headB n (l.take 0) = word4 n by simp [headB, bodyB], bvals_append]; exact hO1.out⟩
  case round =>
    obtain ⟨q, hq, rfl, a, c, rfl, hB, hOq⟩ := hrel
    by_cases hlt : q < n
    · have hlt2 : q < l.length := by rw [HN.out]; exact hlt
      obtain ⟨ao', cap', e1, hat⟩ := HI.out wr hB
      injection e1 with e1 e2 e3
      subst e1 e3
      clear e2
      obtain ⟨b, off, rfl, _, hca⟩ := hat (by intro h; subst h; simp at hlt2)
      have c2 := hca q hlt2
      have hou := outB_get HAny.out hlt2
      have hlx : (d ++ headB n (l.take q)).length = k + 4 + 4 * q := by rw [List.length_append, headB_length, List.length_take, HK.out]; omega
      have hww := HWW.out a c (d ++ headB n (l.take q)) (l.getD q 0).toNat wr (by rw [hlx]; exact hOq.out) (by rw [hlx]; omega) (by omega) hB
      have hex : ((l.getD q 0).toNat : Int) = l.getD q 0 := by omega
      have hnx : d ++ headB n (l.take q) ++ word4 (l.getD q 0).toNat = d ++ headB n (l.take (q + 1)) := by rw [headB, headB, bodyB_snoc hlt2]; simp only [List.append_assoc]
      have hlx2 : (d ++ headB n (l.take (q + 1))).length = k + 4 + 4 * (q + 1) := by rw [List.length_append, headB_length, List.length_take, HK.out]; omega
      rw [hlx, hnx, hlx2, hex] at hww
      have e5 : k + 4 + 4 * q + 4 = k + 4 + 4 * (q + 1) := by omega
      rw [e5] at hww
      clear hca hat hlx hnx hlx2 hex e5 hou
      generalize l.getD q 0 = x at *
      go_wp2_with (go_at_call 30; refine hww.mono ?_; rintro e w2 ⟨a2, c2, rfl, hb2, hO2⟩)
      go_roundw
      case rel => exact ⟨q + 1, by omega, by go_num, a2, c2, rfl, hb2, hO2⟩
      case measure => simp [intOf]; omega
    · obtain rfl : q = n := by omega
      have hall : l.take q = l := by rw [List.take_of_length_le]; rw [HN.out]; omega
      rw [hall] at hOq
      have hlx : (d ++ headB q l).length = k + 4 + 4 * q := by rw [List.length_append, headB_length, HK.out, HN.out]; omega
      have hlh : (headB q l).length = 4 + 4 * q := by rw [headB_length, HN.out]
      obtain ⟨g, rfl, hnk, hgc, hbv⟩ := owns_from hOq.out HK.out (by omega)
      clear hnk
      have hsum := sum_any _ _ _ (by omega) hbv
      have hsl := sumL_lt (headB q l)
      have hww := HWW.out (some ⟨g, 0, none⟩) c (d ++ headB q l) (sumL (headB q l)) wr (by rw [hlx]; exact hOq.out) (by rw [hlx]; omega) (by omega) hB
      rw [HFin.out, hlx] at hww
      rw [HLr.out] at hww
      rw [hlh] at hsum hbv
      have ek : k + 4 + 4 * q - k = 4 + 4 * q := by omega
      generalize sumL (headB q l) = sm at *
      go_wp2_with (first | (go_at_call 10; refine hsum.mono ?_; rintro e w2 ⟨rfl, rfl⟩) | (go_at_call 30; refine hww.mono ?_; rintro e w2 ⟨a2, c2, rfl, hb2, hO2⟩))
      go_ret
      exact ⟨a2, c2, rfl, hb2, hO2⟩

/-- what the document's RecordBytes answers. -/
def RbPost (w : World) (l : List Int) (e : Ending) (w' : World) : Prop :=
  Below w.heap.size w w' ∧ (wrC l ≠ 0 → e = .returned (.tuple #[.slice none 0 0, .int .i64 (wrC l)])) ∧
    (wrC l = 0 → ∃ ao cap, e = .returned (.tuple #[.slice ao (recB l).length cap, .int .i64 0]) ∧ Hid (w'.ownsRow w.heap.size 5 1 (.slice ao (recB l).length cap) (recB l).length (bvals (recB l))))
theorem wrC_long {l : List Int} (h : 4000 < l.length) : wrC l = 1 := by simp [wrC, h]
theorem wrC_out {l : List Int} (h : l.length ≤ 4000) (ha : l.any outB = true) : wrC l = 2 := by rw [wrC, if_neg (by omega), if_pos ha]
theorem wrC_ok {l : List Int} (h : l.length ≤ 4000) (ha : l.any outB = false) : wrC l = 0 := by rw [wrC, if_neg (by omega), if_neg (by rw [ha]; simp)]
theorem outB_in (x : Int) : decide (0 ≤ x ∧ x ≤ 2147483647) = !outB x := by
  by_cases h1 : x < 0
  · simp [outB, h1]; omega
  · by_cases h2 : 2147483647 < x
    · simp [outB, h2]
    · simp [outB, h1, h2]; omega

end Go.Proofs.Ytjnobdpjohbdnaa
