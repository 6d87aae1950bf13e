/-
  The contracts of the program's codeOf, Code.
-/
import Derived.Test.YtcddocjpdlacaaaDoorMCount
import Derived.Test.YtcddocjpdlacaaaDoorCodeRes
import Derived.Test.YtcddocjpdlacaaaDoorIntsOf
import Derived.Deep.RegionHeld3
namespace Go.Proofs.YtcddocjpdlacaaaDoor
open Go.ChangeShapes Go.WideShapes Go.ChangeAt Go.RowKit Go.Deep
open Terms Tm

set_option maxRecDepth 20000 in
set_option maxHeartbeats 1600000 in
theorem codeOf_any (va vv : Value) (l : List Vr) (vals : List Int) (w : World) (hok : VarsOk l) (hlen : vals.length = l.length) (hin : ∀ i, i < l.length → inB l vals i) (hV : VarsV w va l) (hI : IntsV w vv vals) :
    Calls Tryd.prog 14 #[va, vv] w fun e w' => e = .returned (.int .i64 (codeTo l vals l.length)) ∧ Below w.heap.size w w' := by
  obtain ⟨ao, cap, rfl⟩ := hV.shape
  obtain ⟨io, icap, rfl⟩ := hI.shape
  have HV : Hid (VarsV w (.slice ao l.length cap) l) := hV
  have HI : Hid (IntsV w (.slice io vals.length icap) vals) := hI
  have HOK : Hid (VarsOk l) := hok
  have HIN : Hid (∀ i, i < l.length → inB l vals i) := hin
  have HLen : Hid (vals.length = l.length) := hlen
  have h6 := hok.1
  obtain ⟨n, hn⟩ : ∃ n, n = l.length := ⟨_, rfl⟩
  have HN : Hid (n = l.length) := hn
  rw [hlen, ← hn] at HI
  rw [hlen, ← hn]
  rw [← hn] at h6 HV
  clear hV hI hn hok hin hlen
  go_enter Tryd.func14, Tryd.ntmps14
  go_wp2
  go_loopw [5, 10] (fun st i wr => ∃ k : Nat, k ≤ n ∧ i = .int .i64 k ∧ st = .int .i64 (codeTo l vals k) ∧ Below w.heap.size w wr) (fun _ i _ => n - (intOf i).toNat)
  case atStart => exact ⟨0, Nat.zero_le _, rfl, rfl, Below.refl _ _⟩
  case round =>
    obtain ⟨k, hk, rfl, rfl, hbel⟩ := hrel
    by_cases hlt : k < n
    · obtain ⟨b, off, rfl, hblt, hat⟩ := HV.out.at (i := k) (by rw [← HN.out]; exact hlt)
      obtain ⟨ib, ioff, rfl, hilt, hic⟩ := HI.out.at (i := k) (by rw [HLen.out, ← HN.out]; exact hlt)
      obtain ⟨c0, c1, c2, c3⟩ := hat.below hbel hblt
      have hic2 := (hbel.cell (p := ⟨ib, ioff + k, none⟩) hilt).trans hic
      have hcb := code_bounds HOK.out (k := k) (by rw [← HN.out]; exact hk) (fun i hi => HIN.out i (by rw [← HN.out]; omega))
      have hpb := HOK.out.prod (j := k) (by rw [← HN.out]; exact hk)
      have hvb := HOK.out.at (j := k) (by rw [← HN.out]; exact hlt)
      have hxb := HIN.out k (by rw [← HN.out]; exact hlt)
      have HPr : Hid (codeTo l vals (k + 1) = codeTo l vals k * vspan (l.getD k vr0) + (vals.getD k 0 - (l.getD k vr0).lo)) := rfl
      unfold inB at hxb
      generalize codeTo l vals k = st at *
      generalize prodTo l k = pr at *
      generalize l.getD k vr0 = x at *
      generalize vals.getD k 0 = y at *
      obtain ⟨s, lo, hi, ini⟩ := x
      simp only [vspan] at c0 c1 c2 c3 HPr hvb hxb
      obtain ⟨hv1, hv2, hv3, hv4, hv5, hv6, hv7⟩ := hvb
      have hsp := fun w => span_any s lo hi ini w hv3 hv4 hv5
      obtain ⟨sp, hspe⟩ : ∃ sp, hi - lo + 1 = sp := ⟨_, rfl⟩
      rw [hspe] at hv1 hv2 hsp HPr
      clear hspe hat hic
      have hm1 : 0 ≤ st * sp := Int.mul_nonneg hcb.1 (by omega)
      have hm2 : st * sp ≤ 262144 := by
        have h1 : st ≤ 4096 := by omega
        have := Int.mul_le_mul h1 hv2 (by omega) (by omega); simpa using this
      have hw1 : IntKind.i64.wrap (st * sp) = st * sp := wr64 (by omega) (by omega)
      have hw2 : IntKind.i64.wrap (st * sp + y) = st * sp + y := wr64 (by omega) (by omega)
      have hw3 : IntKind.i64.wrap (st * sp + y - lo) = st * sp + y - lo := wr64 (by omega) (by omega)
      have hszw := hbel.size
      have hbA := hbel.alloc hszw (.cells #[.string s, .int .i64 lo, .int .i64 hi, .int .i64 ini] 58)
      have hic3 := (((Below.refl wr.heap.size wr).alloc (Nat.le_refl _) (.cells #[.string s, .int .i64 lo, .int .i64 hi, .int .i64 ini] 58)).cell (p := ⟨ib, ioff + k, none⟩) (by simp only; omega)).trans hic2
      have hi0 : (0 : Int) ≤ (k : Int) := Int.natCast_nonneg _
      have hi1 : (k : Int) < (n : Int) := by omega
      have hS0 : ∀ w', Below (wr.heap.size + 1) (wr.alloc (.cells #[.string s, .int .i64 lo, .int .i64 hi, .int .i64 ini] 58)) w' → w'.cell? ⟨wr.heap.size, 0, none⟩ = some (.string s) ∧ w'.cell? ⟨wr.heap.size, 1, none⟩ = some (.int .i64 lo) ∧ w'.cell? ⟨wr.heap.size, 2, none⟩ = some (.int .i64 hi) ∧ w'.cell? ⟨wr.heap.size, 3, none⟩ = some (.int .i64 ini) ∧ w'.cell? ⟨ib, ioff + k, none⟩ = some (.int .i64 y) := fun w' hw' =>
        ⟨(hw'.cell (p := ⟨wr.heap.size, 0, none⟩) (by simp)).trans (by simp [go_sem]), (hw'.cell (p := ⟨wr.heap.size, 1, none⟩) (by simp)).trans (by simp [go_sem]), (hw'.cell (p := ⟨wr.heap.size, 2, none⟩) (by simp)).trans (by simp [go_sem]), (hw'.cell (p := ⟨wr.heap.size, 3, none⟩) (by simp)).trans (by simp [go_sem]), (hw'.cell (p := ⟨ib, ioff + k, none⟩) (by simp only; omega)).trans hic3⟩
      have hB0 : Below (wr.heap.size + 1) (wr.alloc (.cells #[.string s, .int .i64 lo, .int .i64 hi, .int .i64 ini] 58)) (wr.alloc (.cells #[.string s, .int .i64 lo, .int .i64 hi, .int .i64 ini] 58)) := Below.refl _ _
      clear hic3 hic2
      go_wp2_with fail
      go_region_held3 (fun w' => w'.cell? ⟨wr.heap.size, 0, none⟩ = some (.string s) ∧ w'.cell? ⟨wr.heap.size, 1, none⟩ = some (.int .i64 lo) ∧ w'.cell? ⟨wr.heap.size, 2, none⟩ = some (.int .i64 hi) ∧ w'.cell? ⟨wr.heap.size, 3, none⟩ = some (.int .i64 ini) ∧ w'.cell? ⟨ib, ioff + k, none⟩ = some (.int .i64 y))
        (exact hS0 _ (by first | exact hB0 | exact hB0.drew | exact hB0.drew.trans (hb2.mono (by simp))))
        (first | (go_at_call 26; refine (hsp _).mono ?_; rintro e w2 ⟨rfl, hb2⟩))
      go_wp2_with fail
      go_roundw
      case rel => exact ⟨k + 1, hlt, by go_num, by rw [HPr.out]; first | (congr 1; omega) | (simp [hw1, hw2, hw3]; omega), hbA.drew.trans (hb2.mono (by simp; omega))⟩
      case measure => simp [intOf]; omega
    · have hkn : k = n := by omega
      subst hkn
      go_wp2
      go_ret
      exact ⟨rfl, hbel⟩
end Go.Proofs.YtcddocjpdlacaaaDoor
