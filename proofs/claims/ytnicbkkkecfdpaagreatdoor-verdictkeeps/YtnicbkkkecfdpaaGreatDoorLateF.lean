/-
  Joined out of RefCount, RefCode, RefValues, RefAfter, RefLetter, RefKeeps0, RefNext, RefFirst, RefRuns, RefWord0, LogicTru, in their order: a claim bears at most so many files.
-/
import Derived.Test.YtnicbkkkecfdpaaGreatDoorRefModel
import Derived.Test.YtnicbkkkecfdpaaGreatDoorLateA
import Derived.Deep.AppendLies
import Derived.Deep.RegionHeld3
import Derived.Test.YtnicbkkkecfdpaaGreatDoorLateB
import Derived.Test.YtnicbkkkecfdpaaGreatDoorLateE
import Derived.Deep.QuietTactic
import Derived.Test.YtnicbkkkecfdpaaGreatDoorRefIn
import Derived.Test.YtnicbkkkecfdpaaGreatDoorLateC
/-
  The contracts of the document's own behindVar, StateCount.
-/
namespace Go.Proofs.YtnicbkkkecfdpaaGreatDoor
open Go.ChangeShapes Go.WideShapes Go.ChangeAt Go.RowKit Go.Deep
open Terms Tm

set_option maxRecDepth 20000 in
set_option maxHeartbeats 1600000 in
theorem behindVar_any (va : Value) (ro : Option Addr) (rn rc : Nat) (l : List Vr) (a : Nat) (w : World) (hok : VarsOk l) (ha : a ≤ l.length) (hV : VarsV w va l) :
    Calls Tryz.prog 50 #[.agg #[va, .slice ro rn rc], .int .i64 ((a : Int) - 1)] w fun e w' => e = .returned (.int .i64 (segP l a)) ∧ Below w.heap.size w w' := by
  obtain ⟨ao, cap, rfl⟩ := hV.shape
  have HV : Hid (VarsV w (.slice ao l.length cap) l) := hV
  have HOK : Hid (VarsOk l) := hok
  have h6 := hok.1
  unfold segP
  obtain ⟨n, hn⟩ : ∃ n, n = l.length := ⟨_, rfl⟩
  have HN : Hid (n = l.length) := hn
  rw [← hn] at h6 ha HV ⊢
  clear hV hn hok
  have hA : Below w.heap.size w (w.alloc (.cells #[.slice ao n cap, .slice ro rn rc] 25)) := (Below.refl _ _).alloc (Nat.le_refl _) _
  go_enter Tryz.func50, Tryz.ntmps50
  go_wp2
  go_loopw [5, 6] (fun st i wr => ∃ c : Nat, a + c ≤ n ∧ i = .int .i64 ((a + c : Nat) : Int) ∧ st = .int .i64 (prodSeg l a c) ∧ ∃ d, wr = (w.alloc (.cells #[.slice ao n cap, .slice ro rn rc] 25)).drewN d) (fun _ i _ => n - (intOf i).toNat)
  case atStart => exact ⟨0, by omega, by first | rfl | (congr 1; omega) | go_num, rfl, 0, rfl⟩
  case round =>
    obtain ⟨c, hc, rfl, rfl, d, rfl⟩ := hrel
    by_cases hlt : a + c < n
    · obtain ⟨b, off, rfl, hblt, hat⟩ := HV.out.at (i := a + c) (by rw [← HN.out]; exact hlt)
      obtain ⟨c0, c1, c2, c3⟩ := hat.below hA hblt
      have hpb1 := prodSeg_pos HOK.out (a := a) (c := c) (by rw [← HN.out]; exact hc)
      have hpb2 := prodSeg_le HOK.out (a := a) (c := c) (by rw [← HN.out]; exact hc)
      have hvb := HOK.out.at (j := a + c) (by rw [← HN.out]; exact hlt)
      have HPr : Hid (prodSeg l a (c + 1) = prodSeg l a c * vspan (l.getD (a + c) vr0)) := rfl
      generalize prodSeg l a c = st at *
      generalize l.getD (a + c) vr0 = x at *
      obtain ⟨s, lo, hi, ini⟩ := x
      simp only [vspan] at c0 c1 c2 c3 HPr hvb
      obtain ⟨hv1, hv2, hv3, hv4, hv5, hv6, hv7⟩ := hvb
      have hm1 : 1 ≤ st * (hi - lo + 1) := by have := Int.mul_le_mul hpb1 hv1 (by omega) (by omega); simpa using this
      have hm2 : st * (hi - lo + 1) ≤ 262144 := by have := Int.mul_le_mul hpb2 hv2 (by omega) (by omega); simpa using this
      obtain ⟨k, hk⟩ : ∃ k, k = a + c := ⟨_, rfl⟩
      have HK : Hid (k = a + c) := hk
      rw [← hk] at hlt c0 c1 c2 c3 ⊢
      clear hat hk
      have hi0 : (0 : Int) ≤ (k : Int) := Int.natCast_nonneg _
      have hi1 : (k : Int) < (n : Int) := by omega
      have hw1 : IntKind.i64.wrap (hi - lo) = hi - lo := wr64 (by omega) (by omega)
      have hw2 : IntKind.i64.wrap (hi - lo + 1) = hi - lo + 1 := wr64 (by omega) (by omega)
      have hw3 : IntKind.i64.wrap (st * (hi - lo + 1)) = st * (hi - lo + 1) := wr64 (by omega) (by omega)
      go_wp2_with fail
      go_quiet (fail)
      go_wp2_with fail
      go_roundw
      case rel => exact ⟨c + 1, by have := HK.out; omega, by have := HK.out; congr 1; omega, by rw [HPr.out], _, rfl⟩
      case measure => simp [intOf]; omega
    · have hce : c = n - a := by omega
      subst hce
      go_wp2_with fail
      go_ret
      exact ⟨rfl, below_drewN hA _⟩
set_option maxRecDepth 20000 in
/-- THE CONTRACT OF StateCount. -/
theorem rcount_any (va vr : Value) (m : Mo) (w : World) (hV : ModelV w va vr m) :
    Calls Tryz.prog 28 #[.agg #[va, vr]] w fun e w' => e = .returned (.tuple #[.int .i64 (if mcode m = 0 then prodTo m.vars m.vars.length else 0), .int .i64 (mcode m)]) ∧ Below w.heap.size w w' := by
  have hA : ∀ o, Below w.heap.size w (w.alloc o) := fun o => (Below.refl _ _).alloc (Nat.le_refl _) o
  have hch := fun o => rmodel_any va vr m (w.alloc o) (hV.below (hA o))
  have HV : Hid (ModelV w va vr m) := hV
  obtain ⟨ao, cap, rfl⟩ := hV.1.shape
  obtain ⟨ro, rc, rfl⟩ := hV.2.shape
  clear hV
  by_cases hz : mcode m = 0
  · have hok := mcode_vars hz
    have hcn := (fun w1 (hb : Below w.heap.size w w1) => behindVar_any _ ro m.rules.length rc m.vars 0 w1 hok (Nat.zero_le _) (HV.out.1.below hb))
    rw [segP_zero, show ((0 : Nat) : Int) - 1 = -1 by decide] at hcn
    rw [hz] at hch ⊢
    rw [if_pos rfl]
    generalize prodTo m.vars m.vars.length = N at *
    generalize m.vars.length = n at *
    generalize m.rules.length = rn at *
    clear hz hok HV
    go_enter Tryz.func28, Tryz.ntmps28
    go_wp2_with (first | (go_at_call 46; refine (hch _).mono ?_; rintro e w1 ⟨rfl, hb1⟩; have hcb0 : w1.cell? ⟨w.heap.size, 0, none⟩ = some (.slice ao n cap) := (hb1.cell (p := ⟨w.heap.size, 0, none⟩) (by simp)).trans (by simp [go_sem]); have hcb1 : w1.cell? ⟨w.heap.size, 1, none⟩ = some (.slice ro rn rc) := (hb1.cell (p := ⟨w.heap.size, 1, none⟩) (by simp)).trans (by simp [go_sem]); have hbw := (hA _).trans (hb1.mono (hA _).size)) | (go_at_call 50; refine (hcn _ hbw).mono ?_; rintro e w2 ⟨rfl, hb2⟩))
    go_ret2
    exact ⟨rfl, hbw.trans (hb2.mono hbw.size)⟩
  · rw [if_neg hz]
    generalize mcode m = x at *
    generalize m.vars.length = n at *
    generalize m.rules.length = rn at *
    clear HV
    go_enter Tryz.func28, Tryz.ntmps28
    go_wp2_with (go_at_call 46; refine (hch _).mono ?_; rintro e w1 ⟨rfl, hb1⟩)
    go_ret2
    exact ⟨rfl, (hA _).trans (hb1.mono (hA _).size)⟩
end Go.Proofs.YtnicbkkkecfdpaaGreatDoor

/-
  The contract of the document's own CodeOf.
-/
namespace Go.Proofs.YtnicbkkkecfdpaaGreatDoor
open Go.ChangeShapes Go.WideShapes Go.ChangeAt Go.RowKit Go.Deep
open Terms Tm

set_option maxRecDepth 20000 in
theorem rcode_bad (va vr vv : Value) (m : Mo) (w : World) (hV : ModelV w va vr m) (io : Option Addr) (il ic : Nat) (hv : vv = .slice io il ic) (h : mcode m ≠ 0) :
    Calls Tryz.prog 51 #[.agg #[va, vr], vv] w fun e w' => e = .returned (.tuple #[.int .i64 0, .int .i64 (mcode m)]) ∧ Below w.heap.size w w' := by
  subst hv
  have hA : ∀ o, Below w.heap.size w (w.alloc o) := fun o => (Below.refl _ _).alloc (Nat.le_refl _) o
  have hch := fun o => rmodel_any va vr m (w.alloc o) (hV.below (hA o))
  obtain ⟨ao, cap, rfl⟩ := hV.1.shape
  obtain ⟨ro, rc, rfl⟩ := hV.2.shape
  generalize mcode m = x at *
  generalize m.vars.length = n at *
  generalize m.rules.length = rn at *
  clear hV
  go_enter Tryz.func51, Tryz.ntmps51
  go_wp2_with (go_at_call 46; refine (hch _).mono ?_; rintro e w1 ⟨rfl, hb1⟩)
  go_ret2
  exact ⟨rfl, (hA _).trans (hb1.mono (hA _).size)⟩
set_option maxRecDepth 20000 in
theorem rcode_len (va vr vv : Value) (m : Mo) (w : World) (hV : ModelV w va vr m) (io : Option Addr) (il ic : Nat) (hv : vv = .slice io il ic) (h : mcode m = 0) (hl : il ≠ m.vars.length) :
    Calls Tryz.prog 51 #[.agg #[va, vr], vv] w fun e w' => e = .returned (.tuple #[.int .i64 0, .int .i64 9]) ∧ Below w.heap.size w w' := by
  subst hv
  have hA : ∀ o, Below w.heap.size w (w.alloc o) := fun o => (Below.refl _ _).alloc (Nat.le_refl _) o
  have hch := fun o => rmodel_any va vr m (w.alloc o) (hV.below (hA o))
  rw [h] at hch
  obtain ⟨ao, cap, rfl⟩ := hV.1.shape
  obtain ⟨ro, rc, rfl⟩ := hV.2.shape
  generalize m.vars.length = n at *
  generalize m.rules.length = rn at *
  have hne : ((il : Int) == (n : Int)) = false := by rw [beq_eq_false_iff_ne]; omega
  clear hV h
  go_enter Tryz.func51, Tryz.ntmps51
  go_wp2_with (go_at_call 46; refine (hch _).mono ?_; rintro e w1 ⟨rfl, hb1⟩; have hcb : w1.cell? ⟨w.heap.size, 0, none⟩ = some (.slice ao n cap) := (hb1.cell (p := ⟨w.heap.size, 0, none⟩) (by simp)).trans (by simp [go_sem]))
  all_goals first | (exfalso; omega) | go_ret2
  all_goals exact ⟨rfl, (hA _).trans (hb1.mono (hA _).size)⟩

set_option maxRecDepth 20000 in
set_option maxHeartbeats 3200000 in
theorem rcode_loop (va vr vv : Value) (m : Mo) (vals : List Int) (w : World) (hV : ModelV w va vr m) (hI : IntsV w vv vals) (h : mcode m = 0) (hlen : vals.length = m.vars.length) :
    Calls Tryz.prog 51 #[.agg #[va, vr], vv] w fun e w' => e = .returned (.tuple #[.int .i64 (cval m vals), .int .i64 (ccode m vals)]) ∧ Below w.heap.size w w' := by
  have hA : ∀ o, Below w.heap.size w (w.alloc o) := fun o => (Below.refl _ _).alloc (Nat.le_refl _) o
  have hch := fun o => rmodel_any va vr m (w.alloc o) (hV.below (hA o))
  rw [h] at hch
  have hok := mcode_vars h
  have HOK : Hid (VarsOk m.vars) := hok
  have h6 := hok.1
  obtain ⟨ao, cap, rfl⟩ := hV.1.shape
  obtain ⟨ro, rc, rfl⟩ := hV.2.shape
  obtain ⟨io, icap, rfl⟩ := hI.shape
  have hbv := (fun w1 (hb : Below w.heap.size w w1) a (ha : a ≤ m.vars.length) => behindVar_any (.slice ao m.vars.length cap) ro m.rules.length rc m.vars a w1 hok ha (hV.1.below hb))
  have HBV := (show Hid _ from hbv)
  have HV : Hid (VarsV w (.slice ao m.vars.length cap) m.vars) := hV.1
  have HI : Hid (IntsV w (.slice io vals.length icap) vals) := hI
  have HYes : Hid ((∀ i, i < m.vars.length → inB m.vars vals i) → ccode m vals = 0 ∧ cval m vals = sumTo m.vars vals m.vars.length) := fun hin => by
    have h1 := ccode_yes h ⟨hlen, hin⟩
    exact ⟨h1, by unfold cval; rw [if_pos h1, sum_all]⟩
  have HNo : Hid (∀ k, k < m.vars.length → ¬ inB m.vars vals k → ccode m vals = 9 ∧ cval m vals = 0) := fun k hk hin => by
    have h1 := ccode_no h (vals := vals) (fun h => hin (h.2 k hk))
    exact ⟨h1, by unfold cval; rw [h1, if_neg (by decide)]⟩
  have HLen : Hid (vals.length = m.vars.length) := hlen
  obtain ⟨n, hn⟩ : ∃ n, n = m.vars.length := ⟨_, rfl⟩
  have HN : Hid (n = m.vars.length) := hn
  rw [hlen] at HI ⊢
  rw [← hn] at h6 hch HBV HV HI HYes HNo ⊢
  generalize m.rules.length = rn at *
  generalize ccode m vals = cc at *
  generalize cval m vals = cv at *
  clear hV hI hbv hlen hn hok h
  go_enter Tryz.func51, Tryz.ntmps51
  go_wp2_with (go_at_call 46; refine (hch _).mono ?_; rintro e w1 ⟨rfl, hb1⟩; have hcb : w1.cell? ⟨w.heap.size, 0, none⟩ = some (.slice ao n cap) := (hb1.cell (p := ⟨w.heap.size, 0, none⟩) (by simp)).trans (by simp [go_sem]))
  have hb1' : Below (w.heap.size + 1) (w.alloc (.cells #[.slice ao n cap, .slice ro rn rc] 25)) w1 := hb1.mono (by simp)
  clear hch hcb hb1
  go_loopw [7, 8] (fun st i wr => ∃ k : Nat, k ≤ n ∧ i = .int .i64 k ∧ st = .int .i64 (sumTo m.vars vals k) ∧ Hid (∀ i, i < k → inB m.vars vals i) ∧ Below (w.heap.size + 1) (w.alloc (.cells #[.slice ao n cap, .slice ro rn rc] 25)) wr) (fun _ i _ => n - (intOf i).toNat)
  case atStart => exact ⟨0, Nat.zero_le _, rfl, rfl, fun j hj => by omega, hb1'⟩
  case round =>
    obtain ⟨k, hk, rfl, rfl, HJ, hbelB⟩ := hrel
    clear hb1'
    have hbel := (hA _).trans (hbelB.mono (Nat.le_succ _))
    have hszb : w.heap.size + 1 ≤ wr.heap.size := by have := hbelB.size; simp at this; omega
    have hlb : w.heap.size < wr.heap.size := by omega
    have cb := (hbelB.cell (p := ⟨w.heap.size, 0, none⟩) (by simp)).trans (show _ = some (.slice ao n cap) by simp [go_sem])
    have cb1 := (hbelB.cell (p := ⟨w.heap.size, 1, none⟩) (by simp)).trans (show _ = some (.slice ro rn rc) by simp [go_sem])
    by_cases hlt : k < n
    · obtain ⟨b, off, rfl, hblt, hat⟩ := HV.out.at (i := k) (by rw [← HN.out]; exact hlt)
      obtain ⟨ib, ioff, rfl, hilt, hic⟩ := HI.out.at (i := k) (by rw [HLen.out, ← HN.out]; exact hlt)
      obtain ⟨c0, c1, c2, c3⟩ := hat.below hbel hblt
      have hic2 := (hbel.cell (p := ⟨ib, ioff + k, none⟩) hilt).trans hic
      have HNk := (show Hid _ from HNo.out k hlt)
      unfold inB at HNk
      have hsb := sum_bounds HOK.out (k := k) (by rw [← HN.out]; exact hk) HJ.out
      have hgb := segP_bounds HOK.out (i := k + 1) (by rw [← HN.out]; exact hlt)
      have hvb := HOK.out.at (j := k) (by rw [← HN.out]; exact hlt)
      have HPr : Hid (sumTo m.vars vals (k + 1) = sumTo m.vars vals k + (vals.getD k 0 - (m.vars.getD k vr0).lo) * segP m.vars (k + 1)) := rfl
      have HJ3 : Hid ((m.vars.getD k vr0).lo ≤ vals.getD k 0 ∧ vals.getD k 0 ≤ (m.vars.getD k vr0).hi → ∀ i, i < k + 1 → inB m.vars vals i) := fun h i hi => by
        by_cases hik : i = k
        · subst hik; exact h
        · exact HJ.out i (by omega)
      have hbvk := (fun w1 hb => HBV.out w1 hb (k + 1) (by omega))
      rw [show ((k + 1 : Nat) : Int) - 1 = (k : Int) by omega] at hbvk
      generalize sumTo m.vars vals k = st at *
      generalize segP m.vars (k + 1) = sg at *
      generalize m.vars.getD k vr0 = x at *
      generalize vals.getD k 0 = y at *
      obtain ⟨s, lo, hi, ini⟩ := x
      simp only [vspan] at c0 c1 c2 c3 HNk HJ3 HPr hvb
      obtain ⟨hv1, hv2, hv3, hv4, hv5, hv6, hv7⟩ := hvb
      clear hat hic HJ
      have hi0 : (0 : Int) ≤ (k : Int) := Int.natCast_nonneg _
      have hi1 : (k : Int) < (n : Int) := by omega
      have hin0 := fun w => in_any y lo hi w
      have hbo : b < wr.heap.size := by omega
      have hio : ib < wr.heap.size := by omega
      by_cases hin : lo ≤ y ∧ y ≤ hi
      · rw [decide_eq_true hin] at hin0
        have HJ4 := (show Hid _ from HJ3.out hin)
        obtain ⟨hy1, hy2⟩ := hin
        have hm1 : 0 ≤ (y - lo) * sg := Int.mul_nonneg (by omega) (by omega)
        have hm2 : (y - lo) * sg ≤ 262144 := by
          have := Int.mul_le_mul (show y - lo ≤ 64 by omega) hgb.2 (by omega) (by omega); simpa using this
        have hw1 : IntKind.i64.wrap (y - lo) = y - lo := wr64 (by omega) (by omega)
        have hw2 : IntKind.i64.wrap ((y - lo) * sg) = (y - lo) * sg := wr64 (by omega) (by omega)
        have hw3 : IntKind.i64.wrap (st + (y - lo) * sg) = st + (y - lo) * sg := wr64 (by omega) (by omega)
        clear HJ3 HNk HNo HYes HBV
        go_wp2_with fail
        go_quiet ((go_at_call 30; exact Calls.quiet_of_same (hin0 _)))
        go_wp2_with fail
        have hB0 : Below wr.heap.size wr (wr.drewN nq) := below_drewN (Below.refl _ _) _
        have hbvk2 := fun w2 (hb2 : Below wr.heap.size wr w2) => hbvk w2 (hbel.trans (hb2.mono hbel.size))
        have hS0 : ∀ w', Below wr.heap.size wr w' → w'.cell? ⟨w.heap.size, 0, none⟩ = some (.slice (some ⟨b, off, none⟩) n cap) ∧ w'.cell? ⟨w.heap.size, 1, none⟩ = some (.slice ro rn rc) ∧ w'.cell? ⟨b, off + k * 4 + 1, none⟩ = some (.int .i64 lo) ∧ w'.cell? ⟨ib, ioff + k, none⟩ = some (.int .i64 y) := fun w' hw' =>
          ⟨(hw'.cell (p := ⟨w.heap.size, 0, none⟩) hlb).trans cb, (hw'.cell (p := ⟨w.heap.size, 1, none⟩) hlb).trans cb1, (hw'.cell (p := ⟨b, off + k * 4 + 1, none⟩) hbo).trans c1, (hw'.cell (p := ⟨ib, ioff + k, none⟩) hio).trans hic2⟩
        clear hbvk cb cb1 c0 c1 c2 c3 hic2
        go_region_held3 (fun w' => w'.cell? ⟨w.heap.size, 0, none⟩ = some (.slice (some ⟨b, off, none⟩) n cap) ∧ w'.cell? ⟨w.heap.size, 1, none⟩ = some (.slice ro rn rc) ∧ w'.cell? ⟨b, off + k * 4 + 1, none⟩ = some (.int .i64 lo) ∧ w'.cell? ⟨ib, ioff + k, none⟩ = some (.int .i64 y))
          (exact hS0 _ (by first | exact hB0 | exact hB0.drew | exact hB0.drew.trans (hb2.mono (by simp))))
          (first | (go_at_call 50; refine (hbvk2 _ hB0.drew).mono ?_; rintro e w2 ⟨rfl, hb2⟩))
        go_wp2_with fail
        go_roundw
        case rel => exact ⟨k + 1, hlt, by go_num, by rw [HPr.out], HJ4, hbelB.trans ((hB0.drew.trans (hb2.mono (by simp))).mono hszb)⟩
        case measure => simp [intOf]; omega
      · rw [decide_eq_false hin] at hin0
        have HR := (show Hid _ from HNk.out hin)
        clear hin HJ3 HNk HNo HYes HBV hbvk
        go_wp2_with fail
        go_quiet ((go_at_call 30; exact Calls.quiet_of_same (hin0 _)))
        go_wp2_with fail
        go_ret2
        rw [HR.out.1, HR.out.2]
        exact ⟨rfl, below_drewN hbel _⟩
    · have hkn : k = n := by omega
      subst hkn
      have HR := (show Hid _ from HYes.out HJ.out)
      generalize sumTo m.vars vals k = cd at *
      clear HJ HYes HNo HBV
      go_wp2
      go_ret2
      rw [HR.out.1, HR.out.2]
      exact ⟨rfl, hbel⟩

set_option maxRecDepth 20000 in
/-- THE CONTRACT OF CodeOf. -/
theorem rcodes_any (va vr vv : Value) (m : Mo) (vals : List Int) (w : World) (hV : ModelV w va vr m) (hI : IntsV w vv vals) :
    Calls Tryz.prog 51 #[.agg #[va, vr], vv] w fun e w' => e = .returned (.tuple #[.int .i64 (cval m vals), .int .i64 (ccode m vals)]) ∧ Below w.heap.size w w' := by
  obtain ⟨io, ic, hv⟩ := hI.shape
  by_cases h : mcode m = 0
  · by_cases hl : vals.length = m.vars.length
    · exact rcode_loop va vr vv m vals w hV hI h hl
    · have h9 := ccode_no h (vals := vals) (fun h => hl h.1)
      unfold cval
      rw [h9, if_neg (by decide)]
      exact rcode_len va vr vv m w hV io _ ic hv h hl
  · have h9 := ccode_bad (vals := vals) h
    unfold cval
    rw [h9, if_neg h]
    exact rcode_bad va vr vv m w hV io _ ic hv h
end Go.Proofs.YtnicbkkkecfdpaaGreatDoor

/-
  The contract of the document's own ValuesOf.
-/
namespace Go.Proofs.YtnicbkkkecfdpaaGreatDoor
open Go.ChangeShapes Go.WideShapes Go.ChangeAt Go.RowKit Go.Deep
open Terms Tm

set_option maxRecDepth 20000 in
theorem ivals_snoc (f : Nat → Int) (k : Nat) : ivals ((List.range (k + 1)).map f) = ivals ((List.range k).map f) ++ [.int .i64 (f k)] := by
  simp [ivals, List.range_succ]

set_option maxRecDepth 20000 in
theorem rvalues_bad (va vr : Value) (m : Mo) (code : Int) (w : World) (hV : ModelV w va vr m) (h : mcode m ≠ 0) :
    Calls Tryz.prog 32 #[.agg #[va, vr], .int .i64 code] w fun e w' => e = .returned (.tuple #[.slice none 0 0, .int .i64 (mcode m)]) ∧ Below w.heap.size w w' := by
  have hA : ∀ o, Below w.heap.size w (w.alloc o) := fun o => (Below.refl _ _).alloc (Nat.le_refl _) o
  have hch := fun o => rcount_any va vr m (w.alloc o) (hV.below (hA o))
  rw [if_neg h] at hch
  obtain ⟨ao, cap, rfl⟩ := hV.1.shape
  obtain ⟨ro, rc, rfl⟩ := hV.2.shape
  generalize mcode m = x at *
  generalize m.vars.length = n at *
  generalize m.rules.length = rn at *
  clear hV
  go_enter Tryz.func32, Tryz.ntmps32
  go_wp2_with (go_at_call 28; refine (hch _).mono ?_; rintro e w1 ⟨rfl, hb1⟩)
  go_ret2
  exact ⟨rfl, (hA _).trans (hb1.mono (hA _).size)⟩
set_option maxRecDepth 20000 in
theorem rvalues_no (va vr : Value) (m : Mo) (code : Int) (w : World) (hV : ModelV w va vr m) (h : mcode m = 0) (hc : ¬ (0 ≤ code ∧ code < prodTo m.vars m.vars.length)) :
    Calls Tryz.prog 32 #[.agg #[va, vr], .int .i64 code] w fun e w' => e = .returned (.tuple #[.slice none 0 0, .int .i64 9]) ∧ Below w.heap.size w w' := by
  have hA : ∀ o, Below w.heap.size w (w.alloc o) := fun o => (Below.refl _ _).alloc (Nat.le_refl _) o
  have hch := fun o => rcount_any va vr m (w.alloc o) (hV.below (hA o))
  rw [if_pos h, h] at hch
  have hN := (mcode_vars h).prod (j := m.vars.length) (Nat.le_refl _)
  obtain ⟨ao, cap, rfl⟩ := hV.1.shape
  obtain ⟨ro, rc, rfl⟩ := hV.2.shape
  generalize prodTo m.vars m.vars.length = N at *
  generalize m.vars.length = n at *
  generalize m.rules.length = rn at *
  have hin := fun w => in_any code 0 (N - 1) w
  rw [decide_eq_false (show ¬ (0 ≤ code ∧ code ≤ N - 1) by omega)] at hin
  clear hV h hc
  go_enter Tryz.func32, Tryz.ntmps32
  go_wp2_with (first | (go_at_call 28; refine (hch _).mono ?_; rintro e w1 ⟨rfl, hb1⟩) | (go_at_call 30; refine (hin _).mono ?_; rintro e w2 ⟨rfl, rfl⟩))
  go_ret2
  exact ⟨rfl, (hA _).trans (hb1.mono (hA _).size)⟩

set_option maxRecDepth 20000 in
set_option maxHeartbeats 3200000 in
theorem rvalues_loop (va vr : Value) (m : Mo) (code : Int) (w : World) (hV : ModelV w va vr m) (h : mcode m = 0) (hc : 0 ≤ code ∧ code < prodTo m.vars m.vars.length) :
    Calls Tryz.prog 32 #[.agg #[va, vr], .int .i64 code] w fun e w' => ∃ v, e = .returned (.tuple #[v, .int .i64 0]) ∧ Below w.heap.size w w' ∧ IntsV w' v (valsL m.vars code) := by
  have hA : ∀ o, Below w.heap.size w (w.alloc o) := fun o => (Below.refl _ _).alloc (Nat.le_refl _) o
  have hch := fun o => rcount_any va vr m (w.alloc o) (hV.below (hA o))
  rw [if_pos h, h] at hch
  have hok := mcode_vars h
  have HOK : Hid (VarsOk m.vars) := hok
  have h6 := hok.1
  obtain ⟨ao, cap, rfl⟩ := hV.1.shape
  obtain ⟨ro, rc, rfl⟩ := hV.2.shape
  have hbv := (fun w1 (hb : Below w.heap.size w w1) a (ha : a ≤ m.vars.length) => behindVar_any (.slice ao m.vars.length cap) ro m.rules.length rc m.vars a w1 hok ha (hV.1.below hb))
  have HBV := (show Hid _ from hbv)
  have HV : Hid (VarsV w (.slice ao m.vars.length cap) m.vars) := hV.1
  have hN := hok.prod (j := m.vars.length) (Nat.le_refl _)
  have HS0 : Hid (segP m.vars 0 = prodTo m.vars m.vars.length) := segP_zero _
  obtain ⟨hc1, hc2⟩ := hc
  generalize prodTo m.vars m.vars.length = N at *
  obtain ⟨n, hn⟩ : ∃ n, n = m.vars.length := ⟨_, rfl⟩
  have HN : Hid (n = m.vars.length) := hn
  rw [← hn] at h6 hch HBV HV ⊢
  generalize m.rules.length = rn at *
  have hin := fun w => in_any code 0 (N - 1) w
  rw [decide_eq_true (show (0 ≤ code ∧ code ≤ N - 1) by omega)] at hin
  obtain ⟨i0, hi, hz0, hz1, hz2⟩ := info_parts infoInt
  have HL : Hid (valsL m.vars code = (List.range n).map (valAt m.vars code)) := by show _ = _; rw [HN.out]; rfl
  clear hV hn hok h hbv
  go_enter Tryz.func32, Tryz.ntmps32
  go_wp2_with (first | (go_at_call 28; refine (hch _).mono ?_; rintro e w1 ⟨rfl, hb1⟩) | (go_at_call 30; refine (hin _).mono ?_; rintro e w2 ⟨rfl, rfl⟩))
  have hb1' : Below (w.heap.size + 1) (w.alloc (.cells #[.slice ao n cap, .slice ro rn rc] 25)) w2 := hb1.mono (by simp)
  clear hch hin hb1
  go_loopw [1, 8, 9] (fun cd vv i wr => ∃ k : Nat, k ≤ n ∧ i = .int .i64 k ∧ cd = .int .i64 (code % segP m.vars k) ∧ Hid (wr.ownsRow (w.heap.size + 1) 3 1 vv k (ivals ((List.range k).map (valAt m.vars code)))) ∧ Below (w.heap.size + 1) (w.alloc (.cells #[.slice ao n cap, .slice ro rn rc] 25)) wr) (fun _ _ i _ => n - (intOf i).toNat)
  case atStart => exact ⟨0, Nat.zero_le _, rfl, by rw [HS0.out, Int.emod_eq_of_lt hc1 hc2], World.ownsRow_nil _ _ _ _, hb1'⟩
  case round =>
    obtain ⟨k, hk, rfl, rfl, HOwn, hbelB⟩ := hrel
    clear hb1'
    have hbel := (hA _).trans (hbelB.mono (Nat.le_succ _))
    have hszb : w.heap.size + 1 ≤ wr.heap.size := by have := hbelB.size; simp at this; omega
    have hlb : w.heap.size < wr.heap.size := by omega
    have cb := (hbelB.cell (p := ⟨w.heap.size, 0, none⟩) (by simp)).trans (show _ = some (.slice ao n cap) by simp [go_sem])
    have cb1 := (hbelB.cell (p := ⟨w.heap.size, 1, none⟩) (by simp)).trans (show _ = some (.slice ro rn rc) by simp [go_sem])
    by_cases hlt : k < n
    · obtain ⟨b, off, rfl, hblt, hat⟩ := HV.out.at (i := k) (by rw [← HN.out]; exact hlt)
      obtain ⟨c0, c1, c2, c3⟩ := hat.below hbel hblt
      have hvb := HOK.out.at (j := k) (by rw [← HN.out]; exact hlt)
      have hsg := segP_bounds HOK.out (i := k + 1) (by rw [← HN.out]; exact hlt)
      have hsg0 := segP_bounds HOK.out (i := k) (by rw [← HN.out]; exact hk)
      have HQ : Hid ((code % segP m.vars k) % segP m.vars (k + 1) = code % segP m.vars (k + 1)) := mod_step code (by rw [← HN.out]; exact hlt)
      have HVa : Hid ((m.vars.getD k vr0).lo + (code % segP m.vars k) / segP m.vars (k + 1) = valAt m.vars code k) := valAt_ref HOK.out code (by rw [← HN.out]; exact hlt)
      have HSn := (show Hid _ from ivals_snoc (valAt m.vars code) k)
      have hcd0 := Int.emod_nonneg code (show segP m.vars k ≠ 0 by omega)
      have hcd1 := Int.emod_lt_of_pos code (show 0 < segP m.vars k by omega)
      have hbvk := HBV.out wr hbel (k + 1) (by omega)
      rw [show ((k + 1 : Nat) : Int) - 1 = (k : Int) by omega] at hbvk
      generalize hcd : code % segP m.vars k = cd at *
      generalize segP m.vars k = sg0 at *
      obtain ⟨sg, hsge⟩ : ∃ sg, segP m.vars (k + 1) = sg := ⟨_, rfl⟩
      have HSG : Hid (segP m.vars (k + 1) = sg) := hsge
      rw [hsge] at hsg hbvk HQ HVa
      generalize m.vars.getD k vr0 = x at *
      obtain ⟨s, lo, hi', ini⟩ := x
      simp only [vspan] at c0 c1 c2 c3 HVa hvb
      obtain ⟨hv1, hv2, hv3, hv4, hv5, hv6, hv7⟩ := hvb
      clear hat hsge hcd
      have hi0 : (0 : Int) ≤ (k : Int) := Int.natCast_nonneg _
      have hi1 : (k : Int) < (n : Int) := by omega
      have hsz0 : ¬ sg = 0 := by omega
      have hsz1 : (sg == 0) = false := by rw [beq_eq_false_iff_ne]; omega
      have ht : cd.tmod sg = cd % sg := Int.tmod_eq_emod_of_nonneg hcd0
      have htd : cd.tdiv sg = cd / sg := Int.tdiv_eq_ediv_of_nonneg hcd0
      have hd0 := Int.ediv_nonneg hcd0 (show 0 ≤ sg by omega)
      have hd1 := Int.ediv_le_self sg hcd0
      have hw0 : IntKind.i64.wrap (cd / sg) = cd / sg := wr64 (by omega) (by omega)
      have hw1 : IntKind.i64.wrap (lo + cd / sg) = lo + cd / sg := wr64 (by omega) (by omega)
      have hbo : b < wr.heap.size := by omega
      have hown := HOwn.out
      go_wp2_with (go_at_call 50; refine hbvk.mono ?_; rintro e w3 ⟨rfl, hb3⟩)
      have hown3 : ∀ o, (w3.alloc o).ownsRow (w.heap.size + 1) 3 1 _ k _ := fun o => (owns_later hown hb3 (Nat.le_refl _)).alloc o
      have hnb := hown.lt
      generalize hxs : ivals ((List.range k).map (valAt m.vars code)) = xs at *
      have HXS : Hid (ivals ((List.range k).map (valAt m.vars code)) = xs) := hxs
      have hs3 : w.heap.size < w3.heap.size := Nat.lt_of_lt_of_le hlb hb3.size
      have hS0 : ∀ w', Below wr.heap.size wr w' → w'.cell? ⟨w.heap.size, 0, none⟩ = some (.slice (some ⟨b, off, none⟩) n cap) ∧ w'.cell? ⟨b, off + k * 4 + 1, none⟩ = some (.int .i64 lo) := fun w' hw' =>
        ⟨(hw'.cell (p := ⟨w.heap.size, 0, none⟩) hlb).trans cb, (hw'.cell (p := ⟨b, off + k * 4 + 1, none⟩) hbo).trans c1⟩
      have hSA : ∀ o, (w3.alloc o).cell? ⟨w.heap.size, 0, none⟩ = some (.slice (some ⟨b, off, none⟩) n cap) ∧ (w3.alloc o).cell? ⟨b, off + k * 4 + 1, none⟩ = some (.int .i64 lo) := fun o => hS0 _ (hb3.alloc hb3.size o)
      have hkb : (k + 1) * 8 ≤ 140737488355328 := by omega
      have h63 : k + 1 ≤ maxLen := by unfold maxLen; omega
      have hbase : ∀ o, w.heap.size + 1 ≤ (w3.alloc o).heap.size := fun o => by simp; omega
      clear hxs hown hbvk HOwn cb cb1 c0 c1 c2 c3
      go_region_held3 (fun w' => w'.cell? ⟨w.heap.size, 0, none⟩ = some (.slice (some ⟨b, off, none⟩) n cap) ∧ w'.cell? ⟨b, off + k * 4 + 1, none⟩ = some (.int .i64 lo))
        (first | exact hS0 _ hb3 | exact hS0 _ hb3.drew | exact hSA _ | exact hk4)
        (first
          | (refine step_append_lies _ (by rfl) (.tmp 34) (.tmp 45) 30 (by rfl) (w.heap.size + 1) 3 i0 _ 1 8 Tryz.underlying30 hi hz0 hz1 hz2 (by rfl) (by decide) _ k xs (by rfl) (hown3 _) ⟨w3.heap.size, 0, none⟩ 1 1 [.int .i64 (lo + cd / sg)] (by rfl) (by rfl) (cell_one_new _ _ _) (by intro u hu; simp at hu; subst hu; rfl) (by decide) h63 hkb (hbase _) (w3.heap.size + 1) (by simp) ?_; intro g cp w4 ho4 hg4 hat4 hl4; have hk4 : w4.cell? ⟨w.heap.size, 0, none⟩ = some (.slice (some ⟨b, off, none⟩) n cap) ∧ w4.cell? ⟨b, off + k * 4 + 1, none⟩ = some (.int .i64 lo) := ⟨(hg4.cell_far ⟨w.heap.size, 0, none⟩ (by simp; omega) (fun he => by have := (hnb _ he.symm).1; simp only at this; omega)).trans (hSA _).1, (hg4.cell_far ⟨b, off + k * 4 + 1, none⟩ (by simp; omega) (fun he => by have := (hnb _ he.symm).1; simp only at this; omega)).trans (hSA _).2⟩))
      have hbk : Below (w.heap.size + 1) (w.alloc (.cells #[.slice (some ⟨b, off, none⟩) n cap, .slice ro rn rc] 25)) w4 := by
        have h3 := hbelB.trans (hb3.mono hszb)
        first
          | exact Below.grown (Below.alloc h3.drew (by simp; omega) _) hg4 (by simp; omega) (fun q hq => (hnb q hq).1)
          | exact Below.grown (Below.alloc h3 (by omega) _) hg4 (by simp; omega) (fun q hq => (hnb q hq).1)
      have HO4 : Hid (w4.ownsRow (w.heap.size + 1) 3 1 (.slice (some ⟨g, 0, none⟩) (k + 1) cp) (k + 1) (ivals ((List.range (k + 1)).map (valAt m.vars code)))) := by
        show World.ownsRow _ _ _ _ _ _ _
        rw [HSn.out, ← HVa.out]
        exact ho4
      clear ho4 hg4 hown3 hk4
      go_wp2_with fail
      go_roundw
      case rel => exact ⟨k + 1, hlt, by go_num, by rw [HSG.out, ← HQ.out], HO4, hbk⟩
      case measure => simp [intOf]; omega
    · have hkn : k = n := by omega
      subst hkn
      have hown := HOwn.out
      obtain ⟨vo, vc, rfl⟩ := owns_slice hown
      have hI : IntsV wr (.slice vo k vc) (valsL m.vars code) := by
        rw [HL.out]
        exact intsV_of_owns (by simpa using hown)
      have HI := (show Hid _ from hI)
      clear hI hown
      go_wp2
      go_ret2
      exact ⟨_, rfl, hbel, HI.out⟩
set_option maxRecDepth 20000 in
/-- THE CONTRACT OF ValuesOf. -/
theorem rvalues_any (va vr : Value) (m : Mo) (code : Int) (w : World) (hV : ModelV w va vr m) :
    Calls Tryz.prog 32 #[.agg #[va, vr], .int .i64 code] w fun e w' => ∃ v, e = .returned (.tuple #[v, .int .i64 (wcode m code)]) ∧ Below w.heap.size w w' ∧ IntsV w' v (wvals m code) := by
  by_cases h : mcode m = 0
  · by_cases hc : 0 ≤ code ∧ code < prodTo m.vars m.vars.length
    · have h0 := wcode_yes h hc
      unfold wvals
      rw [h0, if_pos rfl]
      exact rvalues_loop va vr m code w hV h hc
    · have h0 := wcode_no h hc
      unfold wvals
      rw [h0, if_neg (by decide)]
      exact (rvalues_no va vr m code w hV h hc).mono fun e w' ⟨he, hb⟩ => ⟨_, he, hb, none, 0, rfl, fun h => absurd rfl h⟩
  · have h0 := wcode_bad (code := code) h
    unfold wvals
    rw [h0, if_neg h]
    exact (rvalues_bad va vr m code w hV h).mono fun e w' ⟨he, hb⟩ => ⟨_, he, hb, none, 0, rfl, fun h => absurd rfl h⟩
end Go.Proofs.YtnicbkkkecfdpaaGreatDoor

/-
  The contract of the document's own AfterRule.
-/
namespace Go.Proofs.YtnicbkkkecfdpaaGreatDoor
open Go.ChangeShapes Go.WideShapes Go.ChangeAt Go.RowKit Go.Deep
open Terms Tm

set_option maxRecDepth 20000 in
/-- THE CONTRACT OF Evaluated, in the step's words. -/
theorem rex_any (v ev : Value) (l : List (Int × Int)) (env : List Int) (w : World) (hV : OpsV w v l) (hE : IntsV w ev env) :
    Calls Tryz.prog 33 #[v, ev] w fun e w' => e = .returned (.tuple #[.int .i64 (exN l env), .int .i64 (exC l env)]) ∧ Below w.heap.size w w' :=
  evaluated_any v ev l env (treeOf l) w hV hE (treeOf_spec l)
set_option maxRecDepth 20000 in
theorem behindL_eq {env : List Int} {r : Ru} (h : ∀ j, j < r.sets.length → 0 ≤ (r.sets.getD j st0).var ∧ (r.sets.getD j st0).var < env.length) : (List.range env.length).map (fun i => setAt env r.sets i r.sets.length) = behindL env r := by
  apply List.ext_getElem?
  intro i
  by_cases hi : i < env.length
  · have h1 := setTo_at (k := r.sets.length) h i
    rw [List.getElem?_map, List.getElem?_range hi]
    have h2 : i < (behindL env r).length := by unfold behindL; rw [setTo_length]; exact hi
    rw [List.getElem?_eq_getElem h2]
    show some (setAt env r.sets i r.sets.length) = _
    rw [← h1]
    unfold behindL at h2 ⊢
    simp [List.getD_eq_getElem?_getD, h2]
  · simp [hi, behindL, setTo_length]

set_option maxHeartbeats 3200000 in
set_option maxRecDepth 20000 in
/-- one rule that is there, at a state. -/
theorem rafter_in (va vr : Value) (m : Mo) (code : Int) (k : Nat) (w : World) (hV : ModelV w va vr m) (hw : wcode m code = 0) (hk : k < m.rules.length) :
    Calls Tryz.prog 52 #[.agg #[va, vr], .int .i64 code, .int .i64 k] w fun e w' => e = .returned (.tuple #[.int .i64 (optN (ruleDo m.vars (valsL m.vars code) (m.rules.getD k ru0))), .int .i64 (optC (ruleDo m.vars (valsL m.vars code) (m.rules.getD k ru0)))]) ∧ Below w.heap.size w w' := by
  have hA : ∀ o, Below w.heap.size w (w.alloc o) := fun o => (Below.refl _ _).alloc (Nat.le_refl _) o
  obtain ⟨hm, _⟩ := wcode_zero hw
  obtain ⟨hr12, hrs⟩ := mcode_rules hm
  have hrk := hrs k hk
  obtain ⟨h6, hsv⟩ := rule_sets hrk
  have hv6 := (mcode_vars hm).1
  have he := valsL_length m.vars code
  have hvl := fun o => rvalues_any va vr m code (w.alloc o) (hV.below (hA o))
  rw [hw, show wvals m code = valsL m.vars code by unfold wvals; rw [if_pos hw]] at hvl
  have HCo : Hid (∀ w' (_ : Below w.heap.size w w') vv vals, IntsV w' vv vals → Calls Tryz.prog 51 #[.agg #[va, vr], vv] w' fun e w2 => e = .returned (.tuple #[.int .i64 (cval m vals), .int .i64 (ccode m vals)]) ∧ Below w'.heap.size w' w2) := fun w' hb vv vals hi => rcodes_any va vr vv m vals w' (hV.below hb) hi
  have HR : Hid (RulesV w vr m.rules) := hV.2
  obtain ⟨ao, cap, rfl⟩ := hV.1.shape
  obtain ⟨ro, rc, rfl⟩ := hV.2.shape
  obtain ⟨b, off, rfl, hblt, hat⟩ := HR.out.at (i := k) hk
  have hin := fun w => in_any k 0 (m.rules.length - 1) w
  rw [decide_eq_true (show (0 : Int) ≤ k ∧ (k : Int) ≤ (m.rules.length : Int) - 1 by omega)] at hin
  have HG : Hid (holdsB (m.rules.getD k ru0).guard (valsL m.vars code) = false → ruleDo m.vars (valsL m.vars code) (m.rules.getD k ru0) = none) := fun h => ruleDo_guard h
  have HGd : Hid (holdsB (m.rules.getD k ru0).guard (valsL m.vars code) = (decide (exC (m.rules.getD k ru0).guard (valsL m.vars code) = 0) && decide (exN (m.rules.getD k ru0).guard (valsL m.vars code) = 1))) := rfl
  have HRS : Hid (∀ j, j < (m.rules.getD k ru0).sets.length → exC ((m.rules.getD k ru0).sets.getD j st0).val (valsL m.vars code) ≠ 0 → ruleDo m.vars (valsL m.vars code) (m.rules.getD k ru0) = none) := fun j hj h => ruleDo_set hj h
  have HRC : Hid (holdsB (m.rules.getD k ru0).guard (valsL m.vars code) = true → setsOk (valsL m.vars code) (m.rules.getD k ru0) → (ccode m (behindL (valsL m.vars code) (m.rules.getD k ru0)) = 0 → ruleDo m.vars (valsL m.vars code) (m.rules.getD k ru0) = some (cval m (behindL (valsL m.vars code) (m.rules.getD k ru0)))) ∧ (ccode m (behindL (valsL m.vars code) (m.rules.getD k ru0)) ≠ 0 → ruleDo m.vars (valsL m.vars code) (m.rules.getD k ru0) = none)) := fun h1 h2 => ruleDo_code h1 h2 he hm rfl
  generalize ruleDo m.vars (valsL m.vars code) (m.rules.getD k ru0) = res at *
  rw [← he] at hsv hv6
  generalize valsL m.vars code = env at *
  generalize m.rules.getD k ru0 = r at *
  have HSV : Hid (∀ j, j < r.sets.length → 0 ≤ (r.sets.getD j st0).var ∧ (r.sets.getD j st0).var < env.length) := hsv
  clear hV hw hm hrs hrk he hsv
  generalize m.vars.length = n at *
  generalize m.rules.length = rn at *
  go_enter Tryz.func52, Tryz.ntmps52
  go_wp2_with (first | (go_at_call 32; refine (hvl _).mono ?_; rintro e w1 ⟨v, rfl, hb1, hI⟩; obtain ⟨vo, vc, rfl⟩ := hI.shape; have hbw1 := (hA _).trans (hb1.mono (hA _).size); have k10 : w1.cell? ⟨w.heap.size, 0, none⟩ = some (.slice ao n cap) := (hb1.cell (p := ⟨w.heap.size, 0, none⟩) (by simp)).trans (by simp [go_sem]); have k11 : w1.cell? ⟨w.heap.size, 1, none⟩ = some (.slice (some ⟨b, off, none⟩) rn rc) := (hb1.cell (p := ⟨w.heap.size, 1, none⟩) (by simp)).trans (by simp [go_sem]); have hs1 : w.heap.size < w1.heap.size := (by have := hb1.size; simp at this; omega); obtain ⟨⟨u, c0, hou⟩, u', c1, hsu⟩ := hat.below hbw1 hblt; obtain ⟨uo, uc, rfl⟩ := hou.shape; obtain ⟨so, sc, rfl⟩ := hsu.shape) | (go_at_call 30; refine (hin _).mono ?_; rintro e w9 ⟨rfl, rfl⟩))
  have hAr : Below w9.heap.size w9 (w9.alloc (.cells #[.slice uo r.guard.length uc, .slice so r.sets.length sc] 62)) := (Below.refl _ _).alloc (Nat.le_refl _) _
  have hbA := hbw1.trans (hAr.mono hbw1.size)
  have q10 : (w9.alloc (.cells #[.slice uo r.guard.length uc, .slice so r.sets.length sc] 62)).cell? ⟨w9.heap.size, 1, none⟩ = some (.slice so r.sets.length sc) := by simp [go_sem]
  have q11 := (hAr.cell (p := ⟨w.heap.size, 0, none⟩) hs1).trans k10
  have q12 := (hAr.cell (p := ⟨w.heap.size, 1, none⟩) hs1).trans k11
  have hIA := hI.below hAr
  have hsA := hsu.below hAr
  have hgu := rex_any _ _ r.guard env _ (hou.below hAr) hIA
  have hszA : w9.heap.size < (w9.alloc (.cells #[.slice uo r.guard.length uc, .slice so r.sets.length sc] 62)).heap.size := by simp
  generalize w9.alloc (.cells #[.slice uo r.guard.length uc, .slice so r.sets.length sc] 62) = W2 at *
  have HK2 : Hid (∀ w', Below W2.heap.size W2 w' → w'.cell? ⟨w9.heap.size, 1, none⟩ = some (.slice so r.sets.length sc) ∧ w'.cell? ⟨w.heap.size, 0, none⟩ = some (.slice ao n cap) ∧ w'.cell? ⟨w.heap.size, 1, none⟩ = some (.slice (some ⟨b, off, none⟩) rn rc)) := fun w' hb => ⟨(hb.cell (p := ⟨w9.heap.size, 1, none⟩) hszA).trans q10, (hb.cell (p := ⟨w.heap.size, 0, none⟩) (Nat.lt_trans hs1 hszA)).trans q11, (hb.cell (p := ⟨w.heap.size, 1, none⟩) (Nat.lt_trans hs1 hszA)).trans q12⟩
  have HI2 : Hid (IntsV W2 (.slice vo env.length vc) env) := hIA
  have HS2 : Hid (SetsV W2 (.slice so r.sets.length sc) r.sets) := hsA
  have HBW2 : Hid (Below w.heap.size w W2) := hbA
  clear hAr hbA q10 q11 q12 hIA hsA hszA hou hsu hI c0 c1 k10 k11 hb1 hbw1 hat hvl hin HR hA hs1
  have hgd := HGd.out
  generalize exN r.guard env = gn at hgu hgd
  generalize exC r.guard env = gc at hgu hgd
  by_cases hc0 : gc = 0
  · by_cases hn1 : gn = 1
    · have hg1 : holdsB r.guard env = true := by rw [hgd]; simp [hc0, hn1]
      have HRC2 : Hid _ := HRC.out hg1
      subst hc0 hn1
      clear hgd HGd HG HRC hg1
      go_wp2_with (go_at_call 33; refine hgu.mono ?_; rintro e w3 ⟨rfl, hb3⟩; obtain ⟨k30, k31, k32⟩ := HK2.out w3 hb3)
      have HBE : Hid ((List.range env.length).map (fun i => setAt env r.sets i r.sets.length) = behindL env r) := behindL_eq HSV.out
      have hI3 := HI2.out.below hb3
      have HI3 : Hid (IntsV w3 (.slice vo env.length vc) env) := hI3
      have HS3 : Hid (SetsV w3 (.slice so r.sets.length sc) r.sets) := HS2.out.below hb3
      have HK3 : Hid (∀ w', Below w3.heap.size w3 w' → w'.cell? ⟨w9.heap.size, 1, none⟩ = some (.slice so r.sets.length sc) ∧ w'.cell? ⟨w.heap.size, 0, none⟩ = some (.slice ao n cap) ∧ w'.cell? ⟨w.heap.size, 1, none⟩ = some (.slice (some ⟨b, off, none⟩) rn rc)) := fun w' hb => HK2.out w' (hb3.trans (hb.mono hb3.size))
      have HBW3 : Hid (Below w.heap.size w w3) := HBW2.out.trans (hb3.mono HBW2.out.size)
      have HEx : Hid (∀ w' (_ : Below w3.heap.size w3 w') v l, OpsV w' v l → Calls Tryz.prog 33 #[v, .slice vo env.length vc] w' fun e w2 => e = .returned (.tuple #[.int .i64 (exN l env), .int .i64 (exC l env)]) ∧ Below w'.heap.size w' w2) := fun w' hb v l hv => rex_any v _ l env w' hv (hI3.below hb)
      obtain ⟨en, hen⟩ : ∃ en, en = env.length := ⟨_, rfl⟩
      have HEN : Hid (en = env.length) := hen
      obtain ⟨sn, hsn⟩ : ∃ sn, sn = r.sets.length := ⟨_, rfl⟩
      have HSN : Hid (sn = r.sets.length) := hsn
      rw [← hen, ← hsn] at HBE
      rw [← hen] at HI3 HEx hv6 ⊢
      rw [← hsn] at HS3 HK3 h6 k30 ⊢
      have HSV2 : Hid (∀ j, j < sn → 0 ≤ (r.sets.getD j st0).var ∧ (r.sets.getD j st0).var < en) := by rw [hsn, hen]; exact HSV.out
      have HRS2 : Hid (∀ j, j < sn → exC (r.sets.getD j st0).val env ≠ 0 → res = none) := by rw [hsn]; exact HRS.out
      obtain ⟨i0, hi, hz0, hz1, hz2⟩ := info_parts infoInt
      clear hen hsn hI3 hb3 hgu HK2 HI2 HS2 HBW2 HSV HRS
      go_loopw [13, 14] (fun out i wr => ∃ q : Nat, q ≤ en ∧ i = .int .i64 q ∧ Hid (∀ j, j < sn → (r.sets.getD j st0).var < q → exC (r.sets.getD j st0).val env = 0) ∧ Hid (wr.ownsRow w3.heap.size 3 1 out q (ivals ((List.range q).map (fun i => setAt env r.sets i sn)))) ∧ Hid (Below w3.heap.size w3 wr)) (fun _ i _ => en - (intOf i).toNat)
      case atStart => exact ⟨0, Nat.zero_le _, rfl, fun j hj h => absurd h (by have := (HSV2.out j hj).1; omega), World.ownsRow_nil _ _ _ _, Below.refl _ _⟩
      case round =>
        obtain ⟨q, hq, rfl, HOK, HOwn, HBel⟩ := hrel
        have hbel := HBel.out
        by_cases hlt : q < en
        · obtain ⟨vb, voff, rfl, hvblt, hvc⟩ := HI3.out.at (i := q) (by rw [← HEN.out]; exact hlt)
          have hvc2 := (hbel.cell (p := ⟨vb, voff + q, none⟩) hvblt).trans hvc
          obtain ⟨kr0, kr1, kr2⟩ := HK3.out wr hbel
          have HA0 : Hid (setAt env r.sets q 0 = env.getD q 0) := rfl
          generalize env.getD q 0 = x0 at hvc2 HA0
          clear hvc k30 k31 k32
          go_wp2_with fail
          obtain ⟨wo, hwo⟩ : ∃ wo, wo = wr := ⟨_, rfl⟩
          subst hwo
          go_loopw [15, 16] (fun x kk wi => ∃ k : Nat, k ≤ sn ∧ kk = .int .i64 k ∧ x = .int .i64 (setAt env r.sets q k) ∧ Hid (∀ j, j < k → (r.sets.getD j st0).var = q → exC (r.sets.getD j st0).val env = 0) ∧ Hid (Below wo.heap.size wo wi)) (fun _ kk _ => sn - (intOf kk).toNat)
          case atStart => exact ⟨0, Nat.zero_le _, rfl, by rw [HA0.out], fun j hj => by omega, Below.refl _ _⟩
          case round =>
            obtain ⟨k, hk', rfl, rfl, HOKi, HBi⟩ := hrel
            have hbi := hbel.trans (HBi.out.mono hbel.size)
            obtain ⟨ki0, ki1, ki2⟩ := HK3.out wr hbi
            by_cases hlk : k < sn
            · obtain ⟨sb, soff, rfl, hsblt, hsat⟩ := HS3.out.at (i := k) (by rw [← HSN.out]; exact hlk)
              obtain ⟨c0, u, c1, hou⟩ := hsat.below hbi hsblt
              obtain ⟨uo2, uc2, rfl⟩ := hou.shape
              have HStep : Hid (setAt env r.sets q (k + 1) = if (r.sets.getD k st0).var = q then exN (r.sets.getD k st0).val env else setAt env r.sets q k) := rfl
              have HOK2 : Hid (((r.sets.getD k st0).var = q → exC (r.sets.getD k st0).val env = 0) → ∀ j, j < k + 1 → (r.sets.getD j st0).var = q → exC (r.sets.getD j st0).val env = 0) := fun h j hj => by
                by_cases hjk : j = k
                · subst hjk; exact h
                · exact HOKi.out j (by omega)
              have HRk : Hid (exC (r.sets.getD k st0).val env ≠ 0 → res = none) := HRS2.out k hlk
              have hex := HEx.out wr hbi _ _ hou
              generalize exN (r.sets.getD k st0).val env = N at hex HStep
              generalize exC (r.sets.getD k st0).val env = C at hex HRk HOK2
              generalize (r.sets.getD k st0).val.length = ul at hex c1 hou
              generalize (r.sets.getD k st0).var = sv at c0 HStep HOK2
              clear hsat hou HRS2 HEx HS3 HSV2 HRC2 HCo HOKi kr0 kr1 kr2
              by_cases hsv : sv = q
              · have hst : setAt env r.sets q (k + 1) = N := by rw [HStep.out, if_pos hsv]
                have HST : Hid (setAt env r.sets q (k + 1) = N) := hst
                by_cases hC : C = 0
                · have HJ : Hid _ := HOK2.out (fun _ => hC)
                  subst hC hsv
                  clear hst HStep HOK2 HRk
                  go_wp2_with (go_at_call 33; refine hex.mono ?_; rintro e w5 ⟨rfl, hb5⟩)
                  refine ⟨⟨k + 1, hlk, by first | rfl | simp, by rw [HST.out], HJ.out, HBi.out.trans (hb5.mono HBi.out.size)⟩, by simp [intOf]; omega⟩
                · have HRN : Hid (res = none) := HRk.out hC
                  subst hsv
                  clear hst HStep HOK2 HRk
                  go_wp2_with (go_at_call 33; refine hex.mono ?_; rintro e w5 ⟨rfl, hb5⟩)
                  go_ret2
                  exact ⟨by rw [HRN.out]; rfl, HBW3.out.trans ((hbi.trans (hb5.mono hbi.size)).mono HBW3.out.size)⟩
              · have HST : Hid (setAt env r.sets q (k + 1) = setAt env r.sets q k) := by show _ = _; rw [HStep.out, if_neg hsv]
                have HJ : Hid _ := HOK2.out (fun h => absurd h hsv)
                clear HStep HOK2 HRk
                go_wp2_with fail
                refine ⟨⟨k + 1, hlk, by first | rfl | simp, by rw [HST.out], HJ.out, HBi.out⟩, by simp [intOf]; omega⟩
            · have hks : k = sn := by omega
              subst hks
              have hown := HOwn.out
              have hown2 := owns_later hown HBi.out (Nat.le_refl _)
              have hnb := hown.lt
              obtain ⟨oo, oc, rfl⟩ := owns_slice hown
              have HSn : Hid (ivals ((List.range (q + 1)).map (fun i => setAt env r.sets i k)) = ivals ((List.range q).map (fun i => setAt env r.sets i k)) ++ [.int .i64 (setAt env r.sets q k)]) := by
                show _ = _
                simp [ivals, List.range_succ]
              have HOK2 : Hid (∀ j, j < k → (r.sets.getD j st0).var < ((q + 1 : Nat) : Int) → exC (r.sets.getD j st0).val env = 0) := fun j hj h => by
                by_cases hjq : (r.sets.getD j st0).var = q
                · exact HOKi.out j hj hjq
                · exact HOK.out j hj (by omega)
              generalize setAt env r.sets q k = xv at *
              have hown3 := fun o => hown2.alloc o
              have h63 : q + 1 ≤ maxLen := by unfold maxLen; omega
              have hkb : (q + 1) * 8 ≤ 140737488355328 := by omega
              have hbase : ∀ o, w3.heap.size ≤ (wr.alloc o).heap.size := fun o => by have := hbi.size; simp; omega
              clear hown hown2 HRS2 HEx HS3 HSV2 HRC2 HCo HOKi kr0 kr1 kr2
              go_wp2_with (at_builtin; refine wpList_append_own _ rfl (.tmp 94) (.tmp 96) 30 rfl w3.heap.size 3 i0 (.int .i64 0) 1 8 Tryz.underlying30 hi hz0 hz1 hz2 rfl (by decide) _ q _ rfl (hown3 _) ⟨wr.heap.size, 0, none⟩ 1 1 [.int .i64 xv] rfl rfl (cell_one_new _ _ _) (by intro u hu; simp at hu; subst hu; rfl) h63 hkb (hbase _) ?_)
              intro v' w4 hown' hgrow _
              have hb4 : Below w3.heap.size w3 w4 := (hbi.alloc hbi.size _).grown hgrow (hbase _) (fun z hz => (hnb z hz).1)
              have HO4 : Hid (w4.ownsRow w3.heap.size 3 1 v' (q + 1) (ivals ((List.range (q + 1)).map (fun i => setAt env r.sets i k)))) := by
                show World.ownsRow _ _ _ _ _ _ _
                rw [HSn.out]
                exact hown'
              clear hown' hgrow hown3
              go_wp2
              go_roundw
              case rel => exact ⟨q + 1, hlt, by go_num, HOK2, HO4, hb4⟩
              case measure => simp [intOf]; omega
        · have hqn : q = en := by omega
          subst hqn
          have hown := HOwn.out
          rw [HBE.out] at hown
          obtain ⟨oo, oc, rfl⟩ := owns_slice hown
          have hlb : (behindL env r).length = q := by unfold behindL; rw [setTo_length, HEN.out]
          have hI : IntsV wr (.slice oo q oc) (behindL env r) := intsV_of_owns (by rw [hlb]; exact hown)
          have hbw := HBW3.out.trans (hbel.mono HBW3.out.size)
          have hco := HCo.out wr hbw _ _ hI
          have hrc := HRC2.out (fun j hj => HOK.out j (by rw [HSN.out]; exact hj) (HSV2.out j (by rw [HSN.out]; exact hj)).2)
          obtain ⟨kr0, kr1, kr2⟩ := HK3.out wr hbel
          have HBWr : Hid (Below w.heap.size w wr) := hbw
          generalize cval m (behindL env r) = cv at hco hrc
          generalize ccode m (behindL env r) = cc at hco hrc
          obtain ⟨hrc0, hrc1⟩ := hrc
          clear hown hlb hI HCo HRC2 HOK HOwn HI3 HS3 HEx HSV2 HRS2 k30 k31 k32 hbel hbw hlt hq
          by_cases hcc : cc = 0
          · have HRN : Hid (res = some cv) := hrc0 hcc
            subst hcc
            clear hrc0 hrc1
            go_wp2_with (go_at_call 51; refine hco.mono ?_; rintro e w6 ⟨rfl, hb6⟩)
            go_ret2
            exact ⟨by rw [HRN.out]; rfl, HBWr.out.trans (hb6.mono HBWr.out.size)⟩
          · have HRN : Hid (res = none) := hrc1 hcc
            clear hrc0 hrc1
            go_wp2_with (go_at_call 51; refine hco.mono ?_; rintro e w6 ⟨rfl, hb6⟩)
            go_ret2
            exact ⟨by rw [HRN.out]; rfl, HBWr.out.trans (hb6.mono HBWr.out.size)⟩
    · have hrn := HG.out (by rw [hgd]; simp [hn1])
      subst hrn hc0
      clear hgd HGd HRC
      go_wp2_with (go_at_call 33; refine hgu.mono ?_; rintro e w3 ⟨rfl, hb3⟩)
      go_ret2
      exact ⟨rfl, HBW2.out.trans (hb3.mono HBW2.out.size)⟩
  · have hrn := HG.out (by rw [hgd]; simp [hc0])
    subst hrn
    clear hgd HGd HRC
    go_wp2_with (go_at_call 33; refine hgu.mono ?_; rintro e w3 ⟨rfl, hb3⟩)
    go_ret2
    exact ⟨rfl, HBW2.out.trans (hb3.mono HBW2.out.size)⟩

set_option maxHeartbeats 1600000 in
set_option maxRecDepth 20000 in
/-- THE CONTRACT OF AfterRule. -/
theorem rafter_any (va vr : Value) (m : Mo) (code rule : Int) (w : World) (hV : ModelV w va vr m) (hz : m.rules.length ≤ 1000000000000000) :
    Calls Tryz.prog 52 #[.agg #[va, vr], .int .i64 code, .int .i64 rule] w fun e w' => e = .returned (.tuple #[.int .i64 (aftN m code rule), .int .i64 (aftC m code rule)]) ∧ Below w.heap.size w w' := by
  have hA : ∀ o, Below w.heap.size w (w.alloc o) := fun o => (Below.refl _ _).alloc (Nat.le_refl _) o
  by_cases hw : wcode m code = 0
  · by_cases hin : 0 ≤ rule ∧ rule < m.rules.length
    · obtain ⟨k, rfl⟩ : ∃ k : Nat, rule = k := ⟨rule.toNat, by omega⟩
      have h := rafter_in va vr m code k w hV hw (by omega)
      unfold aftN aftC
      rw [if_pos hw, if_pos hw, if_pos hin, if_pos hin, Int.toNat_natCast]
      exact h
    · have hvl := fun o => rvalues_any va vr m code (w.alloc o) (hV.below (hA o))
      rw [hw] at hvl
      unfold aftN aftC
      rw [if_pos hw, if_pos hw, if_neg hin, if_neg hin]
      have hii := fun w => in_any rule 0 (m.rules.length - 1) w
      rw [decide_eq_false (show ¬ (0 ≤ rule ∧ rule ≤ (m.rules.length : Int) - 1) by omega)] at hii
      obtain ⟨ao, cap, rfl⟩ := hV.1.shape
      obtain ⟨ro, rc, rfl⟩ := hV.2.shape
      generalize wvals m code = vals at hvl
      generalize m.vars.length = n at *
      generalize m.rules.length = rn at *
      clear hV hw hin
      go_enter Tryz.func52, Tryz.ntmps52
      go_wp2_with (first | (go_at_call 32; refine (hvl _).mono ?_; rintro e w1 ⟨v, rfl, hb1, hI⟩; have k11 : w1.cell? ⟨w.heap.size, 1, none⟩ = some (.slice ro rn rc) := (hb1.cell (p := ⟨w.heap.size, 1, none⟩) (by simp)).trans (by simp [go_sem])) | (go_at_call 30; refine (hii _).mono ?_; rintro e w9 ⟨rfl, rfl⟩))
      go_ret2
      exact ⟨rfl, (hA _).trans (hb1.mono (hA _).size)⟩
  · have hvl := fun o => rvalues_any va vr m code (w.alloc o) (hV.below (hA o))
    unfold aftN aftC
    rw [if_neg hw, if_neg hw]
    obtain ⟨ao, cap, rfl⟩ := hV.1.shape
    obtain ⟨ro, rc, rfl⟩ := hV.2.shape
    generalize wvals m code = vals at hvl
    generalize wcode m code = c at *
    generalize m.vars.length = n at *
    generalize m.rules.length = rn at *
    clear hV
    go_enter Tryz.func52, Tryz.ntmps52
    go_wp2_with (go_at_call 32; refine (hvl _).mono ?_; rintro e w1 ⟨v, rfl, hb1, hI⟩)
    go_ret2
    exact ⟨rfl, (hA _).trans (hb1.mono (hA _).size)⟩
end Go.Proofs.YtnicbkkkecfdpaaGreatDoor

/-
  The contract of the document's own LetterOf.
-/
namespace Go.Proofs.YtnicbkkkecfdpaaGreatDoor
open Go.ChangeShapes Go.WideShapes Go.ChangeAt Go.RowKit Go.Deep
open Terms Tm
set_option maxRecDepth 20000 in
theorem rowTy_owns {w : World} {base n : Nat} {v : Value} {t : TypeId} {s : Nat} {xs : List Value} (h : w.ownsRow base t s v n xs) : RowTy w v t := by
  intro a k c e
  rcases h.2 with ⟨h0, _⟩ | ⟨g, cap, cur, h1, _, h3, _⟩
  · rw [h0] at e; simp at e
  · rw [h1] at e
    injection e with e _ _
    injection e with e
    subst e
    exact ⟨cur, _, h3⟩


set_option maxHeartbeats 3200000 in
set_option maxRecDepth 20000 in
/-- THE CONTRACT OF LetterOf. -/
theorem rletter_own (va vr pv : Value) (m : Mo) (ps : List (List (Int × Int))) (code : Int) (w : World) (hlz : ps.length * 24 ≤ 140737488355328) (hV : ModelV w va vr m) (hP : TermsV w pv ps) :
    Calls Tryz.prog 17 #[.agg #[va, vr], pv, .int .i64 code] w fun e w' => ∃ v, e = .returned (.tuple #[v, .int .i64 (letC m ps code)]) ∧ Below w.heap.size w w' ∧ BoolsV w' v (letL m ps code) ∧ RowTy w' v 4 := by
  have hA : ∀ o, Below w.heap.size w (w.alloc o) := fun o => (Below.refl _ _).alloc (Nat.le_refl _) o
  have hpr := fun o => rprops_any va vr pv m ps (w.alloc o) hlz (hV.below (hA o)) (hP.below (hA o))
  have hvl := fun w' (hb : Below w.heap.size w w') => rvalues_any va vr m code w' (hV.below hb)
  obtain ⟨ao, cap, rfl⟩ := hV.1.shape
  obtain ⟨ro, rc, rfl⟩ := hV.2.shape
  obtain ⟨po, pc, rfl, hPa⟩ := hP
  by_cases hp : pcode m ps = 0
  · obtain ⟨hm, hp6⟩ := pcode_m hp
    rw [hp] at hpr
    by_cases hw : wcode m code = 0
    · have hlc : letC m ps code = 0 := by unfold letC; rw [if_pos hp, hw]
      have hll : letL m ps code = ps.map (fun p => holdsB p (valsL m.vars code)) := by unfold letL; rw [if_pos hlc]
      rw [hlc, hll]
      rw [hw, show wvals m code = valsL m.vars code by unfold wvals; rw [if_pos hw]] at hvl
      generalize valsL m.vars code = env at hvl ⊢
      have HEx : Hid (∀ w' v ev l, OpsV w' v l → IntsV w' ev env → Calls Tryz.prog 33 #[v, ev] w' fun e w2 => e = .returned (.tuple #[.int .i64 (exN l env), .int .i64 (exC l env)]) ∧ Below w'.heap.size w' w2) := fun w' v ev l h1 h2 => rex_any v ev l env w' h1 h2
      have HP : Hid (ps ≠ [] → ∃ b off, po = some ⟨b, off, none⟩ ∧ b < w.heap.size ∧ ∀ i, i < ps.length → ∃ u, w.cell? ⟨b, off + i, none⟩ = some u ∧ OpsV w u (ps.getD i [])) := hPa
      have HML : Hid (∀ k, k < ps.length → bvals ((ps.take (k + 1)).map (fun p => holdsB p env)) = bvals ((ps.take k).map (fun p => holdsB p env)) ++ [.bool (decide (exC (ps.getD k []) env = 0) && decide (exN (ps.getD k []) env = 1))]) := fun k hk => by
        rw [List.take_succ_eq_append_getElem hk, show ps[k] = ps.getD k [] by simp [List.getD_eq_getElem?_getD, hk]]
        unfold bvals
        rw [List.map_append, List.map_append]
        rfl
      obtain ⟨pn, hpn⟩ : ∃ pn, pn = ps.length := ⟨_, rfl⟩
      have HPN : Hid (pn = ps.length) := hpn
      rw [← hpn] at hpr hp6 HP HML ⊢
      generalize m.vars.length = n at *
      generalize m.rules.length = rn at *
      obtain ⟨i0, hi, hz0, hz1, hz2⟩ := info_parts infoBool
      clear hV hlc hll hPa hpn hw hm hp hlz
      go_enter Tryz.func17, Tryz.ntmps17
      go_wp2_with (first | (go_at_call 26; refine (hpr _).mono ?_; rintro e w1 ⟨rfl, hb1⟩; have hbw1 := (hA _).trans (hb1.mono (hA _).size); have k10 : w1.cell? ⟨w.heap.size, 0, none⟩ = some (.slice ao n cap) := (hb1.cell (p := ⟨w.heap.size, 0, none⟩) (by simp)).trans (by simp [go_sem]); have k11 : w1.cell? ⟨w.heap.size, 1, none⟩ = some (.slice ro rn rc) := (hb1.cell (p := ⟨w.heap.size, 1, none⟩) (by simp)).trans (by simp [go_sem])) | (go_at_call 32; refine (hvl _ hbw1).mono ?_; rintro e w3 ⟨v, rfl, hb3, hI3⟩; obtain ⟨vo, vc, rfl⟩ := hI3.shape))
      have hbw3 := hbw1.trans (hb3.mono hbw1.size)
      have HI3 : Hid (IntsV w3 (.slice vo env.length vc) env) := hI3
      have HB3 : Hid (Below w.heap.size w w3) := hbw3
      clear hpr hvl hb1 hbw1 k10 k11 hb3 hI3 hbw3
      go_loopw [10, 11] (fun out i wr => ∃ k : Nat, k ≤ pn ∧ i = .int .i64 k ∧ Hid (wr.ownsRow w3.heap.size 4 1 out k (bvals ((ps.take k).map (fun p => holdsB p env)))) ∧ Hid (Below w3.heap.size w3 wr)) (fun _ i _ => pn - (intOf i).toNat)
      case atStart => exact ⟨0, Nat.zero_le _, rfl, World.ownsRow_nil _ _ _ _, Below.refl _ _⟩
      case round =>
        obtain ⟨k, hk, rfl, HOwn, HBel⟩ := hrel
        have hbel := HBel.out
        have hbw := HB3.out.trans (hbel.mono HB3.out.size)
        by_cases hlt : k < pn
        · obtain ⟨b, off, rfl, hblt, hat⟩ := HP.out (by intro h; have := HPN.out; subst h; simp at this; omega)
          obtain ⟨u, hu, hou⟩ := hat k hlt
          have c0 := (hbel.cell (p := ⟨b, off + k, none⟩) (Nat.lt_of_lt_of_le hblt HB3.out.size)).trans ((HB3.out.cell (p := ⟨b, off + k, none⟩) hblt).trans hu)
          obtain ⟨uo, uc, rfl⟩ := hou.shape
          have hex := HEx.out wr _ _ _ (hou.below hbw) (HI3.out.below hbel)
          have HLk := (show Hid _ from HML.out k hlt)
          generalize exN (ps.getD k []) env = N at hex HLk
          generalize exC (ps.getD k []) env = C at hex HLk
          generalize (ps.getD k []).length = ul at *
          have hown := HOwn.out
          have hnb := hown.lt
          obtain ⟨oo, oc, rfl⟩ := owns_slice hown
          have h63 : k + 1 ≤ maxLen := by unfold maxLen; omega
          have hkb : (k + 1) * 1 ≤ 140737488355328 := by omega
          clear hat hu hou HEx HP HML
          by_cases hC : C = 0
          · have HEl : Hid (bvals ((ps.take (k + 1)).map (fun p => holdsB p env)) = bvals ((ps.take k).map (fun p => holdsB p env)) ++ [.bool (N == 1)]) := by
              show _ = _
              rw [HLk.out, hC]
              rfl
            subst hC
            clear HLk
            go_wp2_with (first | (go_at_call 33; refine hex.mono ?_; rintro e w4 ⟨rfl, hb4⟩; have hb34 := hbel.trans (hb4.mono hbel.size); have hown3 := fun o => (owns_later hown hb4 (Nat.le_refl _)).alloc o; have hbase : ∀ o, w3.heap.size ≤ (w4.alloc o).heap.size := (fun o => by have := hb34.size; simp; omega)) | (at_builtin; refine wpList_append_own _ rfl (.tmp 44) (.tmp 51) 50 rfl w3.heap.size 4 i0 (.bool false) 1 1 Tryz.underlying50 hi hz0 hz1 hz2 rfl (by decide) _ k _ rfl (hown3 _) ⟨w4.heap.size, 0, none⟩ 1 1 [.bool (N == 1)] rfl rfl (cell_one_new _ _ _) (by intro u hu; simp at hu; subst hu; rfl) h63 hkb (hbase _) ?_; intro v' w5 hown' hgrow _))
            have hb5 : Below w3.heap.size w3 w5 := (hb34.alloc hb34.size _).grown hgrow (hbase _) (fun z hz => (hnb z hz).1)
            have HO5 : Hid (w5.ownsRow w3.heap.size 4 1 v' (k + 1) (bvals ((ps.take (k + 1)).map (fun p => holdsB p env)))) := by
              show World.ownsRow _ _ _ _ _ _ _
              rw [HEl.out]
              exact hown'
            clear hown' hgrow hown3
            exact ⟨⟨k + 1, hlt, by first | rfl | simp, HO5.out, hb5⟩, by simp [intOf]; omega⟩
          · have HEl : Hid (bvals ((ps.take (k + 1)).map (fun p => holdsB p env)) = bvals ((ps.take k).map (fun p => holdsB p env)) ++ [.bool false]) := by
              show _ = _
              rw [HLk.out, decide_eq_false hC]
              rfl
            clear HLk
            go_wp2_with (first | (go_at_call 33; refine hex.mono ?_; rintro e w4 ⟨rfl, hb4⟩; have hb34 := hbel.trans (hb4.mono hbel.size); have hown3 := fun o => (owns_later hown hb4 (Nat.le_refl _)).alloc o; have hbase : ∀ o, w3.heap.size ≤ (w4.alloc o).heap.size := (fun o => by have := hb34.size; simp; omega)) | (at_builtin; refine wpList_append_own _ rfl (.tmp 44) (.tmp 51) 50 rfl w3.heap.size 4 i0 (.bool false) 1 1 Tryz.underlying50 hi hz0 hz1 hz2 rfl (by decide) _ k _ rfl (hown3 _) ⟨w4.heap.size, 0, none⟩ 1 1 [.bool false] rfl rfl (cell_one_new _ _ _) (by intro u hu; simp at hu; subst hu; rfl) h63 hkb (hbase _) ?_; intro v' w5 hown' hgrow _))
            have hb5 : Below w3.heap.size w3 w5 := (hb34.alloc hb34.size _).grown hgrow (hbase _) (fun z hz => (hnb z hz).1)
            have HO5 : Hid (w5.ownsRow w3.heap.size 4 1 v' (k + 1) (bvals ((ps.take (k + 1)).map (fun p => holdsB p env)))) := by
              show World.ownsRow _ _ _ _ _ _ _
              rw [HEl.out]
              exact hown'
            clear hown' hgrow hown3
            exact ⟨⟨k + 1, hlt, by first | rfl | simp, HO5.out, hb5⟩, by simp [intOf]; omega⟩
        · have hkn : k = pn := by omega
          subst hkn
          have hown := HOwn.out
          rw [List.take_of_length_le (by rw [← HPN.out]; omega)] at hown
          obtain ⟨oo, oc, rfl⟩ := owns_slice hown
          have HTy : Hid (RowTy wr (.slice oo k oc) 4) := rowTy_owns hown
          have hbo : BoolsV wr (.slice oo k oc) (ps.map (fun p => holdsB p env)) := boolsV_of_owns (by rw [show (ps.map (fun p => holdsB p env)).length = k by simp [HPN.out]]; exact hown)
          have HBO := (show Hid _ from hbo)
          clear hown hbo
          go_wp2_with fail
          go_ret2
          exact ⟨_, rfl, hbw, HBO.out, HTy.out⟩
    · have hlc : letC m ps code = wcode m code := by unfold letC; rw [if_pos hp]
      have hll : letL m ps code = [] := by unfold letL; rw [if_neg (by rw [hlc]; exact hw)]
      rw [hlc, hll]
      generalize wcode m code = c at *
      generalize wvals m code = vs at *
      generalize m.vars.length = n at *
      generalize m.rules.length = rn at *
      generalize ps.length = pn at *
      clear hV hlc hll hPa
      go_enter Tryz.func17, Tryz.ntmps17
      go_wp2_with (first | (go_at_call 26; refine (hpr _).mono ?_; rintro e w1 ⟨rfl, hb1⟩; have hbw1 := (hA _).trans (hb1.mono (hA _).size); have k10 : w1.cell? ⟨w.heap.size, 0, none⟩ = some (.slice ao n cap) := (hb1.cell (p := ⟨w.heap.size, 0, none⟩) (by simp)).trans (by simp [go_sem]); have k11 : w1.cell? ⟨w.heap.size, 1, none⟩ = some (.slice ro rn rc) := (hb1.cell (p := ⟨w.heap.size, 1, none⟩) (by simp)).trans (by simp [go_sem])) | (go_at_call 32; refine (hvl _ hbw1).mono ?_; rintro e w3 ⟨v, rfl, hb3, _⟩))
      go_ret2
      exact ⟨_, rfl, hbw1.trans (hb3.mono hbw1.size), ⟨none, 0, rfl, fun h => absurd rfl h⟩, RowTy.nil _ _⟩
  · have hlc : letC m ps code = pcode m ps := by unfold letC; rw [if_neg hp]
    have hll : letL m ps code = [] := by unfold letL; rw [if_neg (by rw [hlc]; exact hp)]
    rw [hlc, hll]
    generalize pcode m ps = c at *
    generalize m.vars.length = n at *
    generalize m.rules.length = rn at *
    generalize ps.length = pn at *
    clear hV hlc hll hPa
    go_enter Tryz.func17, Tryz.ntmps17
    go_wp2_with (go_at_call 26; refine (hpr _).mono ?_; rintro e w1 ⟨rfl, hb1⟩)
    go_ret2
    exact ⟨_, rfl, (hA _).trans (hb1.mono (hA _).size), ⟨none, 0, rfl, fun h => absurd rfl h⟩, RowTy.nil _ _⟩
set_option maxRecDepth 20000 in
theorem rletter_any (va vr pv : Value) (m : Mo) (ps : List (List (Int × Int))) (code : Int) (w : World) (hlz : ps.length * 24 ≤ 140737488355328) (hV : ModelV w va vr m) (hP : TermsV w pv ps) :
    Calls Tryz.prog 17 #[.agg #[va, vr], pv, .int .i64 code] w fun e w' => ∃ v, e = .returned (.tuple #[v, .int .i64 (letC m ps code)]) ∧ Below w.heap.size w w' ∧ BoolsV w' v (letL m ps code) :=
  (rletter_own va vr pv m ps code w hlz hV hP).mono fun _ _ ⟨v, h1, h2, h3, _⟩ => ⟨v, h1, h2, h3⟩
end Go.Proofs.YtnicbkkkecfdpaaGreatDoor

/-
  A word under way in its box: how it lies while the document's KeepsOn makes it.
-/
namespace Go.Proofs.YtnicbkkkecfdpaaGreatDoor
open Go.ChangeShapes Go.WideShapes Go.ChangeAt Go.RowKit Go.Deep
open Terms Tm

theorem RowTy.belowK {w w' : World} {v : Value} {t : TypeId} (h : RowTy w v t) (hb : Below w.heap.size w w') : RowTy w' v t := by
  intro a n c e
  obtain ⟨cs, fr, h1⟩ := h a n c e
  exact ⟨cs, fr, (hb.block _ (Array.getElem?_eq_some_iff.1 h1).1).trans h1⟩
theorem RowTy.setK {w : World} {v : Value} {t : TypeId} (h : RowTy w v t) (b i : Nat) (u : Value) : RowTy (w.setCell ⟨b, i, none⟩ u) v t := by
  intro a n c e
  obtain ⟨cs, fr, h1⟩ := h a n c e
  by_cases hp : a.block = b
  · refine ⟨cs.setIfInBounds i u, fr, ?_⟩
    simp [World.setCell, Array.getElem?_modify, ← hp, h1]
  · exact ⟨cs, fr, (RowKit.Below.heap_setCell _ _ _ _ hp).trans h1⟩
theorem tyK_ne {w : World} {a b : Nat} {t t' : TypeId} (h : ∃ cs fr, w.heap[a]? = some (.cells cs t fr)) (h' : ∃ cs fr, w.heap[b]? = some (.cells cs t' fr)) (ht : t ≠ t') : a ≠ b := by
  rintro rfl
  obtain ⟨cs, fr, h1⟩ := h
  obtain ⟨cs', fr', h2⟩ := h'
  rw [h1] at h2
  injection h2 with h2
  injection h2 with _ h3 _
  exact ht h3
theorem BoolsV.growK {w w' : World} {v : Value} {x : List Bool} {own : Option Nat} (h : BoolsV w v x) (hty : RowTy w v 4) (hg : w.grownBy w' own) (ho : ∀ g, own = some g → ∃ cs fr, w.heap[g]? = some (.cells cs 50 fr)) : BoolsV w' v x ∧ RowTy w' v 4 := by
  have hne : ∀ a n c, v = .slice (some a) n c → some a.block ≠ own := fun a n c e e2 => tyK_ne (hty a n c e) (ho _ e2.symm) (by decide) rfl
  constructor
  · obtain ⟨ao, cap, rfl, h⟩ := h
    refine ⟨ao, cap, rfl, fun hnn => ?_⟩
    obtain ⟨b, off, rfl, hlt, hat⟩ := h hnn
    exact ⟨b, off, rfl, Nat.lt_of_lt_of_le hlt hg.size, fun i hi => (World.cell?_of_block (a := ⟨b, off + i, none⟩) (hg.block b hlt (hne _ _ _ rfl))).trans (hat i hi)⟩
  · intro a n c e
    obtain ⟨cs, fr, h1⟩ := hty a n c e
    exact ⟨cs, fr, (hg.block _ (Array.getElem?_eq_some_iff.1 h1).1 (hne a n c e)).trans h1⟩
/-- letters of which each lies somewhere, their row in memory of the call's own. -/
def LettersT (w : World) (base : Nat) (v : Value) (ls : List (List Bool)) : Prop :=
  ∃ us : List Value, w.ownsRow base 50 1 v ls.length us ∧ ∀ j, j < ls.length → BoolsV w (us.getD j nilV) (ls.getD j []) ∧ RowTy w (us.getD j nilV) 4
theorem LettersT.nil (w : World) (base : Nat) : LettersT w base (.slice none 0 0) [] := ⟨[], World.ownsRow_nil _ _ _ _, fun j hj => by simp at hj⟩
theorem LettersT.later {w w' : World} {base : Nat} {v : Value} {ls : List (List Bool)} (h : LettersT w base v ls) (hb : Below w.heap.size w w') : LettersT w' base v ls := by
  obtain ⟨us, h1, h2⟩ := h
  exact ⟨us, owns_later h1 hb (Nat.le_refl _), fun j hj => ⟨(h2 j hj).1.below hb, (h2 j hj).2.belowK hb⟩⟩
theorem LettersT.lettersV {w : World} {base : Nat} {v : Value} {ls : List (List Bool)} (h : LettersT w base v ls) : LettersV w v ls := by
  obtain ⟨us, h1, h2⟩ := h
  have hl : us.length = ls.length := by simpa using h1.1
  exact lettersV_of_owns (us := us) (by rw [hl]; exact h1) ⟨hl, fun i hi => (h2 i hi).1⟩
theorem owns_lowK {w : World} {base : Nat} {e : TypeId} {s n : Nat} {v : Value} {xs : List Value} (h : w.ownsRow base e s v n xs) {p : Addr} (hp : p.block < base) (u : Value) : (w.setCell p u).ownsRow base e s v n xs := by
  obtain ⟨h1, h2⟩ := h
  refine ⟨h1, ?_⟩
  rcases h2 with h2 | ⟨g, cap, cur, hv, hg, hh, r⟩
  · exact .inl h2
  · exact .inr ⟨g, cap, cur, hv, hg, (Below.heap_setCell w p u g (by omega)).trans hh, r⟩
theorem LettersT.low {w : World} {base D i : Nat} {v : Value} {ls : List (List Bool)} (h : LettersT w base v ls) (hp : D < base) {a : Option Addr} {n c : Nat} (hc : w.cell? ⟨D, i, none⟩ = some (.slice a n c)) (u : Value) : LettersT (w.setCell ⟨D, i, none⟩ u) base v ls := by
  obtain ⟨us, h1, h2⟩ := h
  exact ⟨us, owns_lowK h1 (p := ⟨D, i, none⟩) hp u, fun j hj => ⟨(h2 j hj).1.setS hc u, (h2 j hj).2.setK _ _ _⟩⟩
theorem owns_ty {w : World} {base n s : Nat} {e : TypeId} {v : Value} {xs : List Value} (h : w.ownsRow base e s v n xs) : ∀ g, v.ownBlock = some g → ∃ cs fr, w.heap[g]? = some (.cells cs e fr) := by
  intro g hg
  rcases h.2 with ⟨rfl, _⟩ | ⟨g', cap, cur, rfl, _, h3, _⟩
  · simp [Value.ownBlock] at hg
  · simp [Value.ownBlock] at hg
    subst hg
    exact ⟨cur, _, h3⟩
theorem LettersT.snoc {w w' : World} {base : Nat} {v v' u : Value} {ls : List (List Bool)} {t : List Bool} {us : List Value} (hus : w.ownsRow base 50 1 v ls.length us) (hls : ∀ j, j < ls.length → BoolsV w (us.getD j nilV) (ls.getD j []) ∧ RowTy w (us.getD j nilV) 4) (hu : BoolsV w u t) (hut : RowTy w u 4)
    (hg : w.grownBy w' v.ownBlock) (ho : w'.ownsRow base 50 1 v' (ls.length + 1) (us ++ [u])) : LettersT w' base v' (ls ++ [t]) := by
  have hl : us.length = ls.length := by simpa using hus.1
  refine ⟨us ++ [u], by simpa using ho, fun j hj => ?_⟩
  by_cases hlt : j < ls.length
  · have h1 := hls j hlt
    have := h1.1.growK h1.2 hg (owns_ty hus)
    simpa [List.getD_eq_getElem?_getD, List.getElem?_append_left (show j < us.length by omega), List.getElem?_append_left hlt] using this
  · have hj' : j = ls.length := by simp at hj; omega
    subst hj'
    have := hu.growK hut hg (owns_ty hus)
    simpa [List.getD_eq_getElem?_getD, ← hl] using this
theorem LettersT.other {w w' : World} {base : Nat} {v : Value} {ls : List (List Bool)} {own : Option Nat} (h : LettersT w base v ls) (hg : w.grownBy w' own) (ho : ∀ g, own = some g → ∃ cs fr, w.heap[g]? = some (.cells cs 50 fr)) (hne : v.ownBlock = none ∨ v.ownBlock ≠ own) : LettersT w' base v ls := by
  obtain ⟨us, h1, h2⟩ := h
  exact ⟨us, h1.kept hg hne, fun j hj => (h2 j hj).1.growK (h2 j hj).2 hg ho⟩
/-- a word's box. -/
def WBx (w : World) (D : Nat) (x y : Value) : Prop := D < w.heap.size ∧ w.cell? ⟨D, 0, none⟩ = some x ∧ w.cell? ⟨D, 1, none⟩ = some y ∧ w.frozen? ⟨D, 0, none⟩ = false ∧ w.frozen? ⟨D, 1, none⟩ = false
theorem WBx.later {w w' : World} {D : Nat} {x y : Value} (h : WBx w D x y) (hb : Below w.heap.size w w') : WBx w' D x y := by
  obtain ⟨h0, h1, h2, h3, h4⟩ := h
  exact ⟨Nat.lt_of_lt_of_le h0 hb.size, (hb.cell (p := ⟨D, 0, none⟩) h0).trans h1, (hb.cell (p := ⟨D, 1, none⟩) h0).trans h2, (hb.frozen (p := ⟨D, 0, none⟩) h0).trans h3, (hb.frozen (p := ⟨D, 1, none⟩) h0).trans h4⟩
theorem WBx.grown {w w' : World} {D : Nat} {x y : Value} {own : Option Nat} (h : WBx w D x y) (hg : w.grownBy w' own) (hne : some D ≠ own) : WBx w' D x y := by
  obtain ⟨h0, h1, h2, h3, h4⟩ := h
  have hb := hg.block D h0 hne
  exact ⟨Nat.lt_of_lt_of_le h0 hg.size, (World.cell?_of_block (a := ⟨D, 0, none⟩) hb).trans h1, (World.cell?_of_block (a := ⟨D, 1, none⟩) hb).trans h2, (World.frozen?_of_block (a := ⟨D, 0, none⟩) hb).trans h3, (World.frozen?_of_block (a := ⟨D, 1, none⟩) hb).trans h4⟩
theorem WBx.set0 {w : World} {D : Nat} {x y : Value} (h : WBx w D x y) (u : Value) : WBx (w.setCell ⟨D, 0, none⟩ u) D u y := by
  obtain ⟨h0, h1, h2, h3, h4⟩ := h
  refine ⟨by simpa using h0, ?_, ?_, ?_, ?_⟩ <;> simp [go_sem, h1, h2, h3, h4]
theorem WBx.set1 {w : World} {D : Nat} {x y : Value} (h : WBx w D x y) (u : Value) : WBx (w.setCell ⟨D, 1, none⟩ u) D x u := by
  obtain ⟨h0, h1, h2, h3, h4⟩ := h
  refine ⟨by simpa using h0, ?_, ?_, ?_, ?_⟩ <;> simp [go_sem, h1, h2, h3, h4]
/-- the word under way: D its box, W the world ahead of it. -/
structure KwJ (W wr : World) (D : Nat) (so lo : Option Addr) (sc lc : Nat) (Ls Ll : List (List Bool)) : Prop where
  bel : Below D W wr
  box : WBx wr D (.slice so Ls.length sc) (.slice lo Ll.length lc)
  stem : LettersT wr (D + 1) (.slice so Ls.length sc) Ls
  loop : LettersT wr (D + 1) (.slice lo Ll.length lc) Ll
  apart : ∀ g n c, so = some g → lo = some ⟨g.block, n, c⟩ → False
theorem KwJ.later {W wr w' : World} {D : Nat} {so lo : Option Addr} {sc lc : Nat} {Ls Ll : List (List Bool)} (h : KwJ W wr D so lo sc lc Ls Ll) (hb : Below wr.heap.size wr w') : KwJ W w' D so lo sc lc Ls Ll :=
  ⟨h.bel.trans (hb.mono (Nat.le_of_lt h.box.1)), h.box.later hb, h.stem.later hb, h.loop.later hb, h.apart⟩
theorem block_of {so : Option Addr} {n c : Nat} {g : Nat} (h : (Value.slice so n c).ownBlock = some g) : ∃ a, so = some a ∧ a.block = g := by
  cases so with
  | none => simp [Value.ownBlock] at h
  | some a => simp [Value.ownBlock] at h; exact ⟨a, rfl, h⟩
/-- one letter more in the stem. -/
theorem KwJ.stemUp {W w2 w4 : World} {D g sc' : Nat} {so lo : Option Addr} {sc lc : Nat} {Ls Ll : List (List Bool)} {u : Value} {t : List Bool} {us : List Value} {o : Obj} (h : KwJ W w2 D so lo sc lc Ls Ll) (hus : w2.ownsRow (D + 1) 50 1 (.slice so Ls.length sc) Ls.length us) (hls : ∀ j, j < Ls.length → BoolsV w2 (us.getD j nilV) (Ls.getD j []) ∧ RowTy w2 (us.getD j nilV) 4) (hu : BoolsV w2 u t) (hut : RowTy w2 u 4)
    (ho : (w4.ownsRow (D + 1) 50 1 (.slice (some ⟨g, 0, none⟩) (Ls.length + 1) sc') (Ls.length + 1) (us ++ [u]))) (hg : (w2.alloc o).grownBy w4 (Value.slice so Ls.length sc).ownBlock) (hgl : (Value.slice so Ls.length sc).ownBlock = some g ∨ g = w2.heap.size + 1) :
    w4.frozen? ⟨D, 0, none⟩ = false ∧ (∃ x, w4.cell? ⟨D, 0, none⟩ = some x) ∧ KwJ W (w4.setCell ⟨D, 0, none⟩ (.slice (some ⟨g, 0, none⟩) (Ls.length + 1) sc')) D (some ⟨g, 0, none⟩) lo sc' lc (Ls ++ [t]) Ll := by
  have hA : Below w2.heap.size w2 (w2.alloc o) := (Below.refl _ _).alloc (Nat.le_refl _) _
  have hnb := hus.lt
  have hDn : some D ≠ (Value.slice so Ls.length sc).ownBlock := fun e => by have := (hnb D e.symm).1; omega
  have hJ := h.later hA
  have hus' := hus.alloc o
  have hlo : (Value.slice lo Ll.length lc).ownBlock = none ∨ (Value.slice lo Ll.length lc).ownBlock ≠ (Value.slice so Ls.length sc).ownBlock := by
    by_cases e : (Value.slice lo Ll.length lc).ownBlock = (Value.slice so Ls.length sc).ownBlock
    · cases hso : (Value.slice so Ls.length sc).ownBlock with
      | none => exact .inl (e.trans hso)
      | some q =>
        obtain ⟨a, rfl, ha⟩ := block_of hso
        obtain ⟨b, rfl, hb⟩ := block_of (e.trans hso)
        obtain ⟨b0, b1, b2⟩ := b
        simp only at hb
        exact (h.apart a b1 b2 rfl (by rw [ha, ← hb])).elim
    · exact .inr e
  have hbox := hJ.box.grown hg hDn
  have hst := LettersT.snoc hus' (fun j hj => ⟨(hls j hj).1.below hA, (hls j hj).2.belowK hA⟩) (hu.below hA) (hut.belowK hA) hg ho
  have hlp := hJ.loop.other hg (owns_ty hus') hlo
  have e1 : Ls.length + 1 = (Ls ++ [t]).length := by simp
  refine ⟨hbox.2.2.2.1, ⟨_, hbox.2.1⟩, ?_⟩
  rw [e1] at hst ⊢
  refine ⟨?_, hbox.set0 _, hst.low (Nat.lt_succ_self _) hbox.2.1 _, hlp.low (Nat.lt_succ_self _) hbox.2.1 _, ?_⟩
  · have hb4 : Below D W w4 := hJ.bel.grown hg (Nat.le_of_lt hJ.box.1) (fun q hq => by have := (hnb q hq).1; omega)
    exact ⟨hb4.os, hb4.tape, hb4.output, by simpa using hb4.size, fun i hi => (Below.heap_setCell _ _ _ _ (by show i ≠ D; omega)).trans (hb4.block i hi)⟩
  · intro a n c ea eb
    injection ea with ea
    subst ea
    rcases hgl with hgl | hgl
    · obtain ⟨a', rfl, ha⟩ := block_of hgl
      exact h.apart a' n c rfl (by rw [eb, ha])
    · obtain ⟨us2, h3, _⟩ := h.loop
      have := (h3.lt g (by rw [eb]; rfl)).2
      omega
/-- one letter more in the loop. -/
theorem KwJ.loopUp {W w2 w4 : World} {D g lc' : Nat} {so lo : Option Addr} {sc lc : Nat} {Ls Ll : List (List Bool)} {u : Value} {t : List Bool} {us : List Value} {o : Obj} (h : KwJ W w2 D so lo sc lc Ls Ll) (hus : w2.ownsRow (D + 1) 50 1 (.slice lo Ll.length lc) Ll.length us) (hls : ∀ j, j < Ll.length → BoolsV w2 (us.getD j nilV) (Ll.getD j []) ∧ RowTy w2 (us.getD j nilV) 4) (hu : BoolsV w2 u t) (hut : RowTy w2 u 4)
    (ho : (w4.ownsRow (D + 1) 50 1 (.slice (some ⟨g, 0, none⟩) (Ll.length + 1) lc') (Ll.length + 1) (us ++ [u]))) (hg : (w2.alloc o).grownBy w4 (Value.slice lo Ll.length lc).ownBlock) (hgl : (Value.slice lo Ll.length lc).ownBlock = some g ∨ g = w2.heap.size + 1) :
    w4.frozen? ⟨D, 1, none⟩ = false ∧ (∃ x, w4.cell? ⟨D, 1, none⟩ = some x) ∧ KwJ W (w4.setCell ⟨D, 1, none⟩ (.slice (some ⟨g, 0, none⟩) (Ll.length + 1) lc')) D so (some ⟨g, 0, none⟩) sc lc' Ls (Ll ++ [t]) := by
  have hA : Below w2.heap.size w2 (w2.alloc o) := (Below.refl _ _).alloc (Nat.le_refl _) _
  have hnb := hus.lt
  have hDn : some D ≠ (Value.slice lo Ll.length lc).ownBlock := fun e => by have := (hnb D e.symm).1; omega
  have hJ := h.later hA
  have hus' := hus.alloc o
  have hlo : (Value.slice so Ls.length sc).ownBlock = none ∨ (Value.slice so Ls.length sc).ownBlock ≠ (Value.slice lo Ll.length lc).ownBlock := by
    by_cases e : (Value.slice so Ls.length sc).ownBlock = (Value.slice lo Ll.length lc).ownBlock
    · cases hso : (Value.slice so Ls.length sc).ownBlock with
      | none => exact .inl rfl
      | some q =>
        obtain ⟨a, rfl, ha⟩ := block_of hso
        obtain ⟨b, rfl, hb⟩ := block_of (e.symm.trans hso)
        obtain ⟨b0, b1, b2⟩ := b
        simp only at hb
        exact (h.apart a b1 b2 rfl (by rw [ha, ← hb])).elim
    · exact .inr e
  have hbox := hJ.box.grown hg hDn
  have hst := LettersT.snoc hus' (fun j hj => ⟨(hls j hj).1.below hA, (hls j hj).2.belowK hA⟩) (hu.below hA) (hut.belowK hA) hg ho
  have hlp := hJ.stem.other hg (owns_ty hus') hlo
  have e1 : Ll.length + 1 = (Ll ++ [t]).length := by simp
  refine ⟨hbox.2.2.2.2, ⟨_, hbox.2.2.1⟩, ?_⟩
  rw [e1] at hst ⊢
  refine ⟨?_, hbox.set1 _, hlp.low (Nat.lt_succ_self _) hbox.2.2.1 _, hst.low (Nat.lt_succ_self _) hbox.2.2.1 _, ?_⟩
  · have hb4 : Below D W w4 := hJ.bel.grown hg (Nat.le_of_lt hJ.box.1) (fun q hq => by have := (hnb q hq).1; omega)
    exact ⟨hb4.os, hb4.tape, hb4.output, by simpa using hb4.size, fun i hi => (Below.heap_setCell _ _ _ _ (by show i ≠ D; omega)).trans (hb4.block i hi)⟩
  · intro a n c ea eb
    injection eb with eb
    injection eb with eb1 _ _
    rcases hgl with hgl | hgl
    · obtain ⟨⟨b0, b1, b2⟩, rfl, ha⟩ := block_of hgl
      simp only at ha
      exact h.apart a b1 b2 ea (by rw [ha, eb1])
    · subst ea
      obtain ⟨us2, h3, _⟩ := h.stem
      have := (h3.lt a.block rfl).2
      omega
end Go.Proofs.YtnicbkkkecfdpaaGreatDoor

/-
  The contract of the document's own NextOf.
-/
namespace Go.Proofs.YtnicbkkkecfdpaaGreatDoor
open Go.ChangeShapes Go.WideShapes Go.ChangeAt Go.RowKit Go.Deep
open Terms Tm

/-- of the first so many numbers those that a list has. -/
def pickTo (raw : List Int) (c : Nat) : List Int := ((List.range c).filter (fun j : Nat => decide ((j : Int) ∈ raw))).map (fun j : Nat => (j : Int))
set_option maxRecDepth 20000 in
theorem pickTo_yes {raw : List Int} {c : Nat} (h : (c : Int) ∈ raw) : pickTo raw (c + 1) = pickTo raw c ++ [(c : Int)] := by simp [pickTo, List.range_succ, List.filter_append, h]
set_option maxRecDepth 20000 in
theorem pickTo_no {raw : List Int} {c : Nat} (h : ¬ (c : Int) ∈ raw) : pickTo raw (c + 1) = pickTo raw c := by simp [pickTo, List.range_succ, List.filter_append, h]
set_option maxRecDepth 20000 in
theorem pickTo_rise (raw : List Int) (c : Nat) : Rise (pickTo raw c) := by
  induction c with
  | zero => simp [pickTo]
  | succ c ih =>
    by_cases h : (c : Int) ∈ raw
    · rw [pickTo_yes h]
      refine List.pairwise_append.2 ⟨ih, by simp, fun x hx y hy => ?_⟩
      simp [pickTo] at hx
      obtain ⟨j, hj, rfl⟩ := hx
      simp at hy
      omega
    · rw [pickTo_no h]; exact ih
set_option maxRecDepth 20000 in
theorem pickTo_mem {raw : List Int} {c : Nat} (h : ∀ x ∈ raw, 0 ≤ x ∧ x < c) (x : Int) : x ∈ pickTo raw c ↔ x ∈ raw := by
  simp only [pickTo, List.mem_map, List.mem_filter, List.mem_range, decide_eq_true_eq]
  constructor
  · rintro ⟨j, ⟨_, h2⟩, rfl⟩; exact h2
  · intro hx
    obtain ⟨h0, h1⟩ := h x hx
    exact ⟨x.toNat, ⟨by omega, by rw [Int.toNat_of_nonneg h0]; exact hx⟩, by omega⟩
set_option maxRecDepth 20000 in
theorem pickTo_length (raw : List Int) (c : Nat) : (pickTo raw c).length ≤ c := by
  unfold pickTo
  rw [List.length_map]
  exact Nat.le_trans (List.length_filter_le _ _) (by simp)
set_option maxRecDepth 20000 in
theorem upL_one (c : Int) : upL [c] = [c] := (upL_eq (l := [c]) (by simp) (fun _ => Iff.rfl)).symm

set_option maxHeartbeats 3200000 in
set_option maxRecDepth 20000 in
/-- THE CONTRACT OF NextOf. -/
theorem rnext_own (va vr : Value) (m : Mo) (code : Int) (w : World) (hV : ModelV w va vr m) :
    Calls Tryz.prog 31 #[.agg #[va, vr], .int .i64 code] w fun e w' => ∃ v, e = .returned (.tuple #[v, .int .i64 (wcode m code)]) ∧ Below w.heap.size w w' ∧ w'.ownsRow w.heap.size 3 1 v (nxtL m code).length (ivals (nxtL m code)) := by
  have hA : ∀ o, Below w.heap.size w (w.alloc o) := fun o => (Below.refl _ _).alloc (Nat.le_refl _) o
  have hcn := fun o => rcount_any va vr m (w.alloc o) (hV.below (hA o))
  by_cases hm : mcode m = 0
  · rw [hm, if_pos rfl] at hcn
    have hok := mcode_vars hm
    have hN := hok.prod (j := m.vars.length) (Nat.le_refl _)
    by_cases hc : 0 ≤ code ∧ code < prodTo m.vars m.vars.length
    · have hw : wcode m code = 0 := wcode_yes hm hc
      obtain ⟨hr12, _⟩ := mcode_rules hm
      have HAf : Hid (∀ w' (_ : Below w.heap.size w w') k, k < m.rules.length → Calls Tryz.prog 52 #[.agg #[va, vr], .int .i64 code, .int .i64 k] w' fun e w2 => e = .returned (.tuple #[.int .i64 (optN (ruleDo m.vars (valsL m.vars code) (m.rules.getD k ru0))), .int .i64 (optC (ruleDo m.vars (valsL m.vars code) (m.rules.getD k ru0)))]) ∧ Below w'.heap.size w' w2) := fun w' hb k hk => rafter_in va vr m code k w' (hV.below hb) hw hk
      have HSt : Hid (∀ k x, ruleDo m.vars (valsL m.vars code) (m.rules.getD k ru0) = some x → 0 ≤ x ∧ x < prodTo m.vars m.vars.length) := fun k x h => ruleDo_state hok h
      have HNL : Hid (nxtL m code = upL (if rawTo m.vars (valsL m.vars code) m.rules m.rules.length = [] then [code] else rawTo m.vars (valsL m.vars code) m.rules m.rules.length)) := by show _ = _; unfold nxtL nextL rawL; rw [if_pos hw]
      have HRM : Hid (∀ x ∈ rawTo m.vars (valsL m.vars code) m.rules m.rules.length, 0 ≤ x ∧ x < prodTo m.vars m.vars.length) := fun x hx => by
        obtain ⟨j, _, e⟩ := (rawTo_mem (Nat.le_refl _) x).1 hx
        exact ruleDo_state hok e
      rw [hw]
      generalize nxtL m code = res at *
      generalize valsL m.vars code = env at *
      obtain ⟨pn, hpn⟩ : ∃ pn : Nat, prodTo m.vars m.vars.length = pn := ⟨(prodTo m.vars m.vars.length).toNat, by omega⟩
      rw [hpn] at hcn hN hc HSt HRM
      have hii := fun w => in_any code 0 ((pn : Int) - 1) w
      rw [decide_eq_true (show 0 ≤ code ∧ code ≤ (pn : Int) - 1 by omega)] at hii
      obtain ⟨ao, cap, rfl⟩ := hV.1.shape
      obtain ⟨ro, rc, rfl⟩ := hV.2.shape
      obtain ⟨rn, hrn⟩ : ∃ rn, rn = m.rules.length := ⟨_, rfl⟩
      have HRN : Hid (rn = m.rules.length) := hrn
      rw [← hrn] at hcn HAf HNL HRM hr12 ⊢
      have hmk := run_make_row' (P := Tryz.prog) 50 4 (.bool false) 1 Tryz.underlying50 infoBool rfl .i64 .i64 pn (by omega) (by omega)
      obtain ⟨i0, hi, hz0, hz1, hz2⟩ := info_parts infoInt
      obtain ⟨hN0, hN1⟩ := hN
      clear hV hw hm hok hrn hpn hc
      generalize m.vars.length = n at *
      go_enter Tryz.func31, Tryz.ntmps31
      go_wp2_with (first | (go_at_call 28; refine (hcn _).mono ?_; rintro e w1 ⟨rfl, hb1⟩; have hbw1 := (hA _).trans (hb1.mono (hA _).size); have k10 : w1.cell? ⟨w.heap.size, 0, none⟩ = some (.slice ao n cap) := (hb1.cell (p := ⟨w.heap.size, 0, none⟩) (by simp)).trans (by simp [go_sem]); have k11 : w1.cell? ⟨w.heap.size, 1, none⟩ = some (.slice ro rn rc) := (hb1.cell (p := ⟨w.heap.size, 1, none⟩) (by simp)).trans (by simp [go_sem]); have hs1 : w.heap.size < w1.heap.size := (by have := hb1.size; simp at this; omega)) | (go_at_call 30; refine (hii _).mono ?_; rintro e w9 ⟨rfl, rfl⟩))
      have hrow0 := World.rowIs_made w9 (.bool false) pn 4
      have HB1 : Hid (Below w.heap.size w w9) := hbw1
      have HK1 : Hid (∀ w', Below w9.heap.size w9 w' → w'.cell? ⟨w.heap.size, 0, none⟩ = some (.slice ao n cap) ∧ w'.cell? ⟨w.heap.size, 1, none⟩ = some (.slice ro rn rc)) := fun w' hb => ⟨(hb.cell (p := ⟨w.heap.size, 0, none⟩) hs1).trans k10, (hb.cell (p := ⟨w.heap.size, 1, none⟩) hs1).trans k11⟩
      clear hcn hii hmk hb1 hbw1 k10 k11
      go_loopw [9, 10] (fun sm i wr => ∃ k : Nat, k ≤ rn ∧ i = .int .i64 k ∧ sm = .bool (decide (rawTo m.vars env m.rules k ≠ [])) ∧ Hid (wr.rowIs w9.heap.size 4 pn (fun j => .bool (decide ((j : Int) ∈ rawTo m.vars env m.rules k)))) ∧ Hid (Below w9.heap.size w9 wr)) (fun _ i _ => rn - (intOf i).toNat)
      case atStart => exact ⟨0, Nat.zero_le _, rfl, by simp [rawTo], hrow0.congr (fun i hi => by simp [rawTo]), (Below.refl _ _).alloc (Nat.le_refl _) _⟩
      case round =>
        obtain ⟨k, hk, rfl, rfl, HRow, HBel⟩ := hrel
        have hbel := HBel.out
        have hbw := HB1.out.trans (hbel.mono HB1.out.size)
        obtain ⟨kr0, kr1⟩ := HK1.out wr hbel
        by_cases hlt : k < rn
        · have haf := HAf.out wr hbw k hlt
          have hk' : k < m.rules.length := by rw [← HRN.out]; exact hlt
          have HW4 : Hid (∀ w4, Below wr.heap.size wr w4 → Below w9.heap.size w9 w4 ∧ w4.rowIs w9.heap.size 4 pn (fun j => .bool (decide ((j : Int) ∈ rawTo m.vars env m.rules k)))) := fun w4 hb => ⟨hbel.trans (hb.mono hbel.size), row_later HRow.out hb⟩
          cases hres : ruleDo m.vars env (m.rules.getD k ru0) with
          | none =>
            rw [hres] at haf
            simp only [optN, optC] at haf
            have HN : Hid (rawTo m.vars env m.rules (k + 1) = rawTo m.vars env m.rules k) := rawTo_none hk' hres
            clear HAf hres hk' hbel hbw HSt
            go_wp2_with (go_at_call 52; refine haf.mono ?_; rintro e w4 ⟨rfl, hb4⟩; obtain ⟨hb94, hr4⟩ := HW4.out w4 hb4)
            exact ⟨⟨k + 1, hlt, by first | rfl | simp, by rw [HN.out]; simp, by rw [HN.out]; exact hr4, hb94⟩, by simp [intOf]; omega⟩
          | some x =>
            rw [hres] at haf
            simp only [optN, optC] at haf
            have HN : Hid (rawTo m.vars env m.rules (k + 1) = rawTo m.vars env m.rules k ++ [x]) := rawTo_some hk' hres
            obtain ⟨hx0, hx1⟩ := HSt.out k x hres
            obtain ⟨xn, rfl⟩ : ∃ xn : Nat, x = xn := ⟨x.toNat, by omega⟩
            have hxn : xn < pn := by omega
            clear HAf hres hk' hbel hbw HSt
            go_wp2_with (go_at_call 52; refine haf.mono ?_; rintro e w4 ⟨rfl, hb4⟩; obtain ⟨hb94, hr4⟩ := HW4.out w4 hb4; have hf := hr4.frozen xn; have hc := hr4.cell hxn; have HR4 : Hid (w4.rowIs w9.heap.size 4 pn (fun j => .bool (decide ((j : Int) ∈ rawTo m.vars env m.rules k)))) := hr4; clear hr4)
            refine ⟨⟨k + 1, hlt, by first | rfl | simp, by rw [HN.out]; simp, (HR4.out.set xn (.bool true)).congr fun i hi => ?_, hb94.setCell (Nat.le_refl _) _⟩, by simp [intOf]; omega⟩
            rw [HN.out]
            by_cases hix : i = xn
            · subst hix; simp
            · rw [if_neg hix]
              simp [show ¬ (i : Int) = (xn : Int) by omega]
        · have hkn : k = rn := by omega
          subst hkn
          generalize rawTo m.vars env m.rules k = raw at *
          clear HAf HSt kr0 kr1 hlt hk
          by_cases hraw : raw = []
          · have HRes : Hid (res = [code]) := by show _ = _; rw [HNL.out, if_pos hraw, upL_one]
            subst hraw
            obtain ⟨kr0, kr1⟩ := HK1.out wr hbel
            have HIl : Hid ((wr.alloc (.cells #[.int .i64 code] 3)).ownsRow w.heap.size 3 1 (.slice (some ⟨wr.heap.size, 0, none⟩) 1 1) 1 (ivals [code])) := World.ownsRow_lit wr #[.int .i64 code] 1 hbw.size (by decide) rfl
            go_wp2_with fail
            go_ret2
            exact ⟨_, rfl, hbw.alloc hbw.size _, by rw [HRes.out]; exact HIl.out⟩
          · have HRes : Hid (res = pickTo raw pn) := by
              show _ = _
              rw [HNL.out, if_neg hraw]
              exact (upL_eq (pickTo_rise raw pn) (pickTo_mem HRM.out)).symm
            obtain ⟨kr0, kr1⟩ := HK1.out wr hbel
            have HRow2 : Hid (wr.rowIs w9.heap.size 4 pn (fun j => .bool (decide ((j : Int) ∈ raw)))) := HRow.out
            obtain ⟨wo, hwo⟩ : ∃ wo, wo = wr := ⟨_, rfl⟩
            subst hwo
            rw [decide_eq_true hraw]
            clear hraw HNL
            go_wp2_with fail
            go_loopw [13, 14] (fun out i wr => ∃ c : Nat, c ≤ pn ∧ i = .int .i64 c ∧ Hid (wr.ownsRow wo.heap.size 3 1 out (pickTo raw c).length (ivals (pickTo raw c))) ∧ Hid (Below wo.heap.size wo wr)) (fun _ i _ => pn - (intOf i).toNat)
            case atStart => exact ⟨0, Nat.zero_le _, rfl, World.ownsRow_nil _ _ _ _, Below.refl _ _⟩
            case round =>
              obtain ⟨c, hc, rfl, HOwn, HBc⟩ := hrel
              have hbc := HBc.out
              have hrc := row_later HRow2.out hbc
              have hown := HOwn.out
              have hnb := hown.lt
              obtain ⟨oo, oc, rfl⟩ := owns_slice hown
              by_cases hlc : c < pn
              · have hcc := hrc.cell hlc
                have HPl : Hid ((pickTo raw c).length ≤ c) := pickTo_length _ _
                clear hrc
                by_cases hin : (c : Int) ∈ raw
                · simp only [hin, decide_true] at hcc
                  have HN : Hid (pickTo raw (c + 1) = pickTo raw c ++ [(c : Int)]) := pickTo_yes hin
                  obtain ⟨L, hL⟩ : ∃ L, L = (pickTo raw c).length := ⟨_, rfl⟩
                  have HL : Hid (L = (pickTo raw c).length) := hL
                  rw [← hL] at hown hnb HPl ⊢
                  have h63 : L + 1 ≤ maxLen := by have := HPl.out; unfold maxLen; omega
                  have hkb : (L + 1) * 8 ≤ 140737488355328 := by have := HPl.out; omega
                  have hown4 := fun o => hown.alloc o
                  have hbase : ∀ o, wo.heap.size ≤ (wr.alloc o).heap.size := fun o => by have := hbc.size; simp; omega
                  clear hL hin HOwn hown
                  go_wp2_with (at_builtin; refine wpList_append_own _ rfl (.tmp 62) (.tmp 64) 30 rfl wo.heap.size 3 i0 (.int .i64 0) 1 8 Tryz.underlying30 hi hz0 hz1 hz2 rfl (by decide) (.slice oo L oc) L _ rfl (hown4 _) ⟨wr.heap.size, 0, none⟩ 1 1 [.int .i64 c] rfl rfl (cell_one_new _ _ _) (by intro u hu; simp at hu; subst hu; rfl) h63 hkb (hbase _) ?_; intro v' w4 hown' hgrow _)
                  have hb4 : Below wo.heap.size wo w4 := (hbc.alloc hbc.size _).grown hgrow (hbase _) (fun z hz => (hnb z hz).1)
                  have ho4 : w4.ownsRow wo.heap.size 3 1 v' (pickTo raw (c + 1)).length (ivals (pickTo raw (c + 1))) := by
                    rw [HN.out, List.length_append, ← HL.out]
                    rw [show ivals (pickTo raw c ++ [(c : Int)]) = ivals (pickTo raw c) ++ [.int .i64 c] by simp [ivals]]
                    exact hown'
                  go_roundw
                  case rel => exact ⟨c + 1, hlc, by go_num, ho4, hb4⟩
                  case measure => simp [intOf]; omega
                · simp only [hin, decide_false] at hcc
                  have HN : Hid (pickTo raw (c + 1) = pickTo raw c) := pickTo_no hin
                  clear hin hown
                  go_wp2_with fail
                  exact ⟨⟨c + 1, hlc, by first | rfl | simp, by rw [HN.out]; exact HOwn.out, hbc⟩, by simp [intOf]; omega⟩
              · have hcn : c = pn := by omega
                subst hcn
                have hI : wr.ownsRow w.heap.size 3 1 (.slice oo (pickTo raw c).length oc) (pickTo raw c).length (ivals (pickTo raw c)) := owns_mono hown hbw.size
                have HI := (show Hid _ from hI)
                clear hI hown hrc HOwn
                go_wp2_with fail
                go_ret2
                exact ⟨_, rfl, hbw.trans (hbc.mono hbw.size), by rw [HRes.out]; exact HI.out⟩
    · have hw : wcode m code = 9 := wcode_no hm hc
      have hnl : nxtL m code = [] := by unfold nxtL; rw [if_neg (by rw [hw]; decide)]
      rw [hw, hnl]
      have hii := fun w => in_any code 0 (prodTo m.vars m.vars.length - 1) w
      rw [decide_eq_false (show ¬ (0 ≤ code ∧ code ≤ prodTo m.vars m.vars.length - 1) by omega)] at hii
      obtain ⟨ao, cap, rfl⟩ := hV.1.shape
      obtain ⟨ro, rc, rfl⟩ := hV.2.shape
      obtain ⟨hN0, hN1⟩ := hN
      generalize prodTo m.vars m.vars.length = N at *
      generalize m.vars.length = n at *
      generalize m.rules.length = rn at *
      clear hV hw hnl hm hok hc
      go_enter Tryz.func31, Tryz.ntmps31
      go_wp2_with (first | (go_at_call 28; refine (hcn _).mono ?_; rintro e w1 ⟨rfl, hb1⟩) | (go_at_call 30; refine (hii _).mono ?_; rintro e w9 ⟨rfl, rfl⟩))
      go_ret2
      exact ⟨_, rfl, (hA _).trans (hb1.mono (hA _).size), World.ownsRow_nil _ _ _ _⟩
  · have hw : wcode m code = mcode m := wcode_bad hm
    have hnl : nxtL m code = [] := by unfold nxtL; rw [if_neg (by rw [hw]; exact hm)]
    rw [hw, hnl]
    rw [if_neg hm] at hcn
    obtain ⟨ao, cap, rfl⟩ := hV.1.shape
    obtain ⟨ro, rc, rfl⟩ := hV.2.shape
    generalize mcode m = c at *
    generalize m.vars.length = n at *
    generalize m.rules.length = rn at *
    clear hV hw hnl
    go_enter Tryz.func31, Tryz.ntmps31
    go_wp2_with (go_at_call 28; refine (hcn _).mono ?_; rintro e w1 ⟨rfl, hb1⟩)
    go_ret2
    exact ⟨_, rfl, (hA _).trans (hb1.mono (hA _).size), World.ownsRow_nil _ _ _ _⟩
set_option maxRecDepth 20000 in
theorem rnext_any (va vr : Value) (m : Mo) (code : Int) (w : World) (hV : ModelV w va vr m) :
    Calls Tryz.prog 31 #[.agg #[va, vr], .int .i64 code] w fun e w' => ∃ v, e = .returned (.tuple #[v, .int .i64 (wcode m code)]) ∧ Below w.heap.size w w' ∧ IntsV w' v (nxtL m code) :=
  (rnext_own va vr m code w hV).mono fun _ _ ⟨v, h1, h2, h3⟩ => ⟨v, h1, h2, intsV_of_owns h3⟩
end Go.Proofs.YtnicbkkkecfdpaaGreatDoor

/-
  The contract of the document's own FirstCode.
-/
namespace Go.Proofs.YtnicbkkkecfdpaaGreatDoor
open Go.ChangeShapes Go.WideShapes Go.ChangeAt Go.RowKit Go.Deep
open Terms Tm

set_option maxRecDepth 20000 in
theorem ivals_inits {l : List Vr} {k : Nat} (h : k < l.length) : ivals (initsL (l.take (k + 1))) = ivals (initsL (l.take k)) ++ [.int .i64 (l.getD k vr0).ini] := by
  rw [List.take_succ_eq_append_getElem h, List.getD_eq_getElem?_getD, List.getElem?_eq_getElem h]
  simp only [ivals, initsL, List.map_append, List.map_cons, List.map_nil, Option.getD_some]

set_option maxRecDepth 20000 in
set_option maxHeartbeats 1600000 in
/-- THE CONTRACT OF FirstCode. -/
theorem rfirst_any (va vr : Value) (m : Mo) (w : World) (hz : m.vars.length * 40 ≤ 140737488355328) (hV : ModelV w va vr m) :
    Calls Tryz.prog 29 #[.agg #[va, vr]] w fun e w' => e = .returned (.tuple #[.int .i64 (if mcode m = 0 then codeTo m.vars (initsL m.vars) m.vars.length else 0), .int .i64 (mcode m)]) ∧ Below w.heap.size w w' := by
  have hres : ccode m (initsL m.vars) = mcode m ∧ cval m (initsL m.vars) = if mcode m = 0 then codeTo m.vars (initsL m.vars) m.vars.length else 0 := by
    by_cases h : mcode m = 0
    · have h1 := ccode_yes h (vals := initsL m.vars) ⟨by simp [initsL], inits_in (mcode_vars h)⟩
      refine ⟨by rw [h1, h], ?_⟩
      unfold cval
      rw [h1, if_pos rfl, if_pos h]
    · have h1 := ccode_bad (vals := initsL m.vars) h
      refine ⟨h1, ?_⟩
      unfold cval
      rw [h1, if_neg h]
  have hcf := (fun vv w1 (hb : Below w.heap.size w w1) (hI : IntsV w1 vv (initsL m.vars)) => rcodes_any va vr vv m (initsL m.vars) w1 (hV.below hb) hI)
  rw [hres.1, hres.2] at hcf
  have HCF := (show Hid _ from hcf)
  have HV : Hid (VarsV w va m.vars) := hV.1
  obtain ⟨ao, cap, rfl⟩ := hV.1.shape
  obtain ⟨ro, rc, rfl⟩ := hV.2.shape
  generalize (if mcode m = 0 then codeTo m.vars (initsL m.vars) m.vars.length else 0) = res at *
  generalize mcode m = x at *
  obtain ⟨n, hn⟩ : ∃ n, n = m.vars.length := ⟨_, rfl⟩
  have HN : Hid (n = m.vars.length) := hn
  rw [← hn] at hz HCF HV ⊢
  generalize m.rules.length = rn at *
  obtain ⟨i0, hi, hz0, hz1, hz2⟩ := info_parts infoInt
  clear hV hn hcf hres
  have hA : Below w.heap.size w (w.alloc (.cells #[.slice ao n cap, .slice ro rn rc] 25)) := (Below.refl _ _).alloc (Nat.le_refl _) _
  go_enter Tryz.func29, Tryz.ntmps29
  go_wp2
  go_loopw [4, 5] (fun vv i wr => ∃ k : Nat, k ≤ n ∧ i = .int .i64 k ∧ Hid (wr.ownsRow (w.heap.size + 1) 3 1 vv k (ivals (initsL (m.vars.take k)))) ∧ Below (w.heap.size + 1) (w.alloc (.cells #[.slice ao n cap, .slice ro rn rc] 25)) wr) (fun _ i _ => n - (intOf i).toNat)
  case atStart => exact ⟨0, Nat.zero_le _, rfl, World.ownsRow_nil _ _ _ _, Below.refl _ _⟩
  case round =>
    obtain ⟨k, hk, rfl, HOwn, hbelB⟩ := hrel
    have hbel := hA.trans (hbelB.mono (Nat.le_succ _))
    have hszb : w.heap.size + 1 ≤ wr.heap.size := by have := hbelB.size; simp at this; omega
    have hlb : w.heap.size < wr.heap.size := by omega
    have cb := (hbelB.cell (p := ⟨w.heap.size, 0, none⟩) (by simp)).trans (show _ = some (.slice ao n cap) by simp [go_sem])
    have cb1 := (hbelB.cell (p := ⟨w.heap.size, 1, none⟩) (by simp)).trans (show _ = some (.slice ro rn rc) by simp [go_sem])
    by_cases hlt : k < n
    · obtain ⟨b, off, rfl, hblt, hat⟩ := HV.out.at (i := k) (by rw [← HN.out]; exact hlt)
      obtain ⟨c0, c1, c2, c3⟩ := hat.below hbel hblt
      have HSn := (show Hid _ from ivals_inits (l := m.vars) (k := k) (by rw [← HN.out]; exact hlt))
      generalize m.vars.getD k vr0 = x at *
      obtain ⟨s, lo, hi', ini⟩ := x
      simp only at c0 c1 c2 c3 HSn
      have hown := HOwn.out
      have hnb := hown.lt
      have hown2 := fun o => hown.alloc o
      have h63 : k + 1 ≤ maxLen := by unfold maxLen; omega
      have hkb : (k + 1) * 8 ≤ 140737488355328 := by omega
      have hbase : ∀ o, w.heap.size + 1 ≤ (wr.alloc o).heap.size := fun o => by simp; omega
      clear hat hown
      go_wp2_with (at_builtin; refine wpList_append_own _ rfl (.tmp 15) (.tmp 22) 30 rfl (w.heap.size + 1) 3 i0 (.int .i64 0) 1 8 Tryz.underlying30 hi hz0 hz1 hz2 rfl (by decide) _ k _ rfl (hown2 _) ⟨wr.heap.size, 0, none⟩ 1 1 [.int .i64 ini] rfl rfl (cell_one_new _ _ _) (by intro u hu; simp at hu; subst hu; rfl) h63 hkb (hbase _) ?_)
      intro v' w4 hown' hgrow _
      have hb4 : Below (w.heap.size + 1) (w.alloc (.cells #[.slice (some ⟨b, off, none⟩) n cap, .slice ro rn rc] 25)) w4 := (hbelB.alloc hszb _).grown hgrow (by simp; omega) (fun q hq => (hnb q hq).1)
      have HO4 : Hid (w4.ownsRow (w.heap.size + 1) 3 1 v' (k + 1) (ivals (initsL (m.vars.take (k + 1))))) := by
        show World.ownsRow _ _ _ _ _ _ _
        rw [HSn.out]
        exact hown'
      clear hown' hgrow hown2
      go_wp2
      go_roundw
      case rel => exact ⟨k + 1, hlt, by go_num, HO4, hb4⟩
      case measure => simp [intOf]; omega
    · have hkn : k = n := by omega
      subst hkn
      have hown := HOwn.out
      obtain ⟨vo, vc, rfl⟩ := owns_slice hown
      have hI : IntsV wr (.slice vo k vc) (initsL m.vars) := by
        rw [List.take_of_length_le (by rw [← HN.out]; omega)] at hown
        exact intsV_of_owns (by rw [show (initsL m.vars).length = k by simp [initsL, HN.out]]; exact hown)
      have hcf := HCF.out _ wr hbel hI
      clear hI hown HOwn HCF
      go_wp2_with (go_at_call 51; refine hcf.mono ?_; rintro e w2 ⟨rfl, hb2⟩)
      go_ret2
      exact ⟨rfl, hbel.trans (hb2.mono hbel.size)⟩
end Go.Proofs.YtnicbkkkecfdpaaGreatDoor

/-
  The document's RunsOn.
-/
namespace Go.Proofs.YtnicbkkkecfdpaaGreatDoor
open Go.ChangeShapes Go.WideShapes Go.ChangeAt Go.RowKit Go.Deep
open Terms Tm

set_option maxHeartbeats 1600000 in
set_option maxRecDepth 20000 in
theorem runsOn_bad (va vr sv lv : Value) (m : Mo) (w : World) (hV : ModelV w va vr m) (hm : mcode m ≠ 0) :
    Calls Tryz.prog 16 #[.agg #[va, vr], .agg #[sv, lv]] w fun e w' => e = .returned (.tuple #[.bool false, .int .i64 (mcode m)]) ∧ Below w.heap.size w w' := by
  obtain ⟨W2, hW2⟩ : ∃ W2, W2 = (w.alloc (.cells #[va, vr] 25)).alloc (.cells #[sv, lv] 32) := ⟨_, rfl⟩
  have hb2 : Below w.heap.size w W2 := by rw [hW2]; exact ((Below.refl _ _).alloc (Nat.le_refl _) _).alloc (by simp) _
  have hfi := rcount_any va vr m W2 (hV.below hb2)
  rw [if_neg hm] at hfi
  obtain ⟨ao, ac, rfl⟩ := hV.1.shape
  obtain ⟨ro, rc, rfl⟩ := hV.2.shape
  generalize mcode m = q at *
  generalize m.vars.length = vn at *
  generalize m.rules.length = rn at *
  clear hV
  rw [hW2] at hfi
  go_enter Tryz.func16, Tryz.ntmps16
  go_wp2_with (go_at_call 28; refine hfi.mono ?_; rintro e w1 ⟨rfl, hb1⟩)
  go_ret2
  rw [← hW2] at hb1
  exact ⟨rfl, hb2.trans (hb1.mono hb2.size)⟩
set_option maxRecDepth 20000 in
theorem ivals_snocR (l : List Int) (x : Int) : ivals (l ++ [x]) = ivals l ++ [.int .i64 x] := by simp [ivals]
set_option maxRecDepth 20000 in
theorem take_snocI {l : List Int} {k : Nat} (h : k < l.length) : l.take (k + 1) = l.take k ++ [l.getD k 0] := by
  rw [List.take_succ_eq_append_getElem h]
  simp [List.getD_eq_getElem?_getD, h]
set_option maxRecDepth 20000 in
theorem intsAt_owns {w : World} {base n : Nat} {v : Value} {l : List Int} (h : w.ownsRow base 3 1 v n (ivals l)) (hn : n = l.length) (hne : 0 < n) : ∃ B cap, v = .slice (some ⟨B, 0, none⟩) n cap ∧ B < w.heap.size ∧ IntsAt w B 0 l := by
  subst hn
  rcases h.2 with ⟨rfl, h0⟩ | ⟨g, cap, cur, rfl, hb, hg, hnc, hcm, hcs, htake⟩
  · have : l = [] := by simpa using h0
    subst this
    simp at hne
  · refine ⟨g, cap, rfl, (Array.getElem?_eq_some_iff.1 hg).1, fun i hi => ?_⟩
    rw [Nat.zero_add, h.cellAt i (by omega)]
    simp [ivals, List.getD_eq_getElem?_getD, hi]

set_option maxRecDepth 20000 in
theorem nextL_length {m : Mo} (h : mcode m = 0) (code : Int) : (nextL m code).length ≤ 13 := by
  unfold nextL
  refine Nat.le_trans (upL_length _) ?_
  have := (mcode_rules h).1
  unfold rawL
  split
  · simp
  · exact Nat.le_trans (rawTo_length _ _ _ _) (by omega)
open Classical in
set_option maxHeartbeats 3200000 in
set_option maxRecDepth 20000 in
theorem runsOn_ok (va vr : Value) (so lo : Option Addr) (sc lc : Nat) (m : Mo) (ss ll : List Int) (w : World) (hzv : m.vars.length * 40 ≤ 140737488355328) (hV : ModelV w va vr m) (hm : mcode m = 0) (hS : IntsV w (.slice so ss.length sc) ss) (hL : IntsV w (.slice lo ll.length lc) ll) (hz : ss.length + ll.length ≤ 1099511627775) :
    Calls Tryz.prog 16 #[.agg #[va, vr], .agg #[.slice so ss.length sc, .slice lo ll.length lc]] w fun e w' => e = .returned (.tuple #[.bool (runB m ss ll), .int .i64 0]) ∧ Below w.heap.size w w' := by
  obtain ⟨W2, hW2⟩ : ∃ W2, W2 = (w.alloc (.cells #[va, vr] 25)).alloc (.cells #[.slice so ss.length sc, .slice lo ll.length lc] 32) := ⟨_, rfl⟩
  have hb2 : Below w.heap.size w W2 := by rw [hW2]; exact ((Below.refl _ _).alloc (Nat.le_refl _) _).alloc (by simp) _
  have hz2 : W2.heap.size = w.heap.size + 2 := by rw [hW2]; simp
  have hcn := rcount_any va vr m W2 (hV.below hb2)
  rw [if_pos hm, hm] at hcn
  have HFi : Hid (∀ w1, Below W2.heap.size W2 w1 → Calls Tryz.prog 29 #[.agg #[va, vr]] w1 fun e w' => e = .returned (.tuple #[.int .i64 (firstC m), .int .i64 0]) ∧ Below w1.heap.size w1 w') := fun w1 h => by
    have h9 := rfirst_any va vr m w1 hzv (hV.below (hb2.trans (h.mono hb2.size)))
    rw [if_pos hm, hm] at h9
    exact h9
  have HBx : Hid (∀ w1, Below W2.heap.size W2 w1 → Below w.heap.size w w1 ∧ w.heap.size + 2 ≤ w1.heap.size ∧ w1.cell? ⟨w.heap.size, 0, none⟩ = some va ∧ w1.cell? ⟨w.heap.size, 1, none⟩ = some vr ∧ w1.cell? ⟨w.heap.size + 1, 0, none⟩ = some (.slice so ss.length sc) ∧ w1.cell? ⟨w.heap.size + 1, 1, none⟩ = some (.slice lo ll.length lc)) := fun w1 h => by
    have hl : w.heap.size < W2.heap.size := by omega
    have hl1 : w.heap.size + 1 < W2.heap.size := by omega
    refine ⟨hb2.trans (h.mono hb2.size), by have := h.size; omega, (h.cell (p := ⟨w.heap.size, 0, none⟩) hl).trans ?_, (h.cell (p := ⟨w.heap.size, 1, none⟩) hl).trans ?_, (h.cell (p := ⟨w.heap.size + 1, 0, none⟩) hl1).trans ?_, (h.cell (p := ⟨w.heap.size + 1, 1, none⟩) hl1).trans ?_⟩ <;> (rw [hW2]; simp [go_sem])
  have HNx : Hid (∀ (w1 : World) (code : Int), Below W2.heap.size W2 w1 → (0 ≤ code ∧ code < prodTo m.vars m.vars.length) → Calls Tryz.prog 31 #[.agg #[va, vr], .int .i64 code] w1 fun e w' => ∃ no nc, e = .returned (.tuple #[.slice no (nextL m code).length nc, .int .i64 0]) ∧ Below w1.heap.size w1 w' ∧ Hid (IntsV w' (.slice no (nextL m code).length nc) (nextL m code))) := fun w1 code h hcr => by
    refine (rnext_any va vr m code w1 (hV.below (hb2.trans (h.mono hb2.size)))).mono fun e w' ⟨v, e1, e2, e3⟩ => ?_
    rw [nxtL_yes hm hcr] at e3
    obtain ⟨no, nc, rfl, hx⟩ := e3
    exact ⟨no, nc, by rw [e1, wcode_yes hm hcr], e2, ⟨no, nc, rfl, hx⟩⟩
  have HSs : Hid (∀ w1, Below W2.heap.size W2 w1 → ∀ k, k < ss.length → ∃ b off, so = some ⟨b, off, none⟩ ∧ w1.cell? ⟨b, off + k, none⟩ = some (.int .i64 (ss.getD k 0))) := fun w1 h k hk => by
    obtain ⟨b, off, e, hlt, hc⟩ := hS.at hk
    exact ⟨b, off, e, ((hb2.trans (h.mono hb2.size)).cell (p := ⟨b, off + k, none⟩) hlt).trans hc⟩
  have HLs : Hid (∀ w1, Below W2.heap.size W2 w1 → ∀ k, k < ll.length → ∃ b off, lo = some ⟨b, off, none⟩ ∧ w1.cell? ⟨b, off + k, none⟩ = some (.int .i64 (ll.getD k 0))) := fun w1 h k hk => by
    obtain ⟨b, off, e, hlt, hc⟩ := hL.at hk
    exact ⟨b, off, e, ((hb2.trans (h.mono hb2.size)).cell (p := ⟨b, off + k, none⟩) hlt).trans hc⟩
  have hP := (mcode_vars hm).prod (Nat.le_refl m.vars.length)
  have HIn : Hid (∀ (x : Int) (w1 : World), Calls Tryz.prog 30 #[.int .i64 x, .int .i64 0, .int .i64 (prodTo m.vars m.vars.length - 1)] w1 fun e w' => e = .returned (.bool (decide (0 ≤ x ∧ x < prodTo m.vars m.vars.length))) ∧ w' = w1) := fun x w1 => by
    have h := in_any x 0 (prodTo m.vars m.vars.length - 1) w1
    rw [show decide (0 ≤ x ∧ x ≤ prodTo m.vars m.vars.length - 1) = decide (0 ≤ x ∧ x < prodTo m.vars m.vars.length) by congr 1; exact propext ⟨fun h => ⟨h.1, by omega⟩, fun h => ⟨h.1, by omega⟩⟩] at h
    exact h
  have HNL : Hid (∀ x, (nextL m x).length ≤ 13) := fun x => nextL_length hm x
  have HE0 : Hid (ll = [] → runB m ss ll = false) := fun h => by rw [h]; exact runB_none _ _
  have HE1 : Hid ((rvd ss ll).getD 0 0 ≠ firstC m → runB m ss ll = false) := fun h => runB_first h
  have HE2 : Hid (∀ k, k + 1 < (rvd ss ll).length → ¬ (0 ≤ (rvd ss ll).getD k 0 ∧ (rvd ss ll).getD k 0 < prodTo m.vars m.vars.length) → runB m ss ll = false) := fun k hk h => decide_eq_false fun h2 => by
    have := h2.2.2.2 k (by omega)
    rw [nxtL_no hm h] at this
    cases this
  have HE3 : Hid (∀ k, k + 1 < (rvd ss ll).length → (0 ≤ (rvd ss ll).getD k 0 ∧ (rvd ss ll).getD k 0 < prodTo m.vars m.vars.length) → (rvd ss ll).getD (k + 1) 0 ∉ nextL m ((rvd ss ll).getD k 0) → runB m ss ll = false) := fun k hk hr h => decide_eq_false fun h2 => by
    have := h2.2.2.2 k (by omega)
    rw [nxtL_yes hm hr] at this
    exact h this
  have HE4 : Hid (ll ≠ [] → (rvd ss ll).getD 0 0 = firstC m → LeadsTo m (rvd ss ll) ((rvd ss ll).length - 1) → runB m ss ll = true) := fun h1 h2 h3 => decide_eq_true ⟨hm, h1, h2, h3⟩
  have HE5 : Hid (∀ k, (0 ≤ (rvd ss ll).getD k 0 ∧ (rvd ss ll).getD k 0 < prodTo m.vars m.vars.length) → LeadsTo m (rvd ss ll) k → (rvd ss ll).getD (k + 1) 0 ∈ nextL m ((rvd ss ll).getD k 0) → LeadsTo m (rvd ss ll) (k + 1)) := fun k hr h h2 => h.succ (by rw [nxtL_yes hm hr]; exact h2)
  have HRd : Hid (rvd ss ll = ss ++ ll ++ [ll.getD 0 0]) := rfl
  have HRz : Hid (ll ≠ [] → (rvd ss ll).getD 0 0 = (ss ++ ll).getD 0 0) := fun h => rvd_zero h
  have HRl : Hid ((rvd ss ll).length = ss.length + ll.length + 1) := rvd_len _ _
  obtain ⟨ao, ac, rfl⟩ := hV.1.shape
  obtain ⟨ro, rc, rfl⟩ := hV.2.shape
  generalize runB m ss ll = res at *
  generalize firstC m = fc at *
  generalize rvd ss ll = rd at *
  obtain ⟨sn, hsn⟩ : ∃ sn, sn = ss.length := ⟨_, rfl⟩
  have HSn : Hid (sn = ss.length) := hsn
  obtain ⟨ln, hln⟩ : ∃ ln, ln = ll.length := ⟨_, rfl⟩
  have HLn : Hid (ln = ll.length) := hln
  rw [← hsn] at hz HBx HSs HRl hW2 ⊢
  rw [← hln] at hz HBx HLs HRl hW2 ⊢
  obtain ⟨pn, hpn⟩ : ∃ pn : Nat, prodTo m.vars m.vars.length = pn := ⟨(prodTo m.vars m.vars.length).toNat, by omega⟩
  rw [hpn] at hP
  rw [hpn] at hcn HNx HIn HE2 HE3 HE5
  generalize m.vars.length = vn at *
  generalize m.rules.length = rn at *
  obtain ⟨i0, hi, hz0, hz1, hz3⟩ := info_parts infoInt
  clear hV hS hL hm hsn hln hpn hzv
  rw [hW2] at hcn
  go_enter Tryz.func16, Tryz.ntmps16
  go_wp2_with (first | (go_at_call 28; refine hcn.mono ?_; rintro e w1 ⟨rfl, hb1⟩; rw [← hW2] at hb1; obtain ⟨_, _, a0, a1, _, _⟩ := HBx.out w1 hb1; have hfi := HFi.out w1 hb1) | (go_at_call 29; refine hfi.mono ?_; rintro e w3 ⟨rfl, hb3⟩))
  have hbA := hb1.trans (hb3.mono hb1.size)
  have HB3 : Hid (Below W2.heap.size W2 w3) := hbA
  have hs3 : w.heap.size + 2 ≤ w3.heap.size := by have := hbA.size; omega
  clear hcn hfi HFi hb1 hb3 a0 a1
  go_loopw [10, 11] (fun vv i wr => ∃ k : Nat, k ≤ sn ∧ i = .int .i64 k ∧ Hid (wr.ownsRow w3.heap.size 3 1 vv k (ivals (ss.take k))) ∧ Hid (Below w3.heap.size w3 wr)) (fun _ i _ => sn - (intOf i).toNat)
  case atStart => exact ⟨0, Nat.zero_le _, rfl, World.ownsRow_nil _ _ _ _, Below.refl _ _⟩
  case round =>
    obtain ⟨k, hk, rfl, HOwn, HBr⟩ := hrel
    have hbr := HBr.out
    have hbW := HB3.out.trans (hbr.mono HB3.out.size)
    obtain ⟨hbw, hsz, a0, a1, a2, a3⟩ := HBx.out wr hbW
    have hown := HOwn.out
    have hnb := hown.lt
    obtain ⟨oo, oc, rfl⟩ := owns_slice hown
    by_cases hlt : k < sn
    · have hlt2 : k < ss.length := by rw [← HSn.out]; exact hlt
      obtain ⟨b, off, rfl, c0⟩ := HSs.out wr hbW k hlt
      have HT : Hid (ss.take (k + 1) = ss.take k ++ [ss.getD k 0]) := take_snocI hlt2
      have h63 : k + 1 ≤ maxLen := by unfold maxLen; omega
      have hkb : (k + 1) * 8 ≤ 140737488355328 := by omega
      have hown4 := fun o => hown.alloc o
      have hbase : ∀ o, w3.heap.size ≤ (wr.alloc o).heap.size := fun o => by have := hbr.size; simp; omega
      have hki : (k : Int) < (sn : Int) := by omega
      generalize ss.getD k 0 = x at *
      clear HOwn hown hlt2
      go_wp2_with (at_builtin; refine wpList_append_own _ rfl (.tmp 38) (.tmp 44) 30 rfl w3.heap.size 3 i0 (.int .i64 0) 1 8 Tryz.underlying30 hi hz0 hz1 hz3 rfl (by decide) (.slice oo k oc) k _ rfl (hown4 _) ⟨wr.heap.size, 0, none⟩ 1 1 [.int .i64 x] rfl rfl (cell_one_new _ _ _) (by intro u hu; simp at hu; subst hu; rfl) h63 hkb (hbase _) ?_; intro v' w4 hown' hgrow _)
      have hb4 : Below w3.heap.size w3 w4 := (hbr.alloc hbr.size _).grown hgrow (hbase _) (fun z hz => (hnb z hz).1)
      have ho4 : w4.ownsRow w3.heap.size 3 1 v' (k + 1) (ivals (ss.take (k + 1))) := by rw [HT.out, ivals_snocR]; exact hown'
      clear hown' hgrow hown4
      go_roundw
      case rel => exact ⟨k + 1, hlt, by go_num, ho4, hb4⟩
      case measure => simp [intOf]; omega
    · obtain rfl : sn = k := by omega
      have HO1 : Hid (wr.ownsRow w3.heap.size 3 1 (.slice oo sn oc) (ss ++ ll.take 0).length (ivals (ss ++ ll.take 0))) := by
        have h := HOwn.out
        rw [List.take_of_length_le (by rw [HSn.out]; exact Nat.le_refl _)] at h
        show World.ownsRow _ _ _ _ _ _ _
        rw [List.take_zero, List.append_nil, ← HSn.out]
        exact h
      have HB4 : Hid (Below w3.heap.size w3 wr) := hbr
      clear hnb hown HOwn HBr hbr hbW hbw hsz hk hlt
      go_wp2_with fail
      generalize wr = wo at *
      go_loopw [10, 12] (fun vv i wr => ∃ k : Nat, k ≤ ln ∧ i = .int .i64 k ∧ Hid (wr.ownsRow w3.heap.size 3 1 vv (ss ++ ll.take k).length (ivals (ss ++ ll.take k))) ∧ Hid (Below w3.heap.size w3 wr)) (fun _ i _ => ln - (intOf i).toNat)
      case atStart => exact ⟨0, Nat.zero_le _, rfl, HO1, HB4⟩
      case round =>
        obtain ⟨k, hk, rfl, HOwn, HBr⟩ := hrel
        have hbr := HBr.out
        have hbW := HB3.out.trans (hbr.mono HB3.out.size)
        obtain ⟨hbw, hsz, a0, a1, a2, a3⟩ := HBx.out wr hbW
        have HAl : Hid ((ss ++ ll.take k).length = sn + k) := by show _ = _; rw [List.length_append, List.length_take, ← HLn.out, ← HSn.out]; omega
        have hown := HOwn.out
        rw [HAl.out] at hown
        have hnb := hown.lt
        obtain ⟨oo, oc, rfl⟩ := owns_slice hown
        by_cases hlt : k < ln
        · have hlt2 : k < ll.length := by rw [← HLn.out]; exact hlt
          obtain ⟨b, off, rfl, c0⟩ := HLs.out wr hbW k hlt
          have HT : Hid (ss ++ ll.take (k + 1) = (ss ++ ll.take k) ++ [ll.getD k 0]) := by show _ = _; rw [take_snocI hlt2, List.append_assoc]
          have h63 : sn + k + 1 ≤ maxLen := by unfold maxLen; omega
          have hkb : (sn + k + 1) * 8 ≤ 140737488355328 := by omega
          have hown4 := fun o => hown.alloc o
          have hbase : ∀ o, w3.heap.size ≤ (wr.alloc o).heap.size := fun o => by have := hbr.size; simp; omega
          have hki : (k : Int) < (ln : Int) := by omega
          generalize ll.getD k 0 = x at *
          obtain ⟨L, hL⟩ : ∃ L, L = sn + k := ⟨_, rfl⟩
          rw [← hL] at hown4 h63 hkb HAl hnb ⊢
          clear HOwn hown hlt2 hL
          go_wp2_with (at_builtin; refine wpList_append_own _ rfl (.tmp 53) (.tmp 59) 30 rfl w3.heap.size 3 i0 (.int .i64 0) 1 8 Tryz.underlying30 hi hz0 hz1 hz3 rfl (by decide) (.slice oo L oc) L _ rfl (hown4 _) ⟨wr.heap.size, 0, none⟩ 1 1 [.int .i64 x] rfl rfl (cell_one_new _ _ _) (by intro u hu; simp at hu; subst hu; rfl) h63 hkb (hbase _) ?_; intro v' w4 hown' hgrow _)
          have hb4 : Below w3.heap.size w3 w4 := (hbr.alloc hbr.size _).grown hgrow (hbase _) (fun z hz => (hnb z hz).1)
          have ho4 : w4.ownsRow w3.heap.size 3 1 v' (ss ++ ll.take (k + 1)).length (ivals (ss ++ ll.take (k + 1))) := by rw [HT.out, List.length_append, HAl.out, ivals_snocR]; exact hown'
          clear hown' hgrow hown4
          go_roundw
          case rel => exact ⟨k + 1, hlt, by go_num, ho4, hb4⟩
          case measure => simp [intOf]; omega
        · obtain rfl : ln = k := by omega
          have hlt9 : ll.take ln = ll := List.take_of_length_le (by rw [HLn.out]; exact Nat.le_refl _)
          have HO2 : Hid (wr.ownsRow w3.heap.size 3 1 (.slice oo (sn + ln) oc) (sn + ln) (ivals (ss ++ ll))) := by show World.ownsRow _ _ _ _ _ _ _; rw [hlt9] at hown; exact hown
          clear hlt9 HOwn HBr hown hlt hk
          by_cases hl0 : ll = []
          · have hk0 : ln = 0 := by rw [HLn.out, hl0]; rfl
            have HR : Hid (res = false) := HE0.out hl0
            have hk0i : (ln : Int) = 0 := by omega
            subst hk0
            go_wp2_with fail
            go_ret2
            exact ⟨by rw [HR.out]; first | rfl | simp, hbw⟩
          · have hkp : 0 < ln := by rw [HLn.out]; exact List.length_pos_iff.2 hl0
            obtain ⟨b, off, rfl, c0⟩ := HLs.out wr hbW 0 hkp
            rw [Nat.add_zero] at c0
            obtain ⟨B, cap, hv, hBl, hat⟩ := intsAt_owns HO2.out (by rw [List.length_append, ← HLn.out, ← HSn.out]) (by omega)
            injection hv with hv1 _ hv3
            subst hv1 hv3
            have cz := hat 0 (by rw [List.length_append, ← HLn.out]; omega)
            rw [Nat.zero_add] at cz
            rw [← HRz.out hl0] at cz
            have hkn0 : ¬ ln = 0 := by omega
            have hki0 : ¬ (ln : Int) = 0 := by omega
            by_cases hf : rd.getD 0 0 = fc
            · rw [hf] at cz
              have hown := HO2.out
              have HT : Hid (rd = (ss ++ ll) ++ [ll.getD 0 0]) := HRd
              generalize ll.getD 0 0 = x at *
              have h63 : sn + ln + 1 ≤ maxLen := by unfold maxLen; omega
              have hkb : (sn + ln + 1) * 8 ≤ 140737488355328 := by omega
              have hown4 := fun o => hown.alloc o
              have hbase : ∀ o, w3.heap.size ≤ (wr.alloc o).heap.size := fun o => by have := hbr.size; simp; omega
              have HRes : Hid (LeadsTo m rd (rd.length - 1) → res = true) := fun h => HE4.out hl0 hf h
              obtain ⟨L, hL⟩ : ∃ L, L = sn + ln := ⟨_, rfl⟩
              have HLs2 : Hid (rd.length = L + 1) := by show _ = _; rw [HRl.out, hL]
              have hLM : L ≤ 1099511627775 := by omega
              have hLp : 0 < L := by omega
              rw [← hL] at hown4 h63 hkb hnb ⊢
              clear HO2 hown hL HE0 HE1 HE4 hl0 HRz hf hat HRl HAl
              go_wp2_with (at_builtin; refine wpList_append_own _ rfl (.tmp 72) (.tmp 77) 30 rfl w3.heap.size 3 i0 (.int .i64 0) 1 8 Tryz.underlying30 hi hz0 hz1 hz3 rfl (by decide) (.slice (some ⟨B, 0, none⟩) L oc) L _ rfl (hown4 _) ⟨wr.heap.size, 0, none⟩ 1 1 [.int .i64 x] rfl rfl (cell_one_new _ _ _) (by intro u hu; simp at hu; subst hu; rfl) h63 hkb (hbase _) ?_; intro v' w4 hown' hgrow _)
              have hb4 : Below w3.heap.size w3 w4 := (hbr.alloc hbr.size _).grown hgrow (hbase _) (fun z hz => (hnb z hz).1)
              have ho4 : w4.ownsRow w3.heap.size 3 1 v' (L + 1) (ivals rd) := by rw [HT.out, ivals_snocR]; exact hown'
              obtain ⟨B4, cap4, rfl, hB4, hat4⟩ := intsAt_owns ho4 HLs2.out.symm (by omega)
              have HW4 : Hid (∀ w', Below w4.heap.size w4 w' → Below w.heap.size w w' ∧ Below W2.heap.size W2 w' ∧ (w'.cell? ⟨w.heap.size, 0, none⟩ = some (.slice ao vn ac) ∧ w'.cell? ⟨w.heap.size, 1, none⟩ = some (.slice ro rn rc)) ∧ ∀ i, i < L + 1 → w'.cell? ⟨B4, i, none⟩ = some (.int .i64 (rd.getD i 0))) := fun w' h => by
                have h1 := HB3.out.trans ((hb4.trans (h.mono hb4.size)).mono HB3.out.size)
                obtain ⟨p0, _, p1, p2, _⟩ := HBx.out w' h1
                refine ⟨p0, h1, ⟨p1, p2⟩, fun i hi => ?_⟩
                have := hat4 i (by rw [HLs2.out]; exact hi)
                rw [Nat.zero_add] at this
                exact (h.cell (p := ⟨B4, i, none⟩) hB4).trans this
              clear hown' hgrow hown4 ho4 hat4 hnb hbase h63 hkb HT a0 a1 a2 a3 c0 cz hbw hbr hbW HBx HSs HLs hsz HB4 hb4 hB4
              generalize wr = wo2 at *
              obtain ⟨L1, hL1⟩ : ∃ L1, L1 = L + 1 := ⟨_, rfl⟩
              have HL1 : Hid (L1 = L + 1) := hL1
              rw [← hL1] at HW4 HLs2 ⊢
              clear hL1
              go_loopw [13] (fun i wr => ∃ k : Nat, k ≤ L ∧ i = .int .i64 k ∧ Hid (LeadsTo m rd k) ∧ Hid (Below w4.heap.size w4 wr)) (fun i _ => L - (intOf i).toNat)
              case atStart => exact ⟨0, Nat.zero_le _, rfl, LeadsTo.zero _ _, Below.refl _ _⟩
              case round =>
                obtain ⟨k, hk, rfl, HLd, HBr⟩ := hrel
                obtain ⟨hbw, hbW, ⟨a0, a1⟩, hat⟩ := HW4.out wr HBr.out
                by_cases hlt : k < L
                · have c0 := hat k (by rw [HL1.out]; omega)
                  have c1 := hat (k + 1) (by rw [HL1.out]; omega)
                  have hki : (k : Int) < (L1 : Int) := by have := HL1.out; omega
                  have hki1 : (k : Int) + 1 < (L1 : Int) := by have := HL1.out; omega
                  have HX2 : Hid _ := HE2.out k (by rw [HLs2.out, HL1.out]; omega)
                  have HX3 : Hid _ := HE3.out k (by rw [HLs2.out, HL1.out]; omega)
                  have HX5 : Hid _ := HE5.out k
                  have HNk : Hid _ := HNx.out wr (rd.getD k 0) hbW
                  have hin := HIn.out (rd.getD k 0) wr
                  clear hat
                  generalize rd.getD k 0 = x at *
                  generalize rd.getD (k + 1) 0 = y at *
                  by_cases hr : 0 ≤ x ∧ x < (pn : Int)
                  · rw [decide_eq_true hr] at hin
                    go_wp2_with (go_at_call 30; refine hin.mono ?_; rintro e w9 ⟨rfl, rfl⟩)
                    have HNk2 : Hid _ := fun wz (hb : Below W2.heap.size W2 wz) => HNx.out wz x hb hr
                    have hnx := HNk2.out w9.drew hbW.drew
                    have hB0 : Below w9.heap.size w9 w9 := Below.refl _ _
                    have HSC : Hid (∀ w', Below w9.heap.size w9 w' → (w'.cell? ⟨w.heap.size, 0, none⟩ = some (.slice ao vn ac) ∧ w'.cell? ⟨w.heap.size, 1, none⟩ = some (.slice ro rn rc)) ∧ w'.cell? ⟨B4, k, none⟩ = some (.int .i64 x) ∧ w'.cell? ⟨B4, k + 1, none⟩ = some (.int .i64 y)) := fun w' h => ⟨⟨(h.cell (p := ⟨w.heap.size, 0, none⟩) (World.block_lt_of_cell? _ ⟨w.heap.size, 0, none⟩ a0)).trans a0, (h.cell (p := ⟨w.heap.size, 1, none⟩) (World.block_lt_of_cell? _ ⟨w.heap.size, 1, none⟩ a1)).trans a1⟩, (h.cell (p := ⟨B4, k, none⟩) (World.block_lt_of_cell? _ ⟨B4, k, none⟩ c0)).trans c0, (h.cell (p := ⟨B4, k + 1, none⟩) (World.block_lt_of_cell? _ ⟨B4, k + 1, none⟩ c1)).trans c1⟩
                    have HL2 : Hid ((nextL m x).length ≤ 13) := HNL.out x
                    clear hin HNk HNk2 HX2
                    have HX3r : Hid (y ∉ nextL m x → res = false) := HX3.out hr
                    have HX5r : Hid (y ∈ nextL m x → LeadsTo m rd (k + 1)) := HX5.out hr HLd.out
                    clear HX3 HX5 hr HLd
                    generalize nextL m x = nx at *
                    obtain ⟨nn, hnn⟩ : ∃ nn, nn = nx.length := ⟨_, rfl⟩
                    have HNn : Hid (nn = nx.length) := hnn
                    rw [← hnn] at hnx HL2
                    have hnM : nn ≤ 13 := HL2.out
                    clear hnn HL2
                    go_region_held3 (fun w' => (w'.cell? ⟨w.heap.size, 0, none⟩ = some (.slice ao vn ac) ∧ w'.cell? ⟨w.heap.size, 1, none⟩ = some (.slice ro rn rc)) ∧ w'.cell? ⟨B4, k, none⟩ = some (.int .i64 x) ∧ w'.cell? ⟨B4, k + 1, none⟩ = some (.int .i64 y))
                      (first | exact HSC.out _ hb12 | exact HSC.out _ hB0.drew | exact HSC.out _ hB0)
                      (first
                        | (go_at_call 31; refine hnx.mono ?_; rintro e w5 ⟨no, nc, rfl, hb5, HI⟩; have hb12 := hB0.drew.trans (hb5.mono hB0.drew.size)))
                    have c15 := (HSC.out w5 hb12).2.2
                    have hbe := hbw.trans (hb12.mono hbw.size)
                    have HB5 : Hid (Below w4.heap.size w4 w5) := HBr.out.trans (hb12.mono HBr.out.size)
                    clear hnx HSC HBr c0 c1 a0 a1
                    go_wp2_with fail
                    go_loopw [16, 17] (fun b i wr => ∃ j : Nat, j ≤ nn ∧ i = .int .i64 j ∧ b = .bool (decide (y ∈ nx.take j)) ∧ Hid (Below w5.heap.size w5 wr)) (fun _ i _ => nn - (intOf i).toNat)
                    case atStart => exact ⟨0, Nat.zero_le _, rfl, by simp, Below.refl _ _⟩
                    case round =>
                      obtain ⟨j, hj, rfl, rfl, HBq⟩ := hrel
                      have hbq := HBq.out
                      have c15 := (hbq.cell (p := ⟨B4, k + 1, none⟩) (World.block_lt_of_cell? _ ⟨B4, k + 1, none⟩ c15)).trans c15
                      by_cases hjl : j < nn
                      · have hjl2 : j < nx.length := by rw [← HNn.out]; exact hjl
                        obtain ⟨b, off, rfl, hbl, c2⟩ := (HI.out.below hbq).at hjl2
                        have HTk : Hid (nx.take (j + 1) = nx.take j ++ [nx.getD j 0]) := take_snocI hjl2
                        have hji : (j : Int) < (nn : Int) := by omega
                        generalize nx.getD j 0 = z at *
                        obtain ⟨bb, hbb⟩ : ∃ bb, bb = decide (y ∈ nx.take j) := ⟨_, rfl⟩
                        have HBb : Hid (bb = decide (y ∈ nx.take j)) := hbb
                        have HNew : Hid (decide (y ∈ nx.take (j + 1)) = (bb || (z == y))) := by
                          show _ = _
                          rw [HTk.out, hbb]
                          by_cases h1 : y ∈ nx.take j
                          · simp [h1]
                          · by_cases h2 : z = y
                            · simp [h2]
                            · have h3 : ¬ y = z := fun h => h2 h.symm
                              simp [h1, h2, h3]
                        rw [← hbb]
                        clear hbb HTk hjl2
                        cases bb
                        · go_wp2_with fail
                          go_quiet (fail)
                          go_wp2_with fail
                          go_roundw
                          case rel => exact ⟨j + 1, by omega, by go_num, by rw [HNew.out]; simp, below_drewN hbq _⟩
                          case measure => simp [intOf]; omega
                        · go_wp2_with fail
                          go_quiet (fail)
                          go_wp2_with fail
                          go_roundw
                          case rel => exact ⟨j + 1, by omega, by go_num, by rw [HNew.out]; simp, below_drewN hbq _⟩
                          case measure => simp [intOf]; omega
                      · obtain rfl : nn = j := by omega
                        have hta : nx.take nn = nx := List.take_of_length_le (by rw [HNn.out]; exact Nat.le_refl _)
                        rw [hta]
                        by_cases hy : y ∈ nx
                        · rw [decide_eq_true hy]
                          have HLk : Hid (LeadsTo m rd (k + 1)) := HX5r.out hy
                          clear hy hta HX3r HX5r
                          go_wp2_with fail
                          go_roundw
                          case rel => exact ⟨k + 1, by omega, by go_num, HLk, HB5.out.trans (hbq.mono HB5.out.size)⟩
                          case measure => simp [intOf]; omega
                        · rw [decide_eq_false hy]
                          have HR : Hid (res = false) := HX3r.out hy
                          clear hy hta HX3r HX5r
                          go_wp2_with fail
                          go_ret2
                          exact ⟨by rw [HR.out]; first | rfl | simp, hbe.trans (hbq.mono hbe.size)⟩
                  · rw [decide_eq_false hr] at hin
                    have HR : Hid (res = false) := HX2.out hr
                    go_wp2_with (go_at_call 30; refine hin.mono ?_; rintro e w9 ⟨rfl, rfl⟩)
                    go_ret2
                    exact ⟨by rw [HR.out]; first | rfl | simp, hbw⟩
                · obtain rfl : L = k := by omega
                  have HR : Hid (res = true) := HRes.out (by rw [HLs2.out, HL1.out]; exact HLd.out)
                  have hnl : ¬ (L : Int) + 1 < (L1 : Int) := by have := HL1.out; omega
                  clear hat
                  go_wp2_with fail
                  go_ret2
                  exact ⟨by rw [HR.out]; first | rfl | simp, hbw⟩
            · have HR : Hid (res = false) := HE1.out hf
              generalize rd.getD 0 0 = y at *
              have hf2 : (y == fc) = false := by simp [hf]
              have hf3 : decide (y = fc) = false := decide_eq_false hf
              have hf4 : (y != fc) = true := by simp [hf]
              go_wp2_with fail
              go_ret2
              exact ⟨by rw [HR.out]; first | rfl | simp [hf], hbw⟩
set_option maxRecDepth 20000 in
theorem runsOn_any (va vr : Value) (so lo : Option Addr) (sc lc : Nat) (m : Mo) (ss ll : List Int) (w : World) (hzv : m.vars.length * 40 ≤ 140737488355328) (hV : ModelV w va vr m) (hS : IntsV w (.slice so ss.length sc) ss) (hL : IntsV w (.slice lo ll.length lc) ll) (hz : ss.length + ll.length ≤ 1099511627775) :
    Calls Tryz.prog 16 #[.agg #[va, vr], .agg #[.slice so ss.length sc, .slice lo ll.length lc]] w fun e w' => e = .returned (.tuple #[.bool (runB m ss ll), .int .i64 (mcode m)]) ∧ Below w.heap.size w w' := by
  by_cases hm : mcode m = 0
  · have h := runsOn_ok va vr so lo sc lc m ss ll w hzv hV hm hS hL hz
    rw [hm]
    exact h
  · rw [runB_bad hm]
    exact runsOn_bad va vr _ _ m w hV hm
end Go.Proofs.YtnicbkkkecfdpaaGreatDoor

/-
  The document's own momentOf, letterAt and WordFault.
-/
namespace Go.Proofs.YtnicbkkkecfdpaaGreatDoor
open Go.ChangeShapes Go.WideShapes Go.ChangeAt Go.RowKit Go.Deep
open Terms

set_option maxRecDepth 20000 in
set_option maxHeartbeats 800000 in
theorem moment_any (so lo : Option Addr) (sn sc ln lc : Nat) (i : Nat) (w : World) (hs : sn ≤ 12) (hl0 : 1 ≤ ln) (hl : ln ≤ 12) (hi : i ≤ 100) :
    Calls Tryz.prog 116 #[.agg #[.slice so sn sc, .slice lo ln lc], .int .i64 (i : Int)] w fun e w' => e = .returned (.int .i64 (moAt sn (sn + ln) i : Int)) ∧ Below w.heap.size w w' := by
  have hA : ∀ o, Below w.heap.size w (w.alloc o) := fun o => (Below.refl _ _).alloc (Nat.le_refl _) o
  go_enter Tryz.func116, Tryz.ntmps116
  go_wp2
  go_loop [1] (fun x => ∃ j : Nat, j ≤ i ∧ x = .int .i64 (j : Int) ∧ Hid (moAt sn (sn + ln) j = moAt sn (sn + ln) i)) (fun x => (intOf x).toNat)
  case atStart => exact ⟨i, Nat.le_refl _, rfl, rfl⟩
  case round =>
    obtain ⟨j, hj, rfl, HM⟩ := hrel
    by_cases hlt : sn + ln ≤ j
    · have HM2 : Hid (moAt sn (sn + ln) (j - ln) = moAt sn (sn + ln) i) := by
        show _ = _
        rw [← HM.out, moAt_back (s := sn) (n := sn + ln) (i := j) (by omega) hlt, show sn + ln - sn = ln by omega]
      have hlt' : (sn : Int) + (ln : Int) ≤ (j : Int) := by omega
      go_wp2
      go_round
      case rel => exact ⟨j - ln, by omega, by congr 1; omega, HM2⟩
      case measure => simp [intOf]; omega
    · have HE : Hid ((j : Int) = (moAt sn (sn + ln) i : Int)) := by show _ = _; rw [← HM.out, moAt_low (by omega)]
      have hlt' : (j : Int) < (sn : Int) + (ln : Int) := by omega
      go_wp2
      go_ret
      rw [← HE.out]
      exact ⟨rfl, hA _⟩

set_option maxRecDepth 20000 in
set_option maxHeartbeats 800000 in
theorem letterAt_any (so lo : Option Addr) (sn sc ln lc : Nat) (ss ll : List (List Bool)) (i : Nat) (w : World) (hsn : sn = ss.length) (hln : ln = ll.length) (hs : sn ≤ 12) (hl0 : 1 ≤ ln) (hl : ln ≤ 12) (hi : i ≤ 100) (hS : LettersV w (.slice so sn sc) ss) (hL : LettersV w (.slice lo ln lc) ll) :
    Calls Tryz.prog 115 #[.agg #[.slice so sn sc, .slice lo ln lc], .int .i64 (i : Int)] w fun e w' => ∃ uo uc, e = .returned (.slice uo ((ss ++ ll).getD (moAt sn (sn + ln) i) []).length uc) ∧ Below w.heap.size w w' ∧ Hid (BoolsV w' (.slice uo ((ss ++ ll).getD (moAt sn (sn + ln) i) []).length uc) ((ss ++ ll).getD (moAt sn (sn + ln) i) [])) := by
  have hA : ∀ o, Below w.heap.size w (w.alloc o) := fun o => (Below.refl _ _).alloc (Nat.le_refl _) o
  have hmo : ∀ o, Calls Tryz.prog 116 #[.agg #[.slice so sn sc, .slice lo ln lc], .int .i64 (i : Int)] (w.alloc o) fun e w' => e = .returned (.int .i64 (moAt sn (sn + ln) i : Int)) ∧ Below w.heap.size w w' := fun o => (moment_any so lo sn sc ln lc i (w.alloc o) hs hl0 hl hi).mono fun e w' ⟨h1, h2⟩ => ⟨h1, (hA o).trans (h2.mono (hA o).size)⟩
  have hmo2 : ∀ o, Calls Tryz.prog 116 #[.agg #[.slice so sn sc, .slice lo ln lc], .int .i64 (i : Int)] (w.alloc o) fun e w' => e = .returned (.int .i64 (moAt sn (sn + ln) i : Int)) ∧ Below (w.heap.size + 1) (w.alloc o) w' := fun o => (moment_any so lo sn sc ln lc i (w.alloc o) hs hl0 hl hi).mono fun e w' ⟨h1, h2⟩ => ⟨h1, by simpa using h2⟩
  have hmlt := moAt_lt (s := sn) (n := sn + ln) (i := i) (by omega)
  generalize moAt sn (sn + ln) i = mo at *
  have hm2 := hmo2 (.cells #[.slice so sn sc, .slice lo ln lc] 46)
  have d0 : (w.alloc (.cells #[.slice so sn sc, .slice lo ln lc] 46)).cell? ⟨w.heap.size, 0, none⟩ = some (.slice so sn sc) := by simp [go_sem]
  have d1 : (w.alloc (.cells #[.slice so sn sc, .slice lo ln lc] 46)).cell? ⟨w.heap.size, 1, none⟩ = some (.slice lo ln lc) := by simp [go_sem]
  by_cases hlow : mo < sn
  · obtain ⟨b, off, rfl, hbl, u, hcu, hbu⟩ := hS.at (i := mo) (by omega)
    have hgd : (ss ++ ll).getD mo [] = ss.getD mo [] := by rw [getD_app, if_pos (by omega)]
    rw [hgd]
    generalize ss.getD mo [] = x at *
    have HBU : Hid (BoolsV w u x) := hbu
    obtain ⟨uo, uc, rfl, _⟩ := hbu
    generalize x.length = xn at *
    have hlow' : (mo : Int) < (sn : Int) := by omega
    clear hmo hmo2 hgd hS hL hsn hln
    go_enter Tryz.func115, Tryz.ntmps115
    go_wp2_with (go_at_call 116; refine hm2.mono ?_; rintro e w1 ⟨rfl, hb1⟩; have hbw := (hA _).trans (hb1.mono (Nat.le_succ _)); have e0 := (hb1.cell (p := ⟨w.heap.size, 0, none⟩) (Nat.lt_succ_self _)).trans d0; have e1 := (hb1.cell (p := ⟨w.heap.size, 1, none⟩) (Nat.lt_succ_self _)).trans d1; have e2 := (hbw.cell (p := ⟨b, off + mo, none⟩) hbl).trans hcu)
    go_ret
    exact ⟨_, _, rfl, hbw, HBU.out.below hbw⟩
  · obtain ⟨b, off, rfl, hbl, u, hcu, hbu⟩ := hL.at (i := mo - sn) (by omega)
    have hgd : (ss ++ ll).getD mo [] = ll.getD (mo - sn) [] := by rw [getD_app, if_neg (by omega), ← hsn]
    rw [hgd]
    generalize ll.getD (mo - sn) [] = x at *
    have HBU : Hid (BoolsV w u x) := hbu
    obtain ⟨uo, uc, rfl, _⟩ := hbu
    generalize x.length = xn at *
    have hlow' : ¬ (mo : Int) < (sn : Int) := by omega
    obtain ⟨q, hq⟩ : ∃ q : Nat, q = mo - sn := ⟨_, rfl⟩
    have hqi : (mo : Int) - (sn : Int) = (q : Int) := by omega
    have hql : q < ln := by omega
    rw [← hq] at hcu
    clear hmo hmo2 hgd hS hL hsn hln hq
    go_enter Tryz.func115, Tryz.ntmps115
    go_wp2_with (go_at_call 116; refine hm2.mono ?_; rintro e w1 ⟨rfl, hb1⟩; have hbw := (hA _).trans (hb1.mono (Nat.le_succ _)); have e0 := (hb1.cell (p := ⟨w.heap.size, 0, none⟩) (Nat.lt_succ_self _)).trans d0; have e1 := (hb1.cell (p := ⟨w.heap.size, 1, none⟩) (Nat.lt_succ_self _)).trans d1; have e2 := (hbw.cell (p := ⟨b, off + q, none⟩) hbl).trans hcu)
    go_ret
    exact ⟨_, _, rfl, hbw, HBU.out.below hbw⟩

set_option maxRecDepth 20000 in
set_option maxHeartbeats 1600000 in
/-- THE CONTRACT OF the document's WordFault. -/
theorem wfault_any (sv lv : Value) (ss ll : List (List Bool)) (props : Int) (w : World) (hzs : ss.length ≤ 140737488355328) (hzl : ll.length ≤ 140737488355328) (hS : LettersV w sv ss) (hL : LettersV w lv ll) :
    Calls Tryz.prog 80 #[.agg #[sv, lv], .int .i64 props] w fun e w' => e = .returned (.int .i64 (wdcode props ss ll)) ∧ Below w.heap.size w w' := by
  have hA : ∀ o, Below w.heap.size w (w.alloc o) := fun o => (Below.refl _ _).alloc (Nat.le_refl _) o
  obtain ⟨so, sc, rfl⟩ := hS.shape
  obtain ⟨lo, lc, rfl⟩ := hL.shape
  have hin := fun w1 => in_any props 0 6 w1
  have hin2 := fun w1 => in_any (ll.length : Int) 1 12 w1
  by_cases hr : props < 0 ∨ 6 < props
  · rw [wdcode_range hr]
    rw [show decide (0 ≤ props ∧ props ≤ 6) = false by simp; omega] at hin
    generalize ss.length = sn at *
    generalize ll.length = ln at *
    clear hS hL hin2 hr
    go_enter Tryz.func80, Tryz.ntmps80
    go_wp2_with (go_at_call 30; refine (hin _).mono ?_; rintro e w1 ⟨rfl, hw1⟩; obtain rfl := hw1.symm)
    go_ret
    exact ⟨rfl, hA _⟩
  · rw [show decide (0 ≤ props ∧ props ≤ 6) = true by simp; omega] at hin
    by_cases hs : 12 < ss.length ∨ ll.length < 1 ∨ 12 < ll.length
    · rw [wdcode_size hr hs]
      by_cases h1 : 12 < ss.length
      · generalize ss.length = sn at *
        generalize ll.length = ln at *
        have h1' : (12 : Int) < (sn : Int) := by omega
        clear hS hL hr hs hin2
        go_enter Tryz.func80, Tryz.ntmps80
        go_wp2_with (go_at_call 30; refine (hin _).mono ?_; rintro e w1 ⟨rfl, hw1⟩; obtain rfl := hw1.symm)
        go_ret
        exact ⟨rfl, hA _⟩
      · rw [show decide (1 ≤ (ll.length : Int) ∧ (ll.length : Int) ≤ 12) = false by simp; omega] at hin2
        generalize ss.length = sn at *
        generalize ll.length = ln at *
        have h1' : ¬ (12 : Int) < (sn : Int) := by omega
        clear hS hL hr hs
        go_enter Tryz.func80, Tryz.ntmps80
        go_wp2_with (first | (go_at_call 30; refine (hin _).mono ?_; clear hin; rintro e w1 ⟨rfl, hw1⟩; obtain rfl := hw1.symm) | (go_at_call 30; refine (hin2 _).mono ?_; clear hin2; rintro e w1 ⟨rfl, hw1⟩; obtain rfl := hw1.symm))
        go_ret
        exact ⟨rfl, hA _⟩
    · have hs1 : ss.length ≤ 12 := by omega
      have hl1 : 1 ≤ ll.length := by omega
      have hl2 : ll.length ≤ 12 := by omega
      rw [show decide (1 ≤ (ll.length : Int) ∧ (ll.length : Int) ≤ 12) = true by simp; omega] at hin2
      have HOk := fun h => (show Hid _ from wdcode_ok (ss := ss) (ll := ll) hr hs h)
      have HFo := fun h => (show Hid _ from wdcode_form (ss := ss) (ll := ll) hr hs h)
      have HLen : Hid ((ss ++ ll).length = ss.length + ll.length) := List.length_append
      have HAt : Hid (∀ w1 (k : Nat), Below w.heap.size w w1 → k < ss.length + ll.length → Calls Tryz.prog 115 #[.agg #[.slice so ss.length sc, .slice lo ll.length lc], .int .i64 (k : Int)] w1 fun e w' => ∃ uo uc, e = .returned (.slice uo ((ss ++ ll).getD k []).length uc) ∧ Below w1.heap.size w1 w') := fun w1 k hb hk => by
        have h := letterAt_any so lo _ sc _ lc ss ll k w1 rfl rfl hs1 hl1 hl2 (by omega) (hS.below hb) (hL.below hb)
        rw [moAt_low hk] at h
        exact h.mono fun e w' ⟨uo, uc, h1, h2, _⟩ => ⟨uo, uc, h1, h2⟩
      generalize wdcode props ss ll = wc at *
      generalize ss.length = sn at *
      generalize ll.length = ln at *
      clear hS hL hr hs
      have g1 : ¬ (12 : Int) < (sn : Int) := by omega
      have d0 : (w.alloc (.cells #[.slice so sn sc, .slice lo ln lc] 46)).cell? ⟨w.heap.size, 0, none⟩ = some (.slice so sn sc) := by simp [go_sem]
      have d1 : (w.alloc (.cells #[.slice so sn sc, .slice lo ln lc] 46)).cell? ⟨w.heap.size, 1, none⟩ = some (.slice lo ln lc) := by simp [go_sem]
      have HB1 : Hid (Below (w.heap.size + 1) (w.alloc (.cells #[.slice so sn sc, .slice lo ln lc] 46)) (w.alloc (.cells #[.slice so sn sc, .slice lo ln lc] 46))) := Below.refl _ _
      have HA2 : Hid (∀ w1, Below (w.heap.size + 1) (w.alloc (.cells #[.slice so sn sc, .slice lo ln lc] 46)) w1 → Below w.heap.size w w1 ∧ w1.cell? ⟨w.heap.size, 0, none⟩ = some (.slice so sn sc) ∧ w1.cell? ⟨w.heap.size, 1, none⟩ = some (.slice lo ln lc)) := fun w1 hb => ⟨(hA _).trans (hb.mono (Nat.le_succ _)), (hb.cell (p := ⟨w.heap.size, 0, none⟩) (Nat.lt_succ_self _)).trans d0, (hb.cell (p := ⟨w.heap.size, 1, none⟩) (Nat.lt_succ_self _)).trans d1⟩
      go_enter Tryz.func80, Tryz.ntmps80
      go_wp2_with (first | (go_at_call 30; refine (hin _).mono ?_; clear hin; rintro e w1 ⟨rfl, hw1⟩; obtain rfl := hw1.symm) | (go_at_call 30; refine (hin2 _).mono ?_; clear hin2; rintro e w1 ⟨rfl, hw1⟩; obtain rfl := hw1.symm))
      go_loopw [5] (fun i wr => ∃ k : Nat, k ≤ sn + ln ∧ i = .int .i64 (k : Int) ∧ Hid (∀ j, j < k → (((ss ++ ll).getD j []).length : Int) = props) ∧ Hid (Below (w.heap.size + 1) (w.alloc (.cells #[.slice so sn sc, .slice lo ln lc] 46)) wr)) (fun i _ => sn + ln - (intOf i).toNat)
      case atStart => exact ⟨0, Nat.zero_le _, rfl, fun j hj => absurd hj (Nat.not_lt_zero _), HB1.out⟩
      case round =>
        obtain ⟨k, hk, rfl, HAll, HBe⟩ := hrel
        obtain ⟨hbw, e0, e1⟩ := HA2.out wr HBe.out
        by_cases hlt : k < sn + ln
        · have hla := HAt.out wr k hbw hlt
          have hlt' : (k : Int) < (sn : Int) + (ln : Int) := by omega
          by_cases hx : (((ss ++ ll).getD k []).length : Int) = props
          · have HNx : Hid (∀ j, j < k + 1 → (((ss ++ ll).getD j []).length : Int) = props) := fun j hj => by
              by_cases hjk : j < k
              · exact HAll.out j hjk
              · obtain rfl : j = k := by omega
                exact hx
            generalize ((ss ++ ll).getD k []).length = xn at *
            clear HAll
            go_wp2_with (go_at_call 115; refine hla.mono ?_; rintro e w2 ⟨uo, uc, rfl, hb2⟩)
            have HB2 : Hid (Below (w.heap.size + 1) (w.alloc (.cells #[.slice so sn sc, .slice lo ln lc] 46)) w2) := HBe.out.trans (hb2.mono (by have := HBe.out.size; simpa using this))
            go_roundw
            case rel => exact ⟨k + 1, hlt, by go_num, HNx, HB2⟩
            case measure => simp [intOf]; omega
          · have HW : Hid (wc = 3) := (HFo (letBad_at (by rw [HLen.out]; exact hlt) hx)).out
            generalize ((ss ++ ll).getD k []).length = xn at *
            clear HAll
            go_wp2_with (go_at_call 115; refine hla.mono ?_; rintro e w2 ⟨uo, uc, rfl, hb2⟩)
            go_ret
            rw [HW.out]
            exact ⟨rfl, hbw.trans (hb2.mono hbw.size)⟩
        · obtain rfl : k = sn + ln := by omega
          have HW : Hid (wc = 0) := (HOk (letBad_none fun i hi => HAll.out i (by rw [HLen.out] at hi; exact hi))).out
          go_wp2_with fail
          go_ret
          rw [HW.out]
          exact ⟨rfl, hbw⟩
end Go.Proofs.YtnicbkkkecfdpaaGreatDoor

/-
  The contract of logic's method truths.
-/
namespace Go.Proofs.YtnicbkkkecfdpaaGreatDoor
open Go.ChangeShapes Go.WideShapes Go.ChangeAt Go.RowKit Go.Deep Go.Shelf
open Terms

attribute [local go_sem] Oper.semAt_some

/-- what the row holds ahead of the rounds, when k claims are laid. -/
def iniB (l : List (Int × Int)) (claim : Int) (k : Nat) (j : Nat) : Bool := if lookB (l.getD j (0, 0)).1 = true ∧ (aheadTo l j).length < k then bitB claim (aheadTo l j).length else false
/-- a round. -/
def stepB (l : List (Int × Int)) (letter : List Bool) (h : Nat → Bool) (p : Nat) : Nat → Bool := if lookB (l.getD p (0, 0)).1 = true then h else fun j => if j = p then mkB (l.getD p (0, 0)) letter (h (p + 1)) (h (sec l p)) else h j
def foldB (l : List (Int × Int)) (letter : List Bool) (h : Nat → Bool) {n : Nat} (xs : List (Fin n)) : Nat → Bool := xs.foldl (fun h x => stepB l letter h x.1) h
set_option maxRecDepth 20000 in
theorem foldB_snoc (l : List (Int × Int)) (letter : List Bool) (h : Nat → Bool) {n : Nat} (xs : List (Fin n)) (x : Fin n) : foldB l letter h (xs ++ [x]) = stepB l letter (foldB l letter h xs) x.1 := by simp [foldB]
set_option maxRecDepth 20000 in
theorem foldB_done {l : List (Int × Int)} {letter : List Bool} {claim : Int} (hz : endsCode (l.map Prod.fst) = 0) {n : Nat} (h0n : 0 < n) (hn : n = l.length) :
    ∀ k, k ≤ n → ∀ j, j < n → foldB l letter (iniB l claim (aheadL l).length) (backTo h0n k) j = if n - k ≤ j then tru l letter claim j else iniB l claim (aheadL l).length j := by
  intro k
  induction k with
  | zero =>
    intro _ j hj
    rw [if_neg (by omega)]
    simp [backTo, foldB]
  | succ k ih =>
    intro hk j hj
    have ih' := ih (by omega)
    rw [backTo_succ, foldB_snoc]
    have hp : (backAt h0n k).1 = n - 1 - k := rfl
    rw [hp]
    obtain ⟨p, hpe⟩ : ∃ p, p = n - 1 - k := ⟨_, rfl⟩
    rw [← hpe]
    have hpl : p < l.length := by omega
    unfold stepB
    cases hb : lookB (l.getD p (0, 0)).1 with
    | true =>
      rw [if_pos rfl, ih' j hj]
      by_cases hjp : j = p
      · subst hjp
        rw [if_neg (by omega), if_pos (by omega), tru_look hpl hb]
        unfold iniB
        exact if_pos ⟨hb, aheadTo_lt l hpl hb⟩
      · by_cases hle : n - k ≤ j
        · rw [if_pos hle, if_pos (by omega)]
        · rw [if_neg hle, if_neg (by omega)]
    | false =>
      rw [if_neg (by decide)]
      by_cases hjp : j = p
      · subst hjp
        rw [if_pos rfl, if_pos (by omega)]
        obtain ⟨h1, h2⟩ := part_in hz hpl
        rw [tru_mk hpl hb (fun h => (h2 h).1)]
        have hpn := pn_le (l.getD j (0, 0)).1
        by_cases p2 : pn (l.getD j (0, 0)).1 = 2
        · obtain ⟨s1, s2⟩ := h2 p2
          have s0 := h1 (by omega)
          rw [ih' (j + 1) (by omega), ih' (sec l j) (by omega), if_pos (by omega), if_pos (by omega)]
        · have hk89 : (l.getD j (0, 0)).1 ≠ 8 ∧ (l.getD j (0, 0)).1 ≠ 9 := by
            constructor <;> intro e <;> rw [e] at p2 <;> exact absurd rfl p2
          by_cases p1 : pn (l.getD j (0, 0)).1 = 1
          · have s0 := h1 (by omega)
            rw [ih' (j + 1) (by omega), if_pos (by omega)]
            simp only [mkB, hk89.1, hk89.2, if_false]
          · have hk10 : (l.getD j (0, 0)).1 ≠ 10 := by intro e; rw [e] at p1; exact absurd rfl p1
            simp only [mkB, hk89.1, hk89.2, hk10, if_false]
      · rw [if_neg hjp, ih' j hj]
        by_cases hle : n - k ≤ j
        · rw [if_pos hle, if_pos (by omega)]
        · rw [if_neg hle, if_neg (by omega)]

/-- what lies beside the rounds. -/
structure TrSt (w : World) (fo ev av lv : Value) (n : Nat) (h : Nat → Bool) (W0s : Nat) (W : World) : Prop where
  three : Three W w.heap.size fo ev av
  letter : W.cell? ⟨w.heap.size + 1, 0, none⟩ = some lv
  holds : W.cell? ⟨w.heap.size + 1 + 1 + 1, 0, none⟩ = some (.slice (some ⟨w.heap.size + 1 + 1, 0, none⟩) n n)
  row : W.rowIs (w.heap.size + 1 + 1) 4 n (fun j => .bool (h j))
  below : Below w.heap.size w W
  size : W0s ≤ W.heap.size
set_option maxRecDepth 20000 in
theorem TrSt.later {w : World} {fo ev av lv : Value} {n : Nat} {h : Nat → Bool} {s B : Nat} {W W' : World} (t : TrSt w fo ev av lv n h s W) (hb : Below B W W') (hB : w.heap.size + 4 ≤ B) : TrSt w fo ev av lv n h s W' :=
  ⟨t.three.below hb (by omega), (hb.cell (p := ⟨w.heap.size + 1, 0, none⟩) (by simp; omega)).trans t.letter, (hb.cell (p := ⟨w.heap.size + 1 + 1 + 1, 0, none⟩) (by simp; omega)).trans t.holds, t.row.of_block (hb.block _ (by omega)), t.below.trans (hb.mono (by omega)), Nat.le_trans t.size hb.size⟩

set_option maxRecDepth 20000 in
theorem TrSt.congr {w : World} {fo ev av lv : Value} {n : Nat} {h h' : Nat → Bool} {s : Nat} {W : World} (t : TrSt w fo ev av lv n h s W) (e : ∀ j, j < n → h j = h' j) : TrSt w fo ev av lv n h' s W :=
  ⟨t.three, t.letter, t.holds, t.row.congr fun j hj => by rw [e j hj], t.below, t.size⟩
set_option maxRecDepth 20000 in
theorem TrSt.put {w : World} {fo ev av lv : Value} {n : Nat} {h : Nat → Bool} {s : Nat} {W : World} (t : TrSt w fo ev av lv n h s W) (p : Nat) (x : Bool) : TrSt w fo ev av lv n (fun j => if j = p then x else h j) s (W.setCell ⟨w.heap.size + 1 + 1, p, none⟩ (.bool x)) := by
  have hb : ∀ k, k ≠ w.heap.size + 1 + 1 → (W.setCell ⟨w.heap.size + 1 + 1, p, none⟩ (.bool x)).heap[k]? = W.heap[k]? := fun k hk => Below.heap_setCell W _ _ k hk
  have hc : ∀ k q, k ≠ w.heap.size + 1 + 1 → (W.setCell ⟨w.heap.size + 1 + 1, p, none⟩ (.bool x)).cell? ⟨k, q, none⟩ = W.cell? ⟨k, q, none⟩ := fun k q hk => World.cell?_of_block (w := W) (hb k hk)
  have hf : ∀ q, (W.setCell ⟨w.heap.size + 1 + 1, p, none⟩ (.bool x)).frozen? ⟨w.heap.size, q, none⟩ = W.frozen? ⟨w.heap.size, q, none⟩ := fun q => by rw [World.frozen?_setCell]
  obtain ⟨k0, k1, k2, f0, f1, f2, hl⟩ := t.three
  refine ⟨⟨(hc _ _ (by omega)).trans k0, (hc _ _ (by omega)).trans k1, (hc _ _ (by omega)).trans k2, (hf 0).trans f0, (hf 1).trans f1, (hf 2).trans f2, by simpa using hl⟩, (hc _ _ (by omega)).trans t.letter, (hc _ _ (by omega)).trans t.holds, ?_, t.below.setCell (by simp; omega) _, by simpa using t.size⟩
  refine (t.row.set p (.bool x)).congr fun i _ => ?_
  by_cases hip : i = p
  · rw [if_pos hip, if_pos hip]
  · rw [if_neg hip, if_neg hip]
set_option maxRecDepth 20000 in
theorem TrSt.drew {w : World} {fo ev av lv : Value} {n : Nat} {h : Nat → Bool} {s : Nat} {W : World} (t : TrSt w fo ev av lv n h s W) : TrSt w fo ev av lv n h s W.drew :=
  ⟨⟨t.three.1, t.three.2.1, t.three.2.2.1, t.three.2.2.2.1, t.three.2.2.2.2.1, t.three.2.2.2.2.2.1, t.three.2.2.2.2.2.2⟩, t.letter, t.holds, t.row.of_block rfl, t.below.drew, t.size⟩
set_option maxRecDepth 20000 in
theorem bits_small : ∀ c, c < 64 → (bits BinOp.and IntKind.i64 ((c : Nat) : Int) 1 == 1) = decide (((c : Nat) : Int) % 2 = 1) := by decide
set_option maxRecDepth 20000 in
theorem bits_bitB {claim : Int} {k : Nat} (h0 : 0 ≤ claim) (h : claim < 64) : (bits BinOp.and IntKind.i64 (claim / 2 ^ k) 1 == 1) = bitB claim k := by
  have h2 : (0 : Int) < 2 ^ k := Int.pow_pos (by decide)
  have h3 : 0 ≤ claim / 2 ^ k := Int.ediv_nonneg h0 (Int.le_of_lt h2)
  have h4 : claim / 2 ^ k ≤ claim := Int.ediv_le_self _ h0
  obtain ⟨c, hc⟩ : ∃ c : Nat, claim / 2 ^ k = c := ⟨(claim / 2 ^ k).toNat, by omega⟩
  unfold bitB
  rw [hc]
  exact bits_small c (by omega)
set_option maxRecDepth 20000 in
theorem iniB_step {l : List (Int × Int)} {claim : Int} {k p : Nat} (hlk : lookB (l.getD p (0, 0)).1 = true) (hpi : (aheadTo l p).length = k) (j : Nat) : (if j = p then bitB claim k else iniB l claim k j) = iniB l claim (k + 1) j := by
  unfold iniB
  by_cases hjp : j = p
  · subst hjp
    rw [if_pos rfl, if_pos ⟨hlk, by omega⟩, hpi]
  · rw [if_neg hjp]
    by_cases hb : lookB (l.getD j (0, 0)).1 = true
    · have hne : (aheadTo l j).length ≠ k := by
        intro e
        rcases Nat.lt_or_gt_of_ne hjp with h | h
        · have := aheadTo_lt l h hb; omega
        · have := aheadTo_lt l h hlk; omega
      by_cases hl : (aheadTo l j).length < k
      · rw [if_pos ⟨hb, hl⟩, if_pos ⟨hb, by omega⟩]
      · rw [if_neg (fun h => hl h.2), if_neg (fun h => by have := h.2; omega)]
    · rw [if_neg (fun h => hb h.1), if_neg (fun h => hb h.1)]

end Go.Proofs.YtnicbkkkecfdpaaGreatDoor
