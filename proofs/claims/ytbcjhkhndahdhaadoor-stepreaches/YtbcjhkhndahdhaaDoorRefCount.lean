/-
  The contracts of the document's own behindVar, StateCount.
-/
import Derived.Test.YtbcjhkhndahdhaaDoorRefModel
import Derived.Test.YtbcjhkhndahdhaaDoorStates
namespace Go.Proofs.YtbcjhkhndahdhaaDoor
open Go.ChangeShapes Go.WideShapes Go.ChangeAt Go.RowKit Go.Deep
open Terms Tm

set_option maxHeartbeats 1600000 in
theorem behindVar_any (va : Value) (ro : Option Addr) (rn rc : Nat) (l : List Vr) (a : Nat) (w : World) (hok : VarsOk l) (ha : a ≤ l.length) (hV : VarsV w va l) :
    Calls Tryd.prog 25 #[.agg #[va, .slice ro rn rc], .int .i64 ((a : Int) - 1)] w fun e w' => e = .returned (.int .i64 (segP l a)) ∧ Below w.heap.size w w' := by
  obtain ⟨ao, cap, rfl⟩ := hV.shape
  have HV : Hid (VarsV w (.slice ao l.length cap) l) := hV
  have HOK : Hid (VarsOk l) := hok
  have h6 := hok.1
  unfold segP
  obtain ⟨n, hn⟩ : ∃ n, n = l.length := ⟨_, rfl⟩
  have HN : Hid (n = l.length) := hn
  rw [← hn] at h6 ha HV ⊢
  clear hV hn hok
  have hA : Below w.heap.size w (w.alloc (.cells #[.slice ao n cap, .slice ro rn rc] 25)) := (Below.refl _ _).alloc (Nat.le_refl _) _
  go_enter Tryd.func25, Tryd.ntmps25
  go_wp2
  go_loopw [5, 6] (fun st i wr => ∃ c : Nat, a + c ≤ n ∧ i = .int .i64 ((a + c : Nat) : Int) ∧ st = .int .i64 (prodSeg l a c) ∧ ∃ d, wr = (w.alloc (.cells #[.slice ao n cap, .slice ro rn rc] 25)).drewN d) (fun _ i _ => n - (intOf i).toNat)
  case atStart => exact ⟨0, by omega, by first | rfl | (congr 1; omega) | go_num, rfl, 0, rfl⟩
  case round =>
    obtain ⟨c, hc, rfl, rfl, d, rfl⟩ := hrel
    by_cases hlt : a + c < n
    · obtain ⟨b, off, rfl, hblt, hat⟩ := HV.out.at (i := a + c) (by rw [← HN.out]; exact hlt)
      obtain ⟨c0, c1, c2, c3⟩ := hat.below hA hblt
      have hpb1 := prodSeg_pos HOK.out (a := a) (c := c) (by rw [← HN.out]; exact hc)
      have hpb2 := prodSeg_le HOK.out (a := a) (c := c) (by rw [← HN.out]; exact hc)
      have hvb := HOK.out.at (j := a + c) (by rw [← HN.out]; exact hlt)
      have HPr : Hid (prodSeg l a (c + 1) = prodSeg l a c * vspan (l.getD (a + c) vr0)) := rfl
      generalize prodSeg l a c = st at *
      generalize l.getD (a + c) vr0 = x at *
      obtain ⟨s, lo, hi, ini⟩ := x
      simp only [vspan] at c0 c1 c2 c3 HPr hvb
      obtain ⟨hv1, hv2, hv3, hv4, hv5, hv6, hv7⟩ := hvb
      have hm1 : 1 ≤ st * (hi - lo + 1) := by have := Int.mul_le_mul hpb1 hv1 (by omega) (by omega); simpa using this
      have hm2 : st * (hi - lo + 1) ≤ 262144 := by have := Int.mul_le_mul hpb2 hv2 (by omega) (by omega); simpa using this
      obtain ⟨k, hk⟩ : ∃ k, k = a + c := ⟨_, rfl⟩
      have HK : Hid (k = a + c) := hk
      rw [← hk] at hlt c0 c1 c2 c3 ⊢
      clear hat hk
      have hi0 : (0 : Int) ≤ (k : Int) := Int.natCast_nonneg _
      have hi1 : (k : Int) < (n : Int) := by omega
      have hw1 : IntKind.i64.wrap (hi - lo) = hi - lo := wr64 (by omega) (by omega)
      have hw2 : IntKind.i64.wrap (hi - lo + 1) = hi - lo + 1 := wr64 (by omega) (by omega)
      have hw3 : IntKind.i64.wrap (st * (hi - lo + 1)) = st * (hi - lo + 1) := wr64 (by omega) (by omega)
      go_wp2_with fail
      go_quiet (fail)
      go_wp2_with fail
      go_roundw
      case rel => exact ⟨c + 1, by have := HK.out; omega, by have := HK.out; congr 1; omega, by rw [HPr.out], _, rfl⟩
      case measure => simp [intOf]; omega
    · have hce : c = n - a := by omega
      subst hce
      go_wp2_with fail
      go_ret
      exact ⟨rfl, below_drewN hA _⟩
/-- THE CONTRACT OF StateCount. -/
theorem rcount_any (va vr : Value) (m : Mo) (w : World) (hV : ModelV w va vr m) :
    Calls Tryd.prog 13 #[.agg #[va, vr]] w fun e w' => e = .returned (.tuple #[.int .i64 (if mcode m = 0 then prodTo m.vars m.vars.length else 0), .int .i64 (mcode m)]) ∧ Below w.heap.size w w' := by
  have hA : ∀ o, Below w.heap.size w (w.alloc o) := fun o => (Below.refl _ _).alloc (Nat.le_refl _) o
  have hch := fun o => rmodel_any va vr m (w.alloc o) (hV.below (hA o))
  have HV : Hid (ModelV w va vr m) := hV
  obtain ⟨ao, cap, rfl⟩ := hV.1.shape
  obtain ⟨ro, rc, rfl⟩ := hV.2.shape
  clear hV
  by_cases hz : mcode m = 0
  · have hok := mcode_vars hz
    have hcn := (fun w1 (hb : Below w.heap.size w w1) => behindVar_any _ ro m.rules.length rc m.vars 0 w1 hok (Nat.zero_le _) (HV.out.1.below hb))
    rw [segP_zero, show ((0 : Nat) : Int) - 1 = -1 by decide] at hcn
    rw [hz] at hch ⊢
    rw [if_pos rfl]
    generalize prodTo m.vars m.vars.length = N at *
    generalize m.vars.length = n at *
    generalize m.rules.length = rn at *
    clear hz hok HV
    go_enter Tryd.func13, Tryd.ntmps13
    go_wp2_with (first | (go_at_call 24; refine (hch _).mono ?_; rintro e w1 ⟨rfl, hb1⟩; have hcb0 : w1.cell? ⟨w.heap.size, 0, none⟩ = some (.slice ao n cap) := (hb1.cell (p := ⟨w.heap.size, 0, none⟩) (by simp)).trans (by simp [go_sem]); have hcb1 : w1.cell? ⟨w.heap.size, 1, none⟩ = some (.slice ro rn rc) := (hb1.cell (p := ⟨w.heap.size, 1, none⟩) (by simp)).trans (by simp [go_sem]); have hbw := (hA _).trans (hb1.mono (hA _).size)) | (go_at_call 25; refine (hcn _ hbw).mono ?_; rintro e w2 ⟨rfl, hb2⟩))
    go_ret2
    exact ⟨rfl, hbw.trans (hb2.mono hbw.size)⟩
  · rw [if_neg hz]
    generalize mcode m = x at *
    generalize m.vars.length = n at *
    generalize m.rules.length = rn at *
    clear HV
    go_enter Tryd.func13, Tryd.ntmps13
    go_wp2_with (go_at_call 24; refine (hch _).mono ?_; rintro e w1 ⟨rfl, hb1⟩)
    go_ret2
    exact ⟨rfl, (hA _).trans (hb1.mono (hA _).size)⟩
end Go.Proofs.YtbcjhkhndahdhaaDoor
