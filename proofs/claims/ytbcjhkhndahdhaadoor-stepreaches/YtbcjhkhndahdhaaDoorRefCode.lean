/-
  The contract of the document's own CodeOf.
-/
import Derived.Test.YtbcjhkhndahdhaaDoorRefCount
import Derived.Test.YtbcjhkhndahdhaaDoorCodeRes
namespace Go.Proofs.YtbcjhkhndahdhaaDoor
open Go.ChangeShapes Go.WideShapes Go.ChangeAt Go.RowKit Go.Deep
open Terms Tm

theorem rcode_bad (va vr vv : Value) (m : Mo) (w : World) (hV : ModelV w va vr m) (io : Option Addr) (il ic : Nat) (hv : vv = .slice io il ic) (h : mcode m ≠ 0) :
    Calls Tryd.prog 23 #[.agg #[va, vr], vv] w fun e w' => e = .returned (.tuple #[.int .i64 0, .int .i64 (mcode m)]) ∧ Below w.heap.size w w' := by
  subst hv
  have hA : ∀ o, Below w.heap.size w (w.alloc o) := fun o => (Below.refl _ _).alloc (Nat.le_refl _) o
  have hch := fun o => rmodel_any va vr m (w.alloc o) (hV.below (hA o))
  obtain ⟨ao, cap, rfl⟩ := hV.1.shape
  obtain ⟨ro, rc, rfl⟩ := hV.2.shape
  generalize mcode m = x at *
  generalize m.vars.length = n at *
  generalize m.rules.length = rn at *
  clear hV
  go_enter Tryd.func23, Tryd.ntmps23
  go_wp2_with (go_at_call 24; refine (hch _).mono ?_; rintro e w1 ⟨rfl, hb1⟩)
  go_ret2
  exact ⟨rfl, (hA _).trans (hb1.mono (hA _).size)⟩
theorem rcode_len (va vr vv : Value) (m : Mo) (w : World) (hV : ModelV w va vr m) (io : Option Addr) (il ic : Nat) (hv : vv = .slice io il ic) (h : mcode m = 0) (hl : il ≠ m.vars.length) :
    Calls Tryd.prog 23 #[.agg #[va, vr], vv] w fun e w' => e = .returned (.tuple #[.int .i64 0, .int .i64 9]) ∧ Below w.heap.size w w' := by
  subst hv
  have hA : ∀ o, Below w.heap.size w (w.alloc o) := fun o => (Below.refl _ _).alloc (Nat.le_refl _) o
  have hch := fun o => rmodel_any va vr m (w.alloc o) (hV.below (hA o))
  rw [h] at hch
  obtain ⟨ao, cap, rfl⟩ := hV.1.shape
  obtain ⟨ro, rc, rfl⟩ := hV.2.shape
  generalize m.vars.length = n at *
  generalize m.rules.length = rn at *
  have hne : ((il : Int) == (n : Int)) = false := by rw [beq_eq_false_iff_ne]; omega
  clear hV h
  go_enter Tryd.func23, Tryd.ntmps23
  go_wp2_with (go_at_call 24; refine (hch _).mono ?_; rintro e w1 ⟨rfl, hb1⟩; have hcb : w1.cell? ⟨w.heap.size, 0, none⟩ = some (.slice ao n cap) := (hb1.cell (p := ⟨w.heap.size, 0, none⟩) (by simp)).trans (by simp [go_sem]))
  all_goals first | (exfalso; omega) | go_ret2
  all_goals exact ⟨rfl, (hA _).trans (hb1.mono (hA _).size)⟩

set_option maxHeartbeats 3200000 in
theorem rcode_loop (va vr vv : Value) (m : Mo) (vals : List Int) (w : World) (hV : ModelV w va vr m) (hI : IntsV w vv vals) (h : mcode m = 0) (hlen : vals.length = m.vars.length) :
    Calls Tryd.prog 23 #[.agg #[va, vr], vv] w fun e w' => e = .returned (.tuple #[.int .i64 (cval m vals), .int .i64 (ccode m vals)]) ∧ Below w.heap.size w w' := by
  have hA : ∀ o, Below w.heap.size w (w.alloc o) := fun o => (Below.refl _ _).alloc (Nat.le_refl _) o
  have hch := fun o => rmodel_any va vr m (w.alloc o) (hV.below (hA o))
  rw [h] at hch
  have hok := mcode_vars h
  have HOK : Hid (VarsOk m.vars) := hok
  have h6 := hok.1
  obtain ⟨ao, cap, rfl⟩ := hV.1.shape
  obtain ⟨ro, rc, rfl⟩ := hV.2.shape
  obtain ⟨io, icap, rfl⟩ := hI.shape
  have hbv := (fun w1 (hb : Below w.heap.size w w1) a (ha : a ≤ m.vars.length) => behindVar_any (.slice ao m.vars.length cap) ro m.rules.length rc m.vars a w1 hok ha (hV.1.below hb))
  have HBV := (show Hid _ from hbv)
  have HV : Hid (VarsV w (.slice ao m.vars.length cap) m.vars) := hV.1
  have HI : Hid (IntsV w (.slice io vals.length icap) vals) := hI
  have HYes : Hid ((∀ i, i < m.vars.length → inB m.vars vals i) → ccode m vals = 0 ∧ cval m vals = sumTo m.vars vals m.vars.length) := fun hin => by
    have h1 := ccode_yes h ⟨hlen, hin⟩
    exact ⟨h1, by unfold cval; rw [if_pos h1, sum_all]⟩
  have HNo : Hid (∀ k, k < m.vars.length → ¬ inB m.vars vals k → ccode m vals = 9 ∧ cval m vals = 0) := fun k hk hin => by
    have h1 := ccode_no h (vals := vals) (fun h => hin (h.2 k hk))
    exact ⟨h1, by unfold cval; rw [h1, if_neg (by decide)]⟩
  have HLen : Hid (vals.length = m.vars.length) := hlen
  obtain ⟨n, hn⟩ : ∃ n, n = m.vars.length := ⟨_, rfl⟩
  have HN : Hid (n = m.vars.length) := hn
  rw [hlen] at HI ⊢
  rw [← hn] at h6 hch HBV HV HI HYes HNo ⊢
  generalize m.rules.length = rn at *
  generalize ccode m vals = cc at *
  generalize cval m vals = cv at *
  clear hV hI hbv hlen hn hok h
  go_enter Tryd.func23, Tryd.ntmps23
  go_wp2_with (go_at_call 24; refine (hch _).mono ?_; rintro e w1 ⟨rfl, hb1⟩; have hcb : w1.cell? ⟨w.heap.size, 0, none⟩ = some (.slice ao n cap) := (hb1.cell (p := ⟨w.heap.size, 0, none⟩) (by simp)).trans (by simp [go_sem]))
  have hb1' : Below (w.heap.size + 1) (w.alloc (.cells #[.slice ao n cap, .slice ro rn rc] 25)) w1 := hb1.mono (by simp)
  clear hch hcb hb1
  go_loopw [7, 8] (fun st i wr => ∃ k : Nat, k ≤ n ∧ i = .int .i64 k ∧ st = .int .i64 (sumTo m.vars vals k) ∧ Hid (∀ i, i < k → inB m.vars vals i) ∧ Below (w.heap.size + 1) (w.alloc (.cells #[.slice ao n cap, .slice ro rn rc] 25)) wr) (fun _ i _ => n - (intOf i).toNat)
  case atStart => exact ⟨0, Nat.zero_le _, rfl, rfl, fun j hj => by omega, hb1'⟩
  case round =>
    obtain ⟨k, hk, rfl, rfl, HJ, hbelB⟩ := hrel
    clear hb1'
    have hbel := (hA _).trans (hbelB.mono (Nat.le_succ _))
    have hszb : w.heap.size + 1 ≤ wr.heap.size := by have := hbelB.size; simp at this; omega
    have hlb : w.heap.size < wr.heap.size := by omega
    have cb := (hbelB.cell (p := ⟨w.heap.size, 0, none⟩) (by simp)).trans (show _ = some (.slice ao n cap) by simp [go_sem])
    have cb1 := (hbelB.cell (p := ⟨w.heap.size, 1, none⟩) (by simp)).trans (show _ = some (.slice ro rn rc) by simp [go_sem])
    by_cases hlt : k < n
    · obtain ⟨b, off, rfl, hblt, hat⟩ := HV.out.at (i := k) (by rw [← HN.out]; exact hlt)
      obtain ⟨ib, ioff, rfl, hilt, hic⟩ := HI.out.at (i := k) (by rw [HLen.out, ← HN.out]; exact hlt)
      obtain ⟨c0, c1, c2, c3⟩ := hat.below hbel hblt
      have hic2 := (hbel.cell (p := ⟨ib, ioff + k, none⟩) hilt).trans hic
      have HNk := (show Hid _ from HNo.out k hlt)
      unfold inB at HNk
      have hsb := sum_bounds HOK.out (k := k) (by rw [← HN.out]; exact hk) HJ.out
      have hgb := segP_bounds HOK.out (i := k + 1) (by rw [← HN.out]; exact hlt)
      have hvb := HOK.out.at (j := k) (by rw [← HN.out]; exact hlt)
      have HPr : Hid (sumTo m.vars vals (k + 1) = sumTo m.vars vals k + (vals.getD k 0 - (m.vars.getD k vr0).lo) * segP m.vars (k + 1)) := rfl
      have HJ3 : Hid ((m.vars.getD k vr0).lo ≤ vals.getD k 0 ∧ vals.getD k 0 ≤ (m.vars.getD k vr0).hi → ∀ i, i < k + 1 → inB m.vars vals i) := fun h i hi => by
        by_cases hik : i = k
        · subst hik; exact h
        · exact HJ.out i (by omega)
      have hbvk := (fun w1 hb => HBV.out w1 hb (k + 1) (by omega))
      rw [show ((k + 1 : Nat) : Int) - 1 = (k : Int) by omega] at hbvk
      generalize sumTo m.vars vals k = st at *
      generalize segP m.vars (k + 1) = sg at *
      generalize m.vars.getD k vr0 = x at *
      generalize vals.getD k 0 = y at *
      obtain ⟨s, lo, hi, ini⟩ := x
      simp only [vspan] at c0 c1 c2 c3 HNk HJ3 HPr hvb
      obtain ⟨hv1, hv2, hv3, hv4, hv5, hv6, hv7⟩ := hvb
      clear hat hic HJ
      have hi0 : (0 : Int) ≤ (k : Int) := Int.natCast_nonneg _
      have hi1 : (k : Int) < (n : Int) := by omega
      have hin0 := fun w => in_any y lo hi w
      have hbo : b < wr.heap.size := by omega
      have hio : ib < wr.heap.size := by omega
      by_cases hin : lo ≤ y ∧ y ≤ hi
      · rw [decide_eq_true hin] at hin0
        have HJ4 := (show Hid _ from HJ3.out hin)
        obtain ⟨hy1, hy2⟩ := hin
        have hm1 : 0 ≤ (y - lo) * sg := Int.mul_nonneg (by omega) (by omega)
        have hm2 : (y - lo) * sg ≤ 262144 := by
          have := Int.mul_le_mul (show y - lo ≤ 64 by omega) hgb.2 (by omega) (by omega); simpa using this
        have hw1 : IntKind.i64.wrap (y - lo) = y - lo := wr64 (by omega) (by omega)
        have hw2 : IntKind.i64.wrap ((y - lo) * sg) = (y - lo) * sg := wr64 (by omega) (by omega)
        have hw3 : IntKind.i64.wrap (st + (y - lo) * sg) = st + (y - lo) * sg := wr64 (by omega) (by omega)
        clear HJ3 HNk HNo HYes HBV
        go_wp2_with fail
        go_quiet ((go_at_call 26; exact Calls.quiet_of_same (hin0 _)))
        go_wp2_with fail
        have hB0 : Below wr.heap.size wr (wr.drewN nq) := below_drewN (Below.refl _ _) _
        have hbvk2 := fun w2 (hb2 : Below wr.heap.size wr w2) => hbvk w2 (hbel.trans (hb2.mono hbel.size))
        have hS0 : ∀ w', Below wr.heap.size wr w' → w'.cell? ⟨w.heap.size, 0, none⟩ = some (.slice (some ⟨b, off, none⟩) n cap) ∧ w'.cell? ⟨w.heap.size, 1, none⟩ = some (.slice ro rn rc) ∧ w'.cell? ⟨b, off + k * 4 + 1, none⟩ = some (.int .i64 lo) ∧ w'.cell? ⟨ib, ioff + k, none⟩ = some (.int .i64 y) := fun w' hw' =>
          ⟨(hw'.cell (p := ⟨w.heap.size, 0, none⟩) hlb).trans cb, (hw'.cell (p := ⟨w.heap.size, 1, none⟩) hlb).trans cb1, (hw'.cell (p := ⟨b, off + k * 4 + 1, none⟩) hbo).trans c1, (hw'.cell (p := ⟨ib, ioff + k, none⟩) hio).trans hic2⟩
        clear hbvk cb cb1 c0 c1 c2 c3 hic2
        go_region_held3 (fun w' => w'.cell? ⟨w.heap.size, 0, none⟩ = some (.slice (some ⟨b, off, none⟩) n cap) ∧ w'.cell? ⟨w.heap.size, 1, none⟩ = some (.slice ro rn rc) ∧ w'.cell? ⟨b, off + k * 4 + 1, none⟩ = some (.int .i64 lo) ∧ w'.cell? ⟨ib, ioff + k, none⟩ = some (.int .i64 y))
          (exact hS0 _ (by first | exact hB0 | exact hB0.drew | exact hB0.drew.trans (hb2.mono (by simp))))
          (first | (go_at_call 25; refine (hbvk2 _ hB0.drew).mono ?_; rintro e w2 ⟨rfl, hb2⟩))
        go_wp2_with fail
        go_roundw
        case rel => exact ⟨k + 1, hlt, by go_num, by rw [HPr.out], HJ4, hbelB.trans ((hB0.drew.trans (hb2.mono (by simp))).mono hszb)⟩
        case measure => simp [intOf]; omega
      · rw [decide_eq_false hin] at hin0
        have HR := (show Hid _ from HNk.out hin)
        clear hin HJ3 HNk HNo HYes HBV hbvk
        go_wp2_with fail
        go_quiet ((go_at_call 26; exact Calls.quiet_of_same (hin0 _)))
        go_wp2_with fail
        go_ret2
        rw [HR.out.1, HR.out.2]
        exact ⟨rfl, below_drewN hbel _⟩
    · have hkn : k = n := by omega
      subst hkn
      have HR := (show Hid _ from HYes.out HJ.out)
      generalize sumTo m.vars vals k = cd at *
      clear HJ HYes HNo HBV
      go_wp2
      go_ret2
      rw [HR.out.1, HR.out.2]
      exact ⟨rfl, hbel⟩

/-- THE CONTRACT OF CodeOf. -/
theorem rcodes_any (va vr vv : Value) (m : Mo) (vals : List Int) (w : World) (hV : ModelV w va vr m) (hI : IntsV w vv vals) :
    Calls Tryd.prog 23 #[.agg #[va, vr], vv] w fun e w' => e = .returned (.tuple #[.int .i64 (cval m vals), .int .i64 (ccode m vals)]) ∧ Below w.heap.size w w' := by
  obtain ⟨io, ic, hv⟩ := hI.shape
  by_cases h : mcode m = 0
  · by_cases hl : vals.length = m.vars.length
    · exact rcode_loop va vr vv m vals w hV hI h hl
    · have h9 := ccode_no h (vals := vals) (fun h => hl h.1)
      unfold cval
      rw [h9, if_neg (by decide)]
      exact rcode_len va vr vv m w hV io _ ic hv h hl
  · have h9 := ccode_bad (vals := vals) h
    unfold cval
    rw [h9, if_neg h]
    exact rcode_bad va vr vv m w hV io _ ic hv h
end Go.Proofs.YtbcjhkhndahdhaaDoor
