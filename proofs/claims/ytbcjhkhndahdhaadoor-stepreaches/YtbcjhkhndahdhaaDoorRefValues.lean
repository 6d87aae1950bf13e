/-
  The contract of the document's own ValuesOf.
-/
import Derived.Test.YtbcjhkhndahdhaaDoorRefCount
import Derived.Test.YtbcjhkhndahdhaaDoorValRes
import Derived.Deep.AppendLies
import Derived.Deep.RegionHeld3
namespace Go.Proofs.YtbcjhkhndahdhaaDoor
open Go.ChangeShapes Go.WideShapes Go.ChangeAt Go.RowKit Go.Deep
open Terms Tm

theorem ivals_snoc (f : Nat → Int) (k : Nat) : ivals ((List.range (k + 1)).map f) = ivals ((List.range k).map f) ++ [.int .i64 (f k)] := by
  simp [ivals, List.range_succ]

theorem rvalues_bad (va vr : Value) (m : Mo) (code : Int) (w : World) (hV : ModelV w va vr m) (h : mcode m ≠ 0) :
    Calls Tryd.prog 49 #[.agg #[va, vr], .int .i64 code] w fun e w' => e = .returned (.tuple #[.slice none 0 0, .int .i64 (mcode m)]) ∧ Below w.heap.size w w' := by
  have hA : ∀ o, Below w.heap.size w (w.alloc o) := fun o => (Below.refl _ _).alloc (Nat.le_refl _) o
  have hch := fun o => rcount_any va vr m (w.alloc o) (hV.below (hA o))
  rw [if_neg h] at hch
  obtain ⟨ao, cap, rfl⟩ := hV.1.shape
  obtain ⟨ro, rc, rfl⟩ := hV.2.shape
  generalize mcode m = x at *
  generalize m.vars.length = n at *
  generalize m.rules.length = rn at *
  clear hV
  go_enter Tryd.func49, Tryd.ntmps49
  go_wp2_with (go_at_call 13; refine (hch _).mono ?_; rintro e w1 ⟨rfl, hb1⟩)
  go_ret2
  exact ⟨rfl, (hA _).trans (hb1.mono (hA _).size)⟩
theorem rvalues_no (va vr : Value) (m : Mo) (code : Int) (w : World) (hV : ModelV w va vr m) (h : mcode m = 0) (hc : ¬ (0 ≤ code ∧ code < prodTo m.vars m.vars.length)) :
    Calls Tryd.prog 49 #[.agg #[va, vr], .int .i64 code] w fun e w' => e = .returned (.tuple #[.slice none 0 0, .int .i64 9]) ∧ Below w.heap.size w w' := by
  have hA : ∀ o, Below w.heap.size w (w.alloc o) := fun o => (Below.refl _ _).alloc (Nat.le_refl _) o
  have hch := fun o => rcount_any va vr m (w.alloc o) (hV.below (hA o))
  rw [if_pos h, h] at hch
  have hN := (mcode_vars h).prod (j := m.vars.length) (Nat.le_refl _)
  obtain ⟨ao, cap, rfl⟩ := hV.1.shape
  obtain ⟨ro, rc, rfl⟩ := hV.2.shape
  generalize prodTo m.vars m.vars.length = N at *
  generalize m.vars.length = n at *
  generalize m.rules.length = rn at *
  have hin := fun w => in_any code 0 (N - 1) w
  rw [decide_eq_false (show ¬ (0 ≤ code ∧ code ≤ N - 1) by omega)] at hin
  clear hV h hc
  go_enter Tryd.func49, Tryd.ntmps49
  go_wp2_with (first | (go_at_call 13; refine (hch _).mono ?_; rintro e w1 ⟨rfl, hb1⟩) | (go_at_call 26; refine (hin _).mono ?_; rintro e w2 ⟨rfl, rfl⟩))
  go_ret2
  exact ⟨rfl, (hA _).trans (hb1.mono (hA _).size)⟩

set_option maxHeartbeats 3200000 in
theorem rvalues_loop (va vr : Value) (m : Mo) (code : Int) (w : World) (hV : ModelV w va vr m) (h : mcode m = 0) (hc : 0 ≤ code ∧ code < prodTo m.vars m.vars.length) :
    Calls Tryd.prog 49 #[.agg #[va, vr], .int .i64 code] w fun e w' => ∃ v, e = .returned (.tuple #[v, .int .i64 0]) ∧ Below w.heap.size w w' ∧ IntsV w' v (valsL m.vars code) := by
  have hA : ∀ o, Below w.heap.size w (w.alloc o) := fun o => (Below.refl _ _).alloc (Nat.le_refl _) o
  have hch := fun o => rcount_any va vr m (w.alloc o) (hV.below (hA o))
  rw [if_pos h, h] at hch
  have hok := mcode_vars h
  have HOK : Hid (VarsOk m.vars) := hok
  have h6 := hok.1
  obtain ⟨ao, cap, rfl⟩ := hV.1.shape
  obtain ⟨ro, rc, rfl⟩ := hV.2.shape
  have hbv := (fun w1 (hb : Below w.heap.size w w1) a (ha : a ≤ m.vars.length) => behindVar_any (.slice ao m.vars.length cap) ro m.rules.length rc m.vars a w1 hok ha (hV.1.below hb))
  have HBV := (show Hid _ from hbv)
  have HV : Hid (VarsV w (.slice ao m.vars.length cap) m.vars) := hV.1
  have hN := hok.prod (j := m.vars.length) (Nat.le_refl _)
  have HS0 : Hid (segP m.vars 0 = prodTo m.vars m.vars.length) := segP_zero _
  obtain ⟨hc1, hc2⟩ := hc
  generalize prodTo m.vars m.vars.length = N at *
  obtain ⟨n, hn⟩ : ∃ n, n = m.vars.length := ⟨_, rfl⟩
  have HN : Hid (n = m.vars.length) := hn
  rw [← hn] at h6 hch HBV HV ⊢
  generalize m.rules.length = rn at *
  have hin := fun w => in_any code 0 (N - 1) w
  rw [decide_eq_true (show (0 ≤ code ∧ code ≤ N - 1) by omega)] at hin
  obtain ⟨i0, hi, hz0, hz1, hz2⟩ := info_parts infoInt
  have HL : Hid (valsL m.vars code = (List.range n).map (valAt m.vars code)) := by show _ = _; rw [HN.out]; rfl
  clear hV hn hok h hbv
  go_enter Tryd.func49, Tryd.ntmps49
  go_wp2_with (first | (go_at_call 13; refine (hch _).mono ?_; rintro e w1 ⟨rfl, hb1⟩) | (go_at_call 26; refine (hin _).mono ?_; rintro e w2 ⟨rfl, rfl⟩))
  have hb1' : Below (w.heap.size + 1) (w.alloc (.cells #[.slice ao n cap, .slice ro rn rc] 25)) w2 := hb1.mono (by simp)
  clear hch hin hb1
  go_loopw [1, 8, 9] (fun cd vv i wr => ∃ k : Nat, k ≤ n ∧ i = .int .i64 k ∧ cd = .int .i64 (code % segP m.vars k) ∧ Hid (wr.ownsRow (w.heap.size + 1) 3 1 vv k (ivals ((List.range k).map (valAt m.vars code)))) ∧ Below (w.heap.size + 1) (w.alloc (.cells #[.slice ao n cap, .slice ro rn rc] 25)) wr) (fun _ _ i _ => n - (intOf i).toNat)
  case atStart => exact ⟨0, Nat.zero_le _, rfl, by rw [HS0.out, Int.emod_eq_of_lt hc1 hc2], World.ownsRow_nil _ _ _ _, hb1'⟩
  case round =>
    obtain ⟨k, hk, rfl, rfl, HOwn, hbelB⟩ := hrel
    clear hb1'
    have hbel := (hA _).trans (hbelB.mono (Nat.le_succ _))
    have hszb : w.heap.size + 1 ≤ wr.heap.size := by have := hbelB.size; simp at this; omega
    have hlb : w.heap.size < wr.heap.size := by omega
    have cb := (hbelB.cell (p := ⟨w.heap.size, 0, none⟩) (by simp)).trans (show _ = some (.slice ao n cap) by simp [go_sem])
    have cb1 := (hbelB.cell (p := ⟨w.heap.size, 1, none⟩) (by simp)).trans (show _ = some (.slice ro rn rc) by simp [go_sem])
    by_cases hlt : k < n
    · obtain ⟨b, off, rfl, hblt, hat⟩ := HV.out.at (i := k) (by rw [← HN.out]; exact hlt)
      obtain ⟨c0, c1, c2, c3⟩ := hat.below hbel hblt
      have hvb := HOK.out.at (j := k) (by rw [← HN.out]; exact hlt)
      have hsg := segP_bounds HOK.out (i := k + 1) (by rw [← HN.out]; exact hlt)
      have hsg0 := segP_bounds HOK.out (i := k) (by rw [← HN.out]; exact hk)
      have HQ : Hid ((code % segP m.vars k) % segP m.vars (k + 1) = code % segP m.vars (k + 1)) := mod_step code (by rw [← HN.out]; exact hlt)
      have HVa : Hid ((m.vars.getD k vr0).lo + (code % segP m.vars k) / segP m.vars (k + 1) = valAt m.vars code k) := valAt_ref HOK.out code (by rw [← HN.out]; exact hlt)
      have HSn := (show Hid _ from ivals_snoc (valAt m.vars code) k)
      have hcd0 := Int.emod_nonneg code (show segP m.vars k ≠ 0 by omega)
      have hcd1 := Int.emod_lt_of_pos code (show 0 < segP m.vars k by omega)
      have hbvk := HBV.out wr hbel (k + 1) (by omega)
      rw [show ((k + 1 : Nat) : Int) - 1 = (k : Int) by omega] at hbvk
      generalize hcd : code % segP m.vars k = cd at *
      generalize segP m.vars k = sg0 at *
      obtain ⟨sg, hsge⟩ : ∃ sg, segP m.vars (k + 1) = sg := ⟨_, rfl⟩
      have HSG : Hid (segP m.vars (k + 1) = sg) := hsge
      rw [hsge] at hsg hbvk HQ HVa
      generalize m.vars.getD k vr0 = x at *
      obtain ⟨s, lo, hi', ini⟩ := x
      simp only [vspan] at c0 c1 c2 c3 HVa hvb
      obtain ⟨hv1, hv2, hv3, hv4, hv5, hv6, hv7⟩ := hvb
      clear hat hsge hcd
      have hi0 : (0 : Int) ≤ (k : Int) := Int.natCast_nonneg _
      have hi1 : (k : Int) < (n : Int) := by omega
      have hsz0 : ¬ sg = 0 := by omega
      have hsz1 : (sg == 0) = false := by rw [beq_eq_false_iff_ne]; omega
      have ht : cd.tmod sg = cd % sg := Int.tmod_eq_emod_of_nonneg hcd0
      have htd : cd.tdiv sg = cd / sg := Int.tdiv_eq_ediv_of_nonneg hcd0
      have hd0 := Int.ediv_nonneg hcd0 (show 0 ≤ sg by omega)
      have hd1 := Int.ediv_le_self sg hcd0
      have hw0 : IntKind.i64.wrap (cd / sg) = cd / sg := wr64 (by omega) (by omega)
      have hw1 : IntKind.i64.wrap (lo + cd / sg) = lo + cd / sg := wr64 (by omega) (by omega)
      have hbo : b < wr.heap.size := by omega
      have hown := HOwn.out
      go_wp2_with (go_at_call 25; refine hbvk.mono ?_; rintro e w3 ⟨rfl, hb3⟩)
      have hown3 : ∀ o, (w3.alloc o).ownsRow (w.heap.size + 1) 3 1 _ k _ := fun o => (owns_later hown hb3 (Nat.le_refl _)).alloc o
      have hnb := hown.lt
      generalize hxs : ivals ((List.range k).map (valAt m.vars code)) = xs at *
      have HXS : Hid (ivals ((List.range k).map (valAt m.vars code)) = xs) := hxs
      have hs3 : w.heap.size < w3.heap.size := Nat.lt_of_lt_of_le hlb hb3.size
      have hS0 : ∀ w', Below wr.heap.size wr w' → w'.cell? ⟨w.heap.size, 0, none⟩ = some (.slice (some ⟨b, off, none⟩) n cap) ∧ w'.cell? ⟨b, off + k * 4 + 1, none⟩ = some (.int .i64 lo) := fun w' hw' =>
        ⟨(hw'.cell (p := ⟨w.heap.size, 0, none⟩) hlb).trans cb, (hw'.cell (p := ⟨b, off + k * 4 + 1, none⟩) hbo).trans c1⟩
      have hSA : ∀ o, (w3.alloc o).cell? ⟨w.heap.size, 0, none⟩ = some (.slice (some ⟨b, off, none⟩) n cap) ∧ (w3.alloc o).cell? ⟨b, off + k * 4 + 1, none⟩ = some (.int .i64 lo) := fun o => hS0 _ (hb3.alloc hb3.size o)
      have hkb : (k + 1) * 8 ≤ 140737488355328 := by omega
      have h63 : k + 1 ≤ maxLen := by unfold maxLen; omega
      have hbase : ∀ o, w.heap.size + 1 ≤ (w3.alloc o).heap.size := fun o => by simp; omega
      clear hxs hown hbvk HOwn cb cb1 c0 c1 c2 c3
      go_region_held3 (fun w' => w'.cell? ⟨w.heap.size, 0, none⟩ = some (.slice (some ⟨b, off, none⟩) n cap) ∧ w'.cell? ⟨b, off + k * 4 + 1, none⟩ = some (.int .i64 lo))
        (first | exact hS0 _ hb3 | exact hS0 _ hb3.drew | exact hSA _ | exact hk4)
        (first
          | (refine step_append_lies _ (by rfl) (.tmp 34) (.tmp 45) 26 (by rfl) (w.heap.size + 1) 3 i0 _ 1 8 Tryd.underlying26 hi hz0 hz1 hz2 (by rfl) (by decide) _ k xs (by rfl) (hown3 _) ⟨w3.heap.size, 0, none⟩ 1 1 [.int .i64 (lo + cd / sg)] (by rfl) (by rfl) (cell_one_new _ _ _) (by intro u hu; simp at hu; subst hu; rfl) (by decide) h63 hkb (hbase _) (w3.heap.size + 1) (by simp) ?_; intro g cp w4 ho4 hg4 hat4 hl4; have hk4 : w4.cell? ⟨w.heap.size, 0, none⟩ = some (.slice (some ⟨b, off, none⟩) n cap) ∧ w4.cell? ⟨b, off + k * 4 + 1, none⟩ = some (.int .i64 lo) := ⟨(hg4.cell_far ⟨w.heap.size, 0, none⟩ (by simp; omega) (fun he => by have := (hnb _ he.symm).1; simp only at this; omega)).trans (hSA _).1, (hg4.cell_far ⟨b, off + k * 4 + 1, none⟩ (by simp; omega) (fun he => by have := (hnb _ he.symm).1; simp only at this; omega)).trans (hSA _).2⟩))
      have hbk : Below (w.heap.size + 1) (w.alloc (.cells #[.slice (some ⟨b, off, none⟩) n cap, .slice ro rn rc] 25)) w4 := by
        have h3 := hbelB.trans (hb3.mono hszb)
        first
          | exact Below.grown (Below.alloc h3.drew (by simp; omega) _) hg4 (by simp; omega) (fun q hq => (hnb q hq).1)
          | exact Below.grown (Below.alloc h3 (by omega) _) hg4 (by simp; omega) (fun q hq => (hnb q hq).1)
      have HO4 : Hid (w4.ownsRow (w.heap.size + 1) 3 1 (.slice (some ⟨g, 0, none⟩) (k + 1) cp) (k + 1) (ivals ((List.range (k + 1)).map (valAt m.vars code)))) := by
        show World.ownsRow _ _ _ _ _ _ _
        rw [HSn.out, ← HVa.out]
        exact ho4
      clear ho4 hg4 hown3 hk4
      go_wp2_with fail
      go_roundw
      case rel => exact ⟨k + 1, hlt, by go_num, by rw [HSG.out, ← HQ.out], HO4, hbk⟩
      case measure => simp [intOf]; omega
    · have hkn : k = n := by omega
      subst hkn
      have hown := HOwn.out
      obtain ⟨vo, vc, rfl⟩ := owns_slice hown
      have hI : IntsV wr (.slice vo k vc) (valsL m.vars code) := by
        rw [HL.out]
        exact intsV_of_owns (by simpa using hown)
      have HI := (show Hid _ from hI)
      clear hI hown
      go_wp2
      go_ret2
      exact ⟨_, rfl, hbel, HI.out⟩
/-- THE CONTRACT OF ValuesOf. -/
theorem rvalues_any (va vr : Value) (m : Mo) (code : Int) (w : World) (hV : ModelV w va vr m) :
    Calls Tryd.prog 49 #[.agg #[va, vr], .int .i64 code] w fun e w' => ∃ v, e = .returned (.tuple #[v, .int .i64 (wcode m code)]) ∧ Below w.heap.size w w' ∧ IntsV w' v (wvals m code) := by
  by_cases h : mcode m = 0
  · by_cases hc : 0 ≤ code ∧ code < prodTo m.vars m.vars.length
    · have h0 := wcode_yes h hc
      unfold wvals
      rw [h0, if_pos rfl]
      exact rvalues_loop va vr m code w hV h hc
    · have h0 := wcode_no h hc
      unfold wvals
      rw [h0, if_neg (by decide)]
      exact (rvalues_no va vr m code w hV h hc).mono fun e w' ⟨he, hb⟩ => ⟨_, he, hb, none, 0, rfl, fun h => absurd rfl h⟩
  · have h0 := wcode_bad (code := code) h
    unfold wvals
    rw [h0, if_neg h]
    exact (rvalues_bad va vr m code w hV h).mono fun e w' ⟨he, hb⟩ => ⟨_, he, hb, none, 0, rfl, fun h => absurd rfl h⟩
end Go.Proofs.YtbcjhkhndahdhaaDoor
