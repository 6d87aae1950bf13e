/-
  The contract of the document's own FirstCode.
-/
import Derived.Test.YtbcjhkhndahdhaaDoorRefCode
namespace Go.Proofs.YtbcjhkhndahdhaaDoor
open Go.ChangeShapes Go.WideShapes Go.ChangeAt Go.RowKit Go.Deep
open Terms Tm

theorem ivals_inits {l : List Vr} {k : Nat} (h : k < l.length) : ivals (initsL (l.take (k + 1))) = ivals (initsL (l.take k)) ++ [.int .i64 (l.getD k vr0).ini] := by
  rw [List.take_succ_eq_append_getElem h, List.getD_eq_getElem?_getD, List.getElem?_eq_getElem h]
  simp only [ivals, initsL, List.map_append, List.map_cons, List.map_nil, Option.getD_some]

set_option maxHeartbeats 1600000 in
/-- THE CONTRACT OF FirstCode. -/
theorem rfirst_any (va vr : Value) (m : Mo) (w : World) (hz : m.vars.length * 40 ≤ 140737488355328) (hV : ModelV w va vr m) :
    Calls Tryd.prog 12 #[.agg #[va, vr]] w fun e w' => e = .returned (.tuple #[.int .i64 (if mcode m = 0 then codeTo m.vars (initsL m.vars) m.vars.length else 0), .int .i64 (mcode m)]) ∧ Below w.heap.size w w' := by
  have hres : ccode m (initsL m.vars) = mcode m ∧ cval m (initsL m.vars) = if mcode m = 0 then codeTo m.vars (initsL m.vars) m.vars.length else 0 := by
    by_cases h : mcode m = 0
    · have h1 := ccode_yes h (vals := initsL m.vars) ⟨by simp [initsL], inits_in (mcode_vars h)⟩
      refine ⟨by rw [h1, h], ?_⟩
      unfold cval
      rw [h1, if_pos rfl, if_pos h]
    · have h1 := ccode_bad (vals := initsL m.vars) h
      refine ⟨h1, ?_⟩
      unfold cval
      rw [h1, if_neg h]
  have hcf := (fun vv w1 (hb : Below w.heap.size w w1) (hI : IntsV w1 vv (initsL m.vars)) => rcodes_any va vr vv m (initsL m.vars) w1 (hV.below hb) hI)
  rw [hres.1, hres.2] at hcf
  have HCF := (show Hid _ from hcf)
  have HV : Hid (VarsV w va m.vars) := hV.1
  obtain ⟨ao, cap, rfl⟩ := hV.1.shape
  obtain ⟨ro, rc, rfl⟩ := hV.2.shape
  generalize (if mcode m = 0 then codeTo m.vars (initsL m.vars) m.vars.length else 0) = res at *
  generalize mcode m = x at *
  obtain ⟨n, hn⟩ : ∃ n, n = m.vars.length := ⟨_, rfl⟩
  have HN : Hid (n = m.vars.length) := hn
  rw [← hn] at hz HCF HV ⊢
  generalize m.rules.length = rn at *
  obtain ⟨i0, hi, hz0, hz1, hz2⟩ := info_parts infoInt
  clear hV hn hcf hres
  have hA : Below w.heap.size w (w.alloc (.cells #[.slice ao n cap, .slice ro rn rc] 25)) := (Below.refl _ _).alloc (Nat.le_refl _) _
  go_enter Tryd.func12, Tryd.ntmps12
  go_wp2
  go_loopw [4, 5] (fun vv i wr => ∃ k : Nat, k ≤ n ∧ i = .int .i64 k ∧ Hid (wr.ownsRow (w.heap.size + 1) 3 1 vv k (ivals (initsL (m.vars.take k)))) ∧ Below (w.heap.size + 1) (w.alloc (.cells #[.slice ao n cap, .slice ro rn rc] 25)) wr) (fun _ i _ => n - (intOf i).toNat)
  case atStart => exact ⟨0, Nat.zero_le _, rfl, World.ownsRow_nil _ _ _ _, Below.refl _ _⟩
  case round =>
    obtain ⟨k, hk, rfl, HOwn, hbelB⟩ := hrel
    have hbel := hA.trans (hbelB.mono (Nat.le_succ _))
    have hszb : w.heap.size + 1 ≤ wr.heap.size := by have := hbelB.size; simp at this; omega
    have hlb : w.heap.size < wr.heap.size := by omega
    have cb := (hbelB.cell (p := ⟨w.heap.size, 0, none⟩) (by simp)).trans (show _ = some (.slice ao n cap) by simp [go_sem])
    have cb1 := (hbelB.cell (p := ⟨w.heap.size, 1, none⟩) (by simp)).trans (show _ = some (.slice ro rn rc) by simp [go_sem])
    by_cases hlt : k < n
    · obtain ⟨b, off, rfl, hblt, hat⟩ := HV.out.at (i := k) (by rw [← HN.out]; exact hlt)
      obtain ⟨c0, c1, c2, c3⟩ := hat.below hbel hblt
      have HSn := (show Hid _ from ivals_inits (l := m.vars) (k := k) (by rw [← HN.out]; exact hlt))
      generalize m.vars.getD k vr0 = x at *
      obtain ⟨s, lo, hi', ini⟩ := x
      simp only at c0 c1 c2 c3 HSn
      have hown := HOwn.out
      have hnb := hown.lt
      have hown2 := fun o => hown.alloc o
      have h63 : k + 1 ≤ maxLen := by unfold maxLen; omega
      have hkb : (k + 1) * 8 ≤ 140737488355328 := by omega
      have hbase : ∀ o, w.heap.size + 1 ≤ (wr.alloc o).heap.size := fun o => by simp; omega
      clear hat hown
      go_wp2_with (at_builtin; refine wpList_append_own _ rfl (.tmp 15) (.tmp 22) 26 rfl (w.heap.size + 1) 3 i0 (.int .i64 0) 1 8 Tryd.underlying26 hi hz0 hz1 hz2 rfl (by decide) _ k _ rfl (hown2 _) ⟨wr.heap.size, 0, none⟩ 1 1 [.int .i64 ini] rfl rfl (cell_one_new _ _ _) (by intro u hu; simp at hu; subst hu; rfl) h63 hkb (hbase _) ?_)
      intro v' w4 hown' hgrow _
      have hb4 : Below (w.heap.size + 1) (w.alloc (.cells #[.slice (some ⟨b, off, none⟩) n cap, .slice ro rn rc] 25)) w4 := (hbelB.alloc hszb _).grown hgrow (by simp; omega) (fun q hq => (hnb q hq).1)
      have HO4 : Hid (w4.ownsRow (w.heap.size + 1) 3 1 v' (k + 1) (ivals (initsL (m.vars.take (k + 1))))) := by
        show World.ownsRow _ _ _ _ _ _ _
        rw [HSn.out]
        exact hown'
      clear hown' hgrow hown2
      go_wp2
      go_roundw
      case rel => exact ⟨k + 1, hlt, by go_num, HO4, hb4⟩
      case measure => simp [intOf]; omega
    · have hkn : k = n := by omega
      subst hkn
      have hown := HOwn.out
      obtain ⟨vo, vc, rfl⟩ := owns_slice hown
      have hI : IntsV wr (.slice vo k vc) (initsL m.vars) := by
        rw [List.take_of_length_le (by rw [← HN.out]; omega)] at hown
        exact intsV_of_owns (by rw [show (initsL m.vars).length = k by simp [initsL, HN.out]]; exact hown)
      have hcf := HCF.out _ wr hbel hI
      clear hI hown HOwn HCF
      go_wp2_with (go_at_call 23; refine hcf.mono ?_; rintro e w2 ⟨rfl, hb2⟩)
      go_ret2
      exact ⟨rfl, hbel.trans (hb2.mono hbel.size)⟩
end Go.Proofs.YtbcjhkhndahdhaaDoor
