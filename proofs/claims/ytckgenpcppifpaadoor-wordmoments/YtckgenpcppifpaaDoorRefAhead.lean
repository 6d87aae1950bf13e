/-
  The contract of the document's own AheadOf.
-/
import Derived.Test.YtckgenpcppifpaaDoorRefLook
import Derived.Test.YtckgenpcppifpaaDoorLogicRead
namespace Go.Proofs.YtckgenpcppifpaaDoor
open Go.ChangeShapes Go.WideShapes Go.ChangeAt Go.RowKit Go.Deep
open Terms

theorem refl_post {α : Prop} (h : α) : α := h

set_option maxHeartbeats 800000 in
set_option maxRecDepth 20000 in
/-- THE CONTRACT OF the document's AheadOf. -/
theorem aheadOf_any (v : Value) (l : List (Int × Int)) (props : Int) (w : World) (hV : OpsV w v l) :
    Calls Tryd.prog 47 #[v, .int .i64 props] w fun e w' => ∃ av, e = .returned (.tuple #[av, .int .i64 (lcode props l)]) ∧ Below w.heap.size w w' ∧ w'.ownsRow w.heap.size 3 1 av (ahL props l).length (ivals (ahL props l)) := by
  have hff := fault_any v l props w hV
  by_cases hz : lcode props l = 0
  · obtain ⟨_, _, hz0', _, _⟩ := lcode_zero hz
    obtain ⟨hne, h60⟩ := ends_ne hz0'
    rw [List.length_map] at h60
    obtain ⟨ao, cap, rfl, h0, h⟩ := hV
    obtain ⟨b, off, rfl, hblt, hat⟩ := h (by rintro rfl; exact hne rfl)
    rw [hz] at hff
    have HLd : Hid (ahL props l = aheadTo l l.length) := by show _ = _; unfold ahL aheadL; rw [if_pos hz]
    have HA : Hid (OpsAt w b off l) := hat
    rw [hz]
    obtain ⟨n, hn⟩ : ∃ n, n = l.length := ⟨_, rfl⟩
    have HN : Hid (n = l.length) := hn
    rw [← hn] at h60 HLd hff ⊢
    obtain ⟨i0, hi, hz0, hz1, hz2⟩ := info_parts infoInt
    clear h0 h hat hne hz hn hz0'
    go_enter Tryd.func47, Tryd.ntmps47
    go_wp2_with (go_at_call 38; refine hff.mono ?_; rintro e w1 ⟨rfl, hb1⟩)
    have hs1 := hb1.size
    clear hff
    go_loopw [7, 8] (fun out i wr => ∃ k : Nat, k ≤ n ∧ i = .int .i64 k ∧ Hid (wr.ownsRow w1.heap.size 3 1 out (aheadTo l k).length (ivals (aheadTo l k))) ∧ Below w1.heap.size w1 wr) (fun _ i _ => n - (intOf i).toNat)
    case atStart => exact ⟨0, Nat.zero_le _, rfl, World.ownsRow_nil _ _ _ _, Below.refl _ _⟩
    case round =>
      obtain ⟨k, hk, rfl, HOw, hbel⟩ := hrel
      have hbw := hb1.trans (hbel.mono hb1.size)
      have hlen := aheadTo_length l k
      have hown := HOw.out
      obtain ⟨aao, aac, rfl⟩ := owns_slice hown
      by_cases hlt : k < n
      · obtain ⟨c0, c1⟩ := (HA.out.below hbw hblt) k (by rw [← HN.out]; exact hlt)
        have HY : Hid (lookB (l.getD k (0, 0)).1 = true → aheadTo l (k + 1) = aheadTo l k ++ [(k : Int)]) := aheadTo_yes
        have HNo : Hid (lookB (l.getD k (0, 0)).1 = false → aheadTo l (k + 1) = aheadTo l k) := aheadTo_no
        generalize l.getD k (0, 0) = xy at c0 c1 HY HNo
        obtain ⟨x, y⟩ := xy
        simp only at c0 c1 HY HNo
        have hlk := fun w => rlook_any x w
        obtain ⟨L, hL⟩ : ∃ L, L = (aheadTo l k).length := ⟨_, rfl⟩
        have HL : Hid (L = (aheadTo l k).length) := hL
        rw [← hL] at hlen hown ⊢
        clear hL HA HOw
        cases hb : lookB x with
        | true =>
          have HAh := (show Hid _ from HY.out hb)
          rw [hb] at hlk
          have h63 : L + 1 ≤ maxLen := by unfold maxLen; omega
          have hkb : (L + 1) * 8 ≤ 140737488355328 := by omega
          have hbase : ∀ o, w1.heap.size ≤ (wr.alloc o).heap.size := fun o => by have := hbel.size; simp; omega
          clear HY HNo hb
          go_wp2_with (first | (go_at_call 25; refine (hlk _).mono ?_; rintro e w3 ⟨rfl, rfl⟩) | (at_builtin; refine wpList_append_own _ rfl _ _ 37 rfl w1.heap.size 3 i0 (.int .i64 0) 1 8 Tryd.underlying37 hi hz0 hz1 hz2 rfl (by decide) _ _ _ rfl (hown.alloc _) ⟨_, 0, none⟩ 1 1 _ rfl rfl (cell_one_new _ _ _) (by intro u hu; simp at hu; subst hu; rfl) h63 hkb (hbase _) ?_; intro v5 w5 hown5 hgrow5 _; obtain ⟨g5, cp5, rfl⟩ := owns_more hown5))
          have hb5 : Below w1.heap.size w1 w5 := (hbel.alloc hbel.size _).grown hgrow5 (hbase _) (owns_block hown)
          refine ⟨⟨k + 1, hlt, by first | rfl | simp, ?_, hb5⟩, by simp [intOf]; omega⟩
          show World.ownsRow _ _ _ _ _ _ _
          rw [HAh.out, List.length_append, ← HL.out]
          rw [show ivals (aheadTo l k ++ [(k : Int)]) = ivals (aheadTo l k) ++ [.int .i64 (k : Int)] by simp [ivals]]
          exact hown5
        | false =>
          have HAh := (show Hid _ from HNo.out hb)
          rw [hb] at hlk
          clear HY HNo hb
          have HO2 : Hid (wr.ownsRow w1.heap.size 3 1 (.slice aao L aac) L (ivals (aheadTo l k))) := hown
          go_wp2_with (go_at_call 25; refine (hlk _).mono ?_; rintro e w3 ⟨rfl, rfl⟩)
          refine ⟨⟨k + 1, hlt, by first | rfl | simp, ?_, hbel⟩, by simp [intOf]; omega⟩
          show World.ownsRow _ _ _ _ _ _ _
          rw [HAh.out, ← HL.out]
          exact HO2.out
      · have hkn : k = n := by omega
        subst hkn
        obtain ⟨L, hL⟩ : ∃ L, L = (aheadTo l k).length := ⟨_, rfl⟩
        have HL : Hid (L = (aheadTo l k).length) := hL
        rw [← hL] at hlen hown ⊢
        clear hL HA HOw
        have HO2 : Hid (wr.ownsRow w1.heap.size 3 1 (.slice aao L aac) L (ivals (aheadTo l k))) := hown
        clear hown
        go_wp2_with fail
        go_ret2
        refine ⟨_, rfl, hbw, ?_⟩
        rw [HLd.out, ← HL.out]
        exact owns_mono HO2.out hs1
  · obtain ⟨ao, cap, rfl, _⟩ := hV
    have HLd : Hid (ahL props l = []) := by show _ = _; unfold ahL; rw [if_neg hz]
    generalize lcode props l = x at *
    go_enter Tryd.func47, Tryd.ntmps47
    go_wp2_with (go_at_call 38; refine hff.mono ?_; rintro e w1 ⟨rfl, hb1⟩)
    go_ret2
    exact ⟨_, rfl, hb1, by rw [HLd.out]; exact World.ownsRow_nil _ _ _ _⟩
end Go.Proofs.YtckgenpcppifpaaDoor
