/-
  The library's Sort of numbers that lie in a row of one's own; risen.
-/
import Derived.Test.YtncfkpfbjenpjaaShelfSort
import Derived.Test.YtncfkpfbjenpjaaUConc
import Derived.Sort.OwnSortedInts
import Derived.Lib.OwnBridge
import Derived.Lib.RowBridge
namespace Go.Proofs.Ytncfkpfbjenpjaa
open Go.RowKit Go.Sort

/-- slices.Sort. -/
theorem sort_own (g cap base : Nat) (zs : List Int) (w : World) (hz : zs.length ≤ 100000) (ho : w.ownsRow base 3 1 (.slice (some ⟨g, 0, none⟩) zs.length cap) zs.length (ivals zs)) :
    Calls Try.prog 32 #[.slice (some ⟨g, 0, none⟩) zs.length cap] w fun e w' => e = .returned (.tuple #[]) ∧ w.grownBy w' (some g) ∧ w'.ownsRow base 3 1 (.slice (some ⟨g, 0, none⟩) zs.length cap) zs.length (ivals (up zs)) := by
  have ho' : w.ownsRow base 3 1 (.slice (some ⟨g, 0, none⟩) zs.length cap) zs.length (zs.map (Value.int .i64)) := ho
  obtain ⟨g', cap', hv, hbg, hlt, hn, hm, hl, hH⟩ := Lib.holds_of_ownsRow ho' (by simp)
  injection hv with h1 h2 h3
  injection h1 with h1
  injection h1 with h1
  subst h1 h3
  rcases ho.2 with ⟨e0, _⟩ | ⟨g2, cap2, cur, e0, hb, hg, hnc, hcm, hcs, ht⟩
  · cases e0
  · injection e0 with e1 _ e3
    injection e1 with e1
    injection e1 with e1
    subst e1 e3
    refine (slices_Sort_int g 0 cap zs w hH hlt (by omega)).mono fun e w' ⟨he, n, os, hw⟩ => ⟨he, ?_, ?_⟩
    · rw [hw]; exact grownBy_sortedI _
    · rw [hw]; exact ownsRow_sortedI (ts := zs.mergeSort leB) (by simp) hbg hg hnc hcm hcs
theorem sort_any (ao : Option Addr) (cap base : Nat) (zs : List Int) (w : World) (hz : zs.length ≤ 100000) (hB : Below base w w) (ho : w.ownsRow base 3 1 (.slice ao zs.length cap) zs.length (ivals zs)) :
    Calls Try.prog 32 #[.slice ao zs.length cap] w fun e w' => e = .returned (.tuple #[]) ∧ Below base w w' ∧ Hid (OwnI w' base (.slice ao zs.length cap) (up zs)) := by
  rcases id ho.2 with ⟨e0, h0⟩ | ⟨g2, cap2, cur, e0, hb, hg, _⟩
  · injection e0 with e1 e2 e3
    subst e1 e3
    have hz0 : zs = [] := by simpa using h0
    subst hz0
    refine (slices_Sort_int_none none 0 w).mono fun e w' ⟨h1, h2⟩ => ⟨h1, ?_, ?_⟩
    · rw [h2]; exact hB
    · show OwnI _ _ _ _
      rw [h2, show up [] = [] by simp [up]]; exact ho
  · injection e0 with e1 e2 e3
    subst e1 e3
    have hlt := (Array.getElem?_eq_some_iff.1 hg).1
    refine (sort_own g2 cap base zs w hz ho).mono fun e w' ⟨h1, h2, h3⟩ => ⟨h1, hB.grown h2 (by omega) (fun q hq => by simp at hq; omega), ?_⟩
    show OwnI _ _ _ _
    unfold OwnI
    rw [up_length]
    exact h3

set_option maxRecDepth 20000 in
/-- THE CONTRACT OF risen. -/
theorem risen_any (v : Value) (l : List Int) (w : World) (hl : l.length ≤ 100000) (hV : IntsV w v l) :
    Calls Try.prog 23 #[v] w fun e w' => ∃ ao cap, e = .returned (.slice ao l.length cap) ∧ Below w.heap.size w w' ∧ Hid (OwnI w' w.heap.size (.slice ao l.length cap) (up l)) := by
  have hc := copied_any v l w (by omega) hV
  obtain ⟨ao, cap, rfl⟩ := hV.shape
  have HS : Hid (∀ (ao : Option Addr) (cap : Nat) (w1 : World), Below w.heap.size w w1 → w1.ownsRow w.heap.size 3 1 (.slice ao l.length cap) l.length (ivals l) → Calls Try.prog 32 #[.slice ao l.length cap] w1 fun e w' => e = .returned (.tuple #[]) ∧ Below w.heap.size w1 w' ∧ Hid (OwnI w' w.heap.size (.slice ao l.length cap) (up l))) := fun ao cap w1 hb ho => sort_any ao cap w.heap.size l w1 hl (Below.refl _ _) ho
  generalize l.length = n at *
  clear hV
  go_enter Try.func23, Try.ntmps23
  go_wp2_with (first | (go_at_call 19; refine hc.mono ?_; rintro e w1 ⟨a1, c1, rfl, hb1, ho1⟩; have hs := HS.out a1 c1 w1 hb1 ho1.out) | (go_at_call 32; refine hs.mono ?_; rintro e w2 ⟨rfl, hb2, ho2⟩))
  go_ret
  exact ⟨a1, c1, rfl, hb1.trans hb2, ho2⟩
end Go.Proofs.Ytncfkpfbjenpjaa
