/-
  The keeping laws' own has; what the program answers of a model that they make, its rules at hand.
-/
import Derived.Test.YtckkcpdmfgceoaaDoorKeepNext
namespace Go.Proofs.YtckkcpdmfgceoaaDoor
open Go.ChangeShapes Go.WideShapes Go.ChangeAt Go.RowKit Go.Deep
open Terms Tm

set_option maxRecDepth 20000 in
theorem mem_take_succ {l : List Int} {k : Nat} (hk : k < l.length) (x : Int) : x ∈ l.take (k + 1) ↔ x ∈ l.take k ∨ x = l.getD k 0 := by
  rw [List.take_succ_eq_append_getElem hk, show l[k] = l.getD k 0 by simp [List.getD_eq_getElem?_getD, hk]]
  simp
set_option maxRecDepth 20000 in
set_option maxHeartbeats 1600000 in
/-- THE CONTRACT OF has. -/
theorem has_any (v : Value) (l : List Int) (x : Int) (w : World) (hl : l.length ≤ 1000) (hI : IntsV w v l) :
    Calls Tryd.prog 14 #[v, .int .i64 x] w fun e w' => e = .returned (.bool (decide (x ∈ l))) ∧ Below w.heap.size w w' := by
  obtain ⟨vo, vc, rfl⟩ := hI.shape
  obtain ⟨n, hn⟩ : ∃ n, n = l.length := ⟨_, rfl⟩
  have HN : Hid (n = l.length) := hn
  have HI : Hid (IntsV w (.slice vo n vc) l) := by rw [hn]; exact hI
  rw [← hn] at hl ⊢
  obtain ⟨res, hres⟩ : ∃ res, decide (x ∈ l) = res := ⟨_, rfl⟩
  have HRes : Hid (decide (x ∈ l) = res) := hres
  rw [hres]
  clear hI hn hres
  go_enter Tryd.func14, Tryd.ntmps14
  go_wp2_with fail
  go_loopw [5] (fun i wr => ∃ k : Nat, k ≤ n ∧ i = .int .i64 k ∧ Hid (¬ x ∈ l.take k) ∧ wr = w) (fun i _ => n - (intOf i).toNat)
  case atStart => exact ⟨0, Nat.zero_le _, rfl, (show ¬ x ∈ l.take 0 by simp), rfl⟩
  case round =>
    obtain ⟨k, hk, rfl, HNo, rfl⟩ := hrel
    by_cases hlt : k < n
    · obtain ⟨b, off, rfl, hb, hc⟩ := HI.out.at (i := k) (by rw [← HN.out]; exact hlt)
      have hk' : k < l.length := by rw [← HN.out]; exact hlt
      by_cases hx : l.getD k 0 = x
      · have hr : res = true := by
          rw [← HRes.out]
          refine decide_eq_true ?_
          rw [← hx, show l.getD k 0 = l[k] by simp [List.getD_eq_getElem?_getD, hk']]
          exact List.getElem_mem hk'
        rw [hx] at hc
        subst hr
        clear hx hk'
        go_wp2_with fail
        go_ret
        exact ⟨rfl, Below.refl _ _⟩
      · have HNo2 : Hid (¬ x ∈ l.take (k + 1)) := by
          show ¬ _
          rw [mem_take_succ hk']
          rintro (h | h)
          · exact HNo.out h
          · exact hx h.symm
        generalize l.getD k 0 = y at hc hx
        clear hk' HNo
        go_wp2_with fail
        go_roundw
        case rel => exact ⟨k + 1, hlt, by go_num, HNo2.out, by first | rfl | trivial⟩
        case measure => simp [intOf]; omega
    · have hkn : k = n := by omega
      subst hkn
      have hr : res = false := by
        rw [← HRes.out]
        refine decide_eq_false ?_
        have := HNo.out
        rwa [List.take_of_length_le (by rw [← HN.out]; omega)] at this
      subst hr
      go_wp2_with fail
      go_ret
      exact ⟨rfl, Below.refl _ _⟩
end Go.Proofs.YtckkcpdmfgceoaaDoor
