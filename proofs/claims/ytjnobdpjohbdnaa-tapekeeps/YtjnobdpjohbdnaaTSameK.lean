/-
  The keeping laws' own sameInts and sameLists.
-/
import Derived.Test.YtjnobdpjohbdnaaTRep
namespace Go.Proofs.Ytjnobdpjohbdnaa
open Go.ChangeShapes Go.WideShapes Go.ChangeAt Go.RowKit Go.Deep

set_option maxHeartbeats 1600000 in
set_option maxRecDepth 20000 in
theorem sameIntsK_true (va vb : Value) (l : List Int) (w : World) (hl : l.length ≤ 140737488355328) (hA : IntsV w va l) (hB : IntsV w vb l) :
    Calls Try.prog 20 #[va, vb] w fun e w' => e = .returned (.bool true) ∧ ∃ n, w' = w.drewN n := by
  obtain ⟨ao, ca, rfl, ha⟩ := hA
  obtain ⟨bo, cb, rfl, hb⟩ := hB
  obtain ⟨n, hn⟩ : ∃ n, l.length = n := ⟨_, rfl⟩
  rw [hn] at hl ⊢
  have HA : Hid (l ≠ [] → ∃ b off, ao = some ⟨b, off, none⟩ ∧ b < w.heap.size ∧ IntsAt w b off l) := ha
  have HB : Hid (l ≠ [] → ∃ b off, bo = some ⟨b, off, none⟩ ∧ b < w.heap.size ∧ IntsAt w b off l) := hb
  have HN : Hid (l.length = n) := hn
  clear ha hb hn
  go_enter Try.func20, Try.ntmps20
  go_wp2
  go_loopw [5] (fun i wr => ∃ k : Nat, k ≤ n ∧ i = .int .i64 k ∧ ∃ q, wr = w.drewN q) (fun i _ => n - (intOf i).toNat)
  case atStart => exact ⟨0, Nat.zero_le _, rfl, 0, rfl⟩
  case round =>
    obtain ⟨k, hk, rfl, q, rfl⟩ := hrel
    by_cases hlt : k < n
    · have hne : l ≠ [] := by intro h; subst h; have := HN.out; simp at this; omega
      obtain ⟨b, off, rfl, _, hca⟩ := HA.out hne
      obtain ⟨b', off', rfl, _, hcb⟩ := HB.out hne
      have c1 := hca k (by rw [HN.out]; exact hlt)
      have c2 := hcb k (by rw [HN.out]; exact hlt)
      generalize l.getD k 0 = x at c1 c2
      clear hca hcb hne
      go_wp2_with fail
      go_quiet (fail)
      go_wp2_with fail
      go_roundw
      case rel => exact ⟨k + 1, by omega, by go_num, _, rfl⟩
      case measure => simp [intOf]; omega
    · go_wp2_with fail
      go_ret
      exact ⟨rfl, q, rfl⟩

set_option maxHeartbeats 1600000 in
set_option maxRecDepth 20000 in
theorem sameListsK_true (ao bo : Option Addr) (ac bc : Nat) (rs : List (List Int)) (w : World) (hl : rs.length ≤ 1048576) (hz : ∀ i, i < rs.length → (rs.getD i []).length ≤ 140737488355328) (hA : LisV w (.slice ao rs.length ac) rs) (hB : LisV w (.slice bo rs.length bc) rs) :
    Calls Try.prog 14 #[.slice ao rs.length ac, .slice bo rs.length bc] w fun e w' => e = .returned (.bool true) ∧ Below w.heap.size w w' := by
  obtain ⟨n, hn⟩ : ∃ n, rs.length = n := ⟨_, rfl⟩
  have HA : Hid (∀ w1, Below w.heap.size w w1 → LisV w1 (.slice ao rs.length ac) rs) := fun w1 hb => hA.below hb
  have HB : Hid (∀ w1, Below w.heap.size w w1 → LisV w1 (.slice bo rs.length bc) rs) := fun w1 hb => hB.below hb
  have HZ : Hid (∀ i, i < rs.length → (rs.getD i []).length ≤ 140737488355328) := hz
  have HN : Hid (rs.length = n) := hn
  rw [hn] at hl HA HB ⊢
  clear hA hB hz hn
  go_enter Try.func14, Try.ntmps14
  go_wp2
  go_loopw [5] (fun i wr => ∃ k : Nat, k ≤ n ∧ i = .int .i64 k ∧ Below w.heap.size w wr) (fun i _ => n - (intOf i).toNat)
  case atStart => exact ⟨0, Nat.zero_le _, rfl, Below.refl _ _⟩
  case round =>
    obtain ⟨k, hk, rfl, hBr⟩ := hrel
    by_cases hlt : k < n
    · have hlt2 : k < rs.length := by rw [HN.out]; exact hlt
      obtain ⟨b, off, rfl, _, u, c1, hu⟩ := (HA.out wr hBr).at hlt2
      obtain ⟨b', off', rfl, _, u', c2, hu'⟩ := (HB.out wr hBr).at hlt2
      obtain ⟨xo, xc, rfl⟩ : ∃ xo xc, u = .slice xo (rs.getD k []).length xc := by obtain ⟨a, c, h, _⟩ := id hu; exact ⟨a, c, h⟩
      obtain ⟨yo, yc, rfl⟩ : ∃ yo yc, u' = .slice yo (rs.getD k []).length yc := by obtain ⟨a, c, h, _⟩ := id hu'; exact ⟨a, c, h⟩
      have hsi := sameIntsK_true _ _ (rs.getD k []) wr.drew (HZ.out k hlt2) (hu.below (Below.refl _ _).drew) (hu'.below (Below.refl _ _).drew)
      generalize (rs.getD k []).length = ln at *
      clear hu hu'
      go_wp2_with fail
      go_region_held3 (fun w' => w'.cell? ⟨b, off + k, none⟩ = some (.slice xo ln xc) ∧ w'.cell? ⟨b', off' + k, none⟩ = some (.slice yo ln yc)) (first | exact ⟨c1, c2⟩ | exact ⟨by simp [go_sem, c1], by simp [go_sem, c2]⟩)
        (first | (go_at_call 20; refine hsi.mono ?_; rintro e w2 ⟨rfl, q2, rfl⟩))
      go_wp2_with fail
      go_roundw
      case rel => exact ⟨k + 1, by omega, by go_num, below_drewN hBr _⟩
      case measure => simp [intOf]; omega
    · go_wp2_with fail
      go_ret
      exact ⟨rfl, hBr⟩
end Go.Proofs.Ytjnobdpjohbdnaa
