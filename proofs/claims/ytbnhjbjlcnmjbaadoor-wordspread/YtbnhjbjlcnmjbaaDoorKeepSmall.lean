/-
  The keeping laws' own small: a formula of at most seven ops, one of which may look ahead.
-/
import Derived.Test.YtbnhjbjlcnmjbaaDoorKeepHolds2
namespace Go.Proofs.YtbnhjbjlcnmjbaaDoor
open Go.ChangeShapes Go.WideShapes Go.ChangeAt Go.RowKit Go.Deep
open Terms

set_option maxHeartbeats 800000 in
set_option maxRecDepth 20000 in
/-- THE CONTRACT OF small. -/
theorem smallFn_any (rawv : Value) (rs : List (Int × Int)) (w : World) (hR : Raws w w.heap.size rawv rs) :
    Calls Tryd.prog 12 #[rawv] w fun e w' => ∃ a c t T m, e = .returned (.slice a t.length c) ∧ Below w.heap.size w w' ∧ Hid (KFor w' (.slice a t.length c) 1 t T m ∧ t.length ≤ 7) := by
  have hb0 := (Below.refl w.heap.size w).alloc (Nat.le_refl _) (.cells #[rawv, .int .i64 0, .int .i64 0, .int .i64 3, .int .i64 ((1 : Nat) : Int), .slice none 0 0] 50)
  have htr := formula_any w.heap.size rawv rs 0 3 (by omega) (by omega) 2 0 1 [] _ (by omega) (by omega) (by omega) rfl (hR.below hb0) (grownF_new w rawv 0 3 1)
  obtain ⟨ra, rn, rc, hra⟩ : ∃ a n c, rawv = .slice a n c := by obtain ⟨⟨a, c, h, _⟩, _, _⟩ := hR; exact ⟨_, _, _, h⟩
  subst hra
  clear hR
  go_enter Tryd.func12, Tryd.ntmps12
  go_wp2_with (go_at_call 14; refine htr.mono ?_; rintro e w1 ⟨t, m, rfl, ht, hm, hlen, h7, hg1, hb1⟩; obtain ⟨outv, hh, ho⟩ := hg1; obtain ⟨_, _, _, c5, _, hlt⟩ := gcells hh)
  go_ret
  rw [List.nil_append] at ho
  obtain ⟨a, c, rfl⟩ := owns_slice ho
  obtain ⟨T, hT⟩ := ht.ok
  have h7' : t.length ≤ 7 := by
    have : t.length + 1 ≤ 8 := h7
    omega
  exact ⟨a, c, t, T, m, rfl, hb0.trans hb1, ⟨opsV_of_owns ho, hT, by omega, ht.ne, hm⟩, h7'⟩
end Go.Proofs.YtbnhjbjlcnmjbaaDoor
