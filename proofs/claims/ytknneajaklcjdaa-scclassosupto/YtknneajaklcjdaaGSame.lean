/-
  The laws' own sameLists, sameSpots, sameGraph.
-/
import Derived.Test.YtknneajaklcjdaaGCopy
import Derived.Test.YtknneajaklcjdaaSameInts
namespace Go.Proofs.Ytknneajaklcjdaa
open Go.ChangeShapes Go.WideShapes Go.ChangeAt Go.RowKit Go.Deep
open Terms

set_option maxHeartbeats 800000 in
set_option maxRecDepth 20000 in
theorem sameLists_true (va vb : Value) (ts : List (List Int)) (w : World) (hz : LisSz ts) (hA : ListsV w va ts) (hB : ListsV w vb ts) :
    Calls Try.prog 23 #[va, vb] w fun e w' => e = .returned (.bool true) ∧ ∃ n, w' = w.drewN n := by
  obtain ⟨ao, ca, rfl⟩ := hA.shape
  obtain ⟨bo, cb, rfl⟩ := hB.shape
  have hl := hz.le
  obtain ⟨n, hn⟩ : ∃ n, ts.length = n := ⟨_, rfl⟩
  rw [hn] at hl hA hB ⊢
  have HA : Hid (ListsV w (.slice ao n ca) ts) := hA
  have HB : Hid (ListsV w (.slice bo n cb) ts) := hB
  have HN : Hid (ts.length = n) := hn
  have HS : Hid (LisSz ts) := hz
  clear hA hB hn hz
  have hnot : ∀ (x : Bool) (w : World), (Op.unary .not (.bool x)).run Try.prog w = .ok (.bool (!x)) w := fun _ _ => rfl
  go_enter Try.func23, Try.ntmps23
  go_wp2
  go_loopw [5] (fun i wr => ∃ k : Nat, k ≤ n ∧ i = .int .i64 k ∧ Hid (∃ q, wr = w.drewN q)) (fun i _ => n - (intOf i).toNat)
  case atStart => exact ⟨0, Nat.zero_le _, rfl, 0, rfl⟩
  case round =>
    obtain ⟨k, hk, rfl, HW⟩ := hrel
    by_cases hlt : k < n
    · have hbw : Below w.heap.size w wr := by obtain ⟨q, hq⟩ := HW.out; rw [hq]; exact below_drewN (Below.refl _ _) q
      obtain ⟨b, off, rfl, hbl, u, c1, o1⟩ := HA.out.at (i := k) (by rw [HN.out]; exact hlt)
      obtain ⟨b', off', rfl, hbl', u', c2, o2⟩ := HB.out.at (i := k) (by rw [HN.out]; exact hlt)
      have d1 := (hbw.cell (p := ⟨b, off + k, none⟩) hbl).trans c1
      have d2 := (hbw.cell (p := ⟨b', off' + k, none⟩) hbl').trans c2
      have h60 : (ts.getD k []).length ≤ 140737488355328 := by have := HS.out.2 k (by rw [HN.out]; exact hlt); omega
      have hso := fun q => sameInts_true u u' _ (wr.drewN q) h60 ((o1.below hbw).below (below_drewN (Below.refl _ _) q)) ((o2.below hbw).below (below_drewN (Below.refl _ _) q))
      obtain ⟨u1, u2, u3, hu⟩ : ∃ a b c, u = .slice a b c := by obtain ⟨a, c, rfl, _⟩ := o1; exact ⟨_, _, _, rfl⟩
      obtain ⟨u1', u2', u3', hu'⟩ : ∃ a b c, u' = .slice a b c := by obtain ⟨a, c, rfl, _⟩ := o2; exact ⟨_, _, _, rfl⟩
      subst hu hu'
      clear o1 o2 h60 c1 c2 hbw
      go_wp2_with fail
      go_quiet ((go_at_call 9; exact Calls.quiet_of (hso _)))
      go_wp2_with fail
      go_roundw
      case rel => exact ⟨k + 1, by omega, by go_num, by obtain ⟨q, hq⟩ := HW.out; exact ⟨_, by rw [hq, World.drewN_drewN]⟩⟩
      case measure => simp [intOf]; omega
    · go_wp2_with fail
      go_ret
      exact ⟨rfl, HW.out⟩
theorem sameLists_b (va vb : Value) (ts : List (List Int)) (w : World) (hz : LisSz ts) (hA : ListsV w va ts) (hB : ListsV w vb ts) :
    Calls Try.prog 23 #[va, vb] w fun e w' => e = .returned (.bool true) ∧ Below w.heap.size w w' :=
  (sameLists_true va vb ts w hz hA hB).mono fun _ _ ⟨he, _, hw⟩ => ⟨he, hw ▸ below_drewN (Below.refl _ _) _⟩

set_option maxHeartbeats 800000 in
theorem sameSpots_true (va vb : Value) (l : List (Int × Int)) (w : World) (hl : l.length ≤ 140737488355328) (hA : OpsV w va l) (hB : OpsV w vb l) :
    Calls Try.prog 22 #[va, vb] w fun e w' => e = .returned (.bool true) ∧ ∃ n, w' = w.drewN n := by
  obtain ⟨ao, ca, rfl, _, ha⟩ := hA
  obtain ⟨bo, cb, rfl, _, hb⟩ := hB
  obtain ⟨n, hn⟩ : ∃ n, l.length = n := ⟨_, rfl⟩
  rw [hn] at hl ⊢
  have HA : Hid (l ≠ [] → ∃ b off, ao = some ⟨b, off, none⟩ ∧ b < w.heap.size ∧ OpsAt w b off l) := ha
  have HB : Hid (l ≠ [] → ∃ b off, bo = some ⟨b, off, none⟩ ∧ b < w.heap.size ∧ OpsAt w b off l) := hb
  have HN : Hid (l.length = n) := hn
  clear ha hb hn
  go_enter Try.func22, Try.ntmps22
  go_wp2
  go_loopw [5] (fun i wr => ∃ k : Nat, k ≤ n ∧ i = .int .i64 k ∧ ∃ q, wr = w.drewN q) (fun i _ => n - (intOf i).toNat)
  case atStart => exact ⟨0, Nat.zero_le _, rfl, 0, rfl⟩
  case round =>
    obtain ⟨k, hk, rfl, q, rfl⟩ := hrel
    by_cases hlt : k < n
    · have hne : l ≠ [] := by intro h; subst h; have := HN.out; simp at this; omega
      obtain ⟨b, off, rfl, _, hca⟩ := HA.out hne
      obtain ⟨b', off', rfl, _, hcb⟩ := HB.out hne
      obtain ⟨c1, d1⟩ := hca k (by rw [HN.out]; exact hlt)
      obtain ⟨c2, d2⟩ := hcb k (by rw [HN.out]; exact hlt)
      generalize (l.getD k (0, 0)).1 = x at c1 c2
      generalize (l.getD k (0, 0)).2 = y at d1 d2
      clear hca hcb hne
      go_wp2_with fail
      go_quiet (fail)
      go_wp2_with fail
      go_roundw
      case rel => exact ⟨k + 1, by omega, by go_num, _, rfl⟩
      case measure => simp [intOf]; omega
    · go_wp2_with fail
      go_ret
      exact ⟨rfl, q, rfl⟩
theorem sameSpots_b (va vb : Value) (l : List (Int × Int)) (w : World) (hl : l.length ≤ 140737488355328) (hA : OpsV w va l) (hB : OpsV w vb l) :
    Calls Try.prog 22 #[va, vb] w fun e w' => e = .returned (.bool true) ∧ Below w.heap.size w w' :=
  (sameSpots_true va vb l w hl hA hB).mono fun _ _ ⟨he, _, hw⟩ => ⟨he, hw ▸ below_drewN (Below.refl _ _) _⟩

set_option maxHeartbeats 1600000 in
set_option maxRecDepth 20000 in
theorem sameGraph_b (so no bo so' no' bo' : Option Addr) (sc nc bc sc' nc' bc' : Nat) (g : Gr) (w : World) (hz : GrSz g) (hA : GraphV w (.slice so g.spots.length sc) (.slice no g.next.length nc) (.slice bo g.sets.length bc) g) (hB : GraphV w (.slice so' g.spots.length sc') (.slice no' g.next.length nc') (.slice bo' g.sets.length bc') g) :
    Calls Try.prog 10 #[.agg #[.slice so g.spots.length sc, .int .i64 g.init, .slice no g.next.length nc, .slice bo g.sets.length bc, .int .i64 g.many], .agg #[.slice so' g.spots.length sc', .int .i64 g.init, .slice no' g.next.length nc', .slice bo' g.sets.length bc', .int .i64 g.many]] w fun e w' => e = .returned (.bool true) ∧ Below w.heap.size w w' := by
  obtain ⟨W0, hW0⟩ : ∃ W0, W0 = ((w.alloc (.cells #[.slice so g.spots.length sc, .int .i64 g.init, .slice no g.next.length nc, .slice bo g.sets.length bc, .int .i64 g.many] 26)).alloc (.cells #[.slice so' g.spots.length sc', .int .i64 g.init, .slice no' g.next.length nc', .slice bo' g.sets.length bc', .int .i64 g.many] 26)) := ⟨_, rfl⟩
  have hb0 : Below w.heap.size w W0 := by rw [hW0]; exact ((Below.refl _ _).alloc (Nat.le_refl _) _).alloc (by simp) _
  have hs0 : w.heap.size + 2 ≤ W0.heap.size := by rw [hW0]; simp
  have HC : Hid (∀ w1, Below W0.heap.size W0 w1 → (w1.cell? ⟨w.heap.size, 0, none⟩ = some (.slice so g.spots.length sc) ∧ w1.cell? ⟨w.heap.size, 1, none⟩ = some (.int .i64 g.init) ∧ w1.cell? ⟨w.heap.size, 2, none⟩ = some (.slice no g.next.length nc) ∧ w1.cell? ⟨w.heap.size, 3, none⟩ = some (.slice bo g.sets.length bc) ∧ w1.cell? ⟨w.heap.size, 4, none⟩ = some (.int .i64 g.many)) ∧ w1.cell? ⟨w.heap.size + 1, 0, none⟩ = some (.slice so' g.spots.length sc') ∧ w1.cell? ⟨w.heap.size + 1, 1, none⟩ = some (.int .i64 g.init) ∧ w1.cell? ⟨w.heap.size + 1, 2, none⟩ = some (.slice no' g.next.length nc') ∧ w1.cell? ⟨w.heap.size + 1, 3, none⟩ = some (.slice bo' g.sets.length bc') ∧ w1.cell? ⟨w.heap.size + 1, 4, none⟩ = some (.int .i64 g.many)) := fun w1 hb => by
    have c : ∀ j, w1.cell? ⟨w.heap.size, j, none⟩ = W0.cell? ⟨w.heap.size, j, none⟩ := fun j => hb.cell (p := ⟨w.heap.size, j, none⟩) (by show w.heap.size < _; omega)
    have d : ∀ j, w1.cell? ⟨w.heap.size + 1, j, none⟩ = W0.cell? ⟨w.heap.size + 1, j, none⟩ := fun j => hb.cell (p := ⟨w.heap.size + 1, j, none⟩) (by show w.heap.size + 1 < _; omega)
    refine ⟨⟨(c _).trans ?_, (c _).trans ?_, (c _).trans ?_, (c _).trans ?_, (c _).trans ?_⟩, (d _).trans ?_, (d _).trans ?_, (d _).trans ?_, (d _).trans ?_, (d _).trans ?_⟩ <;> (rw [hW0]; simp [go_sem])
  have h1 : Calls Try.prog 22 #[.slice so g.spots.length sc, .slice so' g.spots.length sc'] W0 fun e w' => e = .returned (.bool true) ∧ Below W0.heap.size W0 w' := sameSpots_b _ _ g.spots W0 (by have := hz.spots; omega) (hA.spots.below hb0) (hB.spots.below hb0)
  have h2 := fun w1 (hb : Below W0.heap.size W0 w1) => sameLists_b _ _ g.next w1 hz.next ((hA.next.below hb0).below hb) ((hB.next.below hb0).below hb)
  have h3 := fun w1 (hb : Below W0.heap.size W0 w1) => sameInts_b _ _ g.sets w1 (by have := hz.sets; omega) ((hA.sets.below hb0).below hb) ((hB.sets.below hb0).below hb)
  generalize g.spots.length = sn at *
  generalize g.next.length = nn at *
  generalize g.sets.length = bn at *
  generalize g.init = gi at *
  generalize g.many = gm at *
  clear hA hB
  rw [hW0] at h1
  have HW0 : Hid (W0 = ((w.alloc (.cells #[.slice so sn sc, .int .i64 gi, .slice no nn nc, .slice bo bn bc, .int .i64 gm] 26)).alloc (.cells #[.slice so' sn sc', .int .i64 gi, .slice no' nn nc', .slice bo' bn bc', .int .i64 gm] 26))) := hW0
  clear hW0
  go_enter Try.func10, Try.ntmps10
  go_wp2_with (first | (go_at_call 22; refine h1.mono ?_; rintro e w1 ⟨rfl, hb1⟩; rw [← HW0.out] at hb1; obtain ⟨⟨a0, a1, a2, a3, a4⟩, b0, b1, b2, b3, b4⟩ := HC.out w1 hb1) | (go_at_call 23; refine (h2 _ hb1).mono ?_; rintro e w2 ⟨rfl, hb2⟩; have hb12 := hb1.trans (hb2.mono hb1.size); obtain ⟨⟨c0, c1, c2, c3, c4⟩, d0, d1, d2, d3, d4⟩ := HC.out w2 hb12) | (go_at_call 9; refine (h3 _ hb12).mono ?_; rintro e w3 ⟨rfl, hb3⟩))
  go_ret
  have hb13 := hb12.trans (hb3.mono hb12.size)
  exact ⟨rfl, hb0.trans (hb13.mono hb0.size)⟩
end Go.Proofs.Ytknneajaklcjdaa
