/-
  The contracts of the keeping laws' own picked (exact) and env.
-/
import Derived.Test.YtlmghhfpoeocnaaDoorGrownTrees
import Derived.Deep.RegionHeld3
import Derived.Laws.IdiomArrays
namespace Go.Proofs.YtlmghhfpoeocnaaDoor
open Go.ChangeShapes Go.WideShapes Go.ChangeAt Go.RowKit Go.Deep
open Terms

/-- what picked makes. -/
def pk (n m : Int) : Int := if n < 0 then -((n + 1).tmod m) else n % m
theorem pk_range {n m : Int} (hm : 0 < m) : 0 ≤ pk n m ∧ pk n m < m := by
  unfold pk
  split
  · exact neg_rem (by omega) hm
  · exact ⟨Int.emod_nonneg _ (by omega), Int.emod_lt_of_pos _ hm⟩
theorem picked_is (n many : Int) (w : World) (hn : I64 n) (hm : 0 < many) (hm2 : many ≤ 10000) :
    Calls Tryd.prog 32 #[.int .i64 n, .int .i64 many] w fun e w' => e = .returned (.int .i64 (pk n many)) ∧ w' = w := by
  obtain ⟨h1, h2⟩ := hn
  by_cases h0 : n < 0
  · have hne : ¬ many = 0 := by omega
    rw [show pk n many = -((n + 1).tmod many) by unfold pk; rw [if_pos h0]]
    go_enter Tryd.func32, Tryd.ntmps32
    go_wp2
    go_ret
    exact ⟨rfl, rfl⟩
  · have hne : ¬ many = 0 := by omega
    rw [show pk n many = n % many by unfold pk; rw [if_neg h0]]
    go_enter Tryd.func32, Tryd.ntmps32
    go_wp2
    go_ret
    exact ⟨rfl, rfl⟩

def envL (a b c : Int) : List Int := [pk a 9, pk b 9, pk c 9]
theorem envL_s (a b c : Int) : EnvS (envL a b c) := by
  refine ⟨rfl, fun i hi => ?_⟩
  have h0 := pk_range (n := a) (m := 9) (by omega)
  have h1 := pk_range (n := b) (m := 9) (by omega)
  have h2 := pk_range (n := c) (m := 9) (by omega)
  match i, hi with
  | 0, _ => simp [envL]; omega
  | 1, _ => simp [envL]; omega
  | 2, _ => simp [envL]; omega

set_option maxHeartbeats 1600000 in
set_option maxRecDepth 20000 in
/-- THE CONTRACT OF env. -/
theorem env_any (a b c : Int) (w : World) (ha : I64 a) (hb : I64 b) (hc : I64 c) :
    Calls Tryd.prog 17 #[.agg #[.int .i64 a, .int .i64 b, .int .i64 c]] w fun e w' => ∃ v', e = .returned v' ∧ IntsV w' v' (envL a b c) ∧ Below w.heap.size w w' := by
  have p0 := fun w => picked_is a 9 w ha (by omega) (by omega)
  have p1 := fun w => picked_is b 9 w hb (by omega) (by omega)
  have p2 := fun w => picked_is c 9 w hc (by omega) (by omega)
  unfold envL
  generalize pk a 9 = x0 at p0 ⊢
  generalize pk b 9 = x1 at p1 ⊢
  generalize pk c 9 = x2 at p2 ⊢
  clear ha hb hc
  obtain ⟨W2, hW2⟩ : ∃ W2, W2 = w.alloc (.cells #[.int .i64 a, .int .i64 b, .int .i64 c] 35) := ⟨_, rfl⟩
  have hb2 : Below w.heap.size w W2 := by rw [hW2]; exact (Below.refl _ _).alloc (Nat.le_refl _) _
  have hsz : W2.heap.size = w.heap.size + 1 := by rw [hW2]; simp
  have d0 : W2.cell? ⟨w.heap.size, 0, none⟩ = some (.int .i64 a) := by rw [hW2]; simp [go_sem]
  have d1 : W2.cell? ⟨w.heap.size, 1, none⟩ = some (.int .i64 b) := by rw [hW2]; simp [go_sem]
  have d2 : W2.cell? ⟨w.heap.size, 2, none⟩ = some (.int .i64 c) := by rw [hW2]; simp [go_sem]
  have HW2 := (show Hid _ from hW2)
  have HB2 : Hid (Below w.heap.size w W2) := hb2
  have hB0 : Below W2.heap.size W2 W2 := Below.refl _ _
  have hS : ∀ w', Below W2.heap.size W2 w' → w'.cell? ⟨w.heap.size, 0, none⟩ = some (.int .i64 a) ∧ w'.cell? ⟨w.heap.size, 1, none⟩ = some (.int .i64 b) ∧ w'.cell? ⟨w.heap.size, 2, none⟩ = some (.int .i64 c) := fun w' hw' =>
    ⟨(hw'.cell (p := ⟨w.heap.size, 0, none⟩) (by simp only; omega)).trans d0, (hw'.cell (p := ⟨w.heap.size, 1, none⟩) (by simp only; omega)).trans d1, (hw'.cell (p := ⟨w.heap.size, 2, none⟩) (by simp only; omega)).trans d2⟩
  clear hW2 hb2 hsz
  go_enter Tryd.func17, Tryd.ntmps17
  go_wp2_with fail
  rw [← HW2.out]
  go_region_held3 (fun w' => w'.cell? ⟨w.heap.size, 0, none⟩ = some (.int .i64 a) ∧ w'.cell? ⟨w.heap.size, 1, none⟩ = some (.int .i64 b) ∧ w'.cell? ⟨w.heap.size, 2, none⟩ = some (.int .i64 c))
    (exact hS _ (by first | exact hB0 | exact hB0.drew | exact hB0.drew.alloc (Nat.le_refl _) _))
    (first | (go_at_call_of 32 a; refine (p0 _).mono ?_; rintro e w2 ⟨rfl, rfl⟩) | (go_at_call_of 32 b; refine (p1 _).mono ?_; rintro e w2 ⟨rfl, rfl⟩) | (go_at_call_of 32 c; refine (p2 _).mono ?_; rintro e w2 ⟨rfl, rfl⟩))
  all_goals go_wp2_with fail
  all_goals go_ret
  all_goals
    refine ⟨_, rfl, ⟨_, 3, rfl, fun _ => ⟨W2.heap.size, 0, rfl, by simp, fun i hi => ?_⟩⟩, HB2.out.trans (((hB0.alloc (Nat.le_refl _) _).drew).mono HB2.out.size)⟩
    match i, hi with
    | 0, _ => simp [go_sem]
    | 1, _ => simp [go_sem]
    | 2, _ => simp [go_sem]

theorem cellsArr3 : Tryd.prog.cellsOf 35 = 3 := by kernel_rfl
/-- THREE NUMBERS THAT CAME IN. -/
theorem open_arr3 {H : Type} {enc : TypeId × Value → H} {W : World} {base : Nat} {v : Value} {d : DataW H} {p : List MemPlace}
    (hv : Value.okWide Tryd.prog W .any base 35 v) (h : DataW.Trod enc Tryd.prog W 0 (fun _ => true) true 35 v d p) : ∃ a b c, v = .agg #[.int .i64 a, .int .i64 b, .int .i64 c] ∧ I64 a ∧ I64 b ∧ I64 c := by
  obtain ⟨cs, rfl, hcs⟩ : ∃ cs, v = .agg cs ∧ cs.size = 3 := by
    unfold Value.okWide at hv
    rw [Tryd.underlying35] at hv
    rw [← cellsArr3]
    cases v <;> simp_all
  obtain ⟨c0, c1, c2, rfl⟩ : ∃ c0 c1 c2, cs = #[c0, c1, c2] := by
    match cs, hcs with
    | ⟨[x, y, z]⟩, _ => exact ⟨x, y, z, rfl⟩
  obtain ⟨fuel, hf⟩ := h
  obtain ⟨y0, y1, y2, n, _, t0, t1, t2⟩ := trod_array3 Tryd.underlying35 cellsInt hf
  obtain ⟨x0, e0, _, w0⟩ := DataW.trod_int Tryd.underlying3 t0
  obtain ⟨x1, e1, _, w1⟩ := DataW.trod_int Tryd.underlying3 t1
  obtain ⟨x2, e2, _, w2⟩ := DataW.trod_int Tryd.underlying3 t2
  simp at e0 e1 e2
  subst e0 e1 e2
  exact ⟨x0, x1, x2, rfl, bounds_i64 w0, bounds_i64 w1, bounds_i64 w2⟩

/-- raw numbers stay what they are. -/
theorem Raws.later {w w' : World} {v : Value} {rs : List (Int × Int)} (h : Raws w w.heap.size v rs) (hb : Below w.heap.size w w') : Raws w' w'.heap.size v rs := by
  obtain ⟨⟨ao, cap, hv, h1⟩, h2, h3⟩ := h.below hb
  refine ⟨⟨ao, cap, hv, fun hne => ?_⟩, h2, h3⟩
  obtain ⟨b, off, hx, hlt, hat⟩ := h1 hne
  exact ⟨b, off, hx, Nat.lt_of_lt_of_le hlt hb.size, hat⟩
end Go.Proofs.YtlmghhfpoeocnaaDoor
