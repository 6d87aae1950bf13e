/-
  Contracts of the laws' own helpers: ops (a copy), sameInts, sameOps.
-/
import Derived.Test.YtkdbblchkkemgaaDoorRefPolish
import Derived.Deep.QuietTactic
import Derived.BigQuiet
import Derived.Laws.AppendOwnNone
namespace Go.Proofs.YtkdbblchkkemgaaDoor
open Go.RowKit Go.Deep
open Terms

/-- the ops of a list, from an address on. -/
def OpsAt (w : World) (b off : Nat) (l : List (Int × Int)) : Prop := ∀ i, i < l.length → w.cell? ⟨b, off + i * 2, none⟩ = some (.int .i64 (l.getD i (0, 0)).1) ∧ w.cell? ⟨b, off + i * 2 + 1, none⟩ = some (.int .i64 (l.getD i (0, 0)).2)
theorem OpsAt.below {B b off : Nat} {l : List (Int × Int)} {w w' : World} (h : OpsAt w b off l) (hb : Below B w w') (hB : b < B) : OpsAt w' b off l := fun i hi => ⟨(hb.cell (p := ⟨b, _, none⟩) hB).trans (h i hi).1, (hb.cell (p := ⟨b, _, none⟩) hB).trans (h i hi).2⟩
def OpsV (w : World) (v : Value) (l : List (Int × Int)) : Prop := ∃ ao cap, v = .slice ao l.length cap ∧ (l.length ≤ cap ∧ (ao = none → cap = 0 ∧ l = [])) ∧ (l ≠ [] → ∃ b off, ao = some ⟨b, off, none⟩ ∧ b < w.heap.size ∧ OpsAt w b off l)
theorem OpsV.below {w w' : World} {v : Value} {l : List (Int × Int)} (h : OpsV w v l) (hb : Below w.heap.size w w') : OpsV w' v l := by
  obtain ⟨ao, cap, rfl, h0, h⟩ := h
  refine ⟨ao, cap, rfl, h0, fun hne => ?_⟩
  obtain ⟨b, off, rfl, hlt, hat⟩ := h hne
  exact ⟨b, off, rfl, Nat.lt_of_lt_of_le hlt hb.size, hat.below hb hlt⟩
theorem OpsV.kinds {w : World} {v : Value} {l : List (Int × Int)} (h : OpsV w v l) : Kinds w v (l.map Prod.fst) := by
  obtain ⟨ao, cap, rfl, h0, h⟩ := h
  refine ⟨ao, cap, by simp, fun hne => ?_⟩
  obtain ⟨b, off, rfl, hlt, hat⟩ := h (by intro h; subst h; simp at hne)
  refine ⟨b, off, rfl, hlt, fun i hi => ?_⟩
  rw [List.length_map] at hi
  rw [(hat i hi).1]
  simp [List.getD_eq_getElem?_getD, hi]

/-- the cells of a list of ops. -/
def flat (l : List (Int × Int)) : List Value := l.flatMap fun p => [.int .i64 p.1, .int .i64 p.2]
theorem flat_length (l : List (Int × Int)) : (flat l).length = l.length * 2 := by
  induction l with
  | nil => rfl
  | cons p l ih =>
    have : flat (p :: l) = [.int .i64 p.1, .int .i64 p.2] ++ flat l := rfl
    rw [this]; simp [ih]; omega
theorem flat_get (l : List (Int × Int)) : ∀ i, i < l.length → (flat l)[i * 2]? = some (.int .i64 (l.getD i (0, 0)).1) ∧ (flat l)[i * 2 + 1]? = some (.int .i64 (l.getD i (0, 0)).2) := by
  induction l with
  | nil => intro i hi; simp at hi
  | cons p l ih =>
    intro i hi
    have e : flat (p :: l) = .int .i64 p.1 :: .int .i64 p.2 :: flat l := rfl
    rw [e]
    cases i with
    | zero => simp
    | succ i =>
      have := ih i (by simpa using hi)
      rw [show (i + 1) * 2 = i * 2 + 1 + 1 by omega]
      simpa using this
theorem flat_one (l : List (Int × Int)) : ∀ u ∈ flat l, u.oneCell' = true := by
  intro u hu
  simp only [flat, List.mem_flatMap] at hu
  obtain ⟨p, _, hp⟩ := hu
  simp at hp
  rcases hp with rfl | rfl <;> rfl
theorem OpsAt.cells {w : World} {b off : Nat} {l : List (Int × Int)} (h : OpsAt w b off l) : ∀ j u, (flat l)[j]? = some u → w.cell? ((⟨b, off, none⟩ : Addr).add j) = some u := by
  intro j u hj
  have hlt : j < l.length * 2 := by rw [← flat_length]; exact (List.getElem?_eq_some_iff.1 hj).1
  rw [Go.WideShapes.add_plain]
  have hi : j / 2 < l.length := by omega
  obtain ⟨f0, f1⟩ := flat_get l (j / 2) hi
  obtain ⟨c0, c1⟩ := h (j / 2) hi
  by_cases hp : j % 2 = 0
  · rw [show j / 2 * 2 = j by omega] at f0 c0
    rw [hj] at f0
    rw [c0, f0]
  · rw [show j / 2 * 2 + 1 = j by omega] at f1
    rw [show off + j / 2 * 2 + 1 = off + j by omega] at c1
    rw [hj] at f1
    rw [c1, f1]
theorem two_new (w : World) (x y : Value) (t : TypeId) : ∀ j u, [x, y][j]? = some u → (w.alloc (.cells #[x, y] t)).cell? ((⟨w.heap.size, 0, none⟩ : Addr).add j) = some u := by
  intro j u hj
  match j, hj with
  | 0, hj => simp at hj; subst hj; simp [Addr.add, go_sem]
  | 1, hj => simp at hj; subst hj; simp [Addr.add, go_sem]

/-- a row that the call owns holds ops. -/
theorem opsV_of_owns {w : World} {base : Nat} {v : Value} {l : List (Int × Int)} (h : w.ownsRow base 43 2 v l.length (flat l)) : OpsV w v l := by
  rcases h.2 with ⟨rfl, h0⟩ | ⟨g, cap, cur, rfl, hb, hg, hnc, hcm, hcs, htake⟩
  · have : l = [] := by simpa using h0
    subst this
    exact ⟨none, 0, rfl, ⟨by simp, fun _ => ⟨rfl, rfl⟩⟩, fun h => absurd rfl h⟩
  · refine ⟨_, cap, rfl, ⟨hnc, fun h => by simp at h⟩, fun _ => ⟨g, 0, rfl, ?_, fun i hi => ?_⟩⟩
    · exact (Array.getElem?_eq_some_iff.1 hg).1
    · obtain ⟨f0, f1⟩ := flat_get l i hi
      rw [h.cellAt _ (by omega), h.cellAt _ (by omega)]
      simpa using ⟨f0, f1⟩

theorem infoOp : (Tryd.prog.info? 43).map (fun i => (i.zero, i.size, i.bytes)) = some (some (.agg #[.int .i64 0, .int .i64 0]), 2, 16) := by kernel_rfl

/-- THE CONTRACT OF ops: a copy in new memory. -/
theorem ops_any (v : Value) (l : List (Int × Int)) (w : World) (hl : l.length * 16 ≤ 140737488355328) (hV : OpsV w v l) :
    Calls Tryd.prog 11 #[v] w fun e w' => ∃ v', e = .returned v' ∧ Below w.heap.size w w' ∧ w'.ownsRow w.heap.size 43 2 v' l.length (flat l) := by
  obtain ⟨ao, cap, rfl, h0, h⟩ := hV
  obtain ⟨i0, hi, hz0, hz1, hz2⟩ := info_parts infoOp
  cases ao with
  | none =>
    obtain ⟨rfl, rfl⟩ := h0.2 rfl
    simp only [List.length_nil]
    go_enter Tryd.func11, Tryd.ntmps11
    go_wp2_with (at_builtin; refine wpList_append_own_none rfl _ _ 26 rfl w.heap.size 43 i0 2 Tryd.underlying26 hi _ _ _ rfl (World.ownsRow_nil _ _ _ _) rfl ?_)
    go_ret
    exact ⟨_, rfl, Below.refl _ _, World.ownsRow_nil _ _ _ _⟩
  | some a =>
    have hcells : ∀ j u, (flat l)[j]? = some u → w.cell? (a.add j) = some u := by
      by_cases hne : l = []
      · subst hne; intro j u hj; simp [flat] at hj
      · obtain ⟨b, off, e, _, hat⟩ := h hne
        obtain rfl := Option.some.inj e
        exact hat.cells
    clear h h0
    go_enter Tryd.func11, Tryd.ntmps11
    go_wp2_with (at_builtin; refine wpList_append_own _ rfl _ _ 26 rfl w.heap.size 43 i0 (.agg #[.int .i64 0, .int .i64 0]) 2 16 Tryd.underlying26 hi hz0 hz1 hz2 rfl (by decide) _ _ _ rfl (World.ownsRow_nil _ _ _ _) a l.length cap (flat l) rfl (flat_length l) hcells (flat_one l) ?c3 ?c4 ?c5 ?_)
    case c3 => unfold maxLen; omega
    case c4 => omega
    case c5 => exact Nat.le_refl _
    intro v' w4 hown' hgrow _
    have hb : Below w.heap.size w w4 := (Below.refl _ _).grown hgrow (Nat.le_refl _) (fun q hq => by simp [Value.ownBlock] at hq)
    clear hgrow hcells
    go_wp2
    go_ret
    exact ⟨_, rfl, hb, hown'⟩

/-- a slice of numbers. -/
def IntsAt (w : World) (b off : Nat) (l : List Int) : Prop := ∀ i, i < l.length → w.cell? ⟨b, off + i, none⟩ = some (.int .i64 (l.getD i 0))
def IntsV (w : World) (v : Value) (l : List Int) : Prop := ∃ ao cap, v = .slice ao l.length cap ∧ (l ≠ [] → ∃ b off, ao = some ⟨b, off, none⟩ ∧ b < w.heap.size ∧ IntsAt w b off l)
theorem IntsV.below {w w' : World} {v : Value} {l : List Int} (h : IntsV w v l) (hb : Below w.heap.size w w') : IntsV w' v l := by
  obtain ⟨ao, cap, rfl, h⟩ := h
  refine ⟨ao, cap, rfl, fun hne => ?_⟩
  obtain ⟨b, off, rfl, hlt, hat⟩ := h hne
  exact ⟨b, off, rfl, Nat.lt_of_lt_of_le hlt hb.size, fun i hi => (hb.cell (p := ⟨b, _, none⟩) hlt).trans (hat i hi)⟩

set_option maxHeartbeats 800000 in
theorem sameInts_true (va vb : Value) (l : List Int) (w : World) (hl : l.length ≤ 140737488355328) (hA : IntsV w va l) (hB : IntsV w vb l) :
    Calls Tryd.prog 14 #[va, vb] w fun e w' => e = .returned (.bool true) ∧ ∃ n, w' = w.drewN n := by
  obtain ⟨ao, ca, rfl, ha⟩ := hA
  obtain ⟨bo, cb, rfl, hb⟩ := hB
  obtain ⟨n, hn⟩ : ∃ n, l.length = n := ⟨_, rfl⟩
  rw [hn] at hl ⊢
  have HA : Hid (l ≠ [] → ∃ b off, ao = some ⟨b, off, none⟩ ∧ b < w.heap.size ∧ IntsAt w b off l) := ha
  have HB : Hid (l ≠ [] → ∃ b off, bo = some ⟨b, off, none⟩ ∧ b < w.heap.size ∧ IntsAt w b off l) := hb
  have HN : Hid (l.length = n) := hn
  clear ha hb hn
  go_enter Tryd.func14, Tryd.ntmps14
  go_wp2
  go_loopw [5] (fun i wr => ∃ k : Nat, k ≤ n ∧ i = .int .i64 k ∧ ∃ q, wr = w.drewN q) (fun i _ => n - (intOf i).toNat)
  case atStart => exact ⟨0, Nat.zero_le _, rfl, 0, rfl⟩
  case round =>
    obtain ⟨k, hk, rfl, q, rfl⟩ := hrel
    by_cases hlt : k < n
    · have hne : l ≠ [] := by intro h; subst h; have := HN.out; simp at this; omega
      obtain ⟨b, off, rfl, _, hca⟩ := HA.out hne
      obtain ⟨b', off', rfl, _, hcb⟩ := HB.out hne
      have c1 := hca k (by rw [HN.out]; exact hlt)
      have c2 := hcb k (by rw [HN.out]; exact hlt)
      generalize l.getD k 0 = x at c1 c2
      clear hca hcb hne
      go_wp2_with fail
      go_quiet (fail)
      go_wp2_with fail
      go_roundw
      case rel => exact ⟨k + 1, by omega, by go_num, _, rfl⟩
      case measure => simp [intOf]; omega
    · go_wp2_with fail
      go_ret
      exact ⟨rfl, q, rfl⟩

set_option maxHeartbeats 800000 in
theorem sameOps_true (va vb : Value) (l : List (Int × Int)) (w : World) (hl : l.length ≤ 140737488355328) (hA : OpsV w va l) (hB : OpsV w vb l) :
    Calls Tryd.prog 15 #[va, vb] w fun e w' => e = .returned (.bool true) ∧ ∃ n, w' = w.drewN n := by
  obtain ⟨ao, ca, rfl, _, ha⟩ := hA
  obtain ⟨bo, cb, rfl, _, hb⟩ := hB
  obtain ⟨n, hn⟩ : ∃ n, l.length = n := ⟨_, rfl⟩
  rw [hn] at hl ⊢
  have HA : Hid (l ≠ [] → ∃ b off, ao = some ⟨b, off, none⟩ ∧ b < w.heap.size ∧ OpsAt w b off l) := ha
  have HB : Hid (l ≠ [] → ∃ b off, bo = some ⟨b, off, none⟩ ∧ b < w.heap.size ∧ OpsAt w b off l) := hb
  have HN : Hid (l.length = n) := hn
  clear ha hb hn
  go_enter Tryd.func15, Tryd.ntmps15
  go_wp2
  go_loopw [5] (fun i wr => ∃ k : Nat, k ≤ n ∧ i = .int .i64 k ∧ ∃ q, wr = w.drewN q) (fun i _ => n - (intOf i).toNat)
  case atStart => exact ⟨0, Nat.zero_le _, rfl, 0, rfl⟩
  case round =>
    obtain ⟨k, hk, rfl, q, rfl⟩ := hrel
    by_cases hlt : k < n
    · have hne : l ≠ [] := by intro h; subst h; have := HN.out; simp at this; omega
      obtain ⟨b, off, rfl, _, hca⟩ := HA.out hne
      obtain ⟨b', off', rfl, _, hcb⟩ := HB.out hne
      obtain ⟨c1, d1⟩ := hca k (by rw [HN.out]; exact hlt)
      obtain ⟨c2, d2⟩ := hcb k (by rw [HN.out]; exact hlt)
      generalize (l.getD k (0, 0)).1 = x at c1 c2
      generalize (l.getD k (0, 0)).2 = y at d1 d2
      clear hca hcb hne
      go_wp2_with fail
      go_quiet (fail)
      go_wp2_with fail
      go_roundw
      case rel => exact ⟨k + 1, by omega, by go_num, _, rfl⟩
      case measure => simp [intOf]; omega
    · go_wp2_with fail
      go_ret
      exact ⟨rfl, q, rfl⟩
end Go.Proofs.YtkdbblchkkemgaaDoor
