/-
  A lasso of numbers that came in.
-/
import Derived.Test.YtnicbkkkecfdpaaDoorModelOpen
import Derived.Test.YtnicbkkkecfdpaaDoorIntsOf
namespace Go.Proofs.YtnicbkkkecfdpaaDoor
open Go.ChangeShapes Go.WideShapes Go.ChangeAt Go.RowKit Go.Deep Go.Joins
open Terms Tm

section
variable {H : Type} {enc : TypeId × Value → H} {W : World}
theorem bulk_one (d : DataW H) : 1 ≤ Rows.uptoBulk d := by
  cases d with
  | lit l => cases l <;> simp [Rows.uptoBulk]
  | nil => simp [Rows.uptoBulk]
  | ptr d => simp [Rows.uptoBulk]
  | slice elems spare => simp [Rows.uptoBulk]
  | agg parts => simp [Rows.uptoBulk]
  | iface t d => simp [Rows.uptoBulk]
  | map entries => simp [Rows.uptoBulk]
  | held h => simp [Rows.uptoBulk]
theorem bulk_len (l : List (DataW H)) : l.length ≤ Rows.uptoBulkAll l := by
  induction l with
  | nil => simp [Rows.uptoBulkAll]
  | cons x r ih => have := bulk_one x; simp only [Rows.uptoBulkAll, List.length_cons]; omega
theorem bytesIntV : Tryd.prog.bytesOf 3 = 8 := by kernel_rfl
theorem cellsIntV : Tryd.prog.cellsOf 3 = 1 := by kernel_rfl
theorem cellsLasso : Tryd.prog.cellsOf 28 = 2 := by kernel_rfl
set_option maxRecDepth 20000 in
theorem open_ints_cV {fuel : Nat} {v : Value} {d : DataW H} {p : List MemPlace} (hf : DataW.trod enc Tryd.prog W 0 (fun _ => true) true fuel 26 [v] = some (d, p)) (hw : LightD 26 d) : ∃ l, IntsW W v l ∧ l.length * 8 ≤ 140737488355328 ∧ l.length ≤ Rows.uptoBulk d := by
  rcases open_slice1 Tryd.underlying26 cellsIntV hf with ⟨hcs, hx⟩ | ⟨a, len, cap, m, n, V, D, Pl, hcs, _, hl, hm, hmm, hx, hcell⟩
  · simp at hcs
    subst hcs
    exact ⟨[], ⟨none, 0, rfl, fun _ => ⟨rfl, rfl⟩, fun h => absurd rfl h⟩, by simp, by simp⟩
  · simp at hcs
    subst hcs
    simp at hmm
    subst hmm
    rw [(Prod.mk.inj hx).1] at hw
    have hs := (hw.slice Tryd.underlying26).1
    rw [bytesIntV] at hs
    simp only [List.length_map, List.length_range, reachBytes] at hs
    refine ⟨(List.range len).map fun i => intOf (V i), ⟨some a, m, by simp, fun h => by simp at h, fun hne => ?_⟩, by simp; omega, ?_⟩
    rotate_left
    · rw [(Prod.mk.inj hx).1]
      have h9 := bulk_len ((List.range len).map D)
      simp only [List.length_map, List.length_range] at h9 ⊢
      simp only [Rows.uptoBulk]
      omega
    have hpos : 0 < len := by
      rcases Nat.eq_zero_or_pos len with h0 | h0
      · subst h0; simp at hne
      · exact h0
    obtain ⟨b, off, spot⟩ := a
    have hspot : spot = none := by simpa [Addr.add] using World.cell?_spot (hcell 0 (by omega)).1
    subst hspot
    refine ⟨b, off, rfl, ?_, fun i hi => ?_⟩
    · have := World.block_lt_of_cell? W _ (hcell 0 (by omega)).1
      simpa [Addr.add] using this
    · simp only [List.length_map, List.length_range] at hi
      obtain ⟨c0, t0⟩ := hcell i (by omega)
      rw [add_plain] at c0
      obtain ⟨x0, e0, _, _⟩ := DataW.trod_int Tryd.underlying3 t0
      simp at e0
      rw [c0, getD_range _ 0 hi, e0]
      rfl
set_option maxRecDepth 20000 in
/-- A LASSO THAT CAME IN. -/
theorem open_lasso {base : Nat} {v : Value} {d : DataW H} {p : List MemPlace} {ts : List TypeId} {ds : List (DataW H)} {j : Nat}
    (hv : Value.okWide Tryd.prog W .any base 28 v) (h : DataW.Trod enc Tryd.prog W 0 (fun _ => true) true 28 v d p)
    (hsz : (DataW.weightsEach Tryd.prog ts ds).all (· ≤ reachBytes) = true) (ht : ts[j]? = some 28) (hd : ds[j]? = some d) : ∃ sv lv ss ll, v = .agg #[sv, lv] ∧ IntsW W sv ss ∧ IntsW W lv ll ∧ ss.length * 8 ≤ 140737488355328 ∧ ll.length * 8 ≤ 140737488355328 ∧ ss.length + ll.length ≤ Rows.uptoBulk d := by
  obtain ⟨va, vr, y0, y1, n, rfl, rfl, _, h0, h1⟩ := open_agg2 Tryd.underlying28 (by kernel_rfl) cellsLasso hv h
  have hw : LightD 28 (.agg [y0.1, y1.1]) := fun n hn => by
    have := List.all_eq_true.1 hsz _ (DataW.weights_mem_each ht hd n hn)
    simpa using this
  obtain ⟨w0, w1⟩ := hw.agg2 Tryd.underlying28
  obtain ⟨l, h2, h3, h6⟩ := open_ints_cV h0 w0
  obtain ⟨r, h4, h5, h7⟩ := open_ints_cV h1 w1
  refine ⟨va, vr, l, r, rfl, h2, h4, h3, h5, ?_⟩
  simp only [Rows.uptoBulk, Rows.uptoBulkAll]
  omega
end
end Go.Proofs.YtnicbkkkecfdpaaDoor
