/-
  The contract of expr.Eval.
-/
import Derived.Test.YtnicbkkkecfdpaaDoorExpr3
import Derived.Test.YtnicbkkkecfdpaaDoorAt4
namespace Go.Proofs.YtnicbkkkecfdpaaDoor
open Go.ChangeShapes Go.WideShapes Go.ChangeAt Go.RowKit Go.Deep
open Terms Tm

set_option maxHeartbeats 400000 in
theorem ecatch_panicking (s : Nat) (x : Int) (v0 v1 : Value) (w : World) (hc0 : w.cell? ⟨s, 0, none⟩ = some v0) (hc1 : w.cell? ⟨s + 1, 0, none⟩ = some v1) (hz0 : w.frozen? ⟨s, 0, none⟩ = false) (hz1 : w.frozen? ⟨s + 1, 0, none⟩ = false) :
    CallsD Tryd.prog 61 #[.pointer (some ⟨s, 0, none⟩), .pointer (some ⟨s + 1, 0, none⟩)] (.panicking [{ v := .iface 29 (.int .i64 x), recovered := false }]) w fun e u' w' =>
      e = .returned (.tuple #[]) ∧ u' = .panicking [{ v := .iface 29 (.int .i64 x), recovered := true }] ∧ w' = ((w.setCell ⟨s, 0, none⟩ (.int .i64 0)).setCell ⟨s + 1, 0, none⟩ (.int .i64 x)).drew := by
  have hta : ∀ w : World, (Instr.typeAssert (.iface 29 (.int .i64 x)) 20 29 false).run Tryd.prog w = .ok (.int .i64 x) w := fun _ => by kernel_rfl
  refine callsD_of_wpS Tryd.func61 rfl fun c₀ cs hu => ?_
  rw [Tryd.ntmps61]
  show Code.wpS _ _ _ { tmps := #[.pointer (some ⟨s, 0, none⟩), .pointer (some ⟨s + 1, 0, none⟩), undef, undef, undef, undef, undef, undef], defers := [] } _ _
  apply wpS_seq
  apply wpS_region
  simp [wpOpsS, go_sem, recoverD, hu, Exit.thenS]
  refine wpS_of_wp ?_
  go_wp2
  go_region
  go_wp2
  simp [bodyPostS, results, Tryd.results61]

theorem ecatch_idle (s : Nat) (w : World) :
    CallsD Tryd.prog 61 #[.pointer (some ⟨s, 0, none⟩), .pointer (some ⟨s + 1, 0, none⟩)] .returning w fun e u' w' =>
      e = .returned (.tuple #[]) ∧ u' = .returning ∧ w' = w := by
  refine callsD_of_wpS Tryd.func61 rfl fun c₀ cs hu => ?_
  rw [Tryd.ntmps61]
  show Code.wpS _ _ _ { tmps := #[.pointer (some ⟨s, 0, none⟩), .pointer (some ⟨s + 1, 0, none⟩), undef, undef, undef, undef, undef, undef], defers := [] } _ _
  apply wpS_seq
  apply wpS_region
  simp [wpOpsS, go_sem, recoverD, hu, Exit.thenS]
  refine wpS_of_wp ?_
  go_wp2
  cases c₀
  simp_all [bodyPostS, results, Tryd.results61]

/-- what Eval answers: a number, and an error's. -/
def envBad (env : List Int) : Bool := env.any fun x => decide (¬ (-1000000 ≤ x ∧ x ≤ 1000000))
def evalN (l : List (Int × Int)) (t : Tm) (env : List Int) : Int :=
  if xcode env.length l t ≠ 0 then 0 else if envBad env = true then 0 else match t.eval env with
    | some x => x
    | none => 0
def evalC (l : List (Int × Int)) (t : Tm) (env : List Int) : Int :=
  if xcode env.length l t ≠ 0 then xcode env.length l t else if envBad env = true then 2 else match t.eval env with
    | some _ => 0
    | none => 8
theorem envBad_false {env : List Int} (h : envBad env = false) : EnvOk env := fun i hi => by
  unfold envBad at h
  rw [List.any_eq_false] at h
  have := h (env.getD i 0) (by simp [List.getD_eq_getElem?_getD, hi])
  generalize env.getD i 0 = x at *
  simp at this
  omega
theorem envBad_ok {env : List Int} (h : ∀ j, j < env.length → -1000000 ≤ env.getD j 0 ∧ env.getD j 0 ≤ 1000000) : envBad env = false := by
  unfold envBad
  rw [List.any_eq_false]
  intro x hx
  obtain ⟨i, hi, rfl⟩ := List.getElem_of_mem hx
  have := h i hi
  simp [List.getD_eq_getElem?_getD, hi] at this
  simp
  omega
theorem envBad_at {env : List Int} {i : Nat} (hi : i < env.length) (h : ¬ (-1000000 ≤ env.getD i 0 ∧ env.getD i 0 ≤ 1000000)) : envBad env = true := by
  unfold envBad
  rw [List.any_eq_true]
  refine ⟨env[i], List.getElem_mem hi, ?_⟩
  simp [List.getD_eq_getElem?_getD, hi] at h
  simp
  omega

/-- the two results' cells, as Eval has laid them. -/
def e0 (w : World) : World := (w.alloc (.cells #[.int .i64 0] 3)).alloc (.cells #[.int .i64 0] 29)
theorem e0_below (w : World) : Below w.heap.size w (e0 w) := ((Below.refl _ _).alloc (Nat.le_refl _) _).alloc (by simp) _
theorem e0_cells (w : World) {w' : World} (h : Below (e0 w).heap.size (e0 w) w') :
    w'.cell? ⟨w.heap.size, 0, none⟩ = some (.int .i64 0) ∧ w'.cell? ⟨w.heap.size + 1, 0, none⟩ = some (.int .i64 0) ∧ w'.frozen? ⟨w.heap.size, 0, none⟩ = false ∧ w'.frozen? ⟨w.heap.size + 1, 0, none⟩ = false ∧ w.heap.size + 1 < w'.heap.size ∧ Below w.heap.size w w' := by
  have hs := h.size
  have hz : (e0 w).heap.size = w.heap.size + 1 + 1 := by simp [e0]
  refine ⟨?_, ?_, ?_, ?_, by omega, (e0_below w).trans (h.mono (e0_below w).size)⟩
  · rw [h.cell (p := ⟨w.heap.size, 0, none⟩) (by simp only; omega)]; simp [e0, go_sem]
  · rw [h.cell (p := ⟨w.heap.size + 1, 0, none⟩) (by simp only; omega)]; simp [e0, go_sem]
  · rw [h.frozen (p := ⟨w.heap.size, 0, none⟩) (by simp only; omega)]; simp [e0, go_sem]
  · rw [h.frozen (p := ⟨w.heap.size + 1, 0, none⟩) (by simp only; omega)]; simp [e0, go_sem]

set_option maxHeartbeats 1600000 in
/-- what Check refuses is refused. -/
theorem eval_no (ao : Option Addr) (n cap : Nat) (eao : Option Addr) (en ecap : Nat) (x : Int) (w : World) (hx : x ≠ 0)
    (heo : Calls Tryd.prog 59 #[.slice ao n cap, .int .i64 en] (e0 w) fun e w'' => e = .returned (.tuple #[.slice none 0 0, .int .i64 x]) ∧ Below (e0 w).heap.size (e0 w) w'') :
    Calls Tryd.prog 51 #[.slice ao n cap, .slice eao en ecap] w fun e w' => e = .returned (.tuple #[.int .i64 0, .int .i64 x]) ∧ Below w.heap.size w w' := by
  have hmf := hmakeFunc
  go_enter_defers Tryd.func51, Tryd.ntmps51
  go_wp2_with (go_at_call 59; refine heo.mono ?_; rintro e w2 ⟨rfl, hb2⟩; obtain ⟨c0, c1, f0, f1, hsz, hbw⟩ := e0_cells w hb2)
  go_region
  all_goals go_wp2_with fail
  all_goals
    refine leaves_cons (f := 61) (args := #[.pointer (some ⟨w.heap.size, 0, none⟩), .pointer (some ⟨w.heap.size + 1, 0, none⟩)]) (by simp) (by simp [go_sem]) ?_
    refine (ecatch_idle w.heap.size _).mono ?_
    rintro e u' w'' ⟨rfl, rfl, rfl⟩
    simp [Leaves, settle, results, Tryd.results51, go_sem, c0, c1]
    first
      | exact (((hbw.setCell (p := ⟨w.heap.size + 1, 0, none⟩) (by simp) _).drew).setCell (p := ⟨w.heap.size, 0, none⟩) (Nat.le_refl _) _).setCell (p := ⟨w.heap.size + 1, 0, none⟩) (by simp) _
      | exact (((hbw.setCell (p := ⟨w.heap.size + 1, 0, none⟩) (by simp) _).drew).setCell (p := ⟨w.heap.size + 1, 0, none⟩) (by simp) _).setCell (p := ⟨w.heap.size, 0, none⟩) (Nat.le_refl _) _
end Go.Proofs.YtnicbkkkecfdpaaDoor
