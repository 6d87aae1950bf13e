/-
  The contracts of package expr's pairMakers, of the functions that it hands out, and of tooGreat and truth.
-/
import Derived.Test.YtnicbkkkecfdpaaDoorMem
import Derived.Test.YtnicbkkkecfdpaaDoorTrees
import Derived.Maps.Own
namespace Go.Proofs.YtnicbkkkecfdpaaDoor
open Go.ChangeShapes Go.WideShapes Go.ChangeAt Go.RowKit Go.Deep Go.Maps
open Terms Tm

theorem tooGreat_any (x : Int) (w : World) :
    Calls Tryd.prog 62 #[.int .i64 x] w fun e w' => e = .returned (.bool (decide (¬ (-1000000 ≤ x ∧ x ≤ 1000000)))) ∧ w' = w := by
  by_cases h1 : x < -1000000
  · rw [show decide (¬ (-1000000 ≤ x ∧ x ≤ 1000000)) = true by simp; omega]
    go_enter Tryd.func62, Tryd.ntmps62
    go_wp2
    all_goals go_ret
    all_goals exact ⟨rfl, rfl⟩
  · by_cases h2 : 1000000 < x
    · rw [show decide (¬ (-1000000 ≤ x ∧ x ≤ 1000000)) = true by simp; omega]
      go_enter Tryd.func62, Tryd.ntmps62
      go_wp2
      all_goals go_ret
      all_goals exact ⟨rfl, rfl⟩
    · rw [show decide (¬ (-1000000 ≤ x ∧ x ≤ 1000000)) = false by simp; omega]
      go_enter Tryd.func62, Tryd.ntmps62
      go_wp2
      all_goals go_ret
      all_goals exact ⟨rfl, rfl⟩

theorem truth_fn (c : Bool) (w : World) :
    Calls Tryd.prog 87 #[.bool c] w fun e w' => e = .returned (.int .i64 (if c = true then 1 else 0)) ∧ w' = w := by
  cases c
  all_goals
    go_enter Tryd.func87, Tryd.ntmps87
    go_wp2
    all_goals go_ret
    all_goals exact ⟨rfl, rfl⟩

/-- which function stands at a kind. -/
def pairFn (k : Int) : Nat := if k = 3 then 83 else if k = 4 then 84 else if k = 5 then 85 else if k = 6 then 86 else if k = 7 then 88 else if k = 8 then 89 else 90

theorem abs_le {x : Int} (h : -1000000 ≤ x ∧ x ≤ 1000000) : x.natAbs ≤ 1000000 := by omega
theorem mul_le {x y : Int} (hx : -1000000 ≤ x ∧ x ≤ 1000000) (hy : -1000000 ≤ y ∧ y ≤ 1000000) : -1000000000000 ≤ x * y ∧ x * y ≤ 1000000000000 := by
  have h := Nat.mul_le_mul (abs_le hx) (abs_le hy)
  rw [← Int.natAbs_mul] at h
  omega
set_option maxHeartbeats 800000 in
set_option maxRecDepth 20000 in
theorem pair_any (k x y : Int) (w : World) (h3 : 3 ≤ k) (h9 : k ≤ 9) (hx : -1000000 ≤ x ∧ x ≤ 1000000) (hy : -1000000 ≤ y ∧ y ≤ 1000000) (ht : 8 ≤ k → (x = 0 ∨ x = 1) ∧ (y = 0 ∨ y = 1)) :
    Calls Tryd.prog (pairFn k) #[.int .i64 x, .int .i64 y] w fun e w' => e = .returned (.int .i64 (bin k x y)) ∧ w' = w := by
  have hk : k = 3 ∨ k = 4 ∨ k = 5 ∨ k = 6 ∨ k = 7 ∨ k = 8 ∨ k = 9 := by omega
  have hm := mul_le hx hy
  obtain ⟨hm1, hm2⟩ := hm
  obtain ⟨hx1, hx2⟩ := hx
  obtain ⟨hy1, hy2⟩ := hy
  clear h3 h9
  rcases hk with rfl | rfl | rfl | rfl | rfl | rfl | rfl
  · show Calls Tryd.prog 83 _ _ _
    clear ht
    go_enter Tryd.func83, Tryd.ntmps83
    go_wp2
    go_ret
    exact ⟨rfl, rfl⟩
  · show Calls Tryd.prog 84 _ _ _
    clear ht
    go_enter Tryd.func84, Tryd.ntmps84
    go_wp2
    go_ret
    exact ⟨rfl, rfl⟩
  · show Calls Tryd.prog 85 _ _ _
    clear ht
    go_enter Tryd.func85, Tryd.ntmps85
    go_wp2
    go_ret
    exact ⟨rfl, rfl⟩
  · show Calls Tryd.prog 86 _ _ _
    clear ht
    have htr := fun w => truth_fn (x == y) w
    have hb : bin 6 x y = if (x == y) = true then 1 else 0 := by simp [bin]
    rw [← hb] at htr
    generalize bin 6 x y = z at htr ⊢
    clear hb
    go_enter Tryd.func86, Tryd.ntmps86
    go_wp2_with (go_at_call 87; refine (htr _).mono ?_; rintro e w1 ⟨rfl, rfl⟩)
    go_ret
    exact ⟨rfl, rfl⟩
  · show Calls Tryd.prog 88 _ _ _
    clear ht
    by_cases hc : x < y
    · have htr := fun w => truth_fn true w
      have hb : bin 7 x y = 1 := by simp [bin, hc]
      rw [hb]
      clear hb
      go_enter Tryd.func88, Tryd.ntmps88
      go_wp2_with (go_at_call 87; refine (htr _).mono ?_; rintro e w1 ⟨rfl, rfl⟩)
      go_ret
      exact ⟨rfl, rfl⟩
    · have htr := fun w => truth_fn false w
      have hb : bin 7 x y = 0 := by simp [bin, hc]
      rw [hb]
      clear hb
      go_enter Tryd.func88, Tryd.ntmps88
      go_wp2_with (go_at_call 87; refine (htr _).mono ?_; rintro e w1 ⟨rfl, rfl⟩)
      go_ret
      exact ⟨rfl, rfl⟩
  · show Calls Tryd.prog 89 _ _ _
    obtain ⟨ha, hb⟩ := ht (by decide)
    clear ht hm1 hm2 hx1 hx2 hy1 hy2
    rcases ha with rfl | rfl <;> rcases hb with rfl | rfl
    all_goals
      go_enter Tryd.func89, Tryd.ntmps89
      go_wp2
      go_ret
      exact ⟨rfl, rfl⟩
  · show Calls Tryd.prog 90 _ _ _
    obtain ⟨ha, hb⟩ := ht (by decide)
    clear ht hm1 hm2 hx1 hx2 hy1 hy2
    rcases ha with rfl | rfl <;> rcases hb with rfl | rfl
    all_goals
      go_enter Tryd.func90, Tryd.ntmps90
      go_wp2
      go_ret
      exact ⟨rfl, rfl⟩

/-! ### the map of functions -/

/-- how a function without what it captured reads: by its number. -/
def fnElem : Value → Option (DataW Unit × List MemPlace)
  | .func (.func f) first cap => if first = #[] ∧ cap = #[] then some (.lit (.int .i64 f), []) else none
  | .nilFunc => some (.nil, [])
  | _ => none
theorem fnElem_inv {v : Value} {f : Nat} {ps : List MemPlace} (h : fnElem v = some (.lit (.int .i64 f), ps)) : v = .func (.func f) #[] #[] := by
  unfold fnElem at h
  split at h
  · split at h
    · rename_i hc
      obtain ⟨rfl, rfl⟩ := hc
      simp at h
      rw [Int.ofNat.inj h.1]
    · simp at h
  · simp at h
  · simp at h
/-- a function of the program is put into a map of the call's own. -/
theorem wpList_insert_own {H : Type} {P : Program} (w : World) {ops : Array Oper} {rest : List Oper} {o : Oper} {a : Act} {Q : Exit → Act → World → Prop}
    (hg : o.guard = none) (m x v : Operand) (t : TypeId) (hop : o.op = Op.insert t m x v)
    (k e : TypeId) (K : Keyed P k) (ht : P.underlying t = some (.map k e)) (R : Value → Option (DataW H × List MemPlace)) (b n : Nat) (D : DataW H)
    (hm : a.eval m = .map (some b)) (hown : w.ownsMap P k R b n D) (hn : n < maxLen) (key val : Value) (kl : Lit) (hx : a.eval x = key) (hv : a.eval v = val) (hkey : keyOf P k key = some kl)
    (d : DataW H) (ps : List MemPlace) (hval : R val = some (d, ps))
    (hK : ∀ w', w'.ownsMap P k R b (n + 1) (D.put kl d) → w.grownBy w' (some b) → wpList P ops Q rest (a.put o.dst undef) w') :
    wpList P ops Q (o :: rest) a w := by
  refine wpList_plain hg fun K' hK' => ?_
  obtain ⟨w', hrun, r1, r2⟩ := hown.update K ht hn hkey hval
  unfold Oper.wp
  simp [execOp, hop, hm, hx, hv, hrun, Result.andThen]
  exact hK' _ _ (hK w' r1 r2)

def pairD : Nat → DataW Unit
  | 0 => .map []
  | n + 1 => (pairD n).put (.int .i64 ((n : Int) + 3)) (.lit (.int .i64 (pairFn ((n : Int) + 3))))
def PairsAt (w : World) (M : Nat) : Prop := w.ownsMap Tryd.prog 3 fnElem M 7 (pairD 7)
theorem PairsAt.later {w w' : World} {M : Nat} (h : PairsAt w M) (hb : Below w.heap.size w w') : PairsAt w' M := by
  have hlt := World.ownsMap.lt h
  obtain ⟨es, clock, h1, h2⟩ := h
  exact ⟨es, clock, (hb.block M hlt).trans h1, h2⟩
theorem keyInt : Keyed Tryd.prog 3 := int_keyed Tryd.underlying3
theorem key3 (k : Int) (h : 3 ≤ k ∧ k ≤ 9) : keyOf Tryd.prog 3 (.int .i64 k) = some (.int .i64 k) := keyOf_int_mk Tryd.underlying3 (WalkArith.wf_i64 (by omega))
theorem PairsAt.look {w : World} {M : Nat} (h : PairsAt w M) {k : Int} (h3 : 3 ≤ k) (h9 : k ≤ 9) :
    (Instr.lookup 93 (.map (some M)) (.int .i64 k) false).run Tryd.prog w = .ok (.func (.func (pairFn k)) #[] #[]) w := by
  obtain ⟨v, ps, hrun, hv⟩ := World.ownsMap.lookup h keyInt Tryd.underlying93 (z := .nilFunc) (by kernel_rfl) (zd := .nil) (zp := []) rfl (key3 k ⟨h3, h9⟩)
  have hat : (pairD 7).atKey (.int .i64 k) .nil = .lit (.int .i64 (pairFn k)) := by
    have hk : k = 3 ∨ k = 4 ∨ k = 5 ∨ k = 6 ∨ k = 7 ∨ k = 8 ∨ k = 9 := by omega
    rcases hk with rfl | rfl | rfl | rfl | rfl | rfl | rfl <;> rfl
  rw [hat] at hv
  rw [hrun, fnElem_inv hv]

set_option maxHeartbeats 1600000 in
set_option maxRecDepth 20000 in
/-- THE CONTRACT OF pairMakers. -/
theorem pairMakers_any (w : World) :
    Calls Tryd.prog 63 #[] w fun e w' => ∃ M, w.heap.size ≤ M ∧ e = .returned (.map (some M)) ∧ PairsAt w' M ∧ Below w.heap.size w w' := by
  have hmm := @run_makeMap Tryd.prog
  have h0 := World.ownsMap_made w Tryd.prog 3 fnElem
  go_enter Tryd.func63, Tryd.ntmps63
  go_wp2_with (first
    | (refine wpList_insert_own _ rfl _ _ _ 93 rfl 3 115 keyInt Tryd.underlying93 fnElem w.heap.size 6 _ rfl h6 (by unfold maxLen; omega) _ _ _ rfl rfl (key3 9 (by omega)) _ [] rfl ?_; intro w7 h7 g7)
    | (refine wpList_insert_own _ rfl _ _ _ 93 rfl 3 115 keyInt Tryd.underlying93 fnElem w.heap.size 5 _ rfl h5 (by unfold maxLen; omega) _ _ _ rfl rfl (key3 8 (by omega)) _ [] rfl ?_; intro w6 h6 g6)
    | (refine wpList_insert_own _ rfl _ _ _ 93 rfl 3 115 keyInt Tryd.underlying93 fnElem w.heap.size 4 _ rfl h4 (by unfold maxLen; omega) _ _ _ rfl rfl (key3 7 (by omega)) _ [] rfl ?_; intro w5 h5 g5)
    | (refine wpList_insert_own _ rfl _ _ _ 93 rfl 3 115 keyInt Tryd.underlying93 fnElem w.heap.size 3 _ rfl h3 (by unfold maxLen; omega) _ _ _ rfl rfl (key3 6 (by omega)) _ [] rfl ?_; intro w4 h4 g4)
    | (refine wpList_insert_own _ rfl _ _ _ 93 rfl 3 115 keyInt Tryd.underlying93 fnElem w.heap.size 2 _ rfl h2 (by unfold maxLen; omega) _ _ _ rfl rfl (key3 5 (by omega)) _ [] rfl ?_; intro w3 h3 g3)
    | (refine wpList_insert_own _ rfl _ _ _ 93 rfl 3 115 keyInt Tryd.underlying93 fnElem w.heap.size 1 _ rfl h1 (by unfold maxLen; omega) _ _ _ rfl rfl (key3 4 (by omega)) _ [] rfl ?_; intro w2 h2 g2)
    | (refine wpList_insert_own _ rfl _ _ _ 93 rfl 3 115 keyInt Tryd.underlying93 fnElem w.heap.size 0 _ rfl h0 (by unfold maxLen; omega) _ _ _ rfl rfl (key3 3 (by omega)) _ [] rfl ?_; intro w1 h1 g1))
  go_ret
  have hb0 : Below w.heap.size w (w.alloc (.map #[] 0)) := (Below.refl _ _).alloc (Nat.le_refl _) _
  have hb : ∀ {x y : World}, Below w.heap.size w x → x.grownBy y (some w.heap.size) → Below w.heap.size w y := fun h g => h.grown g h.size (fun j hj => by cases hj; exact Nat.le_refl _)
  exact ⟨w.heap.size, Nat.le_refl _, rfl, h7, hb (hb (hb (hb (hb (hb (hb hb0 g1) g2) g3) g4) g5) g6) g7⟩
end Go.Proofs.YtnicbkkkecfdpaaDoor
