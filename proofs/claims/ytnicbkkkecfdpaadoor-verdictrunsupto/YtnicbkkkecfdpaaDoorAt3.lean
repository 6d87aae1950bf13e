/-
  The contract of package expr's (work).at: an op of two parts, where a part gives up.
-/
import Derived.Test.YtnicbkkkecfdpaaDoorAt2
import Derived.Deep.RegionHeld2
namespace Go.Proofs.YtnicbkkkecfdpaaDoor
open Go.ChangeShapes Go.WideShapes Go.ChangeAt Go.RowKit Go.Deep
open Terms Tm
attribute [local go_sem ↓] Go.wp_at_zero Go.wp_at_succ

/-- a callee that gives up: what would follow if it came back is shown from nothing. -/
theorem Calls.pan {f : FuncId} {args : Array Value} {w : World} {X : Ending → World → Prop} (x : Int) (h : Calls Tryd.prog f args w (AtPost none w))
    (hX : ∀ w', Below w.heap.size w w' → X (.panicked [{ v := .iface 29 (.int .i64 8), recovered := false }]) w') (_ : ∀ w', Below w.heap.size w w' → Hid False → X (.returned (.int .i64 x)) w') : Calls Tryd.prog f args w X :=
  h.mono fun e w' ⟨hb, he⟩ => by subst he; exact hX w' hb

set_option maxHeartbeats 800000 in
set_option maxRecDepth 20000 in
theorem at_bi_a (b off n cap B : Nat) (eao : Option Addr) (en ecap M place E1 F : Nat) (k x y z : Int) (w : World) (hob : b < w.heap.size) (hBB : B < w.heap.size) (hp : place + 1 < n) (P1 : Nat) (hP1 : P1 = place + 1) (h60 : n ≤ 60) (hk3 : 3 ≤ k) (hk9 : k ≤ 9) (c0 : w.cell? ⟨b, off + place * 2, none⟩ = some (.int .i64 k)) (c1 : w.cell? ⟨b, off + place * 2 + 1, none⟩ = some (.int .i64 0)) (cE : w.cell? ⟨B, P1, none⟩ = some (.int .i64 E1))
    (hlook : ∀ w', Below w.heap.size w w' → (Instr.lookup 93 (.map (some M)) (.int .i64 k) false).run Tryd.prog w' = .ok (.func (.func F) #[] #[]) w')
    (hent : ∀ args w, (callFunc F args).run Tryd.prog w = .ok (.enter F args) w)
    (hpair : ∀ w', Calls Tryd.prog F #[.int .i64 x, .int .i64 y] w' fun e w'' => e = .returned (.int .i64 z) ∧ w'' = w')
    (hra : ∀ w', Below w.heap.size w w' → Calls Tryd.prog 64 #[workV b off n cap B eao en ecap M, .int .i64 P1] w' (AtPost none w'))
    (hrb : Hid False → ∀ w', Below w.heap.size w w' → Calls Tryd.prog 64 #[workV b off n cap B eao en ecap M, .int .i64 E1] w' (AtPost (some y) w')) :
    Calls Tryd.prog 64 #[workV b off n cap B eao en ecap M, .int .i64 place] w (AtPost none w) := by
  have hne : ¬ b = w.heap.size := by omega
  have hneB : ¬ B = w.heap.size := by omega
  have e1 : ¬ k = 1 := by omega
  have e2 : ¬ k = 2 := by omega
  have e3 : ¬ k = 10 := by omega
  have e4 : ¬ k = 11 := by omega
  have e5 : ¬ k = 12 := by omega
  obtain ⟨W2, hW2⟩ : ∃ W2, W2 = ((w.alloc (.cells #[.slice (some ⟨b, off, none⟩) n cap, .slice (some ⟨B, 0, none⟩) n n, .slice eao en ecap, .map (some M)] 96)).alloc (.cells #[.int .i64 k, .int .i64 0] 86)) := ⟨_, rfl⟩
  have hb2 : Below w.heap.size w W2 := by rw [hW2]; exact ((Below.refl _ _).alloc (Nat.le_refl _) _).alloc (by simp) _
  have hsz : W2.heap.size = w.heap.size + 1 + 1 := by rw [hW2]; simp
  have d0 : W2.cell? ⟨w.heap.size, 0, none⟩ = some (.slice (some ⟨b, off, none⟩) n cap) := by rw [hW2]; simp [go_sem]
  have d1 : W2.cell? ⟨w.heap.size, 1, none⟩ = some (.slice (some ⟨B, 0, none⟩) n n) := by rw [hW2]; simp [go_sem]
  have d2 : W2.cell? ⟨w.heap.size, 2, none⟩ = some (.slice eao en ecap) := by rw [hW2]; simp [go_sem]
  have d3 : W2.cell? ⟨w.heap.size, 3, none⟩ = some (.map (some M)) := by rw [hW2]; simp [go_sem]
  have d4 : W2.cell? ⟨w.heap.size + 1, 0, none⟩ = some (.int .i64 k) := by rw [hW2]; simp [go_sem]
  have d5 : W2.cell? ⟨B, P1, none⟩ = some (.int .i64 E1) := (hb2.cell (p := ⟨B, P1, none⟩) hBB).trans cE
  have HW2 := (show Hid _ from hW2)
  have hS : ∀ w', Below W2.heap.size W2 w' → w'.cell? ⟨w.heap.size, 0, none⟩ = some (.slice (some ⟨b, off, none⟩) n cap) ∧ w'.cell? ⟨w.heap.size, 1, none⟩ = some (.slice (some ⟨B, 0, none⟩) n n) ∧ w'.cell? ⟨w.heap.size, 2, none⟩ = some (.slice eao en ecap) ∧ w'.cell? ⟨w.heap.size, 3, none⟩ = some (.map (some M)) ∧ w'.cell? ⟨w.heap.size + 1, 0, none⟩ = some (.int .i64 k) ∧ w'.cell? ⟨B, P1, none⟩ = some (.int .i64 E1) ∧ (Instr.lookup 93 (.map (some M)) (.int .i64 k) false).run Tryd.prog w' = .ok (.func (.func F) #[] #[]) w' := fun w' hw' =>
    ⟨(hw'.cell (p := ⟨w.heap.size, 0, none⟩) (by simp only; omega)).trans d0, (hw'.cell (p := ⟨w.heap.size, 1, none⟩) (by simp only; omega)).trans d1, (hw'.cell (p := ⟨w.heap.size, 2, none⟩) (by simp only; omega)).trans d2, (hw'.cell (p := ⟨w.heap.size, 3, none⟩) (by simp only; omega)).trans d3, (hw'.cell (p := ⟨w.heap.size + 1, 0, none⟩) (by simp only; omega)).trans d4, (hw'.cell (p := ⟨B, P1, none⟩) (by simp only; omega)).trans d5, hlook w' (hb2.trans (hw'.mono hb2.size))⟩
  have hra' : ∀ w', Below W2.heap.size W2 w' → Calls Tryd.prog 64 #[workV b off n cap B eao en ecap M, .int .i64 P1] w' (AtPost none w') := fun w' hw' => hra w' (hb2.trans (hw'.mono hb2.size))
  have hrb' : Hid False → ∀ w', Below W2.heap.size W2 w' → Calls Tryd.prog 64 #[workV b off n cap B eao en ecap M, .int .i64 E1] w' (AtPost (some y) w') := fun hF w' hw' => hrb hF w' (hb2.trans (hw'.mono hb2.size))
  have hB0 : Below W2.heap.size W2 W2 := Below.refl _ _
  have HB2 : Hid (Below w.heap.size w W2) := hb2
  have hp0 : place < n := by omega
  have hi0 : (0 : Int) ≤ (P1 : Int) := by omega
  have hi1 : (P1 : Int) < (n : Int) := by omega
  have hpp : (place : Int) + 1 = (P1 : Int) := by omega
  have hwr : IntKind.i64.wrap (P1 : Int) = (P1 : Int) := wrap_small (by omega) (by omega)
  have hwr2 : IntKind.i64.wrap ((place : Int) + 1) = (P1 : Int) := by rw [hpp]; exact hwr
  clear hW2 hb2 hra hrb hlook hP1 hp hsz d0 d1 d2 d3 d4 d5
  go_enter Tryd.func64, Tryd.ntmps64
  go_wp2_with fail
  rw [← HW2.out]
  clear c0 c1 cE
  go_region_held2 (fun w' => w'.cell? ⟨w.heap.size, 0, none⟩ = some (.slice (some ⟨b, off, none⟩) n cap) ∧ w'.cell? ⟨w.heap.size, 1, none⟩ = some (.slice (some ⟨B, 0, none⟩) n n) ∧ w'.cell? ⟨w.heap.size, 2, none⟩ = some (.slice eao en ecap) ∧ w'.cell? ⟨w.heap.size, 3, none⟩ = some (.map (some M)) ∧ w'.cell? ⟨w.heap.size + 1, 0, none⟩ = some (.int .i64 k) ∧ w'.cell? ⟨B, P1, none⟩ = some (.int .i64 E1) ∧ (Instr.lookup 93 (.map (some M)) (.int .i64 k) false).run Tryd.prog w' = .ok (.func (.func F) #[] #[]) w')
    (exact hS _ (by first | exact hB0 | exact hB0.drew | exact hB0.drew.trans hb1 | exact (hB0.drew.trans hb1).trans (hb3.mono (hB0.drew.trans hb1).size)))
    (first | (go_at_call_of 64 E1; refine (hrb' hF _ (hB0.drew.trans hb1)).mono ?_; rintro e w3 ⟨hb3, rfl⟩) | (go_at_call 64; refine Calls.pan x (hra' _ hB0.drew) (fun w1 hb1 => ⟨rfl, HB2.out.trans ((hB0.drew.trans hb1).mono HB2.out.size), rfl⟩) (fun w1 hb1 hF => ?_)) | (refine (hpair _).mono ?_; rintro e w4 ⟨rfl, rfl⟩))
  all_goals exact hF.out.elim
set_option maxHeartbeats 800000 in
set_option maxRecDepth 20000 in
theorem at_bi_b (b off n cap B : Nat) (eao : Option Addr) (en ecap M place E1 F : Nat) (k x y z : Int) (w : World) (hob : b < w.heap.size) (hBB : B < w.heap.size) (hp : place + 1 < n) (P1 : Nat) (hP1 : P1 = place + 1) (h60 : n ≤ 60) (hk3 : 3 ≤ k) (hk9 : k ≤ 9) (c0 : w.cell? ⟨b, off + place * 2, none⟩ = some (.int .i64 k)) (c1 : w.cell? ⟨b, off + place * 2 + 1, none⟩ = some (.int .i64 0)) (cE : w.cell? ⟨B, P1, none⟩ = some (.int .i64 E1))
    (hlook : ∀ w', Below w.heap.size w w' → (Instr.lookup 93 (.map (some M)) (.int .i64 k) false).run Tryd.prog w' = .ok (.func (.func F) #[] #[]) w')
    (hent : ∀ args w, (callFunc F args).run Tryd.prog w = .ok (.enter F args) w)
    (hpair : ∀ w', Calls Tryd.prog F #[.int .i64 x, .int .i64 y] w' fun e w'' => e = .returned (.int .i64 z) ∧ w'' = w')
    (hra : ∀ w', Below w.heap.size w w' → Calls Tryd.prog 64 #[workV b off n cap B eao en ecap M, .int .i64 P1] w' (AtPost (some x) w'))
    (hrb : ∀ w', Below w.heap.size w w' → Calls Tryd.prog 64 #[workV b off n cap B eao en ecap M, .int .i64 E1] w' (AtPost none w')) :
    Calls Tryd.prog 64 #[workV b off n cap B eao en ecap M, .int .i64 place] w (AtPost none w) := by
  have hne : ¬ b = w.heap.size := by omega
  have hneB : ¬ B = w.heap.size := by omega
  have e1 : ¬ k = 1 := by omega
  have e2 : ¬ k = 2 := by omega
  have e3 : ¬ k = 10 := by omega
  have e4 : ¬ k = 11 := by omega
  have e5 : ¬ k = 12 := by omega
  obtain ⟨W2, hW2⟩ : ∃ W2, W2 = ((w.alloc (.cells #[.slice (some ⟨b, off, none⟩) n cap, .slice (some ⟨B, 0, none⟩) n n, .slice eao en ecap, .map (some M)] 96)).alloc (.cells #[.int .i64 k, .int .i64 0] 86)) := ⟨_, rfl⟩
  have hb2 : Below w.heap.size w W2 := by rw [hW2]; exact ((Below.refl _ _).alloc (Nat.le_refl _) _).alloc (by simp) _
  have hsz : W2.heap.size = w.heap.size + 1 + 1 := by rw [hW2]; simp
  have d0 : W2.cell? ⟨w.heap.size, 0, none⟩ = some (.slice (some ⟨b, off, none⟩) n cap) := by rw [hW2]; simp [go_sem]
  have d1 : W2.cell? ⟨w.heap.size, 1, none⟩ = some (.slice (some ⟨B, 0, none⟩) n n) := by rw [hW2]; simp [go_sem]
  have d2 : W2.cell? ⟨w.heap.size, 2, none⟩ = some (.slice eao en ecap) := by rw [hW2]; simp [go_sem]
  have d3 : W2.cell? ⟨w.heap.size, 3, none⟩ = some (.map (some M)) := by rw [hW2]; simp [go_sem]
  have d4 : W2.cell? ⟨w.heap.size + 1, 0, none⟩ = some (.int .i64 k) := by rw [hW2]; simp [go_sem]
  have d5 : W2.cell? ⟨B, P1, none⟩ = some (.int .i64 E1) := (hb2.cell (p := ⟨B, P1, none⟩) hBB).trans cE
  have HW2 := (show Hid _ from hW2)
  have hS : ∀ w', Below W2.heap.size W2 w' → w'.cell? ⟨w.heap.size, 0, none⟩ = some (.slice (some ⟨b, off, none⟩) n cap) ∧ w'.cell? ⟨w.heap.size, 1, none⟩ = some (.slice (some ⟨B, 0, none⟩) n n) ∧ w'.cell? ⟨w.heap.size, 2, none⟩ = some (.slice eao en ecap) ∧ w'.cell? ⟨w.heap.size, 3, none⟩ = some (.map (some M)) ∧ w'.cell? ⟨w.heap.size + 1, 0, none⟩ = some (.int .i64 k) ∧ w'.cell? ⟨B, P1, none⟩ = some (.int .i64 E1) ∧ (Instr.lookup 93 (.map (some M)) (.int .i64 k) false).run Tryd.prog w' = .ok (.func (.func F) #[] #[]) w' := fun w' hw' =>
    ⟨(hw'.cell (p := ⟨w.heap.size, 0, none⟩) (by simp only; omega)).trans d0, (hw'.cell (p := ⟨w.heap.size, 1, none⟩) (by simp only; omega)).trans d1, (hw'.cell (p := ⟨w.heap.size, 2, none⟩) (by simp only; omega)).trans d2, (hw'.cell (p := ⟨w.heap.size, 3, none⟩) (by simp only; omega)).trans d3, (hw'.cell (p := ⟨w.heap.size + 1, 0, none⟩) (by simp only; omega)).trans d4, (hw'.cell (p := ⟨B, P1, none⟩) (by simp only; omega)).trans d5, hlook w' (hb2.trans (hw'.mono hb2.size))⟩
  have hra' : ∀ w', Below W2.heap.size W2 w' → Calls Tryd.prog 64 #[workV b off n cap B eao en ecap M, .int .i64 P1] w' (AtPost (some x) w') := fun w' hw' => hra w' (hb2.trans (hw'.mono hb2.size))
  have hrb' : ∀ w', Below W2.heap.size W2 w' → Calls Tryd.prog 64 #[workV b off n cap B eao en ecap M, .int .i64 E1] w' (AtPost none w') := fun w' hw' => hrb w' (hb2.trans (hw'.mono hb2.size))
  have hB0 : Below W2.heap.size W2 W2 := Below.refl _ _
  have HB2 : Hid (Below w.heap.size w W2) := hb2
  have hp0 : place < n := by omega
  have hi0 : (0 : Int) ≤ (P1 : Int) := by omega
  have hi1 : (P1 : Int) < (n : Int) := by omega
  have hpp : (place : Int) + 1 = (P1 : Int) := by omega
  have hwr : IntKind.i64.wrap (P1 : Int) = (P1 : Int) := wrap_small (by omega) (by omega)
  have hwr2 : IntKind.i64.wrap ((place : Int) + 1) = (P1 : Int) := by rw [hpp]; exact hwr
  clear hW2 hb2 hra hrb hlook hP1 hp hsz d0 d1 d2 d3 d4 d5
  go_enter Tryd.func64, Tryd.ntmps64
  go_wp2_with fail
  rw [← HW2.out]
  clear c0 c1 cE
  go_region_held2 (fun w' => w'.cell? ⟨w.heap.size, 0, none⟩ = some (.slice (some ⟨b, off, none⟩) n cap) ∧ w'.cell? ⟨w.heap.size, 1, none⟩ = some (.slice (some ⟨B, 0, none⟩) n n) ∧ w'.cell? ⟨w.heap.size, 2, none⟩ = some (.slice eao en ecap) ∧ w'.cell? ⟨w.heap.size, 3, none⟩ = some (.map (some M)) ∧ w'.cell? ⟨w.heap.size + 1, 0, none⟩ = some (.int .i64 k) ∧ w'.cell? ⟨B, P1, none⟩ = some (.int .i64 E1) ∧ (Instr.lookup 93 (.map (some M)) (.int .i64 k) false).run Tryd.prog w' = .ok (.func (.func F) #[] #[]) w')
    (exact hS _ (by first | exact hB0 | exact hB0.drew | exact hB0.drew.trans hb1 | exact (hB0.drew.trans hb1).trans (hb3.mono (hB0.drew.trans hb1).size)))
    (first | (go_at_call_of 64 E1; refine Calls.pan y (hrb' _ (hB0.drew.trans hb1)) (fun w3 hb3 => ⟨rfl, HB2.out.trans (((hB0.drew.trans hb1).trans (hb3.mono (hB0.drew.trans hb1).size)).mono HB2.out.size), rfl⟩) (fun w3 hb3 hF => ?_)) | (go_at_call 64; refine (hra' _ hB0.drew).mono ?_; rintro e w1 ⟨hb1, rfl⟩) | (refine (hpair _).mono ?_; rintro e w4 ⟨rfl, rfl⟩))
  all_goals exact hF.out.elim
end Go.Proofs.YtnicbkkkecfdpaaDoor
