/-
  Proved: foretellkeep.EvalOrder answers true at every two lists of raw numbers and every three values (of two numbers one is the lower, or both are the same), given that the table polish.partCounts reads as its initialiser lays it, which the card ties to the program's text. No other condition.
-/
import Derived.Test.YtlmghhfpoeocnabDoorCards
import Derived.Test.YtlmghhfpoeocnabDoorTie
import Derived.Test.YtlmghhfpoeocnabDoorKeepEval
import Derived.Test.YtlmghhfpoeocnabDoorNumber
namespace Go.Proofs.YtlmghhfpoeocnabDoor
open Go.ChangeShapes Go.WideShapes Go.ChangeAt Go.RowKit Go.Deep
open Terms Tm

theorem cmp_one (x y : Int) : ∃ p q r : Int, lid (bin 7 x y) = some p ∧ lid (bin 7 y x) = some q ∧ lid (bin 6 x y) = some r ∧ ((p = 1 ∧ q = 0 ∧ r = 0) ∨ (p = 0 ∧ q = 1 ∧ r = 0) ∨ (p = 0 ∧ q = 0 ∧ r = 1)) := by
  have h : x < y ∨ y < x ∨ x = y := by omega
  rcases h with h | h | h
  · exact ⟨1, 0, 0, by simp [bin, lid, h], by rw [show bin 7 y x = 0 by simp [bin]; omega]; rfl, by rw [show bin 6 x y = 0 by simp [bin]; omega]; rfl, .inl ⟨rfl, rfl, rfl⟩⟩
  · exact ⟨0, 1, 0, by rw [show bin 7 x y = 0 by simp [bin]; omega]; rfl, by simp [bin, lid, h], by rw [show bin 6 x y = 0 by simp [bin]; omega]; rfl, .inr (.inl ⟨rfl, rfl, rfl⟩)⟩
  · subst h
    exact ⟨0, 0, 1, by simp [bin, lid], by simp [bin, lid], by simp [bin, lid], .inr (.inr ⟨rfl, rfl, rfl⟩)⟩

set_option maxHeartbeats 3200000 in
set_option maxRecDepth 20000 in
theorem evalOrder_walk (rx ry : Value) (rsx rsy : List (Int × Int)) (a b c : Int) (w : World) (hB : 0 < w.heap.size) (hT : TabAt w) (hRx : Raws w w.heap.size rx rsx) (hRy : Raws w w.heap.size ry rsy) (ia : I64 a) (ib : I64 b) (ic : I64 c) :
    Calls Tryd.prog 5 #[rx, ry, .agg #[.int .i64 a, .int .i64 b, .int .i64 c]] w fun e w' => e = .returned (.bool true) ∧ Below w.heap.size w w' := by
  have henv := fun w => env_any a b c w ia ib ic
  have hes := envL_s a b c
  generalize envL a b c = env at henv hes
  have HES : Hid (EnvS env) := hes
  obtain ⟨ra, rn, rc, hra⟩ : ∃ a n c, rx = .slice a n c := by obtain ⟨⟨a, c, h, _⟩, _, _⟩ := hRx; exact ⟨_, _, _, h⟩
  obtain ⟨sa, sn, sc, hsa⟩ : ∃ a n c, ry = .slice a n c := by obtain ⟨⟨a, c, h, _⟩, _, _⟩ := hRy; exact ⟨_, _, _, h⟩
  obtain ⟨W0, hW0⟩ : ∃ W0, W0 = w.alloc (.cells #[.int .i64 a, .int .i64 b, .int .i64 c] 30) := ⟨_, rfl⟩
  have hb0 : Below w.heap.size w W0 := by rw [hW0]; exact (Below.refl _ _).alloc (Nat.le_refl _) _
  have hsz0 : W0.heap.size = w.heap.size + 1 := by rw [hW0]; simp
  have d0 : W0.cell? ⟨w.heap.size, 0, none⟩ = some (.int .i64 a) := by rw [hW0]; simp [go_sem]
  have d1 : W0.cell? ⟨w.heap.size, 1, none⟩ = some (.int .i64 b) := by rw [hW0]; simp [go_sem]
  have d2 : W0.cell? ⟨w.heap.size, 2, none⟩ = some (.int .i64 c) := by rw [hW0]; simp [go_sem]
  have htr := numberFn_any rx rsx 3 W0 (by omega) (by omega) (hRx.later hb0)
  rw [hW0] at htr
  have HW0 := (show Hid _ from hW0)
  have HRY : Hid (Raws W0 W0.heap.size ry rsy) := hRy.later hb0
  have HB0 : Hid (Below w.heap.size w W0) := hb0
  have hB0 : 0 < W0.heap.size := by omega
  have HTb0 : Hid (∀ w', Below W0.heap.size W0 w' → 0 < w'.heap.size ∧ TabAt w' ∧ w'.cell? ⟨w.heap.size, 0, none⟩ = some (.int .i64 a) ∧ w'.cell? ⟨w.heap.size, 1, none⟩ = some (.int .i64 b) ∧ w'.cell? ⟨w.heap.size, 2, none⟩ = some (.int .i64 c)) := fun w' hw' =>
    ⟨Nat.lt_of_lt_of_le hB0 hw'.size, (hT.below hb0 hB).below hw' hB0, (hw'.cell (p := ⟨w.heap.size, 0, none⟩) (by simp only; omega)).trans d0, (hw'.cell (p := ⟨w.heap.size, 1, none⟩) (by simp only; omega)).trans d1, (hw'.cell (p := ⟨w.heap.size, 2, none⟩) (by simp only; omega)).trans d2⟩
  subst hra hsa
  clear hW0 hRx hRy hT hb0 d0 d1 d2 ia ib ic hsz0
  go_enter Tryd.func5, Tryd.ntmps5
  go_wp2_with (go_at_call_of 6 rn; refine htr.mono ?_; rintro e w0 ⟨av, la, rfl, htl, hll, hol, hb1⟩; obtain ⟨aa, ac, rfl⟩ := owns_slice hol)
  rw [← HW0.out] at hb1
  have hova := opsV_of_owns hol
  have htr2 := numberFn_any _ rsy 3 w0 (by omega) (by omega) (HRY.out.later hb1)
  obtain ⟨A, hA⟩ := htl.tree (by omega)
  have HNA : Hid (la.length ≤ 60 ∧ la ≠ []) := ⟨by omega, by rw [← hA.ops]; exact A.ops_ne⟩
  have hsA : A.size ≤ 26 := by rw [← A.ops_length, hA.ops]; omega
  have HOA0 : Hid (OpsV w0 (.slice aa la.length ac) la) := hova
  obtain ⟨na, hna⟩ : ∃ n, n = la.length := ⟨_, rfl⟩
  rw [← hna] at HOA0 ⊢
  clear htr htl hol hova hll hna
  go_wp2_with (go_at_call_of 6 sn; refine htr2.mono ?_; rintro e w1 ⟨bv, lb, rfl, htl, hll, hol, hb2⟩; obtain ⟨ba, bc, rfl⟩ := owns_slice hol)
  have hovb := opsV_of_owns hol
  obtain ⟨B, hB'⟩ := htl.tree (by omega)
  have HNB : Hid (lb.length ≤ 60 ∧ lb ≠ []) := ⟨by omega, by rw [← hB'.ops]; exact B.ops_ne⟩
  have hsB : B.size ≤ 26 := by rw [← B.ops_length, hB'.ops]; omega
  have HOA : Hid (∀ w', Below w1.heap.size w1 w' → OpsV w' (.slice aa na ac) la) := fun w' hw' => (HOA0.out.below hb2).below hw'
  have HOB : Hid (∀ w', Below w1.heap.size w1 w' → OpsV w' (.slice ba lb.length bc) lb) := fun w' hw' => hovb.below hw'
  obtain ⟨nb, hnb⟩ : ∃ n, n = lb.length := ⟨_, rfl⟩
  rw [← hnb] at HOB ⊢
  have hb01 := hb1.trans (hb2.mono hb1.size)
  have HTb : Hid (∀ w', Below w1.heap.size w1 w' → 0 < w'.heap.size ∧ TabAt w' ∧ w'.cell? ⟨w.heap.size, 0, none⟩ = some (.int .i64 a) ∧ w'.cell? ⟨w.heap.size, 1, none⟩ = some (.int .i64 b) ∧ w'.cell? ⟨w.heap.size, 2, none⟩ = some (.int .i64 c)) := fun w' hw' => HTb0.out w' (hb01.trans (hw'.mono hb01.size))
  have HBw : Hid (Below w.heap.size w w1) := HB0.out.trans (hb01.mono HB0.out.size)
  have HC0 : Hid (Below w1.heap.size w1 w1) := Below.refl _ _
  clear htr2 htl hol hovb hll hnb hb01 hb1 hb2 HTb0 HB0 HRY HW0 HOA0 hB0
  obtain ⟨x, hx, _⟩ := hA.eval env hes
  obtain ⟨y, hy, _⟩ := hB'.eval env hes
  obtain ⟨p, q, r, hp, hq, hr, hpqr⟩ := cmp_one x y
  have HP : Hid ((Tm.bi 7 0 A B).eval env = some p ∧ (Tm.bi 7 0 B A).eval env = some q ∧ (Tm.bi 6 0 A B).eval env = some r) := ⟨by simp only [Tm.eval, hx, hy]; exact hp, by simp only [Tm.eval, hx, hy]; exact hq, by simp only [Tm.eval, hx, hy]; exact hr⟩
  have H1 := (show Hid _ from hA.cmp (k := 7) (by omega) (by omega) hB')
  have H2 := (show Hid _ from hB'.cmp (k := 7) (by omega) (by omega) hA)
  have H3 := (show Hid _ from hA.cmp (k := 6) (by omega) (by omega) hB')
  have HSZ : Hid ((Tm.bi 7 0 A B).size ≤ 60 ∧ (Tm.bi 7 0 B A).size ≤ 60 ∧ (Tm.bi 6 0 A B).size ≤ 60) := by
    show _ ∧ _ ∧ _
    simp only [Tm.size]; omega
  clear hp hq hr hx hy hA hB' hes hsA hsB
  go_wp2_with fail
  have hB0 : Below w1.heap.size w1 w1 := Below.refl _ _
  have hX0 : Below w1.heap.size w1 ((w1.alloc (.cells #[.slice aa na ac, .slice ba nb bc] 23)).drew) := (hB0.alloc (Nat.le_refl _) _).drew
  have hS0 : ∀ w', Below w1.heap.size w1 w' → w'.cell? ⟨w.heap.size, 0, none⟩ = some (.int .i64 a) ∧ w'.cell? ⟨w.heap.size, 1, none⟩ = some (.int .i64 b) ∧ w'.cell? ⟨w.heap.size, 2, none⟩ = some (.int .i64 c) := fun w' hw' => (HTb.out w' (HC0.out.trans (hw'.mono HC0.out.size))).2.2
  have hJ0 := joined2 (7) w1.heap.size (.slice aa na ac) (.slice ba nb bc) la lb ((w1.alloc (.cells #[.slice aa na ac, .slice ba nb bc] 23)).drew) (by simp [go_sem]) (by simp [go_sem]) HNA.out.1 HNB.out.1 HNA.out.2 HNB.out.2 (HOA.out _ (HC0.out.trans (hX0.mono HC0.out.size))) (HOB.out _ (HC0.out.trans (hX0.mono HC0.out.size)))
  have hE0 : ∀ (w6 : World) (jv ev : Value), Below w1.heap.size w1 w6 → OpsV w6 jv (((7), 0) :: (la ++ lb)) → IntsV w6 ev env → Calls Tryd.prog 12 #[jv, ev] w6 fun e w' => e = .returned (.tuple #[.int .i64 p, .int .i64 0]) ∧ Below w6.heap.size w6 w' := fun w6 jv ev hw6 ho hi => by
    obtain ⟨hp6, ht6, _⟩ := HTb.out w6 (HC0.out.trans (hw6.mono HC0.out.size))
    exact eval_some jv ev env (.bi 7 0 A B) p w6 HP.out.1 hp6 ht6 HES.out H1.out.good H1.out.typed HSZ.out.1 (by rw [H1.out.ops]; exact ho) hi
  generalize ((((7), 0) :: (la ++ lb)) : List (Int × Int)).length = m0 at hJ0
  go_region_held3 (fun w' => w'.cell? ⟨w.heap.size, 0, none⟩ = some (.int .i64 a) ∧ w'.cell? ⟨w.heap.size, 1, none⟩ = some (.int .i64 b) ∧ w'.cell? ⟨w.heap.size, 2, none⟩ = some (.int .i64 c))
    (exact hS0 _ (by first | exact hB0 | exact hB0.drew | exact hX0 | exact hX0.trans (hb0a.mono hX0.size) | exact (hX0.trans (hb0a.mono hX0.size)).trans (hb0b.mono (hX0.trans (hb0a.mono hX0.size)).size) | exact ((hX0.trans (hb0a.mono hX0.size)).trans (hb0b.mono (hX0.trans (hb0a.mono hX0.size)).size)).trans (hb0c.mono ((hX0.trans (hb0a.mono hX0.size)).trans (hb0b.mono (hX0.trans (hb0a.mono hX0.size)).size)).size)))
    (first | (go_at_call 9; refine hJ0.mono ?_; rintro e w0a ⟨ja0, jc0, rfl, hb0a, hov0⟩) | (go_at_call 13; refine (henv _).mono ?_; rintro e w0b ⟨ev0, rfl, hie0, hb0b⟩; obtain ⟨ea0, ec0, rfl, hif0⟩ := hie0) | (go_at_call 12; refine (hE0 _ _ _ ((hX0.trans (hb0a.mono hX0.size)).trans (hb0b.mono (hX0.trans (hb0a.mono hX0.size)).size)) (hov0.below hb0b) ⟨ea0, ec0, rfl, hif0⟩).mono ?_; rintro e w0c ⟨rfl, hb0c⟩))
  have hbf0 := ((hX0.trans (hb0a.mono hX0.size)).trans (hb0b.mono (hX0.trans (hb0a.mono hX0.size)).size)).trans (hb0c.mono ((hX0.trans (hb0a.mono hX0.size)).trans (hb0b.mono (hX0.trans (hb0a.mono hX0.size)).size)).size)
  have HC1 : Hid (Below w1.heap.size w1 w0c) := HC0.out.trans (hbf0.mono HC0.out.size)
  clear hbf0 hb0a hb0b hb0c hov0 hif0 hE0 hJ0 hS0 hX0 hB0
  go_wp2_with fail
  have hB1 : Below w0c.heap.size w0c w0c := Below.refl _ _
  have hX1 : Below w0c.heap.size w0c ((w0c.alloc (.cells #[.slice ba nb bc, .slice aa na ac] 23)).drew) := (hB1.alloc (Nat.le_refl _) _).drew
  have hS1 : ∀ w', Below w0c.heap.size w0c w' → w'.cell? ⟨w.heap.size, 0, none⟩ = some (.int .i64 a) ∧ w'.cell? ⟨w.heap.size, 1, none⟩ = some (.int .i64 b) ∧ w'.cell? ⟨w.heap.size, 2, none⟩ = some (.int .i64 c) := fun w' hw' => (HTb.out w' (HC1.out.trans (hw'.mono HC1.out.size))).2.2
  have hJ1 := joined2 (7) w0c.heap.size (.slice ba nb bc) (.slice aa na ac) lb la ((w0c.alloc (.cells #[.slice ba nb bc, .slice aa na ac] 23)).drew) (by simp [go_sem]) (by simp [go_sem]) HNB.out.1 HNA.out.1 HNB.out.2 HNA.out.2 (HOB.out _ (HC1.out.trans (hX1.mono HC1.out.size))) (HOA.out _ (HC1.out.trans (hX1.mono HC1.out.size)))
  have hE1 : ∀ (w6 : World) (jv ev : Value), Below w0c.heap.size w0c w6 → OpsV w6 jv (((7), 0) :: (lb ++ la)) → IntsV w6 ev env → Calls Tryd.prog 12 #[jv, ev] w6 fun e w' => e = .returned (.tuple #[.int .i64 q, .int .i64 0]) ∧ Below w6.heap.size w6 w' := fun w6 jv ev hw6 ho hi => by
    obtain ⟨hp6, ht6, _⟩ := HTb.out w6 (HC1.out.trans (hw6.mono HC1.out.size))
    exact eval_some jv ev env (.bi 7 0 B A) q w6 HP.out.2.1 hp6 ht6 HES.out H2.out.good H2.out.typed HSZ.out.2.1 (by rw [H2.out.ops]; exact ho) hi
  generalize ((((7), 0) :: (lb ++ la)) : List (Int × Int)).length = m1 at hJ1
  go_region_held3 (fun w' => w'.cell? ⟨w.heap.size, 0, none⟩ = some (.int .i64 a) ∧ w'.cell? ⟨w.heap.size, 1, none⟩ = some (.int .i64 b) ∧ w'.cell? ⟨w.heap.size, 2, none⟩ = some (.int .i64 c))
    (exact hS1 _ (by first | exact hB1 | exact hB1.drew | exact hX1 | exact hX1.trans (hb1a.mono hX1.size) | exact (hX1.trans (hb1a.mono hX1.size)).trans (hb1b.mono (hX1.trans (hb1a.mono hX1.size)).size) | exact ((hX1.trans (hb1a.mono hX1.size)).trans (hb1b.mono (hX1.trans (hb1a.mono hX1.size)).size)).trans (hb1c.mono ((hX1.trans (hb1a.mono hX1.size)).trans (hb1b.mono (hX1.trans (hb1a.mono hX1.size)).size)).size)))
    (first | (go_at_call 9; refine hJ1.mono ?_; rintro e w1a ⟨ja1, jc1, rfl, hb1a, hov1⟩) | (go_at_call 13; refine (henv _).mono ?_; rintro e w1b ⟨ev1, rfl, hie1, hb1b⟩; obtain ⟨ea1, ec1, rfl, hif1⟩ := hie1) | (go_at_call 12; refine (hE1 _ _ _ ((hX1.trans (hb1a.mono hX1.size)).trans (hb1b.mono (hX1.trans (hb1a.mono hX1.size)).size)) (hov1.below hb1b) ⟨ea1, ec1, rfl, hif1⟩).mono ?_; rintro e w1c ⟨rfl, hb1c⟩))
  have hbf1 := ((hX1.trans (hb1a.mono hX1.size)).trans (hb1b.mono (hX1.trans (hb1a.mono hX1.size)).size)).trans (hb1c.mono ((hX1.trans (hb1a.mono hX1.size)).trans (hb1b.mono (hX1.trans (hb1a.mono hX1.size)).size)).size)
  have HC2 : Hid (Below w1.heap.size w1 w1c) := HC1.out.trans (hbf1.mono HC1.out.size)
  clear hbf1 hb1a hb1b hb1c hov1 hif1 hE1 hJ1 hS1 hX1 hB1
  go_wp2_with fail
  have hB2 : Below w1c.heap.size w1c w1c := Below.refl _ _
  have hX2 : Below w1c.heap.size w1c ((w1c.alloc (.cells #[.slice aa na ac, .slice ba nb bc] 23)).drew) := (hB2.alloc (Nat.le_refl _) _).drew
  have hS2 : ∀ w', Below w1c.heap.size w1c w' → w'.cell? ⟨w.heap.size, 0, none⟩ = some (.int .i64 a) ∧ w'.cell? ⟨w.heap.size, 1, none⟩ = some (.int .i64 b) ∧ w'.cell? ⟨w.heap.size, 2, none⟩ = some (.int .i64 c) := fun w' hw' => (HTb.out w' (HC2.out.trans (hw'.mono HC2.out.size))).2.2
  have hJ2 := joined2 (6) w1c.heap.size (.slice aa na ac) (.slice ba nb bc) la lb ((w1c.alloc (.cells #[.slice aa na ac, .slice ba nb bc] 23)).drew) (by simp [go_sem]) (by simp [go_sem]) HNA.out.1 HNB.out.1 HNA.out.2 HNB.out.2 (HOA.out _ (HC2.out.trans (hX2.mono HC2.out.size))) (HOB.out _ (HC2.out.trans (hX2.mono HC2.out.size)))
  have hE2 : ∀ (w6 : World) (jv ev : Value), Below w1c.heap.size w1c w6 → OpsV w6 jv (((6), 0) :: (la ++ lb)) → IntsV w6 ev env → Calls Tryd.prog 12 #[jv, ev] w6 fun e w' => e = .returned (.tuple #[.int .i64 r, .int .i64 0]) ∧ Below w6.heap.size w6 w' := fun w6 jv ev hw6 ho hi => by
    obtain ⟨hp6, ht6, _⟩ := HTb.out w6 (HC2.out.trans (hw6.mono HC2.out.size))
    exact eval_some jv ev env (.bi 6 0 A B) r w6 HP.out.2.2 hp6 ht6 HES.out H3.out.good H3.out.typed HSZ.out.2.2 (by rw [H3.out.ops]; exact ho) hi
  generalize ((((6), 0) :: (la ++ lb)) : List (Int × Int)).length = m2 at hJ2
  go_region_held3 (fun w' => w'.cell? ⟨w.heap.size, 0, none⟩ = some (.int .i64 a) ∧ w'.cell? ⟨w.heap.size, 1, none⟩ = some (.int .i64 b) ∧ w'.cell? ⟨w.heap.size, 2, none⟩ = some (.int .i64 c))
    (exact hS2 _ (by first | exact hB2 | exact hB2.drew | exact hX2 | exact hX2.trans (hb2a.mono hX2.size) | exact (hX2.trans (hb2a.mono hX2.size)).trans (hb2b.mono (hX2.trans (hb2a.mono hX2.size)).size) | exact ((hX2.trans (hb2a.mono hX2.size)).trans (hb2b.mono (hX2.trans (hb2a.mono hX2.size)).size)).trans (hb2c.mono ((hX2.trans (hb2a.mono hX2.size)).trans (hb2b.mono (hX2.trans (hb2a.mono hX2.size)).size)).size)))
    (first | (go_at_call 9; refine hJ2.mono ?_; rintro e w2a ⟨ja2, jc2, rfl, hb2a, hov2⟩) | (go_at_call 13; refine (henv _).mono ?_; rintro e w2b ⟨ev2, rfl, hie2, hb2b⟩; obtain ⟨ea2, ec2, rfl, hif2⟩ := hie2) | (go_at_call 12; refine (hE2 _ _ _ ((hX2.trans (hb2a.mono hX2.size)).trans (hb2b.mono (hX2.trans (hb2a.mono hX2.size)).size)) (hov2.below hb2b) ⟨ea2, ec2, rfl, hif2⟩).mono ?_; rintro e w2c ⟨rfl, hb2c⟩))
  have hbf2 := ((hX2.trans (hb2a.mono hX2.size)).trans (hb2b.mono (hX2.trans (hb2a.mono hX2.size)).size)).trans (hb2c.mono ((hX2.trans (hb2a.mono hX2.size)).trans (hb2b.mono (hX2.trans (hb2a.mono hX2.size)).size)).size)
  have HC3 : Hid (Below w1.heap.size w1 w2c) := HC2.out.trans (hbf2.mono HC2.out.size)
  clear hbf2 hb2a hb2b hb2c hov2 hif2 hE2 hJ2 hS2 hX2 hB2
  have HBf : Hid (Below w.heap.size w w2c) := HBw.out.trans (HC3.out.mono HBw.out.size)
  rcases hpqr with ⟨rfl, rfl, rfl⟩ | ⟨rfl, rfl, rfl⟩ | ⟨rfl, rfl, rfl⟩
  all_goals
    go_wp2_with fail
    go_ret
    exact ⟨rfl, HBf.out⟩

theorem evalOrder_contract (H : Type) (enc : TypeId × Value → H) (W : World) (base : Nat) (args : Array Value) (ds gs : List (DataW H)) (before : List MemPlace)
    (hval : ∀ (j : Nat) t v, Tryd.f5.params[j]? = some t → args[j]? = some v → Value.okWide Tryd.prog W .any base t v)
    (hW : DataW.Whole enc Tryd.prog Tryd.f5.params.toList Rows.evalOrderSpec.vars false W args.toList ds gs before)
    (hsz0 : (DataW.weightsEach Tryd.prog (Tryd.f5.params.toList ++ (OpenSpec.ofChange Rows.evalOrderSpec).bare.plain.varTypes Tryd.prog) (ds ++ gs)).all (· ≤ reachBytes) = true)
    (hL : laidMetH Tryd.prog Rows.evalOrderRow.laid W) :
    Calls Tryd.prog 5 args W fun e W' => ∃ v, e = .returned v ∧ Rows.evalOrderSpec.post enc Tryd.prog Tryd.f5 false true false false W args v W' := by
  have hW' := hW
  obtain ⟨p, q, hA0, hV, rfl, hfz, hnd⟩ := hW
  have hA : DataW.TrodAll enc Tryd.prog W 0 (fun _ => true) true Tryd.f5.params.toList args.toList ds p := hA0
  rw [Tryd.params5] at hA hval
  obtain ⟨v0, vs0, d0, ds0, p0, q0, hargs, rfl, rfl, h0, r0⟩ := trodAll_cons hA
  obtain ⟨v1, vs1, d1, ds1, p1, q1, rfl, rfl, rfl, h1, r1⟩ := trodAll_cons r0
  obtain ⟨v2, vs2, d2, ds2, p2, q2, rfl, rfl, rfl, h2, r2⟩ := trodAll_cons r1
  obtain ⟨rfl, rfl, rfl⟩ := trodAll_nil r2
  obtain rfl : args = #[v0, v1, v2] := by cases args; simp_all
  obtain ⟨rfl, rfl⟩ := trodVars_none hV
  have hsz : (DataW.weightsEach Tryd.prog [22, 22, 30] [d0, d1, d2]).all (· ≤ reachBytes) = true := hsz0
  obtain ⟨rs, hrs⟩ := open_raws (hval 0 22 v0 rfl rfl) h0 hsz (j := 0) rfl rfl
  obtain ⟨ms, hms⟩ := open_raws (hval 1 22 v1 rfl rfl) h1 hsz (j := 1) rfl rfl
  obtain ⟨a, b, c, rfl, ia, ib, ic⟩ := open_arr3 (hval 2 30 v2 rfl rfl) h2
  have hT := tabAt hL
  refine (evalOrder_walk v0 v1 rs ms a b c W (tab_size hT) hT hrs hms ia ib ic).mono fun e W' ⟨he, hb⟩ => ⟨_, he, ?_⟩
  refine law_post (fun t ht => ?_) rfl (by kernel_rfl) hW' rfl rfl rfl hb
  rw [Tryd.params5] at ht
  simp only [List.mem_cons, List.not_mem_nil, or_false] at ht
  rcases ht with rfl | rfl | rfl
  · exact ⟨by kernel_rfl, of_decide_eq_true (by kernel_rfl)⟩
  · exact ⟨by kernel_rfl, of_decide_eq_true (by kernel_rfl)⟩
  · exact ⟨by kernel_rfl, of_decide_eq_true (by kernel_rfl)⟩

/-- A WORLD FOR THE WITNESS: the settled one, the table (block 0) holding what its initialiser lays. -/
noncomputable def evalOrderWorld (os : Os) : World :=
  { World.holding Tryd.prog os ⟨#[], #[], []⟩ with heap := (World.holding Tryd.prog os ⟨#[], #[], []⟩).heap.modify 0 fun
      | .cells _ t frozen => .cells #[.int .i64 0, .int .i64 0, .int .i64 0, .int .i64 2, .int .i64 2, .int .i64 2, .int .i64 2, .int .i64 2, .int .i64 2, .int .i64 2, .int .i64 1, .int .i64 0, .int .i64 0, .int .i64 0, .int .i64 1, .int .i64 2, .int .i64 2, .int .i64 1, .int .i64 1] t frozen
      | o => o }
theorem evalOrder_met (os : Os) : laidMet Tryd.prog Rows.evalOrderRow.laid ((evalOrderWorld os).forCall (fun _ _ => 0) ⟨#[], #[.slice none 0 0, .slice none 0 0, .agg #[.int .i64 0, .int .i64 0, .int .i64 0]], []⟩).memory :=
  laidMet_of_run' 8 (by kernel_rfl) (by kernel_rfl)
theorem evalOrder_reads (os : Os) {H : Type} (enc : TypeId × Value → H) : ∃ places, DataW.whole enc Tryd.prog ((evalOrderWorld os).forCall (fun _ _ => 0) ⟨#[], #[.slice none 0 0, .slice none 0 0, .agg #[.int .i64 0, .int .i64 0, .int .i64 0]], []⟩).memory Tryd.f5.params.toList Rows.evalOrderSpec.vars false #[Value.slice none 0 0, .slice none 0 0, .agg #[.int .i64 0, .int .i64 0, .int .i64 0]].toList 8 = some ([.nil, .nil, .agg [.lit (.int .i64 0), .lit (.int .i64 0), .lit (.int .i64 0)]], [], places) :=
  ⟨[], by kernel_rfl⟩

set_option maxRecDepth 100000 in
theorem evalOrder_lifted (os : Os) (started : os.Started) (H : Type) (enc : TypeId × Value → H) (F : Stop.Interp) :
    ReturnsInHanded {} Tryd.checked os 5 .any ((OpenSpec.ofChange Rows.evalOrderSpec).preRow enc Tryd.prog Tryd.f5 Rows.evalOrderRow.domain false Rows.evalOrderRow.laid) (((OpenSpec.ofChange Rows.evalOrderSpec).at F).post enc Tryd.prog Tryd.f5 false true false false) := by
  obtain ⟨places, hx⟩ := evalOrder_reads os enc
  refine returnsInHanded_of_row (C := Tryd.checked) (s := OpenSpec.ofChange Rows.evalOrderSpec) own started (by kernel_rfl) Tryd.func5
    (witness_row_at (enc := enc) (C := Tryd.checked) false (evalOrderWorld os) #[.slice none 0 0, .slice none 0 0, .agg #[.int .i64 0, .int .i64 0, .int .i64 0]] rfl (by kernel_rfl) (by kernel_rfl) (by kernel_rfl)
      (OpenSpec.preRow_of_cond 8 hx (by kernel_rfl) (fun k hk => by cases hk) (by kernel_rfl) (evalOrder_met os))) ?_
  intro W base args ds gs before hval hW _ _ hsz hL _ _
  exact evalOrder_contract H enc W base args ds gs before hval hW hsz hL

theorem evalOrder_said : Rows.EvalOrderSaid :=
  OpenClaim.holds_of_cond 5 Tryd.f5 rfl rfl rfl rfl rfl rfl rfl ⟨rfl, rfl, rfl, rfl, rfl⟩ rfl rfl rfl rfl rfl (by kernel_rfl) Tryd.func5 (by kernel_rfl)
    (of_decide_eq_true (by kernel_rfl)) (by unfold Func.isWrapper; first | (rw [if_pos (by decide +kernel)]; kernel_rfl) | (rw [if_neg (by decide +kernel)]; exact ⟨rfl, rfl⟩))
    (fun os started H enc _ F => by rw [OpenClaim.pre_eq_preRow]; exact evalOrder_lifted os started H enc F)

theorem evalOrder_plain (f : FuncId) (fn : Func) (hf : Tryd.pinned.checked.prog.funcNamed "foretell/foretellkeep.EvalOrder" = some f) (hfn : Tryd.pinned.checked.prog.funcs[f]? = some fn) :
    true = Tryd.pinned.checked.prog.looks [] ∧ ∀ (j : Nat) t, fn.params[j]? = some t → Tryd.pinned.checked.prog.wantsStandIn t = false := by
  obtain rfl : f = 5 := Option.some.inj ((show Tryd.prog.funcNamed "foretell/foretellkeep.EvalOrder" = some 5 by kernel_rfl).symm.trans hf) |>.symm
  obtain rfl : fn = Tryd.f5 := (Option.some.inj (Tryd.func5.symm.trans hfn)).symm
  refine ⟨by kernel_rfl, fun j t ht => ?_⟩
  rw [Tryd.params5] at ht
  have ht' := Array.mem_of_getElem? ht
  simp only [List.mem_toArray, List.mem_cons, List.not_mem_nil, or_false] at ht'
  rcases ht' with rfl | rfl | rfl
  · exact (show Tryd.prog.wantsStandIn 22 = false by kernel_rfl)
  · exact (show Tryd.prog.wantsStandIn 22 = false by kernel_rfl)
  · exact (show Tryd.prog.wantsStandIn 30 = false by kernel_rfl)

/-- THE CARD. -/
theorem evalOrder_card : Rows.EvalOrderCardSaid :=
  Claim7.holds_tied_plain_at .later [] _ _ _ _ evalOrder_said (fun _ h => by cases h) (by kernel_rfl) (fun _ h => by cases h) evalOrder_row_tie rfl ⟨rfl, rfl⟩ (by kernel_rfl) rfl evalOrder_plain (by kernel_rfl)
#print axioms evalOrder_card
end Go.Proofs.YtlmghhfpoeocnabDoor
