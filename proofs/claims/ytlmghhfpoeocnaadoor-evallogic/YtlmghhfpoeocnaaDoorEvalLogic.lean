/-
  Proved: foretellkeep.EvalLogic answers true at every two lists of raw numbers and every three values (Not And is Or of Nots, and the other way round), given that the table polish.partCounts reads as its initialiser lays it, which the card ties to the program's text. No other condition.
-/
import Derived.Test.YtlmghhfpoeocnaaDoorCards
import Derived.Test.YtlmghhfpoeocnaaDoorTie
import Derived.Test.YtlmghhfpoeocnaaDoorKeepEval
namespace Go.Proofs.YtlmghhfpoeocnaaDoor
open Go.ChangeShapes Go.WideShapes Go.ChangeAt Go.RowKit Go.Deep
open Terms Tm

set_option maxHeartbeats 12800000 in
set_option maxRecDepth 20000 in
theorem evalLogic_walk (rx ry : Value) (rsx rsy : List (Int × Int)) (a b c : Int) (w : World) (hB : 0 < w.heap.size) (hT : TabAt w) (hRx : Raws w w.heap.size rx rsx) (hRy : Raws w w.heap.size ry rsy) (ia : I64 a) (ib : I64 b) (ic : I64 c) :
    Calls Tryd.prog 7 #[rx, ry, .agg #[.int .i64 a, .int .i64 b, .int .i64 c]] w fun e w' => e = .returned (.bool true) ∧ Below w.heap.size w w' := by
  have henv := fun w => env_any a b c w ia ib ic
  have hes := envL_s a b c
  generalize envL a b c = env at henv hes
  have HES : Hid (EnvS env) := hes
  obtain ⟨ra, rn, rc, hra⟩ : ∃ a n c, rx = .slice a n c := by obtain ⟨⟨a, c, h, _⟩, _, _⟩ := hRx; exact ⟨_, _, _, h⟩
  obtain ⟨sa, sn, sc, hsa⟩ : ∃ a n c, ry = .slice a n c := by obtain ⟨⟨a, c, h, _⟩, _, _⟩ := hRy; exact ⟨_, _, _, h⟩
  obtain ⟨W0, hW0⟩ : ∃ W0, W0 = w.alloc (.cells #[.int .i64 a, .int .i64 b, .int .i64 c] 35) := ⟨_, rfl⟩
  have hb0 : Below w.heap.size w W0 := by rw [hW0]; exact (Below.refl _ _).alloc (Nat.le_refl _) _
  have hsz0 : W0.heap.size = w.heap.size + 1 := by rw [hW0]; simp
  have d0 : W0.cell? ⟨w.heap.size, 0, none⟩ = some (.int .i64 a) := by rw [hW0]; simp [go_sem]
  have d1 : W0.cell? ⟨w.heap.size, 1, none⟩ = some (.int .i64 b) := by rw [hW0]; simp [go_sem]
  have d2 : W0.cell? ⟨w.heap.size, 2, none⟩ = some (.int .i64 c) := by rw [hW0]; simp [go_sem]
  have htr := truthFn_any rx rsx 3 W0 (by omega) (by omega) (hRx.later hb0)
  rw [hW0] at htr
  have HW0 := (show Hid _ from hW0)
  have HRY : Hid (Raws W0 W0.heap.size ry rsy) := hRy.later hb0
  have HB0 : Hid (Below w.heap.size w W0) := hb0
  have hB0 : 0 < W0.heap.size := by omega
  have HTb0 : Hid (∀ w', Below W0.heap.size W0 w' → 0 < w'.heap.size ∧ TabAt w' ∧ w'.cell? ⟨w.heap.size, 0, none⟩ = some (.int .i64 a) ∧ w'.cell? ⟨w.heap.size, 1, none⟩ = some (.int .i64 b) ∧ w'.cell? ⟨w.heap.size, 2, none⟩ = some (.int .i64 c)) := fun w' hw' =>
    ⟨Nat.lt_of_lt_of_le hB0 hw'.size, (hT.below hb0 hB).below hw' hB0, (hw'.cell (p := ⟨w.heap.size, 0, none⟩) (by simp only; omega)).trans d0, (hw'.cell (p := ⟨w.heap.size, 1, none⟩) (by simp only; omega)).trans d1, (hw'.cell (p := ⟨w.heap.size, 2, none⟩) (by simp only; omega)).trans d2⟩
  subst hra hsa
  clear hW0 hRx hRy hT hb0 d0 d1 d2 ia ib ic hsz0
  go_enter Tryd.func7, Tryd.ntmps7
  go_wp2_with (go_at_call_of 16 rn; refine htr.mono ?_; rintro e w0 ⟨av, la, rfl, htl, hll, hol, hb1⟩; obtain ⟨aa, ac, rfl⟩ := owns_slice hol)
  rw [← HW0.out] at hb1
  have hova := opsV_of_owns hol
  have htr2 := truthFn_any _ rsy 3 w0 (by omega) (by omega) (HRY.out.later hb1)
  obtain ⟨A, hA⟩ := htl.tree
  have HLa : Hid (la.length ≤ 26) := by show _ ≤ _; omega
  have HNA : Hid (la.length ≤ 60 ∧ la ≠ []) := ⟨by omega, by rw [← hA.ops]; exact A.ops_ne⟩
  have hsA : A.size ≤ 26 := by rw [← A.ops_length, hA.ops]; omega
  have HOA0 : Hid (OpsV w0 (.slice aa la.length ac) la) := hova
  obtain ⟨na, hna⟩ : ∃ n, n = la.length := ⟨_, rfl⟩
  rw [← hna] at HOA0 ⊢
  clear htr htl hol hova hll hna
  go_wp2_with (go_at_call_of 16 sn; refine htr2.mono ?_; rintro e w1 ⟨bv, lb, rfl, htl, hll, hol, hb2⟩; obtain ⟨ba, bc, rfl⟩ := owns_slice hol)
  have hovb := opsV_of_owns hol
  obtain ⟨B, hB'⟩ := htl.tree
  have HLL : Hid (la.length ≤ 26 ∧ lb.length ≤ 26) := ⟨HLa.out, by omega⟩
  have HNB : Hid (lb.length ≤ 60 ∧ lb ≠ []) := ⟨by omega, by rw [← hB'.ops]; exact B.ops_ne⟩
  have hsB : B.size ≤ 26 := by rw [← B.ops_length, hB'.ops]; omega
  have HOA : Hid (∀ w', Below w1.heap.size w1 w' → OpsV w' (.slice aa na ac) la) := fun w' hw' => (HOA0.out.below hb2).below hw'
  have HOB : Hid (∀ w', Below w1.heap.size w1 w' → OpsV w' (.slice ba lb.length bc) lb) := fun w' hw' => hovb.below hw'
  obtain ⟨nb, hnb⟩ : ∃ n, n = lb.length := ⟨_, rfl⟩
  rw [← hnb] at HOB ⊢
  have hb01 := hb1.trans (hb2.mono hb1.size)
  have HTb : Hid (∀ w', Below w1.heap.size w1 w' → 0 < w'.heap.size ∧ TabAt w' ∧ w'.cell? ⟨w.heap.size, 0, none⟩ = some (.int .i64 a) ∧ w'.cell? ⟨w.heap.size, 1, none⟩ = some (.int .i64 b) ∧ w'.cell? ⟨w.heap.size, 2, none⟩ = some (.int .i64 c)) := fun w' hw' => HTb0.out w' (hb01.trans (hw'.mono hb01.size))
  have HBw : Hid (Below w.heap.size w w1) := HB0.out.trans (hb01.mono HB0.out.size)
  have HC0 : Hid (Below w1.heap.size w1 w1) := Below.refl _ _
  clear htr2 htl hol hovb hll hnb hb01 hb1 hb2 HTb0 HB0 HRY HW0 HOA0 hB0
  obtain ⟨x, hx, hx01⟩ := hA.eval env hes
  obtain ⟨y, hy, hy01⟩ := hB'.eval env hes
  have T1 := (hA.bin (k := 8) (by omega) (by omega) hB').not
  have T2 := hA.not.bin (k := 9) (by omega) (by omega) hB'.not
  have T3 := hA.bin (k := 9) (by omega) (by omega) hB'
  have T4 := (hA.not.bin (k := 8) (by omega) (by omega) hB'.not).not
  have T5 := hA.bin (k := 9) (by omega) (by omega) hA.not
  have HSZ : Hid ((Tm.un 10 0 (.bi 8 0 A B)).size ≤ 60 ∧ (Tm.bi 9 0 (.un 10 0 A) (.un 10 0 B)).size ≤ 60 ∧ (Tm.bi 9 0 A B).size ≤ 60 ∧ (Tm.un 10 0 (.bi 8 0 (.un 10 0 A) (.un 10 0 B))).size ≤ 60 ∧ (Tm.bi 9 0 A (.un 10 0 A)).size ≤ 60) := by
    show _ ∧ _ ∧ _ ∧ _ ∧ _
    simp only [Tm.size]; omega
  obtain ⟨p, r, hpr, HEV0⟩ : ∃ p r : Int, ((p = 0 ∧ r = 0) ∨ (p = 0 ∧ r = 1) ∨ (p = 1 ∧ r = 0) ∨ (p = 1 ∧ r = 1)) ∧ ((Tm.un 10 0 (.bi 8 0 A B)).eval env = some p ∧ (Tm.bi 9 0 (.un 10 0 A) (.un 10 0 B)).eval env = some p ∧ (Tm.bi 9 0 A B).eval env = some r ∧ (Tm.un 10 0 (.bi 8 0 (.un 10 0 A) (.un 10 0 B))).eval env = some r ∧ (Tm.bi 9 0 A (.un 10 0 A)).eval env = some 1) := by
    rcases hx01 with rfl | rfl <;> rcases hy01 with rfl | rfl
    · exact ⟨1, 0, by omega, by simp [Tm.eval, hx, hy, bin, lid]⟩
    · exact ⟨1, 1, by omega, by simp [Tm.eval, hx, hy, bin, lid]⟩
    · exact ⟨1, 1, by omega, by simp [Tm.eval, hx, hy, bin, lid]⟩
    · exact ⟨0, 1, by omega, by simp [Tm.eval, hx, hy, bin, lid]⟩
  have HEV := (show Hid _ from HEV0)
  have H1 := (show Hid _ from T1)
  have H2 := (show Hid _ from T2)
  have H3 := (show Hid _ from T3)
  have H4 := (show Hid _ from T4)
  have H5 := (show Hid _ from T5)
  clear T1 T2 T3 T4 T5 HEV0 hx hy hx01 hy01 hA hB' hes hsA hsB
  go_wp2_with fail
  have HLN0 : Hid (((((8), 0) :: (la ++ lb)) : List (Int × Int)).length ≤ 60) := by
    show _ ≤ _
    simp
    have := HLL.out
    omega
  have hB0 : Below w1.heap.size w1 w1 := Below.refl _ _
  have hX0 : Below w1.heap.size w1 ((w1.alloc (.cells #[.slice aa na ac, .slice ba nb bc] 22)).drew) := (hB0.alloc (Nat.le_refl _) _).drew
  have hS0 : ∀ w', Below w1.heap.size w1 w' → w'.cell? ⟨w.heap.size, 0, none⟩ = some (.int .i64 a) ∧ w'.cell? ⟨w.heap.size, 1, none⟩ = some (.int .i64 b) ∧ w'.cell? ⟨w.heap.size, 2, none⟩ = some (.int .i64 c) := fun w' hw' => (HTb.out w' (HC0.out.trans (hw'.mono HC0.out.size))).2.2
  have hJ0 := joined2 (8) w1.heap.size (.slice aa na ac) (.slice ba nb bc) la lb ((w1.alloc (.cells #[.slice aa na ac, .slice ba nb bc] 22)).drew) (by simp [go_sem]) (by simp [go_sem]) HNA.out.1 HNB.out.1 HNA.out.2 HNB.out.2 (HOA.out _ (HC0.out.trans (hX0.mono HC0.out.size))) (HOB.out _ (HC0.out.trans (hX0.mono HC0.out.size)))
  have hK0 : ∀ (w5 : World) (jv : Value), Below w1.heap.size w1 w5 → OpsV w5 jv (((8), 0) :: (la ++ lb)) → Calls Tryd.prog 18 #[.int .i64 (10), .slice (some ⟨w5.heap.size, 0, none⟩) 1 1] (w5.alloc (.cells #[jv] 22)) fun e w' => ∃ a c, e = .returned (.slice a ((((10), 0) :: (((8), 0) :: (la ++ lb))) : List (Int × Int)).length c) ∧ Below (w5.alloc (.cells #[jv] 22)).heap.size (w5.alloc (.cells #[jv] 22)) w' ∧ OpsV w' (.slice a ((((10), 0) :: (((8), 0) :: (la ++ lb))) : List (Int × Int)).length c) (((10), 0) :: (((8), 0) :: (la ++ lb))) := fun w5 jv hw5 ho => by
    have hx5 : Below w5.heap.size w5 (w5.alloc (.cells #[jv] 22)) := (Below.refl _ _).alloc (Nat.le_refl _) _
    exact joined1 (10) w5.heap.size jv (((8), 0) :: (la ++ lb)) _ (by simp [go_sem]) HLN0.out (by simp) (ho.below hx5)
  have hE0 : ∀ (w6 : World) (jv ev : Value), Below w1.heap.size w1 w6 → OpsV w6 jv (((10), 0) :: (((8), 0) :: (la ++ lb))) → IntsV w6 ev env → Calls Tryd.prog 13 #[jv, ev] w6 fun e w' => e = .returned (.tuple #[.int .i64 p, .int .i64 0]) ∧ Below w6.heap.size w6 w' := fun w6 jv ev hw6 ho hi => by
    obtain ⟨hp6, ht6, _⟩ := HTb.out w6 (HC0.out.trans (hw6.mono HC0.out.size))
    exact eval_some jv ev env (.un 10 0 (.bi 8 0 A B)) p w6 HEV.out.1 hp6 ht6 HES.out H1.out.good H1.out.typed HSZ.out.1 (by rw [H1.out.ops]; exact ho) hi
  generalize ((((8), 0) :: (la ++ lb)) : List (Int × Int)).length = m0 at hJ0
  generalize ((((10), 0) :: (((8), 0) :: (la ++ lb))) : List (Int × Int)).length = mm0 at hK0
  go_region_held3 (fun w' => w'.cell? ⟨w.heap.size, 0, none⟩ = some (.int .i64 a) ∧ w'.cell? ⟨w.heap.size, 1, none⟩ = some (.int .i64 b) ∧ w'.cell? ⟨w.heap.size, 2, none⟩ = some (.int .i64 c))
    (exact hS0 _ (by first | exact hB0 | exact hB0.drew | exact hX0 | exact ((((hX0.trans (hb0a.mono hX0.size)).trans ((Below.alloc (Below.refl _ _) (Nat.le_refl _) _).mono (hX0.trans (hb0a.mono hX0.size)).size)).trans (hb0d.mono ((hX0.trans (hb0a.mono hX0.size)).trans ((Below.alloc (Below.refl _ _) (Nat.le_refl _) _).mono (hX0.trans (hb0a.mono hX0.size)).size)).size)).trans (hb0b.mono (((hX0.trans (hb0a.mono hX0.size)).trans ((Below.alloc (Below.refl _ _) (Nat.le_refl _) _).mono (hX0.trans (hb0a.mono hX0.size)).size)).trans (hb0d.mono ((hX0.trans (hb0a.mono hX0.size)).trans ((Below.alloc (Below.refl _ _) (Nat.le_refl _) _).mono (hX0.trans (hb0a.mono hX0.size)).size)).size)).size)).trans (hb0c.mono ((((hX0.trans (hb0a.mono hX0.size)).trans ((Below.alloc (Below.refl _ _) (Nat.le_refl _) _).mono (hX0.trans (hb0a.mono hX0.size)).size)).trans (hb0d.mono ((hX0.trans (hb0a.mono hX0.size)).trans ((Below.alloc (Below.refl _ _) (Nat.le_refl _) _).mono (hX0.trans (hb0a.mono hX0.size)).size)).size)).trans (hb0b.mono (((hX0.trans (hb0a.mono hX0.size)).trans ((Below.alloc (Below.refl _ _) (Nat.le_refl _) _).mono (hX0.trans (hb0a.mono hX0.size)).size)).trans (hb0d.mono ((hX0.trans (hb0a.mono hX0.size)).trans ((Below.alloc (Below.refl _ _) (Nat.le_refl _) _).mono (hX0.trans (hb0a.mono hX0.size)).size)).size)).size)).size) | exact (((hX0.trans (hb0a.mono hX0.size)).trans ((Below.alloc (Below.refl _ _) (Nat.le_refl _) _).mono (hX0.trans (hb0a.mono hX0.size)).size)).trans (hb0d.mono ((hX0.trans (hb0a.mono hX0.size)).trans ((Below.alloc (Below.refl _ _) (Nat.le_refl _) _).mono (hX0.trans (hb0a.mono hX0.size)).size)).size)).trans (hb0b.mono (((hX0.trans (hb0a.mono hX0.size)).trans ((Below.alloc (Below.refl _ _) (Nat.le_refl _) _).mono (hX0.trans (hb0a.mono hX0.size)).size)).trans (hb0d.mono ((hX0.trans (hb0a.mono hX0.size)).trans ((Below.alloc (Below.refl _ _) (Nat.le_refl _) _).mono (hX0.trans (hb0a.mono hX0.size)).size)).size)).size) | exact ((hX0.trans (hb0a.mono hX0.size)).trans ((Below.alloc (Below.refl _ _) (Nat.le_refl _) _).mono (hX0.trans (hb0a.mono hX0.size)).size)).trans (hb0d.mono ((hX0.trans (hb0a.mono hX0.size)).trans ((Below.alloc (Below.refl _ _) (Nat.le_refl _) _).mono (hX0.trans (hb0a.mono hX0.size)).size)).size) | exact (hX0.trans (hb0a.mono hX0.size)).trans ((Below.alloc (Below.refl _ _) (Nat.le_refl _) _).mono (hX0.trans (hb0a.mono hX0.size)).size) | exact hX0.trans (hb0a.mono hX0.size)))
    (first | (go_at_call 18; refine (hK0 _ _ (hX0.trans (hb0a.mono hX0.size)) hov0).mono ?_; rintro e w0d ⟨jd0, je0, rfl, hb0d, how0⟩) | (go_at_call 18; refine hJ0.mono ?_; rintro e w0a ⟨ja0, jc0, rfl, hb0a, hov0⟩) | (go_at_call 17; refine (henv _).mono ?_; rintro e w0b ⟨ev0, rfl, hie0, hb0b⟩; obtain ⟨ea0, ec0, rfl, hif0⟩ := hie0) | (go_at_call 13; refine (hE0 _ _ _ ((((hX0.trans (hb0a.mono hX0.size)).trans ((Below.alloc (Below.refl _ _) (Nat.le_refl _) _).mono (hX0.trans (hb0a.mono hX0.size)).size)).trans (hb0d.mono ((hX0.trans (hb0a.mono hX0.size)).trans ((Below.alloc (Below.refl _ _) (Nat.le_refl _) _).mono (hX0.trans (hb0a.mono hX0.size)).size)).size)).trans (hb0b.mono (((hX0.trans (hb0a.mono hX0.size)).trans ((Below.alloc (Below.refl _ _) (Nat.le_refl _) _).mono (hX0.trans (hb0a.mono hX0.size)).size)).trans (hb0d.mono ((hX0.trans (hb0a.mono hX0.size)).trans ((Below.alloc (Below.refl _ _) (Nat.le_refl _) _).mono (hX0.trans (hb0a.mono hX0.size)).size)).size)).size)) (how0.below hb0b) ⟨ea0, ec0, rfl, hif0⟩).mono ?_; rintro e w0c ⟨rfl, hb0c⟩))
  have hbf0 := ((((hX0.trans (hb0a.mono hX0.size)).trans ((Below.alloc (Below.refl _ _) (Nat.le_refl _) _).mono (hX0.trans (hb0a.mono hX0.size)).size)).trans (hb0d.mono ((hX0.trans (hb0a.mono hX0.size)).trans ((Below.alloc (Below.refl _ _) (Nat.le_refl _) _).mono (hX0.trans (hb0a.mono hX0.size)).size)).size)).trans (hb0b.mono (((hX0.trans (hb0a.mono hX0.size)).trans ((Below.alloc (Below.refl _ _) (Nat.le_refl _) _).mono (hX0.trans (hb0a.mono hX0.size)).size)).trans (hb0d.mono ((hX0.trans (hb0a.mono hX0.size)).trans ((Below.alloc (Below.refl _ _) (Nat.le_refl _) _).mono (hX0.trans (hb0a.mono hX0.size)).size)).size)).size)).trans (hb0c.mono ((((hX0.trans (hb0a.mono hX0.size)).trans ((Below.alloc (Below.refl _ _) (Nat.le_refl _) _).mono (hX0.trans (hb0a.mono hX0.size)).size)).trans (hb0d.mono ((hX0.trans (hb0a.mono hX0.size)).trans ((Below.alloc (Below.refl _ _) (Nat.le_refl _) _).mono (hX0.trans (hb0a.mono hX0.size)).size)).size)).trans (hb0b.mono (((hX0.trans (hb0a.mono hX0.size)).trans ((Below.alloc (Below.refl _ _) (Nat.le_refl _) _).mono (hX0.trans (hb0a.mono hX0.size)).size)).trans (hb0d.mono ((hX0.trans (hb0a.mono hX0.size)).trans ((Below.alloc (Below.refl _ _) (Nat.le_refl _) _).mono (hX0.trans (hb0a.mono hX0.size)).size)).size)).size)).size)
  have HC1 : Hid (Below w1.heap.size w1 w0c) := HC0.out.trans (hbf0.mono HC0.out.size)
  clear hbf0 hb0a hb0b hb0c hb0d hov0 how0 hif0 hE0 hJ0 hK0 hS0 hX0 hB0
  go_wp2_with fail
  have hB1 : Below w0c.heap.size w0c w0c := Below.refl _ _
  have hS1 : ∀ w', Below w0c.heap.size w0c w' → w'.cell? ⟨w.heap.size, 0, none⟩ = some (.int .i64 a) ∧ w'.cell? ⟨w.heap.size, 1, none⟩ = some (.int .i64 b) ∧ w'.cell? ⟨w.heap.size, 2, none⟩ = some (.int .i64 c) := fun w' hw' => (HTb.out w' (HC1.out.trans (hw'.mono HC1.out.size))).2.2
  have hA1 : ∀ (g : Nat) (w' : World), w'.cell? ⟨g, 0, none⟩ = some (.slice aa na ac) → Below w0c.heap.size w0c w' → Calls Tryd.prog 18 #[.int .i64 10, .slice (some ⟨g, 0, none⟩) 1 1] w' fun e w'' => ∃ a c, e = .returned (.slice a (((10 : Int), (0 : Int)) :: la).length c) ∧ Below w'.heap.size w' w'' ∧ OpsV w'' (.slice a (((10 : Int), (0 : Int)) :: la).length c) (((10 : Int), (0 : Int)) :: la) := fun g w' hc hw' => joined1 10 g (.slice aa na ac) la w' hc HNA.out.1 HNA.out.2 (HOA.out _ (HC1.out.trans (hw'.mono HC1.out.size)))
  have hY1 : ∀ (g : Nat) (w' : World), w'.cell? ⟨g, 0, none⟩ = some (.slice ba nb bc) → Below w0c.heap.size w0c w' → Calls Tryd.prog 18 #[.int .i64 10, .slice (some ⟨g, 0, none⟩) 1 1] w' fun e w'' => ∃ a c, e = .returned (.slice a (((10 : Int), (0 : Int)) :: lb).length c) ∧ Below w'.heap.size w' w'' ∧ OpsV w'' (.slice a (((10 : Int), (0 : Int)) :: lb).length c) (((10 : Int), (0 : Int)) :: lb) := fun g w' hc hw' => joined1 10 g (.slice ba nb bc) lb w' hc HNB.out.1 HNB.out.2 (HOB.out _ (HC1.out.trans (hw'.mono HC1.out.size)))
  have hJ1 : ∀ (w5 : World) (jv kv : Value), OpsV w5 jv (((10 : Int), (0 : Int)) :: la) → OpsV w5 kv (((10 : Int), (0 : Int)) :: lb) → Calls Tryd.prog 18 #[.int .i64 (9), .slice (some ⟨w5.heap.size, 0, none⟩) 2 2] (w5.alloc (.cells #[jv, kv] 22)) fun e w' => ∃ a c, e = .returned (.slice a (((9 : Int), (0 : Int)) :: ((((10 : Int), (0 : Int)) :: la) ++ (((10 : Int), (0 : Int)) :: lb))).length c) ∧ Below (w5.alloc (.cells #[jv, kv] 22)).heap.size (w5.alloc (.cells #[jv, kv] 22)) w' ∧ OpsV w' (.slice a (((9 : Int), (0 : Int)) :: ((((10 : Int), (0 : Int)) :: la) ++ (((10 : Int), (0 : Int)) :: lb))).length c) (((9 : Int), (0 : Int)) :: ((((10 : Int), (0 : Int)) :: la) ++ (((10 : Int), (0 : Int)) :: lb))) := fun w5 jv kv ho hp => by
    have hx5 : Below w5.heap.size w5 (w5.alloc (.cells #[jv, kv] 22)) := (Below.refl _ _).alloc (Nat.le_refl _) _
    exact joined2 (9) w5.heap.size jv kv (((10 : Int), (0 : Int)) :: la) (((10 : Int), (0 : Int)) :: lb) _ (by simp [go_sem]) (by simp [go_sem]) (by have := HLL.out; simp; omega) (by have := HLL.out; simp; omega) (by simp) (by simp) (ho.below hx5) (hp.below hx5)
  have hE1 : ∀ (w6 : World) (jv ev : Value), Below w0c.heap.size w0c w6 → OpsV w6 jv (((9 : Int), (0 : Int)) :: ((((10 : Int), (0 : Int)) :: la) ++ (((10 : Int), (0 : Int)) :: lb))) → IntsV w6 ev env → Calls Tryd.prog 13 #[jv, ev] w6 fun e w' => e = .returned (.tuple #[.int .i64 p, .int .i64 0]) ∧ Below w6.heap.size w6 w' := fun w6 jv ev hw6 ho hi => by
    obtain ⟨hp6, ht6, _⟩ := HTb.out w6 (HC1.out.trans (hw6.mono HC1.out.size))
    exact eval_some jv ev env (.bi 9 0 (.un 10 0 A) (.un 10 0 B)) p w6 HEV.out.2.1 hp6 ht6 HES.out H2.out.good H2.out.typed HSZ.out.2.1 (by rw [H2.out.ops]; exact ho) hi
  generalize (((9 : Int), (0 : Int)) :: ((((10 : Int), (0 : Int)) :: la) ++ (((10 : Int), (0 : Int)) :: lb))).length = mc1 at hJ1
  generalize (((10 : Int), (0 : Int)) :: la).length = mx1 at hA1
  generalize (((10 : Int), (0 : Int)) :: lb).length = my1 at hY1
  go_region_held3 (fun w' => w'.cell? ⟨w.heap.size, 0, none⟩ = some (.int .i64 a) ∧ w'.cell? ⟨w.heap.size, 1, none⟩ = some (.int .i64 b) ∧ w'.cell? ⟨w.heap.size, 2, none⟩ = some (.int .i64 c))
    (exact hS1 _ (by first | exact hcF1 | exact hcE1 | exact hcC1 | exact hcC1.alloc hcC1.size _ | exact hcY1 | exact hcY1.alloc hcY1.size _ | exact hcA1 | exact hcA1.alloc hcA1.size _ | exact hB1 | exact hB1.drew | exact (hB1.alloc (Nat.le_refl _) _).drew | exact ((hB1.alloc (Nat.le_refl _) _).alloc (by simp) _).drew))
    (first | (go_at_call 18; refine (hJ1 _ _ _ (hovA1.below hbY1') hovY1).mono ?_; rintro e w1j ⟨jaj1, jcj1, rfl, hbC1, hovC1⟩; have hcC1 : Below w0c.heap.size w0c w1j := (hcY1.alloc hcY1.size _).trans (hbC1.mono (by have := hcY1.size; simp; omega))) | (have hcA_ := hcA1; clear hcA_; go_at_call 18; refine (hY1 _ _ ?_ ?_).mono ?_; (focus (first | (simp [go_sem]; done) | (refine Eq.trans (hbA1.cell ?_) ?_; (focus (first | (show _ < (World.drew _).heap.size; simp [World.drew]; done) | (simp [World.drew]; done) | (simp [World.drew]; omega))); (focus (simp [go_sem]; done))))); (focus (first | exact hcA1 | exact hcA1.alloc hcA1.size _)); rintro e w1y ⟨jay1, jcy1, rfl, hbY1, hovY1⟩; have hbY1' : Below w1a.heap.size w1a w1y := (by first | exact hbY1 | exact ((Below.refl _ _).alloc (Nat.le_refl _) _).trans (hbY1.mono (by simp))); have hcY1 : Below w0c.heap.size w0c w1y := hcA1.trans (hbY1'.mono hcA1.size)) | (go_at_call 18; refine (hA1 _ _ ?_ ?_).mono ?_; (focus (simp [go_sem]; done)); (focus (first | exact hB1 | exact hB1.drew | exact (hB1.alloc (Nat.le_refl _) _).drew | exact ((hB1.alloc (Nat.le_refl _) _).alloc (by simp) _).drew)); rintro e w1a ⟨jaa1, jca1, rfl, hbA1, hovA1⟩; have hcA1 : Below w0c.heap.size w0c w1a := Below.trans (by first | exact hB1 | exact hB1.drew | exact (hB1.alloc (Nat.le_refl _) _).drew | exact ((hB1.alloc (Nat.le_refl _) _).alloc (by simp) _).drew) (hbA1.mono (by first | exact Nat.le_refl _ | (simp; omega) | simp))) | (go_at_call 17; refine (henv _).mono ?_; rintro e w1b ⟨ev1, rfl, hie1, hb1b⟩; obtain ⟨ea1, ec1, rfl, hif1⟩ := hie1; have hcE1 : Below w0c.heap.size w0c w1b := hcC1.trans (hb1b.mono hcC1.size)) | (go_at_call 13; refine (hE1 _ _ _ hcE1 (hovC1.below hb1b) ⟨ea1, ec1, rfl, hif1⟩).mono ?_; rintro e w1c ⟨rfl, hb1c⟩; have hcF1 : Below w0c.heap.size w0c w1c := hcE1.trans (hb1c.mono hcE1.size)))
  all_goals have HC2 : Hid (Below w1.heap.size w1 w1c) := HC1.out.trans (hcF1.mono HC1.out.size)
  all_goals
    clear hB1 hS1 hA1 hY1 hJ1 hE1 hbA1 hovA1 hcA1 hbY1 hovY1 hbY1' hcY1 hbC1 hovC1 hcC1 hb1b hif1 hcE1 hb1c hcF1
    go_wp2_with fail
    have hB2 : Below w1c.heap.size w1c w1c := Below.refl _ _
    have hX2 : Below w1c.heap.size w1c ((w1c.alloc (.cells #[.slice aa na ac, .slice ba nb bc] 22)).drew) := (hB2.alloc (Nat.le_refl _) _).drew
    have hS2 : ∀ w', Below w1c.heap.size w1c w' → w'.cell? ⟨w.heap.size, 0, none⟩ = some (.int .i64 a) ∧ w'.cell? ⟨w.heap.size, 1, none⟩ = some (.int .i64 b) ∧ w'.cell? ⟨w.heap.size, 2, none⟩ = some (.int .i64 c) := fun w' hw' => (HTb.out w' (HC2.out.trans (hw'.mono HC2.out.size))).2.2
    have hJ2 := joined2 (9) w1c.heap.size (.slice aa na ac) (.slice ba nb bc) la lb ((w1c.alloc (.cells #[.slice aa na ac, .slice ba nb bc] 22)).drew) (by simp [go_sem]) (by simp [go_sem]) HNA.out.1 HNB.out.1 HNA.out.2 HNB.out.2 (HOA.out _ (HC2.out.trans (hX2.mono HC2.out.size))) (HOB.out _ (HC2.out.trans (hX2.mono HC2.out.size)))
    have hE2 : ∀ (w6 : World) (jv ev : Value), Below w1c.heap.size w1c w6 → OpsV w6 jv (((9), 0) :: (la ++ lb)) → IntsV w6 ev env → Calls Tryd.prog 13 #[jv, ev] w6 fun e w' => e = .returned (.tuple #[.int .i64 r, .int .i64 0]) ∧ Below w6.heap.size w6 w' := fun w6 jv ev hw6 ho hi => by
      obtain ⟨hp6, ht6, _⟩ := HTb.out w6 (HC2.out.trans (hw6.mono HC2.out.size))
      exact eval_some jv ev env (.bi 9 0 A B) r w6 HEV.out.2.2.1 hp6 ht6 HES.out H3.out.good H3.out.typed HSZ.out.2.2.1 (by rw [H3.out.ops]; exact ho) hi
    generalize ((((9), 0) :: (la ++ lb)) : List (Int × Int)).length = m2 at hJ2
    go_region_held3 (fun w' => w'.cell? ⟨w.heap.size, 0, none⟩ = some (.int .i64 a) ∧ w'.cell? ⟨w.heap.size, 1, none⟩ = some (.int .i64 b) ∧ w'.cell? ⟨w.heap.size, 2, none⟩ = some (.int .i64 c))
      (exact hS2 _ (by first | exact hB2 | exact hB2.drew | exact hX2 | exact hX2.trans (hb2a.mono hX2.size) | exact (hX2.trans (hb2a.mono hX2.size)).trans (hb2b.mono (hX2.trans (hb2a.mono hX2.size)).size) | exact ((hX2.trans (hb2a.mono hX2.size)).trans (hb2b.mono (hX2.trans (hb2a.mono hX2.size)).size)).trans (hb2c.mono ((hX2.trans (hb2a.mono hX2.size)).trans (hb2b.mono (hX2.trans (hb2a.mono hX2.size)).size)).size)))
      (first | (go_at_call 18; refine hJ2.mono ?_; rintro e w2a ⟨ja2, jc2, rfl, hb2a, hov2⟩) | (go_at_call 17; refine (henv _).mono ?_; rintro e w2b ⟨ev2, rfl, hie2, hb2b⟩; obtain ⟨ea2, ec2, rfl, hif2⟩ := hie2) | (go_at_call 13; refine (hE2 _ _ _ ((hX2.trans (hb2a.mono hX2.size)).trans (hb2b.mono (hX2.trans (hb2a.mono hX2.size)).size)) (hov2.below hb2b) ⟨ea2, ec2, rfl, hif2⟩).mono ?_; rintro e w2c ⟨rfl, hb2c⟩))
    have hbf2 := ((hX2.trans (hb2a.mono hX2.size)).trans (hb2b.mono (hX2.trans (hb2a.mono hX2.size)).size)).trans (hb2c.mono ((hX2.trans (hb2a.mono hX2.size)).trans (hb2b.mono (hX2.trans (hb2a.mono hX2.size)).size)).size)
    have HC3 : Hid (Below w1.heap.size w1 w2c) := HC2.out.trans (hbf2.mono HC2.out.size)
    clear hbf2 hb2a hb2b hb2c hov2 hif2 hE2 hJ2 hS2 hX2 hB2
    go_wp2_with fail
    have hB3 : Below w2c.heap.size w2c w2c := Below.refl _ _
    have hS3 : ∀ w', Below w2c.heap.size w2c w' → w'.cell? ⟨w.heap.size, 0, none⟩ = some (.int .i64 a) ∧ w'.cell? ⟨w.heap.size, 1, none⟩ = some (.int .i64 b) ∧ w'.cell? ⟨w.heap.size, 2, none⟩ = some (.int .i64 c) := fun w' hw' => (HTb.out w' (HC3.out.trans (hw'.mono HC3.out.size))).2.2
    have hA3 : ∀ (g : Nat) (w' : World), w'.cell? ⟨g, 0, none⟩ = some (.slice aa na ac) → Below w2c.heap.size w2c w' → Calls Tryd.prog 18 #[.int .i64 10, .slice (some ⟨g, 0, none⟩) 1 1] w' fun e w'' => ∃ a c, e = .returned (.slice a (((10 : Int), (0 : Int)) :: la).length c) ∧ Below w'.heap.size w' w'' ∧ OpsV w'' (.slice a (((10 : Int), (0 : Int)) :: la).length c) (((10 : Int), (0 : Int)) :: la) := fun g w' hc hw' => joined1 10 g (.slice aa na ac) la w' hc HNA.out.1 HNA.out.2 (HOA.out _ (HC3.out.trans (hw'.mono HC3.out.size)))
    have hY3 : ∀ (g : Nat) (w' : World), w'.cell? ⟨g, 0, none⟩ = some (.slice ba nb bc) → Below w2c.heap.size w2c w' → Calls Tryd.prog 18 #[.int .i64 10, .slice (some ⟨g, 0, none⟩) 1 1] w' fun e w'' => ∃ a c, e = .returned (.slice a (((10 : Int), (0 : Int)) :: lb).length c) ∧ Below w'.heap.size w' w'' ∧ OpsV w'' (.slice a (((10 : Int), (0 : Int)) :: lb).length c) (((10 : Int), (0 : Int)) :: lb) := fun g w' hc hw' => joined1 10 g (.slice ba nb bc) lb w' hc HNB.out.1 HNB.out.2 (HOB.out _ (HC3.out.trans (hw'.mono HC3.out.size)))
    have hJ3 : ∀ (w5 : World) (jv kv : Value), OpsV w5 jv (((10 : Int), (0 : Int)) :: la) → OpsV w5 kv (((10 : Int), (0 : Int)) :: lb) → Calls Tryd.prog 18 #[.int .i64 (8), .slice (some ⟨w5.heap.size, 0, none⟩) 2 2] (w5.alloc (.cells #[jv, kv] 22)) fun e w' => ∃ a c, e = .returned (.slice a (((8 : Int), (0 : Int)) :: ((((10 : Int), (0 : Int)) :: la) ++ (((10 : Int), (0 : Int)) :: lb))).length c) ∧ Below (w5.alloc (.cells #[jv, kv] 22)).heap.size (w5.alloc (.cells #[jv, kv] 22)) w' ∧ OpsV w' (.slice a (((8 : Int), (0 : Int)) :: ((((10 : Int), (0 : Int)) :: la) ++ (((10 : Int), (0 : Int)) :: lb))).length c) (((8 : Int), (0 : Int)) :: ((((10 : Int), (0 : Int)) :: la) ++ (((10 : Int), (0 : Int)) :: lb))) := fun w5 jv kv ho hp => by
      have hx5 : Below w5.heap.size w5 (w5.alloc (.cells #[jv, kv] 22)) := (Below.refl _ _).alloc (Nat.le_refl _) _
      exact joined2 (8) w5.heap.size jv kv (((10 : Int), (0 : Int)) :: la) (((10 : Int), (0 : Int)) :: lb) _ (by simp [go_sem]) (by simp [go_sem]) (by have := HLL.out; simp; omega) (by have := HLL.out; simp; omega) (by simp) (by simp) (ho.below hx5) (hp.below hx5)
    have hN3 : ∀ (w5 : World) (jv : Value), OpsV w5 jv (((8 : Int), (0 : Int)) :: ((((10 : Int), (0 : Int)) :: la) ++ (((10 : Int), (0 : Int)) :: lb))) → Calls Tryd.prog 18 #[.int .i64 10, .slice (some ⟨w5.heap.size, 0, none⟩) 1 1] (w5.alloc (.cells #[jv] 22)) fun e w' => ∃ a c, e = .returned (.slice a (((10 : Int), (0 : Int)) :: (((8 : Int), (0 : Int)) :: ((((10 : Int), (0 : Int)) :: la) ++ (((10 : Int), (0 : Int)) :: lb)))).length c) ∧ Below (w5.alloc (.cells #[jv] 22)).heap.size (w5.alloc (.cells #[jv] 22)) w' ∧ OpsV w' (.slice a (((10 : Int), (0 : Int)) :: (((8 : Int), (0 : Int)) :: ((((10 : Int), (0 : Int)) :: la) ++ (((10 : Int), (0 : Int)) :: lb)))).length c) (((10 : Int), (0 : Int)) :: (((8 : Int), (0 : Int)) :: ((((10 : Int), (0 : Int)) :: la) ++ (((10 : Int), (0 : Int)) :: lb)))) := fun w5 jv ho => by
      have hx5 : Below w5.heap.size w5 (w5.alloc (.cells #[jv] 22)) := (Below.refl _ _).alloc (Nat.le_refl _) _
      exact joined1 10 w5.heap.size jv (((8 : Int), (0 : Int)) :: ((((10 : Int), (0 : Int)) :: la) ++ (((10 : Int), (0 : Int)) :: lb))) _ (by simp [go_sem]) (by have := HLL.out; simp; omega) (by simp) (ho.below hx5)
    have hE3 : ∀ (w6 : World) (jv ev : Value), Below w2c.heap.size w2c w6 → OpsV w6 jv (((10 : Int), (0 : Int)) :: (((8 : Int), (0 : Int)) :: ((((10 : Int), (0 : Int)) :: la) ++ (((10 : Int), (0 : Int)) :: lb)))) → IntsV w6 ev env → Calls Tryd.prog 13 #[jv, ev] w6 fun e w' => e = .returned (.tuple #[.int .i64 r, .int .i64 0]) ∧ Below w6.heap.size w6 w' := fun w6 jv ev hw6 ho hi => by
      obtain ⟨hp6, ht6, _⟩ := HTb.out w6 (HC3.out.trans (hw6.mono HC3.out.size))
      exact eval_some jv ev env (.un 10 0 (.bi 8 0 (.un 10 0 A) (.un 10 0 B))) r w6 HEV.out.2.2.2.1 hp6 ht6 HES.out H4.out.good H4.out.typed HSZ.out.2.2.2.1 (by rw [H4.out.ops]; exact ho) hi
    generalize (((10 : Int), (0 : Int)) :: (((8 : Int), (0 : Int)) :: ((((10 : Int), (0 : Int)) :: la) ++ (((10 : Int), (0 : Int)) :: lb)))).length = mo3 at hN3
    generalize (((8 : Int), (0 : Int)) :: ((((10 : Int), (0 : Int)) :: la) ++ (((10 : Int), (0 : Int)) :: lb))).length = mc3 at hJ3 hN3
    generalize (((10 : Int), (0 : Int)) :: la).length = mx3 at hA3
    generalize (((10 : Int), (0 : Int)) :: lb).length = my3 at hY3
    go_region_held3 (fun w' => w'.cell? ⟨w.heap.size, 0, none⟩ = some (.int .i64 a) ∧ w'.cell? ⟨w.heap.size, 1, none⟩ = some (.int .i64 b) ∧ w'.cell? ⟨w.heap.size, 2, none⟩ = some (.int .i64 c))
      (exact hS3 _ (by first | exact hcF3 | exact hcE3 | exact hcN3 | exact hcC3 | exact hcC3.alloc hcC3.size _ | exact hcY3 | exact hcY3.alloc hcY3.size _ | exact hcA3 | exact hcA3.alloc hcA3.size _ | exact hB3 | exact hB3.drew | exact (hB3.alloc (Nat.le_refl _) _).drew | exact ((hB3.alloc (Nat.le_refl _) _).alloc (by simp) _).drew))
      (first | (go_at_call 18; refine (hN3 _ _ hovC3).mono ?_; rintro e w3n ⟨jan3, jcn3, rfl, hbN3, hovN3⟩; have hcN3 : Below w2c.heap.size w2c w3n := (hcC3.alloc hcC3.size _).trans (hbN3.mono (by have := hcC3.size; simp; omega))) | (go_at_call 18; refine (hJ3 _ _ _ (hovA3.below hbY3') hovY3).mono ?_; rintro e w3j ⟨jaj3, jcj3, rfl, hbC3, hovC3⟩; have hcC3 : Below w2c.heap.size w2c w3j := (hcY3.alloc hcY3.size _).trans (hbC3.mono (by have := hcY3.size; simp; omega))) | (have hcA_ := hcA3; clear hcA_; go_at_call 18; refine (hY3 _ _ ?_ ?_).mono ?_; (focus (first | (simp [go_sem]; done) | (refine Eq.trans (hbA3.cell ?_) ?_; (focus (first | (show _ < (World.drew _).heap.size; simp [World.drew]; done) | (simp [World.drew]; done) | (simp [World.drew]; omega))); (focus (simp [go_sem]; done))))); (focus (first | exact hcA3 | exact hcA3.alloc hcA3.size _)); rintro e w3y ⟨jay3, jcy3, rfl, hbY3, hovY3⟩; have hbY3' : Below w3a.heap.size w3a w3y := (by first | exact hbY3 | exact ((Below.refl _ _).alloc (Nat.le_refl _) _).trans (hbY3.mono (by simp))); have hcY3 : Below w2c.heap.size w2c w3y := hcA3.trans (hbY3'.mono hcA3.size)) | (go_at_call 18; refine (hA3 _ _ ?_ ?_).mono ?_; (focus (simp [go_sem]; done)); (focus (first | exact hB3 | exact hB3.drew | exact (hB3.alloc (Nat.le_refl _) _).drew | exact ((hB3.alloc (Nat.le_refl _) _).alloc (by simp) _).drew)); rintro e w3a ⟨jaa3, jca3, rfl, hbA3, hovA3⟩; have hcA3 : Below w2c.heap.size w2c w3a := Below.trans (by first | exact hB3 | exact hB3.drew | exact (hB3.alloc (Nat.le_refl _) _).drew | exact ((hB3.alloc (Nat.le_refl _) _).alloc (by simp) _).drew) (hbA3.mono (by first | exact Nat.le_refl _ | (simp; omega) | simp))) | (go_at_call 17; refine (henv _).mono ?_; rintro e w3b ⟨ev3, rfl, hie3, hb3b⟩; obtain ⟨ea3, ec3, rfl, hif3⟩ := hie3; have hcE3 : Below w2c.heap.size w2c w3b := hcN3.trans (hb3b.mono hcN3.size)) | (go_at_call 13; refine (hE3 _ _ _ hcE3 (hovN3.below hb3b) ⟨ea3, ec3, rfl, hif3⟩).mono ?_; rintro e w3c ⟨rfl, hb3c⟩; have hcF3 : Below w2c.heap.size w2c w3c := hcE3.trans (hb3c.mono hcE3.size)))
    all_goals have HC4 : Hid (Below w1.heap.size w1 w3c) := HC3.out.trans (hcF3.mono HC3.out.size)
    all_goals
      clear hB3 hS3 hA3 hY3 hJ3 hE3 hbA3 hovA3 hcA3 hbY3 hovY3 hbY3' hcY3 hbC3 hovC3 hcC3 hb3b hif3 hcE3 hb3c hcF3 hN3 hbN3 hovN3 hcN3
      go_wp2_with fail
      have HLN4 : Hid (((((10), 0) :: la) : List (Int × Int)).length ≤ 60) := by
        show _ ≤ _
        simp
        have := HLL.out
        omega
      have hB4 : Below w3c.heap.size w3c w3c := Below.refl _ _
      have hX4 : Below w3c.heap.size w3c ((w3c.alloc (.cells #[.slice aa na ac] 22)).drew) := (hB4.alloc (Nat.le_refl _) _).drew
      have hS4 : ∀ w', Below w3c.heap.size w3c w' → w'.cell? ⟨w.heap.size, 0, none⟩ = some (.int .i64 a) ∧ w'.cell? ⟨w.heap.size, 1, none⟩ = some (.int .i64 b) ∧ w'.cell? ⟨w.heap.size, 2, none⟩ = some (.int .i64 c) := fun w' hw' => (HTb.out w' (HC4.out.trans (hw'.mono HC4.out.size))).2.2
      have hJ4 := joined1 (10) w3c.heap.size (.slice aa na ac) la ((w3c.alloc (.cells #[.slice aa na ac] 22)).drew) (by simp [go_sem]) HNA.out.1 HNA.out.2 (HOA.out _ (HC4.out.trans (hX4.mono HC4.out.size)))
      have hK4 : ∀ (w5 : World) (jv : Value), Below w3c.heap.size w3c w5 → OpsV w5 jv (((10), 0) :: la) → Calls Tryd.prog 18 #[.int .i64 (9), .slice (some ⟨w5.heap.size, 0, none⟩) 2 2] (w5.alloc (.cells #[.slice aa na ac, jv] 22)) fun e w' => ∃ a c, e = .returned (.slice a ((((9), 0) :: (la ++ (((10), 0) :: la))) : List (Int × Int)).length c) ∧ Below (w5.alloc (.cells #[.slice aa na ac, jv] 22)).heap.size (w5.alloc (.cells #[.slice aa na ac, jv] 22)) w' ∧ OpsV w' (.slice a ((((9), 0) :: (la ++ (((10), 0) :: la))) : List (Int × Int)).length c) (((9), 0) :: (la ++ (((10), 0) :: la))) := fun w5 jv hw5 ho => by
        have hx5 : Below w5.heap.size w5 (w5.alloc (.cells #[.slice aa na ac, jv] 22)) := (Below.refl _ _).alloc (Nat.le_refl _) _
        exact joined2 (9) w5.heap.size (.slice aa na ac) jv la (((10), 0) :: la) _ (by simp [go_sem]) (by simp [go_sem]) HNA.out.1 HLN4.out HNA.out.2 (by simp) (HOA.out _ (HC4.out.trans ((hw5.trans (hx5.mono hw5.size)).mono HC4.out.size))) (ho.below hx5)
      have hE4 : ∀ (w6 : World) (jv ev : Value), Below w3c.heap.size w3c w6 → OpsV w6 jv (((9), 0) :: (la ++ (((10), 0) :: la))) → IntsV w6 ev env → Calls Tryd.prog 13 #[jv, ev] w6 fun e w' => e = .returned (.tuple #[.int .i64 1, .int .i64 0]) ∧ Below w6.heap.size w6 w' := fun w6 jv ev hw6 ho hi => by
        obtain ⟨hp6, ht6, _⟩ := HTb.out w6 (HC4.out.trans (hw6.mono HC4.out.size))
        exact eval_some jv ev env (.bi 9 0 A (.un 10 0 A)) 1 w6 HEV.out.2.2.2.2 hp6 ht6 HES.out H5.out.good H5.out.typed HSZ.out.2.2.2.2 (by rw [H5.out.ops]; exact ho) hi
      generalize ((((10), 0) :: la) : List (Int × Int)).length = m4 at hJ4
      generalize ((((9), 0) :: (la ++ (((10), 0) :: la))) : List (Int × Int)).length = mm4 at hK4
      go_region_held3 (fun w' => w'.cell? ⟨w.heap.size, 0, none⟩ = some (.int .i64 a) ∧ w'.cell? ⟨w.heap.size, 1, none⟩ = some (.int .i64 b) ∧ w'.cell? ⟨w.heap.size, 2, none⟩ = some (.int .i64 c))
        (exact hS4 _ (by first | exact hB4 | exact hB4.drew | exact hX4 | exact ((((hX4.trans (hb4a.mono hX4.size)).trans ((Below.alloc (Below.refl _ _) (Nat.le_refl _) _).mono (hX4.trans (hb4a.mono hX4.size)).size)).trans (hb4d.mono ((hX4.trans (hb4a.mono hX4.size)).trans ((Below.alloc (Below.refl _ _) (Nat.le_refl _) _).mono (hX4.trans (hb4a.mono hX4.size)).size)).size)).trans (hb4b.mono (((hX4.trans (hb4a.mono hX4.size)).trans ((Below.alloc (Below.refl _ _) (Nat.le_refl _) _).mono (hX4.trans (hb4a.mono hX4.size)).size)).trans (hb4d.mono ((hX4.trans (hb4a.mono hX4.size)).trans ((Below.alloc (Below.refl _ _) (Nat.le_refl _) _).mono (hX4.trans (hb4a.mono hX4.size)).size)).size)).size)).trans (hb4c.mono ((((hX4.trans (hb4a.mono hX4.size)).trans ((Below.alloc (Below.refl _ _) (Nat.le_refl _) _).mono (hX4.trans (hb4a.mono hX4.size)).size)).trans (hb4d.mono ((hX4.trans (hb4a.mono hX4.size)).trans ((Below.alloc (Below.refl _ _) (Nat.le_refl _) _).mono (hX4.trans (hb4a.mono hX4.size)).size)).size)).trans (hb4b.mono (((hX4.trans (hb4a.mono hX4.size)).trans ((Below.alloc (Below.refl _ _) (Nat.le_refl _) _).mono (hX4.trans (hb4a.mono hX4.size)).size)).trans (hb4d.mono ((hX4.trans (hb4a.mono hX4.size)).trans ((Below.alloc (Below.refl _ _) (Nat.le_refl _) _).mono (hX4.trans (hb4a.mono hX4.size)).size)).size)).size)).size) | exact (((hX4.trans (hb4a.mono hX4.size)).trans ((Below.alloc (Below.refl _ _) (Nat.le_refl _) _).mono (hX4.trans (hb4a.mono hX4.size)).size)).trans (hb4d.mono ((hX4.trans (hb4a.mono hX4.size)).trans ((Below.alloc (Below.refl _ _) (Nat.le_refl _) _).mono (hX4.trans (hb4a.mono hX4.size)).size)).size)).trans (hb4b.mono (((hX4.trans (hb4a.mono hX4.size)).trans ((Below.alloc (Below.refl _ _) (Nat.le_refl _) _).mono (hX4.trans (hb4a.mono hX4.size)).size)).trans (hb4d.mono ((hX4.trans (hb4a.mono hX4.size)).trans ((Below.alloc (Below.refl _ _) (Nat.le_refl _) _).mono (hX4.trans (hb4a.mono hX4.size)).size)).size)).size) | exact ((hX4.trans (hb4a.mono hX4.size)).trans ((Below.alloc (Below.refl _ _) (Nat.le_refl _) _).mono (hX4.trans (hb4a.mono hX4.size)).size)).trans (hb4d.mono ((hX4.trans (hb4a.mono hX4.size)).trans ((Below.alloc (Below.refl _ _) (Nat.le_refl _) _).mono (hX4.trans (hb4a.mono hX4.size)).size)).size) | exact (hX4.trans (hb4a.mono hX4.size)).trans ((Below.alloc (Below.refl _ _) (Nat.le_refl _) _).mono (hX4.trans (hb4a.mono hX4.size)).size) | exact hX4.trans (hb4a.mono hX4.size)))
        (first | (go_at_call 18; refine (hK4 _ _ (hX4.trans (hb4a.mono hX4.size)) hov4).mono ?_; rintro e w4d ⟨jd4, je4, rfl, hb4d, how4⟩) | (go_at_call 18; refine hJ4.mono ?_; rintro e w4a ⟨ja4, jc4, rfl, hb4a, hov4⟩) | (go_at_call 17; refine (henv _).mono ?_; rintro e w4b ⟨ev4, rfl, hie4, hb4b⟩; obtain ⟨ea4, ec4, rfl, hif4⟩ := hie4) | (go_at_call 13; refine (hE4 _ _ _ ((((hX4.trans (hb4a.mono hX4.size)).trans ((Below.alloc (Below.refl _ _) (Nat.le_refl _) _).mono (hX4.trans (hb4a.mono hX4.size)).size)).trans (hb4d.mono ((hX4.trans (hb4a.mono hX4.size)).trans ((Below.alloc (Below.refl _ _) (Nat.le_refl _) _).mono (hX4.trans (hb4a.mono hX4.size)).size)).size)).trans (hb4b.mono (((hX4.trans (hb4a.mono hX4.size)).trans ((Below.alloc (Below.refl _ _) (Nat.le_refl _) _).mono (hX4.trans (hb4a.mono hX4.size)).size)).trans (hb4d.mono ((hX4.trans (hb4a.mono hX4.size)).trans ((Below.alloc (Below.refl _ _) (Nat.le_refl _) _).mono (hX4.trans (hb4a.mono hX4.size)).size)).size)).size)) (how4.below hb4b) ⟨ea4, ec4, rfl, hif4⟩).mono ?_; rintro e w4c ⟨rfl, hb4c⟩))
      have hbf4 := ((((hX4.trans (hb4a.mono hX4.size)).trans ((Below.alloc (Below.refl _ _) (Nat.le_refl _) _).mono (hX4.trans (hb4a.mono hX4.size)).size)).trans (hb4d.mono ((hX4.trans (hb4a.mono hX4.size)).trans ((Below.alloc (Below.refl _ _) (Nat.le_refl _) _).mono (hX4.trans (hb4a.mono hX4.size)).size)).size)).trans (hb4b.mono (((hX4.trans (hb4a.mono hX4.size)).trans ((Below.alloc (Below.refl _ _) (Nat.le_refl _) _).mono (hX4.trans (hb4a.mono hX4.size)).size)).trans (hb4d.mono ((hX4.trans (hb4a.mono hX4.size)).trans ((Below.alloc (Below.refl _ _) (Nat.le_refl _) _).mono (hX4.trans (hb4a.mono hX4.size)).size)).size)).size)).trans (hb4c.mono ((((hX4.trans (hb4a.mono hX4.size)).trans ((Below.alloc (Below.refl _ _) (Nat.le_refl _) _).mono (hX4.trans (hb4a.mono hX4.size)).size)).trans (hb4d.mono ((hX4.trans (hb4a.mono hX4.size)).trans ((Below.alloc (Below.refl _ _) (Nat.le_refl _) _).mono (hX4.trans (hb4a.mono hX4.size)).size)).size)).trans (hb4b.mono (((hX4.trans (hb4a.mono hX4.size)).trans ((Below.alloc (Below.refl _ _) (Nat.le_refl _) _).mono (hX4.trans (hb4a.mono hX4.size)).size)).trans (hb4d.mono ((hX4.trans (hb4a.mono hX4.size)).trans ((Below.alloc (Below.refl _ _) (Nat.le_refl _) _).mono (hX4.trans (hb4a.mono hX4.size)).size)).size)).size)).size)
      have HC5 : Hid (Below w1.heap.size w1 w4c) := HC4.out.trans (hbf4.mono HC4.out.size)
      clear hbf4 hb4a hb4b hb4c hb4d hov4 how4 hif4 hE4 hJ4 hK4 hS4 hX4 hB4
      have HBf : Hid (Below w.heap.size w w4c) := HBw.out.trans (HC5.out.mono HBw.out.size)
      rcases hpr with ⟨rfl, rfl⟩ | ⟨rfl, rfl⟩ | ⟨rfl, rfl⟩ | ⟨rfl, rfl⟩
      all_goals
        go_wp2_with fail
        go_ret
        exact ⟨rfl, HBf.out⟩

theorem evalLogic_contract (H : Type) (enc : TypeId × Value → H) (W : World) (base : Nat) (args : Array Value) (ds gs : List (DataW H)) (before : List MemPlace)
    (hval : ∀ (j : Nat) t v, Tryd.f7.params[j]? = some t → args[j]? = some v → Value.okWide Tryd.prog W .any base t v)
    (hW : DataW.Whole enc Tryd.prog Tryd.f7.params.toList Rows.evalLogicSpec.vars false W args.toList ds gs before)
    (hsz0 : (DataW.weightsEach Tryd.prog (Tryd.f7.params.toList ++ (OpenSpec.ofChange Rows.evalLogicSpec).bare.plain.varTypes Tryd.prog) (ds ++ gs)).all (· ≤ reachBytes) = true)
    (hL : laidMetH Tryd.prog Rows.evalLogicRow.laid W) :
    Calls Tryd.prog 7 args W fun e W' => ∃ v, e = .returned v ∧ Rows.evalLogicSpec.post enc Tryd.prog Tryd.f7 false true false false W args v W' := by
  have hW' := hW
  obtain ⟨p, q, hA0, hV, rfl, hfz, hnd⟩ := hW
  have hA : DataW.TrodAll enc Tryd.prog W 0 (fun _ => true) true Tryd.f7.params.toList args.toList ds p := hA0
  rw [Tryd.params7] at hA hval
  obtain ⟨v0, vs0, d0, ds0, p0, q0, hargs, rfl, rfl, h0, r0⟩ := trodAll_cons hA
  obtain ⟨v1, vs1, d1, ds1, p1, q1, rfl, rfl, rfl, h1, r1⟩ := trodAll_cons r0
  obtain ⟨v2, vs2, d2, ds2, p2, q2, rfl, rfl, rfl, h2, r2⟩ := trodAll_cons r1
  obtain ⟨rfl, rfl, rfl⟩ := trodAll_nil r2
  obtain rfl : args = #[v0, v1, v2] := by cases args; simp_all
  obtain ⟨rfl, rfl⟩ := trodVars_none hV
  have hsz : (DataW.weightsEach Tryd.prog [34, 34, 35] [d0, d1, d2]).all (· ≤ reachBytes) = true := hsz0
  obtain ⟨rs, hrs⟩ := open_raws (hval 0 34 v0 rfl rfl) h0 hsz (j := 0) rfl rfl
  obtain ⟨ms, hms⟩ := open_raws (hval 1 34 v1 rfl rfl) h1 hsz (j := 1) rfl rfl
  obtain ⟨a, b, c, rfl, ia, ib, ic⟩ := open_arr3 (hval 2 35 v2 rfl rfl) h2
  have hT := tabAt hL
  refine (evalLogic_walk v0 v1 rs ms a b c W (tab_size hT) hT hrs hms ia ib ic).mono fun e W' ⟨he, hb⟩ => ⟨_, he, ?_⟩
  refine law_post (fun t ht => ?_) rfl (by kernel_rfl) hW' rfl rfl rfl hb
  rw [Tryd.params7] at ht
  simp only [List.mem_cons, List.not_mem_nil, or_false] at ht
  rcases ht with rfl | rfl | rfl
  · exact ⟨by kernel_rfl, of_decide_eq_true (by kernel_rfl)⟩
  · exact ⟨by kernel_rfl, of_decide_eq_true (by kernel_rfl)⟩
  · exact ⟨by kernel_rfl, of_decide_eq_true (by kernel_rfl)⟩

/-- A WORLD FOR THE WITNESS: the settled one, the table (block 0) holding what its initialiser lays. -/
noncomputable def evalLogicWorld (os : Os) : World :=
  { World.holding Tryd.prog os ⟨#[], #[], []⟩ with heap := (World.holding Tryd.prog os ⟨#[], #[], []⟩).heap.modify 0 fun
      | .cells _ t frozen => .cells #[.int .i64 0, .int .i64 0, .int .i64 0, .int .i64 2, .int .i64 2, .int .i64 2, .int .i64 2, .int .i64 2, .int .i64 2, .int .i64 2, .int .i64 1, .int .i64 0, .int .i64 0, .int .i64 0, .int .i64 1, .int .i64 2, .int .i64 2, .int .i64 1, .int .i64 1] t frozen
      | o => o }
theorem evalLogic_met (os : Os) : laidMet Tryd.prog Rows.evalLogicRow.laid ((evalLogicWorld os).forCall (fun _ _ => 0) ⟨#[], #[.slice none 0 0, .slice none 0 0, .agg #[.int .i64 0, .int .i64 0, .int .i64 0]], []⟩).memory :=
  laidMet_of_run' 8 (by kernel_rfl) (by kernel_rfl)
theorem evalLogic_reads (os : Os) {H : Type} (enc : TypeId × Value → H) : ∃ places, DataW.whole enc Tryd.prog ((evalLogicWorld os).forCall (fun _ _ => 0) ⟨#[], #[.slice none 0 0, .slice none 0 0, .agg #[.int .i64 0, .int .i64 0, .int .i64 0]], []⟩).memory Tryd.f7.params.toList Rows.evalLogicSpec.vars false #[Value.slice none 0 0, .slice none 0 0, .agg #[.int .i64 0, .int .i64 0, .int .i64 0]].toList 8 = some ([.nil, .nil, .agg [.lit (.int .i64 0), .lit (.int .i64 0), .lit (.int .i64 0)]], [], places) :=
  ⟨[], by kernel_rfl⟩

set_option maxRecDepth 100000 in
theorem evalLogic_lifted (os : Os) (started : os.Started) (H : Type) (enc : TypeId × Value → H) (F : Stop.Interp) :
    ReturnsInHanded {} Tryd.checked os 7 .any ((OpenSpec.ofChange Rows.evalLogicSpec).preRow enc Tryd.prog Tryd.f7 Rows.evalLogicRow.domain false Rows.evalLogicRow.laid) (((OpenSpec.ofChange Rows.evalLogicSpec).at F).post enc Tryd.prog Tryd.f7 false true false false) := by
  obtain ⟨places, hx⟩ := evalLogic_reads os enc
  refine returnsInHanded_of_row (C := Tryd.checked) (s := OpenSpec.ofChange Rows.evalLogicSpec) own started (by kernel_rfl) Tryd.func7
    (witness_row_at (enc := enc) (C := Tryd.checked) false (evalLogicWorld os) #[.slice none 0 0, .slice none 0 0, .agg #[.int .i64 0, .int .i64 0, .int .i64 0]] rfl (by kernel_rfl) (by kernel_rfl) (by kernel_rfl)
      (OpenSpec.preRow_of_cond 8 hx (by kernel_rfl) (fun k hk => by cases hk) (by kernel_rfl) (evalLogic_met os))) ?_
  intro W base args ds gs before hval hW _ _ hsz hL _ _
  exact evalLogic_contract H enc W base args ds gs before hval hW hsz hL

theorem evalLogic_said : Rows.EvalLogicSaid :=
  OpenClaim.holds_of_cond 7 Tryd.f7 rfl rfl rfl rfl rfl rfl rfl ⟨rfl, rfl, rfl, rfl, rfl⟩ rfl rfl rfl rfl rfl (by kernel_rfl) Tryd.func7 (by kernel_rfl)
    (of_decide_eq_true (by kernel_rfl)) (by unfold Func.isWrapper; first | (rw [if_pos (by decide +kernel)]; kernel_rfl) | (rw [if_neg (by decide +kernel)]; exact ⟨rfl, rfl⟩))
    (fun os started H enc _ F => by rw [OpenClaim.pre_eq_preRow]; exact evalLogic_lifted os started H enc F)

theorem evalLogic_plain (f : FuncId) (fn : Func) (hf : Tryd.pinned.checked.prog.funcNamed "foretell/foretellkeep.EvalLogic" = some f) (hfn : Tryd.pinned.checked.prog.funcs[f]? = some fn) :
    true = Tryd.pinned.checked.prog.looks [] ∧ ∀ (j : Nat) t, fn.params[j]? = some t → Tryd.pinned.checked.prog.wantsStandIn t = false := by
  obtain rfl : f = 7 := Option.some.inj ((show Tryd.prog.funcNamed "foretell/foretellkeep.EvalLogic" = some 7 by kernel_rfl).symm.trans hf) |>.symm
  obtain rfl : fn = Tryd.f7 := (Option.some.inj (Tryd.func7.symm.trans hfn)).symm
  refine ⟨by kernel_rfl, fun j t ht => ?_⟩
  rw [Tryd.params7] at ht
  have ht' := Array.mem_of_getElem? ht
  simp only [List.mem_toArray, List.mem_cons, List.not_mem_nil, or_false] at ht'
  rcases ht' with rfl | rfl | rfl
  · exact (show Tryd.prog.wantsStandIn 34 = false by kernel_rfl)
  · exact (show Tryd.prog.wantsStandIn 34 = false by kernel_rfl)
  · exact (show Tryd.prog.wantsStandIn 35 = false by kernel_rfl)

/-- THE CARD. -/
theorem evalLogic_card : Rows.EvalLogicCardSaid :=
  Claim7.holds_tied_plain_at .later [] _ _ _ _ evalLogic_said (fun _ h => by cases h) (by kernel_rfl) (fun _ h => by cases h) evalLogic_row_tie rfl ⟨rfl, rfl⟩ (by kernel_rfl) rfl evalLogic_plain (by kernel_rfl)
#print axioms evalLogic_card
end Go.Proofs.YtlmghhfpoeocnaaDoor
