/-
  Proved: foretellkeep.EvalShift answers true at every list of raw numbers, every number and every three values (what is added and taken away again changes nothing; one times is the same, nought times is nought), given that the table polish.partCounts reads as its initialiser lays it, which the card ties to the program's text. No other condition.
-/
import Derived.Test.YtlmghhfpoeocnabDoorCards
import Derived.Test.YtlmghhfpoeocnabDoorTie
import Derived.Test.YtlmghhfpoeocnabDoorKeepEval
import Derived.Test.YtlmghhfpoeocnabDoorNumber
namespace Go.Proofs.YtlmghhfpoeocnabDoor
open Go.ChangeShapes Go.WideShapes Go.ChangeAt Go.RowKit Go.Deep
open Terms Tm

theorem ops_lit (w : World) (x y : Int) : OpsV (w.alloc (.cells #[.int .i64 x, .int .i64 y] 47)) (.slice (some ⟨w.heap.size, 0, none⟩) 1 1) [(x, y)] :=
  ⟨_, 1, rfl, ⟨by simp, fun h => by simp at h⟩, fun _ => ⟨w.heap.size, 0, rfl, by simp, fun i hi => by
    obtain rfl : i = 0 := by simpa using hi
    simp [go_sem]⟩⟩
/-- THE CONTRACT OF num. -/
theorem num_any (n : Int) (w : World) : Calls Tryd.prog 10 #[.int .i64 n] w fun e w' => ∃ a c, e = .returned (.slice a ([((1 : Int), (n : Int))] : List (Int × Int)).length c) ∧ Below w.heap.size w w' ∧ OpsV w' (.slice a ([((1 : Int), (n : Int))] : List (Int × Int)).length c) [((1 : Int), (n : Int))] := by
  have ho := ops_lit w 1 n
  go_enter Tryd.func10, Tryd.ntmps10
  go_wp2_with fail
  go_ret
  exact ⟨_, _, rfl, (Below.refl _ _).alloc (Nat.le_refl _) _, ho⟩
/-- a number alone needs no variables. -/
theorem eval_nil (v : Value) (n : Int) (w : World) (hn : -1000 ≤ n ∧ n ≤ 1000) (hB : 0 < w.heap.size) (hT : TabAt w) (hV : OpsV w v [(1, n)]) :
    Calls Tryd.prog 12 #[v, .slice none 0 0] w fun e w' => e = .returned (.tuple #[.int .i64 n, .int .i64 0]) ∧ Below w.heap.size w w' := by
  have hg : (Tm.leaf 1 n).Good 0 := .inl ⟨rfl, hn⟩
  have hx : xcode (([] : List Int).length : Nat) [(1, n)] (.leaf 1 n) = 0 := by
    have h := xcode_good (vars := 0) (t := .leaf 1 n) (by omega) (by omega) hg (by simp [Tm.size])
    simpa [Tm.ops, Tm.typed] using h
  refine (eval_any v (.slice none 0 0) [(1, n)] [] (.leaf 1 n) w hB hT hV ⟨none, 0, rfl, fun h => absurd rfl h⟩ (fun _ => ⟨hg.wf, rfl⟩)).mono fun e w' ⟨he, hb⟩ => ⟨?_, hb⟩
  rw [he]
  simp only [evalN, evalC, hx, ne_eq, not_true_eq_false, if_false]
  rfl

set_option maxHeartbeats 3200000 in
set_option maxRecDepth 20000 in
theorem evalShift_walk (rx : Value) (rsx : List (Int × Int)) (k a b c : Int) (w : World) (hB : 0 < w.heap.size) (hT : TabAt w) (hRx : Raws w w.heap.size rx rsx) (ik : I64 k) (ia : I64 a) (ib : I64 b) (ic : I64 c) :
    Calls Tryd.prog 4 #[rx, .int .i64 k, .agg #[.int .i64 a, .int .i64 b, .int .i64 c]] w fun e w' => e = .returned (.bool true) ∧ Below w.heap.size w w' := by
  have henv := fun w => env_any a b c w ia ib ic
  have hes := envL_s a b c
  generalize envL a b c = env at henv hes
  have HES : Hid (EnvS env) := hes
  have hpk := fun w => picked_is k 2001 w ik (by omega) (by omega)
  have hpr := pk_range (n := k) (m := 2001) (by omega)
  obtain ⟨z, hz⟩ : ∃ z, z = pk k 2001 := ⟨_, rfl⟩
  rw [← hz] at hpk hpr
  obtain ⟨hz0, hz1⟩ := hpr
  clear hz
  obtain ⟨ra, rn, rc, hra⟩ : ∃ a n c, rx = .slice a n c := by obtain ⟨⟨a, c, h, _⟩, _, _⟩ := hRx; exact ⟨_, _, _, h⟩
  obtain ⟨W0, hW0⟩ : ∃ W0, W0 = w.alloc (.cells #[.int .i64 a, .int .i64 b, .int .i64 c] 30) := ⟨_, rfl⟩
  have hb0 : Below w.heap.size w W0 := by rw [hW0]; exact (Below.refl _ _).alloc (Nat.le_refl _) _
  have hsz0 : W0.heap.size = w.heap.size + 1 := by rw [hW0]; simp
  have d0 : W0.cell? ⟨w.heap.size, 0, none⟩ = some (.int .i64 a) := by rw [hW0]; simp [go_sem]
  have d1 : W0.cell? ⟨w.heap.size, 1, none⟩ = some (.int .i64 b) := by rw [hW0]; simp [go_sem]
  have d2 : W0.cell? ⟨w.heap.size, 2, none⟩ = some (.int .i64 c) := by rw [hW0]; simp [go_sem]
  have htr := numberFn_any rx rsx 3 W0 (by omega) (by omega) (hRx.later hb0)
  rw [hW0] at htr
  have HW0 := (show Hid _ from hW0)
  have HB0 : Hid (Below w.heap.size w W0) := hb0
  have hB0 : 0 < W0.heap.size := by omega
  have HTb0 : Hid (∀ w', Below W0.heap.size W0 w' → 0 < w'.heap.size ∧ TabAt w' ∧ w'.cell? ⟨w.heap.size, 0, none⟩ = some (.int .i64 a) ∧ w'.cell? ⟨w.heap.size, 1, none⟩ = some (.int .i64 b) ∧ w'.cell? ⟨w.heap.size, 2, none⟩ = some (.int .i64 c)) := fun w' hw' =>
    ⟨Nat.lt_of_lt_of_le hB0 hw'.size, (hT.below hb0 hB).below hw' hB0, (hw'.cell (p := ⟨w.heap.size, 0, none⟩) (by simp only; omega)).trans d0, (hw'.cell (p := ⟨w.heap.size, 1, none⟩) (by simp only; omega)).trans d1, (hw'.cell (p := ⟨w.heap.size, 2, none⟩) (by simp only; omega)).trans d2⟩
  subst hra
  clear hW0 hRx hT hb0 d0 d1 d2 ia ib ic ik hsz0
  go_enter Tryd.func4, Tryd.ntmps4
  go_wp2_with (go_at_call_of 6 rn; refine htr.mono ?_; rintro e w0 ⟨av, la, rfl, htl, hll, hol, hb1⟩; obtain ⟨aa, ac, rfl⟩ := owns_slice hol)
  rw [← HW0.out] at hb1
  have hova := opsV_of_owns hol
  obtain ⟨A, hA⟩ := htl.tree (by omega)
  have HNA : Hid (la.length ≤ 60 ∧ la ≠ []) := ⟨by omega, by rw [← hA.ops]; exact A.ops_ne⟩
  have hsA : A.size ≤ 26 := by rw [← A.ops_length, hA.ops]; omega
  have HLLa : Hid (la.length ≤ 26) := by show _ ≤ _; omega
  have HOA0 : Hid (OpsV w0 (.slice aa la.length ac) la) := hova
  obtain ⟨na, hna⟩ : ∃ n, n = la.length := ⟨_, rfl⟩
  rw [← hna] at HOA0 ⊢
  have hnum := fun w => num_any (z - 1000) w
  clear htr htl hol hova hll hna
  go_wp2_with (first | (go_at_call 11; refine (hpk _).mono ?_; rintro e w9 ⟨rfl, rfl⟩) | (go_at_call 10; refine (hnum _).mono ?_; rintro e w1 ⟨ba, bc, rfl, hb2, hovb⟩; obtain ⟨k0, k1, k2⟩ := (HTb0.out w1 (hb1.trans (hb2.mono hb1.size))).2.2) | (go_at_call 13; refine (henv _).mono ?_; rintro e w3 ⟨ev, rfl, hie, hb3⟩; obtain ⟨ea, ec, rfl, hie2⟩ := hie))
  have hb91 := hb1.trans (hb2.mono hb1.size)
  obtain ⟨lb, hlb⟩ : ∃ l : List (Int × Int), l = [(1, z - 1000)] := ⟨_, rfl⟩
  have hovb1 : OpsV w1 (.slice ba 1 bc) lb := by rw [hlb]; exact hovb
  have HLB : Hid (lb = [(1, z - 1000)]) := hlb
  have HNB : Hid (lb.length ≤ 60 ∧ lb ≠ []) := by show _ ∧ _; rw [hlb]; simp
  have HLL : Hid (la.length + lb.length ≤ 40) := by show _ ≤ _; rw [hlb]; have := HLLa.out; simp; omega
  have HOA : Hid (∀ w', Below w1.heap.size w1 w' → OpsV w' (.slice aa na ac) la) := fun w' hw' => (HOA0.out.below hb2).below hw'
  have HOB : Hid (∀ w', Below w1.heap.size w1 w' → OpsV w' (.slice ba 1 bc) lb) := fun w' hw' => hovb1.below hw'
  have HTb : Hid (∀ w', Below w1.heap.size w1 w' → 0 < w'.heap.size ∧ TabAt w' ∧ w'.cell? ⟨w.heap.size, 0, none⟩ = some (.int .i64 a) ∧ w'.cell? ⟨w.heap.size, 1, none⟩ = some (.int .i64 b) ∧ w'.cell? ⟨w.heap.size, 2, none⟩ = some (.int .i64 c)) := fun w' hw' => HTb0.out w' (hb91.trans (hw'.mono hb91.size))
  have HBw : Hid (Below w.heap.size w w1) := HB0.out.trans (hb91.mono HB0.out.size)
  obtain ⟨x, hx, hxb⟩ := hA.eval env hes
  rw [show bnd 2 = 4096 from rfl] at hxb
  have HEV : Hid (A.eval env = some x ∧ (Tm.bi 4 0 (.bi 3 0 A (.leaf 1 (z - 1000))) (.leaf 1 (z - 1000))).eval env = some x ∧ (Tm.bi 5 0 (.leaf 1 1) A).eval env = some x ∧ (Tm.bi 5 0 A (.leaf 1 0)).eval env = some 0) := by
    show _ ∧ _ ∧ _ ∧ _
    have e1 : lid (bin 3 x (z - 1000)) = some (x + (z - 1000)) := lid_small (by show (x + (z - 1000)).natAbs ≤ _; omega)
    have e2 : lid (bin 4 (x + (z - 1000)) (z - 1000)) = some x := by
      rw [show bin 4 (x + (z - 1000)) (z - 1000) = x by show x + (z - 1000) - (z - 1000) = x; omega]
      exact lid_small (by omega)
    have e3 : lid (bin 5 1 x) = some x := by
      rw [show bin 5 1 x = x by show 1 * x = x; omega]
      exact lid_small (by omega)
    have e4 : lid (bin 5 x 0) = some 0 := by
      rw [show bin 5 x 0 = 0 by show x * 0 = 0; omega]
      rfl
    refine ⟨hx, ?_, ?_, ?_⟩
    · simp only [Tm.eval, hx, if_true, e1, e2]
    · simp only [Tm.eval, hx, if_true, e3]
    · simp only [Tm.eval, hx, if_true, e4]
  have hgl : ∀ n : Int, -1000 ≤ n ∧ n ≤ 1000 → (Tm.leaf 1 n).Good 3 := fun n hn => .inl ⟨rfl, hn⟩
  have HG : Hid (A.Good 3 ∧ (Tm.bi 4 0 (.bi 3 0 A (.leaf 1 (z - 1000))) (.leaf 1 (z - 1000))).Good 3 ∧ (Tm.bi 5 0 (.leaf 1 1) A).Good 3 ∧ (Tm.bi 5 0 A (.leaf 1 0)).Good 3) :=
    ⟨hA.good, ⟨by omega, by omega, rfl, ⟨by omega, by omega, rfl, hA.good, hgl _ (by omega)⟩, hgl _ (by omega)⟩, ⟨by omega, by omega, rfl, hgl _ (by omega), hA.good⟩, ⟨by omega, by omega, rfl, hA.good, hgl _ (by omega)⟩⟩
  have HTY : Hid (A.typed = true ∧ (Tm.bi 4 0 (.bi 3 0 A (.leaf 1 (z - 1000))) (.leaf 1 (z - 1000))).typed = true ∧ (Tm.bi 5 0 (.leaf 1 1) A).typed = true ∧ (Tm.bi 5 0 A (.leaf 1 0)).typed = true) := by
    have t3 : tkT 3 = false := rfl
    have t4 : tkT 4 = false := rfl
    have t5 : tkT 5 = false := rfl
    have m1 : ∀ n : Int, mkT (Tm.leaf 1 n).kind = false := fun _ => rfl
    have m3 : mkT (Tm.bi 3 0 A (.leaf 1 (z - 1000))).kind = false := rfl
    show _ ∧ _ ∧ _ ∧ _
    simp [Tm.typed, hA.typed, hA.kind, t3, t4, t5, m1, m3]
  have HSZ : Hid (A.size ≤ 60 ∧ (Tm.bi 4 0 (.bi 3 0 A (.leaf 1 (z - 1000))) (.leaf 1 (z - 1000))).size ≤ 60 ∧ (Tm.bi 5 0 (.leaf 1 1) A).size ≤ 60 ∧ (Tm.bi 5 0 A (.leaf 1 0)).size ≤ 60) := by
    show _ ∧ _ ∧ _ ∧ _
    simp only [Tm.size]; omega
  have HOP : Hid (A.ops = la) := hA.ops
  have hev := eval_some (.slice aa na ac) (.slice ea env.length ec) env A x w3 HEV.out.1 (HTb.out _ hb3).1 (HTb.out _ hb3).2.1 HES.out HG.out.1 HTY.out.1 HSZ.out.1 (by rw [HOP.out]; exact HOA.out _ hb3) ⟨ea, ec, rfl, hie2⟩
  have HB3 : Hid (Below w1.heap.size w1 w3) := hb3
  clear hlb hovb hovb1 hb91 hb1 hb2 hb3 HOA0 HTb0 HB0 HW0 hA hes hx hxb hsA hB0 hie2 hgl k0 k1 k2
  go_wp2_with (go_at_call 12; refine hev.mono ?_; rintro e w4 ⟨rfl, hb4⟩)
  have HC0 : Hid (Below w1.heap.size w1 w4) := HB3.out.trans (hb4.mono HB3.out.size)
  clear hev hb4
  have HLN0 : Hid (((((3), 0) :: (la ++ lb)) : List (Int × Int)).length ≤ 60) := by
    show _ ≤ _
    simp
    have := HLL.out
    omega
  have hB0 : Below w4.heap.size w4 w4 := Below.refl _ _
  have hX0 : Below w4.heap.size w4 ((w4.alloc (.cells #[.slice aa na ac, .slice ba 1 bc] 23)).drew) := (hB0.alloc (Nat.le_refl _) _).drew
  have hS0 : ∀ w', Below w4.heap.size w4 w' → w'.cell? ⟨w.heap.size, 0, none⟩ = some (.int .i64 a) ∧ w'.cell? ⟨w.heap.size, 1, none⟩ = some (.int .i64 b) ∧ w'.cell? ⟨w.heap.size, 2, none⟩ = some (.int .i64 c) := fun w' hw' => (HTb.out w' (HC0.out.trans (hw'.mono HC0.out.size))).2.2
  have hJ0 := joined2 (3) w4.heap.size (.slice aa na ac) (.slice ba 1 bc) la lb ((w4.alloc (.cells #[.slice aa na ac, .slice ba 1 bc] 23)).drew) (by simp [go_sem]) (by simp [go_sem]) HNA.out.1 HNB.out.1 HNA.out.2 HNB.out.2 (HOA.out _ (HC0.out.trans (hX0.mono HC0.out.size))) (HOB.out _ (HC0.out.trans (hX0.mono HC0.out.size)))
  have hK0 : ∀ (w5 : World) (jv : Value), Below w4.heap.size w4 w5 → OpsV w5 jv (((3), 0) :: (la ++ lb)) → Calls Tryd.prog 9 #[.int .i64 (4), .slice (some ⟨w5.heap.size, 0, none⟩) 2 2] (w5.alloc (.cells #[jv, .slice ba 1 bc] 23)) fun e w' => ∃ a c, e = .returned (.slice a ((((4), 0) :: ((((3), 0) :: (la ++ lb)) ++ lb)) : List (Int × Int)).length c) ∧ Below (w5.alloc (.cells #[jv, .slice ba 1 bc] 23)).heap.size (w5.alloc (.cells #[jv, .slice ba 1 bc] 23)) w' ∧ OpsV w' (.slice a ((((4), 0) :: ((((3), 0) :: (la ++ lb)) ++ lb)) : List (Int × Int)).length c) (((4), 0) :: ((((3), 0) :: (la ++ lb)) ++ lb)) := fun w5 jv hw5 ho => by
    have hx5 : Below w5.heap.size w5 (w5.alloc (.cells #[jv, .slice ba 1 bc] 23)) := (Below.refl _ _).alloc (Nat.le_refl _) _
    exact joined2 (4) w5.heap.size jv (.slice ba 1 bc) (((3), 0) :: (la ++ lb)) lb _ (by simp [go_sem]) (by simp [go_sem]) HLN0.out HNB.out.1 (by simp) HNB.out.2 (ho.below hx5) (HOB.out _ (HC0.out.trans ((hw5.trans (hx5.mono hw5.size)).mono HC0.out.size)))
  have hE0 : ∀ (w6 : World) (jv ev : Value), Below w4.heap.size w4 w6 → OpsV w6 jv (((4), 0) :: ((((3), 0) :: (la ++ lb)) ++ lb)) → IntsV w6 ev env → Calls Tryd.prog 12 #[jv, ev] w6 fun e w' => e = .returned (.tuple #[.int .i64 x, .int .i64 0]) ∧ Below w6.heap.size w6 w' := fun w6 jv ev hw6 ho hi => by
    obtain ⟨hp6, ht6, _⟩ := HTb.out w6 (HC0.out.trans (hw6.mono HC0.out.size))
    exact eval_some jv ev env (.bi 4 0 (.bi 3 0 A (.leaf 1 (z - 1000))) (.leaf 1 (z - 1000))) x w6 HEV.out.2.1 hp6 ht6 HES.out HG.out.2.1 HTY.out.2.1 HSZ.out.2.1 (by simp only [Tm.ops, HOP.out]; rw [HLB.out] at ho; exact ho) hi
  generalize ((((3), 0) :: (la ++ lb)) : List (Int × Int)).length = m0 at hJ0
  generalize ((((4), 0) :: ((((3), 0) :: (la ++ lb)) ++ lb)) : List (Int × Int)).length = mm0 at hK0
  go_region_held3 (fun w' => w'.cell? ⟨w.heap.size, 0, none⟩ = some (.int .i64 a) ∧ w'.cell? ⟨w.heap.size, 1, none⟩ = some (.int .i64 b) ∧ w'.cell? ⟨w.heap.size, 2, none⟩ = some (.int .i64 c))
    (exact hS0 _ (by first | exact hB0 | exact hB0.drew | exact hX0 | exact ((((hX0.trans (hb0a.mono hX0.size)).trans ((Below.alloc (Below.refl _ _) (Nat.le_refl _) _).mono (hX0.trans (hb0a.mono hX0.size)).size)).trans (hb0d.mono ((hX0.trans (hb0a.mono hX0.size)).trans ((Below.alloc (Below.refl _ _) (Nat.le_refl _) _).mono (hX0.trans (hb0a.mono hX0.size)).size)).size)).trans (hb0b.mono (((hX0.trans (hb0a.mono hX0.size)).trans ((Below.alloc (Below.refl _ _) (Nat.le_refl _) _).mono (hX0.trans (hb0a.mono hX0.size)).size)).trans (hb0d.mono ((hX0.trans (hb0a.mono hX0.size)).trans ((Below.alloc (Below.refl _ _) (Nat.le_refl _) _).mono (hX0.trans (hb0a.mono hX0.size)).size)).size)).size)).trans (hb0c.mono ((((hX0.trans (hb0a.mono hX0.size)).trans ((Below.alloc (Below.refl _ _) (Nat.le_refl _) _).mono (hX0.trans (hb0a.mono hX0.size)).size)).trans (hb0d.mono ((hX0.trans (hb0a.mono hX0.size)).trans ((Below.alloc (Below.refl _ _) (Nat.le_refl _) _).mono (hX0.trans (hb0a.mono hX0.size)).size)).size)).trans (hb0b.mono (((hX0.trans (hb0a.mono hX0.size)).trans ((Below.alloc (Below.refl _ _) (Nat.le_refl _) _).mono (hX0.trans (hb0a.mono hX0.size)).size)).trans (hb0d.mono ((hX0.trans (hb0a.mono hX0.size)).trans ((Below.alloc (Below.refl _ _) (Nat.le_refl _) _).mono (hX0.trans (hb0a.mono hX0.size)).size)).size)).size)).size) | exact (((hX0.trans (hb0a.mono hX0.size)).trans ((Below.alloc (Below.refl _ _) (Nat.le_refl _) _).mono (hX0.trans (hb0a.mono hX0.size)).size)).trans (hb0d.mono ((hX0.trans (hb0a.mono hX0.size)).trans ((Below.alloc (Below.refl _ _) (Nat.le_refl _) _).mono (hX0.trans (hb0a.mono hX0.size)).size)).size)).trans (hb0b.mono (((hX0.trans (hb0a.mono hX0.size)).trans ((Below.alloc (Below.refl _ _) (Nat.le_refl _) _).mono (hX0.trans (hb0a.mono hX0.size)).size)).trans (hb0d.mono ((hX0.trans (hb0a.mono hX0.size)).trans ((Below.alloc (Below.refl _ _) (Nat.le_refl _) _).mono (hX0.trans (hb0a.mono hX0.size)).size)).size)).size) | exact ((hX0.trans (hb0a.mono hX0.size)).trans ((Below.alloc (Below.refl _ _) (Nat.le_refl _) _).mono (hX0.trans (hb0a.mono hX0.size)).size)).trans (hb0d.mono ((hX0.trans (hb0a.mono hX0.size)).trans ((Below.alloc (Below.refl _ _) (Nat.le_refl _) _).mono (hX0.trans (hb0a.mono hX0.size)).size)).size) | exact (hX0.trans (hb0a.mono hX0.size)).trans ((Below.alloc (Below.refl _ _) (Nat.le_refl _) _).mono (hX0.trans (hb0a.mono hX0.size)).size) | exact hX0.trans (hb0a.mono hX0.size)))
    (first | (go_at_call 9; refine (hK0 _ _ (hX0.trans (hb0a.mono hX0.size)) hov0).mono ?_; rintro e w0d ⟨jd0, je0, rfl, hb0d, how0⟩) | (go_at_call 9; refine hJ0.mono ?_; rintro e w0a ⟨ja0, jc0, rfl, hb0a, hov0⟩) | (go_at_call 13; refine (henv _).mono ?_; rintro e w0b ⟨ev0, rfl, hie0, hb0b⟩; obtain ⟨ea0, ec0, rfl, hif0⟩ := hie0) | (go_at_call 12; refine (hE0 _ _ _ ((((hX0.trans (hb0a.mono hX0.size)).trans ((Below.alloc (Below.refl _ _) (Nat.le_refl _) _).mono (hX0.trans (hb0a.mono hX0.size)).size)).trans (hb0d.mono ((hX0.trans (hb0a.mono hX0.size)).trans ((Below.alloc (Below.refl _ _) (Nat.le_refl _) _).mono (hX0.trans (hb0a.mono hX0.size)).size)).size)).trans (hb0b.mono (((hX0.trans (hb0a.mono hX0.size)).trans ((Below.alloc (Below.refl _ _) (Nat.le_refl _) _).mono (hX0.trans (hb0a.mono hX0.size)).size)).trans (hb0d.mono ((hX0.trans (hb0a.mono hX0.size)).trans ((Below.alloc (Below.refl _ _) (Nat.le_refl _) _).mono (hX0.trans (hb0a.mono hX0.size)).size)).size)).size)) (how0.below hb0b) ⟨ea0, ec0, rfl, hif0⟩).mono ?_; rintro e w0c ⟨rfl, hb0c⟩))
  have hbf0 := ((((hX0.trans (hb0a.mono hX0.size)).trans ((Below.alloc (Below.refl _ _) (Nat.le_refl _) _).mono (hX0.trans (hb0a.mono hX0.size)).size)).trans (hb0d.mono ((hX0.trans (hb0a.mono hX0.size)).trans ((Below.alloc (Below.refl _ _) (Nat.le_refl _) _).mono (hX0.trans (hb0a.mono hX0.size)).size)).size)).trans (hb0b.mono (((hX0.trans (hb0a.mono hX0.size)).trans ((Below.alloc (Below.refl _ _) (Nat.le_refl _) _).mono (hX0.trans (hb0a.mono hX0.size)).size)).trans (hb0d.mono ((hX0.trans (hb0a.mono hX0.size)).trans ((Below.alloc (Below.refl _ _) (Nat.le_refl _) _).mono (hX0.trans (hb0a.mono hX0.size)).size)).size)).size)).trans (hb0c.mono ((((hX0.trans (hb0a.mono hX0.size)).trans ((Below.alloc (Below.refl _ _) (Nat.le_refl _) _).mono (hX0.trans (hb0a.mono hX0.size)).size)).trans (hb0d.mono ((hX0.trans (hb0a.mono hX0.size)).trans ((Below.alloc (Below.refl _ _) (Nat.le_refl _) _).mono (hX0.trans (hb0a.mono hX0.size)).size)).size)).trans (hb0b.mono (((hX0.trans (hb0a.mono hX0.size)).trans ((Below.alloc (Below.refl _ _) (Nat.le_refl _) _).mono (hX0.trans (hb0a.mono hX0.size)).size)).trans (hb0d.mono ((hX0.trans (hb0a.mono hX0.size)).trans ((Below.alloc (Below.refl _ _) (Nat.le_refl _) _).mono (hX0.trans (hb0a.mono hX0.size)).size)).size)).size)).size)
  have HC1 : Hid (Below w1.heap.size w1 w0c) := HC0.out.trans (hbf0.mono HC0.out.size)
  clear hbf0 hb0a hb0b hb0c hb0d hov0 how0 hif0 hE0 hJ0 hK0 hS0 hX0 hB0
  go_wp2_with fail
  have HLN1 : Hid (([((1 : Int), (1 : Int))] : List (Int × Int)).length ≤ 60) := by
    show _ ≤ _
    simp
  have hB1 : Below w0c.heap.size w0c w0c := Below.refl _ _
  have hX1 : Below w0c.heap.size w0c (w0c.drew) := hB1.drew
  have hS1 : ∀ w', Below w0c.heap.size w0c w' → w'.cell? ⟨w.heap.size, 0, none⟩ = some (.int .i64 a) ∧ w'.cell? ⟨w.heap.size, 1, none⟩ = some (.int .i64 b) ∧ w'.cell? ⟨w.heap.size, 2, none⟩ = some (.int .i64 c) := fun w' hw' => (HTb.out w' (HC1.out.trans (hw'.mono HC1.out.size))).2.2
  have hJ1 := num_any (1) (w0c.drew)
  have hK1 : ∀ (w5 : World) (jv : Value), Below w0c.heap.size w0c w5 → OpsV w5 jv [((1 : Int), (1 : Int))] → Calls Tryd.prog 9 #[.int .i64 (5), .slice (some ⟨w5.heap.size, 0, none⟩) 2 2] (w5.alloc (.cells #[jv, .slice aa na ac] 23)) fun e w' => ∃ a c, e = .returned (.slice a ((((5), 0) :: ([((1 : Int), (1 : Int))] ++ la)) : List (Int × Int)).length c) ∧ Below (w5.alloc (.cells #[jv, .slice aa na ac] 23)).heap.size (w5.alloc (.cells #[jv, .slice aa na ac] 23)) w' ∧ OpsV w' (.slice a ((((5), 0) :: ([((1 : Int), (1 : Int))] ++ la)) : List (Int × Int)).length c) (((5), 0) :: ([((1 : Int), (1 : Int))] ++ la)) := fun w5 jv hw5 ho => by
    have hx5 : Below w5.heap.size w5 (w5.alloc (.cells #[jv, .slice aa na ac] 23)) := (Below.refl _ _).alloc (Nat.le_refl _) _
    exact joined2 (5) w5.heap.size jv (.slice aa na ac) [((1 : Int), (1 : Int))] la _ (by simp [go_sem]) (by simp [go_sem]) HLN1.out HNA.out.1 (by simp) HNA.out.2 (ho.below hx5) (HOA.out _ (HC1.out.trans ((hw5.trans (hx5.mono hw5.size)).mono HC1.out.size)))
  have hE1 : ∀ (w6 : World) (jv ev : Value), Below w0c.heap.size w0c w6 → OpsV w6 jv (((5), 0) :: ([((1 : Int), (1 : Int))] ++ la)) → IntsV w6 ev env → Calls Tryd.prog 12 #[jv, ev] w6 fun e w' => e = .returned (.tuple #[.int .i64 x, .int .i64 0]) ∧ Below w6.heap.size w6 w' := fun w6 jv ev hw6 ho hi => by
    obtain ⟨hp6, ht6, _⟩ := HTb.out w6 (HC1.out.trans (hw6.mono HC1.out.size))
    exact eval_some jv ev env (.bi 5 0 (.leaf 1 1) A) x w6 HEV.out.2.2.1 hp6 ht6 HES.out HG.out.2.2.1 HTY.out.2.2.1 HSZ.out.2.2.1 (by simp only [Tm.ops, HOP.out]; exact ho) hi
  generalize ([((1 : Int), (1 : Int))] : List (Int × Int)).length = m1 at hJ1
  generalize ((((5), 0) :: ([((1 : Int), (1 : Int))] ++ la)) : List (Int × Int)).length = mm1 at hK1
  go_region_held3 (fun w' => w'.cell? ⟨w.heap.size, 0, none⟩ = some (.int .i64 a) ∧ w'.cell? ⟨w.heap.size, 1, none⟩ = some (.int .i64 b) ∧ w'.cell? ⟨w.heap.size, 2, none⟩ = some (.int .i64 c))
    (exact hS1 _ (by first | exact hB1 | exact hB1.drew | exact hX1 | exact ((((hX1.trans (hb1a.mono hX1.size)).trans ((Below.alloc (Below.refl _ _) (Nat.le_refl _) _).mono (hX1.trans (hb1a.mono hX1.size)).size)).trans (hb1d.mono ((hX1.trans (hb1a.mono hX1.size)).trans ((Below.alloc (Below.refl _ _) (Nat.le_refl _) _).mono (hX1.trans (hb1a.mono hX1.size)).size)).size)).trans (hb1b.mono (((hX1.trans (hb1a.mono hX1.size)).trans ((Below.alloc (Below.refl _ _) (Nat.le_refl _) _).mono (hX1.trans (hb1a.mono hX1.size)).size)).trans (hb1d.mono ((hX1.trans (hb1a.mono hX1.size)).trans ((Below.alloc (Below.refl _ _) (Nat.le_refl _) _).mono (hX1.trans (hb1a.mono hX1.size)).size)).size)).size)).trans (hb1c.mono ((((hX1.trans (hb1a.mono hX1.size)).trans ((Below.alloc (Below.refl _ _) (Nat.le_refl _) _).mono (hX1.trans (hb1a.mono hX1.size)).size)).trans (hb1d.mono ((hX1.trans (hb1a.mono hX1.size)).trans ((Below.alloc (Below.refl _ _) (Nat.le_refl _) _).mono (hX1.trans (hb1a.mono hX1.size)).size)).size)).trans (hb1b.mono (((hX1.trans (hb1a.mono hX1.size)).trans ((Below.alloc (Below.refl _ _) (Nat.le_refl _) _).mono (hX1.trans (hb1a.mono hX1.size)).size)).trans (hb1d.mono ((hX1.trans (hb1a.mono hX1.size)).trans ((Below.alloc (Below.refl _ _) (Nat.le_refl _) _).mono (hX1.trans (hb1a.mono hX1.size)).size)).size)).size)).size) | exact (((hX1.trans (hb1a.mono hX1.size)).trans ((Below.alloc (Below.refl _ _) (Nat.le_refl _) _).mono (hX1.trans (hb1a.mono hX1.size)).size)).trans (hb1d.mono ((hX1.trans (hb1a.mono hX1.size)).trans ((Below.alloc (Below.refl _ _) (Nat.le_refl _) _).mono (hX1.trans (hb1a.mono hX1.size)).size)).size)).trans (hb1b.mono (((hX1.trans (hb1a.mono hX1.size)).trans ((Below.alloc (Below.refl _ _) (Nat.le_refl _) _).mono (hX1.trans (hb1a.mono hX1.size)).size)).trans (hb1d.mono ((hX1.trans (hb1a.mono hX1.size)).trans ((Below.alloc (Below.refl _ _) (Nat.le_refl _) _).mono (hX1.trans (hb1a.mono hX1.size)).size)).size)).size) | exact ((hX1.trans (hb1a.mono hX1.size)).trans ((Below.alloc (Below.refl _ _) (Nat.le_refl _) _).mono (hX1.trans (hb1a.mono hX1.size)).size)).trans (hb1d.mono ((hX1.trans (hb1a.mono hX1.size)).trans ((Below.alloc (Below.refl _ _) (Nat.le_refl _) _).mono (hX1.trans (hb1a.mono hX1.size)).size)).size) | exact (hX1.trans (hb1a.mono hX1.size)).trans ((Below.alloc (Below.refl _ _) (Nat.le_refl _) _).mono (hX1.trans (hb1a.mono hX1.size)).size) | exact hX1.trans (hb1a.mono hX1.size)))
    (first | (go_at_call 9; refine (hK1 _ _ (hX1.trans (hb1a.mono hX1.size)) hov1).mono ?_; rintro e w1d ⟨jd1, je1, rfl, hb1d, how1⟩) | (go_at_call 10; refine hJ1.mono ?_; rintro e w1a ⟨ja1, jc1, rfl, hb1a, hov1⟩) | (go_at_call 13; refine (henv _).mono ?_; rintro e w1b ⟨ev1, rfl, hie1, hb1b⟩; obtain ⟨ea1, ec1, rfl, hif1⟩ := hie1) | (go_at_call 12; refine (hE1 _ _ _ ((((hX1.trans (hb1a.mono hX1.size)).trans ((Below.alloc (Below.refl _ _) (Nat.le_refl _) _).mono (hX1.trans (hb1a.mono hX1.size)).size)).trans (hb1d.mono ((hX1.trans (hb1a.mono hX1.size)).trans ((Below.alloc (Below.refl _ _) (Nat.le_refl _) _).mono (hX1.trans (hb1a.mono hX1.size)).size)).size)).trans (hb1b.mono (((hX1.trans (hb1a.mono hX1.size)).trans ((Below.alloc (Below.refl _ _) (Nat.le_refl _) _).mono (hX1.trans (hb1a.mono hX1.size)).size)).trans (hb1d.mono ((hX1.trans (hb1a.mono hX1.size)).trans ((Below.alloc (Below.refl _ _) (Nat.le_refl _) _).mono (hX1.trans (hb1a.mono hX1.size)).size)).size)).size)) (how1.below hb1b) ⟨ea1, ec1, rfl, hif1⟩).mono ?_; rintro e w1c ⟨rfl, hb1c⟩))
  have hbf1 := ((((hX1.trans (hb1a.mono hX1.size)).trans ((Below.alloc (Below.refl _ _) (Nat.le_refl _) _).mono (hX1.trans (hb1a.mono hX1.size)).size)).trans (hb1d.mono ((hX1.trans (hb1a.mono hX1.size)).trans ((Below.alloc (Below.refl _ _) (Nat.le_refl _) _).mono (hX1.trans (hb1a.mono hX1.size)).size)).size)).trans (hb1b.mono (((hX1.trans (hb1a.mono hX1.size)).trans ((Below.alloc (Below.refl _ _) (Nat.le_refl _) _).mono (hX1.trans (hb1a.mono hX1.size)).size)).trans (hb1d.mono ((hX1.trans (hb1a.mono hX1.size)).trans ((Below.alloc (Below.refl _ _) (Nat.le_refl _) _).mono (hX1.trans (hb1a.mono hX1.size)).size)).size)).size)).trans (hb1c.mono ((((hX1.trans (hb1a.mono hX1.size)).trans ((Below.alloc (Below.refl _ _) (Nat.le_refl _) _).mono (hX1.trans (hb1a.mono hX1.size)).size)).trans (hb1d.mono ((hX1.trans (hb1a.mono hX1.size)).trans ((Below.alloc (Below.refl _ _) (Nat.le_refl _) _).mono (hX1.trans (hb1a.mono hX1.size)).size)).size)).trans (hb1b.mono (((hX1.trans (hb1a.mono hX1.size)).trans ((Below.alloc (Below.refl _ _) (Nat.le_refl _) _).mono (hX1.trans (hb1a.mono hX1.size)).size)).trans (hb1d.mono ((hX1.trans (hb1a.mono hX1.size)).trans ((Below.alloc (Below.refl _ _) (Nat.le_refl _) _).mono (hX1.trans (hb1a.mono hX1.size)).size)).size)).size)).size)
  have HC2 : Hid (Below w1.heap.size w1 w1c) := HC1.out.trans (hbf1.mono HC1.out.size)
  clear hbf1 hb1a hb1b hb1c hb1d hov1 how1 hif1 hE1 hJ1 hK1 hS1 hX1 hB1
  go_wp2_with fail
  have HLN2 : Hid (([((1 : Int), (0 : Int))] : List (Int × Int)).length ≤ 60) := by
    show _ ≤ _
    simp
  have hB2 : Below w1c.heap.size w1c w1c := Below.refl _ _
  have hX2 : Below w1c.heap.size w1c (w1c.drew) := hB2.drew
  have hS2 : ∀ w', Below w1c.heap.size w1c w' → w'.cell? ⟨w.heap.size, 0, none⟩ = some (.int .i64 a) ∧ w'.cell? ⟨w.heap.size, 1, none⟩ = some (.int .i64 b) ∧ w'.cell? ⟨w.heap.size, 2, none⟩ = some (.int .i64 c) := fun w' hw' => (HTb.out w' (HC2.out.trans (hw'.mono HC2.out.size))).2.2
  have hJ2 := num_any (0) (w1c.drew)
  have hK2 : ∀ (w5 : World) (jv : Value), Below w1c.heap.size w1c w5 → OpsV w5 jv [((1 : Int), (0 : Int))] → Calls Tryd.prog 9 #[.int .i64 (5), .slice (some ⟨w5.heap.size, 0, none⟩) 2 2] (w5.alloc (.cells #[.slice aa na ac, jv] 23)) fun e w' => ∃ a c, e = .returned (.slice a ((((5), 0) :: (la ++ [((1 : Int), (0 : Int))])) : List (Int × Int)).length c) ∧ Below (w5.alloc (.cells #[.slice aa na ac, jv] 23)).heap.size (w5.alloc (.cells #[.slice aa na ac, jv] 23)) w' ∧ OpsV w' (.slice a ((((5), 0) :: (la ++ [((1 : Int), (0 : Int))])) : List (Int × Int)).length c) (((5), 0) :: (la ++ [((1 : Int), (0 : Int))])) := fun w5 jv hw5 ho => by
    have hx5 : Below w5.heap.size w5 (w5.alloc (.cells #[.slice aa na ac, jv] 23)) := (Below.refl _ _).alloc (Nat.le_refl _) _
    exact joined2 (5) w5.heap.size (.slice aa na ac) jv la [((1 : Int), (0 : Int))] _ (by simp [go_sem]) (by simp [go_sem]) HNA.out.1 HLN2.out HNA.out.2 (by simp) (HOA.out _ (HC2.out.trans ((hw5.trans (hx5.mono hw5.size)).mono HC2.out.size))) (ho.below hx5)
  have hE2 : ∀ (w6 : World) (jv ev : Value), Below w1c.heap.size w1c w6 → OpsV w6 jv (((5), 0) :: (la ++ [((1 : Int), (0 : Int))])) → IntsV w6 ev env → Calls Tryd.prog 12 #[jv, ev] w6 fun e w' => e = .returned (.tuple #[.int .i64 0, .int .i64 0]) ∧ Below w6.heap.size w6 w' := fun w6 jv ev hw6 ho hi => by
    obtain ⟨hp6, ht6, _⟩ := HTb.out w6 (HC2.out.trans (hw6.mono HC2.out.size))
    exact eval_some jv ev env (.bi 5 0 A (.leaf 1 0)) 0 w6 HEV.out.2.2.2 hp6 ht6 HES.out HG.out.2.2.2 HTY.out.2.2.2 HSZ.out.2.2.2 (by simp only [Tm.ops, HOP.out]; exact ho) hi
  generalize ([((1 : Int), (0 : Int))] : List (Int × Int)).length = m2 at hJ2
  generalize ((((5), 0) :: (la ++ [((1 : Int), (0 : Int))])) : List (Int × Int)).length = mm2 at hK2
  go_region_held3 (fun w' => w'.cell? ⟨w.heap.size, 0, none⟩ = some (.int .i64 a) ∧ w'.cell? ⟨w.heap.size, 1, none⟩ = some (.int .i64 b) ∧ w'.cell? ⟨w.heap.size, 2, none⟩ = some (.int .i64 c))
    (exact hS2 _ (by first | exact hB2 | exact hB2.drew | exact hX2 | exact ((((hX2.trans (hb2a.mono hX2.size)).trans ((Below.alloc (Below.refl _ _) (Nat.le_refl _) _).mono (hX2.trans (hb2a.mono hX2.size)).size)).trans (hb2d.mono ((hX2.trans (hb2a.mono hX2.size)).trans ((Below.alloc (Below.refl _ _) (Nat.le_refl _) _).mono (hX2.trans (hb2a.mono hX2.size)).size)).size)).trans (hb2b.mono (((hX2.trans (hb2a.mono hX2.size)).trans ((Below.alloc (Below.refl _ _) (Nat.le_refl _) _).mono (hX2.trans (hb2a.mono hX2.size)).size)).trans (hb2d.mono ((hX2.trans (hb2a.mono hX2.size)).trans ((Below.alloc (Below.refl _ _) (Nat.le_refl _) _).mono (hX2.trans (hb2a.mono hX2.size)).size)).size)).size)).trans (hb2c.mono ((((hX2.trans (hb2a.mono hX2.size)).trans ((Below.alloc (Below.refl _ _) (Nat.le_refl _) _).mono (hX2.trans (hb2a.mono hX2.size)).size)).trans (hb2d.mono ((hX2.trans (hb2a.mono hX2.size)).trans ((Below.alloc (Below.refl _ _) (Nat.le_refl _) _).mono (hX2.trans (hb2a.mono hX2.size)).size)).size)).trans (hb2b.mono (((hX2.trans (hb2a.mono hX2.size)).trans ((Below.alloc (Below.refl _ _) (Nat.le_refl _) _).mono (hX2.trans (hb2a.mono hX2.size)).size)).trans (hb2d.mono ((hX2.trans (hb2a.mono hX2.size)).trans ((Below.alloc (Below.refl _ _) (Nat.le_refl _) _).mono (hX2.trans (hb2a.mono hX2.size)).size)).size)).size)).size) | exact (((hX2.trans (hb2a.mono hX2.size)).trans ((Below.alloc (Below.refl _ _) (Nat.le_refl _) _).mono (hX2.trans (hb2a.mono hX2.size)).size)).trans (hb2d.mono ((hX2.trans (hb2a.mono hX2.size)).trans ((Below.alloc (Below.refl _ _) (Nat.le_refl _) _).mono (hX2.trans (hb2a.mono hX2.size)).size)).size)).trans (hb2b.mono (((hX2.trans (hb2a.mono hX2.size)).trans ((Below.alloc (Below.refl _ _) (Nat.le_refl _) _).mono (hX2.trans (hb2a.mono hX2.size)).size)).trans (hb2d.mono ((hX2.trans (hb2a.mono hX2.size)).trans ((Below.alloc (Below.refl _ _) (Nat.le_refl _) _).mono (hX2.trans (hb2a.mono hX2.size)).size)).size)).size) | exact ((hX2.trans (hb2a.mono hX2.size)).trans ((Below.alloc (Below.refl _ _) (Nat.le_refl _) _).mono (hX2.trans (hb2a.mono hX2.size)).size)).trans (hb2d.mono ((hX2.trans (hb2a.mono hX2.size)).trans ((Below.alloc (Below.refl _ _) (Nat.le_refl _) _).mono (hX2.trans (hb2a.mono hX2.size)).size)).size) | exact (hX2.trans (hb2a.mono hX2.size)).trans ((Below.alloc (Below.refl _ _) (Nat.le_refl _) _).mono (hX2.trans (hb2a.mono hX2.size)).size) | exact hX2.trans (hb2a.mono hX2.size)))
    (first | (go_at_call 9; refine (hK2 _ _ (hX2.trans (hb2a.mono hX2.size)) hov2).mono ?_; rintro e w2d ⟨jd2, je2, rfl, hb2d, how2⟩) | (go_at_call 10; refine hJ2.mono ?_; rintro e w2a ⟨ja2, jc2, rfl, hb2a, hov2⟩) | (go_at_call 13; refine (henv _).mono ?_; rintro e w2b ⟨ev2, rfl, hie2, hb2b⟩; obtain ⟨ea2, ec2, rfl, hif2⟩ := hie2) | (go_at_call 12; refine (hE2 _ _ _ ((((hX2.trans (hb2a.mono hX2.size)).trans ((Below.alloc (Below.refl _ _) (Nat.le_refl _) _).mono (hX2.trans (hb2a.mono hX2.size)).size)).trans (hb2d.mono ((hX2.trans (hb2a.mono hX2.size)).trans ((Below.alloc (Below.refl _ _) (Nat.le_refl _) _).mono (hX2.trans (hb2a.mono hX2.size)).size)).size)).trans (hb2b.mono (((hX2.trans (hb2a.mono hX2.size)).trans ((Below.alloc (Below.refl _ _) (Nat.le_refl _) _).mono (hX2.trans (hb2a.mono hX2.size)).size)).trans (hb2d.mono ((hX2.trans (hb2a.mono hX2.size)).trans ((Below.alloc (Below.refl _ _) (Nat.le_refl _) _).mono (hX2.trans (hb2a.mono hX2.size)).size)).size)).size)) (how2.below hb2b) ⟨ea2, ec2, rfl, hif2⟩).mono ?_; rintro e w2c ⟨rfl, hb2c⟩))
  have hbf2 := ((((hX2.trans (hb2a.mono hX2.size)).trans ((Below.alloc (Below.refl _ _) (Nat.le_refl _) _).mono (hX2.trans (hb2a.mono hX2.size)).size)).trans (hb2d.mono ((hX2.trans (hb2a.mono hX2.size)).trans ((Below.alloc (Below.refl _ _) (Nat.le_refl _) _).mono (hX2.trans (hb2a.mono hX2.size)).size)).size)).trans (hb2b.mono (((hX2.trans (hb2a.mono hX2.size)).trans ((Below.alloc (Below.refl _ _) (Nat.le_refl _) _).mono (hX2.trans (hb2a.mono hX2.size)).size)).trans (hb2d.mono ((hX2.trans (hb2a.mono hX2.size)).trans ((Below.alloc (Below.refl _ _) (Nat.le_refl _) _).mono (hX2.trans (hb2a.mono hX2.size)).size)).size)).size)).trans (hb2c.mono ((((hX2.trans (hb2a.mono hX2.size)).trans ((Below.alloc (Below.refl _ _) (Nat.le_refl _) _).mono (hX2.trans (hb2a.mono hX2.size)).size)).trans (hb2d.mono ((hX2.trans (hb2a.mono hX2.size)).trans ((Below.alloc (Below.refl _ _) (Nat.le_refl _) _).mono (hX2.trans (hb2a.mono hX2.size)).size)).size)).trans (hb2b.mono (((hX2.trans (hb2a.mono hX2.size)).trans ((Below.alloc (Below.refl _ _) (Nat.le_refl _) _).mono (hX2.trans (hb2a.mono hX2.size)).size)).trans (hb2d.mono ((hX2.trans (hb2a.mono hX2.size)).trans ((Below.alloc (Below.refl _ _) (Nat.le_refl _) _).mono (hX2.trans (hb2a.mono hX2.size)).size)).size)).size)).size)
  have HC3 : Hid (Below w1.heap.size w1 w2c) := HC2.out.trans (hbf2.mono HC2.out.size)
  clear hbf2 hb2a hb2b hb2c hb2d hov2 how2 hif2 hE2 hJ2 hK2 hS2 hX2 hB2
  have hen := eval_nil (.slice ba 1 bc) (z - 1000) w2c (by omega) (HTb.out _ HC3.out).1 (HTb.out _ HC3.out).2.1 (by rw [← HLB.out]; exact HOB.out _ HC3.out)
  go_wp2_with (first | (go_at_call 12; refine hen.mono ?_; rintro e w5 ⟨rfl, hb5⟩) | (go_at_call 11; refine (hpk _).mono ?_; rintro e w8 ⟨rfl, rfl⟩))
  go_ret
  exact ⟨rfl, HBw.out.trans ((HC3.out.trans (hb5.mono HC3.out.size)).mono HBw.out.size)⟩

theorem evalShift_contract (H : Type) (enc : TypeId × Value → H) (W : World) (base : Nat) (args : Array Value) (ds gs : List (DataW H)) (before : List MemPlace)
    (hval : ∀ (j : Nat) t v, Tryd.f4.params[j]? = some t → args[j]? = some v → Value.okWide Tryd.prog W .any base t v)
    (hW : DataW.Whole enc Tryd.prog Tryd.f4.params.toList Rows.evalShiftSpec.vars false W args.toList ds gs before)
    (hsz0 : (DataW.weightsEach Tryd.prog (Tryd.f4.params.toList ++ (OpenSpec.ofChange Rows.evalShiftSpec).bare.plain.varTypes Tryd.prog) (ds ++ gs)).all (· ≤ reachBytes) = true)
    (hL : laidMetH Tryd.prog Rows.evalShiftRow.laid W) :
    Calls Tryd.prog 4 args W fun e W' => ∃ v, e = .returned v ∧ Rows.evalShiftSpec.post enc Tryd.prog Tryd.f4 false true false false W args v W' := by
  have hW' := hW
  obtain ⟨p, q, hA0, hV, rfl, hfz, hnd⟩ := hW
  have hA : DataW.TrodAll enc Tryd.prog W 0 (fun _ => true) true Tryd.f4.params.toList args.toList ds p := hA0
  rw [Tryd.params4] at hA hval
  obtain ⟨v0, vs0, d0, ds0, p0, q0, hargs, rfl, rfl, h0, r0⟩ := trodAll_cons hA
  obtain ⟨v1, vs1, d1, ds1, p1, q1, rfl, rfl, rfl, h1, r1⟩ := trodAll_cons r0
  obtain ⟨v2, vs2, d2, ds2, p2, q2, rfl, rfl, rfl, h2, r2⟩ := trodAll_cons r1
  obtain ⟨rfl, rfl, rfl⟩ := trodAll_nil r2
  obtain rfl : args = #[v0, v1, v2] := by cases args; simp_all
  obtain ⟨rfl, rfl⟩ := trodVars_none hV
  have hsz : (DataW.weightsEach Tryd.prog [22, 3, 30] [d0, d1, d2]).all (· ≤ reachBytes) = true := hsz0
  obtain ⟨rs, hrs⟩ := open_raws (hval 0 22 v0 rfl rfl) h0 hsz (j := 0) rfl rfl
  obtain ⟨k, rfl, rfl, rfl, wf1⟩ := open_int Tryd.underlying3 (hval 1 3 v1 rfl rfl) h1
  obtain ⟨a, b, c, rfl, ia, ib, ic⟩ := open_arr3 (hval 2 30 v2 rfl rfl) h2
  have hT := tabAt hL
  refine (evalShift_walk v0 rs k a b c W (tab_size hT) hT hrs (bounds_i64 wf1) ia ib ic).mono fun e W' ⟨he, hb⟩ => ⟨_, he, ?_⟩
  refine law_post (fun t ht => ?_) rfl (by kernel_rfl) hW' rfl rfl rfl hb
  rw [Tryd.params4] at ht
  simp only [List.mem_cons, List.not_mem_nil, or_false] at ht
  rcases ht with rfl | rfl | rfl
  · exact ⟨by kernel_rfl, of_decide_eq_true (by kernel_rfl)⟩
  · exact ⟨by kernel_rfl, of_decide_eq_true (by kernel_rfl)⟩
  · exact ⟨by kernel_rfl, of_decide_eq_true (by kernel_rfl)⟩

/-- A WORLD FOR THE WITNESS: the settled one, the table (block 0) holding what its initialiser lays. -/
noncomputable def evalShiftWorld (os : Os) : World :=
  { World.holding Tryd.prog os ⟨#[], #[], []⟩ with heap := (World.holding Tryd.prog os ⟨#[], #[], []⟩).heap.modify 0 fun
      | .cells _ t frozen => .cells #[.int .i64 0, .int .i64 0, .int .i64 0, .int .i64 2, .int .i64 2, .int .i64 2, .int .i64 2, .int .i64 2, .int .i64 2, .int .i64 2, .int .i64 1, .int .i64 0, .int .i64 0, .int .i64 0, .int .i64 1, .int .i64 2, .int .i64 2, .int .i64 1, .int .i64 1] t frozen
      | o => o }
theorem evalShift_met (os : Os) : laidMet Tryd.prog Rows.evalShiftRow.laid ((evalShiftWorld os).forCall (fun _ _ => 0) ⟨#[], #[.slice none 0 0, .int .i64 0, .agg #[.int .i64 0, .int .i64 0, .int .i64 0]], []⟩).memory :=
  laidMet_of_run' 8 (by kernel_rfl) (by kernel_rfl)
theorem evalShift_reads (os : Os) {H : Type} (enc : TypeId × Value → H) : ∃ places, DataW.whole enc Tryd.prog ((evalShiftWorld os).forCall (fun _ _ => 0) ⟨#[], #[.slice none 0 0, .int .i64 0, .agg #[.int .i64 0, .int .i64 0, .int .i64 0]], []⟩).memory Tryd.f4.params.toList Rows.evalShiftSpec.vars false #[Value.slice none 0 0, .int .i64 0, .agg #[.int .i64 0, .int .i64 0, .int .i64 0]].toList 8 = some ([.nil, .lit (.int .i64 0), .agg [.lit (.int .i64 0), .lit (.int .i64 0), .lit (.int .i64 0)]], [], places) :=
  ⟨[], by kernel_rfl⟩

set_option maxRecDepth 100000 in
theorem evalShift_lifted (os : Os) (started : os.Started) (H : Type) (enc : TypeId × Value → H) (F : Stop.Interp) :
    ReturnsInHanded {} Tryd.checked os 4 .any ((OpenSpec.ofChange Rows.evalShiftSpec).preRow enc Tryd.prog Tryd.f4 Rows.evalShiftRow.domain false Rows.evalShiftRow.laid) (((OpenSpec.ofChange Rows.evalShiftSpec).at F).post enc Tryd.prog Tryd.f4 false true false false) := by
  obtain ⟨places, hx⟩ := evalShift_reads os enc
  refine returnsInHanded_of_row (C := Tryd.checked) (s := OpenSpec.ofChange Rows.evalShiftSpec) own started (by kernel_rfl) Tryd.func4
    (witness_row_at (enc := enc) (C := Tryd.checked) false (evalShiftWorld os) #[.slice none 0 0, .int .i64 0, .agg #[.int .i64 0, .int .i64 0, .int .i64 0]] rfl (by kernel_rfl) (by kernel_rfl) (by kernel_rfl)
      (OpenSpec.preRow_of_cond 8 hx (by kernel_rfl) (fun k hk => by cases hk) (by kernel_rfl) (evalShift_met os))) ?_
  intro W base args ds gs before hval hW _ _ hsz hL _ _
  exact evalShift_contract H enc W base args ds gs before hval hW hsz hL

theorem evalShift_said : Rows.EvalShiftSaid :=
  OpenClaim.holds_of_cond 4 Tryd.f4 rfl rfl rfl rfl rfl rfl rfl ⟨rfl, rfl, rfl, rfl, rfl⟩ rfl rfl rfl rfl rfl (by kernel_rfl) Tryd.func4 (by kernel_rfl)
    (of_decide_eq_true (by kernel_rfl)) (by unfold Func.isWrapper; first | (rw [if_pos (by decide +kernel)]; kernel_rfl) | (rw [if_neg (by decide +kernel)]; exact ⟨rfl, rfl⟩))
    (fun os started H enc _ F => by rw [OpenClaim.pre_eq_preRow]; exact evalShift_lifted os started H enc F)

theorem evalShift_plain (f : FuncId) (fn : Func) (hf : Tryd.pinned.checked.prog.funcNamed "foretell/foretellkeep.EvalShift" = some f) (hfn : Tryd.pinned.checked.prog.funcs[f]? = some fn) :
    true = Tryd.pinned.checked.prog.looks [] ∧ ∀ (j : Nat) t, fn.params[j]? = some t → Tryd.pinned.checked.prog.wantsStandIn t = false := by
  obtain rfl : f = 4 := Option.some.inj ((show Tryd.prog.funcNamed "foretell/foretellkeep.EvalShift" = some 4 by kernel_rfl).symm.trans hf) |>.symm
  obtain rfl : fn = Tryd.f4 := (Option.some.inj (Tryd.func4.symm.trans hfn)).symm
  refine ⟨by kernel_rfl, fun j t ht => ?_⟩
  rw [Tryd.params4] at ht
  have ht' := Array.mem_of_getElem? ht
  simp only [List.mem_toArray, List.mem_cons, List.not_mem_nil, or_false] at ht'
  rcases ht' with rfl | rfl | rfl
  · exact (show Tryd.prog.wantsStandIn 22 = false by kernel_rfl)
  · exact (show Tryd.prog.wantsStandIn 3 = false by kernel_rfl)
  · exact (show Tryd.prog.wantsStandIn 30 = false by kernel_rfl)

/-- THE CARD. -/
theorem evalShift_card : Rows.EvalShiftCardSaid :=
  Claim7.holds_tied_plain_at .later [] _ _ _ _ evalShift_said (fun _ h => by cases h) (by kernel_rfl) (fun _ h => by cases h) evalShift_row_tie rfl ⟨rfl, rfl⟩ (by kernel_rfl) rfl evalShift_plain (by kernel_rfl)
#print axioms evalShift_card
end Go.Proofs.YtlmghhfpoeocnabDoor
