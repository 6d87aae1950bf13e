/-
  Proved: foretellkeep.EvalOver answers true at every list of raw numbers and every three values (a number too great is refused wherever it comes of, though nothing is made of it), given that the table polish.partCounts reads as its initialiser lays it, which the card ties to the program's text. No other condition.
-/
import Derived.Test.YtlmghhfpoeocnaaDoorCards
import Derived.Test.YtlmghhfpoeocnaaDoorTie
import Derived.Test.YtlmghhfpoeocnaaDoorKeepEval
namespace Go.Proofs.YtlmghhfpoeocnaaDoor
open Go.ChangeShapes Go.WideShapes Go.ChangeAt Go.RowKit Go.Deep
open Terms Tm

theorem ops_lit (w : World) (x y : Int) : OpsV (w.alloc (.cells #[.int .i64 x, .int .i64 y] 42)) (.slice (some ⟨w.heap.size, 0, none⟩) 1 1) [(x, y)] :=
  ⟨_, 1, rfl, ⟨by simp, fun h => by simp at h⟩, fun _ => ⟨w.heap.size, 0, rfl, by simp, fun i hi => by
    obtain rfl : i = 0 := by simpa using hi
    simp [go_sem]⟩⟩
/-- a number too great. -/
def bigT : Tm := .bi 5 0 (.bi 5 0 (.leaf 1 1000) (.leaf 1 1000)) (.leaf 1 2)
theorem bigT_good : bigT.Good 3 := ⟨by omega, by omega, rfl, ⟨by omega, by omega, rfl, .inl ⟨rfl, by omega, by omega⟩, .inl ⟨rfl, by omega, by omega⟩⟩, .inl ⟨rfl, by omega, by omega⟩⟩
theorem bigT_eval (env : List Int) : bigT.eval env = none := by simp [bigT, Tm.eval, bin, lid]

set_option maxHeartbeats 6400000 in
set_option maxRecDepth 20000 in
theorem evalOver_walk (rx : Value) (rsx : List (Int × Int)) (a b c : Int) (w : World) (hB : 0 < w.heap.size) (hT : TabAt w) (hRx : Raws w w.heap.size rx rsx) (ia : I64 a) (ib : I64 b) (ic : I64 c) :
    Calls Tryd.prog 8 #[rx, .agg #[.int .i64 a, .int .i64 b, .int .i64 c]] w fun e w' => e = .returned (.bool true) ∧ Below w.heap.size w w' := by
  have henv := fun w => env_any a b c w ia ib ic
  have hes := envL_s a b c
  generalize envL a b c = env at henv hes
  have HES : Hid (EnvS env) := hes
  obtain ⟨ra, rn, rc, hra⟩ : ∃ a n c, rx = .slice a n c := by obtain ⟨⟨a, c, h, _⟩, _, _⟩ := hRx; exact ⟨_, _, _, h⟩
  obtain ⟨W0, hW0⟩ : ∃ W0, W0 = w.alloc (.cells #[.int .i64 a, .int .i64 b, .int .i64 c] 35) := ⟨_, rfl⟩
  have hb0 : Below w.heap.size w W0 := by rw [hW0]; exact (Below.refl _ _).alloc (Nat.le_refl _) _
  have hsz0 : W0.heap.size = w.heap.size + 1 := by rw [hW0]; simp
  have d0 : W0.cell? ⟨w.heap.size, 0, none⟩ = some (.int .i64 a) := by rw [hW0]; simp [go_sem]
  have d1 : W0.cell? ⟨w.heap.size, 1, none⟩ = some (.int .i64 b) := by rw [hW0]; simp [go_sem]
  have d2 : W0.cell? ⟨w.heap.size, 2, none⟩ = some (.int .i64 c) := by rw [hW0]; simp [go_sem]
  have htr := truthFn_any rx rsx 3 W0 (by omega) (by omega) (hRx.later hb0)
  rw [hW0] at htr
  have HW0 := (show Hid _ from hW0)
  have HB0 : Hid (Below w.heap.size w W0) := hb0
  have hB0 : 0 < W0.heap.size := by omega
  have HTb0 : Hid (∀ w', Below W0.heap.size W0 w' → 0 < w'.heap.size ∧ TabAt w' ∧ w'.cell? ⟨w.heap.size, 0, none⟩ = some (.int .i64 a) ∧ w'.cell? ⟨w.heap.size, 1, none⟩ = some (.int .i64 b) ∧ w'.cell? ⟨w.heap.size, 2, none⟩ = some (.int .i64 c)) := fun w' hw' =>
    ⟨Nat.lt_of_lt_of_le hB0 hw'.size, (hT.below hb0 hB).below hw' hB0, (hw'.cell (p := ⟨w.heap.size, 0, none⟩) (by simp only; omega)).trans d0, (hw'.cell (p := ⟨w.heap.size, 1, none⟩) (by simp only; omega)).trans d1, (hw'.cell (p := ⟨w.heap.size, 2, none⟩) (by simp only; omega)).trans d2⟩
  subst hra
  clear hW0 hRx hT hb0 d0 d1 d2 ia ib ic hsz0
  go_enter Tryd.func8, Tryd.ntmps8
  go_wp2_with (go_at_call_of 16 rn; refine htr.mono ?_; rintro e w0 ⟨av, la, rfl, htl, hll, hol, hb1⟩; obtain ⟨aa, ac, rfl⟩ := owns_slice hol)
  rw [← HW0.out] at hb1
  have hova := opsV_of_owns hol
  obtain ⟨A, hA⟩ := htl.tree
  have HNA : Hid (la.length ≤ 60 ∧ la ≠ []) := ⟨by omega, by rw [← hA.ops]; exact A.ops_ne⟩
  have hsA : A.size ≤ 26 := by rw [← A.ops_length, hA.ops]; omega
  have HLLa : Hid (la.length ≤ 26) := by show _ ≤ _; omega
  have HOA0 : Hid (OpsV w0 (.slice aa la.length ac) la) := hova
  obtain ⟨na, hna⟩ : ∃ n, n = la.length := ⟨_, rfl⟩
  rw [← hna] at HOA0 ⊢
  clear htr htl hol hova hll hna
  -- the great number: its first two parts
  obtain ⟨U1, hU1⟩ : ∃ U, U = w0.alloc (.cells #[.int .i64 1, .int .i64 1000] 42) := ⟨_, rfl⟩
  obtain ⟨U2, hU2⟩ : ∃ U, U = U1.alloc (.cells #[.int .i64 1, .int .i64 1000] 42) := ⟨_, rfl⟩
  have u1 : Below w0.heap.size w0 U1 := by rw [hU1]; exact (Below.refl _ _).alloc (Nat.le_refl _) _
  have u2 : Below U1.heap.size U1 U2 := by rw [hU2]; exact (Below.refl _ _).alloc (Nat.le_refl _) _
  have s1 : U1.heap.size = w0.heap.size + 1 := by rw [hU1]; simp
  have s2 : U2.heap.size = w0.heap.size + 1 + 1 := by rw [hU2]; simp [s1]
  have o1 : OpsV U1 (.slice (some ⟨w0.heap.size, 0, none⟩) 1 1) [(1, 1000)] := by rw [hU1]; exact ops_lit w0 1 1000
  have o2 : OpsV U2 (.slice (some ⟨w0.heap.size + 1, 0, none⟩) 1 1) [(1, 1000)] := by rw [hU2, ← s1]; exact ops_lit U1 1 1000
  have u3 : Below U2.heap.size U2 (U2.alloc (.cells #[.slice (some ⟨w0.heap.size, 0, none⟩) 1 1, .slice (some ⟨w0.heap.size + 1, 0, none⟩) 1 1] 22)) := (Below.refl _ _).alloc (Nat.le_refl _) _
  have hJ1 := joined2 5 U2.heap.size _ _ [(1, 1000)] [(1, 1000)] (U2.alloc (.cells #[.slice (some ⟨w0.heap.size, 0, none⟩) 1 1, .slice (some ⟨w0.heap.size + 1, 0, none⟩) 1 1] 22)) (by simp [go_sem]) (by simp [go_sem]) (by simp) (by simp) (by simp) (by simp) ((o1.below u2).below u3) (o2.below u3)
  have u13 := (u1.trans (u2.mono u1.size)).trans (u3.mono (u1.trans (u2.mono u1.size)).size)
  rw [s2] at hJ1
  rw [hU2, hU1] at hJ1 u13
  have HU := (show Hid _ from u13)
  clear hU1 hU2 u1 u2 u3 s1 s2 o1 o2 u13
  obtain ⟨li, hli⟩ : ∃ l : List (Int × Int), l = (5, 0) :: ([(1, 1000)] ++ [(1, 1000)]) := ⟨_, rfl⟩
  have HLI : Hid (li = (5, 0) :: ([(1, 1000)] ++ [(1, 1000)])) := hli
  rw [← hli] at hJ1
  clear hli
  obtain ⟨ni, hni⟩ : ∃ n, n = li.length := ⟨_, rfl⟩
  rw [← hni] at hJ1
  clear hni
  go_wp2_with (go_at_call_of 18 w0; refine hJ1.mono ?_; rintro e w2 ⟨ja, jc, rfl, hb2, hov2⟩)
  have hb02 := HU.out.trans (hb2.mono HU.out.size)
  -- and its third
  obtain ⟨V1, hV1⟩ : ∃ U, U = w2.alloc (.cells #[.int .i64 1, .int .i64 2] 42) := ⟨_, rfl⟩
  have v1 : Below w2.heap.size w2 V1 := by rw [hV1]; exact (Below.refl _ _).alloc (Nat.le_refl _) _
  have t1 : V1.heap.size = w2.heap.size + 1 := by rw [hV1]; simp
  have o1 : OpsV V1 (.slice (some ⟨w2.heap.size, 0, none⟩) 1 1) [(1, 2)] := by rw [hV1]; exact ops_lit w2 1 2
  have v2 : Below V1.heap.size V1 (V1.alloc (.cells #[.slice ja ni jc, .slice (some ⟨w2.heap.size, 0, none⟩) 1 1] 22)) := (Below.refl _ _).alloc (Nat.le_refl _) _
  have hJ2 := joined2 5 V1.heap.size _ _ li [(1, 2)] (V1.alloc (.cells #[.slice ja ni jc, .slice (some ⟨w2.heap.size, 0, none⟩) 1 1] 22)) (by simp [go_sem]) (by simp [go_sem]) (by rw [HLI.out]; simp) (by simp) (by rw [HLI.out]; simp) (by simp) ((hov2.below v1).below v2) (o1.below v2)
  have v12 := v1.trans (v2.mono v1.size)
  rw [t1] at hJ2
  rw [hV1] at hJ2 v12
  obtain ⟨lb, hlb⟩ : ∃ l : List (Int × Int), l = (5, 0) :: (li ++ [(1, 2)]) := ⟨_, rfl⟩
  have HLB : Hid (lb = bigT.ops) := by show _ = _; rw [hlb, HLI.out]; rfl
  rw [← hlb] at hJ2
  clear hlb
  obtain ⟨nb, hnb⟩ : ∃ n, n = lb.length := ⟨_, rfl⟩
  rw [← hnb] at hJ2
  clear hnb
  have hb0x := hb02.trans (v12.mono hb02.size)
  have HV := (show Hid _ from hb0x)
  clear hV1 v1 v2 v12 t1 o1 hov2 hb2 hb02 hb0x hJ1 HU
  go_wp2_with (go_at_call_of 18 w2; refine hJ2.mono ?_; rintro e w1 ⟨ba, bc, rfl, hb3, hov3⟩)
  have hb01 := HV.out.trans (hb3.mono HV.out.size)
  have hbW := hb1.trans (hb01.mono hb1.size)
  have HNB : Hid (lb.length ≤ 60 ∧ lb ≠ []) := by show _ ∧ _; rw [HLB.out]; decide
  have HOA : Hid (∀ w', Below w1.heap.size w1 w' → OpsV w' (.slice aa na ac) la) := fun w' hw' => (HOA0.out.below hb01).below hw'
  have HOB : Hid (∀ w', Below w1.heap.size w1 w' → OpsV w' (.slice ba nb bc) lb) := fun w' hw' => hov3.below hw'
  have HTb : Hid (∀ w', Below w1.heap.size w1 w' → 0 < w'.heap.size ∧ TabAt w' ∧ w'.cell? ⟨w.heap.size, 0, none⟩ = some (.int .i64 a) ∧ w'.cell? ⟨w.heap.size, 1, none⟩ = some (.int .i64 b) ∧ w'.cell? ⟨w.heap.size, 2, none⟩ = some (.int .i64 c)) := fun w' hw' => HTb0.out w' (hbW.trans (hw'.mono hbW.size))
  have HBw : Hid (Below w.heap.size w w1) := HB0.out.trans (hbW.mono HB0.out.size)
  have HC0 : Hid (Below w1.heap.size w1 w1) := Below.refl _ _
  obtain ⟨x, hx, _⟩ := hA.eval env hes
  have HLL2 : Hid (lb.length = 5) := by show _ = _; rw [HLB.out]; rfl
  have HEV : Hid ((Tm.bi 9 0 A (.bi 7 0 bigT bigT)).eval env = none ∧ (Tm.bi 9 0 (.bi 7 0 bigT bigT) A).eval env = none ∧ A.eval env = some x) := by
    show _ ∧ _ ∧ _
    refine ⟨?_, ?_, hx⟩
    · simp only [Tm.eval, bigT_eval, hx]
    · simp only [Tm.eval, bigT_eval, hx]
  have HG : Hid ((Tm.bi 9 0 A (.bi 7 0 bigT bigT)).Good 3 ∧ (Tm.bi 9 0 (.bi 7 0 bigT bigT) A).Good 3 ∧ A.Good 3) :=
    ⟨⟨by omega, by omega, rfl, hA.good, by omega, by omega, rfl, bigT_good, bigT_good⟩, ⟨by omega, by omega, rfl, ⟨by omega, by omega, rfl, bigT_good, bigT_good⟩, hA.good⟩, hA.good⟩
  have HTY : Hid ((Tm.bi 9 0 A (.bi 7 0 bigT bigT)).typed = true ∧ (Tm.bi 9 0 (.bi 7 0 bigT bigT) A).typed = true ∧ A.typed = true) := by
    have t9 : tkT 9 = true := rfl
    have hb7 : (Tm.bi 7 0 bigT bigT).typed = true := by decide
    have hk7 : mkT (Tm.bi 7 0 bigT bigT).kind = true := rfl
    show _ ∧ _ ∧ _
    refine ⟨?_, ?_, hA.typed⟩
    · rw [Tm.typed, hA.kind, hA.typed, t9, hb7, hk7]; rfl
    · rw [Tm.typed, hA.kind, hA.typed, t9, hb7, hk7]; rfl
  have HSZ : Hid ((Tm.bi 9 0 A (.bi 7 0 bigT bigT)).size ≤ 60 ∧ (Tm.bi 9 0 (.bi 7 0 bigT bigT) A).size ≤ 60 ∧ A.size ≤ 60) := by
    have h5 : bigT.size = 5 := rfl
    show _ ∧ _ ∧ _
    simp only [Tm.size, h5]; omega
  have HOP : Hid (A.ops = la ∧ bigT.ops = lb) := ⟨hA.ops, HLB.out.symm⟩
  clear hJ2 hov3 hb3 hb01 hbW hb1 HV HOA0 HTb0 HB0 HW0 hA hes hx hsA hB0
  go_wp2_with fail
  have HLN0 : Hid (((((7), 0) :: (lb ++ lb)) : List (Int × Int)).length ≤ 60) := by
    show _ ≤ _
    simp
    have := HLL2.out
    omega
  have hB0 : Below w1.heap.size w1 w1 := Below.refl _ _
  have hX0 : Below w1.heap.size w1 ((w1.alloc (.cells #[.slice ba nb bc, .slice ba nb bc] 22)).drew) := (hB0.alloc (Nat.le_refl _) _).drew
  have hS0 : ∀ w', Below w1.heap.size w1 w' → w'.cell? ⟨w.heap.size, 0, none⟩ = some (.int .i64 a) ∧ w'.cell? ⟨w.heap.size, 1, none⟩ = some (.int .i64 b) ∧ w'.cell? ⟨w.heap.size, 2, none⟩ = some (.int .i64 c) := fun w' hw' => (HTb.out w' (HC0.out.trans (hw'.mono HC0.out.size))).2.2
  have hJ0 := joined2 (7) w1.heap.size (.slice ba nb bc) (.slice ba nb bc) lb lb ((w1.alloc (.cells #[.slice ba nb bc, .slice ba nb bc] 22)).drew) (by simp [go_sem]) (by simp [go_sem]) HNB.out.1 HNB.out.1 HNB.out.2 HNB.out.2 (HOB.out _ (HC0.out.trans (hX0.mono HC0.out.size))) (HOB.out _ (HC0.out.trans (hX0.mono HC0.out.size)))
  have hK0 : ∀ (w5 : World) (jv : Value), Below w1.heap.size w1 w5 → OpsV w5 jv (((7), 0) :: (lb ++ lb)) → Calls Tryd.prog 18 #[.int .i64 (9), .slice (some ⟨w5.heap.size, 0, none⟩) 2 2] (w5.alloc (.cells #[.slice aa na ac, jv] 22)) fun e w' => ∃ a c, e = .returned (.slice a ((((9), 0) :: (la ++ (((7), 0) :: (lb ++ lb)))) : List (Int × Int)).length c) ∧ Below (w5.alloc (.cells #[.slice aa na ac, jv] 22)).heap.size (w5.alloc (.cells #[.slice aa na ac, jv] 22)) w' ∧ OpsV w' (.slice a ((((9), 0) :: (la ++ (((7), 0) :: (lb ++ lb)))) : List (Int × Int)).length c) (((9), 0) :: (la ++ (((7), 0) :: (lb ++ lb)))) := fun w5 jv hw5 ho => by
    have hx5 : Below w5.heap.size w5 (w5.alloc (.cells #[.slice aa na ac, jv] 22)) := (Below.refl _ _).alloc (Nat.le_refl _) _
    exact joined2 (9) w5.heap.size (.slice aa na ac) jv la (((7), 0) :: (lb ++ lb)) _ (by simp [go_sem]) (by simp [go_sem]) HNA.out.1 HLN0.out HNA.out.2 (by simp) (HOA.out _ (HC0.out.trans ((hw5.trans (hx5.mono hw5.size)).mono HC0.out.size))) (ho.below hx5)
  have hE0 : ∀ (w6 : World) (jv ev : Value), Below w1.heap.size w1 w6 → OpsV w6 jv (((9), 0) :: (la ++ (((7), 0) :: (lb ++ lb)))) → IntsV w6 ev env → Calls Tryd.prog 13 #[jv, ev] w6 fun e w' => e = .returned (.tuple #[.int .i64 0, .int .i64 8]) ∧ Below w6.heap.size w6 w' := fun w6 jv ev hw6 ho hi => by
    obtain ⟨hp6, ht6, _⟩ := HTb.out w6 (HC0.out.trans (hw6.mono HC0.out.size))
    exact eval_none jv ev env (.bi 9 0 A (.bi 7 0 bigT bigT)) w6 HEV.out.1 hp6 ht6 HES.out HG.out.1 HTY.out.1 HSZ.out.1 (by simp only [Tm.ops, HOP.out.1, HOP.out.2]; exact ho) hi
  generalize ((((7), 0) :: (lb ++ lb)) : List (Int × Int)).length = m0 at hJ0
  generalize ((((9), 0) :: (la ++ (((7), 0) :: (lb ++ lb)))) : List (Int × Int)).length = mm0 at hK0
  go_region_held3 (fun w' => w'.cell? ⟨w.heap.size, 0, none⟩ = some (.int .i64 a) ∧ w'.cell? ⟨w.heap.size, 1, none⟩ = some (.int .i64 b) ∧ w'.cell? ⟨w.heap.size, 2, none⟩ = some (.int .i64 c))
    (exact hS0 _ (by first | exact hB0 | exact hB0.drew | exact hX0 | exact ((((hX0.trans (hb0a.mono hX0.size)).trans ((Below.alloc (Below.refl _ _) (Nat.le_refl _) _).mono (hX0.trans (hb0a.mono hX0.size)).size)).trans (hb0d.mono ((hX0.trans (hb0a.mono hX0.size)).trans ((Below.alloc (Below.refl _ _) (Nat.le_refl _) _).mono (hX0.trans (hb0a.mono hX0.size)).size)).size)).trans (hb0b.mono (((hX0.trans (hb0a.mono hX0.size)).trans ((Below.alloc (Below.refl _ _) (Nat.le_refl _) _).mono (hX0.trans (hb0a.mono hX0.size)).size)).trans (hb0d.mono ((hX0.trans (hb0a.mono hX0.size)).trans ((Below.alloc (Below.refl _ _) (Nat.le_refl _) _).mono (hX0.trans (hb0a.mono hX0.size)).size)).size)).size)).trans (hb0c.mono ((((hX0.trans (hb0a.mono hX0.size)).trans ((Below.alloc (Below.refl _ _) (Nat.le_refl _) _).mono (hX0.trans (hb0a.mono hX0.size)).size)).trans (hb0d.mono ((hX0.trans (hb0a.mono hX0.size)).trans ((Below.alloc (Below.refl _ _) (Nat.le_refl _) _).mono (hX0.trans (hb0a.mono hX0.size)).size)).size)).trans (hb0b.mono (((hX0.trans (hb0a.mono hX0.size)).trans ((Below.alloc (Below.refl _ _) (Nat.le_refl _) _).mono (hX0.trans (hb0a.mono hX0.size)).size)).trans (hb0d.mono ((hX0.trans (hb0a.mono hX0.size)).trans ((Below.alloc (Below.refl _ _) (Nat.le_refl _) _).mono (hX0.trans (hb0a.mono hX0.size)).size)).size)).size)).size) | exact (((hX0.trans (hb0a.mono hX0.size)).trans ((Below.alloc (Below.refl _ _) (Nat.le_refl _) _).mono (hX0.trans (hb0a.mono hX0.size)).size)).trans (hb0d.mono ((hX0.trans (hb0a.mono hX0.size)).trans ((Below.alloc (Below.refl _ _) (Nat.le_refl _) _).mono (hX0.trans (hb0a.mono hX0.size)).size)).size)).trans (hb0b.mono (((hX0.trans (hb0a.mono hX0.size)).trans ((Below.alloc (Below.refl _ _) (Nat.le_refl _) _).mono (hX0.trans (hb0a.mono hX0.size)).size)).trans (hb0d.mono ((hX0.trans (hb0a.mono hX0.size)).trans ((Below.alloc (Below.refl _ _) (Nat.le_refl _) _).mono (hX0.trans (hb0a.mono hX0.size)).size)).size)).size) | exact ((hX0.trans (hb0a.mono hX0.size)).trans ((Below.alloc (Below.refl _ _) (Nat.le_refl _) _).mono (hX0.trans (hb0a.mono hX0.size)).size)).trans (hb0d.mono ((hX0.trans (hb0a.mono hX0.size)).trans ((Below.alloc (Below.refl _ _) (Nat.le_refl _) _).mono (hX0.trans (hb0a.mono hX0.size)).size)).size) | exact (hX0.trans (hb0a.mono hX0.size)).trans ((Below.alloc (Below.refl _ _) (Nat.le_refl _) _).mono (hX0.trans (hb0a.mono hX0.size)).size) | exact hX0.trans (hb0a.mono hX0.size)))
    (first | (go_at_call 18; refine (hK0 _ _ (hX0.trans (hb0a.mono hX0.size)) hov0).mono ?_; rintro e w0d ⟨jd0, je0, rfl, hb0d, how0⟩) | (go_at_call 18; refine hJ0.mono ?_; rintro e w0a ⟨ja0, jc0, rfl, hb0a, hov0⟩) | (go_at_call 17; refine (henv _).mono ?_; rintro e w0b ⟨ev0, rfl, hie0, hb0b⟩; obtain ⟨ea0, ec0, rfl, hif0⟩ := hie0) | (go_at_call 13; refine (hE0 _ _ _ ((((hX0.trans (hb0a.mono hX0.size)).trans ((Below.alloc (Below.refl _ _) (Nat.le_refl _) _).mono (hX0.trans (hb0a.mono hX0.size)).size)).trans (hb0d.mono ((hX0.trans (hb0a.mono hX0.size)).trans ((Below.alloc (Below.refl _ _) (Nat.le_refl _) _).mono (hX0.trans (hb0a.mono hX0.size)).size)).size)).trans (hb0b.mono (((hX0.trans (hb0a.mono hX0.size)).trans ((Below.alloc (Below.refl _ _) (Nat.le_refl _) _).mono (hX0.trans (hb0a.mono hX0.size)).size)).trans (hb0d.mono ((hX0.trans (hb0a.mono hX0.size)).trans ((Below.alloc (Below.refl _ _) (Nat.le_refl _) _).mono (hX0.trans (hb0a.mono hX0.size)).size)).size)).size)) (how0.below hb0b) ⟨ea0, ec0, rfl, hif0⟩).mono ?_; rintro e w0c ⟨rfl, hb0c⟩))
  have hbf0 := ((((hX0.trans (hb0a.mono hX0.size)).trans ((Below.alloc (Below.refl _ _) (Nat.le_refl _) _).mono (hX0.trans (hb0a.mono hX0.size)).size)).trans (hb0d.mono ((hX0.trans (hb0a.mono hX0.size)).trans ((Below.alloc (Below.refl _ _) (Nat.le_refl _) _).mono (hX0.trans (hb0a.mono hX0.size)).size)).size)).trans (hb0b.mono (((hX0.trans (hb0a.mono hX0.size)).trans ((Below.alloc (Below.refl _ _) (Nat.le_refl _) _).mono (hX0.trans (hb0a.mono hX0.size)).size)).trans (hb0d.mono ((hX0.trans (hb0a.mono hX0.size)).trans ((Below.alloc (Below.refl _ _) (Nat.le_refl _) _).mono (hX0.trans (hb0a.mono hX0.size)).size)).size)).size)).trans (hb0c.mono ((((hX0.trans (hb0a.mono hX0.size)).trans ((Below.alloc (Below.refl _ _) (Nat.le_refl _) _).mono (hX0.trans (hb0a.mono hX0.size)).size)).trans (hb0d.mono ((hX0.trans (hb0a.mono hX0.size)).trans ((Below.alloc (Below.refl _ _) (Nat.le_refl _) _).mono (hX0.trans (hb0a.mono hX0.size)).size)).size)).trans (hb0b.mono (((hX0.trans (hb0a.mono hX0.size)).trans ((Below.alloc (Below.refl _ _) (Nat.le_refl _) _).mono (hX0.trans (hb0a.mono hX0.size)).size)).trans (hb0d.mono ((hX0.trans (hb0a.mono hX0.size)).trans ((Below.alloc (Below.refl _ _) (Nat.le_refl _) _).mono (hX0.trans (hb0a.mono hX0.size)).size)).size)).size)).size)
  have HC1 : Hid (Below w1.heap.size w1 w0c) := HC0.out.trans (hbf0.mono HC0.out.size)
  clear hbf0 hb0a hb0b hb0c hb0d hov0 how0 hif0 hE0 hJ0 hK0 hS0 hX0 hB0
  go_wp2_with fail
  have HLN1 : Hid (((((7), 0) :: (lb ++ lb)) : List (Int × Int)).length ≤ 60) := by
    show _ ≤ _
    simp
    have := HLL2.out
    omega
  have hB1 : Below w0c.heap.size w0c w0c := Below.refl _ _
  have hX1 : Below w0c.heap.size w0c ((w0c.alloc (.cells #[.slice ba nb bc, .slice ba nb bc] 22)).drew) := (hB1.alloc (Nat.le_refl _) _).drew
  have hS1 : ∀ w', Below w0c.heap.size w0c w' → w'.cell? ⟨w.heap.size, 0, none⟩ = some (.int .i64 a) ∧ w'.cell? ⟨w.heap.size, 1, none⟩ = some (.int .i64 b) ∧ w'.cell? ⟨w.heap.size, 2, none⟩ = some (.int .i64 c) := fun w' hw' => (HTb.out w' (HC1.out.trans (hw'.mono HC1.out.size))).2.2
  have hJ1 := joined2 (7) w0c.heap.size (.slice ba nb bc) (.slice ba nb bc) lb lb ((w0c.alloc (.cells #[.slice ba nb bc, .slice ba nb bc] 22)).drew) (by simp [go_sem]) (by simp [go_sem]) HNB.out.1 HNB.out.1 HNB.out.2 HNB.out.2 (HOB.out _ (HC1.out.trans (hX1.mono HC1.out.size))) (HOB.out _ (HC1.out.trans (hX1.mono HC1.out.size)))
  have hK1 : ∀ (w5 : World) (jv : Value), Below w0c.heap.size w0c w5 → OpsV w5 jv (((7), 0) :: (lb ++ lb)) → Calls Tryd.prog 18 #[.int .i64 (9), .slice (some ⟨w5.heap.size, 0, none⟩) 2 2] (w5.alloc (.cells #[jv, .slice aa na ac] 22)) fun e w' => ∃ a c, e = .returned (.slice a ((((9), 0) :: ((((7), 0) :: (lb ++ lb)) ++ la)) : List (Int × Int)).length c) ∧ Below (w5.alloc (.cells #[jv, .slice aa na ac] 22)).heap.size (w5.alloc (.cells #[jv, .slice aa na ac] 22)) w' ∧ OpsV w' (.slice a ((((9), 0) :: ((((7), 0) :: (lb ++ lb)) ++ la)) : List (Int × Int)).length c) (((9), 0) :: ((((7), 0) :: (lb ++ lb)) ++ la)) := fun w5 jv hw5 ho => by
    have hx5 : Below w5.heap.size w5 (w5.alloc (.cells #[jv, .slice aa na ac] 22)) := (Below.refl _ _).alloc (Nat.le_refl _) _
    exact joined2 (9) w5.heap.size jv (.slice aa na ac) (((7), 0) :: (lb ++ lb)) la _ (by simp [go_sem]) (by simp [go_sem]) HLN1.out HNA.out.1 (by simp) HNA.out.2 (ho.below hx5) (HOA.out _ (HC1.out.trans ((hw5.trans (hx5.mono hw5.size)).mono HC1.out.size)))
  have hE1 : ∀ (w6 : World) (jv ev : Value), Below w0c.heap.size w0c w6 → OpsV w6 jv (((9), 0) :: ((((7), 0) :: (lb ++ lb)) ++ la)) → IntsV w6 ev env → Calls Tryd.prog 13 #[jv, ev] w6 fun e w' => e = .returned (.tuple #[.int .i64 0, .int .i64 8]) ∧ Below w6.heap.size w6 w' := fun w6 jv ev hw6 ho hi => by
    obtain ⟨hp6, ht6, _⟩ := HTb.out w6 (HC1.out.trans (hw6.mono HC1.out.size))
    exact eval_none jv ev env (.bi 9 0 (.bi 7 0 bigT bigT) A) w6 HEV.out.2.1 hp6 ht6 HES.out HG.out.2.1 HTY.out.2.1 HSZ.out.2.1 (by simp only [Tm.ops, HOP.out.1, HOP.out.2]; exact ho) hi
  generalize ((((7), 0) :: (lb ++ lb)) : List (Int × Int)).length = m1 at hJ1
  generalize ((((9), 0) :: ((((7), 0) :: (lb ++ lb)) ++ la)) : List (Int × Int)).length = mm1 at hK1
  go_region_held3 (fun w' => w'.cell? ⟨w.heap.size, 0, none⟩ = some (.int .i64 a) ∧ w'.cell? ⟨w.heap.size, 1, none⟩ = some (.int .i64 b) ∧ w'.cell? ⟨w.heap.size, 2, none⟩ = some (.int .i64 c))
    (exact hS1 _ (by first | exact hB1 | exact hB1.drew | exact hX1 | exact ((((hX1.trans (hb1a.mono hX1.size)).trans ((Below.alloc (Below.refl _ _) (Nat.le_refl _) _).mono (hX1.trans (hb1a.mono hX1.size)).size)).trans (hb1d.mono ((hX1.trans (hb1a.mono hX1.size)).trans ((Below.alloc (Below.refl _ _) (Nat.le_refl _) _).mono (hX1.trans (hb1a.mono hX1.size)).size)).size)).trans (hb1b.mono (((hX1.trans (hb1a.mono hX1.size)).trans ((Below.alloc (Below.refl _ _) (Nat.le_refl _) _).mono (hX1.trans (hb1a.mono hX1.size)).size)).trans (hb1d.mono ((hX1.trans (hb1a.mono hX1.size)).trans ((Below.alloc (Below.refl _ _) (Nat.le_refl _) _).mono (hX1.trans (hb1a.mono hX1.size)).size)).size)).size)).trans (hb1c.mono ((((hX1.trans (hb1a.mono hX1.size)).trans ((Below.alloc (Below.refl _ _) (Nat.le_refl _) _).mono (hX1.trans (hb1a.mono hX1.size)).size)).trans (hb1d.mono ((hX1.trans (hb1a.mono hX1.size)).trans ((Below.alloc (Below.refl _ _) (Nat.le_refl _) _).mono (hX1.trans (hb1a.mono hX1.size)).size)).size)).trans (hb1b.mono (((hX1.trans (hb1a.mono hX1.size)).trans ((Below.alloc (Below.refl _ _) (Nat.le_refl _) _).mono (hX1.trans (hb1a.mono hX1.size)).size)).trans (hb1d.mono ((hX1.trans (hb1a.mono hX1.size)).trans ((Below.alloc (Below.refl _ _) (Nat.le_refl _) _).mono (hX1.trans (hb1a.mono hX1.size)).size)).size)).size)).size) | exact (((hX1.trans (hb1a.mono hX1.size)).trans ((Below.alloc (Below.refl _ _) (Nat.le_refl _) _).mono (hX1.trans (hb1a.mono hX1.size)).size)).trans (hb1d.mono ((hX1.trans (hb1a.mono hX1.size)).trans ((Below.alloc (Below.refl _ _) (Nat.le_refl _) _).mono (hX1.trans (hb1a.mono hX1.size)).size)).size)).trans (hb1b.mono (((hX1.trans (hb1a.mono hX1.size)).trans ((Below.alloc (Below.refl _ _) (Nat.le_refl _) _).mono (hX1.trans (hb1a.mono hX1.size)).size)).trans (hb1d.mono ((hX1.trans (hb1a.mono hX1.size)).trans ((Below.alloc (Below.refl _ _) (Nat.le_refl _) _).mono (hX1.trans (hb1a.mono hX1.size)).size)).size)).size) | exact ((hX1.trans (hb1a.mono hX1.size)).trans ((Below.alloc (Below.refl _ _) (Nat.le_refl _) _).mono (hX1.trans (hb1a.mono hX1.size)).size)).trans (hb1d.mono ((hX1.trans (hb1a.mono hX1.size)).trans ((Below.alloc (Below.refl _ _) (Nat.le_refl _) _).mono (hX1.trans (hb1a.mono hX1.size)).size)).size) | exact (hX1.trans (hb1a.mono hX1.size)).trans ((Below.alloc (Below.refl _ _) (Nat.le_refl _) _).mono (hX1.trans (hb1a.mono hX1.size)).size) | exact hX1.trans (hb1a.mono hX1.size)))
    (first | (go_at_call 18; refine (hK1 _ _ (hX1.trans (hb1a.mono hX1.size)) hov1).mono ?_; rintro e w1d ⟨jd1, je1, rfl, hb1d, how1⟩) | (go_at_call 18; refine hJ1.mono ?_; rintro e w1a ⟨ja1, jc1, rfl, hb1a, hov1⟩) | (go_at_call 17; refine (henv _).mono ?_; rintro e w1b ⟨ev1, rfl, hie1, hb1b⟩; obtain ⟨ea1, ec1, rfl, hif1⟩ := hie1) | (go_at_call 13; refine (hE1 _ _ _ ((((hX1.trans (hb1a.mono hX1.size)).trans ((Below.alloc (Below.refl _ _) (Nat.le_refl _) _).mono (hX1.trans (hb1a.mono hX1.size)).size)).trans (hb1d.mono ((hX1.trans (hb1a.mono hX1.size)).trans ((Below.alloc (Below.refl _ _) (Nat.le_refl _) _).mono (hX1.trans (hb1a.mono hX1.size)).size)).size)).trans (hb1b.mono (((hX1.trans (hb1a.mono hX1.size)).trans ((Below.alloc (Below.refl _ _) (Nat.le_refl _) _).mono (hX1.trans (hb1a.mono hX1.size)).size)).trans (hb1d.mono ((hX1.trans (hb1a.mono hX1.size)).trans ((Below.alloc (Below.refl _ _) (Nat.le_refl _) _).mono (hX1.trans (hb1a.mono hX1.size)).size)).size)).size)) (how1.below hb1b) ⟨ea1, ec1, rfl, hif1⟩).mono ?_; rintro e w1c ⟨rfl, hb1c⟩))
  have hbf1 := ((((hX1.trans (hb1a.mono hX1.size)).trans ((Below.alloc (Below.refl _ _) (Nat.le_refl _) _).mono (hX1.trans (hb1a.mono hX1.size)).size)).trans (hb1d.mono ((hX1.trans (hb1a.mono hX1.size)).trans ((Below.alloc (Below.refl _ _) (Nat.le_refl _) _).mono (hX1.trans (hb1a.mono hX1.size)).size)).size)).trans (hb1b.mono (((hX1.trans (hb1a.mono hX1.size)).trans ((Below.alloc (Below.refl _ _) (Nat.le_refl _) _).mono (hX1.trans (hb1a.mono hX1.size)).size)).trans (hb1d.mono ((hX1.trans (hb1a.mono hX1.size)).trans ((Below.alloc (Below.refl _ _) (Nat.le_refl _) _).mono (hX1.trans (hb1a.mono hX1.size)).size)).size)).size)).trans (hb1c.mono ((((hX1.trans (hb1a.mono hX1.size)).trans ((Below.alloc (Below.refl _ _) (Nat.le_refl _) _).mono (hX1.trans (hb1a.mono hX1.size)).size)).trans (hb1d.mono ((hX1.trans (hb1a.mono hX1.size)).trans ((Below.alloc (Below.refl _ _) (Nat.le_refl _) _).mono (hX1.trans (hb1a.mono hX1.size)).size)).size)).trans (hb1b.mono (((hX1.trans (hb1a.mono hX1.size)).trans ((Below.alloc (Below.refl _ _) (Nat.le_refl _) _).mono (hX1.trans (hb1a.mono hX1.size)).size)).trans (hb1d.mono ((hX1.trans (hb1a.mono hX1.size)).trans ((Below.alloc (Below.refl _ _) (Nat.le_refl _) _).mono (hX1.trans (hb1a.mono hX1.size)).size)).size)).size)).size)
  have HC2 : Hid (Below w1.heap.size w1 w1c) := HC1.out.trans (hbf1.mono HC1.out.size)
  clear hbf1 hb1a hb1b hb1c hb1d hov1 how1 hif1 hE1 hJ1 hK1 hS1 hX1 hB1
  obtain ⟨hp3, ht3, k0, k1, k2⟩ := HTb.out w1c HC2.out
  go_wp2_with (go_at_call 17; refine (henv _).mono ?_; rintro e w3 ⟨ev, rfl, hie, hb3⟩; obtain ⟨ea, ec, rfl, hie2⟩ := hie)
  have hc3 := HC2.out.trans (hb3.mono HC2.out.size)
  have hev := eval_some (.slice aa na ac) (.slice ea env.length ec) env A x w3 HEV.out.2.2 (HTb.out _ hc3).1 (HTb.out _ hc3).2.1 HES.out HG.out.2.2 HTY.out.2.2 HSZ.out.2.2 (by rw [HOP.out.1]; exact HOA.out _ hc3) ⟨ea, ec, rfl, hie2⟩
  clear hie2 k0 k1 k2 ht3 hp3
  go_wp2_with (go_at_call 13; refine hev.mono ?_; rintro e w4 ⟨rfl, hb4⟩)
  go_ret
  exact ⟨rfl, HBw.out.trans ((hc3.trans (hb4.mono hc3.size)).mono HBw.out.size)⟩

theorem evalOver_contract (H : Type) (enc : TypeId × Value → H) (W : World) (base : Nat) (args : Array Value) (ds gs : List (DataW H)) (before : List MemPlace)
    (hval : ∀ (j : Nat) t v, Tryd.f8.params[j]? = some t → args[j]? = some v → Value.okWide Tryd.prog W .any base t v)
    (hW : DataW.Whole enc Tryd.prog Tryd.f8.params.toList Rows.evalOverSpec.vars false W args.toList ds gs before)
    (hsz0 : (DataW.weightsEach Tryd.prog (Tryd.f8.params.toList ++ (OpenSpec.ofChange Rows.evalOverSpec).bare.plain.varTypes Tryd.prog) (ds ++ gs)).all (· ≤ reachBytes) = true)
    (hL : laidMetH Tryd.prog Rows.evalOverRow.laid W) :
    Calls Tryd.prog 8 args W fun e W' => ∃ v, e = .returned v ∧ Rows.evalOverSpec.post enc Tryd.prog Tryd.f8 false true false false W args v W' := by
  have hW' := hW
  obtain ⟨p, q, hA0, hV, rfl, hfz, hnd⟩ := hW
  have hA : DataW.TrodAll enc Tryd.prog W 0 (fun _ => true) true Tryd.f8.params.toList args.toList ds p := hA0
  rw [Tryd.params8] at hA hval
  obtain ⟨v0, vs0, d0, ds0, p0, q0, hargs, rfl, rfl, h0, r0⟩ := trodAll_cons hA
  obtain ⟨v1, vs1, d1, ds1, p1, q1, rfl, rfl, rfl, h1, r1⟩ := trodAll_cons r0
  obtain ⟨rfl, rfl, rfl⟩ := trodAll_nil r1
  obtain rfl : args = #[v0, v1] := by cases args; simp_all
  obtain ⟨rfl, rfl⟩ := trodVars_none hV
  have hsz : (DataW.weightsEach Tryd.prog [34, 35] [d0, d1]).all (· ≤ reachBytes) = true := hsz0
  obtain ⟨rs, hrs⟩ := open_raws (hval 0 34 v0 rfl rfl) h0 hsz (j := 0) rfl rfl
  obtain ⟨a, b, c, rfl, ia, ib, ic⟩ := open_arr3 (hval 1 35 v1 rfl rfl) h1
  have hT := tabAt hL
  refine (evalOver_walk v0 rs a b c W (tab_size hT) hT hrs ia ib ic).mono fun e W' ⟨he, hb⟩ => ⟨_, he, ?_⟩
  refine law_post (fun t ht => ?_) rfl (by kernel_rfl) hW' rfl rfl rfl hb
  rw [Tryd.params8] at ht
  simp only [List.mem_cons, List.not_mem_nil, or_false] at ht
  rcases ht with rfl | rfl
  · exact ⟨by kernel_rfl, of_decide_eq_true (by kernel_rfl)⟩
  · exact ⟨by kernel_rfl, of_decide_eq_true (by kernel_rfl)⟩

/-- A WORLD FOR THE WITNESS: the settled one, the table (block 0) holding what its initialiser lays. -/
noncomputable def evalOverWorld (os : Os) : World :=
  { World.holding Tryd.prog os ⟨#[], #[], []⟩ with heap := (World.holding Tryd.prog os ⟨#[], #[], []⟩).heap.modify 0 fun
      | .cells _ t frozen => .cells #[.int .i64 0, .int .i64 0, .int .i64 0, .int .i64 2, .int .i64 2, .int .i64 2, .int .i64 2, .int .i64 2, .int .i64 2, .int .i64 2, .int .i64 1, .int .i64 0, .int .i64 0, .int .i64 0, .int .i64 1, .int .i64 2, .int .i64 2, .int .i64 1, .int .i64 1] t frozen
      | o => o }
theorem evalOver_met (os : Os) : laidMet Tryd.prog Rows.evalOverRow.laid ((evalOverWorld os).forCall (fun _ _ => 0) ⟨#[], #[.slice none 0 0, .agg #[.int .i64 0, .int .i64 0, .int .i64 0]], []⟩).memory :=
  laidMet_of_run' 8 (by kernel_rfl) (by kernel_rfl)
theorem evalOver_reads (os : Os) {H : Type} (enc : TypeId × Value → H) : ∃ places, DataW.whole enc Tryd.prog ((evalOverWorld os).forCall (fun _ _ => 0) ⟨#[], #[.slice none 0 0, .agg #[.int .i64 0, .int .i64 0, .int .i64 0]], []⟩).memory Tryd.f8.params.toList Rows.evalOverSpec.vars false #[Value.slice none 0 0, .agg #[.int .i64 0, .int .i64 0, .int .i64 0]].toList 8 = some ([.nil, .agg [.lit (.int .i64 0), .lit (.int .i64 0), .lit (.int .i64 0)]], [], places) :=
  ⟨[], by kernel_rfl⟩

set_option maxRecDepth 100000 in
theorem evalOver_lifted (os : Os) (started : os.Started) (H : Type) (enc : TypeId × Value → H) (F : Stop.Interp) :
    ReturnsInHanded {} Tryd.checked os 8 .any ((OpenSpec.ofChange Rows.evalOverSpec).preRow enc Tryd.prog Tryd.f8 Rows.evalOverRow.domain false Rows.evalOverRow.laid) (((OpenSpec.ofChange Rows.evalOverSpec).at F).post enc Tryd.prog Tryd.f8 false true false false) := by
  obtain ⟨places, hx⟩ := evalOver_reads os enc
  refine returnsInHanded_of_row (C := Tryd.checked) (s := OpenSpec.ofChange Rows.evalOverSpec) own started (by kernel_rfl) Tryd.func8
    (witness_row_at (enc := enc) (C := Tryd.checked) false (evalOverWorld os) #[.slice none 0 0, .agg #[.int .i64 0, .int .i64 0, .int .i64 0]] rfl (by kernel_rfl) (by kernel_rfl) (by kernel_rfl)
      (OpenSpec.preRow_of_cond 8 hx (by kernel_rfl) (fun k hk => by cases hk) (by kernel_rfl) (evalOver_met os))) ?_
  intro W base args ds gs before hval hW _ _ hsz hL _ _
  exact evalOver_contract H enc W base args ds gs before hval hW hsz hL

theorem evalOver_said : Rows.EvalOverSaid :=
  OpenClaim.holds_of_cond 8 Tryd.f8 rfl rfl rfl rfl rfl rfl rfl ⟨rfl, rfl, rfl, rfl, rfl⟩ rfl rfl rfl rfl rfl (by kernel_rfl) Tryd.func8 (by kernel_rfl)
    (of_decide_eq_true (by kernel_rfl)) (by unfold Func.isWrapper; first | (rw [if_pos (by decide +kernel)]; kernel_rfl) | (rw [if_neg (by decide +kernel)]; exact ⟨rfl, rfl⟩))
    (fun os started H enc _ F => by rw [OpenClaim.pre_eq_preRow]; exact evalOver_lifted os started H enc F)

theorem evalOver_plain (f : FuncId) (fn : Func) (hf : Tryd.pinned.checked.prog.funcNamed "foretell/foretellkeep.EvalOver" = some f) (hfn : Tryd.pinned.checked.prog.funcs[f]? = some fn) :
    true = Tryd.pinned.checked.prog.looks [] ∧ ∀ (j : Nat) t, fn.params[j]? = some t → Tryd.pinned.checked.prog.wantsStandIn t = false := by
  obtain rfl : f = 8 := Option.some.inj ((show Tryd.prog.funcNamed "foretell/foretellkeep.EvalOver" = some 8 by kernel_rfl).symm.trans hf) |>.symm
  obtain rfl : fn = Tryd.f8 := (Option.some.inj (Tryd.func8.symm.trans hfn)).symm
  refine ⟨by kernel_rfl, fun j t ht => ?_⟩
  rw [Tryd.params8] at ht
  have ht' := Array.mem_of_getElem? ht
  simp only [List.mem_toArray, List.mem_cons, List.not_mem_nil, or_false] at ht'
  rcases ht' with rfl | rfl
  · exact (show Tryd.prog.wantsStandIn 34 = false by kernel_rfl)
  · exact (show Tryd.prog.wantsStandIn 35 = false by kernel_rfl)

/-- THE CARD. -/
theorem evalOver_card : Rows.EvalOverCardSaid :=
  Claim7.holds_tied_plain_at .later [] _ _ _ _ evalOver_said (fun _ h => by cases h) (by kernel_rfl) (fun _ h => by cases h) evalOver_row_tie rfl ⟨rfl, rfl⟩ (by kernel_rfl) rfl evalOver_plain (by kernel_rfl)
#print axioms evalOver_card
end Go.Proofs.YtlmghhfpoeocnaaDoor
