/-
  Proved: foretellkeep.EvalTurns answers true at every two lists of raw numbers and every three values (Add, Mul and Eq do not care for the order of their parts; Sub and Lt turn), given that the table polish.partCounts reads as its initialiser lays it, which the card ties to the program's text. No other condition.
-/
import Derived.Test.YtlmghhfpoeocnaaDoorCards
import Derived.Test.YtlmghhfpoeocnaaDoorTie
import Derived.Test.YtlmghhfpoeocnaaDoorKeepEval
import Derived.Test.YtlmghhfpoeocnaaDoorNumber
namespace Go.Proofs.YtlmghhfpoeocnaaDoor
open Go.ChangeShapes Go.WideShapes Go.ChangeAt Go.RowKit Go.Deep
open Terms Tm

/-- what Eval answers of what was made. -/
def resN (r : Option Int) : Int := match r with
  | some x => x
  | none => 0
def resC (r : Option Int) : Int := match r with
  | some _ => 0
  | none => 8
theorem eval_res (v ev : Value) (env : List Int) (T : Tm) (p e : Int) (w : World) (hp : resN (T.eval env) = p) (he : resC (T.eval env) = e) (hB : 0 < w.heap.size) (hT : TabAt w) (hs : EnvS env) (hg : T.Good 3) (hty : T.typed = true) (h60 : T.size ≤ 60) (hV : OpsV w v T.ops) (hE : IntsV w ev env) :
    Calls Tryd.prog 13 #[v, ev] w fun e' w' => e' = .returned (.tuple #[.int .i64 p, .int .i64 e]) ∧ Below w.heap.size w w' := by
  have h := eval_at v ev env T w hB hT hs hg hty h60 hV hE
  subst hp he
  cases hx : T.eval env with
  | none => rw [hx] at h; exact h
  | some x => rw [hx] at h; exact h
theorem turns (k x y : Int) (h3 : 3 ≤ k) (h7 : k ≤ 7) (hx : x.natAbs ≤ 4096) (hy : y.natAbs ≤ 4096) : ∃ p q e : Int, (resN (lid (bin k x y)) = p ∧ resC (lid (bin k x y)) = e) ∧ (resN (lid (bin k y x)) = q ∧ resC (lid (bin k y x)) = e) ∧
    (e = 8 ∨ (e = 0 ∧ (-1000000 ≤ q ∧ q ≤ 1000000) ∧ (k = 4 → p = -q) ∧ (k = 7 → ¬ (p = 1 ∧ q = 1)) ∧ (k ≠ 4 → k ≠ 7 → p = q))) := by
  have hk : k = 3 ∨ k = 4 ∨ k = 5 ∨ k = 6 ∨ k = 7 := by omega
  rcases hk with rfl | rfl | rfl | rfl | rfl
  · have e1 : lid (bin 3 x y) = some (x + y) := lid_small (by show (x + y).natAbs ≤ _; omega)
    have e2 : lid (bin 3 y x) = some (y + x) := lid_small (by show (y + x).natAbs ≤ _; omega)
    rw [e1, e2]
    exact ⟨_, _, 0, ⟨rfl, rfl⟩, ⟨rfl, rfl⟩, .inr ⟨rfl, by simp only [resN]; omega, fun h => by omega, fun h => by omega, fun _ _ => by simp only [resN]; omega⟩⟩
  · have e1 : lid (bin 4 x y) = some (x - y) := lid_small (by show (x - y).natAbs ≤ _; omega)
    have e2 : lid (bin 4 y x) = some (y - x) := lid_small (by show (y - x).natAbs ≤ _; omega)
    rw [e1, e2]
    exact ⟨_, _, 0, ⟨rfl, rfl⟩, ⟨rfl, rfl⟩, .inr ⟨rfl, by simp only [resN]; omega, fun _ => by simp only [resN]; omega, fun h => by omega, fun h _ => absurd rfl h⟩⟩
  · have hc : bin 5 y x = bin 5 x y := by show y * x = x * y; rw [Int.mul_comm]
    rw [hc]
    cases hl : lid (bin 5 x y) with
    | none => exact ⟨0, 0, 8, ⟨rfl, rfl⟩, ⟨rfl, rfl⟩, .inl rfl⟩
    | some z =>
      have := lid_le hl
      exact ⟨z, z, 0, ⟨rfl, rfl⟩, ⟨rfl, rfl⟩, .inr ⟨rfl, by omega, fun h => by omega, fun h => by omega, fun _ _ => rfl⟩⟩
  · have hc : bin 6 y x = bin 6 x y := by
      show (if y = x then (1 : Int) else 0) = if x = y then 1 else 0
      by_cases h : x = y
      · rw [if_pos h, if_pos h.symm]
      · rw [if_neg h, if_neg (fun h' => h h'.symm)]
    rw [hc]
    obtain ⟨z, hz, h01⟩ := bin_lid (k := 6) (x := x) (y := y) (by omega)
    rw [hz]
    exact ⟨z, z, 0, ⟨rfl, rfl⟩, ⟨rfl, rfl⟩, .inr ⟨rfl, by omega, fun h => by omega, fun h => by omega, fun _ _ => rfl⟩⟩
  · obtain ⟨z, hz, h01⟩ := bin_lid (k := 7) (x := x) (y := y) (by omega)
    obtain ⟨z', hz', h01'⟩ := bin_lid (k := 7) (x := y) (y := x) (by omega)
    rw [hz, hz']
    refine ⟨z, z', 0, ⟨rfl, rfl⟩, ⟨rfl, rfl⟩, .inr ⟨rfl, by omega, fun h => by omega, fun _ => ?_, fun _ h => absurd rfl h⟩⟩
    rintro ⟨rfl, rfl⟩
    have a1 := (lid_le hz).1
    have a2 := (lid_le hz').1
    have b1 : bin 7 x y = if x < y then 1 else 0 := rfl
    have b2 : bin 7 y x = if y < x then 1 else 0 := rfl
    rw [b1] at a1
    rw [b2] at a2
    split at a1
    · split at a2
      · omega
      · omega
    · omega

set_option maxHeartbeats 6400000 in
set_option maxRecDepth 20000 in
theorem evalTurns_walk (rx ry : Value) (rsx rsy : List (Int × Int)) (a b c : Int) (w : World) (hB : 0 < w.heap.size) (hT : TabAt w) (hRx : Raws w w.heap.size rx rsx) (hRy : Raws w w.heap.size ry rsy) (ia : I64 a) (ib : I64 b) (ic : I64 c) :
    Calls Tryd.prog 6 #[rx, ry, .agg #[.int .i64 a, .int .i64 b, .int .i64 c]] w fun e w' => e = .returned (.bool true) ∧ Below w.heap.size w w' := by
  have henv := fun w => env_any a b c w ia ib ic
  have hes := envL_s a b c
  generalize envL a b c = env at henv hes
  have HES : Hid (EnvS env) := hes
  obtain ⟨ra, rn, rc, hra⟩ : ∃ a n c, rx = .slice a n c := by obtain ⟨⟨a, c, h, _⟩, _, _⟩ := hRx; exact ⟨_, _, _, h⟩
  obtain ⟨sa, sn, sc, hsa⟩ : ∃ a n c, ry = .slice a n c := by obtain ⟨⟨a, c, h, _⟩, _, _⟩ := hRy; exact ⟨_, _, _, h⟩
  obtain ⟨W0, hW0⟩ : ∃ W0, W0 = w.alloc (.cells #[.int .i64 a, .int .i64 b, .int .i64 c] 35) := ⟨_, rfl⟩
  have hb0 : Below w.heap.size w W0 := by rw [hW0]; exact (Below.refl _ _).alloc (Nat.le_refl _) _
  have hsz0 : W0.heap.size = w.heap.size + 1 := by rw [hW0]; simp
  have d0 : W0.cell? ⟨w.heap.size, 0, none⟩ = some (.int .i64 a) := by rw [hW0]; simp [go_sem]
  have d1 : W0.cell? ⟨w.heap.size, 1, none⟩ = some (.int .i64 b) := by rw [hW0]; simp [go_sem]
  have d2 : W0.cell? ⟨w.heap.size, 2, none⟩ = some (.int .i64 c) := by rw [hW0]; simp [go_sem]
  have htr := numberFn_any rx rsx 3 W0 (by omega) (by omega) (hRx.later hb0)
  rw [hW0] at htr
  have HW0 := (show Hid _ from hW0)
  have HRY : Hid (Raws W0 W0.heap.size ry rsy) := hRy.later hb0
  have HB0 : Hid (Below w.heap.size w W0) := hb0
  have hB0 : 0 < W0.heap.size := by omega
  have HTb0 : Hid (∀ w', Below W0.heap.size W0 w' → 0 < w'.heap.size ∧ TabAt w' ∧ w'.cell? ⟨w.heap.size, 0, none⟩ = some (.int .i64 a) ∧ w'.cell? ⟨w.heap.size, 1, none⟩ = some (.int .i64 b) ∧ w'.cell? ⟨w.heap.size, 2, none⟩ = some (.int .i64 c)) := fun w' hw' =>
    ⟨Nat.lt_of_lt_of_le hB0 hw'.size, (hT.below hb0 hB).below hw' hB0, (hw'.cell (p := ⟨w.heap.size, 0, none⟩) (by simp only; omega)).trans d0, (hw'.cell (p := ⟨w.heap.size, 1, none⟩) (by simp only; omega)).trans d1, (hw'.cell (p := ⟨w.heap.size, 2, none⟩) (by simp only; omega)).trans d2⟩
  subst hra hsa
  clear hW0 hRx hRy hT hb0 d0 d1 d2 ia ib ic hsz0
  go_enter Tryd.func6, Tryd.ntmps6
  go_wp2_with (go_at_call_of 19 rn; refine htr.mono ?_; rintro e w0 ⟨av, la, rfl, htl, hll, hol, hb1⟩; obtain ⟨aa, ac, rfl⟩ := owns_slice hol)
  rw [← HW0.out] at hb1
  have hova := opsV_of_owns hol
  have htr2 := numberFn_any _ rsy 3 w0 (by omega) (by omega) (HRY.out.later hb1)
  obtain ⟨A, hA⟩ := htl.tree (by omega)
  have HNA : Hid (la.length ≤ 60 ∧ la ≠ []) := ⟨by omega, by rw [← hA.ops]; exact A.ops_ne⟩
  have hsA : A.size ≤ 26 := by rw [← A.ops_length, hA.ops]; omega
  have HOA0 : Hid (OpsV w0 (.slice aa la.length ac) la) := hova
  obtain ⟨na, hna⟩ : ∃ n, n = la.length := ⟨_, rfl⟩
  rw [← hna] at HOA0 ⊢
  clear htr htl hol hova hll hna
  go_wp2_with (go_at_call_of 19 sn; refine htr2.mono ?_; rintro e w1 ⟨bv, lb, rfl, htl, hll, hol, hb2⟩; obtain ⟨ba, bc, rfl⟩ := owns_slice hol)
  have hovb := opsV_of_owns hol
  obtain ⟨B, hB'⟩ := htl.tree (by omega)
  have HNB : Hid (lb.length ≤ 60 ∧ lb ≠ []) := ⟨by omega, by rw [← hB'.ops]; exact B.ops_ne⟩
  have hsB : B.size ≤ 26 := by rw [← B.ops_length, hB'.ops]; omega
  have HOA : Hid (∀ w', Below w1.heap.size w1 w' → OpsV w' (.slice aa na ac) la) := fun w' hw' => (HOA0.out.below hb2).below hw'
  have HOB : Hid (∀ w', Below w1.heap.size w1 w' → OpsV w' (.slice ba lb.length bc) lb) := fun w' hw' => hovb.below hw'
  obtain ⟨nb, hnb⟩ : ∃ n, n = lb.length := ⟨_, rfl⟩
  rw [← hnb] at HOB ⊢
  have hb01 := hb1.trans (hb2.mono hb1.size)
  have HTb : Hid (∀ w', Below w1.heap.size w1 w' → 0 < w'.heap.size ∧ TabAt w' ∧ w'.cell? ⟨w.heap.size, 0, none⟩ = some (.int .i64 a) ∧ w'.cell? ⟨w.heap.size, 1, none⟩ = some (.int .i64 b) ∧ w'.cell? ⟨w.heap.size, 2, none⟩ = some (.int .i64 c)) := fun w' hw' => HTb0.out w' (hb01.trans (hw'.mono hb01.size))
  have HBw : Hid (Below w.heap.size w w1) := HB0.out.trans (hb01.mono HB0.out.size)
  have HC0 : Hid (Below w1.heap.size w1 w1) := Below.refl _ _
  clear htr2 htl hol hovb hll hnb hb01 hb1 hb2 HTb0 HB0 HRY HW0 HOA0 hB0
  obtain ⟨x, hx, hxb⟩ := hA.eval env hes
  obtain ⟨y, hy, hyb⟩ := hB'.eval env hes
  have hbd : bnd 2 = 4096 := rfl
  rw [hbd] at hxb hyb
  have HTU : Hid (∀ k : Int, 3 ≤ k → k ≤ 7 → ∃ p q e : Int, (resN ((Tm.bi k 0 A B).eval env) = p ∧ resC ((Tm.bi k 0 A B).eval env) = e) ∧ (resN ((Tm.bi k 0 B A).eval env) = q ∧ resC ((Tm.bi k 0 B A).eval env) = e) ∧ (e = 8 ∨ (e = 0 ∧ (-1000000 ≤ q ∧ q ≤ 1000000) ∧ (k = 4 → p = -q) ∧ (k = 7 → ¬ (p = 1 ∧ q = 1)) ∧ (k ≠ 4 → k ≠ 7 → p = q)))) := fun k h3 h7 => by
    simp only [Tm.eval, hx, hy]
    exact turns k x y h3 h7 hxb hyb
  have HTY : Hid (∀ (k : Int) (S T : Tm), 3 ≤ k → k ≤ 7 → (S = A ∨ S = B) → (T = A ∨ T = B) → (Tm.bi k 0 S T).Good 3 ∧ (Tm.bi k 0 S T).typed = true ∧ (Tm.bi k 0 S T).size ≤ 60) := fun k S T h3 h7 hS hT => by
    have ht : tkT k = false := by simp [tkT]; omega
    rcases hS with rfl | rfl <;> rcases hT with rfl | rfl
    all_goals
      refine ⟨⟨by omega, by omega, rfl, by first | exact hA.good | exact hB'.good, by first | exact hA.good | exact hB'.good⟩, ?_, ?_⟩
      · simp [Tm.typed, hA.typed, hB'.typed, hA.kind, hB'.kind, ht]
      · simp only [Tm.size]; omega
  have HOP : Hid (A.ops = la ∧ B.ops = lb) := ⟨hA.ops, hB'.ops⟩
  have HAA : Hid ((Tm.bi 4 0 A A).eval env = some 0 ∧ (Tm.bi 6 0 A A).eval env = some 1) := by
    show _ ∧ _
    simp only [Tm.eval, hx]
    exact ⟨by simp [bin, lid], by simp [bin, lid]⟩
  clear hx hy hA hB' hes hsA hsB hxb hyb hbd HC0
  go_wp2_with fail
  go_loopw [9] (fun cc wr => ∃ k : Nat, 3 ≤ k ∧ k ≤ 8 ∧ cc = .int .i64 k ∧ Hid (Below w1.heap.size w1 wr)) (fun cc _ => 8 - (intOf cc).toNat)
  case atStart => exact ⟨3, by omega, by omega, rfl, Below.refl _ _⟩
  case round =>
    obtain ⟨k, hk3, hk8, rfl, HC0⟩ := hrel
    by_cases hk7 : k ≤ 7
    · obtain ⟨p, q, ee, ⟨hp, hpe⟩, ⟨hq, hqe⟩, hee⟩ := HTU.out k (by omega) (by omega)
      have HP : Hid ((resN ((Tm.bi k 0 A B).eval env) = p ∧ resC ((Tm.bi k 0 A B).eval env) = ee) ∧ (resN ((Tm.bi k 0 B A).eval env) = q ∧ resC ((Tm.bi k 0 B A).eval env) = ee)) := ⟨⟨hp, hpe⟩, hq, hqe⟩
      have H1 := (show Hid _ from HTY.out k A B (by omega) (by omega) (.inl rfl) (.inr rfl))
      have H2 := (show Hid _ from HTY.out k B A (by omega) (by omega) (.inr rfl) (.inl rfl))
      have HEE := (show Hid _ from hee)
      clear hp hpe hq hqe hee
      go_wp2_with fail
      have hB0 : Below wr.heap.size wr wr := Below.refl _ _
      have hX0 : Below wr.heap.size wr ((wr.alloc (.cells #[.slice aa na ac, .slice ba nb bc] 22)).drew) := (hB0.alloc (Nat.le_refl _) _).drew
      have hS0 : ∀ w', Below wr.heap.size wr w' → w'.cell? ⟨w.heap.size, 0, none⟩ = some (.int .i64 a) ∧ w'.cell? ⟨w.heap.size, 1, none⟩ = some (.int .i64 b) ∧ w'.cell? ⟨w.heap.size, 2, none⟩ = some (.int .i64 c) := fun w' hw' => (HTb.out w' (HC0.out.trans (hw'.mono HC0.out.size))).2.2
      have hJ0 := joined2 ((k : Int)) wr.heap.size (.slice aa na ac) (.slice ba nb bc) la lb ((wr.alloc (.cells #[.slice aa na ac, .slice ba nb bc] 22)).drew) (by simp [go_sem]) (by simp [go_sem]) HNA.out.1 HNB.out.1 HNA.out.2 HNB.out.2 (HOA.out _ (HC0.out.trans (hX0.mono HC0.out.size))) (HOB.out _ (HC0.out.trans (hX0.mono HC0.out.size)))
      have hE0 : ∀ (w6 : World) (jv ev : Value), Below wr.heap.size wr w6 → OpsV w6 jv ((((k : Int)), 0) :: (la ++ lb)) → IntsV w6 ev env → Calls Tryd.prog 13 #[jv, ev] w6 fun e w' => e = .returned (.tuple #[.int .i64 p, .int .i64 ee]) ∧ Below w6.heap.size w6 w' := fun w6 jv ev hw6 ho hi => by
        obtain ⟨hp6, ht6, _⟩ := HTb.out w6 (HC0.out.trans (hw6.mono HC0.out.size))
        exact eval_res jv ev env (.bi k 0 A B) p ee w6 HP.out.1.1 HP.out.1.2 hp6 ht6 HES.out H1.out.1 H1.out.2.1 H1.out.2.2 (by simp only [Tm.ops, HOP.out.1, HOP.out.2]; exact ho) hi
      generalize (((((k : Int)), 0) :: (la ++ lb)) : List (Int × Int)).length = m0 at hJ0
      go_region_held3 (fun w' => w'.cell? ⟨w.heap.size, 0, none⟩ = some (.int .i64 a) ∧ w'.cell? ⟨w.heap.size, 1, none⟩ = some (.int .i64 b) ∧ w'.cell? ⟨w.heap.size, 2, none⟩ = some (.int .i64 c))
        (exact hS0 _ (by first | exact hB0 | exact hB0.drew | exact hX0 | exact hX0.trans (hb0a.mono hX0.size) | exact (hX0.trans (hb0a.mono hX0.size)).trans (hb0b.mono (hX0.trans (hb0a.mono hX0.size)).size) | exact ((hX0.trans (hb0a.mono hX0.size)).trans (hb0b.mono (hX0.trans (hb0a.mono hX0.size)).size)).trans (hb0c.mono ((hX0.trans (hb0a.mono hX0.size)).trans (hb0b.mono (hX0.trans (hb0a.mono hX0.size)).size)).size)))
        (first | (go_at_call 18; refine hJ0.mono ?_; rintro e w0a ⟨ja0, jc0, rfl, hb0a, hov0⟩) | (go_at_call 17; refine (henv _).mono ?_; rintro e w0b ⟨ev0, rfl, hie0, hb0b⟩; obtain ⟨ea0, ec0, rfl, hif0⟩ := hie0) | (go_at_call 13; refine (hE0 _ _ _ ((hX0.trans (hb0a.mono hX0.size)).trans (hb0b.mono (hX0.trans (hb0a.mono hX0.size)).size)) (hov0.below hb0b) ⟨ea0, ec0, rfl, hif0⟩).mono ?_; rintro e w0c ⟨rfl, hb0c⟩))
      have hbf0 := ((hX0.trans (hb0a.mono hX0.size)).trans (hb0b.mono (hX0.trans (hb0a.mono hX0.size)).size)).trans (hb0c.mono ((hX0.trans (hb0a.mono hX0.size)).trans (hb0b.mono (hX0.trans (hb0a.mono hX0.size)).size)).size)
      have HC1 : Hid (Below w1.heap.size w1 w0c) := HC0.out.trans (hbf0.mono HC0.out.size)
      clear hbf0 hb0a hb0b hb0c hov0 hif0 hE0 hJ0 hS0 hX0 hB0
      go_wp2_with fail
      have hB1 : Below w0c.heap.size w0c w0c := Below.refl _ _
      have hX1 : Below w0c.heap.size w0c ((w0c.alloc (.cells #[.slice ba nb bc, .slice aa na ac] 22)).drew) := (hB1.alloc (Nat.le_refl _) _).drew
      have hS1 : ∀ w', Below w0c.heap.size w0c w' → w'.cell? ⟨w.heap.size, 0, none⟩ = some (.int .i64 a) ∧ w'.cell? ⟨w.heap.size, 1, none⟩ = some (.int .i64 b) ∧ w'.cell? ⟨w.heap.size, 2, none⟩ = some (.int .i64 c) := fun w' hw' => (HTb.out w' (HC1.out.trans (hw'.mono HC1.out.size))).2.2
      have hJ1 := joined2 ((k : Int)) w0c.heap.size (.slice ba nb bc) (.slice aa na ac) lb la ((w0c.alloc (.cells #[.slice ba nb bc, .slice aa na ac] 22)).drew) (by simp [go_sem]) (by simp [go_sem]) HNB.out.1 HNA.out.1 HNB.out.2 HNA.out.2 (HOB.out _ (HC1.out.trans (hX1.mono HC1.out.size))) (HOA.out _ (HC1.out.trans (hX1.mono HC1.out.size)))
      have hE1 : ∀ (w6 : World) (jv ev : Value), Below w0c.heap.size w0c w6 → OpsV w6 jv ((((k : Int)), 0) :: (lb ++ la)) → IntsV w6 ev env → Calls Tryd.prog 13 #[jv, ev] w6 fun e w' => e = .returned (.tuple #[.int .i64 q, .int .i64 ee]) ∧ Below w6.heap.size w6 w' := fun w6 jv ev hw6 ho hi => by
        obtain ⟨hp6, ht6, _⟩ := HTb.out w6 (HC1.out.trans (hw6.mono HC1.out.size))
        exact eval_res jv ev env (.bi k 0 B A) q ee w6 HP.out.2.1 HP.out.2.2 hp6 ht6 HES.out H2.out.1 H2.out.2.1 H2.out.2.2 (by simp only [Tm.ops, HOP.out.1, HOP.out.2]; exact ho) hi
      generalize (((((k : Int)), 0) :: (lb ++ la)) : List (Int × Int)).length = m1 at hJ1
      go_region_held3 (fun w' => w'.cell? ⟨w.heap.size, 0, none⟩ = some (.int .i64 a) ∧ w'.cell? ⟨w.heap.size, 1, none⟩ = some (.int .i64 b) ∧ w'.cell? ⟨w.heap.size, 2, none⟩ = some (.int .i64 c))
        (exact hS1 _ (by first | exact hB1 | exact hB1.drew | exact hX1 | exact hX1.trans (hb1a.mono hX1.size) | exact (hX1.trans (hb1a.mono hX1.size)).trans (hb1b.mono (hX1.trans (hb1a.mono hX1.size)).size) | exact ((hX1.trans (hb1a.mono hX1.size)).trans (hb1b.mono (hX1.trans (hb1a.mono hX1.size)).size)).trans (hb1c.mono ((hX1.trans (hb1a.mono hX1.size)).trans (hb1b.mono (hX1.trans (hb1a.mono hX1.size)).size)).size)))
        (first | (go_at_call 18; refine hJ1.mono ?_; rintro e w1a ⟨ja1, jc1, rfl, hb1a, hov1⟩) | (go_at_call 17; refine (henv _).mono ?_; rintro e w1b ⟨ev1, rfl, hie1, hb1b⟩; obtain ⟨ea1, ec1, rfl, hif1⟩ := hie1) | (go_at_call 13; refine (hE1 _ _ _ ((hX1.trans (hb1a.mono hX1.size)).trans (hb1b.mono (hX1.trans (hb1a.mono hX1.size)).size)) (hov1.below hb1b) ⟨ea1, ec1, rfl, hif1⟩).mono ?_; rintro e w1c ⟨rfl, hb1c⟩))
      have hbf1 := ((hX1.trans (hb1a.mono hX1.size)).trans (hb1b.mono (hX1.trans (hb1a.mono hX1.size)).size)).trans (hb1c.mono ((hX1.trans (hb1a.mono hX1.size)).trans (hb1b.mono (hX1.trans (hb1a.mono hX1.size)).size)).size)
      have HC2 : Hid (Below w1.heap.size w1 w1c) := HC1.out.trans (hbf1.mono HC1.out.size)
      clear hbf1 hb1a hb1b hb1c hov1 hif1 hE1 hJ1 hS1 hX1 hB1
      rcases HEE.out with rfl | ⟨rfl, ⟨hq1, hq2⟩, h4, h7, hrest⟩
      · clear HEE HP
        go_wp2_with fail
        go_roundw
        case rel => exact ⟨k + 1, by omega, by omega, by go_num, HC2⟩
        case measure => simp [intOf]; omega
      · clear HEE HP H1 H2
        have hkc : k = 3 ∨ k = 4 ∨ k = 5 ∨ k = 6 ∨ k = 7 := by omega
        rcases hkc with rfl | rfl | rfl | rfl | rfl
        · obtain rfl := hrest (by decide) (by decide)
          clear hrest h4 h7
          go_wp2_with fail
          go_roundw
          case rel => exact ⟨4, by omega, by omega, rfl, HC2⟩
          case measure => simp [intOf]
        · obtain rfl := h4 (by decide)
          clear hrest h4 h7
          go_wp2_with fail
          go_roundw
          case rel => exact ⟨5, by omega, by omega, rfl, HC2⟩
          case measure => simp [intOf]
        · obtain rfl := hrest (by decide) (by decide)
          clear hrest h4 h7
          go_wp2_with fail
          go_roundw
          case rel => exact ⟨6, by omega, by omega, rfl, HC2⟩
          case measure => simp [intOf]
        · obtain rfl := hrest (by decide) (by decide)
          clear hrest h4 h7
          go_wp2_with fail
          go_roundw
          case rel => exact ⟨7, by omega, by omega, rfl, HC2⟩
          case measure => simp [intOf]
        · have hn := h7 (by decide)
          clear hrest h4 h7
          by_cases hp1 : p = 1
          · have hq0 : ¬ q = 1 := fun h => hn ⟨hp1, h⟩
            clear hn
            subst hp1
            go_wp2_with fail
            go_roundw
            case rel => exact ⟨8, by omega, by omega, rfl, HC2⟩
            case measure => simp [intOf]
          · clear hn
            go_wp2_with fail
            go_roundw
            case rel => exact ⟨8, by omega, by omega, rfl, HC2⟩
            case measure => simp [intOf]
    · have hk : k = 8 := by omega
      subst hk
      have H1 := (show Hid _ from HTY.out 4 A A (by omega) (by omega) (.inl rfl) (.inl rfl))
      have H2 := (show Hid _ from HTY.out 6 A A (by omega) (by omega) (.inl rfl) (.inl rfl))
      clear hk3 hk8 hk7
      go_wp2_with fail
      have hB0 : Below wr.heap.size wr wr := Below.refl _ _
      have hX0 : Below wr.heap.size wr ((wr.alloc (.cells #[.slice aa na ac, .slice aa na ac] 22)).drew) := (hB0.alloc (Nat.le_refl _) _).drew
      have hS0 : ∀ w', Below wr.heap.size wr w' → w'.cell? ⟨w.heap.size, 0, none⟩ = some (.int .i64 a) ∧ w'.cell? ⟨w.heap.size, 1, none⟩ = some (.int .i64 b) ∧ w'.cell? ⟨w.heap.size, 2, none⟩ = some (.int .i64 c) := fun w' hw' => (HTb.out w' (HC0.out.trans (hw'.mono HC0.out.size))).2.2
      have hJ0 := joined2 (4) wr.heap.size (.slice aa na ac) (.slice aa na ac) la la ((wr.alloc (.cells #[.slice aa na ac, .slice aa na ac] 22)).drew) (by simp [go_sem]) (by simp [go_sem]) HNA.out.1 HNA.out.1 HNA.out.2 HNA.out.2 (HOA.out _ (HC0.out.trans (hX0.mono HC0.out.size))) (HOA.out _ (HC0.out.trans (hX0.mono HC0.out.size)))
      have hE0 : ∀ (w6 : World) (jv ev : Value), Below wr.heap.size wr w6 → OpsV w6 jv (((4), 0) :: (la ++ la)) → IntsV w6 ev env → Calls Tryd.prog 13 #[jv, ev] w6 fun e w' => e = .returned (.tuple #[.int .i64 0, .int .i64 0]) ∧ Below w6.heap.size w6 w' := fun w6 jv ev hw6 ho hi => by
        obtain ⟨hp6, ht6, _⟩ := HTb.out w6 (HC0.out.trans (hw6.mono HC0.out.size))
        exact eval_some jv ev env (.bi 4 0 A A) 0 w6 HAA.out.1 hp6 ht6 HES.out H1.out.1 H1.out.2.1 H1.out.2.2 (by simp only [Tm.ops, HOP.out.1]; exact ho) hi
      generalize ((((4), 0) :: (la ++ la)) : List (Int × Int)).length = m0 at hJ0
      go_region_held3 (fun w' => w'.cell? ⟨w.heap.size, 0, none⟩ = some (.int .i64 a) ∧ w'.cell? ⟨w.heap.size, 1, none⟩ = some (.int .i64 b) ∧ w'.cell? ⟨w.heap.size, 2, none⟩ = some (.int .i64 c))
        (exact hS0 _ (by first | exact hB0 | exact hB0.drew | exact hX0 | exact hX0.trans (hb0a.mono hX0.size) | exact (hX0.trans (hb0a.mono hX0.size)).trans (hb0b.mono (hX0.trans (hb0a.mono hX0.size)).size) | exact ((hX0.trans (hb0a.mono hX0.size)).trans (hb0b.mono (hX0.trans (hb0a.mono hX0.size)).size)).trans (hb0c.mono ((hX0.trans (hb0a.mono hX0.size)).trans (hb0b.mono (hX0.trans (hb0a.mono hX0.size)).size)).size)))
        (first | (go_at_call 18; refine hJ0.mono ?_; rintro e w0a ⟨ja0, jc0, rfl, hb0a, hov0⟩) | (go_at_call 17; refine (henv _).mono ?_; rintro e w0b ⟨ev0, rfl, hie0, hb0b⟩; obtain ⟨ea0, ec0, rfl, hif0⟩ := hie0) | (go_at_call 13; refine (hE0 _ _ _ ((hX0.trans (hb0a.mono hX0.size)).trans (hb0b.mono (hX0.trans (hb0a.mono hX0.size)).size)) (hov0.below hb0b) ⟨ea0, ec0, rfl, hif0⟩).mono ?_; rintro e w0c ⟨rfl, hb0c⟩))
      have hbf0 := ((hX0.trans (hb0a.mono hX0.size)).trans (hb0b.mono (hX0.trans (hb0a.mono hX0.size)).size)).trans (hb0c.mono ((hX0.trans (hb0a.mono hX0.size)).trans (hb0b.mono (hX0.trans (hb0a.mono hX0.size)).size)).size)
      have HC1 : Hid (Below w1.heap.size w1 w0c) := HC0.out.trans (hbf0.mono HC0.out.size)
      clear hbf0 hb0a hb0b hb0c hov0 hif0 hE0 hJ0 hS0 hX0 hB0
      go_wp2_with fail
      have hB1 : Below w0c.heap.size w0c w0c := Below.refl _ _
      have hX1 : Below w0c.heap.size w0c ((w0c.alloc (.cells #[.slice aa na ac, .slice aa na ac] 22)).drew) := (hB1.alloc (Nat.le_refl _) _).drew
      have hS1 : ∀ w', Below w0c.heap.size w0c w' → w'.cell? ⟨w.heap.size, 0, none⟩ = some (.int .i64 a) ∧ w'.cell? ⟨w.heap.size, 1, none⟩ = some (.int .i64 b) ∧ w'.cell? ⟨w.heap.size, 2, none⟩ = some (.int .i64 c) := fun w' hw' => (HTb.out w' (HC1.out.trans (hw'.mono HC1.out.size))).2.2
      have hJ1 := joined2 (6) w0c.heap.size (.slice aa na ac) (.slice aa na ac) la la ((w0c.alloc (.cells #[.slice aa na ac, .slice aa na ac] 22)).drew) (by simp [go_sem]) (by simp [go_sem]) HNA.out.1 HNA.out.1 HNA.out.2 HNA.out.2 (HOA.out _ (HC1.out.trans (hX1.mono HC1.out.size))) (HOA.out _ (HC1.out.trans (hX1.mono HC1.out.size)))
      have hE1 : ∀ (w6 : World) (jv ev : Value), Below w0c.heap.size w0c w6 → OpsV w6 jv (((6), 0) :: (la ++ la)) → IntsV w6 ev env → Calls Tryd.prog 13 #[jv, ev] w6 fun e w' => e = .returned (.tuple #[.int .i64 1, .int .i64 0]) ∧ Below w6.heap.size w6 w' := fun w6 jv ev hw6 ho hi => by
        obtain ⟨hp6, ht6, _⟩ := HTb.out w6 (HC1.out.trans (hw6.mono HC1.out.size))
        exact eval_some jv ev env (.bi 6 0 A A) 1 w6 HAA.out.2 hp6 ht6 HES.out H2.out.1 H2.out.2.1 H2.out.2.2 (by simp only [Tm.ops, HOP.out.1]; exact ho) hi
      generalize ((((6), 0) :: (la ++ la)) : List (Int × Int)).length = m1 at hJ1
      go_region_held3 (fun w' => w'.cell? ⟨w.heap.size, 0, none⟩ = some (.int .i64 a) ∧ w'.cell? ⟨w.heap.size, 1, none⟩ = some (.int .i64 b) ∧ w'.cell? ⟨w.heap.size, 2, none⟩ = some (.int .i64 c))
        (exact hS1 _ (by first | exact hB1 | exact hB1.drew | exact hX1 | exact hX1.trans (hb1a.mono hX1.size) | exact (hX1.trans (hb1a.mono hX1.size)).trans (hb1b.mono (hX1.trans (hb1a.mono hX1.size)).size) | exact ((hX1.trans (hb1a.mono hX1.size)).trans (hb1b.mono (hX1.trans (hb1a.mono hX1.size)).size)).trans (hb1c.mono ((hX1.trans (hb1a.mono hX1.size)).trans (hb1b.mono (hX1.trans (hb1a.mono hX1.size)).size)).size)))
        (first | (go_at_call 18; refine hJ1.mono ?_; rintro e w1a ⟨ja1, jc1, rfl, hb1a, hov1⟩) | (go_at_call 17; refine (henv _).mono ?_; rintro e w1b ⟨ev1, rfl, hie1, hb1b⟩; obtain ⟨ea1, ec1, rfl, hif1⟩ := hie1) | (go_at_call 13; refine (hE1 _ _ _ ((hX1.trans (hb1a.mono hX1.size)).trans (hb1b.mono (hX1.trans (hb1a.mono hX1.size)).size)) (hov1.below hb1b) ⟨ea1, ec1, rfl, hif1⟩).mono ?_; rintro e w1c ⟨rfl, hb1c⟩))
      have hbf1 := ((hX1.trans (hb1a.mono hX1.size)).trans (hb1b.mono (hX1.trans (hb1a.mono hX1.size)).size)).trans (hb1c.mono ((hX1.trans (hb1a.mono hX1.size)).trans (hb1b.mono (hX1.trans (hb1a.mono hX1.size)).size)).size)
      have HC2 : Hid (Below w1.heap.size w1 w1c) := HC1.out.trans (hbf1.mono HC1.out.size)
      clear hbf1 hb1a hb1b hb1c hov1 hif1 hE1 hJ1 hS1 hX1 hB1
      go_wp2_with fail
      go_ret
      exact ⟨rfl, HBw.out.trans (HC2.out.mono HBw.out.size)⟩

theorem evalTurns_contract (H : Type) (enc : TypeId × Value → H) (W : World) (base : Nat) (args : Array Value) (ds gs : List (DataW H)) (before : List MemPlace)
    (hval : ∀ (j : Nat) t v, Tryd.f6.params[j]? = some t → args[j]? = some v → Value.okWide Tryd.prog W .any base t v)
    (hW : DataW.Whole enc Tryd.prog Tryd.f6.params.toList Rows.evalTurnsSpec.vars false W args.toList ds gs before)
    (hsz0 : (DataW.weightsEach Tryd.prog (Tryd.f6.params.toList ++ (OpenSpec.ofChange Rows.evalTurnsSpec).bare.plain.varTypes Tryd.prog) (ds ++ gs)).all (· ≤ reachBytes) = true)
    (hL : laidMetH Tryd.prog Rows.evalTurnsRow.laid W) :
    Calls Tryd.prog 6 args W fun e W' => ∃ v, e = .returned v ∧ Rows.evalTurnsSpec.post enc Tryd.prog Tryd.f6 false true false false W args v W' := by
  have hW' := hW
  obtain ⟨p, q, hA0, hV, rfl, hfz, hnd⟩ := hW
  have hA : DataW.TrodAll enc Tryd.prog W 0 (fun _ => true) true Tryd.f6.params.toList args.toList ds p := hA0
  rw [Tryd.params6] at hA hval
  obtain ⟨v0, vs0, d0, ds0, p0, q0, hargs, rfl, rfl, h0, r0⟩ := trodAll_cons hA
  obtain ⟨v1, vs1, d1, ds1, p1, q1, rfl, rfl, rfl, h1, r1⟩ := trodAll_cons r0
  obtain ⟨v2, vs2, d2, ds2, p2, q2, rfl, rfl, rfl, h2, r2⟩ := trodAll_cons r1
  obtain ⟨rfl, rfl, rfl⟩ := trodAll_nil r2
  obtain rfl : args = #[v0, v1, v2] := by cases args; simp_all
  obtain ⟨rfl, rfl⟩ := trodVars_none hV
  have hsz : (DataW.weightsEach Tryd.prog [34, 34, 35] [d0, d1, d2]).all (· ≤ reachBytes) = true := hsz0
  obtain ⟨rs, hrs⟩ := open_raws (hval 0 34 v0 rfl rfl) h0 hsz (j := 0) rfl rfl
  obtain ⟨ms, hms⟩ := open_raws (hval 1 34 v1 rfl rfl) h1 hsz (j := 1) rfl rfl
  obtain ⟨a, b, c, rfl, ia, ib, ic⟩ := open_arr3 (hval 2 35 v2 rfl rfl) h2
  have hT := tabAt hL
  refine (evalTurns_walk v0 v1 rs ms a b c W (tab_size hT) hT hrs hms ia ib ic).mono fun e W' ⟨he, hb⟩ => ⟨_, he, ?_⟩
  refine law_post (fun t ht => ?_) rfl (by kernel_rfl) hW' rfl rfl rfl hb
  rw [Tryd.params6] at ht
  simp only [List.mem_cons, List.not_mem_nil, or_false] at ht
  rcases ht with rfl | rfl | rfl
  · exact ⟨by kernel_rfl, of_decide_eq_true (by kernel_rfl)⟩
  · exact ⟨by kernel_rfl, of_decide_eq_true (by kernel_rfl)⟩
  · exact ⟨by kernel_rfl, of_decide_eq_true (by kernel_rfl)⟩

/-- A WORLD FOR THE WITNESS: the settled one, the table (block 0) holding what its initialiser lays. -/
noncomputable def evalTurnsWorld (os : Os) : World :=
  { World.holding Tryd.prog os ⟨#[], #[], []⟩ with heap := (World.holding Tryd.prog os ⟨#[], #[], []⟩).heap.modify 0 fun
      | .cells _ t frozen => .cells #[.int .i64 0, .int .i64 0, .int .i64 0, .int .i64 2, .int .i64 2, .int .i64 2, .int .i64 2, .int .i64 2, .int .i64 2, .int .i64 2, .int .i64 1, .int .i64 0, .int .i64 0, .int .i64 0, .int .i64 1, .int .i64 2, .int .i64 2, .int .i64 1, .int .i64 1] t frozen
      | o => o }
theorem evalTurns_met (os : Os) : laidMet Tryd.prog Rows.evalTurnsRow.laid ((evalTurnsWorld os).forCall (fun _ _ => 0) ⟨#[], #[.slice none 0 0, .slice none 0 0, .agg #[.int .i64 0, .int .i64 0, .int .i64 0]], []⟩).memory :=
  laidMet_of_run' 8 (by kernel_rfl) (by kernel_rfl)
theorem evalTurns_reads (os : Os) {H : Type} (enc : TypeId × Value → H) : ∃ places, DataW.whole enc Tryd.prog ((evalTurnsWorld os).forCall (fun _ _ => 0) ⟨#[], #[.slice none 0 0, .slice none 0 0, .agg #[.int .i64 0, .int .i64 0, .int .i64 0]], []⟩).memory Tryd.f6.params.toList Rows.evalTurnsSpec.vars false #[Value.slice none 0 0, .slice none 0 0, .agg #[.int .i64 0, .int .i64 0, .int .i64 0]].toList 8 = some ([.nil, .nil, .agg [.lit (.int .i64 0), .lit (.int .i64 0), .lit (.int .i64 0)]], [], places) :=
  ⟨[], by kernel_rfl⟩

set_option maxRecDepth 100000 in
theorem evalTurns_lifted (os : Os) (started : os.Started) (H : Type) (enc : TypeId × Value → H) (F : Stop.Interp) :
    ReturnsInHanded {} Tryd.checked os 6 .any ((OpenSpec.ofChange Rows.evalTurnsSpec).preRow enc Tryd.prog Tryd.f6 Rows.evalTurnsRow.domain false Rows.evalTurnsRow.laid) (((OpenSpec.ofChange Rows.evalTurnsSpec).at F).post enc Tryd.prog Tryd.f6 false true false false) := by
  obtain ⟨places, hx⟩ := evalTurns_reads os enc
  refine returnsInHanded_of_row (C := Tryd.checked) (s := OpenSpec.ofChange Rows.evalTurnsSpec) own started (by kernel_rfl) Tryd.func6
    (witness_row_at (enc := enc) (C := Tryd.checked) false (evalTurnsWorld os) #[.slice none 0 0, .slice none 0 0, .agg #[.int .i64 0, .int .i64 0, .int .i64 0]] rfl (by kernel_rfl) (by kernel_rfl) (by kernel_rfl)
      (OpenSpec.preRow_of_cond 8 hx (by kernel_rfl) (fun k hk => by cases hk) (by kernel_rfl) (evalTurns_met os))) ?_
  intro W base args ds gs before hval hW _ _ hsz hL _ _
  exact evalTurns_contract H enc W base args ds gs before hval hW hsz hL

theorem evalTurns_said : Rows.EvalTurnsSaid :=
  OpenClaim.holds_of_cond 6 Tryd.f6 rfl rfl rfl rfl rfl rfl rfl ⟨rfl, rfl, rfl, rfl, rfl⟩ rfl rfl rfl rfl rfl (by kernel_rfl) Tryd.func6 (by kernel_rfl)
    (of_decide_eq_true (by kernel_rfl)) (by unfold Func.isWrapper; first | (rw [if_pos (by decide +kernel)]; kernel_rfl) | (rw [if_neg (by decide +kernel)]; exact ⟨rfl, rfl⟩))
    (fun os started H enc _ F => by rw [OpenClaim.pre_eq_preRow]; exact evalTurns_lifted os started H enc F)

theorem evalTurns_plain (f : FuncId) (fn : Func) (hf : Tryd.pinned.checked.prog.funcNamed "foretell/foretellkeep.EvalTurns" = some f) (hfn : Tryd.pinned.checked.prog.funcs[f]? = some fn) :
    true = Tryd.pinned.checked.prog.looks [] ∧ ∀ (j : Nat) t, fn.params[j]? = some t → Tryd.pinned.checked.prog.wantsStandIn t = false := by
  obtain rfl : f = 6 := Option.some.inj ((show Tryd.prog.funcNamed "foretell/foretellkeep.EvalTurns" = some 6 by kernel_rfl).symm.trans hf) |>.symm
  obtain rfl : fn = Tryd.f6 := (Option.some.inj (Tryd.func6.symm.trans hfn)).symm
  refine ⟨by kernel_rfl, fun j t ht => ?_⟩
  rw [Tryd.params6] at ht
  have ht' := Array.mem_of_getElem? ht
  simp only [List.mem_toArray, List.mem_cons, List.not_mem_nil, or_false] at ht'
  rcases ht' with rfl | rfl | rfl
  · exact (show Tryd.prog.wantsStandIn 34 = false by kernel_rfl)
  · exact (show Tryd.prog.wantsStandIn 34 = false by kernel_rfl)
  · exact (show Tryd.prog.wantsStandIn 35 = false by kernel_rfl)

/-- THE CARD. -/
theorem evalTurns_card : Rows.EvalTurnsCardSaid :=
  Claim7.holds_tied_plain_at .later [] _ _ _ _ evalTurns_said (fun _ h => by cases h) (by kernel_rfl) (fun _ h => by cases h) evalTurns_row_tie rfl ⟨rfl, rfl⟩ (by kernel_rfl) rfl evalTurns_plain (by kernel_rfl)
#print axioms evalTurns_card
end Go.Proofs.YtlmghhfpoeocnaaDoor
