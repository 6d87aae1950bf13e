/-
  A model of two variables that the keeping laws make: what the program answers of it.
-/
import Derived.Test.YtafbnmiipfkohaaGreatDoorGrownRules
import Derived.Test.YtafbnmiipfkohaaGreatDoorMCode
import Derived.Test.YtafbnmiipfkohaaGreatDoorMValues
import Derived.Test.YtafbnmiipfkohaaGreatDoorMFirst
namespace Go.Proofs.YtafbnmiipfkohaaGreatDoor
open Go.ChangeShapes Go.WideShapes Go.ChangeAt Go.RowKit Go.Deep
open Terms Tm

/-- two variables as Model makes them. -/
structure GV (a b : Vr) : Prop where
  na : a.name = bX
  nb : b.name = bY
  a0 : -1 ≤ a.lo
  a1 : a.lo ≤ 1
  a2 : a.lo ≤ a.hi
  a3 : a.hi ≤ a.lo + 3
  a4 : a.lo ≤ a.ini
  a5 : a.ini ≤ a.hi
  b0 : -1 ≤ b.lo
  b1 : b.lo ≤ 1
  b2 : b.lo ≤ b.hi
  b3 : b.hi ≤ b.lo + 3
  b4 : b.lo ≤ b.ini
  b5 : b.ini ≤ b.hi
set_option maxRecDepth 20000 in
theorem gvars_gv (sp0 sp1 lw0 lw1 iv0 iv1 : Int) : ∃ a b, gvars sp0 sp1 lw0 lw1 iv0 iv1 = [a, b] ∧ GV a b := by
  obtain ⟨p0, p1, p2, p3, p4, p5⟩ := gvar_bounds bX sp0 lw0 iv0
  obtain ⟨q0, q1, q2, q3, q4, q5⟩ := gvar_bounds bY sp1 lw1 iv1
  exact ⟨_, _, rfl, ⟨rfl, rfl, p0, p1, p2, p3, p4, p5, q0, q1, q2, q3, q4, q5⟩⟩
set_option maxRecDepth 20000 in
theorem GV.sa {a b : Vr} (h : GV a b) : 1 ≤ vspan a ∧ vspan a ≤ 4 := by
  have := h.a2; have := h.a3
  unfold vspan; omega
set_option maxRecDepth 20000 in
theorem GV.sb {a b : Vr} (h : GV a b) : 1 ≤ vspan b ∧ vspan b ≤ 4 := by
  have := h.b2; have := h.b3
  unfold vspan; omega
set_option maxRecDepth 20000 in
theorem GV.prod {a b : Vr} (h : GV a b) : 1 ≤ vspan a * vspan b ∧ vspan a * vspan b ≤ 16 := by
  have h1 := h.sa; have h2 := h.sb
  have h3 := Int.mul_le_mul h1.1 h2.1 (by omega) (by omega)
  have h4 := Int.mul_le_mul h1.2 h2.2 (by omega) (by omega)
  omega
set_option maxRecDepth 20000 in
theorem metXY {a b : Vr} (h : GV a b) (l : List Vr) : metName (a :: b :: l) 1 b.name = false := by
  show (decide (a.name = b.name) || false) = false
  rw [h.na, h.nb]
  simp [bXY]
set_option maxRecDepth 20000 in
/-- the first two variables pass. -/
theorem GV.vAt {a b : Vr} (h : GV a b) (l : List Vr) : vAt (a :: b :: l) 0 = 0 ∧ vAt (a :: b :: l) 1 = 0 := by
  have h1 := h.sa; have h2 := h.sb
  obtain ⟨na, nb, p0, p1, p2, p3, p4, p5, q0, q1, q2, q3, q4, q5⟩ := h
  have v0 : vbound a = true := by simp only [vbound, decide_eq_true_eq]; omega
  have v1 : vbound b = true := by simp only [vbound, decide_eq_true_eq]; omega
  refine ⟨(vAt_eq (l := a :: b :: l) (k := 0) rfl rfl).2.2.2.2 (by rw [show ((a :: b :: l).getD 0 vr0).name = bX from na]; exact name_bX) rfl v0 ?_, (vAt_eq (l := a :: b :: l) (k := 1) rfl rfl).2.2.2.2 (by rw [show ((a :: b :: l).getD 1 vr0).name = bY from nb]; exact name_bY) (metXY ⟨na, nb, p0, p1, p2, p3, p4, p5, q0, q1, q2, q3, q4, q5⟩ l) v1 ?_⟩
  · show ¬ (64 < vspan a ∨ 4096 < 1 * vspan a)
    omega
  · show ¬ (64 < vspan b ∨ 4096 < (1 * vspan a) * vspan b)
    rw [Int.one_mul]
    have := Int.mul_le_mul h1.2 h2.2 (by omega) (by omega)
    omega
set_option maxRecDepth 20000 in
theorem GV.vcode {a b : Vr} (h : GV a b) : vcode [a, b] = 0 := by
  unfold Go.Proofs.YtafbnmiipfkohaaGreatDoor.vcode
  rw [if_neg (by simp)]
  refine firstOf_none fun j hj => ?_
  have hj2 : j = 0 ∨ j = 1 := by simp at hj; omega
  rcases hj2 with rfl | rfl
  · exact (h.vAt []).1
  · exact (h.vAt []).2
set_option maxRecDepth 20000 in
theorem GV.mcode {a b : Vr} (h : GV a b) {rules : List Ru} (h5 : rules.length ≤ 12) (hr : ∀ j, j < rules.length → rcode 2 (rules.getD j ru0) = 0) : mcode ⟨[a, b], rules⟩ = 0 := by
  unfold Go.Proofs.YtafbnmiipfkohaaGreatDoor.mcode
  rw [if_pos h.vcode, if_neg (show ¬ 12 < rules.length by omega)]
  exact firstOf_none hr
set_option maxRecDepth 20000 in
theorem prod_two (a b : Vr) : prodTo [a, b] 2 = vspan a * vspan b := by
  show (1 * vspan a) * vspan b = _
  rw [Int.one_mul]
set_option maxRecDepth 20000 in
theorem seg_two (a b : Vr) : segP [a, b] 1 = vspan b ∧ segP [a, b] 2 = 1 := by
  refine ⟨?_, segP_end _⟩
  rw [segP_step (i := 1) (by simp), show segP [a, b] (1 + 1) = 1 from segP_end [a, b]]
  show vspan b * 1 = _
  rw [Int.mul_one]
set_option maxRecDepth 20000 in
theorem val_zero {a b : Vr} (h : GV a b) {c : Int} (h0 : 0 ≤ c) (h1 : c < vspan a * vspan b) : valAt [a, b] c 0 = a.lo + c / vspan b := by
  have hs := h.sb
  show a.lo + (c / segP [a, b] 1) % vspan a = _
  rw [(seg_two a b).1, Int.emod_eq_of_lt (Int.ediv_nonneg h0 (by omega)) (Int.ediv_lt_of_lt_mul (by omega) h1)]
set_option maxRecDepth 20000 in
theorem val_one {a b : Vr} {c : Int} : valAt [a, b] c 1 = b.lo + c % vspan b := by
  show b.lo + (c / segP [a, b] 2) % vspan b = _
  rw [(seg_two a b).2, Int.ediv_one]
/-- the values of a code. -/
def cvals (a b : Vr) (c : Int) : List Int := [a.lo + c / vspan b, b.lo + c % vspan b]
set_option maxRecDepth 20000 in
theorem cvals_in {a b : Vr} (h : GV a b) {c : Int} (h0 : 0 ≤ c) (h1 : c < vspan a * vspan b) : (0 ≤ c / vspan b ∧ a.lo + c / vspan b ≤ a.hi) ∧ 0 ≤ c % vspan b ∧ b.lo + c % vspan b ≤ b.hi := by
  have hs := h.sb
  have h2 := Int.ediv_nonneg h0 (show 0 ≤ vspan b by omega)
  have h3 := Int.ediv_lt_of_lt_mul (show 0 < vspan b by omega) h1
  have h4 := Int.emod_nonneg c (show vspan b ≠ 0 by omega)
  have h5 := Int.emod_lt_of_pos c (show 0 < vspan b by omega)
  generalize c / vspan b = q at *
  generalize c % vspan b = r at *
  unfold vspan at *
  omega
set_option maxRecDepth 20000 in
theorem cvals_code (b : Vr) (c : Int) : c / vspan b * vspan b + c % vspan b = c := Int.ediv_mul_add_emod c _
set_option maxRecDepth 20000 in
/-- codes grow with the first value, then with the second. -/
theorem lex {s x y : Int} (hs : 0 < s) : x < y ↔ x / s < y / s ∨ x / s = y / s ∧ x % s < y % s := by
  have hx := Int.ediv_mul_add_emod x s
  have hy := Int.ediv_mul_add_emod y s
  have hx0 := Int.emod_nonneg x (show s ≠ 0 by omega)
  have hx1 := Int.emod_lt_of_pos x hs
  have hy0 := Int.emod_nonneg y (show s ≠ 0 by omega)
  have hy1 := Int.emod_lt_of_pos y hs
  generalize x / s = p at *
  generalize y / s = q at *
  generalize x % s = u at *
  generalize y % s = v at *
  constructor
  · intro h
    by_cases hpq : p < q
    · exact .inl hpq
    · refine .inr ?_
      by_cases he : p = q
      · subst he; exact ⟨rfl, by omega⟩
      · exfalso
        have : (q + 1) * s ≤ p * s := Int.mul_le_mul_of_nonneg_right (by omega) (by omega)
        rw [Int.add_mul, Int.one_mul] at this
        omega
  · rintro (h | ⟨rfl, h⟩)
    · have : (p + 1) * s ≤ q * s := Int.mul_le_mul_of_nonneg_right (by omega) (by omega)
      rw [Int.add_mul, Int.one_mul] at this
      omega
    · omega

/-! ### what the program answers of it -/

section
variable {a b : Vr} {va vr : Value} {w : World}
set_option maxRecDepth 20000 in
theorem GModel.below {w w' : World} {va vr : Value} {l : List Vr} (h : GModel w va vr l) (hb : Below w.heap.size w w') : GModel w' va vr l := by
  obtain ⟨rules, h1, h2, h3⟩ := h
  exact ⟨rules, h1.below hb, h2, h3⟩
set_option maxRecDepth 20000 in
theorem GModel.shape {w : World} {va vr : Value} {x y : Vr} (h : GModel w va vr [x, y]) : ∃ ao cap ro rn rc, va = .slice ao 2 cap ∧ vr = .slice ro rn rc ∧ rn ≤ 5 := by
  obtain ⟨rules, h1, h2, h3⟩ := h
  obtain ⟨ao, cap, e1⟩ := h1.1.shape
  obtain ⟨ro, rc, e2⟩ := h1.2.shape
  exact ⟨ao, cap, ro, _, rc, e1, e2, h2⟩
set_option maxRecDepth 20000 in
theorem kcheck (hG : GV a b) (hB : 0 < w.heap.size) (hT : TabAt w) (hM : GModel w va vr [a, b]) :
    Calls Tryz.prog 21 #[.agg #[va, vr]] w fun e w' => e = .returned (.int .i64 0) ∧ Below w.heap.size w w' := by
  obtain ⟨rules, h1, h2, h3⟩ := hM
  have := mcheck_any va vr _ w hB hT h1
  rwa [hG.mcode (by omega) h3] at this
set_option maxRecDepth 20000 in
theorem kcount (hG : GV a b) (hB : 0 < w.heap.size) (hT : TabAt w) (hM : GModel w va vr [a, b]) :
    Calls Tryz.prog 7 #[.agg #[va, vr]] w fun e w' => e = .returned (.tuple #[.int .i64 (vspan a * vspan b), .int .i64 0]) ∧ Below w.heap.size w w' := by
  obtain ⟨rules, h1, h2, h3⟩ := hM
  have := mcount_any va vr _ w hB hT h1
  rw [hG.mcode (by omega) h3, if_pos rfl] at this
  rw [← prod_two]
  exact this
set_option maxRecDepth 20000 in
theorem kvalues (hG : GV a b) {c : Int} (hc : 0 ≤ c ∧ c < vspan a * vspan b) (hB : 0 < w.heap.size) (hT : TabAt w) (hM : GModel w va vr [a, b]) :
    Calls Tryz.prog 43 #[.agg #[va, vr], .int .i64 c] w fun e w' => ∃ B, e = .returned (.tuple #[.slice (some ⟨B, 0, none⟩) 2 2, .int .i64 0]) ∧ w.heap.size ≤ B ∧ Below w.heap.size w w' ∧ w'.rowIs B 3 2 (fun j => .int .i64 ((cvals a b c).getD j 0)) := by
  obtain ⟨rules, h1, h2, h3⟩ := hM
  refine (mvalues_loop va vr _ c w hB hT h1 (hG.mcode (by omega) h3) ⟨hc.1, by show c < prodTo [a, b] 2; rw [prod_two]; exact hc.2⟩).mono fun e w' ⟨B, he, hl, hb, hr⟩ => ⟨B, he, hl, hb, hr.congr fun j hj => ?_⟩
  have hj2 : j = 0 ∨ j = 1 := by simp at hj; omega
  rcases hj2 with rfl | rfl
  · show Value.int .i64 (valAt [a, b] c 0) = _
    rw [val_zero hG hc.1 hc.2]; rfl
  · show Value.int .i64 (valAt [a, b] c 1) = _
    rw [val_one]; rfl
set_option maxRecDepth 20000 in
theorem kvalues_out (hG : GV a b) {c : Int} (hc : ¬ (0 ≤ c ∧ c < vspan a * vspan b)) (hB : 0 < w.heap.size) (hT : TabAt w) (hM : GModel w va vr [a, b]) :
    Calls Tryz.prog 43 #[.agg #[va, vr], .int .i64 c] w fun e w' => ∃ v, e = .returned (.tuple #[v, .int .i64 9]) ∧ Below w.heap.size w w' := by
  obtain ⟨rules, h1, h2, h3⟩ := hM
  have hm := hG.mcode (by omega) h3
  have := mvalues_any va vr _ c w hB hT h1
  rw [wcode_no hm (by show ¬ (0 ≤ c ∧ c < prodTo [a, b] 2); rw [prod_two]; exact hc)] at this
  exact this.mono fun e w' ⟨v, he, hb, _⟩ => ⟨v, he, hb⟩
set_option maxRecDepth 20000 in
theorem kcodes (hG : GV a b) {x y : Int} {vv : Value} (hx : a.lo ≤ x ∧ x ≤ a.hi) (hy : b.lo ≤ y ∧ y ≤ b.hi) (hB : 0 < w.heap.size) (hT : TabAt w) (hM : GModel w va vr [a, b]) (hI : IntsV w vv [x, y]) :
    Calls Tryz.prog 67 #[.agg #[va, vr], vv] w fun e w' => e = .returned (.tuple #[.int .i64 ((x - a.lo) * vspan b + (y - b.lo)), .int .i64 0]) ∧ Below w.heap.size w w' := by
  obtain ⟨rules, h1, h2, h3⟩ := hM
  have hm := hG.mcode (by omega) h3
  have h4 := mcodes_any va vr vv _ [x, y] w hB hT h1 hI
  have h5 : ccode ⟨[a, b], rules⟩ [x, y] = 0 := ccode_yes hm ⟨rfl, fun i hi => by
    have hj2 : i = 0 ∨ i = 1 := by simp at hi; omega
    rcases hj2 with rfl | rfl
    · exact hx
    · exact hy⟩
  have h6 : cval ⟨[a, b], rules⟩ [x, y] = (x - a.lo) * vspan b + (y - b.lo) := by
    unfold cval
    rw [h5, if_pos rfl]
    show (0 * vspan a + (x - a.lo)) * vspan b + (y - b.lo) = _
    rw [Int.zero_mul, Int.zero_add]
  rw [h5, h6] at h4
  exact h4
set_option maxRecDepth 20000 in
theorem kcodes_out (hG : GV a b) {l : List Int} {vv : Value} (hl : ¬ (l.length = 2 ∧ (a.lo ≤ l.getD 0 0 ∧ l.getD 0 0 ≤ a.hi) ∧ b.lo ≤ l.getD 1 0 ∧ l.getD 1 0 ≤ b.hi)) (hB : 0 < w.heap.size) (hT : TabAt w) (hM : GModel w va vr [a, b]) (hI : IntsV w vv l) :
    Calls Tryz.prog 67 #[.agg #[va, vr], vv] w fun e w' => ∃ x, e = .returned (.tuple #[.int .i64 x, .int .i64 9]) ∧ Below w.heap.size w w' := by
  obtain ⟨rules, h1, h2, h3⟩ := hM
  have hm := hG.mcode (by omega) h3
  have h4 := mcodes_any va vr vv _ l w hB hT h1 hI
  rw [ccode_no hm (fun ⟨e1, e2⟩ => hl ⟨e1, e2 0 (by simp), e2 1 (by simp)⟩)] at h4
  exact h4.mono fun e w' ⟨he, hb⟩ => ⟨_, he, hb⟩
set_option maxRecDepth 20000 in
theorem kfirst (hG : GV a b) (hB : 0 < w.heap.size) (hT : TabAt w) (hM : GModel w va vr [a, b]) :
    Calls Tryz.prog 51 #[.agg #[va, vr]] w fun e w' => e = .returned (.tuple #[.int .i64 ((a.ini - a.lo) * vspan b + (b.ini - b.lo)), .int .i64 0]) ∧ Below w.heap.size w w' := by
  obtain ⟨rules, h1, h2, h3⟩ := hM
  have hm := hG.mcode (by omega) h3
  have h4 := mfirst_any va vr _ w hB hT h1
  rw [hm, if_pos rfl] at h4
  have h6 : codeTo [a, b] (initsL [a, b]) 2 = (a.ini - a.lo) * vspan b + (b.ini - b.lo) := by
    show (0 * vspan a + (a.ini - a.lo)) * vspan b + (b.ini - b.lo) = _
    rw [Int.zero_mul, Int.zero_add]
  rw [← h6]
  exact h4
set_option maxRecDepth 20000 in
/-- the code of a code's values is the code. -/
theorem kback (hG : GV a b) {c : Int} {vv : Value} (hc : 0 ≤ c ∧ c < vspan a * vspan b) (hB : 0 < w.heap.size) (hT : TabAt w) (hM : GModel w va vr [a, b]) (hI : IntsV w vv (cvals a b c)) :
    Calls Tryz.prog 67 #[.agg #[va, vr], vv] w fun e w' => e = .returned (.tuple #[.int .i64 c, .int .i64 0]) ∧ Below w.heap.size w w' := by
  obtain ⟨⟨h1, h2⟩, h3, h4⟩ := cvals_in hG hc.1 hc.2
  have h5 := kcodes hG (x := a.lo + c / vspan b) (y := b.lo + c % vspan b) (vv := vv) ⟨by omega, h2⟩ ⟨by omega, h4⟩ hB hT hM hI
  have h6 := cvals_code b c
  rwa [show (a.lo + c / vspan b - a.lo) * vspan b + (b.lo + c % vspan b - b.lo) = c by
    rw [show a.lo + c / vspan b - a.lo = c / vspan b by omega]; omega] at h5
set_option maxRecDepth 20000 in
theorem kstore {W2 w4 : World} {B i : Nat} {f : Nat → Value} {v : Value} (hb : Below W2.heap.size W2 w4) (hBs : W2.heap.size ≤ B) (hr : w4.rowIs B 3 2 f) :
    Below W2.heap.size W2 (w4.setCell ⟨B, i, none⟩ v).drew.drew ∧ (w4.setCell ⟨B, i, none⟩ v).drew.drew.rowIs B 3 2 (fun j => if j = i then v else f j) :=
  ⟨((hb.setCell hBs v).drew).drew, (hr.set i v).drew.drew⟩
set_option maxRecDepth 20000 in
theorem kstore1 {W2 w4 : World} {B i : Nat} {f : Nat → Value} {v : Value} (hb : Below W2.heap.size W2 w4) (hBs : W2.heap.size ≤ B) (hr : w4.rowIs B 3 2 f) :
    Below W2.heap.size W2 (w4.setCell ⟨B, i, none⟩ v).drew ∧ (w4.setCell ⟨B, i, none⟩ v).drew.rowIs B 3 2 (fun j => if j = i then v else f j) :=
  ⟨(hb.setCell hBs v).drew, (hr.set i v).drew⟩
set_option maxRecDepth 20000 in
theorem kints {w : World} {B : Nat} {x y : Int} {f : Nat → Value} (h : w.rowIs B 3 2 f) (h0 : f 0 = .int .i64 x) (h1 : f 1 = .int .i64 y) : IntsV w (.slice (some ⟨B, 0, none⟩) 2 2) [x, y] :=
  ⟨some ⟨B, 0, none⟩, 2, rfl, fun _ => ⟨B, 0, rfl, h.lt, fun i hi => by
    have hj2 : i = 0 ∨ i = 1 := by simp at hi; omega
    rcases hj2 with rfl | rfl
    · rw [Nat.zero_add, h.cell (by omega), h0]; rfl
    · rw [Nat.zero_add, h.cell (by omega), h1]; rfl⟩⟩
set_option maxRecDepth 20000 in
theorem kone {w : World} {B : Nat} {x y : Int} (h : IntsV w (.slice (some ⟨B, 0, none⟩) 2 2) [x, y]) : IntsV w (.slice (some ⟨B, 0, none⟩) 1 2) [x] := by
  obtain ⟨p, off, e, hp, hc⟩ := h.at (i := 0) (by simp)
  exact ⟨some ⟨B, 0, none⟩, 2, rfl, fun _ => ⟨p, off, e, hp, fun i hi => by
    obtain rfl : i = 0 := by simpa using hi
    exact hc⟩⟩
set_option maxRecDepth 20000 in
theorem kcvals {w : World} {B : Nat} {c : Int} (h : w.rowIs B 3 2 (fun j => .int .i64 ((cvals a b c).getD j 0))) : IntsV w (.slice (some ⟨B, 0, none⟩) 2 2) (cvals a b c) := kints h rfl rfl
set_option maxRecDepth 20000 in
/-- the world with the model in its block, and what stays from there on. -/
theorem kept {w w1 : World} {o : Obj} {va vr : Value} {t : TypeId} (hT : ∀ w', Below w.heap.size w w' → 0 < w'.heap.size ∧ TabAt w') (hb1 : Below w.heap.size w w1) (hM : GModel w1 va vr [a, b]) (ho : o = .cells #[va, vr] t) :
    Below w.heap.size w (w1.alloc o) ∧ ∀ w', Below (w1.alloc o).heap.size (w1.alloc o) w' → (0 < w'.heap.size ∧ TabAt w' ∧ GModel w' va vr [a, b]) ∧ w'.cell? ⟨w1.heap.size, 0, none⟩ = some va ∧ w'.cell? ⟨w1.heap.size, 1, none⟩ = some vr := by
  have hA : Below w1.heap.size w1 (w1.alloc o) := (Below.refl _ _).alloc (Nat.le_refl _) o
  have hA2 := hb1.trans (hA.mono hb1.size)
  refine ⟨hA2, fun w' hb => ?_⟩
  have h1 := hT w' (hA2.trans (hb.mono hA2.size))
  subst ho
  refine ⟨⟨h1.1, h1.2, (hM.below hA).below hb⟩, ?_, ?_⟩
  · rw [hb.cell (p := ⟨w1.heap.size, 0, none⟩) (by simp)]; simp [go_sem]
  · rw [hb.cell (p := ⟨w1.heap.size, 1, none⟩) (by simp)]; simp [go_sem]
set_option maxRecDepth 20000 in
theorem kvars {w : World} {ao : Option Addr} {cap : Nat} {vr : Value} (h : GModel w (.slice ao 2 cap) vr [a, b]) : ∃ p off, ao = some ⟨p, off, none⟩ ∧ p < w.heap.size ∧ VarAt w p off a ∧ VarAt w p (off + 4) b := by
  obtain ⟨rules, h1, _, _⟩ := h
  obtain ⟨p, off, rfl, hp, h2⟩ := h1.1.at (i := 0) (by simp)
  obtain ⟨p', off', he, _, h3⟩ := h1.1.at (i := 1) (by simp)
  obtain ⟨rfl, rfl⟩ : p = p' ∧ off = off' := by injection he with he; injection he with h1 h2 h3; exact ⟨h1, h2⟩
  exact ⟨p, off, rfl, hp, by simpa using h2, by simpa using h3⟩
set_option maxRecDepth 20000 in
theorem first_in (hG : GV a b) : (0 ≤ (a.ini - a.lo) * vspan b + (b.ini - b.lo) ∧ (a.ini - a.lo) * vspan b + (b.ini - b.lo) < vspan a * vspan b) ∧ cvals a b ((a.ini - a.lo) * vspan b + (b.ini - b.lo)) = [a.ini, b.ini] := by
  have hs := hG.sb
  obtain ⟨na, nb, p0, p1, p2, p3, p4, p5, q0, q1, q2, q3, q4, q5⟩ := hG
  have hb1 : b.ini - b.lo < vspan b := by unfold vspan; omega
  have h1 : 0 ≤ (a.ini - a.lo) * vspan b := Int.mul_nonneg (by omega) (by omega)
  have h2 : (a.ini - a.lo + 1) * vspan b ≤ vspan a * vspan b := Int.mul_le_mul_of_nonneg_right (by unfold vspan; omega) (by omega)
  rw [Int.add_mul, Int.one_mul] at h2
  refine ⟨⟨by omega, by omega⟩, ?_⟩
  have hd : ((a.ini - a.lo) * vspan b + (b.ini - b.lo)) / vspan b = a.ini - a.lo := by
    rw [Int.add_comm, Int.add_mul_ediv_right _ _ (by omega), Int.ediv_eq_zero_of_lt (by omega) hb1, Int.zero_add]
  have hm : ((a.ini - a.lo) * vspan b + (b.ini - b.lo)) % vspan b = b.ini - b.lo := by
    rw [Int.add_comm, Int.add_mul_emod_self_right, Int.emod_eq_of_lt (by omega) hb1]
  unfold cvals
  rw [hd, hm, show a.lo + (a.ini - a.lo) = a.ini by omega, show b.lo + (b.ini - b.lo) = b.ini by omega]
end
end Go.Proofs.YtafbnmiipfkohaaGreatDoor
