/-
  Joined out of PSign, PSpots, States, CodeRes, ValRes, Pairs, At, At2, At3, At4, Eval, Steps, ShelfClone, Eval2, MCount, MCode, StepRule, MValues, StepAfter, in their order: a claim bears at most so many files.
-/
import Derived.Test.YtdlpmomohbdpgaaGreatDoorLateA
import Derived.Test.YtdlpmomohbdpgaaGreatDoorOwns
import Derived.Test.YtdlpmomohbdpgaaGreatDoorModels
import Derived.Test.YtdlpmomohbdpgaaGreatDoorIntsOf
import Derived.Deep.OwnRows
import Derived.Test.YtdlpmomohbdpgaaGreatDoorMem
import Derived.Test.YtdlpmomohbdpgaaGreatDoorTrees
import Derived.Maps.Own
import Derived.Deep.RegionHeld3
import Derived.Deep.DrawnRows
import Derived.Deep.RegionHeld2
import Derived.Test.YtdlpmomohbdpgaaGreatDoorExpr3
import Derived.Ground.Names2Prog
import Derived.Shelf.Slices.Clone
import Derived.Lib.OwnBridge
import Derived.Laws.OwnMore
import Derived.Test.YtdlpmomohbdpgaaGreatDoorMCheck2
/-
  What of a moment counts for whether it may follow another one: its sign.
-/
namespace Go.Proofs.YtdlpmomohbdpgaaGreatDoor
open Go.ChangeShapes Go.WideShapes Go.ChangeAt Go.RowKit Go.Deep
open Terms

/-- the place that is asked at the next moment. -/
def askP (l : List (Int × Int)) (p : Nat) : Nat := if (l.getD p (0, 0)).1 = 14 then p + 1 else p
def signTo (l : List (Int × Int)) (g : Nat → Bool) : Nat → Int
  | 0 => 0
  | k + 1 => signTo l g k + if g (askP l ((aheadL l).getD k 0).toNat) = true then 2 ^ k else 0
def signN (l : List (Int × Int)) (g : Nat → Bool) : Int := signTo l g (aheadL l).length
theorem signTo_bounds (l : List (Int × Int)) (g : Nat → Bool) : ∀ k, 0 ≤ signTo l g k ∧ signTo l g k < 2 ^ k := by
  intro k
  induction k with
  | zero => simp [signTo]
  | succ k ih =>
    have h2 : (0 : Int) < 2 ^ k := Int.pow_pos (by decide)
    rw [signTo, Int.pow_succ]
    split <;> omega
theorem sign_inj {l : List (Int × Int)} {g g' : Nat → Bool} : ∀ {k : Nat}, signTo l g k = signTo l g' k → ∀ j, j < k → g (askP l ((aheadL l).getD j 0).toNat) = g' (askP l ((aheadL l).getD j 0).toNat)
  | 0, _, j, hj => by omega
  | k + 1, h, j, hj => by
    obtain ⟨a0, a1⟩ := signTo_bounds l g k
    obtain ⟨b0, b1⟩ := signTo_bounds l g' k
    have h2 : (0 : Int) < 2 ^ k := Int.pow_pos (by decide)
    rw [signTo, signTo] at h
    rcases (show j < k ∨ j = k by omega) with h3 | h3
    · refine sign_inj (k := k) ?_ j h3
      split at h <;> split at h <;> omega
    · subst h3
      generalize g (askP l ((aheadL l).getD j 0).toNat) = x at h ⊢
      generalize g' (askP l ((aheadL l).getD j 0).toNat) = y at h ⊢
      cases x <;> cases y
      · rfl
      · rw [if_neg (by simp), if_pos rfl] at h; omega
      · rw [if_pos rfl, if_neg (by simp)] at h; omega
      · rfl
theorem ahead_pre (l : List (Int × Int)) : ∀ (d n : Nat), ∃ r, aheadTo l (n + d) = aheadTo l n ++ r := by
  intro d
  induction d with
  | zero => exact fun n => ⟨[], by simp⟩
  | succ d ih =>
    intro n
    obtain ⟨r, hr⟩ := ih n
    refine ⟨r ++ (if lookB (l.getD (n + d) (0, 0)).1 = true then [((n + d : Nat) : Int)] else []), ?_⟩
    rw [show n + (d + 1) = (n + d) + 1 by omega, aheadTo, hr, List.append_assoc]
theorem ahead_spot {l : List (Int × Int)} {p : Nat} (hp : p < l.length) (hb : lookB (l.getD p (0, 0)).1 = true) : (aheadTo l p).length < (aheadL l).length ∧ (aheadL l).getD (aheadTo l p).length 0 = (p : Int) := by
  have h1 := aheadTo_lt l hp hb
  refine ⟨h1, ?_⟩
  obtain ⟨r, hr⟩ := ahead_pre l (l.length - (p + 1)) (p + 1)
  rw [show p + 1 + (l.length - (p + 1)) = l.length by omega, aheadTo_yes hb] at hr
  unfold aheadL
  rw [hr, List.append_assoc]
  simp [List.getD_eq_getElem?_getD]
/-- moments of the same sign follow alike. -/
theorem fol_sign {l : List (Int × Int)} {h g g' : Nat → Bool} (e : signN l g = signN l g') : Fol l h g ↔ Fol l h g' := by
  have key : ∀ p, p < l.length → lookB (l.getD p (0, 0)).1 = true → comeAt l h g p = comeAt l h g' p := by
    intro p hp hb
    obtain ⟨h1, h2⟩ := ahead_spot hp hb
    have h3 := sign_inj e (aheadTo l p).length h1
    rw [h2] at h3
    simp only [Int.toNat_natCast] at h3
    unfold comeAt comeB
    unfold askP at h3
    have hk : 14 ≤ (l.getD p (0, 0)).1 ∧ (l.getD p (0, 0)).1 ≤ 18 := by simpa [lookB] using hb
    by_cases h14 : (l.getD p (0, 0)).1 = 14
    · rw [if_pos h14] at h3
      rw [h14, h3]
      simp
    · rw [if_neg h14] at h3
      rw [h3]
      have : (l.getD p (0, 0)).1 = 15 ∨ (l.getD p (0, 0)).1 = 16 ∨ (l.getD p (0, 0)).1 = 17 ∨ (l.getD p (0, 0)).1 = 18 := by omega
      rcases this with h5 | h5 | h5 | h5 <;> rw [h5] <;> simp
  refine ⟨fun H p hp hb => ?_, fun H p hp hb => ?_⟩
  · rw [H p hp hb, key p hp hb]
  · rw [H p hp hb, key p hp hb]
end Go.Proofs.YtdlpmomohbdpgaaGreatDoor

/-
  Spots in memory, and one more appended.
-/
namespace Go.Proofs.YtdlpmomohbdpgaaGreatDoor
open Go.ChangeShapes Go.WideShapes Go.ChangeAt Go.RowKit Go.Deep

theorem infoSpot : (Tryz.prog.info? 31).map (fun i => (i.zero, i.size, i.bytes)) = some (some (.agg #[.int .i64 0, .int .i64 0]), 2, 16) := by kernel_rfl
/-- a row of spots of the call's own. -/
def SpO (w : World) (base : Nat) (v : Value) (l : List (Int × Int)) : Prop := w.ownsRow base 31 2 v l.length (flat l)
theorem SpO.nil (w : World) (base : Nat) : SpO w base (.slice none 0 0) [] := World.ownsRow_nil _ _ _ _
theorem SpO.later {w w' : World} {base B : Nat} {v : Value} {l : List (Int × Int)} (h : SpO w base v l) (hb : Below B w w') (hB : w.heap.size ≤ B) : SpO w' base v l := owns_later h hb hB
theorem SpO.shape {w : World} {base : Nat} {v : Value} {l : List (Int × Int)} (h : SpO w base v l) : ∃ ao cap, v = .slice ao l.length cap := owns_slice h
/-- spots that are read. -/
def SpV (w : World) (v : Value) (l : List (Int × Int)) : Prop := ∃ ao cap, v = .slice ao l.length cap ∧ (l ≠ [] → ∃ b off, ao = some ⟨b, off, none⟩ ∧ b < w.heap.size ∧ OpsAt w b off l)
theorem SpV.nil (w : World) : SpV w (.slice none 0 0) [] := ⟨none, 0, rfl, fun h => absurd rfl h⟩
theorem SpV.below {w w' : World} {v : Value} {l : List (Int × Int)} (h : SpV w v l) (hb : Below w.heap.size w w') : SpV w' v l := by
  obtain ⟨ao, cap, rfl, h⟩ := h
  refine ⟨ao, cap, rfl, fun hne => ?_⟩
  obtain ⟨b, off, rfl, hlt, hat⟩ := h hne
  exact ⟨b, off, rfl, Nat.lt_of_lt_of_le hlt hb.size, fun i hi => ⟨(hb.cell (p := ⟨b, _, none⟩) hlt).trans (hat i hi).1, (hb.cell (p := ⟨b, _, none⟩) hlt).trans (hat i hi).2⟩⟩
theorem SpO.v {w : World} {base : Nat} {v : Value} {l : List (Int × Int)} (h : SpO w base v l) : SpV w v l := by
  rcases h.2 with ⟨rfl, h0⟩ | ⟨g, cap, cur, rfl, hb, hg, hnc, hcm, hcs, htake⟩
  · have : l = [] := by simpa using h0
    subst this
    exact SpV.nil w
  · refine ⟨_, cap, rfl, fun _ => ⟨g, 0, rfl, (Array.getElem?_eq_some_iff.1 hg).1, fun i hi => ?_⟩⟩
    obtain ⟨f0, f1⟩ := flat_get l i hi
    rw [World.ownsRow.cellAt h _ (by omega), World.ownsRow.cellAt h _ (by omega)]
    simpa using ⟨f0, f1⟩
section
variable {W : World}
/-- one more spot: 'append(out, s)'. -/
theorem push_sp {ops : Array Oper} {rest : List Oper} {o : Oper} {a : Act} {Q : Exit → Act → World → Prop} (y z : Int) (hgd : o.guard = none) (s x : Operand)
    (ho : o.op = .call { callee := .builtin .append, args := #[s, x], argTypes := #[32, 32] })
    (base n cap : Nat) (vo : Option Addr) (l : List (Int × Int)) (hl : l.length = n) (hs : a.eval s = .slice vo n cap) (hown : SpO W base (.slice vo n cap) l) (hx : a.eval x = .slice (some ⟨W.heap.size, 0, none⟩) 1 1)
    (hsz : (n + 1) * 16 ≤ 140737488355328) (hbase : base ≤ W.heap.size)
    (h : ∀ vo' cap' w', SpO w' base (.slice vo' (n + 1) cap') (l ++ [(y, z)]) → Below base W w' → (W.alloc (.cells #[.int .i64 y, .int .i64 z] 31)).grownBy w' (Value.slice vo n cap).ownBlock → wpList Tryz.prog ops Q rest (a.put o.dst (.slice vo' (n + 1) cap')) w') : wpList Tryz.prog ops Q (o :: rest) a (W.alloc (.cells #[.int .i64 y, .int .i64 z] 31)) := by
  subst hl
  obtain ⟨i0, hi, hz0, hz1, hz2⟩ := info_parts infoSpot
  have hown' : W.ownsRow base 31 2 (.slice vo l.length cap) l.length (flat l) := hown
  refine wpList_append_own _ hgd s x 32 ho base 31 i0 (.agg #[.int .i64 0, .int .i64 0]) 2 16 Tryz.underlying32 hi hz0 hz1 hz2 rfl (by decide) (.slice vo l.length cap) l.length (flat l) hs (hown'.alloc _) ⟨W.heap.size, 0, none⟩ 1 1 [.int .i64 y, .int .i64 z] hx rfl (two_new _ _ _ _) (by intro u hu; simp at hu; rcases hu with rfl | rfl <;> rfl) (by unfold maxLen; omega) hsz (Nat.le_trans hbase (by simp)) ?_
  intro v' w4 hown' hgrow _
  obtain ⟨a4, c4, rfl⟩ := owns_slice hown'
  refine h a4 c4 w4 ?_ (((Below.refl base W).alloc hbase _).grown hgrow (Nat.le_trans hbase (by simp)) (fun q hq => (World.ownsRow.lt hown q hq).1)) hgrow
  unfold SpO
  rw [flat_append, List.length_append]
  exact hown'
end
end Go.Proofs.YtdlpmomohbdpgaaGreatDoor

/-
  Plain mathematics of states and their codes. Nothing of the program is named here.
-/
namespace Go.Proofs.YtdlpmomohbdpgaaGreatDoor
open Terms Tm

theorem wr64 {x : Int} (h1 : -9223372036854775808 ≤ x) (h2 : x ≤ 9223372036854775807) : IntKind.i64.wrap x = x := by
  rw [IntWalk.i64_left]
  exact IntWalk.wrap64_in x ⟨h1, h2⟩
/-- the product of so many spans from a place on. -/
def prodSeg (l : List Vr) (a : Nat) : Nat → Int
  | 0 => 1
  | c + 1 => prodSeg l a c * vspan (l.getD (a + c) vr0)
theorem prodSeg_zero (l : List Vr) (i : Nat) : prodSeg l 0 i = prodTo l i := by
  induction i with
  | zero => rfl
  | succ i ih => simp only [prodSeg, prodTo, ih, Nat.zero_add]
theorem prodSeg_first (l : List Vr) (a c : Nat) : prodSeg l a (c + 1) = vspan (l.getD a vr0) * prodSeg l (a + 1) c := by
  induction c with
  | zero => simp [prodSeg]
  | succ c ih =>
    rw [prodSeg, ih, prodSeg, Int.mul_assoc, show a + (c + 1) = a + 1 + c by omega]
theorem prodTo_seg (l : List Vr) (a c : Nat) : prodTo l a * prodSeg l a c = prodTo l (a + c) := by
  induction c with
  | zero => simp [prodSeg]
  | succ c ih =>
    rw [prodSeg, ← Int.mul_assoc, ih]
    rfl
/-- what the variables from a place on make. -/
def segP (l : List Vr) (i : Nat) : Int := prodSeg l i (l.length - i)
theorem segP_step {l : List Vr} {i : Nat} (h : i < l.length) : segP l i = vspan (l.getD i vr0) * segP l (i + 1) := by
  unfold segP
  rw [show l.length - i = (l.length - (i + 1)) + 1 by omega, prodSeg_first]
theorem segP_end (l : List Vr) : segP l l.length = 1 := by simp [segP, prodSeg]
theorem segP_zero (l : List Vr) : segP l 0 = prodTo l l.length := by simp [segP, prodSeg_zero]
theorem prodSeg_pos {l : List Vr} (h : VarsOk l) {a c : Nat} (hc : a + c ≤ l.length) : 1 ≤ prodSeg l a c := by
  induction c with
  | zero => simp [prodSeg]
  | succ c ih =>
    have h1 := ih (by omega)
    have h2 := (h.at (j := a + c) (by omega)).1
    have := Int.mul_le_mul h1 h2 (by omega) (by omega)
    simpa [prodSeg] using this
theorem prodSeg_le {l : List Vr} (h : VarsOk l) {a c : Nat} (hc : a + c ≤ l.length) : prodSeg l a c ≤ 4096 := by
  have h1 := h.prod (j := a + c) hc
  have h2 := h.prod (j := a) (by omega)
  have h3 := prodSeg_pos h hc
  rw [← prodTo_seg] at h1
  have := Int.mul_le_mul h2.1 (Int.le_refl (prodSeg l a c)) (by omega) (by omega)
  omega
theorem segP_bounds {l : List Vr} (h : VarsOk l) {i : Nat} (hi : i ≤ l.length) : 1 ≤ segP l i ∧ segP l i ≤ 4096 := ⟨prodSeg_pos h (by omega), prodSeg_le h (by omega)⟩

/-! ### codes of values -/

def dig (l : List Vr) (vals : List Int) (i : Nat) : Int := vals.getD i 0 - (l.getD i vr0).lo
def inB (l : List Vr) (vals : List Int) (i : Nat) : Prop := (l.getD i vr0).lo ≤ vals.getD i 0 ∧ vals.getD i 0 ≤ (l.getD i vr0).hi
def codeTo (l : List Vr) (vals : List Int) : Nat → Int
  | 0 => 0
  | k + 1 => codeTo l vals k * vspan (l.getD k vr0) + dig l vals k
def sumTo (l : List Vr) (vals : List Int) : Nat → Int
  | 0 => 0
  | k + 1 => sumTo l vals k + dig l vals k * segP l (k + 1)
theorem dig_bounds {l : List Vr} {vals : List Int} (h : VarsOk l) {i : Nat} (hi : i < l.length) (hb : inB l vals i) : 0 ≤ dig l vals i ∧ dig l vals i < vspan (l.getD i vr0) ∧ dig l vals i ≤ 63 := by
  have := h.at hi
  unfold inB at hb
  unfold dig
  unfold vspan at *
  omega
theorem code_bounds {l : List Vr} {vals : List Int} (h : VarsOk l) {k : Nat} (hk : k ≤ l.length) (hb : ∀ i, i < k → inB l vals i) : 0 ≤ codeTo l vals k ∧ codeTo l vals k < prodTo l k := by
  induction k with
  | zero => simp [codeTo, prodTo]
  | succ k ih =>
    obtain ⟨h1, h2⟩ := ih (by omega) (fun i hi => hb i (by omega))
    obtain ⟨h3, h4, _⟩ := dig_bounds h (by omega) (hb k (by omega))
    have h5 := (h.at (j := k) (by omega)).1
    simp only [codeTo, prodTo]
    have h6 : 0 ≤ codeTo l vals k * vspan (l.getD k vr0) := Int.mul_nonneg h1 (by omega)
    have h7 : (codeTo l vals k + 1) * vspan (l.getD k vr0) ≤ prodTo l k * vspan (l.getD k vr0) := Int.mul_le_mul_of_nonneg_right (by omega) (by omega)
    rw [Int.add_mul, Int.one_mul] at h7
    omega
theorem sum_code {l : List Vr} {vals : List Int} {k : Nat} (hk : k ≤ l.length) : sumTo l vals k = codeTo l vals k * segP l k := by
  induction k with
  | zero => simp [sumTo, codeTo]
  | succ k ih =>
    simp only [sumTo, codeTo]
    rw [ih (by omega), segP_step (by omega), Int.add_mul, Int.mul_assoc]
theorem sum_all (l : List Vr) (vals : List Int) : sumTo l vals l.length = codeTo l vals l.length := by
  rw [sum_code (Nat.le_refl _), segP_end, Int.mul_one]
theorem sum_bounds {l : List Vr} {vals : List Int} (h : VarsOk l) {k : Nat} (hk : k ≤ l.length) (hb : ∀ i, i < k → inB l vals i) : 0 ≤ sumTo l vals k ∧ sumTo l vals k ≤ 4096 := by
  obtain ⟨h1, h2⟩ := code_bounds h hk hb
  obtain ⟨h3, h4⟩ := segP_bounds h hk
  have h5 := h.prod (j := l.length) (Nat.le_refl _)
  have h6 : prodTo l k * segP l k = prodTo l l.length := by unfold segP; rw [prodTo_seg, show k + (l.length - k) = l.length by omega]
  rw [sum_code hk]
  refine ⟨Int.mul_nonneg h1 (by omega), ?_⟩
  have h7 : codeTo l vals k * segP l k ≤ prodTo l k * segP l k := Int.mul_le_mul_of_nonneg_right (by omega) (by omega)
  omega

/-! ### values of codes -/

def valAt (l : List Vr) (code : Int) (i : Nat) : Int := (l.getD i vr0).lo + (code / segP l (i + 1)) % vspan (l.getD i vr0)
theorem quo_step {l : List Vr} (h : VarsOk l) (code : Int) {i : Nat} (hi : i < l.length) : code / segP l (i + 1) / vspan (l.getD i vr0) = code / segP l i := by
  have h1 := (segP_bounds h (i := i + 1) (by omega)).1
  rw [segP_step hi, Int.ediv_ediv_of_nonneg (by omega), Int.mul_comm]
theorem mod_div (x s p : Int) (hp : 0 < p) : (x % (s * p)) / p = (x / p) % s := by
  rw [Int.emod_def x (s * p), Int.emod_def (x / p) s, Int.ediv_ediv_of_nonneg (by omega), Int.mul_comm s p, Int.mul_assoc]
  rw [Int.sub_mul_ediv_left _ _ (by omega)]
theorem valAt_ref {l : List Vr} (h : VarsOk l) (code : Int) {i : Nat} (hi : i < l.length) : (l.getD i vr0).lo + (code % segP l i) / segP l (i + 1) = valAt l code i := by
  have h1 := (segP_bounds h (i := i + 1) (by omega)).1
  rw [segP_step hi, mod_div _ _ _ (by omega)]
  rfl
theorem mod_step {l : List Vr} (code : Int) {i : Nat} (hi : i < l.length) : (code % segP l i) % segP l (i + 1) = code % segP l (i + 1) := by
  rw [segP_step hi, Int.mul_comm, Int.emod_emod_of_dvd]
  exact ⟨_, rfl⟩
theorem valAt_in {l : List Vr} (h : VarsOk l) (code : Int) {i : Nat} (hi : i < l.length) : (l.getD i vr0).lo ≤ valAt l code i ∧ valAt l code i ≤ (l.getD i vr0).hi := by
  have h1 := (h.at hi).1
  have h2 := Int.emod_nonneg (code / segP l (i + 1)) (show vspan (l.getD i vr0) ≠ 0 by omega)
  have h3 := Int.emod_lt_of_pos (code / segP l (i + 1)) (show 0 < vspan (l.getD i vr0) by omega)
  unfold valAt
  unfold vspan at *
  omega
def valsL (l : List Vr) (code : Int) : List Int := (List.range l.length).map (valAt l code)
def initsL (l : List Vr) : List Int := l.map Vr.ini
theorem inits_in {l : List Vr} (h : VarsOk l) : ∀ i, i < l.length → inB l (initsL l) i := by
  intro i hi
  have := h.at hi
  unfold inB initsL
  rw [show (l.map Vr.ini).getD i 0 = (l.getD i vr0).ini by simp [List.getD_eq_getElem?_getD, hi]]
  omega
end Go.Proofs.YtdlpmomohbdpgaaGreatDoor

/-
  What Code answers; slices of numbers at a place.
-/
namespace Go.Proofs.YtdlpmomohbdpgaaGreatDoor
open Go.ChangeShapes Go.WideShapes Go.ChangeAt Go.RowKit Go.Deep
open Terms Tm

theorem IntsV.shape {w : World} {v : Value} {l : List Int} (h : IntsV w v l) : ∃ ao cap, v = .slice ao l.length cap := by
  obtain ⟨ao, cap, h1, _⟩ := h
  exact ⟨ao, cap, h1⟩
theorem IntsV.at {w : World} {ao : Option Addr} {cap n : Nat} {l : List Int} (h : IntsV w (.slice ao n cap) l) {i : Nat} (hi : i < l.length) : ∃ b off, ao = some ⟨b, off, none⟩ ∧ b < w.heap.size ∧ w.cell? ⟨b, off + i, none⟩ = some (.int .i64 (l.getD i 0)) := by
  obtain ⟨ao', cap', h1, h3⟩ := h
  injection h1 with e1 e2 e3
  subst e1
  obtain ⟨b, off, e, hb, hh⟩ := h3 (by intro h; subst h; simp at hi)
  exact ⟨b, off, e, hb, hh i hi⟩

open Classical in
/-- with what Code refuses. -/
noncomputable def ccode (m : Mo) (vals : List Int) : Int := if mcode m = 0 then (if vals.length = m.vars.length ∧ ∀ i, i < m.vars.length → inB m.vars vals i then 0 else 9) else mcode m
noncomputable def cval (m : Mo) (vals : List Int) : Int := if ccode m vals = 0 then codeTo m.vars vals m.vars.length else 0
theorem ccode_bad {m : Mo} {vals : List Int} (h : mcode m ≠ 0) : ccode m vals = mcode m := by unfold ccode; rw [if_neg h]
theorem ccode_no {m : Mo} {vals : List Int} (h : mcode m = 0) (h2 : ¬ (vals.length = m.vars.length ∧ ∀ i, i < m.vars.length → inB m.vars vals i)) : ccode m vals = 9 := by unfold ccode; rw [if_pos h, if_neg h2]
theorem ccode_yes {m : Mo} {vals : List Int} (h : mcode m = 0) (h2 : vals.length = m.vars.length ∧ ∀ i, i < m.vars.length → inB m.vars vals i) : ccode m vals = 0 := by unfold ccode; rw [if_pos h, if_pos h2]

end Go.Proofs.YtdlpmomohbdpgaaGreatDoor

/-
  What Values answers.
-/
namespace Go.Proofs.YtdlpmomohbdpgaaGreatDoor
open Go.ChangeShapes Go.WideShapes Go.ChangeAt Go.RowKit Go.Deep
open Terms Tm

/-- with what Values refuses. -/
noncomputable def wcode (m : Mo) (code : Int) : Int := if mcode m = 0 then (if 0 ≤ code ∧ code < prodTo m.vars m.vars.length then 0 else 9) else mcode m
theorem wcode_bad {m : Mo} {code : Int} (h : mcode m ≠ 0) : wcode m code = mcode m := by unfold wcode; rw [if_neg h]
theorem wcode_no {m : Mo} {code : Int} (h : mcode m = 0) (h2 : ¬ (0 ≤ code ∧ code < prodTo m.vars m.vars.length)) : wcode m code = 9 := by unfold wcode; rw [if_pos h, if_neg h2]
theorem wcode_yes {m : Mo} {code : Int} (h : mcode m = 0) (h2 : 0 ≤ code ∧ code < prodTo m.vars m.vars.length) : wcode m code = 0 := by unfold wcode; rw [if_pos h, if_pos h2]


theorem intsV_of_row {w : World} {B n : Nat} {f : Nat → Int} (h : w.rowIs B 3 n (fun j => .int .i64 (f j))) : IntsV w (.slice (some ⟨B, 0, none⟩) n n) ((List.range n).map f) := by
  refine ⟨some ⟨B, 0, none⟩, n, by simp, fun _ => ⟨B, 0, rfl, h.lt, fun i hi => ?_⟩⟩
  simp only [List.length_map, List.length_range] at hi
  rw [Nat.zero_add, h.cell hi]
  simp [List.getD_eq_getElem?_getD, hi]
/-- what Values answers. -/
noncomputable def wvals (m : Mo) (code : Int) : List Int := if wcode m code = 0 then valsL m.vars code else []
end Go.Proofs.YtdlpmomohbdpgaaGreatDoor

/-
  The contracts of package expr's pairMakers, of the functions that it hands out, and of tooGreat and truth.
-/
namespace Go.Proofs.YtdlpmomohbdpgaaGreatDoor
open Go.ChangeShapes Go.WideShapes Go.ChangeAt Go.RowKit Go.Deep Go.Maps
open Terms Tm

theorem tooGreat_any (x : Int) (w : World) :
    Calls Tryz.prog 112 #[.int .i64 x] w fun e w' => e = .returned (.bool (decide (¬ (-1000000 ≤ x ∧ x ≤ 1000000)))) ∧ w' = w := by
  by_cases h1 : x < -1000000
  · rw [show decide (¬ (-1000000 ≤ x ∧ x ≤ 1000000)) = true by simp; omega]
    go_enter Tryz.func112, Tryz.ntmps112
    go_wp2
    all_goals go_ret
    all_goals exact ⟨rfl, rfl⟩
  · by_cases h2 : 1000000 < x
    · rw [show decide (¬ (-1000000 ≤ x ∧ x ≤ 1000000)) = true by simp; omega]
      go_enter Tryz.func112, Tryz.ntmps112
      go_wp2
      all_goals go_ret
      all_goals exact ⟨rfl, rfl⟩
    · rw [show decide (¬ (-1000000 ≤ x ∧ x ≤ 1000000)) = false by simp; omega]
      go_enter Tryz.func112, Tryz.ntmps112
      go_wp2
      all_goals go_ret
      all_goals exact ⟨rfl, rfl⟩

theorem truth_fn (c : Bool) (w : World) :
    Calls Tryz.prog 131 #[.bool c] w fun e w' => e = .returned (.int .i64 (if c = true then 1 else 0)) ∧ w' = w := by
  cases c
  all_goals
    go_enter Tryz.func131, Tryz.ntmps131
    go_wp2
    all_goals go_ret
    all_goals exact ⟨rfl, rfl⟩

/-- which function stands at a kind. -/
def pairFn (k : Int) : Nat := if k = 3 then 127 else if k = 4 then 128 else if k = 5 then 129 else if k = 6 then 130 else if k = 7 then 132 else if k = 8 then 133 else 134

theorem abs_le {x : Int} (h : -1000000 ≤ x ∧ x ≤ 1000000) : x.natAbs ≤ 1000000 := by omega
theorem mul_le {x y : Int} (hx : -1000000 ≤ x ∧ x ≤ 1000000) (hy : -1000000 ≤ y ∧ y ≤ 1000000) : -1000000000000 ≤ x * y ∧ x * y ≤ 1000000000000 := by
  have h := Nat.mul_le_mul (abs_le hx) (abs_le hy)
  rw [← Int.natAbs_mul] at h
  omega
set_option maxHeartbeats 800000 in
set_option maxRecDepth 20000 in
theorem pair_any (k x y : Int) (w : World) (h3 : 3 ≤ k) (h9 : k ≤ 9) (hx : -1000000 ≤ x ∧ x ≤ 1000000) (hy : -1000000 ≤ y ∧ y ≤ 1000000) (ht : 8 ≤ k → (x = 0 ∨ x = 1) ∧ (y = 0 ∨ y = 1)) :
    Calls Tryz.prog (pairFn k) #[.int .i64 x, .int .i64 y] w fun e w' => e = .returned (.int .i64 (bin k x y)) ∧ w' = w := by
  have hk : k = 3 ∨ k = 4 ∨ k = 5 ∨ k = 6 ∨ k = 7 ∨ k = 8 ∨ k = 9 := by omega
  have hm := mul_le hx hy
  obtain ⟨hm1, hm2⟩ := hm
  obtain ⟨hx1, hx2⟩ := hx
  obtain ⟨hy1, hy2⟩ := hy
  clear h3 h9
  rcases hk with rfl | rfl | rfl | rfl | rfl | rfl | rfl
  · show Calls Tryz.prog 127 _ _ _
    clear ht
    go_enter Tryz.func127, Tryz.ntmps127
    go_wp2
    go_ret
    exact ⟨rfl, rfl⟩
  · show Calls Tryz.prog 128 _ _ _
    clear ht
    go_enter Tryz.func128, Tryz.ntmps128
    go_wp2
    go_ret
    exact ⟨rfl, rfl⟩
  · show Calls Tryz.prog 129 _ _ _
    clear ht
    go_enter Tryz.func129, Tryz.ntmps129
    go_wp2
    go_ret
    exact ⟨rfl, rfl⟩
  · show Calls Tryz.prog 130 _ _ _
    clear ht
    have htr := fun w => truth_fn (x == y) w
    have hb : bin 6 x y = if (x == y) = true then 1 else 0 := by simp [bin]
    rw [← hb] at htr
    generalize bin 6 x y = z at htr ⊢
    clear hb
    go_enter Tryz.func130, Tryz.ntmps130
    go_wp2_with (go_at_call 131; refine (htr _).mono ?_; rintro e w1 ⟨rfl, rfl⟩)
    go_ret
    exact ⟨rfl, rfl⟩
  · show Calls Tryz.prog 132 _ _ _
    clear ht
    by_cases hc : x < y
    · have htr := fun w => truth_fn true w
      have hb : bin 7 x y = 1 := by simp [bin, hc]
      rw [hb]
      clear hb
      go_enter Tryz.func132, Tryz.ntmps132
      go_wp2_with (go_at_call 131; refine (htr _).mono ?_; rintro e w1 ⟨rfl, rfl⟩)
      go_ret
      exact ⟨rfl, rfl⟩
    · have htr := fun w => truth_fn false w
      have hb : bin 7 x y = 0 := by simp [bin, hc]
      rw [hb]
      clear hb
      go_enter Tryz.func132, Tryz.ntmps132
      go_wp2_with (go_at_call 131; refine (htr _).mono ?_; rintro e w1 ⟨rfl, rfl⟩)
      go_ret
      exact ⟨rfl, rfl⟩
  · show Calls Tryz.prog 133 _ _ _
    obtain ⟨ha, hb⟩ := ht (by decide)
    clear ht hm1 hm2 hx1 hx2 hy1 hy2
    rcases ha with rfl | rfl <;> rcases hb with rfl | rfl
    all_goals
      go_enter Tryz.func133, Tryz.ntmps133
      go_wp2
      go_ret
      exact ⟨rfl, rfl⟩
  · show Calls Tryz.prog 134 _ _ _
    obtain ⟨ha, hb⟩ := ht (by decide)
    clear ht hm1 hm2 hx1 hx2 hy1 hy2
    rcases ha with rfl | rfl <;> rcases hb with rfl | rfl
    all_goals
      go_enter Tryz.func134, Tryz.ntmps134
      go_wp2
      go_ret
      exact ⟨rfl, rfl⟩

/-! ### the map of functions -/

/-- how a function without what it captured reads: by its number. -/
def fnElem : Value → Option (DataW Unit × List MemPlace)
  | .func (.func f) first cap => if first = #[] ∧ cap = #[] then some (.lit (.int .i64 f), []) else none
  | .nilFunc => some (.nil, [])
  | _ => none
theorem fnElem_inv {v : Value} {f : Nat} {ps : List MemPlace} (h : fnElem v = some (.lit (.int .i64 f), ps)) : v = .func (.func f) #[] #[] := by
  unfold fnElem at h
  split at h
  · split at h
    · rename_i hc
      obtain ⟨rfl, rfl⟩ := hc
      simp at h
      rw [Int.ofNat.inj h.1]
    · simp at h
  · simp at h
  · simp at h
/-- a function of the program is put into a map of the call's own. -/
theorem wpList_insert_own {H : Type} {P : Program} (w : World) {ops : Array Oper} {rest : List Oper} {o : Oper} {a : Act} {Q : Exit → Act → World → Prop}
    (hg : o.guard = none) (m x v : Operand) (t : TypeId) (hop : o.op = Op.insert t m x v)
    (k e : TypeId) (K : Keyed P k) (ht : P.underlying t = some (.map k e)) (R : Value → Option (DataW H × List MemPlace)) (b n : Nat) (D : DataW H)
    (hm : a.eval m = .map (some b)) (hown : w.ownsMap P k R b n D) (hn : n < maxLen) (key val : Value) (kl : Lit) (hx : a.eval x = key) (hv : a.eval v = val) (hkey : keyOf P k key = some kl)
    (d : DataW H) (ps : List MemPlace) (hval : R val = some (d, ps))
    (hK : ∀ w', w'.ownsMap P k R b (n + 1) (D.put kl d) → w.grownBy w' (some b) → wpList P ops Q rest (a.put o.dst undef) w') :
    wpList P ops Q (o :: rest) a w := by
  refine wpList_plain hg fun K' hK' => ?_
  obtain ⟨w', hrun, r1, r2⟩ := hown.update K ht hn hkey hval
  unfold Oper.wp
  simp [execOp, hop, hm, hx, hv, hrun, Result.andThen]
  exact hK' _ _ (hK w' r1 r2)

def pairD : Nat → DataW Unit
  | 0 => .map []
  | n + 1 => (pairD n).put (.int .i64 ((n : Int) + 3)) (.lit (.int .i64 (pairFn ((n : Int) + 3))))
def PairsAt (w : World) (M : Nat) : Prop := w.ownsMap Tryz.prog 3 fnElem M 7 (pairD 7)
theorem PairsAt.later {w w' : World} {M : Nat} (h : PairsAt w M) (hb : Below w.heap.size w w') : PairsAt w' M := by
  have hlt := World.ownsMap.lt h
  obtain ⟨es, clock, h1, h2⟩ := h
  exact ⟨es, clock, (hb.block M hlt).trans h1, h2⟩
theorem keyInt : Keyed Tryz.prog 3 := int_keyed Tryz.underlying3
theorem key3 (k : Int) (h : 3 ≤ k ∧ k ≤ 9) : keyOf Tryz.prog 3 (.int .i64 k) = some (.int .i64 k) := keyOf_int_mk Tryz.underlying3 (WalkArith.wf_i64 (by omega))
theorem PairsAt.look {w : World} {M : Nat} (h : PairsAt w M) {k : Int} (h3 : 3 ≤ k) (h9 : k ≤ 9) :
    (Instr.lookup 161 (.map (some M)) (.int .i64 k) false).run Tryz.prog w = .ok (.func (.func (pairFn k)) #[] #[]) w := by
  obtain ⟨v, ps, hrun, hv⟩ := World.ownsMap.lookup h keyInt Tryz.underlying161 (z := .nilFunc) (by kernel_rfl) (zd := .nil) (zp := []) rfl (key3 k ⟨h3, h9⟩)
  have hat : (pairD 7).atKey (.int .i64 k) .nil = .lit (.int .i64 (pairFn k)) := by
    have hk : k = 3 ∨ k = 4 ∨ k = 5 ∨ k = 6 ∨ k = 7 ∨ k = 8 ∨ k = 9 := by omega
    rcases hk with rfl | rfl | rfl | rfl | rfl | rfl | rfl <;> rfl
  rw [hat] at hv
  rw [hrun, fnElem_inv hv]

set_option maxHeartbeats 1600000 in
set_option maxRecDepth 20000 in
/-- THE CONTRACT OF pairMakers. -/
theorem pairMakers_any (w : World) :
    Calls Tryz.prog 113 #[] w fun e w' => ∃ M, w.heap.size ≤ M ∧ e = .returned (.map (some M)) ∧ PairsAt w' M ∧ Below w.heap.size w w' := by
  have hmm := @run_makeMap Tryz.prog
  have h0 := World.ownsMap_made w Tryz.prog 3 fnElem
  go_enter Tryz.func113, Tryz.ntmps113
  go_wp2_with (first
    | (refine wpList_insert_own _ rfl _ _ _ 161 rfl 3 172 keyInt Tryz.underlying161 fnElem w.heap.size 6 _ rfl h6 (by unfold maxLen; omega) _ _ _ rfl rfl (key3 9 (by omega)) _ [] rfl ?_; intro w7 h7 g7)
    | (refine wpList_insert_own _ rfl _ _ _ 161 rfl 3 172 keyInt Tryz.underlying161 fnElem w.heap.size 5 _ rfl h5 (by unfold maxLen; omega) _ _ _ rfl rfl (key3 8 (by omega)) _ [] rfl ?_; intro w6 h6 g6)
    | (refine wpList_insert_own _ rfl _ _ _ 161 rfl 3 172 keyInt Tryz.underlying161 fnElem w.heap.size 4 _ rfl h4 (by unfold maxLen; omega) _ _ _ rfl rfl (key3 7 (by omega)) _ [] rfl ?_; intro w5 h5 g5)
    | (refine wpList_insert_own _ rfl _ _ _ 161 rfl 3 172 keyInt Tryz.underlying161 fnElem w.heap.size 3 _ rfl h3 (by unfold maxLen; omega) _ _ _ rfl rfl (key3 6 (by omega)) _ [] rfl ?_; intro w4 h4 g4)
    | (refine wpList_insert_own _ rfl _ _ _ 161 rfl 3 172 keyInt Tryz.underlying161 fnElem w.heap.size 2 _ rfl h2 (by unfold maxLen; omega) _ _ _ rfl rfl (key3 5 (by omega)) _ [] rfl ?_; intro w3 h3 g3)
    | (refine wpList_insert_own _ rfl _ _ _ 161 rfl 3 172 keyInt Tryz.underlying161 fnElem w.heap.size 1 _ rfl h1 (by unfold maxLen; omega) _ _ _ rfl rfl (key3 4 (by omega)) _ [] rfl ?_; intro w2 h2 g2)
    | (refine wpList_insert_own _ rfl _ _ _ 161 rfl 3 172 keyInt Tryz.underlying161 fnElem w.heap.size 0 _ rfl h0 (by unfold maxLen; omega) _ _ _ rfl rfl (key3 3 (by omega)) _ [] rfl ?_; intro w1 h1 g1))
  go_ret
  have hb0 : Below w.heap.size w (w.alloc (.map #[] 0)) := (Below.refl _ _).alloc (Nat.le_refl _) _
  have hb : ∀ {x y : World}, Below w.heap.size w x → x.grownBy y (some w.heap.size) → Below w.heap.size w y := fun h g => h.grown g h.size (fun j hj => by cases hj; exact Nat.le_refl _)
  exact ⟨w.heap.size, Nat.le_refl _, rfl, h7, hb (hb (hb (hb (hb (hb (hb hb0 g1) g2) g3) g4) g5) g6) g7⟩
end Go.Proofs.YtdlpmomohbdpgaaGreatDoor

/-
  The contract of package expr's (work).at.
-/
namespace Go.Proofs.YtdlpmomohbdpgaaGreatDoor
open Go.ChangeShapes Go.WideShapes Go.ChangeAt Go.RowKit Go.Deep
open Terms Tm

/-- what the work leans on: ops, their ends, the values, the functions. -/
structure WorkAt (w : World) (b off B : Nat) (eao : Option Addr) (M : Nat) (t : Tm) (env : List Int) : Prop where
  ob : b < w.heap.size
  ops : OpsAt w b off t.ops
  ends : w.rowIs B 3 t.size (fun q => .int .i64 (endAt (t.ops.map Prod.fst) q))
  env : ∀ i, i < env.length → ∃ eb eoff, eao = some ⟨eb, eoff, none⟩ ∧ eb < w.heap.size ∧ w.cell? ⟨eb, eoff + i, none⟩ = some (.int .i64 (env.getD i 0))
  pairs : PairsAt w M
theorem WorkAt.later {w w' : World} {b off B : Nat} {eao : Option Addr} {M : Nat} {t : Tm} {env : List Int} (h : WorkAt w b off B eao M t env) (hb : Below w.heap.size w w') : WorkAt w' b off B eao M t env := by
  obtain ⟨h1, h2, h3, h4, h5⟩ := h
  refine ⟨Nat.lt_of_lt_of_le h1 hb.size, h2.below hb h1, h3.of_block (hb.block B h3.lt), fun i hi => ?_, h5.later hb⟩
  obtain ⟨eb, eoff, e1, e2, e3⟩ := h4 i hi
  exact ⟨eb, eoff, e1, Nat.lt_of_lt_of_le e2 hb.size, (hb.cell (p := ⟨eb, eoff + i, none⟩) e2).trans e3⟩

/-- what the work on a tree leaves: a number, or it has given up. -/
def AtPost (r : Option Int) (w : World) (e : Ending) (w' : World) : Prop :=
  Below w.heap.size w w' ∧ match r with
    | some x => e = .returned (.int .i64 x)
    | none => e = .panicked [{ v := .iface 33 (.int .i64 8), recovered := false }]


abbrev workV (b off n cap B : Nat) (eao : Option Addr) (en ecap M : Nat) : Value := .agg #[.slice (some ⟨b, off, none⟩) n cap, .slice (some ⟨B, 0, none⟩) n n, .slice eao en ecap, .map (some M)]

set_option maxHeartbeats 400000 in
theorem at_num (b off n cap B : Nat) (eao : Option Addr) (en ecap M place : Nat) (x : Int) (w : World) (hob : b < w.heap.size) (hp : place < n) (c0 : w.cell? ⟨b, off + place * 2, none⟩ = some (.int .i64 1)) (c1 : w.cell? ⟨b, off + place * 2 + 1, none⟩ = some (.int .i64 x)) :
    Calls Tryz.prog 114 #[workV b off n cap B eao en ecap M, .int .i64 place] w (AtPost (some x) w) := by
  have hne : ¬ b = w.heap.size := by omega
  go_enter Tryz.func114, Tryz.ntmps114
  go_wp2_with fail
  go_ret
  exact ⟨((Below.refl _ _).alloc (Nat.le_refl _) _).alloc (by simp) _, rfl⟩
set_option maxHeartbeats 400000 in
theorem at_var (b off n cap B eb eoff en ecap M place j : Nat) (x : Int) (w : World) (hob : b < w.heap.size) (hp : place < n) (hj : j < en) (c0 : w.cell? ⟨b, off + place * 2, none⟩ = some (.int .i64 2)) (c1 : w.cell? ⟨b, off + place * 2 + 1, none⟩ = some (.int .i64 j)) (hbl : eb < w.heap.size) (c2 : w.cell? ⟨eb, eoff + j, none⟩ = some (.int .i64 x)) :
    Calls Tryz.prog 114 #[workV b off n cap B (some ⟨eb, eoff, none⟩) en ecap M, .int .i64 place] w (AtPost (some x) w) := by
  have hne : ¬ b = w.heap.size := by omega
  go_enter Tryz.func114, Tryz.ntmps114
  go_wp2_with fail
  go_ret
  exact ⟨((Below.refl _ _).alloc (Nat.le_refl _) _).alloc (by simp) _, rfl⟩
set_option maxHeartbeats 400000 in
theorem at_lit (b off n cap B : Nat) (eao : Option Addr) (en ecap M place : Nat) (k : Int) (hk : k = 11 ∨ k = 12) (w : World) (hob : b < w.heap.size) (hp : place < n) (c0 : w.cell? ⟨b, off + place * 2, none⟩ = some (.int .i64 k)) (c1 : w.cell? ⟨b, off + place * 2 + 1, none⟩ = some (.int .i64 0)) :
    Calls Tryz.prog 114 #[workV b off n cap B eao en ecap M, .int .i64 place] w (AtPost (some (if k = 11 then 1 else 0)) w) := by
  rcases hk with rfl | rfl
  · rw [if_pos rfl]
    have hne : ¬ b = w.heap.size := by omega
    go_enter Tryz.func114, Tryz.ntmps114
    go_wp2_with fail
    go_ret
    exact ⟨((Below.refl _ _).alloc (Nat.le_refl _) _).alloc (by simp) _, rfl⟩
  · rw [if_neg (by decide)]
    have hne : ¬ b = w.heap.size := by omega
    go_enter Tryz.func114, Tryz.ntmps114
    go_wp2_with fail
    go_ret
    exact ⟨((Below.refl _ _).alloc (Nat.le_refl _) _).alloc (by simp) _, rfl⟩
set_option maxHeartbeats 400000 in
theorem at_not (b off n cap B : Nat) (eao : Option Addr) (en ecap M place : Nat) (r : Option Int) (w : World) (hob : b < w.heap.size) (hp : place < n) (h60 : n ≤ 60) (c0 : w.cell? ⟨b, off + place * 2, none⟩ = some (.int .i64 10)) (c1 : w.cell? ⟨b, off + place * 2 + 1, none⟩ = some (.int .i64 0))
    (hr : ∀ x, r = some x → -1000000 ≤ x ∧ x ≤ 1000000)
    (hrec : ∀ w', Below w.heap.size w w' → Calls Tryz.prog 114 #[workV b off n cap B eao en ecap M, .int .i64 ((place : Int) + 1)] w' (AtPost r w')) :
    Calls Tryz.prog 114 #[workV b off n cap B eao en ecap M, .int .i64 place] w (AtPost (r.map (1 - ·)) w) := by
  have hne : ¬ b = w.heap.size := by omega
  have hb2 : Below w.heap.size w ((w.alloc (.cells #[.slice (some ⟨b, off, none⟩) n cap, .slice (some ⟨B, 0, none⟩) n n, .slice eao en ecap, .map (some M)] 164)).alloc (.cells #[.int .i64 10, .int .i64 0] 105)) := ((Below.refl _ _).alloc (Nat.le_refl _) _).alloc (by simp) _
  have hrec' := hrec _ hb2
  have HB2 := (show Hid _ from hb2)
  clear hrec hb2
  cases r with
  | none =>
    go_enter Tryz.func114, Tryz.ntmps114
    go_wp2_with (go_at_call 114; refine hrec'.mono ?_; rintro e w1 ⟨hb1, rfl⟩)
    exact ⟨rfl, HB2.out.trans (hb1.mono HB2.out.size), rfl⟩
  | some x =>
    obtain ⟨hx1, hx2⟩ := hr x rfl
    clear hr
    go_enter Tryz.func114, Tryz.ntmps114
    go_wp2_with (go_at_call 114; refine hrec'.mono ?_; rintro e w1 ⟨hb1, rfl⟩)
    go_ret
    exact ⟨HB2.out.trans (hb1.mono HB2.out.size), rfl⟩

end Go.Proofs.YtdlpmomohbdpgaaGreatDoor

/-
  The contract of package expr's (work).at: an op of two parts.
-/
namespace Go.Proofs.YtdlpmomohbdpgaaGreatDoor
open Go.ChangeShapes Go.WideShapes Go.ChangeAt Go.RowKit Go.Deep
open Terms Tm
attribute [local go_sem ↓] Go.wp_at_zero Go.wp_at_succ

theorem pair_enters (k : Int) (h3 : 3 ≤ k) (h9 : k ≤ 9) (args : Array Value) (w : World) : (callFunc (pairFn k) args).run Tryz.prog w = .ok (.enter (pairFn k) args) w := by
  have hk : k = 3 ∨ k = 4 ∨ k = 5 ∨ k = 6 ∨ k = 7 ∨ k = 8 ∨ k = 9 := by omega
  rcases hk with rfl | rfl | rfl | rfl | rfl | rfl | rfl
  · show (callFunc 127 args).run Tryz.prog w = .ok (.enter 127 args) w; simp [go_sem]
  · show (callFunc 128 args).run Tryz.prog w = .ok (.enter 128 args) w; simp [go_sem]
  · show (callFunc 129 args).run Tryz.prog w = .ok (.enter 129 args) w; simp [go_sem]
  · show (callFunc 130 args).run Tryz.prog w = .ok (.enter 130 args) w; simp [go_sem]
  · show (callFunc 132 args).run Tryz.prog w = .ok (.enter 132 args) w; simp [go_sem]
  · show (callFunc 133 args).run Tryz.prog w = .ok (.enter 133 args) w; simp [go_sem]
  · show (callFunc 134 args).run Tryz.prog w = .ok (.enter 134 args) w; simp [go_sem]
theorem wrap_small {x : Int} (h1 : 0 ≤ x) (h2 : x ≤ 1000) : IntKind.i64.wrap x = x := by
  simp [IntKind.wrap, IntKind.bits, IntKind.signed]; omega

set_option maxHeartbeats 800000 in
set_option maxRecDepth 20000 in
theorem at_bi (b off n cap B : Nat) (eao : Option Addr) (en ecap M place E1 F : Nat) (k x y z : Int) (w : World) (hob : b < w.heap.size) (hBB : B < w.heap.size) (hp : place + 1 < n) (P1 : Nat) (hP1 : P1 = place + 1) (h60 : n ≤ 60) (hk3 : 3 ≤ k) (hk9 : k ≤ 9) (c0 : w.cell? ⟨b, off + place * 2, none⟩ = some (.int .i64 k)) (c1 : w.cell? ⟨b, off + place * 2 + 1, none⟩ = some (.int .i64 0)) (cE : w.cell? ⟨B, P1, none⟩ = some (.int .i64 E1))
    (hlook : ∀ w', Below w.heap.size w w' → (Instr.lookup 161 (.map (some M)) (.int .i64 k) false).run Tryz.prog w' = .ok (.func (.func F) #[] #[]) w')
    (hent : ∀ args w, (callFunc F args).run Tryz.prog w = .ok (.enter F args) w)
    (hpair : ∀ w', Calls Tryz.prog F #[.int .i64 x, .int .i64 y] w' fun e w'' => e = .returned (.int .i64 z) ∧ w'' = w')
    (hra : ∀ w', Below w.heap.size w w' → Calls Tryz.prog 114 #[workV b off n cap B eao en ecap M, .int .i64 P1] w' (AtPost (some x) w'))
    (hrb : ∀ w', Below w.heap.size w w' → Calls Tryz.prog 114 #[workV b off n cap B eao en ecap M, .int .i64 E1] w' (AtPost (some y) w')) :
    Calls Tryz.prog 114 #[workV b off n cap B eao en ecap M, .int .i64 place] w (AtPost (lid z) w) := by
  have hne : ¬ b = w.heap.size := by omega
  have hneB : ¬ B = w.heap.size := by omega
  have e1 : ¬ k = 1 := by omega
  have e2 : ¬ k = 2 := by omega
  have e3 : ¬ k = 10 := by omega
  have e4 : ¬ k = 11 := by omega
  have e5 : ¬ k = 12 := by omega
  obtain ⟨W2, hW2⟩ : ∃ W2, W2 = ((w.alloc (.cells #[.slice (some ⟨b, off, none⟩) n cap, .slice (some ⟨B, 0, none⟩) n n, .slice eao en ecap, .map (some M)] 164)).alloc (.cells #[.int .i64 k, .int .i64 0] 105)) := ⟨_, rfl⟩
  have hb2 : Below w.heap.size w W2 := by rw [hW2]; exact ((Below.refl _ _).alloc (Nat.le_refl _) _).alloc (by simp) _
  have hsz : W2.heap.size = w.heap.size + 1 + 1 := by rw [hW2]; simp
  have d0 : W2.cell? ⟨w.heap.size, 0, none⟩ = some (.slice (some ⟨b, off, none⟩) n cap) := by rw [hW2]; simp [go_sem]
  have d1 : W2.cell? ⟨w.heap.size, 1, none⟩ = some (.slice (some ⟨B, 0, none⟩) n n) := by rw [hW2]; simp [go_sem]
  have d2 : W2.cell? ⟨w.heap.size, 2, none⟩ = some (.slice eao en ecap) := by rw [hW2]; simp [go_sem]
  have d3 : W2.cell? ⟨w.heap.size, 3, none⟩ = some (.map (some M)) := by rw [hW2]; simp [go_sem]
  have d4 : W2.cell? ⟨w.heap.size + 1, 0, none⟩ = some (.int .i64 k) := by rw [hW2]; simp [go_sem]
  have d5 : W2.cell? ⟨B, P1, none⟩ = some (.int .i64 E1) := (hb2.cell (p := ⟨B, P1, none⟩) hBB).trans cE
  have HW2 := (show Hid _ from hW2)
  have hS : ∀ w', Below W2.heap.size W2 w' → w'.cell? ⟨w.heap.size, 0, none⟩ = some (.slice (some ⟨b, off, none⟩) n cap) ∧ w'.cell? ⟨w.heap.size, 1, none⟩ = some (.slice (some ⟨B, 0, none⟩) n n) ∧ w'.cell? ⟨w.heap.size, 2, none⟩ = some (.slice eao en ecap) ∧ w'.cell? ⟨w.heap.size, 3, none⟩ = some (.map (some M)) ∧ w'.cell? ⟨w.heap.size + 1, 0, none⟩ = some (.int .i64 k) ∧ w'.cell? ⟨B, P1, none⟩ = some (.int .i64 E1) ∧ (Instr.lookup 161 (.map (some M)) (.int .i64 k) false).run Tryz.prog w' = .ok (.func (.func F) #[] #[]) w' := fun w' hw' =>
    ⟨(hw'.cell (p := ⟨w.heap.size, 0, none⟩) (by simp only; omega)).trans d0, (hw'.cell (p := ⟨w.heap.size, 1, none⟩) (by simp only; omega)).trans d1, (hw'.cell (p := ⟨w.heap.size, 2, none⟩) (by simp only; omega)).trans d2, (hw'.cell (p := ⟨w.heap.size, 3, none⟩) (by simp only; omega)).trans d3, (hw'.cell (p := ⟨w.heap.size + 1, 0, none⟩) (by simp only; omega)).trans d4, (hw'.cell (p := ⟨B, P1, none⟩) (by simp only; omega)).trans d5, hlook w' (hb2.trans (hw'.mono hb2.size))⟩
  have hra' : ∀ w', Below W2.heap.size W2 w' → Calls Tryz.prog 114 #[workV b off n cap B eao en ecap M, .int .i64 P1] w' (AtPost (some x) w') := fun w' hw' => hra w' (hb2.trans (hw'.mono hb2.size))
  have hrb' : ∀ w', Below W2.heap.size W2 w' → Calls Tryz.prog 114 #[workV b off n cap B eao en ecap M, .int .i64 E1] w' (AtPost (some y) w') := fun w' hw' => hrb w' (hb2.trans (hw'.mono hb2.size))
  have hB0 : Below W2.heap.size W2 W2 := Below.refl _ _
  have HB2 : Hid (Below w.heap.size w W2) := hb2
  have hp0 : place < n := by omega
  have hi0 : (0 : Int) ≤ (P1 : Int) := by omega
  have hi1 : (P1 : Int) < (n : Int) := by omega
  have hpp : (place : Int) + 1 = (P1 : Int) := by omega
  have hwr : IntKind.i64.wrap (P1 : Int) = (P1 : Int) := wrap_small (by omega) (by omega)
  have hwr2 : IntKind.i64.wrap ((place : Int) + 1) = (P1 : Int) := by rw [hpp]; exact hwr
  have htg := fun w => tooGreat_any z w
  clear hW2 hb2 hra hrb hlook hP1 hp hsz d0 d1 d2 d3 d4 d5
  by_cases hz : -1000000 ≤ z ∧ z ≤ 1000000
  · rw [show decide (¬ (-1000000 ≤ z ∧ z ≤ 1000000)) = false by simpa using hz] at htg
    rw [show lid z = some z by unfold lid; rw [if_pos hz]]
    clear hz
    go_enter Tryz.func114, Tryz.ntmps114
    go_wp2_with fail
    rw [← HW2.out]
    clear c0 c1 cE
    go_region_held3 (fun w' => w'.cell? ⟨w.heap.size, 0, none⟩ = some (.slice (some ⟨b, off, none⟩) n cap) ∧ w'.cell? ⟨w.heap.size, 1, none⟩ = some (.slice (some ⟨B, 0, none⟩) n n) ∧ w'.cell? ⟨w.heap.size, 2, none⟩ = some (.slice eao en ecap) ∧ w'.cell? ⟨w.heap.size, 3, none⟩ = some (.map (some M)) ∧ w'.cell? ⟨w.heap.size + 1, 0, none⟩ = some (.int .i64 k) ∧ w'.cell? ⟨B, P1, none⟩ = some (.int .i64 E1) ∧ (Instr.lookup 161 (.map (some M)) (.int .i64 k) false).run Tryz.prog w' = .ok (.func (.func F) #[] #[]) w')
      (exact hS _ (by first | exact hB0 | exact hB0.drew | exact hB0.drew.trans hb1 | exact (hB0.drew.trans hb1).trans (hb3.mono (hB0.drew.trans hb1).size)))
      (first | (go_at_call_of 114 E1; refine (hrb' _ (hB0.drew.trans hb1)).mono ?_; rintro e w3 ⟨hb3, rfl⟩) | (go_at_call 114; refine (hra' _ hB0.drew).mono ?_; rintro e w1 ⟨hb1, rfl⟩) | (refine (hpair _).mono ?_; rintro e w4 ⟨rfl, rfl⟩))
    all_goals
      go_wp2_with (go_at_call 112; refine (htg _).mono ?_; rintro e w5 ⟨rfl, rfl⟩)
      go_ret
      exact ⟨HB2.out.trans (((hB0.drew.trans hb1).trans (hb3.mono (hB0.drew.trans hb1).size)).mono HB2.out.size), rfl⟩
  · rw [show decide (¬ (-1000000 ≤ z ∧ z ≤ 1000000)) = true by simp; omega] at htg
    rw [show lid z = none by unfold lid; rw [if_neg hz]]
    clear hz
    go_enter Tryz.func114, Tryz.ntmps114
    go_wp2_with fail
    rw [← HW2.out]
    clear c0 c1 cE
    go_region_held3 (fun w' => w'.cell? ⟨w.heap.size, 0, none⟩ = some (.slice (some ⟨b, off, none⟩) n cap) ∧ w'.cell? ⟨w.heap.size, 1, none⟩ = some (.slice (some ⟨B, 0, none⟩) n n) ∧ w'.cell? ⟨w.heap.size, 2, none⟩ = some (.slice eao en ecap) ∧ w'.cell? ⟨w.heap.size, 3, none⟩ = some (.map (some M)) ∧ w'.cell? ⟨w.heap.size + 1, 0, none⟩ = some (.int .i64 k) ∧ w'.cell? ⟨B, P1, none⟩ = some (.int .i64 E1) ∧ (Instr.lookup 161 (.map (some M)) (.int .i64 k) false).run Tryz.prog w' = .ok (.func (.func F) #[] #[]) w')
      (exact hS _ (by first | exact hB0 | exact hB0.drew | exact hB0.drew.trans hb1 | exact (hB0.drew.trans hb1).trans (hb3.mono (hB0.drew.trans hb1).size)))
      (first | (go_at_call_of 114 E1; refine (hrb' _ (hB0.drew.trans hb1)).mono ?_; rintro e w3 ⟨hb3, rfl⟩) | (go_at_call 114; refine (hra' _ hB0.drew).mono ?_; rintro e w1 ⟨hb1, rfl⟩) | (refine (hpair _).mono ?_; rintro e w4 ⟨rfl, rfl⟩))
    all_goals
      go_wp2_with (go_at_call 112; refine (htg _).mono ?_; rintro e w5 ⟨rfl, rfl⟩)
      exact ⟨rfl, HB2.out.trans (((hB0.drew.trans hb1).trans (hb3.mono (hB0.drew.trans hb1).size)).mono HB2.out.size), rfl⟩
end Go.Proofs.YtdlpmomohbdpgaaGreatDoor

/-
  The contract of package expr's (work).at: an op of two parts, where a part gives up.
-/
namespace Go.Proofs.YtdlpmomohbdpgaaGreatDoor
open Go.ChangeShapes Go.WideShapes Go.ChangeAt Go.RowKit Go.Deep
open Terms Tm
attribute [local go_sem ↓] Go.wp_at_zero Go.wp_at_succ

/-- a callee that gives up: what would follow if it came back is shown from nothing. -/
theorem Calls.pan {f : FuncId} {args : Array Value} {w : World} {X : Ending → World → Prop} (x : Int) (h : Calls Tryz.prog f args w (AtPost none w))
    (hX : ∀ w', Below w.heap.size w w' → X (.panicked [{ v := .iface 33 (.int .i64 8), recovered := false }]) w') (_ : ∀ w', Below w.heap.size w w' → Hid False → X (.returned (.int .i64 x)) w') : Calls Tryz.prog f args w X :=
  h.mono fun e w' ⟨hb, he⟩ => by subst he; exact hX w' hb

set_option maxHeartbeats 800000 in
set_option maxRecDepth 20000 in
theorem at_bi_a (b off n cap B : Nat) (eao : Option Addr) (en ecap M place E1 F : Nat) (k x y z : Int) (w : World) (hob : b < w.heap.size) (hBB : B < w.heap.size) (hp : place + 1 < n) (P1 : Nat) (hP1 : P1 = place + 1) (h60 : n ≤ 60) (hk3 : 3 ≤ k) (hk9 : k ≤ 9) (c0 : w.cell? ⟨b, off + place * 2, none⟩ = some (.int .i64 k)) (c1 : w.cell? ⟨b, off + place * 2 + 1, none⟩ = some (.int .i64 0)) (cE : w.cell? ⟨B, P1, none⟩ = some (.int .i64 E1))
    (hlook : ∀ w', Below w.heap.size w w' → (Instr.lookup 161 (.map (some M)) (.int .i64 k) false).run Tryz.prog w' = .ok (.func (.func F) #[] #[]) w')
    (hent : ∀ args w, (callFunc F args).run Tryz.prog w = .ok (.enter F args) w)
    (hpair : ∀ w', Calls Tryz.prog F #[.int .i64 x, .int .i64 y] w' fun e w'' => e = .returned (.int .i64 z) ∧ w'' = w')
    (hra : ∀ w', Below w.heap.size w w' → Calls Tryz.prog 114 #[workV b off n cap B eao en ecap M, .int .i64 P1] w' (AtPost none w'))
    (hrb : Hid False → ∀ w', Below w.heap.size w w' → Calls Tryz.prog 114 #[workV b off n cap B eao en ecap M, .int .i64 E1] w' (AtPost (some y) w')) :
    Calls Tryz.prog 114 #[workV b off n cap B eao en ecap M, .int .i64 place] w (AtPost none w) := by
  have hne : ¬ b = w.heap.size := by omega
  have hneB : ¬ B = w.heap.size := by omega
  have e1 : ¬ k = 1 := by omega
  have e2 : ¬ k = 2 := by omega
  have e3 : ¬ k = 10 := by omega
  have e4 : ¬ k = 11 := by omega
  have e5 : ¬ k = 12 := by omega
  obtain ⟨W2, hW2⟩ : ∃ W2, W2 = ((w.alloc (.cells #[.slice (some ⟨b, off, none⟩) n cap, .slice (some ⟨B, 0, none⟩) n n, .slice eao en ecap, .map (some M)] 164)).alloc (.cells #[.int .i64 k, .int .i64 0] 105)) := ⟨_, rfl⟩
  have hb2 : Below w.heap.size w W2 := by rw [hW2]; exact ((Below.refl _ _).alloc (Nat.le_refl _) _).alloc (by simp) _
  have hsz : W2.heap.size = w.heap.size + 1 + 1 := by rw [hW2]; simp
  have d0 : W2.cell? ⟨w.heap.size, 0, none⟩ = some (.slice (some ⟨b, off, none⟩) n cap) := by rw [hW2]; simp [go_sem]
  have d1 : W2.cell? ⟨w.heap.size, 1, none⟩ = some (.slice (some ⟨B, 0, none⟩) n n) := by rw [hW2]; simp [go_sem]
  have d2 : W2.cell? ⟨w.heap.size, 2, none⟩ = some (.slice eao en ecap) := by rw [hW2]; simp [go_sem]
  have d3 : W2.cell? ⟨w.heap.size, 3, none⟩ = some (.map (some M)) := by rw [hW2]; simp [go_sem]
  have d4 : W2.cell? ⟨w.heap.size + 1, 0, none⟩ = some (.int .i64 k) := by rw [hW2]; simp [go_sem]
  have d5 : W2.cell? ⟨B, P1, none⟩ = some (.int .i64 E1) := (hb2.cell (p := ⟨B, P1, none⟩) hBB).trans cE
  have HW2 := (show Hid _ from hW2)
  have hS : ∀ w', Below W2.heap.size W2 w' → w'.cell? ⟨w.heap.size, 0, none⟩ = some (.slice (some ⟨b, off, none⟩) n cap) ∧ w'.cell? ⟨w.heap.size, 1, none⟩ = some (.slice (some ⟨B, 0, none⟩) n n) ∧ w'.cell? ⟨w.heap.size, 2, none⟩ = some (.slice eao en ecap) ∧ w'.cell? ⟨w.heap.size, 3, none⟩ = some (.map (some M)) ∧ w'.cell? ⟨w.heap.size + 1, 0, none⟩ = some (.int .i64 k) ∧ w'.cell? ⟨B, P1, none⟩ = some (.int .i64 E1) ∧ (Instr.lookup 161 (.map (some M)) (.int .i64 k) false).run Tryz.prog w' = .ok (.func (.func F) #[] #[]) w' := fun w' hw' =>
    ⟨(hw'.cell (p := ⟨w.heap.size, 0, none⟩) (by simp only; omega)).trans d0, (hw'.cell (p := ⟨w.heap.size, 1, none⟩) (by simp only; omega)).trans d1, (hw'.cell (p := ⟨w.heap.size, 2, none⟩) (by simp only; omega)).trans d2, (hw'.cell (p := ⟨w.heap.size, 3, none⟩) (by simp only; omega)).trans d3, (hw'.cell (p := ⟨w.heap.size + 1, 0, none⟩) (by simp only; omega)).trans d4, (hw'.cell (p := ⟨B, P1, none⟩) (by simp only; omega)).trans d5, hlook w' (hb2.trans (hw'.mono hb2.size))⟩
  have hra' : ∀ w', Below W2.heap.size W2 w' → Calls Tryz.prog 114 #[workV b off n cap B eao en ecap M, .int .i64 P1] w' (AtPost none w') := fun w' hw' => hra w' (hb2.trans (hw'.mono hb2.size))
  have hrb' : Hid False → ∀ w', Below W2.heap.size W2 w' → Calls Tryz.prog 114 #[workV b off n cap B eao en ecap M, .int .i64 E1] w' (AtPost (some y) w') := fun hF w' hw' => hrb hF w' (hb2.trans (hw'.mono hb2.size))
  have hB0 : Below W2.heap.size W2 W2 := Below.refl _ _
  have HB2 : Hid (Below w.heap.size w W2) := hb2
  have hp0 : place < n := by omega
  have hi0 : (0 : Int) ≤ (P1 : Int) := by omega
  have hi1 : (P1 : Int) < (n : Int) := by omega
  have hpp : (place : Int) + 1 = (P1 : Int) := by omega
  have hwr : IntKind.i64.wrap (P1 : Int) = (P1 : Int) := wrap_small (by omega) (by omega)
  have hwr2 : IntKind.i64.wrap ((place : Int) + 1) = (P1 : Int) := by rw [hpp]; exact hwr
  clear hW2 hb2 hra hrb hlook hP1 hp hsz d0 d1 d2 d3 d4 d5
  go_enter Tryz.func114, Tryz.ntmps114
  go_wp2_with fail
  rw [← HW2.out]
  clear c0 c1 cE
  go_region_held2 (fun w' => w'.cell? ⟨w.heap.size, 0, none⟩ = some (.slice (some ⟨b, off, none⟩) n cap) ∧ w'.cell? ⟨w.heap.size, 1, none⟩ = some (.slice (some ⟨B, 0, none⟩) n n) ∧ w'.cell? ⟨w.heap.size, 2, none⟩ = some (.slice eao en ecap) ∧ w'.cell? ⟨w.heap.size, 3, none⟩ = some (.map (some M)) ∧ w'.cell? ⟨w.heap.size + 1, 0, none⟩ = some (.int .i64 k) ∧ w'.cell? ⟨B, P1, none⟩ = some (.int .i64 E1) ∧ (Instr.lookup 161 (.map (some M)) (.int .i64 k) false).run Tryz.prog w' = .ok (.func (.func F) #[] #[]) w')
    (exact hS _ (by first | exact hB0 | exact hB0.drew | exact hB0.drew.trans hb1 | exact (hB0.drew.trans hb1).trans (hb3.mono (hB0.drew.trans hb1).size)))
    (first | (go_at_call_of 114 E1; refine (hrb' hF _ (hB0.drew.trans hb1)).mono ?_; rintro e w3 ⟨hb3, rfl⟩) | (go_at_call 114; refine Calls.pan x (hra' _ hB0.drew) (fun w1 hb1 => ⟨rfl, HB2.out.trans ((hB0.drew.trans hb1).mono HB2.out.size), rfl⟩) (fun w1 hb1 hF => ?_)) | (refine (hpair _).mono ?_; rintro e w4 ⟨rfl, rfl⟩))
  all_goals exact hF.out.elim
set_option maxHeartbeats 800000 in
set_option maxRecDepth 20000 in
theorem at_bi_b (b off n cap B : Nat) (eao : Option Addr) (en ecap M place E1 F : Nat) (k x y z : Int) (w : World) (hob : b < w.heap.size) (hBB : B < w.heap.size) (hp : place + 1 < n) (P1 : Nat) (hP1 : P1 = place + 1) (h60 : n ≤ 60) (hk3 : 3 ≤ k) (hk9 : k ≤ 9) (c0 : w.cell? ⟨b, off + place * 2, none⟩ = some (.int .i64 k)) (c1 : w.cell? ⟨b, off + place * 2 + 1, none⟩ = some (.int .i64 0)) (cE : w.cell? ⟨B, P1, none⟩ = some (.int .i64 E1))
    (hlook : ∀ w', Below w.heap.size w w' → (Instr.lookup 161 (.map (some M)) (.int .i64 k) false).run Tryz.prog w' = .ok (.func (.func F) #[] #[]) w')
    (hent : ∀ args w, (callFunc F args).run Tryz.prog w = .ok (.enter F args) w)
    (hpair : ∀ w', Calls Tryz.prog F #[.int .i64 x, .int .i64 y] w' fun e w'' => e = .returned (.int .i64 z) ∧ w'' = w')
    (hra : ∀ w', Below w.heap.size w w' → Calls Tryz.prog 114 #[workV b off n cap B eao en ecap M, .int .i64 P1] w' (AtPost (some x) w'))
    (hrb : ∀ w', Below w.heap.size w w' → Calls Tryz.prog 114 #[workV b off n cap B eao en ecap M, .int .i64 E1] w' (AtPost none w')) :
    Calls Tryz.prog 114 #[workV b off n cap B eao en ecap M, .int .i64 place] w (AtPost none w) := by
  have hne : ¬ b = w.heap.size := by omega
  have hneB : ¬ B = w.heap.size := by omega
  have e1 : ¬ k = 1 := by omega
  have e2 : ¬ k = 2 := by omega
  have e3 : ¬ k = 10 := by omega
  have e4 : ¬ k = 11 := by omega
  have e5 : ¬ k = 12 := by omega
  obtain ⟨W2, hW2⟩ : ∃ W2, W2 = ((w.alloc (.cells #[.slice (some ⟨b, off, none⟩) n cap, .slice (some ⟨B, 0, none⟩) n n, .slice eao en ecap, .map (some M)] 164)).alloc (.cells #[.int .i64 k, .int .i64 0] 105)) := ⟨_, rfl⟩
  have hb2 : Below w.heap.size w W2 := by rw [hW2]; exact ((Below.refl _ _).alloc (Nat.le_refl _) _).alloc (by simp) _
  have hsz : W2.heap.size = w.heap.size + 1 + 1 := by rw [hW2]; simp
  have d0 : W2.cell? ⟨w.heap.size, 0, none⟩ = some (.slice (some ⟨b, off, none⟩) n cap) := by rw [hW2]; simp [go_sem]
  have d1 : W2.cell? ⟨w.heap.size, 1, none⟩ = some (.slice (some ⟨B, 0, none⟩) n n) := by rw [hW2]; simp [go_sem]
  have d2 : W2.cell? ⟨w.heap.size, 2, none⟩ = some (.slice eao en ecap) := by rw [hW2]; simp [go_sem]
  have d3 : W2.cell? ⟨w.heap.size, 3, none⟩ = some (.map (some M)) := by rw [hW2]; simp [go_sem]
  have d4 : W2.cell? ⟨w.heap.size + 1, 0, none⟩ = some (.int .i64 k) := by rw [hW2]; simp [go_sem]
  have d5 : W2.cell? ⟨B, P1, none⟩ = some (.int .i64 E1) := (hb2.cell (p := ⟨B, P1, none⟩) hBB).trans cE
  have HW2 := (show Hid _ from hW2)
  have hS : ∀ w', Below W2.heap.size W2 w' → w'.cell? ⟨w.heap.size, 0, none⟩ = some (.slice (some ⟨b, off, none⟩) n cap) ∧ w'.cell? ⟨w.heap.size, 1, none⟩ = some (.slice (some ⟨B, 0, none⟩) n n) ∧ w'.cell? ⟨w.heap.size, 2, none⟩ = some (.slice eao en ecap) ∧ w'.cell? ⟨w.heap.size, 3, none⟩ = some (.map (some M)) ∧ w'.cell? ⟨w.heap.size + 1, 0, none⟩ = some (.int .i64 k) ∧ w'.cell? ⟨B, P1, none⟩ = some (.int .i64 E1) ∧ (Instr.lookup 161 (.map (some M)) (.int .i64 k) false).run Tryz.prog w' = .ok (.func (.func F) #[] #[]) w' := fun w' hw' =>
    ⟨(hw'.cell (p := ⟨w.heap.size, 0, none⟩) (by simp only; omega)).trans d0, (hw'.cell (p := ⟨w.heap.size, 1, none⟩) (by simp only; omega)).trans d1, (hw'.cell (p := ⟨w.heap.size, 2, none⟩) (by simp only; omega)).trans d2, (hw'.cell (p := ⟨w.heap.size, 3, none⟩) (by simp only; omega)).trans d3, (hw'.cell (p := ⟨w.heap.size + 1, 0, none⟩) (by simp only; omega)).trans d4, (hw'.cell (p := ⟨B, P1, none⟩) (by simp only; omega)).trans d5, hlook w' (hb2.trans (hw'.mono hb2.size))⟩
  have hra' : ∀ w', Below W2.heap.size W2 w' → Calls Tryz.prog 114 #[workV b off n cap B eao en ecap M, .int .i64 P1] w' (AtPost (some x) w') := fun w' hw' => hra w' (hb2.trans (hw'.mono hb2.size))
  have hrb' : ∀ w', Below W2.heap.size W2 w' → Calls Tryz.prog 114 #[workV b off n cap B eao en ecap M, .int .i64 E1] w' (AtPost none w') := fun w' hw' => hrb w' (hb2.trans (hw'.mono hb2.size))
  have hB0 : Below W2.heap.size W2 W2 := Below.refl _ _
  have HB2 : Hid (Below w.heap.size w W2) := hb2
  have hp0 : place < n := by omega
  have hi0 : (0 : Int) ≤ (P1 : Int) := by omega
  have hi1 : (P1 : Int) < (n : Int) := by omega
  have hpp : (place : Int) + 1 = (P1 : Int) := by omega
  have hwr : IntKind.i64.wrap (P1 : Int) = (P1 : Int) := wrap_small (by omega) (by omega)
  have hwr2 : IntKind.i64.wrap ((place : Int) + 1) = (P1 : Int) := by rw [hpp]; exact hwr
  clear hW2 hb2 hra hrb hlook hP1 hp hsz d0 d1 d2 d3 d4 d5
  go_enter Tryz.func114, Tryz.ntmps114
  go_wp2_with fail
  rw [← HW2.out]
  clear c0 c1 cE
  go_region_held2 (fun w' => w'.cell? ⟨w.heap.size, 0, none⟩ = some (.slice (some ⟨b, off, none⟩) n cap) ∧ w'.cell? ⟨w.heap.size, 1, none⟩ = some (.slice (some ⟨B, 0, none⟩) n n) ∧ w'.cell? ⟨w.heap.size, 2, none⟩ = some (.slice eao en ecap) ∧ w'.cell? ⟨w.heap.size, 3, none⟩ = some (.map (some M)) ∧ w'.cell? ⟨w.heap.size + 1, 0, none⟩ = some (.int .i64 k) ∧ w'.cell? ⟨B, P1, none⟩ = some (.int .i64 E1) ∧ (Instr.lookup 161 (.map (some M)) (.int .i64 k) false).run Tryz.prog w' = .ok (.func (.func F) #[] #[]) w')
    (exact hS _ (by first | exact hB0 | exact hB0.drew | exact hB0.drew.trans hb1 | exact (hB0.drew.trans hb1).trans (hb3.mono (hB0.drew.trans hb1).size)))
    (first | (go_at_call_of 114 E1; refine Calls.pan y (hrb' _ (hB0.drew.trans hb1)) (fun w3 hb3 => ⟨rfl, HB2.out.trans (((hB0.drew.trans hb1).trans (hb3.mono (hB0.drew.trans hb1).size)).mono HB2.out.size), rfl⟩) (fun w3 hb3 hF => ?_)) | (go_at_call 114; refine (hra' _ hB0.drew).mono ?_; rintro e w1 ⟨hb1, rfl⟩) | (refine (hpair _).mono ?_; rintro e w4 ⟨rfl, rfl⟩))
  all_goals exact hF.out.elim
end Go.Proofs.YtdlpmomohbdpgaaGreatDoor

/-
  The contract of package expr's (work).at, whole.
-/
namespace Go.Proofs.YtdlpmomohbdpgaaGreatDoor
open Go.ChangeShapes Go.WideShapes Go.ChangeAt Go.RowKit Go.Deep
open Terms Tm

/-- THE CONTRACT OF (work).at. -/
theorem at_any (b off n cap B : Nat) (eao : Option Addr) (en ecap M vars : Nat) (t : Tm) (env : List Int) (hn : n = t.size) (h60 : n ≤ 60) (hg : t.Good vars) (hty : t.typed = true) (hev : EnvOk env) (hen : env.length = vars) (hen2 : en = vars) (d : Nat) :
    ∀ (place : Nat) (w : World), place < n → (t.sub place).size ≤ d → WorkAt w b off B eao M t env →
    Calls Tryz.prog 114 #[workV b off n cap B eao en ecap M, .int .i64 place] w (AtPost ((t.sub place).eval env) w) := by
  induction d with
  | zero => intro place w _ hd; have := (t.sub place).size_pos; omega
  | succ d ih =>
    intro place w hp hd hW
    have hpt : place < t.size := by omega
    obtain ⟨s, hs⟩ : ∃ s, s = t.sub place := ⟨_, rfl⟩
    have hsg : s.Good vars := by rw [hs]; exact hg.sub _
    have hst : s.typed = true := by
      rw [hs]
      refine (typed_iff _).2 fun q hq => ?_
      rw [← t.sub_sub place q hpt hq]
      exact (typed_iff _).1 hty _ (by have := t.sub_fits hpt; omega)
    obtain ⟨c0, c1⟩ := hW.ops place (by rw [ops_length]; exact hpt)
    rw [op_at t hpt, ← hs] at c0 c1
    simp only at c0 c1
    have HKI : ∀ i, i < s.kids.length → place + s.koff i < n ∧ t.sub (place + s.koff i) = s.kids.getD i s ∧ endAt (t.ops.map Prod.fst) (place + s.koff i) = place + s.koff (i + 1) := fun i hi => by
      subst hs
      obtain ⟨h1, h2, h3, _⟩ := kid_in hg.wf hpt hi
      exact ⟨by omega, h2, h3⟩
    rw [← hs] at hd ⊢
    cases s with
    | leaf k v =>
      rcases hsg with ⟨rfl, h1, h2⟩ | ⟨rfl, h1, h2⟩ | ⟨hk, rfl⟩
      · exact at_num b off n cap B eao en ecap M place v w hW.ob hp c0 c1
      · obtain ⟨j, rfl⟩ := Int.eq_ofNat_of_zero_le h1
        obtain ⟨eb, eoff, rfl, e2, e3⟩ := hW.env j (by omega)
        exact at_var b off n cap B eb eoff en ecap M place j _ w hW.ob hp (by omega) c0 c1 e2 e3
      · have he : (Tm.leaf k 0).eval env = some (if k = 11 then 1 else 0) := by
          simp only [Tm.eval]
          rw [if_neg (by omega), if_neg (by omega)]
        rw [he]
        exact at_lit b off n cap B eao en ecap M place k hk w hW.ob hp c0 c1
    | un k v a =>
      obtain ⟨rfl, rfl, ha⟩ := hsg
      obtain ⟨p1, p2, _⟩ := HKI 0 (by simp [kids])
      rw [koff_zero] at p1 p2
      have hsz : a.size ≤ d := by simp only [Tm.size] at hd; omega
      have hta : a.typed = true := by simp only [Tm.typed, Bool.and_eq_true] at hst; exact hst.2
      have hrec : ∀ w', Below w.heap.size w w' → Calls Tryz.prog 114 #[workV b off n cap B eao en ecap M, .int .i64 ((place : Int) + 1)] w' (AtPost (a.eval env) w') := fun w' hw' => by
        have h := ih (place + 1) w' p1 (by rw [p2]; exact hsz) (hW.later hw')
        rw [p2] at h
        exact h
      have h := at_not b off n cap B eao en ecap M place (a.eval env) w hW.ob hp h60 c0 c1 (fun x hx => (eval_le hev hen ha hta x hx).1) hrec
      have he : (Tm.un 10 0 a).eval env = (a.eval env).map (1 - ·) := by
        simp only [Tm.eval]
        cases a.eval env <;> rfl
      rw [he]
      exact h
    | bi k v a b' =>
      obtain ⟨h3, h9, rfl, ha, hb⟩ := hsg
      obtain ⟨p1, p2, p3⟩ := HKI 0 (by simp [kids])
      obtain ⟨q1, q2, _⟩ := HKI 1 (by simp [kids])
      rw [koff_zero] at p1 p2 p3
      rw [Nat.zero_add] at p3
      have hsa : a.size ≤ d := by simp only [Tm.size] at hd; omega
      have hsb : b'.size ≤ d := by simp only [Tm.size] at hd; omega
      simp only [Tm.typed, Bool.and_eq_true, beq_iff_eq] at hst
      obtain ⟨⟨ka, hta⟩, kb, htb⟩ := hst
      have hra : ∀ w', Below w.heap.size w w' → Calls Tryz.prog 114 #[workV b off n cap B eao en ecap M, .int .i64 (place + 1 : Nat)] w' (AtPost (a.eval env) w') := fun w' hw' => by
        have h := ih (place + 1) w' p1 (by rw [p2]; exact hsa) (hW.later hw')
        rw [p2] at h
        exact h
      have hrb : ∀ w', Below w.heap.size w w' → Calls Tryz.prog 114 #[workV b off n cap B eao en ecap M, .int .i64 (place + (Tm.bi k 0 a b').koff 1 : Nat)] w' (AtPost (b'.eval env) w') := fun w' hw' => by
        have h := ih (place + (Tm.bi k 0 a b').koff 1) w' q1 (by rw [q2]; exact hsb) (hW.later hw')
        rw [q2] at h
        exact h
      have cE := hW.ends.cell (i := place + 1) (by omega)
      rw [p3] at cE
      have hlook := fun w' (hw' : Below w.heap.size w w') => (hW.pairs.later hw').look h3 h9
      have hent := pair_enters k h3 h9
      have hae := eval_le hev hen ha hta
      have hbe := eval_le hev hen hb htb
      simp only [Tm.eval]
      cases hx : a.eval env with
      | none =>
        rw [hx] at hra
        exact at_bi_a b off n cap B eao en ecap M place _ (pairFn k) k 0 0 (bin k 0 0) w hW.ob hW.ends.lt (by omega) (place + 1) rfl h60 h3 h9 c0 c1 cE hlook hent (fun w' => pair_any k 0 0 w' h3 h9 (by omega) (by omega) (fun _ => ⟨.inl rfl, .inl rfl⟩)) hra
          (fun h => h.out.elim)
      | some x =>
        rw [hx] at hra
        have hxl := hae x hx
        cases hy : b'.eval env with
        | none =>
          rw [hy] at hrb
          exact at_bi_b b off n cap B eao en ecap M place _ (pairFn k) k x 0 (bin k x 0) w hW.ob hW.ends.lt (by omega) (place + 1) rfl h60 h3 h9 c0 c1 cE hlook hent (fun w' => pair_any k x 0 w' h3 h9 hxl.1 (by omega) (fun h8 => ⟨hxl.2 (by rw [ka]; simp [tkT]; omega), .inl rfl⟩)) hra hrb
        | some y =>
          rw [hy] at hrb
          have hyl := hbe y hy
          exact at_bi b off n cap B eao en ecap M place _ (pairFn k) k x y (bin k x y) w hW.ob hW.ends.lt (by omega) (place + 1) rfl h60 h3 h9 c0 c1 cE hlook hent (fun w' => pair_any k x y w' h3 h9 hxl.1 hyl.1 (fun h8 => ⟨hxl.2 (by rw [ka]; simp [tkT]; omega), hyl.2 (by rw [kb]; simp [tkT]; omega)⟩)) hra hrb
end Go.Proofs.YtdlpmomohbdpgaaGreatDoor

/-
  The contract of expr.Eval.
-/
namespace Go.Proofs.YtdlpmomohbdpgaaGreatDoor
open Go.ChangeShapes Go.WideShapes Go.ChangeAt Go.RowKit Go.Deep
open Terms Tm

set_option maxHeartbeats 400000 in
theorem ecatch_panicking (s : Nat) (x : Int) (v0 v1 : Value) (w : World) (hc0 : w.cell? ⟨s, 0, none⟩ = some v0) (hc1 : w.cell? ⟨s + 1, 0, none⟩ = some v1) (hz0 : w.frozen? ⟨s, 0, none⟩ = false) (hz1 : w.frozen? ⟨s + 1, 0, none⟩ = false) :
    CallsD Tryz.prog 110 #[.pointer (some ⟨s, 0, none⟩), .pointer (some ⟨s + 1, 0, none⟩)] (.panicking [{ v := .iface 33 (.int .i64 x), recovered := false }]) w fun e u' w' =>
      e = .returned (.tuple #[]) ∧ u' = .panicking [{ v := .iface 33 (.int .i64 x), recovered := true }] ∧ w' = ((w.setCell ⟨s, 0, none⟩ (.int .i64 0)).setCell ⟨s + 1, 0, none⟩ (.int .i64 x)).drew := by
  have hta : ∀ w : World, (Instr.typeAssert (.iface 33 (.int .i64 x)) 20 33 false).run Tryz.prog w = .ok (.int .i64 x) w := fun _ => by kernel_rfl
  refine callsD_of_wpS Tryz.func110 rfl fun c₀ cs hu => ?_
  rw [Tryz.ntmps110]
  show Code.wpS _ _ _ { tmps := #[.pointer (some ⟨s, 0, none⟩), .pointer (some ⟨s + 1, 0, none⟩), undef, undef, undef, undef, undef, undef], defers := [] } _ _
  apply wpS_seq
  apply wpS_region
  simp [wpOpsS, go_sem, recoverD, hu, Exit.thenS]
  refine wpS_of_wp ?_
  go_wp2
  go_region
  go_wp2
  simp [bodyPostS, results, Tryz.results110]

theorem ecatch_idle (s : Nat) (w : World) :
    CallsD Tryz.prog 110 #[.pointer (some ⟨s, 0, none⟩), .pointer (some ⟨s + 1, 0, none⟩)] .returning w fun e u' w' =>
      e = .returned (.tuple #[]) ∧ u' = .returning ∧ w' = w := by
  refine callsD_of_wpS Tryz.func110 rfl fun c₀ cs hu => ?_
  rw [Tryz.ntmps110]
  show Code.wpS _ _ _ { tmps := #[.pointer (some ⟨s, 0, none⟩), .pointer (some ⟨s + 1, 0, none⟩), undef, undef, undef, undef, undef, undef], defers := [] } _ _
  apply wpS_seq
  apply wpS_region
  simp [wpOpsS, go_sem, recoverD, hu, Exit.thenS]
  refine wpS_of_wp ?_
  go_wp2
  cases c₀
  simp_all [bodyPostS, results, Tryz.results110]

/-- what Eval answers: a number, and an error's. -/
def envBad (env : List Int) : Bool := env.any fun x => decide (¬ (-1000000 ≤ x ∧ x ≤ 1000000))
def evalN (l : List (Int × Int)) (t : Tm) (env : List Int) : Int :=
  if xcode env.length l t ≠ 0 then 0 else if envBad env = true then 0 else match t.eval env with
    | some x => x
    | none => 0
def evalC (l : List (Int × Int)) (t : Tm) (env : List Int) : Int :=
  if xcode env.length l t ≠ 0 then xcode env.length l t else if envBad env = true then 2 else match t.eval env with
    | some _ => 0
    | none => 8
theorem envBad_false {env : List Int} (h : envBad env = false) : EnvOk env := fun i hi => by
  unfold envBad at h
  rw [List.any_eq_false] at h
  have := h (env.getD i 0) (by simp [List.getD_eq_getElem?_getD, hi])
  generalize env.getD i 0 = x at *
  simp at this
  omega
theorem envBad_ok {env : List Int} (h : ∀ j, j < env.length → -1000000 ≤ env.getD j 0 ∧ env.getD j 0 ≤ 1000000) : envBad env = false := by
  unfold envBad
  rw [List.any_eq_false]
  intro x hx
  obtain ⟨i, hi, rfl⟩ := List.getElem_of_mem hx
  have := h i hi
  simp [List.getD_eq_getElem?_getD, hi] at this
  simp
  omega
theorem envBad_at {env : List Int} {i : Nat} (hi : i < env.length) (h : ¬ (-1000000 ≤ env.getD i 0 ∧ env.getD i 0 ≤ 1000000)) : envBad env = true := by
  unfold envBad
  rw [List.any_eq_true]
  refine ⟨env[i], List.getElem_mem hi, ?_⟩
  simp [List.getD_eq_getElem?_getD, hi] at h
  simp
  omega

/-- the two results' cells, as Eval has laid them. -/
def e0 (w : World) : World := (w.alloc (.cells #[.int .i64 0] 3)).alloc (.cells #[.int .i64 0] 33)
theorem e0_below (w : World) : Below w.heap.size w (e0 w) := ((Below.refl _ _).alloc (Nat.le_refl _) _).alloc (by simp) _
theorem e0_cells (w : World) {w' : World} (h : Below (e0 w).heap.size (e0 w) w') :
    w'.cell? ⟨w.heap.size, 0, none⟩ = some (.int .i64 0) ∧ w'.cell? ⟨w.heap.size + 1, 0, none⟩ = some (.int .i64 0) ∧ w'.frozen? ⟨w.heap.size, 0, none⟩ = false ∧ w'.frozen? ⟨w.heap.size + 1, 0, none⟩ = false ∧ w.heap.size + 1 < w'.heap.size ∧ Below w.heap.size w w' := by
  have hs := h.size
  have hz : (e0 w).heap.size = w.heap.size + 1 + 1 := by simp [e0]
  refine ⟨?_, ?_, ?_, ?_, by omega, (e0_below w).trans (h.mono (e0_below w).size)⟩
  · rw [h.cell (p := ⟨w.heap.size, 0, none⟩) (by simp only; omega)]; simp [e0, go_sem]
  · rw [h.cell (p := ⟨w.heap.size + 1, 0, none⟩) (by simp only; omega)]; simp [e0, go_sem]
  · rw [h.frozen (p := ⟨w.heap.size, 0, none⟩) (by simp only; omega)]; simp [e0, go_sem]
  · rw [h.frozen (p := ⟨w.heap.size + 1, 0, none⟩) (by simp only; omega)]; simp [e0, go_sem]

set_option maxHeartbeats 1600000 in
/-- what Check refuses is refused. -/
theorem eval_no (ao : Option Addr) (n cap : Nat) (eao : Option Addr) (en ecap : Nat) (x : Int) (w : World) (hx : x ≠ 0)
    (heo : Calls Tryz.prog 111 #[.slice ao n cap, .int .i64 en] (e0 w) fun e w'' => e = .returned (.tuple #[.slice none 0 0, .int .i64 x]) ∧ Below (e0 w).heap.size (e0 w) w'') :
    Calls Tryz.prog 94 #[.slice ao n cap, .slice eao en ecap] w fun e w' => e = .returned (.tuple #[.int .i64 0, .int .i64 x]) ∧ Below w.heap.size w w' := by
  have hmf := hmakeFunc
  go_enter_defers Tryz.func94, Tryz.ntmps94
  go_wp2_with (go_at_call 111; refine heo.mono ?_; rintro e w2 ⟨rfl, hb2⟩; obtain ⟨c0, c1, f0, f1, hsz, hbw⟩ := e0_cells w hb2)
  go_region
  all_goals go_wp2_with fail
  all_goals
    refine leaves_cons (f := 110) (args := #[.pointer (some ⟨w.heap.size, 0, none⟩), .pointer (some ⟨w.heap.size + 1, 0, none⟩)]) (by simp) (by simp [go_sem]) ?_
    refine (ecatch_idle w.heap.size _).mono ?_
    rintro e u' w'' ⟨rfl, rfl, rfl⟩
    simp [Leaves, settle, results, Tryz.results94, go_sem, c0, c1]
    first
      | exact (((hbw.setCell (p := ⟨w.heap.size + 1, 0, none⟩) (by simp) _).drew).setCell (p := ⟨w.heap.size, 0, none⟩) (Nat.le_refl _) _).setCell (p := ⟨w.heap.size + 1, 0, none⟩) (by simp) _
      | exact (((hbw.setCell (p := ⟨w.heap.size + 1, 0, none⟩) (by simp) _).drew).setCell (p := ⟨w.heap.size + 1, 0, none⟩) (by simp) _).setCell (p := ⟨w.heap.size, 0, none⟩) (Nat.le_refl _) _
end Go.Proofs.YtdlpmomohbdpgaaGreatDoor

/-
  Plain mathematics of what comes behind a state. Nothing of the program is named here.
-/
namespace Go.Proofs.YtdlpmomohbdpgaaGreatDoor
open Terms Tm

/-- what an expression makes, and with what it is refused. -/
noncomputable def exN (l : List (Int × Int)) (env : List Int) : Int := evalN l (treeOf l) env
noncomputable def exC (l : List (Int × Int)) (env : List Int) : Int := evalC l (treeOf l) env
/-- does a truth hold? -/
noncomputable def holdsB (l : List (Int × Int)) (env : List Int) : Bool := decide (exC l env = 0) && decide (exN l env = 1)
/-- the values, so many sets done. -/
noncomputable def setTo (env : List Int) (sets : List St) : Nat → List Int
  | 0 => env
  | k + 1 => (setTo env sets k).set (sets.getD k st0).var.toNat (exN (sets.getD k st0).val env)
/-- one value, so many sets done. -/
noncomputable def setAt (env : List Int) (sets : List St) (i : Nat) : Nat → Int
  | 0 => env.getD i 0
  | k + 1 => if (sets.getD k st0).var = i then exN (sets.getD k st0).val env else setAt env sets i k
theorem setTo_length (env : List Int) (sets : List St) (k : Nat) : (setTo env sets k).length = env.length := by
  induction k with
  | zero => rfl
  | succ k ih => simp [setTo, ih]
theorem getD_set (l : List Int) (i j : Nat) (x : Int) (hi : i < l.length) : (l.set i x).getD j 0 = if i = j then x else l.getD j 0 := by
  simp only [List.getD_eq_getElem?_getD, List.getElem?_set]
  by_cases h : i = j
  · subst h; simp [hi]
  · simp [h]
theorem setTo_at {env : List Int} {sets : List St} {k : Nat} (h : ∀ j, j < k → 0 ≤ (sets.getD j st0).var ∧ (sets.getD j st0).var < env.length) (i : Nat) : (setTo env sets k).getD i 0 = setAt env sets i k := by
  induction k with
  | zero => rfl
  | succ k ih =>
    obtain ⟨h0, h1⟩ := h k (by omega)
    simp only [setTo, setAt]
    rw [getD_set _ _ _ _ (by rw [setTo_length]; omega), ih fun j hj => h j (by omega)]
    by_cases hk : (sets.getD k st0).var = i
    · rw [if_pos hk, if_pos (by omega)]
    · rw [if_neg hk, if_neg (by omega)]
/-- the values behind a rule. -/
noncomputable def behindL (env : List Int) (r : Ru) : List Int := setTo env r.sets r.sets.length
def setsOk (env : List Int) (r : Ru) : Prop := ∀ j, j < r.sets.length → exC (r.sets.getD j st0).val env = 0
open Classical in
/-- the state behind a rule, if it can be done. -/
noncomputable def ruleDo (vars : List Vr) (env : List Int) (r : Ru) : Option Int :=
  if holdsB r.guard env = true ∧ setsOk env r ∧ ∀ i, i < vars.length → inB vars (behindL env r) i then some (codeTo vars (behindL env r) vars.length) else none
def optN : Option Int → Int
  | some x => x
  | none => 0
def optC : Option Int → Int
  | some _ => 0
  | none => 11
theorem ruleDo_guard {vars : List Vr} {env : List Int} {r : Ru} (h : holdsB r.guard env = false) : ruleDo vars env r = none := by
  unfold ruleDo
  rw [if_neg (fun h2 => by rw [h] at h2; cases h2.1)]
theorem ruleDo_set {vars : List Vr} {env : List Int} {r : Ru} {j : Nat} (hj : j < r.sets.length) (h : exC (r.sets.getD j st0).val env ≠ 0) : ruleDo vars env r = none := by
  unfold ruleDo
  rw [if_neg (fun h2 => h (h2.2.1 j hj))]
theorem ruleDo_code {vars : List Vr} {env : List Int} {r : Ru} (h1 : holdsB r.guard env = true) (h2 : setsOk env r) (hl : env.length = vars.length) {m : Mo} (hm : mcode m = 0) (hv : m.vars = vars) :
    (ccode m (behindL env r) = 0 → ruleDo vars env r = some (cval m (behindL env r))) ∧ (ccode m (behindL env r) ≠ 0 → ruleDo vars env r = none) := by
  have hb : (behindL env r).length = m.vars.length := by unfold behindL; rw [setTo_length, hl, hv]
  subst hv
  by_cases hin : ∀ i, i < m.vars.length → inB m.vars (behindL env r) i
  · have hc := ccode_yes hm ⟨hb, hin⟩
    refine ⟨fun _ => ?_, fun h => absurd hc h⟩
    unfold ruleDo
    rw [if_pos ⟨h1, h2, hin⟩]
    unfold cval
    rw [if_pos hc]
  · have hc := ccode_no hm (vals := behindL env r) (fun h => hin h.2)
    refine ⟨fun h => (by rw [hc] at h; cases h), fun _ => ?_⟩
    unfold ruleDo
    rw [if_neg (fun h => hin h.2.2)]
/-- what is known of a rule that passes. -/
theorem rule_sets {vars : Int} {r : Ru} (h : rcode vars r = 0) : r.sets.length ≤ 6 ∧ ∀ j, j < r.sets.length → 0 ≤ (r.sets.getD j st0).var ∧ (r.sets.getD j st0).var < vars := by
  unfold rcode at h
  split at h
  · simp at h
  · rename_i h6
    refine ⟨by omega, fun j hj => ?_⟩
    split at h
    · have h1 := firstOf_zero h j hj
      unfold sAt at h1
      split at h1
      · simp at h1
      · rename_i h2; omega
    · rename_i h2; exact absurd h h2
theorem mcode_rules {m : Mo} (h : mcode m = 0) : m.rules.length ≤ 12 ∧ ∀ j, j < m.rules.length → rcode m.vars.length (m.rules.getD j ru0) = 0 := by
  unfold mcode at h
  split at h
  · split at h
    · simp at h
    · rename_i h1; exact ⟨by omega, firstOf_zero h⟩
  · rename_i h0; exact absurd h h0
theorem mcode_bare {m : Mo} (h : mcode m = 0) : mcode ⟨m.vars, []⟩ = 0 := by
  have hv : vcode m.vars = 0 := by
    unfold mcode at h
    split at h
    · assumption
    · rename_i h0; exact absurd h h0
  unfold mcode
  rw [if_pos hv]
  rfl
theorem valsL_length (l : List Vr) (c : Int) : (valsL l c).length = l.length := by simp [valsL]
end Go.Proofs.YtdlpmomohbdpgaaGreatDoor

/-
  The library's slices.Clone at lists of numbers: its contract at this program.
-/
namespace Go.Proofs.YtdlpmomohbdpgaaGreatDoor
open Go.Shelf Go.RowKit Go.Lib
def laysClone_ren : Go.Shelf.Ren := ⟨fun | 15 => 120 | n => n, fun | 22 => 40 | 3 => 3 | 4 => 4 | n => n, fun | n => n⟩
theorem laysClone : Go.Proofs.Lays2.n15 Tryz.prog laysClone_ren := {
  mixed := by kernel_rfl
  f15 := Tryz.func120.trans (congrArg some (by kernel_rfl))
  t3 := Tryz.underlying3
  a3 := Tryz.isAgg3
  z3 := Tryz.sizeOf3
  v3 := Tryz.zeroValue3
  t4 := Tryz.underlying4
  a4 := Tryz.isAgg4
  z4 := Tryz.sizeOf4
  v4 := Tryz.zeroValue4
  t22 := Tryz.underlying40
  a22 := Tryz.isAgg40
  z22 := Tryz.sizeOf40
  v22 := Tryz.zeroValue40
  i3 := by kernel_rfl }
/-- a copy of numbers that lie in a block of their own. -/
theorem clone_any (B : Nat) (l : List Int) (w : World) (hl : l.length ≤ 10000) (hr : w.rowIs B 3 l.length (fun j => .int .i64 (l.getD j 0))) :
    Calls Tryz.prog 120 #[.slice (some ⟨B, 0, none⟩) l.length l.length] w fun e w' => ∃ g cap, e = .returned (.slice (some ⟨g, 0, none⟩) l.length cap) ∧ w.heap.size ≤ g ∧ Below w.heap.size w w' ∧ w'.ownsRow w.heap.size 3 1 (.slice (some ⟨g, 0, none⟩) l.length cap) l.length (ivals l) := by
  have h : Calls Tryz.prog 120 #[.slice (some ⟨B, 0, none⟩) l.length l.length] w fun e w' => ∃ v', e = .returned v' ∧ w'.ownsRow w.heap.size 3 1 v' l.length ((l.take l.length).map (Value.int .i64)) ∧ v' ≠ .slice none 0 0 ∧ Below w.heap.size w w' :=
    Any.slices_Clone_int laysClone B 0 l.length l.length l w (Nat.le_refl _) (by omega) (fun j hj => by rw [Nat.zero_add]; exact hr.cell hj)
  refine h.mono fun e w' ⟨v', he, ho, hn, hb⟩ => ?_
  rw [List.take_length] at ho
  obtain ⟨g, cap, rfl, hg, _⟩ := Lib.holds_of_ownsRow ho hn
  exact ⟨g, cap, he, hg, hb, ho⟩
end Go.Proofs.YtdlpmomohbdpgaaGreatDoor

/-
  The contract of expr.Eval, where Check says yes.
-/
namespace Go.Proofs.YtdlpmomohbdpgaaGreatDoor
open Go.ChangeShapes Go.WideShapes Go.ChangeAt Go.RowKit Go.Deep
open Terms Tm

/-- the values, as they lie. -/
def EnvAt (w : World) (eao : Option Addr) (env : List Int) : Prop := ∀ i, i < env.length → ∃ eb eoff, eao = some ⟨eb, eoff, none⟩ ∧ eb < w.heap.size ∧ w.cell? ⟨eb, eoff + i, none⟩ = some (.int .i64 (env.getD i 0))
theorem EnvAt.later {w w' : World} {eao : Option Addr} {env : List Int} (h : EnvAt w eao env) (hb : Below w.heap.size w w') : EnvAt w' eao env := fun i hi => by
  obtain ⟨eb, eoff, e1, e2, e3⟩ := h i hi
  exact ⟨eb, eoff, e1, Nat.lt_of_lt_of_le e2 hb.size, (hb.cell (p := ⟨eb, eoff + i, none⟩) e2).trans e3⟩

def evalPost (env : List Int) (t : Tm) (w : World) (e : Ending) (w' : World) : Prop :=
  e = .returned (.tuple #[.int .i64 (if envBad env = true then 0 else match t.eval env with | some x => x | none => 0), .int .i64 (if envBad env = true then 2 else match t.eval env with | some _ => 0 | none => 8)]) ∧ Below w.heap.size w w'

set_option maxHeartbeats 3200000 in
theorem eval_yes (b off n cap : Nat) (eao : Option Addr) (en ecap : Nat) (t : Tm) (env : List Int) (w : World) (hn : n = t.size) (h60 : n ≤ 60) (hen : en = env.length) (hen6 : en ≤ 6) (hg : t.Good env.length) (hty : t.typed = true) (hbB : b < w.heap.size) (hA : OpsAt w b off t.ops) (hE : EnvAt w eao env)
    (heo : Calls Tryz.prog 111 #[.slice (some ⟨b, off, none⟩) n cap, .int .i64 en] (e0 w) fun e w' => Below (e0 w).heap.size (e0 w) w' ∧ ∃ B, (e0 w).heap.size ≤ B ∧ e = .returned (.tuple #[.slice (some ⟨B, 0, none⟩) n n, .int .i64 0]) ∧ w'.rowIs B 3 n (fun q => .int .i64 (endAt (t.ops.map Prod.fst) q))) :
    Calls Tryz.prog 94 #[.slice (some ⟨b, off, none⟩) n cap, .slice eao en ecap] w (evalPost env t w) := by
  have hmf := hmakeFunc
  have HE : Hid (EnvAt w eao env) := hE
  have HA : Hid (OpsAt w b off t.ops) := hA
  have HN : Hid (n = t.size ∧ t.Good env.length ∧ t.typed = true ∧ en = env.length) := ⟨hn, hg, hty, hen⟩
  have hn1 : 0 < n := by rw [hn]; exact t.size_pos
  have hzs : (e0 w).heap.size = w.heap.size + 1 + 1 := by simp [e0]
  clear hE hA hn hg hty hen
  go_enter_defers Tryz.func94, Tryz.ntmps94
  go_wp2_with (go_at_call 111; refine heo.mono ?_; rintro e w2 ⟨hb2, B, hBw, rfl, hrow⟩; obtain ⟨c0, c1, f0, f1, hsz, hbw⟩ := e0_cells w hb2)
  obtain ⟨W3, hW3⟩ : ∃ W3, W3 = w2.setCell ⟨w.heap.size + 1, 0, none⟩ (.int .i64 0) := ⟨_, rfl⟩
  have hb3 : Below w.heap.size w W3 := by rw [hW3]; exact hbw.setCell (p := ⟨w.heap.size + 1, 0, none⟩) (by simp) _
  have d0 : W3.cell? ⟨w.heap.size, 0, none⟩ = some (.int .i64 0) := by rw [hW3]; simp [go_sem, c0]
  have d1 : W3.cell? ⟨w.heap.size + 1, 0, none⟩ = some (.int .i64 0) := by rw [hW3]; simp [go_sem, c1]
  have g0 : W3.frozen? ⟨w.heap.size, 0, none⟩ = false := by rw [hW3]; simp [go_sem, f0]
  have g1 : W3.frozen? ⟨w.heap.size + 1, 0, none⟩ = false := by rw [hW3]; simp [go_sem, f1]
  have hrow3 : W3.rowIs B 3 n (fun q => .int .i64 (endAt (t.ops.map Prod.fst) q)) := by rw [hW3]; exact hrow.setOther (by simp; omega) _
  have hsz3 : w.heap.size + 1 < W3.heap.size := by rw [hW3]; simpa using hsz
  have HW3 := (show Hid _ from hW3)
  have HR : Hid (W3.rowIs B 3 n (fun q => .int .i64 (endAt (t.ops.map Prod.fst) q))) := hrow3
  rw [← hW3]
  clear hW3 hrow3 hrow heo hb2 c0 c1 f0 f1 hsz hbw HW3
  go_loop [23] (fun c => ∃ i : Nat, i ≤ en ∧ c = .int .i64 i ∧ Hid (∀ j, j < i → -1000000 ≤ env.getD j 0 ∧ env.getD j 0 ≤ 1000000)) (fun c => en - (intOf c).toNat)
  case atStart => exact ⟨0, Nat.zero_le _, rfl, fun j hj => by omega⟩
  case round =>
    obtain ⟨i, hi, rfl, HJ⟩ := hrel
    by_cases hlt : i < en
    · obtain ⟨eb, eoff, rfl, e2, e3⟩ := (HE.out.later hb3) i (by rw [← HN.out.2.2.2]; exact hlt)
      have htg := fun w => tooGreat_any (env.getD i 0) w
      by_cases hz : -1000000 ≤ env.getD i 0 ∧ env.getD i 0 ≤ 1000000
      · rw [show decide (¬ (-1000000 ≤ env.getD i 0 ∧ env.getD i 0 ≤ 1000000)) = false by simpa using hz] at htg
        have HJ2 : Hid (∀ j, j < i + 1 → -1000000 ≤ env.getD j 0 ∧ env.getD j 0 ≤ 1000000) := fun j hj => by
          by_cases hji : j < i
          · exact HJ.out j hji
          · obtain rfl : j = i := by omega
            exact hz
        clear hz
        generalize env.getD i 0 = x at e3 htg
        go_wp2_with (go_at_call 112; refine (htg _).mono ?_; rintro e w5 ⟨rfl, rfl⟩)
        go_round
        case rel => exact ⟨i + 1, by omega, by go_num, HJ2⟩
        case measure => simp [intOf]; omega
      · have HX : Hid (envBad env = true) := envBad_at (by rw [← HN.out.2.2.2]; exact hlt) hz
        generalize env.getD i 0 = x at e3 htg hz
        rw [show decide (¬ (-1000000 ≤ x ∧ x ≤ 1000000)) = true by simp; omega] at htg
        clear hz
        go_wp2_with (go_at_call 112; refine (htg _).mono ?_; rintro e w5 ⟨rfl, rfl⟩)
        refine leaves_cons (f := 110) (args := #[.pointer (some ⟨w.heap.size, 0, none⟩), .pointer (some ⟨w.heap.size + 1, 0, none⟩)]) (by simp) (by simp [go_sem]) ?_
        refine (ecatch_idle w.heap.size _).mono ?_
        rintro e u' w'' ⟨rfl, rfl, rfl⟩
        simp [Leaves, settle, results, Tryz.results94, go_sem, d0, d1]
        unfold evalPost
        rw [if_pos HX.out, if_pos HX.out]
        exact ⟨rfl, (hb3.setCell (p := ⟨w.heap.size, 0, none⟩) (Nat.le_refl _) _).setCell (p := ⟨w.heap.size + 1, 0, none⟩) (by simp) _⟩
    · have hin : i = en := by omega
      subst hin
      have hok : envBad env = false := envBad_ok (fun j hj => HJ.out j (by rw [HN.out.2.2.2]; exact hj))
      have HX : Hid (envBad env = false) := hok
      have hpm := pairMakers_any W3
      clear hlt hi
      go_wp2_with (go_at_call 113; refine hpm.mono ?_; rintro e W4 ⟨M, hM, rfl, hpa, hb4⟩)
      have hb5 : Below W3.heap.size W3 (W4.alloc (.cells #[.slice (some ⟨b, off, none⟩) n cap, .slice (some ⟨B, 0, none⟩) n n, .slice eao i ecap, .map (some M)] 164)) := hb4.alloc hb4.size _
      have hpa5 : PairsAt (W4.alloc (.cells #[.slice (some ⟨b, off, none⟩) n cap, .slice (some ⟨B, 0, none⟩) n n, .slice eao i ecap, .map (some M)] 164)) M := World.ownsMap.alloc hpa _
      have hwk : WorkAt (W4.alloc (.cells #[.slice (some ⟨b, off, none⟩) n cap, .slice (some ⟨B, 0, none⟩) n n, .slice eao i ecap, .map (some M)] 164)) b off B eao M t env := by
        have hbb := hb3.trans (hb5.mono hb3.size)
        refine ⟨Nat.lt_of_lt_of_le hbB hbb.size, HA.out.below hbb hbB, ?_, HE.out.later hbb, hpa5⟩
        have hr := HR.out
        rw [HN.out.1] at hr
        exact hr.of_block (hb5.block B hr.lt)
      generalize W4.alloc (.cells #[.slice (some ⟨b, off, none⟩) n cap, .slice (some ⟨B, 0, none⟩) n n, .slice eao i ecap, .map (some M)] 164) = W5 at *
      have hat := at_any b off n cap B eao i ecap M env.length t env HN.out.1 h60 HN.out.2.1 HN.out.2.2.1 (envBad_false hok) rfl HN.out.2.2.2 t.size 0 W5 hn1 (by rw [sub_zero]; omega) hwk
      rw [sub_zero] at hat
      have hs3 := hb3.size
      have hs5 := hb5.size
      clear hwk hpa hpa5 hok hpm hb4 HR
      cases hx : t.eval env with
      | none =>
        rw [hx] at hat
        have HXN : Hid (t.eval env = none) := hx
        clear hx
        refine hat.mono ?_
        rintro e w6 ⟨hb6, rfl⟩
        have hb36 := hb5.trans (hb6.mono hb5.size)
        have k0 := (hb36.cell (p := ⟨w.heap.size, 0, none⟩) (by simp only; omega)).trans d0
        have k1 := (hb36.cell (p := ⟨w.heap.size + 1, 0, none⟩) (by simp only; omega)).trans d1
        have z0 := (hb36.frozen (p := ⟨w.heap.size, 0, none⟩) (by simp only; omega)).trans g0
        have z1 := (hb36.frozen (p := ⟨w.heap.size + 1, 0, none⟩) (by simp only; omega)).trans g1
        have hbf := hb3.trans (hb36.mono hb3.size)
        refine leaves_cons (f := 110) (args := #[.pointer (some ⟨w.heap.size, 0, none⟩), .pointer (some ⟨w.heap.size + 1, 0, none⟩)]) (by simp) (by simp [go_sem]) ?_
        refine (ecatch_panicking w.heap.size 8 _ _ w6 k0 k1 z0 z1).mono ?_
        rintro e u' w'' ⟨rfl, rfl, rfl⟩
        simp [Leaves, settle, results, Tryz.results94, go_sem, k0, k1]
        unfold evalPost
        rw [if_neg (by rw [HX.out]; simp), if_neg (by rw [HX.out]; simp), HXN.out]
        exact ⟨rfl, (((hbf.setCell (p := ⟨w.heap.size, 0, none⟩) (Nat.le_refl _) _).setCell (p := ⟨w.heap.size + 1, 0, none⟩) (by simp) _)).drew⟩
      | some x =>
        rw [hx] at hat
        have HXN : Hid (t.eval env = some x) := hx
        clear hx
        refine hat.mono ?_
        rintro e w6 ⟨hb6, rfl⟩
        have hb36 := hb5.trans (hb6.mono hb5.size)
        have k0 := (hb36.cell (p := ⟨w.heap.size, 0, none⟩) (by simp only; omega)).trans d0
        have k1 := (hb36.cell (p := ⟨w.heap.size + 1, 0, none⟩) (by simp only; omega)).trans d1
        have z0 := (hb36.frozen (p := ⟨w.heap.size, 0, none⟩) (by simp only; omega)).trans g0
        have z1 := (hb36.frozen (p := ⟨w.heap.size + 1, 0, none⟩) (by simp only; omega)).trans g1
        have hbf := hb3.trans (hb36.mono hb3.size)
        clear d0 d1 g0 g1 hat
        go_wp2_with fail
        refine leaves_cons (f := 110) (args := #[.pointer (some ⟨w.heap.size, 0, none⟩), .pointer (some ⟨w.heap.size + 1, 0, none⟩)]) (by simp) (by simp [go_sem]) ?_
        refine (ecatch_idle w.heap.size _).mono ?_
        rintro e u' w'' ⟨rfl, rfl, rfl⟩
        simp [Leaves, settle, results, Tryz.results94, go_sem, k0, k1]
        unfold evalPost
        rw [if_neg (by rw [HX.out]; simp), if_neg (by rw [HX.out]; simp), HXN.out]
        exact ⟨rfl, (hbf.setCell (p := ⟨w.heap.size, 0, none⟩) (Nat.le_refl _) _).setCell (p := ⟨w.heap.size + 1, 0, none⟩) (by simp) _⟩

theorem IntsV.env {w : World} {v : Value} {env : List Int} (h : IntsV w v env) : ∃ eao ecap, v = .slice eao env.length ecap ∧ EnvAt w eao env := by
  obtain ⟨ao, cap, rfl, h⟩ := h
  refine ⟨ao, cap, rfl, fun i hi => ?_⟩
  obtain ⟨b, off, rfl, hlt, hat⟩ := h (by intro h; subst h; simp at hi)
  exact ⟨b, off, rfl, hlt, hat i hi⟩

/-- THE CONTRACT OF expr.Eval. -/
theorem eval_any (v ev : Value) (l : List (Int × Int)) (env : List Int) (t : Tm) (w : World) (hB : 0 < w.heap.size) (hT : TabAt w) (hV : OpsV w v l) (hE : IntsV w ev env) (ht : endsCode (l.map Prod.fst) = 0 → t.Wf ∧ t.ops = l) :
    Calls Tryz.prog 94 #[v, ev] w fun e w' => e = .returned (.tuple #[.int .i64 (evalN l t env), .int .i64 (evalC l t env)]) ∧ Below w.heap.size w w' := by
  have hb0 := e0_below w
  have heo := eo_any v l env.length t (e0 w) (Nat.lt_of_lt_of_le hB hb0.size) (hT.below hb0 hB) (hV.below hb0) ht
  obtain ⟨eao, ecap, rfl, hEA⟩ := hE.env
  by_cases hx : xcode env.length l t = 0
  · obtain ⟨h0, h6, hops, hg, htt, h60⟩ := xcode_zero hx ht
    subst hops
    obtain ⟨ao, cap, rfl, _, h⟩ := hV
    obtain ⟨b, off, rfl, hlt, hat⟩ := h t.ops_ne
    refine (eval_yes b off _ cap eao _ ecap t env w t.ops_length (by rw [ops_length]; exact h60) rfl (by omega) hg htt hlt hat hEA (heo.mono fun e w' ⟨h1, _, h3⟩ => ⟨h1, ?_⟩)).mono fun e w' ⟨h1, h2⟩ => ⟨?_, h2⟩
    · obtain ⟨B, p1, p2, p3⟩ := h3 hx
      exact ⟨B, p1, p2, p3⟩
    · rw [h1]
      simp only [evalN, evalC, hx, ne_eq, not_true_eq_false, if_false]
      all_goals (cases t.eval env <;> rfl)
  · obtain ⟨ao, cap, rfl, _, h⟩ := hV
    refine (eval_no ao _ cap eao _ ecap _ w hx (heo.mono fun e w' ⟨h1, h2, _⟩ => ⟨h2 hx, h1⟩)).mono fun e w' ⟨h1, h2⟩ => ⟨?_, h2⟩
    rw [h1]
    unfold evalN evalC
    rw [if_pos hx, if_pos hx]
end Go.Proofs.YtdlpmomohbdpgaaGreatDoor

/-
  The contracts of the program's countOf, Count.
-/
namespace Go.Proofs.YtdlpmomohbdpgaaGreatDoor
open Go.ChangeShapes Go.WideShapes Go.ChangeAt Go.RowKit Go.Deep
open Terms Tm

set_option maxRecDepth 20000 in
set_option maxHeartbeats 1600000 in
theorem countOf_any (va : Value) (l : List Vr) (w : World) (hok : VarsOk l) (hV : VarsV w va l) :
    Calls Tryz.prog 93 #[va] w fun e w' => e = .returned (.int .i64 (prodTo l l.length)) ∧ Below w.heap.size w w' := by
  obtain ⟨ao, cap, rfl⟩ := hV.shape
  have HV : Hid (VarsV w (.slice ao l.length cap) l) := hV
  have HOK : Hid (VarsOk l) := hok
  have h6 := hok.1
  obtain ⟨n, hn⟩ : ∃ n, n = l.length := ⟨_, rfl⟩
  have HN : Hid (n = l.length) := hn
  rw [← hn] at h6 HV ⊢
  clear hV hn hok
  go_enter Tryz.func93, Tryz.ntmps93
  go_wp2
  go_loopw [3, 8] (fun st i wr => ∃ k : Nat, k ≤ n ∧ i = .int .i64 k ∧ st = .int .i64 (prodTo l k) ∧ Below w.heap.size w wr) (fun _ i _ => n - (intOf i).toNat)
  case atStart => exact ⟨0, Nat.zero_le _, rfl, rfl, Below.refl _ _⟩
  case round =>
    obtain ⟨k, hk, rfl, rfl, hbel⟩ := hrel
    by_cases hlt : k < n
    · obtain ⟨b, off, rfl, hblt, hat⟩ := HV.out.at (i := k) (by rw [← HN.out]; exact hlt)
      obtain ⟨c0, c1, c2, c3⟩ := hat.below hbel hblt
      have hpb := HOK.out.prod (j := k) (by rw [← HN.out]; exact hk)
      have hvb := HOK.out.at (j := k) (by rw [← HN.out]; exact hlt)
      have HPr : Hid (prodTo l (k + 1) = prodTo l k * vspan (l.getD k vr0)) := rfl
      generalize prodTo l k = st at *
      generalize l.getD k vr0 = x at *
      obtain ⟨s, lo, hi, ini⟩ := x
      simp only [vspan] at c0 c1 c2 c3 HPr hvb
      obtain ⟨hv1, hv2, hv3, hv4, hv5, hv6, hv7⟩ := hvb
      have hsp := fun w => span_any s lo hi ini w hv3 hv4 hv5
      obtain ⟨sp, hspe⟩ : ∃ sp, hi - lo + 1 = sp := ⟨_, rfl⟩
      rw [hspe] at hv1 hv2 hsp HPr
      clear hspe hat
      have hm1 : 1 ≤ st * sp := by have := Int.mul_le_mul hpb.1 hv1 (by omega) (by omega); simpa using this
      have hm2 : st * sp ≤ 262144 := by have := Int.mul_le_mul hpb.2 hv2 (by omega) (by omega); simpa using this
      have hbA := hbel.alloc hbel.size (.cells #[.string s, .int .i64 lo, .int .i64 hi, .int .i64 ini] 112)
      go_wp2_with (go_at_call 92; refine (hsp _).mono ?_; rintro e w3 ⟨rfl, hb3⟩)
      go_roundw
      case rel => exact ⟨k + 1, hlt, by go_num, by rw [HPr.out], hbA.trans (hb3.mono hbA.size)⟩
      case measure => simp [intOf]; omega
    · have hkn : k = n := by omega
      subst hkn
      go_wp2
      go_ret
      exact ⟨rfl, hbel⟩

end Go.Proofs.YtdlpmomohbdpgaaGreatDoor

/-
  The contracts of the program's codeOf, Code.
-/
namespace Go.Proofs.YtdlpmomohbdpgaaGreatDoor
open Go.ChangeShapes Go.WideShapes Go.ChangeAt Go.RowKit Go.Deep
open Terms Tm

set_option maxRecDepth 20000 in
set_option maxHeartbeats 1600000 in
theorem codeOf_any (va vv : Value) (l : List Vr) (vals : List Int) (w : World) (hok : VarsOk l) (hlen : vals.length = l.length) (hin : ∀ i, i < l.length → inB l vals i) (hV : VarsV w va l) (hI : IntsV w vv vals) :
    Calls Tryz.prog 73 #[va, vv] w fun e w' => e = .returned (.int .i64 (codeTo l vals l.length)) ∧ Below w.heap.size w w' := by
  obtain ⟨ao, cap, rfl⟩ := hV.shape
  obtain ⟨io, icap, rfl⟩ := hI.shape
  have HV : Hid (VarsV w (.slice ao l.length cap) l) := hV
  have HI : Hid (IntsV w (.slice io vals.length icap) vals) := hI
  have HOK : Hid (VarsOk l) := hok
  have HIN : Hid (∀ i, i < l.length → inB l vals i) := hin
  have HLen : Hid (vals.length = l.length) := hlen
  have h6 := hok.1
  obtain ⟨n, hn⟩ : ∃ n, n = l.length := ⟨_, rfl⟩
  have HN : Hid (n = l.length) := hn
  rw [hlen, ← hn] at HI
  rw [hlen, ← hn]
  rw [← hn] at h6 HV
  clear hV hI hn hok hin hlen
  go_enter Tryz.func73, Tryz.ntmps73
  go_wp2
  go_loopw [5, 10] (fun st i wr => ∃ k : Nat, k ≤ n ∧ i = .int .i64 k ∧ st = .int .i64 (codeTo l vals k) ∧ Below w.heap.size w wr) (fun _ i _ => n - (intOf i).toNat)
  case atStart => exact ⟨0, Nat.zero_le _, rfl, rfl, Below.refl _ _⟩
  case round =>
    obtain ⟨k, hk, rfl, rfl, hbel⟩ := hrel
    by_cases hlt : k < n
    · obtain ⟨b, off, rfl, hblt, hat⟩ := HV.out.at (i := k) (by rw [← HN.out]; exact hlt)
      obtain ⟨ib, ioff, rfl, hilt, hic⟩ := HI.out.at (i := k) (by rw [HLen.out, ← HN.out]; exact hlt)
      obtain ⟨c0, c1, c2, c3⟩ := hat.below hbel hblt
      have hic2 := (hbel.cell (p := ⟨ib, ioff + k, none⟩) hilt).trans hic
      have hcb := code_bounds HOK.out (k := k) (by rw [← HN.out]; exact hk) (fun i hi => HIN.out i (by rw [← HN.out]; omega))
      have hpb := HOK.out.prod (j := k) (by rw [← HN.out]; exact hk)
      have hvb := HOK.out.at (j := k) (by rw [← HN.out]; exact hlt)
      have hxb := HIN.out k (by rw [← HN.out]; exact hlt)
      have HPr : Hid (codeTo l vals (k + 1) = codeTo l vals k * vspan (l.getD k vr0) + (vals.getD k 0 - (l.getD k vr0).lo)) := rfl
      unfold inB at hxb
      generalize codeTo l vals k = st at *
      generalize prodTo l k = pr at *
      generalize l.getD k vr0 = x at *
      generalize vals.getD k 0 = y at *
      obtain ⟨s, lo, hi, ini⟩ := x
      simp only [vspan] at c0 c1 c2 c3 HPr hvb hxb
      obtain ⟨hv1, hv2, hv3, hv4, hv5, hv6, hv7⟩ := hvb
      have hsp := fun w => span_any s lo hi ini w hv3 hv4 hv5
      obtain ⟨sp, hspe⟩ : ∃ sp, hi - lo + 1 = sp := ⟨_, rfl⟩
      rw [hspe] at hv1 hv2 hsp HPr
      clear hspe hat hic
      have hm1 : 0 ≤ st * sp := Int.mul_nonneg hcb.1 (by omega)
      have hm2 : st * sp ≤ 262144 := by
        have h1 : st ≤ 4096 := by omega
        have := Int.mul_le_mul h1 hv2 (by omega) (by omega); simpa using this
      have hw1 : IntKind.i64.wrap (st * sp) = st * sp := wr64 (by omega) (by omega)
      have hw2 : IntKind.i64.wrap (st * sp + y) = st * sp + y := wr64 (by omega) (by omega)
      have hw3 : IntKind.i64.wrap (st * sp + y - lo) = st * sp + y - lo := wr64 (by omega) (by omega)
      have hszw := hbel.size
      have hbA := hbel.alloc hszw (.cells #[.string s, .int .i64 lo, .int .i64 hi, .int .i64 ini] 112)
      have hic3 := (((Below.refl wr.heap.size wr).alloc (Nat.le_refl _) (.cells #[.string s, .int .i64 lo, .int .i64 hi, .int .i64 ini] 112)).cell (p := ⟨ib, ioff + k, none⟩) (by simp only; omega)).trans hic2
      have hi0 : (0 : Int) ≤ (k : Int) := Int.natCast_nonneg _
      have hi1 : (k : Int) < (n : Int) := by omega
      have hS0 : ∀ w', Below (wr.heap.size + 1) (wr.alloc (.cells #[.string s, .int .i64 lo, .int .i64 hi, .int .i64 ini] 112)) w' → w'.cell? ⟨wr.heap.size, 0, none⟩ = some (.string s) ∧ w'.cell? ⟨wr.heap.size, 1, none⟩ = some (.int .i64 lo) ∧ w'.cell? ⟨wr.heap.size, 2, none⟩ = some (.int .i64 hi) ∧ w'.cell? ⟨wr.heap.size, 3, none⟩ = some (.int .i64 ini) ∧ w'.cell? ⟨ib, ioff + k, none⟩ = some (.int .i64 y) := fun w' hw' =>
        ⟨(hw'.cell (p := ⟨wr.heap.size, 0, none⟩) (by simp)).trans (by simp [go_sem]), (hw'.cell (p := ⟨wr.heap.size, 1, none⟩) (by simp)).trans (by simp [go_sem]), (hw'.cell (p := ⟨wr.heap.size, 2, none⟩) (by simp)).trans (by simp [go_sem]), (hw'.cell (p := ⟨wr.heap.size, 3, none⟩) (by simp)).trans (by simp [go_sem]), (hw'.cell (p := ⟨ib, ioff + k, none⟩) (by simp only; omega)).trans hic3⟩
      have hB0 : Below (wr.heap.size + 1) (wr.alloc (.cells #[.string s, .int .i64 lo, .int .i64 hi, .int .i64 ini] 112)) (wr.alloc (.cells #[.string s, .int .i64 lo, .int .i64 hi, .int .i64 ini] 112)) := Below.refl _ _
      clear hic3 hic2
      go_wp2_with fail
      go_region_held3 (fun w' => w'.cell? ⟨wr.heap.size, 0, none⟩ = some (.string s) ∧ w'.cell? ⟨wr.heap.size, 1, none⟩ = some (.int .i64 lo) ∧ w'.cell? ⟨wr.heap.size, 2, none⟩ = some (.int .i64 hi) ∧ w'.cell? ⟨wr.heap.size, 3, none⟩ = some (.int .i64 ini) ∧ w'.cell? ⟨ib, ioff + k, none⟩ = some (.int .i64 y))
        (exact hS0 _ (by first | exact hB0 | exact hB0.drew | exact hB0.drew.trans (hb2.mono (by simp))))
        (first | (go_at_call 92; refine (hsp _).mono ?_; rintro e w2 ⟨rfl, hb2⟩))
      go_wp2_with fail
      go_roundw
      case rel => exact ⟨k + 1, hlt, by go_num, by rw [HPr.out]; first | (congr 1; omega) | (simp [hw1, hw2, hw3]; omega), hbA.drew.trans (hb2.mono (by simp; omega))⟩
      case measure => simp [intOf]; omega
    · have hkn : k = n := by omega
      subst hkn
      go_wp2
      go_ret
      exact ⟨rfl, hbel⟩
set_option maxRecDepth 20000 in
theorem mcode_bad (va vr vv : Value) (m : Mo) (w : World) (hB : 0 < w.heap.size) (hT : TabAt w) (hV : ModelV w va vr m) (io : Option Addr) (il ic : Nat) (hv : vv = .slice io il ic) (h : mcode m ≠ 0) :
    Calls Tryz.prog 121 #[.agg #[va, vr], vv] w fun e w' => e = .returned (.tuple #[.int .i64 0, .int .i64 (mcode m)]) ∧ Below w.heap.size w w' := by
  subst hv
  have hA : ∀ o, Below w.heap.size w (w.alloc o) := fun o => (Below.refl _ _).alloc (Nat.le_refl _) o
  have hch := fun o => mcheck_any va vr m (w.alloc o) (Nat.lt_of_lt_of_le hB (hA o).size) (hT.below (hA o) hB) (hV.below (hA o))
  obtain ⟨ao, cap, rfl⟩ := hV.1.shape
  obtain ⟨ro, rc, rfl⟩ := hV.2.shape
  generalize mcode m = x at *
  generalize m.vars.length = n at *
  generalize m.rules.length = rn at *
  clear hV hT
  go_enter Tryz.func121, Tryz.ntmps121
  go_wp2_with (go_at_call 72; refine (hch _).mono ?_; rintro e w1 ⟨rfl, hb1⟩)
  go_ret2
  exact ⟨rfl, (hA _).trans (hb1.mono (hA _).size)⟩
set_option maxRecDepth 20000 in
theorem mcode_len (va vr vv : Value) (m : Mo) (w : World) (hB : 0 < w.heap.size) (hT : TabAt w) (hV : ModelV w va vr m) (io : Option Addr) (il ic : Nat) (hv : vv = .slice io il ic) (h : mcode m = 0) (hl : il ≠ m.vars.length) :
    Calls Tryz.prog 121 #[.agg #[va, vr], vv] w fun e w' => e = .returned (.tuple #[.int .i64 0, .int .i64 9]) ∧ Below w.heap.size w w' := by
  subst hv
  have hA : ∀ o, Below w.heap.size w (w.alloc o) := fun o => (Below.refl _ _).alloc (Nat.le_refl _) o
  have hch := fun o => mcheck_any va vr m (w.alloc o) (Nat.lt_of_lt_of_le hB (hA o).size) (hT.below (hA o) hB) (hV.below (hA o))
  rw [h] at hch
  obtain ⟨ao, cap, rfl⟩ := hV.1.shape
  obtain ⟨ro, rc, rfl⟩ := hV.2.shape
  generalize m.vars.length = n at *
  generalize m.rules.length = rn at *
  have hne : ((il : Int) == (n : Int)) = false := by rw [beq_eq_false_iff_ne]; omega
  clear hV hT h
  go_enter Tryz.func121, Tryz.ntmps121
  go_wp2_with (go_at_call 72; refine (hch _).mono ?_; rintro e w1 ⟨rfl, hb1⟩; have hcb : w1.cell? ⟨w.heap.size, 0, none⟩ = some (.slice ao n cap) := (hb1.cell (p := ⟨w.heap.size, 0, none⟩) (by simp)).trans (by simp [go_sem]))
  all_goals first | (exfalso; omega) | go_ret2
  all_goals exact ⟨rfl, (hA _).trans (hb1.mono (hA _).size)⟩

set_option maxRecDepth 20000 in
set_option maxHeartbeats 1600000 in
theorem mcode_loop (va vr vv : Value) (m : Mo) (vals : List Int) (w : World) (hB : 0 < w.heap.size) (hT : TabAt w) (hV : ModelV w va vr m) (hI : IntsV w vv vals) (h : mcode m = 0) (hlen : vals.length = m.vars.length) :
    Calls Tryz.prog 121 #[.agg #[va, vr], vv] w fun e w' => e = .returned (.tuple #[.int .i64 (cval m vals), .int .i64 (ccode m vals)]) ∧ Below w.heap.size w w' := by
  have hA : ∀ o, Below w.heap.size w (w.alloc o) := fun o => (Below.refl _ _).alloc (Nat.le_refl _) o
  have hch := fun o => mcheck_any va vr m (w.alloc o) (Nat.lt_of_lt_of_le hB (hA o).size) (hT.below (hA o) hB) (hV.below (hA o))
  rw [h] at hch
  have hok := mcode_vars h
  have h6 := hok.1
  have hcf := (fun w1 (hb : Below w.heap.size w w1) (hin : ∀ i, i < m.vars.length → inB m.vars vals i) => codeOf_any va vv m.vars vals w1 hok hlen hin (hV.1.below hb) (hI.below hb))
  obtain ⟨ao, cap, rfl⟩ := hV.1.shape
  obtain ⟨ro, rc, rfl⟩ := hV.2.shape
  obtain ⟨io, icap, rfl⟩ := hI.shape
  have HCF := (show Hid _ from hcf)
  have HV : Hid (VarsV w (.slice ao m.vars.length cap) m.vars) := hV.1
  have HI : Hid (IntsV w (.slice io vals.length icap) vals) := hI
  have HYes : Hid ((∀ i, i < m.vars.length → inB m.vars vals i) → ccode m vals = 0 ∧ cval m vals = codeTo m.vars vals m.vars.length) := fun hin => by
    have h1 := ccode_yes h ⟨hlen, hin⟩
    exact ⟨h1, by unfold cval; rw [if_pos h1]⟩
  have HNo : Hid (∀ k, k < m.vars.length → ¬ inB m.vars vals k → ccode m vals = 9 ∧ cval m vals = 0) := fun k hk hin => by
    have h1 := ccode_no h (vals := vals) (fun h => hin (h.2 k hk))
    exact ⟨h1, by unfold cval; rw [h1, if_neg (by decide)]⟩
  have HLen : Hid (vals.length = m.vars.length) := hlen
  obtain ⟨n, hn⟩ : ∃ n, n = m.vars.length := ⟨_, rfl⟩
  have HN : Hid (n = m.vars.length) := hn
  rw [hlen] at HCF HI ⊢
  rw [← hn] at h6 hch HCF HV HI HYes HNo ⊢
  generalize m.rules.length = rn at *
  generalize ccode m vals = cc at *
  generalize cval m vals = cv at *
  clear hV hI hT hcf hlen hn hok h
  go_enter Tryz.func121, Tryz.ntmps121
  go_wp2_with (go_at_call 72; refine (hch _).mono ?_; rintro e w1 ⟨rfl, hb1⟩; have hcb : w1.cell? ⟨w.heap.size, 0, none⟩ = some (.slice ao n cap) := (hb1.cell (p := ⟨w.heap.size, 0, none⟩) (by simp)).trans (by simp [go_sem]))
  have hb1' : Below (w.heap.size + 1) (w.alloc (.cells #[.slice ao n cap, .slice ro rn rc] 25)) w1 := hb1.mono (by simp)
  clear hch hcb hb1
  go_loopw [23] (fun i wr => ∃ k : Nat, k ≤ n ∧ i = .int .i64 k ∧ Hid (∀ i, i < k → inB m.vars vals i) ∧ Below (w.heap.size + 1) (w.alloc (.cells #[.slice ao n cap, .slice ro rn rc] 25)) wr) (fun i _ => n - (intOf i).toNat)
  case atStart => exact ⟨0, Nat.zero_le _, rfl, fun j hj => by omega, hb1'⟩
  case round =>
    obtain ⟨k, hk, rfl, HJ, hbelB⟩ := hrel
    clear hb1'
    have hbel := (hA _).trans (hbelB.mono (Nat.le_succ _))
    have hszb : w.heap.size + 1 ≤ wr.heap.size := by have := hbelB.size; simp at this; omega
    have cb := (hbelB.cell (p := ⟨w.heap.size, 0, none⟩) (by simp)).trans (show _ = some (.slice ao n cap) by simp [go_sem])
    by_cases hlt : k < n
    · obtain ⟨b, off, rfl, hblt, hat⟩ := HV.out.at (i := k) (by rw [← HN.out]; exact hlt)
      obtain ⟨ib, ioff, rfl, hilt, hic⟩ := HI.out.at (i := k) (by rw [HLen.out, ← HN.out]; exact hlt)
      obtain ⟨c0, c1, c2, c3⟩ := hat.below hbel hblt
      have hic2 := (hbel.cell (p := ⟨ib, ioff + k, none⟩) hilt).trans hic
      have HNk := (show Hid _ from HNo.out k hlt)
      have HJ2 : Hid (inB m.vars vals k → ∀ i, i < k + 1 → inB m.vars vals i) := fun h i hi => by
        by_cases hik : i = k
        · subst hik; exact h
        · exact HJ.out i (by omega)
      unfold inB at HNk
      have HJ3 : Hid ((m.vars.getD k vr0).lo ≤ vals.getD k 0 ∧ vals.getD k 0 ≤ (m.vars.getD k vr0).hi → ∀ i, i < k + 1 → inB m.vars vals i) := fun h => HJ2.out h
      generalize m.vars.getD k vr0 = x at *
      generalize vals.getD k 0 = y at *
      obtain ⟨s, lo, hi, ini⟩ := x
      simp only at c0 c1 c2 c3 HNk HJ3
      have hwi := fun w => within_any s lo hi ini y w
      clear hat hic HJ2 HJ
      have hbA := hbelB.alloc hszb (.cells #[.string s, .int .i64 lo, .int .i64 hi, .int .i64 ini] 112)
      have hbwA := (hA _).trans (hbA.mono (Nat.le_succ _))
      have hic3 := (((Below.refl wr.heap.size wr).alloc (Nat.le_refl _) (.cells #[.string s, .int .i64 lo, .int .i64 hi, .int .i64 ini] 112)).cell (p := ⟨ib, ioff + k, none⟩) (by simp only; omega)).trans hic2
      have hi0 : (0 : Int) ≤ (k : Int) := Int.natCast_nonneg _
      have hi1 : (k : Int) < (n : Int) := by omega
      have hS0 : ∀ w', Below (wr.heap.size + 1) (wr.alloc (.cells #[.string s, .int .i64 lo, .int .i64 hi, .int .i64 ini] 112)) w' → w'.cell? ⟨wr.heap.size, 0, none⟩ = some (.string s) ∧ w'.cell? ⟨wr.heap.size, 1, none⟩ = some (.int .i64 lo) ∧ w'.cell? ⟨wr.heap.size, 2, none⟩ = some (.int .i64 hi) ∧ w'.cell? ⟨wr.heap.size, 3, none⟩ = some (.int .i64 ini) ∧ w'.cell? ⟨ib, ioff + k, none⟩ = some (.int .i64 y) := fun w' hw' =>
        ⟨(hw'.cell (p := ⟨wr.heap.size, 0, none⟩) (by simp)).trans (by simp [go_sem]), (hw'.cell (p := ⟨wr.heap.size, 1, none⟩) (by simp)).trans (by simp [go_sem]), (hw'.cell (p := ⟨wr.heap.size, 2, none⟩) (by simp)).trans (by simp [go_sem]), (hw'.cell (p := ⟨wr.heap.size, 3, none⟩) (by simp)).trans (by simp [go_sem]), (hw'.cell (p := ⟨ib, ioff + k, none⟩) (by simp only; omega)).trans hic3⟩
      have hB0 : Below (wr.heap.size + 1) (wr.alloc (.cells #[.string s, .int .i64 lo, .int .i64 hi, .int .i64 ini] 112)) (wr.alloc (.cells #[.string s, .int .i64 lo, .int .i64 hi, .int .i64 ini] 112)) := Below.refl _ _
      clear hic3 hic2
      by_cases hin : lo ≤ y ∧ y ≤ hi
      · rw [decide_eq_true hin] at hwi
        have HJ4 := (show Hid _ from HJ3.out hin)
        clear hin HJ3 HNk HNo HYes HCF
        go_wp2_with fail
        go_region_held3 (fun w' => w'.cell? ⟨wr.heap.size, 0, none⟩ = some (.string s) ∧ w'.cell? ⟨wr.heap.size, 1, none⟩ = some (.int .i64 lo) ∧ w'.cell? ⟨wr.heap.size, 2, none⟩ = some (.int .i64 hi) ∧ w'.cell? ⟨wr.heap.size, 3, none⟩ = some (.int .i64 ini) ∧ w'.cell? ⟨ib, ioff + k, none⟩ = some (.int .i64 y))
          (exact hS0 _ (by first | exact hB0 | exact hB0.drew | exact hB0.drew.trans (hb2.mono (by simp))))
          (first | (go_at_call 124; refine (hwi _).mono ?_; rintro e w2 ⟨rfl, hb2⟩))
        go_wp2_with fail
        go_roundw
        case rel => exact ⟨k + 1, hlt, by go_num, HJ4, hbA.drew.trans (hb2.mono (by simp; omega))⟩
        case measure => simp [intOf]; omega
      · rw [decide_eq_false hin] at hwi
        have HR := (show Hid _ from HNk.out hin)
        clear hin HJ3 HNk HNo HYes HCF
        go_wp2_with fail
        go_region_held3 (fun w' => w'.cell? ⟨wr.heap.size, 0, none⟩ = some (.string s) ∧ w'.cell? ⟨wr.heap.size, 1, none⟩ = some (.int .i64 lo) ∧ w'.cell? ⟨wr.heap.size, 2, none⟩ = some (.int .i64 hi) ∧ w'.cell? ⟨wr.heap.size, 3, none⟩ = some (.int .i64 ini) ∧ w'.cell? ⟨ib, ioff + k, none⟩ = some (.int .i64 y))
          (exact hS0 _ (by first | exact hB0 | exact hB0.drew | exact hB0.drew.trans (hb2.mono (by simp))))
          (first | (go_at_call 124; refine (hwi _).mono ?_; rintro e w2 ⟨rfl, hb2⟩))
        go_wp2_with fail
        go_ret2
        rw [HR.out.1, HR.out.2]
        exact ⟨rfl, hbwA.drew.trans (hb2.mono hbwA.size)⟩
    · have hkn : k = n := by omega
      subst hkn
      have HR := (show Hid _ from HYes.out HJ.out)
      have hcf := HCF.out wr hbel HJ.out
      generalize codeTo m.vars vals k = cd at *
      clear HJ HYes HNo HCF
      go_wp2_with (go_at_call 73; refine hcf.mono ?_; rintro e w2 ⟨rfl, hb2⟩)
      go_ret2
      rw [HR.out.1, HR.out.2]
      exact ⟨rfl, hbel.trans (hb2.mono hbel.size)⟩

set_option maxRecDepth 20000 in
/-- THE CONTRACT OF Code. -/
theorem mcodes_any (va vr vv : Value) (m : Mo) (vals : List Int) (w : World) (hB : 0 < w.heap.size) (hT : TabAt w) (hV : ModelV w va vr m) (hI : IntsV w vv vals) :
    Calls Tryz.prog 121 #[.agg #[va, vr], vv] w fun e w' => e = .returned (.tuple #[.int .i64 (cval m vals), .int .i64 (ccode m vals)]) ∧ Below w.heap.size w w' := by
  obtain ⟨io, ic, hv⟩ := hI.shape
  by_cases h : mcode m = 0
  · by_cases hl : vals.length = m.vars.length
    · exact mcode_loop va vr vv m vals w hB hT hV hI h hl
    · have h9 := ccode_no h (vals := vals) (fun h => hl h.1)
      unfold cval
      rw [h9, if_neg (by decide)]
      exact mcode_len va vr vv m w hB hT hV io _ ic hv h hl
  · have h9 := ccode_bad (vals := vals) h
    unfold cval
    rw [h9, if_neg h]
    exact mcode_bad va vr vv m w hB hT hV io _ ic hv h
end Go.Proofs.YtdlpmomohbdpgaaGreatDoor

/-
  The contracts of package step's inner functions: holds, withoutRules, doRule.
-/
namespace Go.Proofs.YtdlpmomohbdpgaaGreatDoor
open Go.ChangeShapes Go.WideShapes Go.ChangeAt Go.RowKit Go.Deep
open Terms Tm

/-- THE CONTRACT OF expr.Eval, in the step's words. -/
theorem ex_any (v ev : Value) (l : List (Int × Int)) (env : List Int) (w : World) (hB : 0 < w.heap.size) (hT : TabAt w) (hV : OpsV w v l) (hE : IntsV w ev env) :
    Calls Tryz.prog 94 #[v, ev] w fun e w' => e = .returned (.tuple #[.int .i64 (exN l env), .int .i64 (exC l env)]) ∧ Below w.heap.size w w' :=
  eval_any v ev l env (treeOf l) w hB hT hV hE (treeOf_spec l)

set_option maxHeartbeats 800000 in
/-- THE CONTRACT OF holds. -/
theorem sholds_any (v ev : Value) (l : List (Int × Int)) (env : List Int) (w : World) (hB : 0 < w.heap.size) (hT : TabAt w) (hV : OpsV w v l) (hE : IntsV w ev env) :
    Calls Tryz.prog 76 #[v, ev] w fun e w' => e = .returned (.bool (holdsB l env)) ∧ Below w.heap.size w w' := by
  have hx := ex_any v ev l env w hB hT hV hE
  unfold holdsB
  generalize exN l env = n at hx ⊢
  generalize exC l env = c at hx ⊢
  clear hV hE hT
  go_enter Tryz.func76, Tryz.ntmps76
  go_wp2_with (go_at_call 94; refine hx.mono ?_; rintro e w1 ⟨rfl, hb1⟩)
  all_goals go_ret
  all_goals exact ⟨by first | (simp [*]; done) | (simp [*]; by_cases h1 : n = 1 <;> simp [h1]), hb1⟩

/-- THE CONTRACT OF withoutRules. -/
theorem bare_any (ao ro : Option Addr) (n cap rn rc : Nat) (w : World) :
    Calls Tryz.prog 75 #[.agg #[.slice ao n cap, .slice ro rn rc]] w fun e w' => e = .returned (.agg #[.slice ao n cap, .slice none 0 0]) ∧ Below w.heap.size w w' := by
  go_enter Tryz.func75, Tryz.ntmps75
  go_wp2_with fail
  exact bodyPost_ret (v := .agg #[.slice ao n cap, .slice none 0 0]) (by simp [results, Tryz.results75, go_sem]) rfl ⟨rfl, ((Below.refl _ _).alloc (Nat.le_refl _) _).alloc (by simp) _⟩

set_option maxHeartbeats 3200000 in
set_option maxRecDepth 20000 in
/-- THE CONTRACT OF doRule. -/
theorem doRule_any (va vr gv sv : Value) (B : Nat) (m : Mo) (env : List Int) (r : Ru) (w : World) (hB : 0 < w.heap.size) (hT : TabAt w) (hV : ModelV w va vr m) (hm : mcode m = 0) (hr : rcode m.vars.length r = 0) (he : env.length = m.vars.length)
    (hrow : w.rowIs B 3 env.length (fun j => .int .i64 (env.getD j 0))) (hg : OpsV w gv r.guard) (hs : SetsV w sv r.sets) :
    Calls Tryz.prog 102 #[.agg #[va, vr], .slice (some ⟨B, 0, none⟩) env.length env.length, .agg #[gv, sv]] w fun e w' => e = .returned (.tuple #[.int .i64 (optN (ruleDo m.vars env r)), .int .i64 (optC (ruleDo m.vars env r))]) ∧ Below w.heap.size w w' := by
  obtain ⟨h6, hsv⟩ := rule_sets hr
  have hv6 := (mcode_vars hm).1
  obtain ⟨ao, cap, rfl⟩ := hV.1.shape
  obtain ⟨ro, rc, rfl⟩ := hV.2.shape
  obtain ⟨go, gc, rfl⟩ := hg.shape
  obtain ⟨so, sc, rfl⟩ := hs.shape
  have hA2 : ∀ o o', Below w.heap.size w ((w.alloc o).alloc o') := fun o o' => ((Below.refl _ _).alloc (Nat.le_refl _) o).alloc (by simp) o'
  have hI : IntsV w (.slice (some ⟨B, 0, none⟩) env.length env.length) env := by
    have h1 := intsV_of_row hrow
    have e1 : (List.range env.length).map (fun j => env.getD j 0) = env := by
      apply List.ext_getElem?
      intro i
      by_cases hi : i < env.length
      · simp [hi, List.getD_eq_getElem?_getD]
      · simp [hi]
    rwa [e1] at h1
  have hho := fun w' (hb : Below w.heap.size w w') => sholds_any (.slice go r.guard.length gc) (.slice (some ⟨B, 0, none⟩) env.length env.length) r.guard env w' (Nat.lt_of_lt_of_le hB hb.size) (hT.below hb hB) (hg.below hb) (hI.below hb)
  have hcl := fun w' (hb : Below w.heap.size w w') => clone_any B env w' (by omega) (row_later hrow hb)
  have HEx : Hid (∀ w' (_ : Below w.heap.size w w') v l, OpsV w' v l → Calls Tryz.prog 94 #[v, .slice (some ⟨B, 0, none⟩) env.length env.length] w' fun e w2 => e = .returned (.tuple #[.int .i64 (exN l env), .int .i64 (exC l env)]) ∧ Below w'.heap.size w' w2) := fun w' hb v l hv => ex_any v _ l env w' (Nat.lt_of_lt_of_le hB hb.size) (hT.below hb hB) hv (hI.below hb)
  have HCo : Hid (∀ w' (_ : Below w.heap.size w w') vv vals, IntsV w' vv vals → Calls Tryz.prog 121 #[.agg #[.slice ao m.vars.length cap, .slice none 0 0], vv] w' fun e w2 => e = .returned (.tuple #[.int .i64 (cval ⟨m.vars, []⟩ vals), .int .i64 (ccode ⟨m.vars, []⟩ vals)]) ∧ Below w'.heap.size w' w2) := fun w' hb vv vals hi =>
    mcodes_any _ _ vv ⟨m.vars, []⟩ vals w' (Nat.lt_of_lt_of_le hB hb.size) (hT.below hb hB) ⟨hV.1.below hb, ⟨none, 0, rfl, ⟨by simp, fun _ => ⟨rfl, rfl⟩⟩, fun h => by simp at h⟩⟩ hi
  have HS : Hid (SetsV w (.slice so r.sets.length sc) r.sets) := hs
  have HSV : Hid (∀ j, j < r.sets.length → 0 ≤ (r.sets.getD j st0).var ∧ (r.sets.getD j st0).var < m.vars.length) := hsv
  have HE : Hid (env.length = m.vars.length) := he
  have HM0 : Hid (mcode ⟨m.vars, []⟩ = 0) := mcode_bare hm
  clear hV hT hg hs hsv hm hr hI hrow he
  by_cases hgd : holdsB r.guard env = true
  · rw [hgd] at hho
    go_enter Tryz.func102, Tryz.ntmps102
    go_wp2_with (go_at_call 76; refine (hho _ (hA2 _ _)).mono ?_; rintro e w1 ⟨rfl, hb1⟩; have hbw1 := (hA2 _ _).trans (hb1.mono (hA2 _ _).size))
    have hs1 : w.heap.size + 1 < w1.heap.size := by have := hb1.size; simp at this; omega
    have k10 : w1.cell? ⟨w.heap.size, 0, none⟩ = some (.slice ao m.vars.length cap) := (hb1.cell (p := ⟨w.heap.size, 0, none⟩) (by simp; omega)).trans (by simp [go_sem])
    have k11 : w1.cell? ⟨w.heap.size, 1, none⟩ = some (.slice ro m.rules.length rc) := (hb1.cell (p := ⟨w.heap.size, 1, none⟩) (by simp; omega)).trans (by simp [go_sem])
    have k12 : w1.cell? ⟨w.heap.size + 1, 1, none⟩ = some (.slice so r.sets.length sc) := (hb1.cell (p := ⟨w.heap.size + 1, 1, none⟩) (by simp)).trans (by simp [go_sem])
    have HC1 : Hid (∀ w', Below w1.heap.size w1 w' → w'.cell? ⟨w.heap.size, 0, none⟩ = some (.slice ao m.vars.length cap) ∧ w'.cell? ⟨w.heap.size, 1, none⟩ = some (.slice ro m.rules.length rc) ∧ w'.cell? ⟨w.heap.size + 1, 1, none⟩ = some (.slice so r.sets.length sc)) := fun w' hb => ⟨(hb.cell (p := ⟨w.heap.size, 0, none⟩) (by simp only; omega)).trans k10, (hb.cell (p := ⟨w.heap.size, 1, none⟩) (by simp only; omega)).trans k11, (hb.cell (p := ⟨w.heap.size + 1, 1, none⟩) hs1).trans k12⟩
    have HBW1 : Hid (Below w.heap.size w w1) := hbw1
    have hcl1 := hcl w1 hbw1
    clear hho hcl hb1 hbw1
    go_wp2_with (go_at_call 120; refine hcl1.mono ?_; rintro e w2 ⟨g, gcap, rfl, hgl, hb2, ho2⟩; obtain ⟨k20, k21, k22⟩ := HC1.out w2 hb2)
    have HO2 : Hid (w2.ownsRow w1.heap.size 3 1 (.slice (some ⟨g, 0, none⟩) env.length gcap) env.length (ivals env)) := ho2
    have HB2 : Hid (Below w1.heap.size w1 w2) := hb2
    have HRS : Hid (∀ j, j < r.sets.length → exC (r.sets.getD j st0).val env ≠ 0 → ruleDo m.vars env r = none) := fun j hj h => ruleDo_set hj h
    have HRC : Hid (setsOk env r → (ccode ⟨m.vars, []⟩ (behindL env r) = 0 → ruleDo m.vars env r = some (cval ⟨m.vars, []⟩ (behindL env r))) ∧ (ccode ⟨m.vars, []⟩ (behindL env r) ≠ 0 → ruleDo m.vars env r = none)) := fun h => ruleDo_code hgd h HE.out HM0.out rfl
    have HBL : Hid (behindL env r = setTo env r.sets r.sets.length) := rfl
    obtain ⟨sn, hsn⟩ : ∃ sn, sn = r.sets.length := ⟨_, rfl⟩
    have HSN : Hid (sn = r.sets.length) := hsn
    rw [← hsn] at h6 HS HC1 k22 ⊢
    obtain ⟨res, hres⟩ : ∃ res, ruleDo m.vars env r = res := ⟨_, rfl⟩
    rw [hres] at HRS HRC
    have HRes : Hid (ruleDo m.vars env r = res) := hres
    clear hcl1 ho2 hb2 hsn hres hgd
    go_loopw [25] (fun i wr => ∃ k : Nat, k ≤ sn ∧ i = .int .i64 k ∧ Hid (∀ j, j < k → exC (r.sets.getD j st0).val env = 0) ∧ Hid (wr.ownsRow w1.heap.size 3 1 (.slice (some ⟨g, 0, none⟩) env.length gcap) env.length (ivals (setTo env r.sets k))) ∧ Hid (Below w1.heap.size w1 wr)) (fun i _ => sn - (intOf i).toNat)
    case atStart => exact ⟨0, Nat.zero_le _, rfl, fun j hj => by omega, HO2.out, HB2.out⟩
    case round =>
      obtain ⟨k, hk, rfl, HOK, HOwn, HBel⟩ := hrel
      have hbel := HBel.out
      have hbw := HBW1.out.trans (hbel.mono HBW1.out.size)
      obtain ⟨kr0, kr1, kr2⟩ := HC1.out wr hbel
      by_cases hlt : k < sn
      · obtain ⟨b, off, rfl, hblt, hat⟩ := HS.out.at (i := k) (by rw [← HSN.out]; exact hlt)
        obtain ⟨c0, u, c1, hou⟩ := hat.below hbw hblt
        obtain ⟨uo, uc, rfl⟩ := hou.shape
        have HSk := HSV.out k (by rw [← HSN.out]; exact hlt)
        have HRk : Hid (exC (r.sets.getD k st0).val env ≠ 0 → res = none) := HRS.out k (by rw [← HSN.out]; exact hlt)
        have HStep : Hid (setTo env r.sets (k + 1) = (setTo env r.sets k).set (r.sets.getD k st0).var.toNat (exN (r.sets.getD k st0).val env)) := rfl
        have HOK2 : Hid (exC (r.sets.getD k st0).val env = 0 → ∀ j, j < k + 1 → exC (r.sets.getD j st0).val env = 0) := fun h j hj => by
          by_cases hjk : j = k
          · subst hjk; exact h
          · exact HOK.out j (by omega)
        have hAr : ∀ o, Below w.heap.size w (wr.alloc o) := fun o => hbw.alloc hbw.size o
        have hex := fun o => HEx.out (wr.alloc o) (hAr o) _ _ (hou.below ((Below.refl _ _).alloc (Nat.le_refl _) o))
        obtain ⟨hv0, hv1⟩ := HSk
        obtain ⟨vn, hvn⟩ : ∃ vn : Nat, (r.sets.getD k st0).var = vn := ⟨(r.sets.getD k st0).var.toNat, by omega⟩
        rw [hvn] at hv0 hv1 c0 HStep
        rw [Int.toNat_natCast] at HStep
        have hvn2 : vn < env.length := by rw [HE.out]; omega
        generalize exN (r.sets.getD k st0).val env = N at hex HStep
        generalize exC (r.sets.getD k st0).val env = C at hex HRk HOK2
        generalize (r.sets.getD k st0).val.length = ul at hex c1 hou
        have HBr : Hid (∀ o w4, Below (wr.alloc o).heap.size (wr.alloc o) w4 → Below w1.heap.size w1 w4 ∧ w4.ownsRow w1.heap.size 3 1 (.slice (some ⟨g, 0, none⟩) env.length gcap) env.length (ivals (setTo env r.sets k)) ∧ w4.cell? ⟨wr.heap.size, 0, none⟩ = (wr.alloc o).cell? ⟨wr.heap.size, 0, none⟩) := fun o w4 hb =>
          ⟨(hbel.alloc hbel.size o).trans (hb.mono (hbel.alloc hbel.size o).size), owns_later (owns_later HOwn.out ((Below.refl _ _).alloc (Nat.le_refl _) o) (Nat.le_refl _)) hb (Nat.le_refl _), hb.cell (p := ⟨wr.heap.size, 0, none⟩) (by simp)⟩
        clear hat hou hvn hAr HRS HEx HCo HS HSV HRC kr0 kr1 kr2 k20 k21 k22 k10 k11 k12 hbel hbw
        by_cases hC : C = 0
        · subst hC
          go_wp2_with (go_at_call 94; refine (hex _).mono ?_; rintro e w4 ⟨rfl, hb4⟩; obtain ⟨hb14, ho4, hcv⟩ := HBr.out _ w4 hb4; have hcell := ho4.cellAt vn (by omega); rw [show (ivals (setTo env r.sets k))[vn]? = some (.int .i64 ((setTo env r.sets k).getD vn 0)) by simp [ivals, List.getD_eq_getElem?_getD, setTo_length, hvn2]] at hcell; have hfz := ho4.frozenAt vn; have hcv2 : w4.cell? ⟨wr.heap.size, 0, none⟩ = some (.int .i64 vn) := (by rw [hcv]; simp [go_sem]))
          refine ⟨⟨k + 1, hlt, by first | rfl | simp, HOK2.out trivial, ?_, hb14.setCell hgl _⟩, by simp [intOf]; omega⟩
          have hst := (ho4.stored vn (.int .i64 N)).1
          rw [show (ivals (setTo env r.sets k)).set vn (.int .i64 N) = ivals (setTo env r.sets (k + 1)) by rw [HStep.out]; simp [ivals, List.map_set]] at hst
          exact hst
        · have HRN : Hid (res = none) := HRk.out hC
          go_wp2_with (go_at_call 94; refine (hex _).mono ?_; rintro e w4 ⟨rfl, hb4⟩; obtain ⟨hb14, ho4, hcv⟩ := HBr.out _ w4 hb4)
          go_ret2
          exact ⟨by rw [HRes.out, HRN.out]; rfl, HBW1.out.trans (hb14.mono HBW1.out.size)⟩
      · have hkn : k = sn := by omega
        subst hkn
        have hbe : behindL env r = setTo env r.sets k := by rw [HBL.out, HSN.out]
        have hrc := HRC.out (fun j hj => HOK.out j (by rw [HSN.out]; exact hj))
        have ho := HOwn.out
        rw [← hbe] at ho
        have hlb : (behindL env r).length = env.length := by rw [hbe, setTo_length]
        rw [← hlb] at ho
        have hba := bare_any ao ro m.vars.length cap m.rules.length rc wr
        have HI : Hid (∀ w', Below wr.heap.size wr w' → IntsV w' (.slice (some ⟨g, 0, none⟩) (behindL env r).length gcap) (behindL env r)) := fun w' hb => (intsV_of_owns ho).below hb
        rw [hlb] at HI
        have hco := fun w' (hb : Below wr.heap.size wr w') => HCo.out w' (hbw.trans (hb.mono hbw.size)) _ _ (HI.out w' hb)
        have HBWr : Hid (Below w.heap.size w wr) := hbw
        generalize cval ⟨m.vars, []⟩ (behindL env r) = cv at hco hrc
        generalize ccode ⟨m.vars, []⟩ (behindL env r) = cc at hco hrc
        obtain ⟨hrc0, hrc1⟩ := hrc
        clear hbe ho hlb HI HRC HRS HEx HCo HS HSV k20 k21 k22 k10 k11 k12 hbel hbw hlt hk HOK HOwn
        by_cases hcc : cc = 0
        · have hrn := hrc0 hcc
          subst hcc
          have HRN : Hid (res = some cv) := hrn
          clear hrc0 hrc1 hrn
          go_wp2_with (first | (go_at_call 75; refine hba.mono ?_; rintro e w5 ⟨rfl, hb5⟩) | (go_at_call 121; refine (hco _ hb5).mono ?_; rintro e w6 ⟨rfl, hb6⟩))
          go_ret2
          exact ⟨by rw [HRes.out, HRN.out]; rfl, HBWr.out.trans ((hb5.trans (hb6.mono hb5.size)).mono HBWr.out.size)⟩
        · have HRN : Hid (res = none) := hrc1 hcc
          clear hrc0 hrc1
          go_wp2_with (first | (go_at_call 75; refine hba.mono ?_; rintro e w5 ⟨rfl, hb5⟩) | (go_at_call 121; refine (hco _ hb5).mono ?_; rintro e w6 ⟨rfl, hb6⟩))
          go_ret2
          exact ⟨by rw [HRes.out, HRN.out]; rfl, HBWr.out.trans ((hb5.trans (hb6.mono hb5.size)).mono HBWr.out.size)⟩
  · have hgd2 : holdsB r.guard env = false := by simpa using hgd
    rw [hgd2] at hho
    rw [ruleDo_guard hgd2]
    go_enter Tryz.func102, Tryz.ntmps102
    go_wp2_with (go_at_call 76; refine (hho _ (hA2 _ _)).mono ?_; rintro e w1 ⟨rfl, hb1⟩)
    go_ret2
    exact ⟨rfl, (hA2 _ _).trans (hb1.mono (hA2 _ _).size)⟩
end Go.Proofs.YtdlpmomohbdpgaaGreatDoor

/-
  The contract of the program's Values.
-/
namespace Go.Proofs.YtdlpmomohbdpgaaGreatDoor
open Go.ChangeShapes Go.WideShapes Go.ChangeAt Go.RowKit Go.Deep
open Terms Tm

set_option maxRecDepth 20000 in
set_option maxHeartbeats 1600000 in
theorem mvalues_loop (va vr : Value) (m : Mo) (code : Int) (w : World) (hB : 0 < w.heap.size) (hT : TabAt w) (hV : ModelV w va vr m) (h : mcode m = 0) (hc : 0 ≤ code ∧ code < prodTo m.vars m.vars.length) :
    Calls Tryz.prog 74 #[.agg #[va, vr], .int .i64 code] w fun e w' => ∃ B, e = .returned (.tuple #[.slice (some ⟨B, 0, none⟩) m.vars.length m.vars.length, .int .i64 0]) ∧ w.heap.size ≤ B ∧ Below w.heap.size w w' ∧ w'.rowIs B 3 m.vars.length (fun j => .int .i64 (valAt m.vars code j)) := by
  have hA : ∀ o, Below w.heap.size w (w.alloc o) := fun o => (Below.refl _ _).alloc (Nat.le_refl _) o
  have hch := fun o => mcheck_any va vr m (w.alloc o) (Nat.lt_of_lt_of_le hB (hA o).size) (hT.below (hA o) hB) (hV.below (hA o))
  rw [h] at hch
  have hok := mcode_vars h
  have HOK : Hid (VarsOk m.vars) := hok
  have h6 := hok.1
  have hcf := (fun w1 (hb : Below w.heap.size w w1) => countOf_any va m.vars w1 hok (hV.1.below hb))
  obtain ⟨ao, cap, rfl⟩ := hV.1.shape
  obtain ⟨ro, rc, rfl⟩ := hV.2.shape
  have HV : Hid (VarsV w (.slice ao m.vars.length cap) m.vars) := hV.1
  have hN := hok.prod (j := m.vars.length) (Nat.le_refl _)
  have HS0 : Hid (segP m.vars m.vars.length = 1) := segP_end _
  obtain ⟨hc1, hc2⟩ := hc
  generalize prodTo m.vars m.vars.length = N at *
  obtain ⟨n, hn⟩ : ∃ n, n = m.vars.length := ⟨_, rfl⟩
  have HN : Hid (n = m.vars.length) := hn
  rw [← hn] at h6 hch hcf HV HS0 ⊢
  generalize m.rules.length = rn at *
  have hmk := run_make_row' (P := Tryz.prog) 40 3 (.int .i64 0) 8 Tryz.underlying40 infoInt rfl .i64 .i64 n (by omega) (by omega)
  clear hV hT hn hok h
  go_enter Tryz.func74, Tryz.ntmps74
  go_wp2_with (first | (go_at_call 72; refine (hch _).mono ?_; rintro e w1 ⟨rfl, hb1⟩; have hcb : w1.cell? ⟨w.heap.size, 0, none⟩ = some (.slice ao n cap) := (hb1.cell (p := ⟨w.heap.size, 0, none⟩) (by simp)).trans (by simp [go_sem]); have hbw := (hA _).trans (hb1.mono (hA _).size); have hs1 : w.heap.size < w1.heap.size := (by have := hb1.size; simp at this; omega)) | (go_at_call 93; refine (hcf _ hbw).mono ?_; rintro e w2 ⟨rfl, hb2⟩; have hcb2 := (hb2.cell (p := ⟨w.heap.size, 0, none⟩) hs1).trans hcb))
  have hbw2 := hbw.trans (hb2.mono hbw.size)
  have hrow0 := World.rowIs_made w2 (.int .i64 0) n 3
  have hs2 := Nat.lt_of_lt_of_le hs1 hb2.size
  have HB2 : Hid (Below w.heap.size w w2) := hbw2
  have hcb3 := hcb2
  clear hch hcf hmk hb1 hb2 hcb hbw hs1 hbw2 hcb2
  go_loopw [1, 8] (fun cd i wr => ∃ k : Nat, k ≤ n ∧ i = .int .i64 ((k : Int) - 1) ∧ cd = .int .i64 (code / segP m.vars k) ∧ Hid (wr.rowIs w2.heap.size 3 n (fun j => if k ≤ j then .int .i64 (valAt m.vars code j) else .int .i64 0)) ∧ Hid (Below w2.heap.size w2 wr)) (fun _ i _ => (intOf i + 1).toNat)
  case atStart => exact ⟨n, Nat.le_refl _, by first | rfl | go_num, by rw [HS0.out]; simp, hrow0.congr (fun i hi => by rw [if_neg (by omega)]), (Below.refl _ _).alloc (Nat.le_refl _) _⟩
  case round =>
    obtain ⟨k, hk, rfl, rfl, HRow, HBel⟩ := hrel
    have hbel := HBel.out
    have hrow := HRow.out
    have hbw := HB2.out.trans (hbel.mono HB2.out.size)
    have hszr := hrow.lt
    have cb := (hbel.cell (p := ⟨w.heap.size, 0, none⟩) hs2).trans hcb3
    by_cases hk0 : 0 < k
    · obtain ⟨k, rfl⟩ : ∃ k', k = k' + 1 := ⟨k - 1, by omega⟩
      rw [show (((k + 1 : Nat) : Int) - 1) = (k : Int) by omega]
      have hlt : k < n := by omega
      obtain ⟨b, off, rfl, hblt, hat⟩ := HV.out.at (i := k) (by rw [← HN.out]; exact hlt)
      obtain ⟨c0, c1, c2, c3⟩ := hat.below hbw hblt
      have hvb := HOK.out.at (j := k) (by rw [← HN.out]; exact hlt)
      have hsg := segP_bounds HOK.out (i := k + 1) (by rw [← HN.out]; exact hlt)
      have HQ : Hid (code / segP m.vars (k + 1) / vspan (m.vars.getD k vr0) = code / segP m.vars k) := quo_step HOK.out code (by rw [← HN.out]; exact hlt)
      have HVa : Hid (valAt m.vars code k = (m.vars.getD k vr0).lo + (code / segP m.vars (k + 1)) % vspan (m.vars.getD k vr0)) := rfl
      have hq0 : 0 ≤ code / segP m.vars (k + 1) := Int.ediv_nonneg hc1 (by omega)
      have hq1 : code / segP m.vars (k + 1) ≤ 4096 := by
        have := Int.ediv_le_self (segP m.vars (k + 1)) hc1; omega
      have hf : wr.frozen? ⟨w2.heap.size, k, none⟩ = false := hrow.frozen k
      have hcl : wr.cell? ⟨w2.heap.size, k, none⟩ = some (.int .i64 0) := by rw [hrow.cell hlt, if_neg (by omega)]
      generalize code / segP m.vars (k + 1) = cd at *
      generalize m.vars.getD k vr0 = x at *
      obtain ⟨s, lo, hi, ini⟩ := x
      simp only [vspan] at c0 c1 c2 c3 HQ HVa hvb
      obtain ⟨hv1, hv2, hv3, hv4, hv5, hv6, hv7⟩ := hvb
      have hsp := fun w => span_any s lo hi ini w hv3 hv4 hv5
      obtain ⟨sp, hspe⟩ : ∃ sp, hi - lo + 1 = sp := ⟨_, rfl⟩
      rw [hspe] at hv1 hv2 hsp HQ HVa
      clear hspe hat
      have hr0 := Int.emod_nonneg cd (show sp ≠ 0 by omega)
      have hr1 := Int.emod_lt_of_pos cd (show 0 < sp by omega)
      have hi0 : (0 : Int) ≤ (k : Int) := Int.natCast_nonneg _
      have hi1 : (k : Int) < (n : Int) := by omega
      have hsz0 : ¬ sp = 0 := by omega
      have hsz1 : (sp == 0) = false := by rw [beq_eq_false_iff_ne]; omega
      have ht : cd.tmod sp = cd % sp := Int.tmod_eq_emod_of_nonneg hq0
      have htd : cd.tdiv sp = cd / sp := Int.tdiv_eq_ediv_of_nonneg hq0
      have hd0 := Int.ediv_nonneg hq0 (show 0 ≤ sp by omega)
      have hd1 := Int.ediv_le_self sp hq0
      have hw0 : IntKind.i64.wrap (cd % sp) = cd % sp := wr64 (by omega) (by omega)
      have hw1 : IntKind.i64.wrap (lo + cd % sp) = lo + cd % sp := wr64 (by omega) (by omega)
      have hbA := hbel.alloc (Nat.le_of_lt hszr) (.cells #[.string s, .int .i64 lo, .int .i64 hi, .int .i64 ini] 112)
      have HBA := (show Hid _ from hbA)
      have hfA := hrow.alloc (.cells #[.string s, .int .i64 lo, .int .i64 hi, .int .i64 ini] 112)
      have HRA := (show Hid _ from hfA)
      have hS0 : ∀ w', Below (wr.heap.size + 1) (wr.alloc (.cells #[.string s, .int .i64 lo, .int .i64 hi, .int .i64 ini] 112)) w' → w'.cell? ⟨wr.heap.size, 0, none⟩ = some (.string s) ∧ w'.cell? ⟨wr.heap.size, 1, none⟩ = some (.int .i64 lo) ∧ w'.cell? ⟨wr.heap.size, 2, none⟩ = some (.int .i64 hi) ∧ w'.cell? ⟨wr.heap.size, 3, none⟩ = some (.int .i64 ini) := fun w' hw' =>
        ⟨(hw'.cell (p := ⟨wr.heap.size, 0, none⟩) (by simp)).trans (by simp [go_sem]), (hw'.cell (p := ⟨wr.heap.size, 1, none⟩) (by simp)).trans (by simp [go_sem]), (hw'.cell (p := ⟨wr.heap.size, 2, none⟩) (by simp)).trans (by simp [go_sem]), (hw'.cell (p := ⟨wr.heap.size, 3, none⟩) (by simp)).trans (by simp [go_sem])⟩
      have hne : ∀ j : Nat, (⟨wr.heap.size, j, none⟩ : Addr) ≠ ⟨w2.heap.size, k, none⟩ := fun j h => by injection h with h1; omega
      have hS1 : ∀ w' v, Below (wr.heap.size + 1) (wr.alloc (.cells #[.string s, .int .i64 lo, .int .i64 hi, .int .i64 ini] 112)) w' → (w'.setCell ⟨w2.heap.size, k, none⟩ v).cell? ⟨wr.heap.size, 0, none⟩ = some (.string s) ∧ (w'.setCell ⟨w2.heap.size, k, none⟩ v).cell? ⟨wr.heap.size, 1, none⟩ = some (.int .i64 lo) ∧ (w'.setCell ⟨w2.heap.size, k, none⟩ v).cell? ⟨wr.heap.size, 2, none⟩ = some (.int .i64 hi) ∧ (w'.setCell ⟨w2.heap.size, k, none⟩ v).cell? ⟨wr.heap.size, 3, none⟩ = some (.int .i64 ini) := fun w' v hw' => by
        obtain ⟨a0, a1, a2, a3⟩ := hS0 w' hw'
        exact ⟨(World.cell?_setCell_other _ _ _ _ (hne 0).symm).trans a0, (World.cell?_setCell_other _ _ _ _ (hne 1).symm).trans a1, (World.cell?_setCell_other _ _ _ _ (hne 2).symm).trans a2, (World.cell?_setCell_other _ _ _ _ (hne 3).symm).trans a3⟩
      have hB0 : Below (wr.heap.size + 1) (wr.alloc (.cells #[.string s, .int .i64 lo, .int .i64 hi, .int .i64 ini] 112)) (wr.alloc (.cells #[.string s, .int .i64 lo, .int .i64 hi, .int .i64 ini] 112)).drew := (Below.refl _ _).drew
      have hrw := fun w' (hw' : Below (wr.heap.size + 1) (wr.alloc (.cells #[.string s, .int .i64 lo, .int .i64 hi, .int .i64 ini] 112)) w') => hfA.of_block (hw'.block w2.heap.size (by omega))
      have hcf3 : ∀ w', Below (wr.heap.size + 1) (wr.alloc (.cells #[.string s, .int .i64 lo, .int .i64 hi, .int .i64 ini] 112)) w' → w'.frozen? ⟨w2.heap.size, k, none⟩ = false ∧ w'.cell? ⟨w2.heap.size, k, none⟩ = some (.int .i64 0) := fun w' hw' => ⟨(hrw w' hw').frozen k, by rw [(hrw w' hw').cell hlt, if_neg (by omega)]⟩
      have HRw := (show Hid _ from hrw)
      clear hfA hbA hrw hbel hrow hbw
      go_wp2_with fail
      go_region_held3 (fun w' => w'.cell? ⟨wr.heap.size, 0, none⟩ = some (.string s) ∧ w'.cell? ⟨wr.heap.size, 1, none⟩ = some (.int .i64 lo) ∧ w'.cell? ⟨wr.heap.size, 2, none⟩ = some (.int .i64 hi) ∧ w'.cell? ⟨wr.heap.size, 3, none⟩ = some (.int .i64 ini))
        (first | exact hS0 _ hB0 | exact hS0 _ (hB0.trans (hb3.mono (by simp))) | exact hS1 _ _ (hB0.trans (hb3.mono (by simp))))
        (first | (go_at_call 92; refine (hsp _).mono ?_; rintro e w3 ⟨rfl, hb3⟩; obtain ⟨hf3, hc3⟩ := hcf3 _ (hB0.trans (hb3.mono (by simp)))))
      have hB3 := hB0.trans (hb3.mono (by simp))
      obtain ⟨e0, e1, e2, e3⟩ := hS1 w3 (.int .i64 (lo + cd % sp)) hB3
      have hs3 : wr.heap.size < w3.heap.size := by have := hb3.size; simp at this; omega
      have hrow4 : ∀ w4, Below w3.heap.size (w3.setCell ⟨w2.heap.size, k, none⟩ (.int .i64 (lo + cd % sp))) w4 → w4.rowIs w2.heap.size 3 n (fun j => if k ≤ j then .int .i64 (valAt m.vars code j) else .int .i64 0) ∧ Below w2.heap.size w2 w4 := fun w4 h4 => by
        refine ⟨(((HRw.out w3 hB3).set k (.int .i64 (lo + cd % sp))).of_block (h4.block w2.heap.size (by omega))).congr fun j hj => ?_, ?_⟩
        · by_cases hjk : j = k
          · subst hjk; rw [if_pos rfl, if_pos (Nat.le_refl _), HVa.out]
          · rw [if_neg hjk]
            by_cases hkj : k + 1 ≤ j
            · rw [if_pos hkj, if_pos (by omega)]
            · rw [if_neg hkj, if_neg (by omega)]
        · exact ((HBA.out.trans (hB3.mono (by omega))).setCell (by simp) _).trans (h4.mono (by omega))
      have HR4 := (show Hid _ from hrow4)
      clear hrow4 hf hcl hf3 hc3 hcf3 hS0 hS1
      go_wp2_with (go_at_call 92; refine (hsp _).mono ?_; rintro e w4 ⟨rfl, hb4⟩)
      have hb4' : Below w3.heap.size (w3.setCell ⟨w2.heap.size, k, none⟩ (.int .i64 (lo + cd % sp))) w4 := hb4.mono (by simp)
      go_roundw
      case rel => exact ⟨k, by omega, by first | rfl | go_num, by rw [← HQ.out], (HR4.out _ hb4').1, (HR4.out _ hb4').2⟩
      case measure => simp [intOf]
    · have hk0 : k = 0 := by omega
      subst hk0
      go_wp2
      go_ret2
      exact ⟨w2.heap.size, rfl, HB2.out.size, hbw, hrow.congr (fun i hi => by rw [if_pos (by omega)])⟩
set_option maxRecDepth 20000 in
theorem mvalues_bad (va vr : Value) (m : Mo) (code : Int) (w : World) (hB : 0 < w.heap.size) (hT : TabAt w) (hV : ModelV w va vr m) (h : mcode m ≠ 0) :
    Calls Tryz.prog 74 #[.agg #[va, vr], .int .i64 code] w fun e w' => e = .returned (.tuple #[.slice none 0 0, .int .i64 (mcode m)]) ∧ Below w.heap.size w w' := by
  have hA : ∀ o, Below w.heap.size w (w.alloc o) := fun o => (Below.refl _ _).alloc (Nat.le_refl _) o
  have hch := fun o => mcheck_any va vr m (w.alloc o) (Nat.lt_of_lt_of_le hB (hA o).size) (hT.below (hA o) hB) (hV.below (hA o))
  obtain ⟨ao, cap, rfl⟩ := hV.1.shape
  obtain ⟨ro, rc, rfl⟩ := hV.2.shape
  generalize mcode m = x at *
  generalize m.vars.length = n at *
  generalize m.rules.length = rn at *
  clear hV hT
  go_enter Tryz.func74, Tryz.ntmps74
  go_wp2_with (go_at_call 72; refine (hch _).mono ?_; rintro e w1 ⟨rfl, hb1⟩)
  go_ret2
  exact ⟨rfl, (hA _).trans (hb1.mono (hA _).size)⟩
set_option maxRecDepth 20000 in
theorem mvalues_no (va vr : Value) (m : Mo) (code : Int) (w : World) (hB : 0 < w.heap.size) (hT : TabAt w) (hV : ModelV w va vr m) (h : mcode m = 0) (hc : ¬ (0 ≤ code ∧ code < prodTo m.vars m.vars.length)) :
    Calls Tryz.prog 74 #[.agg #[va, vr], .int .i64 code] w fun e w' => e = .returned (.tuple #[.slice none 0 0, .int .i64 9]) ∧ Below w.heap.size w w' := by
  have hA : ∀ o, Below w.heap.size w (w.alloc o) := fun o => (Below.refl _ _).alloc (Nat.le_refl _) o
  have hch := fun o => mcheck_any va vr m (w.alloc o) (Nat.lt_of_lt_of_le hB (hA o).size) (hT.below (hA o) hB) (hV.below (hA o))
  rw [h] at hch
  have hok := mcode_vars h
  have hcf := (fun w1 (hb : Below w.heap.size w w1) => countOf_any va m.vars w1 hok (hV.1.below hb))
  obtain ⟨ao, cap, rfl⟩ := hV.1.shape
  obtain ⟨ro, rc, rfl⟩ := hV.2.shape
  have hN := hok.prod (j := m.vars.length) (Nat.le_refl _)
  generalize prodTo m.vars m.vars.length = N at *
  generalize m.vars.length = n at *
  generalize m.rules.length = rn at *
  clear hV hT hok h
  by_cases h0 : code < 0
  · clear hc
    go_enter Tryz.func74, Tryz.ntmps74
    go_wp2_with (go_at_call 72; refine (hch _).mono ?_; rintro e w1 ⟨rfl, hb1⟩)
    go_ret2
    exact ⟨rfl, (hA _).trans (hb1.mono (hA _).size)⟩
  · have h1 : N ≤ code := by omega
    clear hc
    go_enter Tryz.func74, Tryz.ntmps74
    go_wp2_with (first | (go_at_call 72; refine (hch _).mono ?_; rintro e w1 ⟨rfl, hb1⟩; have hcb : w1.cell? ⟨w.heap.size, 0, none⟩ = some (.slice ao n cap) := (hb1.cell (p := ⟨w.heap.size, 0, none⟩) (by simp)).trans (by simp [go_sem]); have hbw := (hA _).trans (hb1.mono (hA _).size)) | (go_at_call 93; refine (hcf _ hbw).mono ?_; rintro e w2 ⟨rfl, hb2⟩))
    go_ret2
    exact ⟨rfl, hbw.trans (hb2.mono hbw.size)⟩

set_option maxRecDepth 20000 in
/-- THE CONTRACT OF Values. -/
theorem mvalues_any (va vr : Value) (m : Mo) (code : Int) (w : World) (hB : 0 < w.heap.size) (hT : TabAt w) (hV : ModelV w va vr m) :
    Calls Tryz.prog 74 #[.agg #[va, vr], .int .i64 code] w fun e w' => ∃ v, e = .returned (.tuple #[v, .int .i64 (wcode m code)]) ∧ Below w.heap.size w w' ∧ IntsV w' v (wvals m code) := by
  by_cases h : mcode m = 0
  · by_cases hc : 0 ≤ code ∧ code < prodTo m.vars m.vars.length
    · have h0 := wcode_yes h hc
      unfold wvals
      rw [h0, if_pos rfl]
      exact (mvalues_loop va vr m code w hB hT hV h hc).mono fun e w' ⟨B, he, _, hb, hr⟩ => ⟨_, he, hb, intsV_of_row hr⟩
    · have h0 := wcode_no h hc
      unfold wvals
      rw [h0, if_neg (by decide)]
      exact (mvalues_no va vr m code w hB hT hV h hc).mono fun e w' ⟨he, hb⟩ => ⟨_, he, hb, none, 0, rfl, fun h => absurd rfl h⟩
  · have h0 := wcode_bad (code := code) h
    unfold wvals
    rw [h0, if_neg h]
    exact (mvalues_bad va vr m code w hB hT hV h).mono fun e w' ⟨he, hb⟩ => ⟨_, he, hb, none, 0, rfl, fun h => absurd rfl h⟩
end Go.Proofs.YtdlpmomohbdpgaaGreatDoor

/-
  The contract of step.After.
-/
namespace Go.Proofs.YtdlpmomohbdpgaaGreatDoor
open Go.ChangeShapes Go.WideShapes Go.ChangeAt Go.RowKit Go.Deep
open Terms Tm

/-- what After answers. -/
noncomputable def aftN (m : Mo) (code rule : Int) : Int := if wcode m code = 0 then (if 0 ≤ rule ∧ rule < m.rules.length then optN (ruleDo m.vars (valsL m.vars code) (m.rules.getD rule.toNat ru0)) else 0) else 0
noncomputable def aftC (m : Mo) (code rule : Int) : Int := if wcode m code = 0 then (if 0 ≤ rule ∧ rule < m.rules.length then optC (ruleDo m.vars (valsL m.vars code) (m.rules.getD rule.toNat ru0)) else 2) else wcode m code
theorem wcode_zero {m : Mo} {code : Int} (h : wcode m code = 0) : mcode m = 0 ∧ 0 ≤ code ∧ code < prodTo m.vars m.vars.length := by
  unfold wcode at h
  split at h
  · rename_i h1
    split at h
    · rename_i h2; exact ⟨h1, h2⟩
    · cases h
  · rename_i h1; exact absurd h h1
/-- THE CONTRACT OF Values, where there are some: a block of their own. -/
theorem svalues_any (va vr : Value) (m : Mo) (code : Int) (w : World) (hB : 0 < w.heap.size) (hT : TabAt w) (hV : ModelV w va vr m) (h : wcode m code = 0) :
    Calls Tryz.prog 74 #[.agg #[va, vr], .int .i64 code] w fun e w' => ∃ B, e = .returned (.tuple #[.slice (some ⟨B, 0, none⟩) (valsL m.vars code).length (valsL m.vars code).length, .int .i64 0]) ∧ w.heap.size ≤ B ∧ Below w.heap.size w w' ∧ w'.rowIs B 3 (valsL m.vars code).length (fun j => .int .i64 ((valsL m.vars code).getD j 0)) := by
  obtain ⟨h1, h2⟩ := wcode_zero h
  refine (mvalues_loop va vr m code w hB hT hV h1 h2).mono fun e w' ⟨B, he, hl, hb, hr⟩ => ?_
  rw [← valsL_length m.vars code] at he hr
  refine ⟨B, he, hl, hb, hr.congr fun j hj => ?_⟩
  rw [valsL_length] at hj
  simp [valsL, List.getD_eq_getElem?_getD, hj]

end Go.Proofs.YtdlpmomohbdpgaaGreatDoor
