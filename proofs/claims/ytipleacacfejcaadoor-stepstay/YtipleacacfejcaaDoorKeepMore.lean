/-
  Models that the keeping laws make of one: with another variable, with another rule.
-/
import Derived.Test.YtipleacacfejcaaDoorKeepStates
import Derived.Deep.AppendLies
namespace Go.Proofs.YtipleacacfejcaaDoor
open Go.ChangeShapes Go.WideShapes Go.ChangeAt Go.RowKit Go.Deep
open Terms Tm

set_option maxRecDepth 20000 in
theorem good_more {v v' : Int} (h : v ≤ v') : ∀ {T : Tm}, T.Good v → T.Good v'
  | .leaf _ _, hg => by
    rcases hg with hg | ⟨h1, h2, h3⟩ | hg
    · exact .inl hg
    · exact .inr (.inl ⟨h1, h2, by omega⟩)
    · exact .inr (.inr hg)
  | .un _ _ _, hg => ⟨hg.1, hg.2.1, good_more h hg.2.2⟩
  | .bi _ _ _ _, hg => ⟨hg.1, hg.2.1, hg.2.2.1, good_more h hg.2.2.2.1, good_more h hg.2.2.2.2⟩
set_option maxRecDepth 20000 in
theorem kcode_more {v v' : Int} (h : v ≤ v') (h6 : v' ≤ 6) {l : List (Int × Int)} {tr : Bool} (hk : kcode v l tr = 0) : kcode v' l tr = 0 := by
  unfold kcode at hk ⊢
  by_cases hx : xcode v l (treeOf l) = 0
  · rw [if_pos hx] at hk
    obtain ⟨h0, _, hops, hg, ht, hsz⟩ := xcode_zero hx (treeOf_spec l)
    have h2 := xcode_good (vars := v') (by omega) h6 (good_more h hg) hsz
    rw [hops, if_pos ht] at h2
    rw [if_pos h2]
    exact hk
  · rw [if_neg hx] at hk
    exact absurd hk hx
set_option maxRecDepth 20000 in
theorem rcode_more {v v' : Int} (h : v ≤ v') (h6 : v' ≤ 6) {r : Ru} (hr : rcode v r = 0) : rcode v' r = 0 := by
  unfold rcode at hr ⊢
  split at hr
  · simp at hr
  · rename_i h1
    rw [if_neg h1]
    split at hr
    · rename_i h2
      rw [if_pos (kcode_more h h6 h2)]
      refine firstOf_none fun j hj => ?_
      have h3 := firstOf_zero hr j hj
      unfold sAt at h3 ⊢
      split at h3
      · simp at h3
      · rename_i h4
        rw [if_neg (by omega)]
        split at h3
        · simp at h3
        · rename_i h5
          rw [if_neg h5]
          exact kcode_more h h6 h3
    · rename_i h2
      exact absurd hr h2
def bZ : ByteArray := ⟨#[122]⟩
set_option maxRecDepth 20000 in
theorem name_bZ : nameOk bZ = true := by first | kernel_rfl | (simp [nameOk, nmHead, bZ, byteAt, chOk, ByteArray.toList_eq, ByteArray.size])
set_option maxRecDepth 20000 in
theorem bZ_ne : bX ≠ bZ ∧ bY ≠ bZ := by
  constructor
  · intro h
    have := congrArg (fun s : ByteArray => s.data.toList) h
    revert this
    show [120] = [122] → False
    simp
  · intro h
    have := congrArg ByteArray.size h
    revert this
    show 2 = 1 → False
    omega
set_option maxRecDepth 20000 in
theorem prod_three (a b c : Vr) : prodTo [a, b, c] 3 = vspan a * vspan b * vspan c := by
  show (1 * vspan a) * vspan b * vspan c = _
  rw [Int.one_mul]
set_option maxRecDepth 20000 in
/-- with one variable more. -/
theorem gv_mcode3 {a b : Vr} (h : GV a b) {k : Int} (hk : 1 ≤ k ∧ k ≤ 8) {rules : List Ru} (h5 : rules.length ≤ 5) (hr : ∀ j, j < rules.length → rcode 2 (rules.getD j ru0) = 0) : mcode ⟨[a, b, ⟨bZ, 0, k - 1, 0⟩], rules⟩ = 0 := by
  have hv : vcode [a, b, ⟨bZ, 0, k - 1, 0⟩] = 0 := by
    unfold vcode
    rw [if_neg (by simp)]
    refine firstOf_none fun j hj => ?_
    have hj2 : j = 0 ∨ j = 1 ∨ j = 2 := by simp at hj; omega
    rcases hj2 with rfl | rfl | rfl
    · exact (h.vAt _).1
    · exact (h.vAt _).2
    · refine (vAt_eq (l := [a, b, ⟨bZ, 0, k - 1, 0⟩]) (k := 2) rfl rfl).2.2.2.2 name_bZ ?_ ?_ ?_
      · show (decide (a.name = bZ) || (decide (b.name = bZ) || false)) = false
        rw [h.na, h.nb]
        simp [bZ_ne.1, bZ_ne.2]
      · show decide (-1000 ≤ (0 : Int) ∧ k - 1 ≤ 1000 ∧ 0 ≤ k - 1 ∧ (0 : Int) ≤ 0 ∧ 0 ≤ k - 1) = true
        simp only [decide_eq_true_eq]; omega
      · have h1 := h.prod
        have e1 : prodTo [a, b, ⟨bZ, 0, k - 1, 0⟩] 2 = vspan a * vspan b := by show (1 * vspan a) * vspan b = _; rw [Int.one_mul]
        rw [e1]
        show ¬ (64 < k - 1 - 0 + 1 ∨ 4096 < vspan a * vspan b * (k - 1 - 0 + 1))
        have h2 : vspan a * vspan b * (k - 1 - 0 + 1) ≤ 16 * 8 := Int.mul_le_mul h1.2 (by omega) (by omega) (by omega)
        omega
  unfold mcode
  rw [if_pos hv, if_neg (show ¬ 12 < rules.length by omega)]
  exact firstOf_none fun j hj => rcode_more (show (2 : Int) ≤ 3 by decide) (show (3 : Int) ≤ 6 by decide) (hr j hj)
set_option maxRecDepth 20000 in
/-- with a variable twice. -/
theorem gv_mcodeX {a b c : Vr} (h : GV a b) (hc : c = a ∨ c = b) (rules : List Ru) : mcode ⟨[a, b, c], rules⟩ = 7 := by
  have hn : nameOk c.name = true := by
    rcases hc with rfl | rfl
    · rw [h.na]; exact name_bX
    · rw [h.nb]; exact name_bY
  have h7 : vAt [a, b, c] 2 = 7 := (vAt_eq (l := [a, b, c]) (k := 2) rfl rfl).2.1 hn (by
    show (decide (a.name = c.name) || (decide (b.name = c.name) || false)) = true
    rcases hc with rfl | rfl <;> simp)
  have hv : vcode [a, b, c] = 7 := by
    unfold vcode
    rw [if_neg (by simp), firstOf_hit (i := 2) (by simp) (fun j hj => ?_) (by rw [h7]; decide), h7]
    have hj2 : j = 0 ∨ j = 1 := by omega
    rcases hj2 with rfl | rfl
    · exact (h.vAt _).1
    · exact (h.vAt _).2
  unfold mcode
  rw [if_neg (show ¬ vcode [a, b, c] = 0 by rw [hv]; decide), hv]
set_option maxRecDepth 20000 in
/-- with one rule more. -/
theorem gv_mcodeR {a b : Vr} (h : GV a b) {rules : List Ru} (h5 : rules.length ≤ 5) (hr : ∀ j, j < rules.length → rcode 2 (rules.getD j ru0) = 0) {x : Ru} (hx : rcode 2 x ≠ 0) : mcode ⟨[a, b], rules ++ [x]⟩ = rcode 2 x := by
  unfold mcode
  rw [if_pos h.vcode, if_neg (show ¬ 12 < (rules ++ [x]).length by simp; omega)]
  have e : (rules ++ [x]).getD rules.length ru0 = x := ruD_app_right _ _
  have h1 := firstOf_hit (f := fun i => rcode (([a, b] : List Vr).length : Nat) ((rules ++ [x]).getD i ru0)) (n := (rules ++ [x]).length) (i := rules.length) (by simp) (fun j hj => by
    show rcode 2 ((rules ++ [x]).getD j ru0) = 0
    rw [ruD_app_left hj]; exact hr j hj) (by show rcode 2 ((rules ++ [x]).getD rules.length ru0) ≠ 0; rw [e]; exact hx)
  refine h1.trans ?_
  show rcode 2 ((rules ++ [x]).getD rules.length ru0) = _
  rw [e]
set_option maxRecDepth 20000 in
theorem yes_kcode : kcode 2 [(11, 0)] true = 0 := by
  have := kcode_tree (T := .leaf 11 0) (vars := 2) (by decide) (by decide) (.inr (.inr ⟨.inl rfl, rfl⟩)) (by simp [Tm.size]) rfl true
  simpa [Tm.ops, Tm.kind, mkT] using this
set_option maxRecDepth 20000 in
theorem num_kcode {n : Int} (hn : -1000 ≤ n ∧ n ≤ 1000) (tr : Bool) : kcode 2 [(1, n)] tr = if tr = false then 0 else 5 := by
  have := kcode_tree (T := .leaf 1 n) (vars := 2) (by decide) (by decide) (.inl ⟨rfl, hn.1, hn.2⟩) (by simp [Tm.size]) rfl tr
  rw [show (Tm.leaf 1 n).ops = [(1, n)] from rfl] at this
  rw [this]
  cases tr <;> simp [Tm.kind, mkT]
set_option maxRecDepth 20000 in
theorem rule_twice : rcode 2 ⟨[(11, 0)], [⟨1, [(1, 0)]⟩, ⟨1, [(1, 1)]⟩]⟩ = 7 := by
  unfold rcode
  rw [if_neg (by simp), if_pos yes_kcode]
  have e1 : sAt 2 [⟨1, [(1, 0)]⟩, ⟨1, [(1, 1)]⟩] 1 = 7 := by
    show (if (1 : Int) < 0 ∨ (2 : Int) ≤ 1 then (2 : Int) else if metVar [⟨1, [(1, 0)]⟩, ⟨1, [(1, 1)]⟩] 1 1 = true then 7 else _) = 7
    rw [if_neg (by omega), if_pos (by simp [metVar])]
  have e0 : sAt 2 [⟨1, [(1, 0)]⟩, ⟨1, [(1, 1)]⟩] 0 = 0 := by
    show (if (1 : Int) < 0 ∨ (2 : Int) ≤ 1 then (2 : Int) else if metVar [⟨1, [(1, 0)]⟩, ⟨1, [(1, 1)]⟩] 0 1 = true then 7 else kcode 2 [(1, 0)] false) = 0
    rw [if_neg (by omega), if_neg (by simp [metVar]), num_kcode (by decide)]
    rfl
  show firstOf (sAt 2 [⟨1, [(1, 0)]⟩, ⟨1, [(1, 1)]⟩]) 2 = 7
  rw [firstOf_hit (i := 1) (by omega) (fun j hj => by have hj0 : j = 0 := (by omega); rw [hj0]; exact e0) (by rw [e1]; decide), e1]
set_option maxRecDepth 20000 in
theorem rule_num : rcode 2 ⟨[(1, 1)], []⟩ = 5 := by
  have h := num_kcode (n := 1) (by decide) true
  rw [if_neg (by decide)] at h
  unfold rcode
  rw [if_neg (by simp)]
  show (if kcode 2 [(1, 1)] true = 0 then _ else kcode 2 [(1, 1)] true) = 5
  rw [h]
  rfl

set_option maxRecDepth 20000 in
theorem VarAt.setOther {w : World} {b o q i : Nat} {v : Vr} (h : VarAt w b o v) (hne : b ≠ q) (x : Value) : VarAt (w.setCell ⟨q, i, none⟩ x) b o v := by
  obtain ⟨h0, h1, h2, h3⟩ := h
  refine ⟨?_, ?_, ?_, ?_⟩
  · rw [World.cell?_setCell_other _ _ _ _ (fun h => hne (congrArg Addr.block h).symm)]; exact h0
  · rw [World.cell?_setCell_other _ _ _ _ (fun h => hne (congrArg Addr.block h).symm)]; exact h1
  · rw [World.cell?_setCell_other _ _ _ _ (fun h => hne (congrArg Addr.block h).symm)]; exact h2
  · rw [World.cell?_setCell_other _ _ _ _ (fun h => hne (congrArg Addr.block h).symm)]; exact h3
set_option maxRecDepth 20000 in
theorem vars_three {w : World} {base g cp : Nat} {a b c : Vr} (h : w.ownsRow base 32 4 (.slice (some ⟨g, 0, none⟩) 3 cp) 3 (vflat [a, b, c])) : g < w.heap.size ∧ 3 ≤ cp ∧ VarAt w g 0 a ∧ VarAt w g 4 b ∧ VarAt w g 8 c := by
  have hv : VarsV w (.slice (some ⟨g, 0, none⟩) 3 cp) [a, b, c] := varsV_of_owns h
  obtain ⟨ao, cap, e1, h2, h3⟩ := hv
  injection e1 with e2 e3 e4
  subst e2 e4
  obtain ⟨b', off, e5, h4, h5⟩ := h3 (by simp)
  injection e5 with e5
  injection e5 with e6 e7 e8
  subst e6 e7
  exact ⟨h4, h2.1, h5 0 (by simp), h5 1 (by simp), h5 2 (by simp)⟩
set_option maxRecDepth 20000 in
theorem three_vars {w : World} {g cp : Nat} {a b c : Vr} (hg : g < w.heap.size) (hc : 3 ≤ cp) (h0 : VarAt w g 0 a) (h1 : VarAt w g 4 b) (h2 : VarAt w g 8 c) : VarsV w (.slice (some ⟨g, 0, none⟩) 3 cp) [a, b, c] :=
  ⟨some ⟨g, 0, none⟩, cp, rfl, ⟨hc, fun h => by cases h⟩, fun _ => ⟨g, 0, rfl, hg, fun i hi => by
    have hj2 : i = 0 ∨ i = 1 ∨ i = 2 := by simp at hi; omega
    rcases hj2 with rfl | rfl | rfl
    · exact h0
    · exact h1
    · exact h2⟩⟩
/-- the rules that Model makes. -/
def GRules (w : World) (vr : Value) : Prop := ∃ rules, RulesV w vr rules ∧ rules.length ≤ 5 ∧ ∀ j, j < rules.length → rcode 2 (rules.getD j ru0) = 0
set_option maxRecDepth 20000 in
theorem GModel.rules {w : World} {va vr : Value} {l : List Vr} (h : GModel w va vr l) : GRules w vr := by
  obtain ⟨rules, h1, h2, h3⟩ := h
  exact ⟨rules, h1.2, h2, h3⟩
set_option maxRecDepth 20000 in
theorem GRules.below {w w' : World} {vr : Value} (h : GRules w vr) (hb : Below w.heap.size w w') : GRules w' vr := by
  obtain ⟨rules, h1, h2, h3⟩ := h
  exact ⟨rules, h1.below hb, h2, h3⟩
set_option maxRecDepth 20000 in
theorem kcount3 {a b : Vr} {w : World} {va vr : Value} (hG : GV a b) {k : Int} (hk : 1 ≤ k ∧ k ≤ 8) (hB : 0 < w.heap.size) (hT : TabAt w) (hV : VarsV w va [a, b, ⟨bZ, 0, k - 1, 0⟩]) (hR : GRules w vr) :
    Calls Tryd.prog 9 #[.agg #[va, vr]] w fun e w' => e = .returned (.tuple #[.int .i64 (vspan a * vspan b * k), .int .i64 0]) ∧ Below w.heap.size w w' := by
  obtain ⟨rules, h1, h2, h3⟩ := hR
  have := mcount_any va vr ⟨_, rules⟩ w hB hT ⟨hV, h1⟩
  rw [gv_mcode3 hG hk h2 h3, if_pos rfl] at this
  have e : prodTo [a, b, ⟨bZ, 0, k - 1, 0⟩] 3 = vspan a * vspan b * k := by
    rw [prod_three]
    show _ * (k - 1 - 0 + 1) = _
    rw [show k - 1 - 0 + 1 = k by omega]
  rw [← e]
  exact this
set_option maxRecDepth 20000 in
theorem kcheckX {a b c : Vr} {w : World} {va vr : Value} (hG : GV a b) (hc : c = a ∨ c = b) (hB : 0 < w.heap.size) (hT : TabAt w) (hV : VarsV w va [a, b, c]) (hR : GRules w vr) :
    Calls Tryd.prog 8 #[.agg #[va, vr]] w fun e w' => e = .returned (.int .i64 7) ∧ Below w.heap.size w w' := by
  obtain ⟨rules, h1, h2, h3⟩ := hR
  have := mcheck_any va vr ⟨_, rules⟩ w hB hT ⟨hV, h1⟩
  rwa [gv_mcodeX hG hc] at this
end Go.Proofs.YtipleacacfejcaaDoor
