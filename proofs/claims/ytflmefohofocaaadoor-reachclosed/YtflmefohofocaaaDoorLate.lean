/-
  Joined out of StepAfter, MProps, Bools, StepLetter, ShelfSort, SortOwn, Nexts, StepNext, Reaches, StepReach, StepReach2, StepReach3, KeepNext, KeepAfter, KeepReach, in their order: a claim bears at most so many files.
-/
import Derived.Test.YtflmefohofocaaaDoorStepRule
import Derived.Test.YtflmefohofocaaaDoorMValues
import Derived.Test.YtflmefohofocaaaDoorMCheck2
import Derived.Test.YtflmefohofocaaaDoorMem
import Derived.Deep.OwnRows
import Derived.Shelf.Sort.Plain
import Derived.Ground.Names2Prog
import Derived.Shelf.Slices.CompactI
import Derived.Test.YtflmefohofocaaaDoorIntsOf
import Derived.Sort.OwnSortedInts
import Derived.Lib.OwnBridge
import Derived.Lib.RowBridge
import Derived.Test.YtflmefohofocaaaDoorSteps
import Derived.Deep.AppendLies
import Derived.Test.YtflmefohofocaaaDoorMFirst
import Derived.Test.YtflmefohofocaaaDoorPairs
import Derived.Maps.OwnSet
import Derived.Test.YtflmefohofocaaaDoorKeepStates
import Derived.Deep.RegionHeld3
/-
  The contract of step.After.
-/
namespace Go.Proofs.YtflmefohofocaaaDoor
open Go.ChangeShapes Go.WideShapes Go.ChangeAt Go.RowKit Go.Deep
open Terms Tm

/-- what After answers. -/
noncomputable def aftN (m : Mo) (code rule : Int) : Int := if wcode m code = 0 then (if 0 ≤ rule ∧ rule < m.rules.length then optN (ruleDo m.vars (valsL m.vars code) (m.rules.getD rule.toNat ru0)) else 0) else 0
noncomputable def aftC (m : Mo) (code rule : Int) : Int := if wcode m code = 0 then (if 0 ≤ rule ∧ rule < m.rules.length then optC (ruleDo m.vars (valsL m.vars code) (m.rules.getD rule.toNat ru0)) else 2) else wcode m code
set_option maxRecDepth 20000 in
theorem wcode_zero {m : Mo} {code : Int} (h : wcode m code = 0) : mcode m = 0 ∧ 0 ≤ code ∧ code < prodTo m.vars m.vars.length := by
  unfold wcode at h
  split at h
  · rename_i h1
    split at h
    · rename_i h2; exact ⟨h1, h2⟩
    · cases h
  · rename_i h1; exact absurd h h1
set_option maxRecDepth 20000 in
/-- THE CONTRACT OF Values, where there are some: a block of their own. -/
theorem svalues_any (va vr : Value) (m : Mo) (code : Int) (w : World) (hB : 0 < w.heap.size) (hT : TabAt w) (hV : ModelV w va vr m) (h : wcode m code = 0) :
    Calls Tryd.prog 17 #[.agg #[va, vr], .int .i64 code] w fun e w' => ∃ B, e = .returned (.tuple #[.slice (some ⟨B, 0, none⟩) (valsL m.vars code).length (valsL m.vars code).length, .int .i64 0]) ∧ w.heap.size ≤ B ∧ Below w.heap.size w w' ∧ w'.rowIs B 3 (valsL m.vars code).length (fun j => .int .i64 ((valsL m.vars code).getD j 0)) := by
  obtain ⟨h1, h2⟩ := wcode_zero h
  refine (mvalues_loop va vr m code w hB hT hV h1 h2).mono fun e w' ⟨B, he, hl, hb, hr⟩ => ?_
  rw [← valsL_length m.vars code] at he hr
  refine ⟨B, he, hl, hb, hr.congr fun j hj => ?_⟩
  rw [valsL_length] at hj
  simp [valsL, List.getD_eq_getElem?_getD, hj]

set_option maxHeartbeats 3200000 in
set_option maxRecDepth 20000 in
/-- THE CONTRACT OF After. -/
theorem after_any (va vr : Value) (m : Mo) (code rule : Int) (w : World) (hB : 0 < w.heap.size) (hT : TabAt w) (hV : ModelV w va vr m) :
    Calls Tryd.prog 20 #[.agg #[va, vr], .int .i64 code, .int .i64 rule] w fun e w' => e = .returned (.tuple #[.int .i64 (aftN m code rule), .int .i64 (aftC m code rule)]) ∧ Below w.heap.size w w' := by
  have hA : ∀ o, Below w.heap.size w (w.alloc o) := fun o => (Below.refl _ _).alloc (Nat.le_refl _) o
  by_cases hw : wcode m code = 0
  · obtain ⟨hm, _⟩ := wcode_zero hw
    obtain ⟨hr12, hrs⟩ := mcode_rules hm
    have hvl := fun o => svalues_any va vr m code (w.alloc o) (Nat.lt_of_lt_of_le hB (hA o).size) (hT.below (hA o) hB) (hV.below (hA o)) hw
    have he := valsL_length m.vars code
    have HDo : Hid (∀ w' (_ : Below w.heap.size w w') B k gv sv, k < m.rules.length → w'.rowIs B 3 (valsL m.vars code).length (fun j => .int .i64 ((valsL m.vars code).getD j 0)) → OpsV w' gv (m.rules.getD k ru0).guard → SetsV w' sv (m.rules.getD k ru0).sets → Calls Tryd.prog 34 #[.agg #[va, vr], .slice (some ⟨B, 0, none⟩) (valsL m.vars code).length (valsL m.vars code).length, .agg #[gv, sv]] w' fun e w2 => e = .returned (.tuple #[.int .i64 (optN (ruleDo m.vars (valsL m.vars code) (m.rules.getD k ru0))), .int .i64 (optC (ruleDo m.vars (valsL m.vars code) (m.rules.getD k ru0)))]) ∧ Below w'.heap.size w' w2) := fun w' hb B k gv sv hk hrow hg hs =>
      doRule_any va vr gv sv B m (valsL m.vars code) (m.rules.getD k ru0) w' (Nat.lt_of_lt_of_le hB hb.size) (hT.below hb hB) (hV.below hb) hm (hrs k hk) he hrow hg hs
    have HR : Hid (RulesV w vr m.rules) := hV.2
    obtain ⟨ao, cap, rfl⟩ := hV.1.shape
    obtain ⟨ro, rc, rfl⟩ := hV.2.shape
    unfold aftN aftC
    rw [if_pos hw, if_pos hw]
    generalize hrr : (fun k => ruleDo m.vars (valsL m.vars code) (m.rules.getD k ru0)) = rr
    have HRR : Hid (∀ k, ruleDo m.vars (valsL m.vars code) (m.rules.getD k ru0) = rr k) := fun k => by rw [← hrr]
    have HDo2 := (show Hid _ from HDo.out)
    clear HDo
    have hrr2 := HRR.out
    simp only [hrr2] at HDo2 ⊢
    generalize (valsL m.vars code).length = vn at *
    generalize m.vars.length = n at *
    obtain ⟨rn, hrn⟩ : ∃ rn, rn = m.rules.length := ⟨_, rfl⟩
    have HRN : Hid (rn = m.rules.length) := hrn
    rw [← hrn] at hvl HR HDo2 ⊢
    rw [← hrn] at hr12
    clear hV hT hw hm hrs he hrr hrr2 hrn HRR
    by_cases hin : 0 ≤ rule ∧ rule < rn
    · rw [if_pos hin, if_pos hin]
      obtain ⟨hi0, hi1⟩ := hin
      obtain ⟨k, rfl⟩ : ∃ k : Nat, rule = k := ⟨rule.toNat, by omega⟩
      have hkn : k < rn := by omega
      rw [Int.toNat_natCast]
      obtain ⟨b, off, rfl, hblt, hat⟩ := HR.out.at (i := k) (by rw [← HRN.out]; exact hkn)
      clear HR hi1
      go_enter Tryd.func20, Tryd.ntmps20
      go_wp2_with (go_at_call 17; refine (hvl _).mono ?_; rintro e w1 ⟨B, rfl, hBl, hb1, hrow⟩; have hbw1 := (hA _).trans (hb1.mono (hA _).size); have k10 : w1.cell? ⟨w.heap.size, 0, none⟩ = some (.slice ao n cap) := (hb1.cell (p := ⟨w.heap.size, 0, none⟩) (by simp)).trans (by simp [go_sem]); have k11 : w1.cell? ⟨w.heap.size, 1, none⟩ = some (.slice (some ⟨b, off, none⟩) rn rc) := (hb1.cell (p := ⟨w.heap.size, 1, none⟩) (by simp)).trans (by simp [go_sem]))
      obtain ⟨⟨u, c0, hou⟩, u', c1, hsu⟩ := hat.below hbw1 hblt
      obtain ⟨uo, uc, rfl⟩ := hou.shape
      obtain ⟨so, sc, rfl⟩ := hsu.shape
      have hdo := HDo2.out w1.drew hbw1.drew B k _ _ hkn hrow hou hsu
      have HBW1 : Hid (Below w.heap.size w w1) := hbw1
      generalize (m.rules.getD k ru0).guard.length = gl at *
      generalize (m.rules.getD k ru0).sets.length = sl at *
      clear hvl hb1 hbw1 hrow hou hsu HDo2 hat
      go_region_with (go_at_call 34; refine hdo.mono ?_; rintro e w3 ⟨rfl, hb3⟩)
      all_goals go_wp2_with fail
      all_goals go_ret2
      all_goals exact ⟨rfl, HBW1.out.drew.trans (hb3.mono HBW1.out.drew.size)⟩
    · have HIN : Hid (¬ (0 ≤ rule ∧ rule < rn)) := hin
      rw [if_neg hin, if_neg hin]
      by_cases h0 : rule < 0
      · clear hin HDo2 HR
        go_enter Tryd.func20, Tryd.ntmps20
        go_wp2_with (go_at_call 17; refine (hvl _).mono ?_; rintro e w1 ⟨B, rfl, hBl, hb1, hrow⟩; have hbw1 := (hA _).trans (hb1.mono (hA _).size); have k11 : w1.cell? ⟨w.heap.size, 1, none⟩ = some (.slice ro rn rc) := (hb1.cell (p := ⟨w.heap.size, 1, none⟩) (by simp)).trans (by simp [go_sem]))
        go_ret2
        exact ⟨rfl, hbw1⟩
      · have h1 : (rn : Int) ≤ rule := by omega
        clear hin HDo2 HR
        go_enter Tryd.func20, Tryd.ntmps20
        go_wp2_with (go_at_call 17; refine (hvl _).mono ?_; rintro e w1 ⟨B, rfl, hBl, hb1, hrow⟩; have hbw1 := (hA _).trans (hb1.mono (hA _).size); have k11 : w1.cell? ⟨w.heap.size, 1, none⟩ = some (.slice ro rn rc) := (hb1.cell (p := ⟨w.heap.size, 1, none⟩) (by simp)).trans (by simp [go_sem]))
        go_ret2
        exact ⟨rfl, hbw1⟩
  · have hvl := fun o => mvalues_any va vr m code (w.alloc o) (Nat.lt_of_lt_of_le hB (hA o).size) (hT.below (hA o) hB) (hV.below (hA o))
    obtain ⟨ao, cap, rfl⟩ := hV.1.shape
    obtain ⟨ro, rc, rfl⟩ := hV.2.shape
    unfold aftN aftC
    rw [if_neg hw, if_neg hw]
    generalize wcode m code = c at *
    generalize m.vars.length = n at *
    generalize m.rules.length = rn at *
    clear hV hT
    go_enter Tryd.func20, Tryd.ntmps20
    go_wp2_with (go_at_call 17; refine (hvl _).mono ?_; rintro e w1 ⟨v, rfl, hb1, _⟩)
    go_ret2
    exact ⟨rfl, (hA _).trans (hb1.mono (hA _).size)⟩
end Go.Proofs.YtflmefohofocaaaDoor

/-
  The contract of the program's Props.
-/
namespace Go.Proofs.YtflmefohofocaaaDoor
open Go.ChangeShapes Go.WideShapes Go.ChangeAt Go.RowKit Go.Deep
open Terms Tm

set_option maxRecDepth 20000 in
theorem TermsV.shape {w : World} {v : Value} {ts : List (List (Int × Int))} (h : TermsV w v ts) : ∃ ao cap, v = .slice ao ts.length cap := by
  obtain ⟨ao, cap, h1, _⟩ := h
  exact ⟨ao, cap, h1⟩
set_option maxRecDepth 20000 in
theorem TermsV.at {w : World} {ao : Option Addr} {cap n : Nat} {ts : List (List (Int × Int))} (h : TermsV w (.slice ao n cap) ts) {i : Nat} (hi : i < ts.length) : ∃ b off, ao = some ⟨b, off, none⟩ ∧ b < w.heap.size ∧ ∃ u, w.cell? ⟨b, off + i, none⟩ = some u ∧ OpsV w u (ts.getD i []) := by
  obtain ⟨ao', cap', h1, h3⟩ := h
  injection h1 with e1 e2 e3
  subst e1
  obtain ⟨b, off, e, hb, hh⟩ := h3 (by intro h; subst h; simp at hi)
  exact ⟨b, off, e, hb, hh i hi⟩

set_option maxRecDepth 20000 in
set_option maxHeartbeats 1600000 in
theorem mprops_loop (va vr pv : Value) (m : Mo) (ps : List (List (Int × Int))) (w : World) (hB : 0 < w.heap.size) (hT : TabAt w) (hV : ModelV w va vr m) (hP : TermsV w pv ps) (h : mcode m = 0) (hl6 : ps.length ≤ 6) :
    Calls Tryd.prog 30 #[.agg #[va, vr], pv] w fun e w' => e = .returned (.int .i64 (firstOf (fun i => kcode m.vars.length (ps.getD i []) true) ps.length)) ∧ Below w.heap.size w w' := by
  have hA : ∀ o, Below w.heap.size w (w.alloc o) := fun o => (Below.refl _ _).alloc (Nat.le_refl _) o
  have hch := fun o => mcheck_any va vr m (w.alloc o) (Nat.lt_of_lt_of_le hB (hA o).size) (hT.below (hA o) hB) (hV.below (hA o))
  rw [h] at hch
  have h6 := (mcode_vars h).1
  obtain ⟨ao, cap, rfl⟩ := hV.1.shape
  obtain ⟨ro, rc, rfl⟩ := hV.2.shape
  obtain ⟨po, pc, rfl⟩ := hP.shape
  have HP : Hid (TermsV w (.slice po ps.length pc) ps) := hP
  have HT : Hid (TabAt w) := hT
  obtain ⟨n, hn⟩ : ∃ n, n = ps.length := ⟨_, rfl⟩
  have HN : Hid (n = ps.length) := hn
  rw [← hn] at hl6 HP ⊢
  generalize m.vars.length = vn at *
  generalize m.rules.length = rn at *
  clear hV hT hP hn h
  obtain ⟨f, hf⟩ : ∃ f : Nat → Int, f = fun i => kcode vn (ps.getD i []) true := ⟨_, rfl⟩
  rw [← hf]
  have HF : Hid (f = fun i => kcode vn (ps.getD i []) true) := hf
  clear hf
  go_enter Tryd.func30, Tryd.ntmps30
  go_wp2_with (go_at_call 11; refine (hch _).mono ?_; rintro e w1 ⟨rfl, hb1⟩)
  have hb1' : Below (w.heap.size + 1) (w.alloc (.cells #[.slice ao vn cap, .slice ro rn rc] 29)) w1 := hb1.mono (by simp)
  clear hch hb1
  go_loopw [19] (fun i wr => ∃ k : Nat, k ≤ n ∧ i = .int .i64 k ∧ Hid (∀ j, j < k → f j = 0) ∧ Below (w.heap.size + 1) (w.alloc (.cells #[.slice ao vn cap, .slice ro rn rc] 29)) wr) (fun i _ => n - (intOf i).toNat)
  case atStart => exact ⟨0, Nat.zero_le _, rfl, fun j hj => by omega, hb1'⟩
  case round =>
    obtain ⟨k, hk, rfl, HJ, hbel⟩ := hrel
    clear hb1'
    have hbw := (hA _).trans (hbel.mono (Nat.le_succ _))
    have hszb : w.heap.size + 1 ≤ wr.heap.size := by have := hbel.size; simp at this; omega
    have cb := (hbel.cell (p := ⟨w.heap.size, 0, none⟩) (by simp)).trans (show _ = some (.slice ao vn cap) by simp [go_sem])
    by_cases hlt : k < n
    · obtain ⟨b, off, rfl, hblt, u, c0', hO⟩ := HP.out.at (i := k) (by rw [← HN.out]; exact hlt)
      have HFk : Hid (f k = kcode vn (ps.getD k []) true) := by show _ = _; rw [HF.out]
      have HHit : Hid (∀ c, f k = c → c ≠ 0 → firstOf f n = c) := fun c h1 h2 => by rw [firstOf_hit hlt HJ.out (by rw [h1]; exact h2), h1]
      have HStep : Hid (f k = 0 → ∀ j, j < k + 1 → f j = 0) := fun h0 j hj => by
        by_cases hjk : j = k
        · subst hjk; exact h0
        · exact HJ.out j (by omega)
      generalize ps.getD k [] = p at *
      obtain ⟨ua, uc, rfl⟩ := hO.shape
      have c0 := (hbw.cell (p := ⟨b, off + k, none⟩) hblt).trans c0'
      have hcm := checkMakes_any _ p vn true wr (Nat.lt_of_lt_of_le hB hbw.size) (HT.out.below hbw hB) (hO.below hbw)
      generalize p.length = pn at *
      obtain ⟨x, hx⟩ : ∃ x, kcode vn p true = x := ⟨_, rfl⟩
      rw [hx] at hcm HFk
      clear HJ c0' hO hx HF
      by_cases hx0 : x = 0
      · subst hx0
        have HJ2 := (show Hid _ from HStep.out HFk.out)
        clear HStep HHit HFk
        go_wp2_with (go_at_call 39; refine hcm.mono ?_; rintro e w3 ⟨rfl, hb3⟩)
        go_roundw
        case rel => exact ⟨k + 1, hlt, by go_num, HJ2, hbel.trans (hb3.mono hszb)⟩
        case measure => simp [intOf]; omega
      · have HR : Hid (firstOf f n = x) := HHit.out x HFk.out hx0
        clear HStep HHit HFk
        go_wp2_with (go_at_call 39; refine hcm.mono ?_; rintro e w3 ⟨rfl, hb3⟩)
        go_ret
        rw [HR.out]
        exact ⟨rfl, hbw.trans (hb3.mono hbw.size)⟩
    · have hkn : k = n := by omega
      have HR : Hid (firstOf f n = 0) := firstOf_none (fun j hj => HJ.out j (by omega))
      go_wp2
      go_ret
      rw [HR.out]
      exact ⟨rfl, hbw⟩

set_option maxRecDepth 20000 in
/-- THE CONTRACT OF Props. -/
theorem mprops_any (va vr pv : Value) (m : Mo) (ps : List (List (Int × Int))) (w : World) (hB : 0 < w.heap.size) (hT : TabAt w) (hV : ModelV w va vr m) (hP : TermsV w pv ps) :
    Calls Tryd.prog 30 #[.agg #[va, vr], pv] w fun e w' => e = .returned (.int .i64 (pcode m ps)) ∧ Below w.heap.size w w' := by
  unfold pcode
  by_cases h : mcode m = 0
  · rw [if_pos h]
    by_cases h6 : 6 < ps.length
    · rw [if_pos h6]
      have hA : ∀ o, Below w.heap.size w (w.alloc o) := fun o => (Below.refl _ _).alloc (Nat.le_refl _) o
      have hch := fun o => mcheck_any va vr m (w.alloc o) (Nat.lt_of_lt_of_le hB (hA o).size) (hT.below (hA o) hB) (hV.below (hA o))
      rw [h] at hch
      obtain ⟨ao, cap, rfl⟩ := hV.1.shape
      obtain ⟨ro, rc, rfl⟩ := hV.2.shape
      obtain ⟨po, pc, rfl⟩ := hP.shape
      generalize m.vars.length = vn at *
      generalize m.rules.length = rn at *
      generalize ps.length = n at *
      clear hV hT hP h
      go_enter Tryd.func30, Tryd.ntmps30
      go_wp2_with (go_at_call 11; refine (hch _).mono ?_; rintro e w1 ⟨rfl, hb1⟩)
      go_ret
      exact ⟨rfl, (hA _).trans (hb1.mono (hA _).size)⟩
    · rw [if_neg h6]
      exact mprops_loop va vr pv m ps w hB hT hV hP h (by omega)
  · rw [if_neg h]
    have hA : ∀ o, Below w.heap.size w (w.alloc o) := fun o => (Below.refl _ _).alloc (Nat.le_refl _) o
    have hch := fun o => mcheck_any va vr m (w.alloc o) (Nat.lt_of_lt_of_le hB (hA o).size) (hT.below (hA o) hB) (hV.below (hA o))
    obtain ⟨ao, cap, rfl⟩ := hV.1.shape
    obtain ⟨ro, rc, rfl⟩ := hV.2.shape
    obtain ⟨po, pc, rfl⟩ := hP.shape
    generalize mcode m = x at *
    generalize m.vars.length = vn at *
    generalize m.rules.length = rn at *
    generalize ps.length = n at *
    clear hV hT hP
    go_enter Tryd.func30, Tryd.ntmps30
    go_wp2_with (go_at_call 11; refine (hch _).mono ?_; rintro e w1 ⟨rfl, hb1⟩)
    go_ret
    exact ⟨rfl, (hA _).trans (hb1.mono (hA _).size)⟩

end Go.Proofs.YtflmefohofocaaaDoor

/-
  Slices of truths; the contract of the laws' own sameTruths.
-/
namespace Go.Proofs.YtflmefohofocaaaDoor
open Go.ChangeShapes Go.WideShapes Go.ChangeAt Go.RowKit Go.Deep
open Terms

set_option maxRecDepth 20000 in
theorem infoBool : (Tryd.prog.info? 4).map (fun i => (i.zero, i.size, i.bytes)) = some (some (.bool false), 1, 1) := by kernel_rfl
/-- a slice of truths. -/
def BoolsAt (w : World) (b off : Nat) (l : List Bool) : Prop := ∀ i, i < l.length → w.cell? ⟨b, off + i, none⟩ = some (.bool (l.getD i false))
def BoolsV (w : World) (v : Value) (l : List Bool) : Prop := ∃ ao cap, v = .slice ao l.length cap ∧ (l ≠ [] → ∃ b off, ao = some ⟨b, off, none⟩ ∧ b < w.heap.size ∧ BoolsAt w b off l)
set_option maxRecDepth 20000 in
theorem BoolsV.below {w w' : World} {v : Value} {l : List Bool} (h : BoolsV w v l) (hb : Below w.heap.size w w') : BoolsV w' v l := by
  obtain ⟨ao, cap, rfl, h⟩ := h
  refine ⟨ao, cap, rfl, fun hne => ?_⟩
  obtain ⟨b, off, rfl, hlt, hat⟩ := h hne
  exact ⟨b, off, rfl, Nat.lt_of_lt_of_le hlt hb.size, fun i hi => (hb.cell (p := ⟨b, _, none⟩) hlt).trans (hat i hi)⟩
def bvals (l : List Bool) : List Value := l.map fun x => .bool x
set_option maxRecDepth 20000 in
theorem boolsV_of_owns {w : World} {base : Nat} {v : Value} {l : List Bool} (h : w.ownsRow base 4 1 v l.length (bvals l)) : BoolsV w v l := by
  rcases h.2 with ⟨rfl, h0⟩ | ⟨g, cap, cur, rfl, hb, hg, hnc, hcm, hcs, htake⟩
  · have : l = [] := by simpa using h0
    subst this
    exact ⟨none, 0, rfl, fun h => absurd rfl h⟩
  · refine ⟨_, cap, rfl, fun _ => ⟨g, 0, rfl, (Array.getElem?_eq_some_iff.1 hg).1, fun i hi => ?_⟩⟩
    rw [Nat.zero_add, h.cellAt i (by omega)]
    simp [bvals, List.getD_eq_getElem?_getD, hi]
set_option maxRecDepth 20000 in
theorem boolsV_of_row {w : World} {B : Nat} {l : List Bool} (h : w.rowIs B 4 l.length (fun j => .bool (l.getD j false))) : BoolsV w (.slice (some ⟨B, 0, none⟩) l.length l.length) l :=
  ⟨some ⟨B, 0, none⟩, l.length, rfl, fun _ => ⟨B, 0, rfl, h.lt, fun i hi => by rw [Nat.zero_add, h.cell hi]⟩⟩

end Go.Proofs.YtflmefohofocaaaDoor

/-
  The contract of step.Letter.
-/
namespace Go.Proofs.YtflmefohofocaaaDoor
open Go.ChangeShapes Go.WideShapes Go.ChangeAt Go.RowKit Go.Deep
open Terms Tm

/-- what Letter answers. -/
noncomputable def letC (m : Mo) (ps : List (List (Int × Int))) (code : Int) : Int := if pcode m ps = 0 then wcode m code else pcode m ps
noncomputable def letL (m : Mo) (ps : List (List (Int × Int))) (code : Int) : List Bool := if letC m ps code = 0 then ps.map (fun p => holdsB p (valsL m.vars code)) else []
set_option maxRecDepth 20000 in
theorem pcode_m {m : Mo} {ps : List (List (Int × Int))} (h : pcode m ps = 0) : mcode m = 0 ∧ ps.length ≤ 6 := by
  unfold pcode at h
  split at h
  · rename_i h1
    split at h
    · simp at h
    · exact ⟨h1, by omega⟩
  · rename_i h1; exact absurd h h1
set_option maxRecDepth 20000 in
theorem wcode_bare {m : Mo} (code : Int) (h : mcode m = 0) : wcode ⟨m.vars, []⟩ code = wcode m code := by
  unfold wcode
  rw [if_pos h, if_pos (mcode_bare h)]

set_option maxHeartbeats 3200000 in
set_option maxRecDepth 20000 in
/-- THE CONTRACT OF Letter. -/
theorem letter_any (va vr pv : Value) (m : Mo) (ps : List (List (Int × Int))) (code : Int) (w : World) (hB : 0 < w.heap.size) (hT : TabAt w) (hV : ModelV w va vr m) (hP : TermsV w pv ps) :
    Calls Tryd.prog 18 #[.agg #[va, vr], pv, .int .i64 code] w fun e w' => ∃ v, e = .returned (.tuple #[v, .int .i64 (letC m ps code)]) ∧ Below w.heap.size w w' ∧ BoolsV w' v (letL m ps code) := by
  have hA : ∀ o, Below w.heap.size w (w.alloc o) := fun o => (Below.refl _ _).alloc (Nat.le_refl _) o
  have hpr := fun o => mprops_any va vr pv m ps (w.alloc o) (Nat.lt_of_lt_of_le hB (hA o).size) (hT.below (hA o) hB) (hV.below (hA o)) (hP.below (hA o))
  obtain ⟨ao, cap, rfl⟩ := hV.1.shape
  obtain ⟨ro, rc, rfl⟩ := hV.2.shape
  obtain ⟨po, pc, rfl, hPa⟩ := hP
  have hba := fun w => bare_any ao ro m.vars.length cap m.rules.length rc w
  by_cases hp : pcode m ps = 0
  · obtain ⟨hm, hp6⟩ := pcode_m hp
    rw [hp] at hpr
    have hVb : ∀ w', Below w.heap.size w w' → ModelV w' (.slice ao m.vars.length cap) (.slice none 0 0) ⟨m.vars, []⟩ := fun w' hb => ⟨hV.1.below hb, ⟨none, 0, rfl, ⟨by simp, fun _ => ⟨rfl, rfl⟩⟩, fun h => by simp at h⟩⟩
    by_cases hw : wcode m code = 0
    · have hlc : letC m ps code = 0 := by unfold letC; rw [if_pos hp, hw]
      have hll : letL m ps code = ps.map (fun p => holdsB p (valsL m.vars code)) := by unfold letL; rw [if_pos hlc]
      rw [hlc, hll]
      have hvl := fun w' (hb : Below w.heap.size w w') => svalues_any _ _ ⟨m.vars, []⟩ code w' (Nat.lt_of_lt_of_le hB hb.size) (hT.below hb hB) (hVb w' hb) (by rw [wcode_bare _ hm]; exact hw)
      have hvl2 : ∀ w', Below w.heap.size w w' → Calls Tryd.prog 17 #[.agg #[.slice ao m.vars.length cap, .slice none 0 0], .int .i64 code] w' fun e w2 => ∃ B, e = .returned (.tuple #[.slice (some ⟨B, 0, none⟩) (valsL m.vars code).length (valsL m.vars code).length, .int .i64 0]) ∧ w'.heap.size ≤ B ∧ Below w'.heap.size w' w2 ∧ w2.rowIs B 3 (valsL m.vars code).length (fun j => .int .i64 ((valsL m.vars code).getD j 0)) := hvl
      generalize valsL m.vars code = env at hvl2 ⊢
      have HHo : Hid (∀ w' (_ : Below w.heap.size w w') v ev l, OpsV w' v l → IntsV w' ev env → Calls Tryd.prog 32 #[v, ev] w' fun e w2 => e = .returned (.bool (holdsB l env)) ∧ Below w'.heap.size w' w2) := fun w' hb v ev l h1 h2 => sholds_any v ev l env w' (Nat.lt_of_lt_of_le hB hb.size) (hT.below hb hB) h1 h2
      have HP : Hid (ps ≠ [] → ∃ b off, po = some ⟨b, off, none⟩ ∧ b < w.heap.size ∧ ∀ i, i < ps.length → ∃ u, w.cell? ⟨b, off + i, none⟩ = some u ∧ OpsV w u (ps.getD i [])) := hPa
      have HML : Hid ((ps.map (fun p => holdsB p env)).length = ps.length ∧ ∀ i, i < ps.length → (ps.map (fun p => holdsB p env)).getD i false = holdsB (ps.getD i []) env) := ⟨by simp, fun i hi => by simp [List.getD_eq_getElem?_getD, hi]⟩
      generalize ps.map (fun p => holdsB p env) = lt at HML ⊢
      obtain ⟨pn, hpn⟩ : ∃ pn, pn = ps.length := ⟨_, rfl⟩
      have HPN : Hid (pn = ps.length) := hpn
      rw [← hpn] at hpr hp6 HP HML ⊢
      generalize m.vars.length = n at *
      generalize m.rules.length = rn at *
      have hmk := run_make_row' (P := Tryd.prog) 55 4 (.bool false) 1 Tryd.underlying55 infoBool rfl .i64 .i64 pn (by omega) (by omega)
      clear hV hT hVb hlc hll hPa hvl hpn hw hm hp
      go_enter Tryd.func18, Tryd.ntmps18
      go_wp2_with (first | (go_at_call 30; refine (hpr _).mono ?_; rintro e w1 ⟨rfl, hb1⟩; have hbw1 := (hA _).trans (hb1.mono (hA _).size); have k10 : w1.cell? ⟨w.heap.size, 0, none⟩ = some (.slice ao n cap) := (hb1.cell (p := ⟨w.heap.size, 0, none⟩) (by simp)).trans (by simp [go_sem]); have k11 : w1.cell? ⟨w.heap.size, 1, none⟩ = some (.slice ro rn rc) := (hb1.cell (p := ⟨w.heap.size, 1, none⟩) (by simp)).trans (by simp [go_sem])) | (go_at_call 31; refine (hba _).mono ?_; rintro e w2 ⟨rfl, hb2⟩; have hbw2 := hbw1.trans (hb2.mono hbw1.size)) | (go_at_call 17; refine (hvl2 _ hbw2).mono ?_; rintro e w3 ⟨B, rfl, hBl, hb3, hr3⟩))
      have hbw3 := hbw2.trans (hb3.mono hbw2.size)
      have hrow0 := World.rowIs_made w3 (.bool false) pn 4
      have HI3 : Hid (∀ w', Below w3.heap.size w3 w' → IntsV w' (.slice (some ⟨B, 0, none⟩) env.length env.length) env) := fun w' hb => by
        have h1 := intsV_of_row hr3
        have e1 : (List.range env.length).map (fun j => env.getD j 0) = env := by
          apply List.ext_getElem?
          intro i
          by_cases hi : i < env.length
          · simp [hi, List.getD_eq_getElem?_getD]
          · simp [hi]
        rw [e1] at h1
        exact h1.below hb
      have HB3 : Hid (Below w.heap.size w w3) := hbw3
      clear hpr hvl2 hba hmk hb1 hbw1 k10 k11 hb2 hbw2 hb3 hr3 hbw3 hBl
      go_loopw [35] (fun i wr => ∃ k : Nat, k ≤ pn ∧ i = .int .i64 k ∧ Hid (wr.rowIs w3.heap.size 4 pn (fun j => if j < k then .bool (lt.getD j false) else .bool false)) ∧ Hid (Below w3.heap.size w3 wr)) (fun i _ => pn - (intOf i).toNat)
      case atStart => exact ⟨0, Nat.zero_le _, rfl, hrow0.congr (fun i hi => by rw [if_neg (by omega)]), (Below.refl _ _).alloc (Nat.le_refl _) _⟩
      case round =>
        obtain ⟨k, hk, rfl, HRow, HBel⟩ := hrel
        have hbel := HBel.out
        have hbw := HB3.out.trans (hbel.mono HB3.out.size)
        by_cases hlt : k < pn
        · obtain ⟨b, off, rfl, hblt, hat⟩ := HP.out (by intro h; have := HPN.out; subst h; simp at this; omega)
          obtain ⟨u, hu, hou⟩ := hat k hlt
          have c0 := (hbel.cell (p := ⟨b, off + k, none⟩) (Nat.lt_of_lt_of_le hblt HB3.out.size)).trans ((HB3.out.cell (p := ⟨b, off + k, none⟩) hblt).trans hu)
          obtain ⟨uo, uc, rfl⟩ := hou.shape
          have hho := HHo.out wr hbw _ _ _ (hou.below hbw) (HI3.out wr hbel)
          have HLk := (show Hid _ from HML.out.2 k hlt)
          generalize holdsB (ps.getD k []) env = tv at hho HLk
          generalize (ps.getD k []).length = ul at *
          have HWr : Hid (∀ w4, Below wr.heap.size wr w4 → w4.rowIs w3.heap.size 4 pn (fun j => if j < k then .bool (lt.getD j false) else .bool false) ∧ Below w3.heap.size w3 w4) := fun w4 hb => ⟨row_later HRow.out hb, hbel.trans (hb.mono hbel.size)⟩
          clear hat hu hou hbel hbw HHo HI3 HP HML
          go_wp2_with (go_at_call 32; refine hho.mono ?_; rintro e w4 ⟨rfl, hb4⟩; obtain ⟨hr4, hb34⟩ := HWr.out w4 hb4; have hf := hr4.frozen k; have hc : w4.cell? ⟨w3.heap.size, k, none⟩ = some (.bool false) := (by rw [hr4.cell hlt, if_neg (by omega)]); have HR4 : Hid (w4.rowIs w3.heap.size 4 pn (fun j => if j < k then .bool (lt.getD j false) else .bool false)) := hr4; clear hr4)
          refine ⟨⟨k + 1, hlt, by first | rfl | simp, (HR4.out.set k (.bool tv)).congr fun i hi => ?_, hb34.setCell (Nat.le_refl _) _⟩, by simp [intOf]; omega⟩
          by_cases hik : i = k
          · subst hik; rw [if_pos rfl, if_pos (by omega), HLk.out]
          · rw [if_neg hik]
            by_cases hlk : i < k
            · rw [if_pos hlk, if_pos (by omega)]
            · rw [if_neg hlk, if_neg (by omega)]
        · have hkn : k = pn := by omega
          subst hkn
          have hrow := HRow.out.congr (g := fun j => .bool (lt.getD j false)) (fun i hi => by rw [if_pos hi])
          rw [← HML.out.1] at hrow
          have hbo := boolsV_of_row hrow
          rw [HML.out.1] at hbo
          have HBO := (show Hid _ from hbo)
          clear hrow hbo
          go_wp2_with fail
          go_ret2
          exact ⟨_, rfl, hbw, HBO.out⟩
    · have hlc : letC m ps code = wcode m code := by unfold letC; rw [if_pos hp]
      have hll : letL m ps code = [] := by unfold letL; rw [if_neg (by rw [hlc]; exact hw)]
      rw [hlc, hll]
      have hvl := fun w' (hb : Below w.heap.size w w') => mvalues_any _ _ ⟨m.vars, []⟩ code w' (Nat.lt_of_lt_of_le hB hb.size) (hT.below hb hB) (hVb w' hb)
      rw [wcode_bare _ hm] at hvl
      generalize wcode m code = c at *
      generalize wvals ⟨m.vars, []⟩ code = vs at *
      generalize m.vars.length = n at *
      generalize m.rules.length = rn at *
      generalize ps.length = pn at *
      clear hV hT hVb hlc hll hPa
      go_enter Tryd.func18, Tryd.ntmps18
      go_wp2_with (first | (go_at_call 30; refine (hpr _).mono ?_; rintro e w1 ⟨rfl, hb1⟩; have hbw1 := (hA _).trans (hb1.mono (hA _).size); have k10 : w1.cell? ⟨w.heap.size, 0, none⟩ = some (.slice ao n cap) := (hb1.cell (p := ⟨w.heap.size, 0, none⟩) (by simp)).trans (by simp [go_sem]); have k11 : w1.cell? ⟨w.heap.size, 1, none⟩ = some (.slice ro rn rc) := (hb1.cell (p := ⟨w.heap.size, 1, none⟩) (by simp)).trans (by simp [go_sem])) | (go_at_call 31; refine (hba _).mono ?_; rintro e w2 ⟨rfl, hb2⟩; have hbw2 := hbw1.trans (hb2.mono hbw1.size)) | (go_at_call 17; refine (hvl _ hbw2).mono ?_; rintro e w3 ⟨v, rfl, hb3, _⟩))
      go_ret2
      exact ⟨_, rfl, hbw2.trans (hb3.mono hbw2.size), none, 0, rfl, fun h => absurd rfl h⟩
  · have hlc : letC m ps code = pcode m ps := by unfold letC; rw [if_neg hp]
    have hll : letL m ps code = [] := by unfold letL; rw [if_neg (by rw [hlc]; exact hp)]
    rw [hlc, hll]
    generalize pcode m ps = c at *
    generalize m.vars.length = n at *
    generalize m.rules.length = rn at *
    generalize ps.length = pn at *
    clear hV hT hlc hll hPa
    go_enter Tryd.func18, Tryd.ntmps18
    go_wp2_with (go_at_call 30; refine (hpr _).mono ?_; rintro e w1 ⟨rfl, hb1⟩)
    go_ret2
    exact ⟨_, rfl, (hA _).trans (hb1.mono (hA _).size), none, 0, rfl, fun h => absurd rfl h⟩
end Go.Proofs.YtflmefohofocaaaDoor

/-
  The library's slices.Sort and slices.Compact at lists of numbers: their contracts at this program, in plain words.
-/
namespace Go.Proofs.YtflmefohofocaaaDoor
open Go.Shelf
def lays189_ren : Go.Shelf.Ren := ⟨fun | 189 => 26 | 125 => 42 | 257 => 41 | 128 => 59 | 129 => 60 | 294 => 50 | 295 => 51 | 296 => 52 | 297 => 53 | 298 => 54 | 299 => 55 | 216 => 56 | 300 => 57 | 301 => 58 | 328 => 67 | 329 => 68 | 330 => 69 | 331 => 70 | 332 => 71 | 215 => 72 | 343 => 84 | n => n, fun | 28 => 46 | 3 => 3 | 46 => 90 | 0 => 0 | 51 => 108 | 53 => 110 | 4 => 4 | 183 => 101 | 182 => 100 | 131 => 69 | 5 => 5 | 9 => 9 | 218 => 118 | 222 => 122 | 228 => 128 | 229 => 129 | n => n, fun | n => n⟩
set_option maxRecDepth 20000 in
theorem lays189 : Go.Proofs.Lays.n189 Tryd.prog lays189_ren := {
  mixed := by kernel_rfl
  f125 := Tryd.func42.trans (congrArg some (by kernel_rfl))
  f128 := Tryd.func59.trans (congrArg some (by kernel_rfl))
  f129 := Tryd.func60.trans (congrArg some (by kernel_rfl))
  f189 := Tryd.func26.trans (congrArg some (by kernel_rfl))
  f215 := Tryd.func72.trans (congrArg some (by kernel_rfl))
  f216 := Tryd.func56.trans (congrArg some (by kernel_rfl))
  f257 := Tryd.func41.trans (congrArg some (by kernel_rfl))
  f294 := Tryd.func50.trans (congrArg some (by kernel_rfl))
  f295 := Tryd.func51.trans (congrArg some (by kernel_rfl))
  f296 := Tryd.func52.trans (congrArg some (by kernel_rfl))
  f297 := Tryd.func53.trans (congrArg some (by kernel_rfl))
  f298 := Tryd.func54.trans (congrArg some (by kernel_rfl))
  f299 := Tryd.func55.trans (congrArg some (by kernel_rfl))
  f300 := Tryd.func57.trans (congrArg some (by kernel_rfl))
  f301 := Tryd.func58.trans (congrArg some (by kernel_rfl))
  f328 := Tryd.func67.trans (congrArg some (by kernel_rfl))
  f329 := Tryd.func68.trans (congrArg some (by kernel_rfl))
  f330 := Tryd.func69.trans (congrArg some (by kernel_rfl))
  f331 := Tryd.func70.trans (congrArg some (by kernel_rfl))
  f332 := Tryd.func71.trans (congrArg some (by kernel_rfl))
  f343 := Tryd.func84.trans (congrArg some (by kernel_rfl))
  t0 := Tryd.underlying0
  a0 := Tryd.isAgg0
  z0 := Tryd.sizeOf0
  v0 := Tryd.zeroValue0
  t3 := Tryd.underlying3
  a3 := Tryd.isAgg3
  z3 := Tryd.sizeOf3
  v3 := Tryd.zeroValue3
  t4 := Tryd.underlying4
  a4 := Tryd.isAgg4
  z4 := Tryd.sizeOf4
  v4 := Tryd.zeroValue4
  t5 := Tryd.underlying5
  a5 := Tryd.isAgg5
  z5 := Tryd.sizeOf5
  v5 := Tryd.zeroValue5
  t9 := Tryd.underlying9
  a9 := Tryd.isAgg9
  z9 := Tryd.sizeOf9
  v9 := Tryd.zeroValue9
  t28 := Tryd.underlying46
  a28 := Tryd.isAgg46
  z28 := Tryd.sizeOf46
  v28 := Tryd.zeroValue46
  t46 := Tryd.underlying90
  a46 := Tryd.isAgg90
  z46 := Tryd.sizeOf90
  v46 := Tryd.zeroValue90
  t51 := Tryd.underlying108
  a51 := Tryd.isAgg108
  z51 := Tryd.sizeOf108
  v51 := Tryd.zeroValue108
  t53 := Tryd.underlying110
  a53 := Tryd.isAgg110
  z53 := Tryd.sizeOf110
  v53 := Tryd.zeroValue110
  t131 := Tryd.underlying69
  a131 := Tryd.isAgg69
  z131 := Tryd.sizeOf69
  v131 := Tryd.zeroValue69
  t182 := Tryd.underlying100
  a182 := Tryd.isAgg100
  z182 := Tryd.sizeOf100
  v182 := Tryd.zeroValue100
  t183 := Tryd.underlying101
  a183 := Tryd.isAgg101
  z183 := Tryd.sizeOf101
  v183 := Tryd.zeroValue101
  t218 := Tryd.underlying118
  a218 := Tryd.isAgg118
  z218 := Tryd.sizeOf118
  v218 := Tryd.zeroValue118
  t222 := Tryd.underlying122
  a222 := Tryd.isAgg122
  z222 := Tryd.sizeOf122
  v222 := Tryd.zeroValue122
  t228 := Tryd.underlying128
  a228 := Tryd.isAgg128
  z228 := Tryd.sizeOf128
  v228 := Tryd.zeroValue128
  t229 := Tryd.underlying129
  a229 := Tryd.isAgg129
  z229 := Tryd.sizeOf129
  v229 := Tryd.zeroValue129 }
open Go.Sort Go.RowKit in
set_option maxRecDepth 20000 in
theorem slices_Sort_int (blk off cap : Nat) (zs : List Int) (w : World) (hH : Holds (Value.int .i64) w blk off zs.toArray) (hblk : blk < w.heap.size) (hsz : zs.length < 4611686018427387904) :
    Calls Tryd.prog 26 #[.slice (some ⟨blk, off, none⟩) zs.length cap] w fun e w' =>
      e = .returned (.tuple #[]) ∧ ∃ n os, w' = grow (putRow (Value.int .i64) (Sort.ahead w n) blk off (zs.mergeSort fun x y => decide (x ≤ y)).toArray) os := Any.slices_Sort_int lays189 blk off cap zs w hH hblk hsz
def laysNm220_ren : Go.Shelf.Ren := ⟨fun | 20 => 40 | n => n, fun | 22 => 46 | 3 => 3 | 4 => 4 | 0 => 0 | n => n, fun | n => n⟩
set_option maxRecDepth 20000 in
theorem laysNm220 : Go.Proofs.Lays2.n20 Tryd.prog laysNm220_ren := {
  mixed := by kernel_rfl
  f20 := Tryd.func40.trans (congrArg some (by kernel_rfl))
  t0 := Tryd.underlying0
  a0 := Tryd.isAgg0
  z0 := Tryd.sizeOf0
  v0 := Tryd.zeroValue0
  t3 := Tryd.underlying3
  a3 := Tryd.isAgg3
  z3 := Tryd.sizeOf3
  v3 := Tryd.zeroValue3
  t4 := Tryd.underlying4
  a4 := Tryd.isAgg4
  z4 := Tryd.sizeOf4
  v4 := Tryd.zeroValue4
  t22 := Tryd.underlying46
  a22 := Tryd.isAgg46
  z22 := Tryd.sizeOf46
  v22 := Tryd.zeroValue46
  i3 := by kernel_rfl }
open Go.RowKit Go.Lib Go.Sort in
set_option maxRecDepth 20000 in
theorem slices_Compact_int (blk off cap : Nat) (zs : List Int) (w : World) (hH : Holds (Value.int .i64) w blk off zs.toArray) (hsz : zs.length ≤ 9223372036854775807) (hcap : zs.length ≤ cap) :
    Calls Tryd.prog 40 #[.slice (some ⟨blk, off, none⟩) zs.length cap] w fun e w' => e = .returned (.slice (some ⟨blk, off, none⟩) (Lib.compact zs).length cap) ∧ ∃ q, w' = putRow (Value.int .i64) (Sort.ahead w q) blk off (Lib.compact zs ++ List.replicate (zs.length - (Lib.compact zs).length) 0).toArray := Any.slices_Compact_int laysNm220 blk off cap zs w hH hsz hcap
end Go.Proofs.YtflmefohofocaaaDoor

/-
  The library's Sort and Compact of numbers that lie in a row of one's own; and what comes of them.
-/
namespace Go.Proofs.YtflmefohofocaaaDoor
open Go.RowKit Go.Sort

def leB (x y : Int) : Bool := decide (x ≤ y)
set_option maxRecDepth 20000 in
/-- slices.Sort. -/
theorem sort_own (g cap base : Nat) (zs : List Int) (w : World) (hz : zs.length ≤ 100000) (ho : w.ownsRow base 3 1 (.slice (some ⟨g, 0, none⟩) zs.length cap) zs.length (ivals zs)) :
    Calls Tryd.prog 26 #[.slice (some ⟨g, 0, none⟩) zs.length cap] w fun e w' => e = .returned (.tuple #[]) ∧ w.grownBy w' (some g) ∧ w'.ownsRow base 3 1 (.slice (some ⟨g, 0, none⟩) zs.length cap) zs.length (ivals (zs.mergeSort leB)) := by
  have ho' : w.ownsRow base 3 1 (.slice (some ⟨g, 0, none⟩) zs.length cap) zs.length (zs.map (Value.int .i64)) := ho
  obtain ⟨g', cap', hv, hbg, hlt, hn, hm, hl, hH⟩ := Lib.holds_of_ownsRow ho' (by simp)
  injection hv with h1 h2 h3
  injection h1 with h1
  injection h1 with h1
  subst h1 h3
  rcases ho.2 with ⟨e0, _⟩ | ⟨g2, cap2, cur, e0, hb, hg, hnc, hcm, hcs, ht⟩
  · cases e0
  · injection e0 with e1 _ e3
    injection e1 with e1
    injection e1 with e1
    subst e1 e3
    refine (slices_Sort_int g 0 cap zs w hH hlt (by omega)).mono fun e w' ⟨he, n, os, hw⟩ => ⟨he, ?_, ?_⟩
    · rw [hw]; exact grownBy_sortedI _
    · rw [hw]; exact ownsRow_sortedI (ts := zs.mergeSort leB) (by simp) hbg hg hnc hcm hcs
set_option maxRecDepth 20000 in
/-- slices.Compact. -/
theorem compact_own (g cap base : Nat) (zs : List Int) (w : World) (hz : zs.length ≤ 100000) (ho : w.ownsRow base 3 1 (.slice (some ⟨g, 0, none⟩) zs.length cap) zs.length (ivals zs)) :
    Calls Tryd.prog 40 #[.slice (some ⟨g, 0, none⟩) zs.length cap] w fun e w' => e = .returned (.slice (some ⟨g, 0, none⟩) (Lib.compact zs).length cap) ∧ w.grownBy w' (some g) ∧ w'.ownsRow base 3 1 (.slice (some ⟨g, 0, none⟩) (Lib.compact zs).length cap) (Lib.compact zs).length (ivals (Lib.compact zs)) := by
  have ho' : w.ownsRow base 3 1 (.slice (some ⟨g, 0, none⟩) zs.length cap) zs.length (zs.map (Value.int .i64)) := ho
  obtain ⟨g', cap', hv, hbg, hlt, hn, hm, hl, hH⟩ := Lib.holds_of_ownsRow ho' (by simp)
  injection hv with h1 h2 h3
  injection h1 with h1
  injection h1 with h1
  subst h1 h3
  have hcl := Lib.compact_length_le zs
  refine (slices_Compact_int g 0 cap zs w hH (by omega) hn).mono fun e w' ⟨he, q, hw⟩ => ⟨he, ?_, ?_⟩
  · rw [hw]
    refine ⟨rfl, rfl, rfl, by simp [putRow, mapBlock, Sort.ahead], fun k _ hne => ?_⟩
    have : g ≠ k := fun e => hne (by rw [e])
    simp [putRow, mapBlock, Sort.ahead, Array.getElem?_modify, this]
  · rw [hw]
    have h := Lib.ownsRow_putRow (q := q) (k := (Lib.compact zs).length) (ys := Lib.compact zs ++ List.replicate (zs.length - (Lib.compact zs).length) 0) ho' (by simp; omega) hcl
    rw [List.take_left] at h
    exact h

/-! ### lists that rise -/

abbrev Rise (l : List Int) : Prop := l.Pairwise (· < ·)
set_option maxRecDepth 20000 in
theorem rise_eq : ∀ {l l' : List Int}, Rise l → Rise l' → (∀ x, x ∈ l ↔ x ∈ l') → l = l'
  | [], [], _, _, _ => rfl
  | [], y :: l', _, _, h => absurd ((h y).2 (by simp)) (by simp)
  | x :: l, [], _, _, h => absurd ((h x).1 (by simp)) (by simp)
  | x :: l, y :: l', h1, h2, h => by
    obtain ⟨hx, t1⟩ := List.pairwise_cons.1 h1
    obtain ⟨hy, t2⟩ := List.pairwise_cons.1 h2
    have e : x = y := by
      rcases List.mem_cons.1 ((h x).1 (by simp)) with e | e
      · exact e
      · rcases List.mem_cons.1 ((h y).2 (by simp)) with e' | e'
        · exact e'.symm
        · have := hx y e'; have := hy x e; omega
    subst e
    refine congrArg (x :: ·) (rise_eq t1 t2 fun z => ⟨fun hz => ?_, fun hz => ?_⟩)
    · rcases List.mem_cons.1 ((h z).1 (by simp [hz])) with e | e
      · subst e; have := hx z hz; omega
      · exact e
    · rcases List.mem_cons.1 ((h z).2 (by simp [hz])) with e | e
      · subst e; have := hy z hz; omega
      · exact e
set_option maxRecDepth 20000 in
theorem compact_step {d : Array Int} {n : Nat} (hs : ∀ i j, i ≤ j → j < n → d[i]! ≤ d[j]!) : ∀ m, m ≤ n → Rise (Lib.compactUpTo d m) ∧ ∀ x, x ∈ Lib.compactUpTo d m ↔ ∃ j, j < m ∧ d[j]! = x := by
  intro m
  induction m with
  | zero => intro _; exact ⟨by simp [Lib.compactUpTo], fun x => by simp [Lib.compactUpTo]⟩
  | succ m ih =>
    intro hm
    obtain ⟨h1, h2⟩ := ih (by omega)
    rw [Lib.compactUpTo_succ]
    by_cases hk : Lib.keeps d m = true
    · rw [if_pos hk]
      refine ⟨List.pairwise_append.2 ⟨h1, by simp, fun x hx y hy => ?_⟩, fun x => ?_⟩
      · simp at hy
        subst hy
        obtain ⟨j, hj, rfl⟩ := (h2 x).1 hx
        have h3 := hs j m (by omega) (by omega)
        have h4 := hs j (m - 1) (by omega) (by omega)
        have h5 := hs (m - 1) m (by omega) (by omega)
        have h6 : d[m]! ≠ d[m - 1]! := by
          have : m ≠ 0 := by omega
          simpa [Lib.keeps, this] using hk
        omega
      · simp only [List.mem_append, List.mem_singleton, h2]
        constructor
        · rintro (⟨j, hj, e⟩ | e)
          · exact ⟨j, by omega, e⟩
          · exact ⟨m, by omega, e.symm⟩
        · rintro ⟨j, hj, e⟩
          by_cases hjm : j = m
          · subst hjm; exact .inr e.symm
          · exact .inl ⟨j, by omega, e⟩
    · rw [if_neg hk, List.append_nil]
      refine ⟨h1, fun x => ?_⟩
      rw [h2]
      constructor
      · rintro ⟨j, hj, e⟩; exact ⟨j, by omega, e⟩
      · rintro ⟨j, hj, e⟩
        by_cases hjm : j = m
        · subst hjm
          have h7 : j ≠ 0 ∧ d[j]! = d[j - 1]! := by simpa [Lib.keeps] using hk
          exact ⟨j - 1, by omega, by rw [← h7.2]; exact e⟩
        · exact ⟨j, by omega, e⟩
/-- the numbers of a list, each once, rising. -/
def upL (l : List Int) : List Int := Lib.compact (l.mergeSort leB)
set_option maxRecDepth 20000 in
theorem upL_spec (l : List Int) : Rise (upL l) ∧ ∀ x, x ∈ upL l ↔ x ∈ l := by
  have hp : (l.mergeSort leB).Pairwise (fun x y => leB x y = true) := List.pairwise_mergeSort (le := leB) (by intro a b c; simp only [leB, decide_eq_true_eq]; omega) (by intro a b; simp only [leB, Bool.or_eq_true, decide_eq_true_eq]; omega) l
  have hs : ∀ i j, i ≤ j → j < (l.mergeSort leB).length → (l.mergeSort leB).toArray[i]! ≤ (l.mergeSort leB).toArray[j]! := fun i j hij hj => by
    rw [getElem!_pos _ i (by simpa using (by omega : i < (l.mergeSort leB).length)), getElem!_pos _ j (by simpa using hj)]
    rcases Nat.lt_or_eq_of_le hij with h | h
    · have := List.pairwise_iff_getElem.1 hp i j (by omega) hj h
      simpa [leB] using this
    · subst h; exact Int.le_refl _
  obtain ⟨h1, h2⟩ := compact_step hs (l.mergeSort leB).length (Nat.le_refl _)
  refine ⟨h1, fun x => ?_⟩
  show x ∈ Lib.compactUpTo _ _ ↔ _
  rw [h2, ← (List.mergeSort_perm l leB).mem_iff, List.mem_iff_getElem]
  constructor
  · rintro ⟨j, hj, e⟩
    exact ⟨j, hj, by rw [← e, getElem!_pos _ j (by simpa using hj)]; rfl⟩
  · rintro ⟨j, hj, e⟩
    exact ⟨j, hj, by rw [getElem!_pos _ j (by simpa using hj)]; exact e⟩
set_option maxRecDepth 20000 in
theorem upL_eq {l l' : List Int} (h : Rise l) (hm : ∀ x, x ∈ l ↔ x ∈ l') : l = upL l' := rise_eq h (upL_spec l').1 fun x => by rw [hm, (upL_spec l').2]
end Go.Proofs.YtflmefohofocaaaDoor

/-
  Plain mathematics of what comes next.
-/
namespace Go.Proofs.YtflmefohofocaaaDoor
open Terms Tm

/-- what comes behind the first so many rules. -/
noncomputable def rawTo (vars : List Vr) (env : List Int) (rules : List Ru) (k : Nat) : List Int := (rules.take k).filterMap (ruleDo vars env)
set_option maxRecDepth 20000 in
theorem rawTo_some {vars : List Vr} {env : List Int} {rules : List Ru} {k : Nat} (hk : k < rules.length) {x : Int} (h : ruleDo vars env (rules.getD k ru0) = some x) : rawTo vars env rules (k + 1) = rawTo vars env rules k ++ [x] := by
  unfold rawTo
  rw [List.take_succ_eq_append_getElem hk, List.filterMap_append, show rules[k] = rules.getD k ru0 by simp [List.getD_eq_getElem?_getD, hk]]
  generalize rules.getD k ru0 = r at h
  simp [h]
set_option maxRecDepth 20000 in
theorem rawTo_none {vars : List Vr} {env : List Int} {rules : List Ru} {k : Nat} (hk : k < rules.length) (h : ruleDo vars env (rules.getD k ru0) = none) : rawTo vars env rules (k + 1) = rawTo vars env rules k := by
  unfold rawTo
  rw [List.take_succ_eq_append_getElem hk, List.filterMap_append, show rules[k] = rules.getD k ru0 by simp [List.getD_eq_getElem?_getD, hk]]
  generalize rules.getD k ru0 = r at h
  simp [h]
set_option maxRecDepth 20000 in
theorem rawTo_length (vars : List Vr) (env : List Int) (rules : List Ru) (k : Nat) : (rawTo vars env rules k).length ≤ k := by
  unfold rawTo
  exact Nat.le_trans (List.length_filterMap_le _ _) (by simp; omega)
/-- what comes behind all rules, or the state itself. -/
noncomputable def rawL (m : Mo) (code : Int) : List Int := if rawTo m.vars (valsL m.vars code) m.rules m.rules.length = [] then [code] else rawTo m.vars (valsL m.vars code) m.rules m.rules.length
/-- the next states. -/
noncomputable def nextL (m : Mo) (code : Int) : List Int := upL (rawL m code)
/-- what Next answers. -/
noncomputable def nxtL (m : Mo) (code : Int) : List Int := if wcode m code = 0 then nextL m code else []
set_option maxRecDepth 20000 in
theorem rawTo_mem {vars : List Vr} {env : List Int} {rules : List Ru} {k : Nat} (hk : k ≤ rules.length) (x : Int) : x ∈ rawTo vars env rules k ↔ ∃ j, j < k ∧ ruleDo vars env (rules.getD j ru0) = some x := by
  unfold rawTo
  rw [List.mem_filterMap]
  constructor
  · rintro ⟨r, hr, e⟩
    obtain ⟨j, hj, rfl⟩ := List.mem_iff_getElem.1 hr
    rw [List.length_take] at hj
    refine ⟨j, by omega, ?_⟩
    rw [List.getElem_take] at e
    rw [show rules.getD j ru0 = rules[j]'(by omega) by simp [List.getD_eq_getElem?_getD, show j < rules.length by omega]]
    exact e
  · rintro ⟨j, hj, e⟩
    refine ⟨rules.getD j ru0, ?_, e⟩
    rw [List.mem_iff_getElem]
    exact ⟨j, by rw [List.length_take]; omega, by rw [List.getElem_take]; simp [List.getD_eq_getElem?_getD, show j < rules.length by omega]⟩
set_option maxRecDepth 20000 in
/-- a state behind a rule is a state. -/
theorem ruleDo_state {vars : List Vr} {env : List Int} {r : Ru} {x : Int} (hv : VarsOk vars) (h : ruleDo vars env r = some x) : 0 ≤ x ∧ x < prodTo vars vars.length := by
  unfold ruleDo at h
  split at h
  · rename_i hc
    injection h with h
    subst h
    exact code_bounds hv (Nat.le_refl _) hc.2.2
  · cases h
set_option maxRecDepth 20000 in
theorem upL_length (l : List Int) : (upL l).length ≤ l.length := Nat.le_trans (Lib.compact_length_le _) (by simp)
set_option maxRecDepth 20000 in
theorem nxtL_length (m : Mo) (code : Int) : (nxtL m code).length ≤ 1 + m.rules.length := by
  unfold nxtL nextL
  split
  · refine Nat.le_trans (upL_length _) ?_
    unfold rawL
    split
    · simp
    · exact Nat.le_trans (rawTo_length _ _ _ _) (by omega)
  · simp
end Go.Proofs.YtflmefohofocaaaDoor

/-
  The contracts of step.nextOf and step.Next.
-/
namespace Go.Proofs.YtflmefohofocaaaDoor
open Go.ChangeShapes Go.WideShapes Go.ChangeAt Go.RowKit Go.Deep
open Terms Tm

/-- numbers in a row of one's own, in a slice that is not nil. -/
def OwnI (base : Nat) (w : World) (v : Value) (l : List Int) : Prop := w.ownsRow base 3 1 v l.length (ivals l) ∧ v ≠ .slice none 0 0
set_option maxRecDepth 20000 in
theorem OwnI.form {base : Nat} {w : World} {v : Value} {l : List Int} (h : OwnI base w v l) : ∃ g cap, v = .slice (some ⟨g, 0, none⟩) l.length cap ∧ base ≤ g ∧ g < w.heap.size := by
  rcases h.1.2 with ⟨e0, _⟩ | ⟨g, cap, cur, rfl, hb, hg, _⟩
  · exact absurd e0 h.2
  · exact ⟨g, cap, rfl, hb, (Array.getElem?_eq_some_iff.1 hg).1⟩

set_option maxHeartbeats 3200000 in
set_option maxRecDepth 20000 in
/-- THE CONTRACT OF nextOf. -/
theorem nextOf_own (va vr : Value) (m : Mo) (code : Int) (w : World) (hB : 0 < w.heap.size) (hT : TabAt w) (hV : ModelV w va vr m) (hm : mcode m = 0) :
    Calls Tryd.prog 25 #[.agg #[va, vr], .int .i64 code] w fun e w' => ∃ v, e = .returned (.tuple #[v, .int .i64 (wcode m code)]) ∧ Below w.heap.size w w' ∧ IntsV w' v (nxtL m code) ∧ w'.ownsRow w.heap.size 3 1 v (nxtL m code).length (ivals (nxtL m code)) := by
  have hA : ∀ o, Below w.heap.size w (w.alloc o) := fun o => (Below.refl _ _).alloc (Nat.le_refl _) o
  have hVb : ∀ w', Below w.heap.size w w' → ∀ ao cap, va = .slice ao m.vars.length cap → ModelV w' (.slice ao m.vars.length cap) (.slice none 0 0) ⟨m.vars, []⟩ := fun w' hb ao cap e => ⟨e ▸ hV.1.below hb, ⟨none, 0, rfl, ⟨by simp, fun _ => ⟨rfl, rfl⟩⟩, fun h => by simp at h⟩⟩
  obtain ⟨ao, cap, rfl⟩ := hV.1.shape
  obtain ⟨ro, rc, hro⟩ := hV.2.shape
  have hba := fun w => bare_any ao ro m.vars.length cap m.rules.length rc w
  by_cases hw : wcode m code = 0
  · have hvl : ∀ w', Below w.heap.size w w' → Calls Tryd.prog 17 #[.agg #[.slice ao m.vars.length cap, .slice none 0 0], .int .i64 code] w' fun e w2 => ∃ B, e = .returned (.tuple #[.slice (some ⟨B, 0, none⟩) (valsL m.vars code).length (valsL m.vars code).length, .int .i64 0]) ∧ w'.heap.size ≤ B ∧ Below w'.heap.size w' w2 ∧ w2.rowIs B 3 (valsL m.vars code).length (fun j => .int .i64 ((valsL m.vars code).getD j 0)) := fun w' hb =>
      svalues_any _ _ ⟨m.vars, []⟩ code w' (Nat.lt_of_lt_of_le hB hb.size) (hT.below hb hB) (hVb w' hb ao cap rfl) (by rw [wcode_bare _ hm]; exact hw)
    obtain ⟨hr12, hrs⟩ := mcode_rules hm
    have HDo : Hid (∀ w' (_ : Below w.heap.size w w') B k gv sv, k < m.rules.length → w'.rowIs B 3 (valsL m.vars code).length (fun j => .int .i64 ((valsL m.vars code).getD j 0)) → OpsV w' gv (m.rules.getD k ru0).guard → SetsV w' sv (m.rules.getD k ru0).sets → Calls Tryd.prog 34 #[.agg #[.slice ao m.vars.length cap, vr], .slice (some ⟨B, 0, none⟩) (valsL m.vars code).length (valsL m.vars code).length, .agg #[gv, sv]] w' fun e w2 => e = .returned (.tuple #[.int .i64 (optN (ruleDo m.vars (valsL m.vars code) (m.rules.getD k ru0))), .int .i64 (optC (ruleDo m.vars (valsL m.vars code) (m.rules.getD k ru0)))]) ∧ Below w'.heap.size w' w2) := fun w' hb B k gv sv hk hrow hg hs =>
      doRule_any _ vr gv sv B m (valsL m.vars code) (m.rules.getD k ru0) w' (Nat.lt_of_lt_of_le hB hb.size) (hT.below hb hB) (hV.below hb) hm (hrs k hk) (valsL_length _ _) hrow hg hs
    have HR : Hid (RulesV w vr m.rules) := hV.2
    have HNL : Hid (nxtL m code = upL (if rawTo m.vars (valsL m.vars code) m.rules m.rules.length = [] then [code] else rawTo m.vars (valsL m.vars code) m.rules m.rules.length)) := by show _ = _; unfold nxtL nextL rawL; rw [if_pos hw]
    rw [hw]
    generalize nxtL m code = res at *
    generalize valsL m.vars code = env at *
    subst hro
    obtain ⟨rn, hrn⟩ : ∃ rn, rn = m.rules.length := ⟨_, rfl⟩
    have HRN : Hid (rn = m.rules.length) := hrn
    rw [← hrn] at hba HDo HR HNL hr12 ⊢
    obtain ⟨i0, hi, hz0, hz1, hz2⟩ := info_parts infoInt
    clear hV hT hVb hw hm hrs hrn
    generalize m.vars.length = n at *
    go_enter Tryd.func25, Tryd.ntmps25
    go_wp2_with (first | (go_at_call 31; refine (hba _).mono ?_; rintro e w1 ⟨rfl, hb1⟩; have hbw1 := (hA _).trans (hb1.mono (hA _).size); have k10 : w1.cell? ⟨w.heap.size, 0, none⟩ = some (.slice ao n cap) := (hb1.cell (p := ⟨w.heap.size, 0, none⟩) (by simp)).trans (by simp [go_sem]); have k11 : w1.cell? ⟨w.heap.size, 1, none⟩ = some (.slice ro rn rc) := (hb1.cell (p := ⟨w.heap.size, 1, none⟩) (by simp)).trans (by simp [go_sem]); have hs1 : w.heap.size < w1.heap.size := (by have := hb1.size; simp at this; omega)) | (go_at_call 17; refine (hvl _ hbw1).mono ?_; rintro e w2 ⟨B, rfl, hBl, hb2, hr2⟩; have k20 := (hb2.cell (p := ⟨w.heap.size, 0, none⟩) hs1).trans k10; have k21 := (hb2.cell (p := ⟨w.heap.size, 1, none⟩) hs1).trans k11; have hs2 := Nat.lt_of_lt_of_le hs1 hb2.size; have kA1 : ∀ o, (w2.alloc o).cell? ⟨w.heap.size, 1, none⟩ = some (.slice ro rn rc) := fun o => (((Below.refl w2.heap.size w2).alloc (Nat.le_refl _) o).cell (p := ⟨w.heap.size, 1, none⟩) hs2).trans k21))
    have hbw2 := hbw1.trans (hb2.mono hbw1.size)
    have hA2 : ∀ o, Below w2.heap.size w2 (w2.alloc o) := fun o => (Below.refl _ _).alloc (Nat.le_refl _) o
    have HRow : Hid (w2.rowIs B 3 env.length (fun j => .int .i64 (env.getD j 0))) := hr2
    have HB2 : Hid (Below w.heap.size w w2) := hbw2
    have HK2 : Hid (∀ w', Below w2.heap.size w2 w' → w'.cell? ⟨w.heap.size, 0, none⟩ = some (.slice ao n cap) ∧ w'.cell? ⟨w.heap.size, 1, none⟩ = some (.slice ro rn rc)) := fun w' hb => ⟨(hb.cell (p := ⟨w.heap.size, 0, none⟩) hs2).trans k20, (hb.cell (p := ⟨w.heap.size, 1, none⟩) hs2).trans k21⟩
    have HO0 : Hid (OwnI w2.heap.size (w2.alloc (.cells #[] 3)) (.slice (some ⟨w2.heap.size, 0, none⟩) 0 0) (rawTo m.vars env m.rules 0)) := ⟨World.ownsRow_lit w2 #[] 0 (Nat.le_refl _) (by decide) rfl, by simp⟩
    clear hvl hba hb1 hbw1 k10 k11 hs1 hb2 hr2 k20 k21 kA1 hbw2
    go_loopw [8, 27] (fun nx i wr => ∃ k : Nat, k ≤ rn ∧ i = .int .i64 k ∧ Hid (OwnI w2.heap.size wr nx (rawTo m.vars env m.rules k)) ∧ Hid (Below w2.heap.size w2 wr)) (fun _ i _ => rn - (intOf i).toNat)
    case atStart => exact ⟨0, Nat.zero_le _, rfl, HO0.out, hA2 _⟩
    case round =>
      obtain ⟨k, hk, rfl, HOwn, HBel⟩ := hrel
      have hbel := HBel.out
      have hbw := HB2.out.trans (hbel.mono HB2.out.size)
      obtain ⟨kr0, kr1⟩ := HK2.out wr hbel
      obtain ⟨g, gc, rfl, hg, hgl⟩ := HOwn.out.form
      have hown := HOwn.out.1
      by_cases hlt : k < rn
      · obtain ⟨b, off, rfl, hblt, hat⟩ := HR.out.at (i := k) (by rw [← HRN.out]; exact hlt)
        obtain ⟨⟨u, c0, hou⟩, u', c1, hsu⟩ := hat.below hbw hblt
        obtain ⟨uo, uc, rfl⟩ := hou.shape
        obtain ⟨so, sc, rfl⟩ := hsu.shape
        have hAr : ∀ o, Below wr.heap.size wr (wr.alloc o) := fun o => (Below.refl _ _).alloc (Nat.le_refl _) o
        have hkA0 : ∀ o, (wr.alloc o).cell? ⟨w.heap.size, 0, none⟩ = some (.slice ao n cap) := fun o => (HK2.out _ (hbel.trans ((hAr o).mono hbel.size))).1
        have hkA1 : ∀ o, (wr.alloc o).cell? ⟨w.heap.size, 1, none⟩ = some (.slice (some ⟨b, off, none⟩) rn rc) := fun o => (HK2.out _ (hbel.trans ((hAr o).mono hbel.size))).2
        have hdo := fun o => HDo.out (wr.alloc o) (hbw.trans ((hAr o).mono hbw.size)) B k _ _ hlt (row_later (row_later HRow.out hbel) (hAr o)) (hou.below (hAr o)) (hsu.below (hAr o))
        have HRl : Hid ((rawTo m.vars env m.rules k).length ≤ k) := rawTo_length _ _ _ _
        have hk' : k < m.rules.length := by rw [← HRN.out]; exact hlt
        generalize (m.rules.getD k ru0).guard.length = gl at *
        generalize (m.rules.getD k ru0).sets.length = sl at *
        obtain ⟨L, hL⟩ : ∃ L, L = (rawTo m.vars env m.rules k).length := ⟨_, rfl⟩
        have HL : Hid (L = (rawTo m.vars env m.rules k).length) := hL
        rw [← hL] at hown HRl ⊢
        cases hres : ruleDo m.vars env (m.rules.getD k ru0) with
        | none =>
          rw [hres] at hdo
          simp only [optN, optC] at hdo
          have HN : Hid (rawTo m.vars env m.rules (k + 1) = rawTo m.vars env m.rules k) := rawTo_none hk' hres
          have HW4 : Hid (∀ o w4, Below (wr.alloc o).heap.size (wr.alloc o) w4 → Below w2.heap.size w2 w4 ∧ OwnI w2.heap.size w4 (.slice (some ⟨g, 0, none⟩) L gc) (rawTo m.vars env m.rules k)) := fun o w4 hb => ⟨(hbel.alloc hbel.size o).trans (hb.mono (hbel.alloc hbel.size o).size), by
            refine ⟨?_, by simp⟩
            rw [← HL.out]
            exact owns_later (owns_later hown (hAr o) (Nat.le_refl _)) hb (Nat.le_refl _)⟩
          clear hat hou hsu HDo HR hres hk' hown hL
          go_wp2_with (go_at_call 34; refine (hdo _).mono ?_; rintro e w4 ⟨rfl, hb4⟩; obtain ⟨hb24, ho4⟩ := HW4.out _ w4 hb4)
          exact ⟨⟨k + 1, hlt, by first | rfl | simp, by rw [HN.out]; exact ho4, hb24⟩, by simp [intOf]; omega⟩
        | some x =>
          rw [hres] at hdo
          simp only [optN, optC] at hdo
          have HN : Hid (rawTo m.vars env m.rules (k + 1) = rawTo m.vars env m.rules k ++ [x]) := rawTo_some hk' hres
          have h63 : L + 1 ≤ maxLen := by have := HRl.out; unfold maxLen; omega
          have hkb : (L + 1) * 8 ≤ 140737488355328 := by have := HRl.out; omega
          clear hat hou hsu HDo HR hres hk' hL
          go_wp2_with (first | (go_at_call 34; refine (hdo _).mono ?_; rintro e w4 ⟨rfl, hb4⟩; have hb24 := (hbel.alloc hbel.size _).trans (hb4.mono (hbel.alloc hbel.size _).size); have hown4 := fun o => (owns_later (owns_later hown (hAr _) (Nat.le_refl _)) hb4 (Nat.le_refl _)).alloc o; have hbase : ∀ o, w2.heap.size ≤ (w4.alloc o).heap.size := (fun o => by have := hb24.size; simp; omega)) | (at_builtin; refine wpList_append_lies _ rfl (.tmp 40) (.tmp 42) 46 rfl w2.heap.size 3 i0 (.int .i64 0) 1 8 Tryd.underlying46 hi hz0 hz1 hz2 rfl (by decide) (.slice (some ⟨g, 0, none⟩) L gc) L _ rfl (hown4 _) ⟨w4.heap.size, 0, none⟩ 1 1 [.int .i64 x] rfl rfl (cell_one_new _ _ _) (by intro u hu; simp at hu; subst hu; rfl) (by decide) h63 hkb (hbase _) _ rfl ?_; intro g5 cp5 w5 hown5 hgrow5 hat5 hgl5))
          have hb25 : Below w2.heap.size w2 w5 := (hb24.alloc hb24.size _).grown hgrow5 (hbase _) (fun z hz => by have hgz : g = z := (by simpa [Value.ownBlock] using hz); rw [← hgz]; exact hg)
          have ho5 : OwnI w2.heap.size w5 (.slice (some ⟨g5, 0, none⟩) (L + 1) cp5) (rawTo m.vars env m.rules (k + 1)) := by
            refine ⟨?_, by simp⟩
            rw [HN.out, List.length_append, ← HL.out]
            rw [show ivals (rawTo m.vars env m.rules k ++ [x]) = ivals (rawTo m.vars env m.rules k) ++ [.int .i64 x] by simp [ivals]]
            exact hown5
          exact ⟨⟨k + 1, hlt, by first | rfl | simp, ho5, hb25⟩, by simp [intOf]; omega⟩
      · have hkn : k = rn := by omega
        subst hkn
        have HRl : Hid ((rawTo m.vars env m.rules k).length ≤ k) := rawTo_length _ _ _ _
        generalize rawTo m.vars env m.rules k = raw at *
        clear HDo HR HOwn kr0 kr1 hlt hk
        by_cases hraw : raw = []
        · have HRes : Hid (res = upL [code]) := by show _ = _; rw [HNL.out, if_pos hraw]
          subst hraw
          have hown0 : wr.ownsRow w2.heap.size 3 1 (.slice (some ⟨g, 0, none⟩) 0 gc) 0 [] := hown
          have hown4 := fun o => hown0.alloc o
          have hbase : ∀ o, w2.heap.size ≤ (wr.alloc o).heap.size := fun o => by have := hbel.size; simp; omega
          have hAr : ∀ o, Below wr.heap.size wr (wr.alloc o) := fun o => (Below.refl _ _).alloc (Nat.le_refl _) o
          clear hown HNL HRl
          simp only [List.length_nil]
          have hso := fun (w5 : World) g5 cp5 (ho : w5.ownsRow w2.heap.size 3 1 (.slice (some ⟨g5, 0, none⟩) 1 cp5) 1 (ivals [code])) => sort_own g5 cp5 w2.heap.size [code] w5 (by simp) ho
          have hms : [code].mergeSort leB = [code] := List.mergeSort_singleton _
          have HUp : Hid (Lib.compact [code] = upL [code]) := by show _ = Lib.compact _; rw [hms]
          rw [hms] at hso
          simp only [List.length_cons, List.length_nil, Nat.zero_add] at hso
          have hco := fun (w5 : World) g5 cp5 (ho : w5.ownsRow w2.heap.size 3 1 (.slice (some ⟨g5, 0, none⟩) 1 cp5) 1 (ivals [code])) => compact_own g5 cp5 w2.heap.size [code] w5 (by simp) ho
          simp only [List.length_cons, List.length_nil, Nat.zero_add] at hco
          rw [HUp.out] at hco
          go_wp2_with (first | (at_builtin; refine wpList_append_lies _ rfl (.tmp 48) (.tmp 50) 46 rfl w2.heap.size 3 i0 (.int .i64 0) 1 8 Tryd.underlying46 hi hz0 hz1 hz2 rfl (by decide) (.slice (some ⟨g, 0, none⟩) 0 gc) 0 _ rfl (hown4 _) ⟨wr.heap.size, 0, none⟩ 1 1 [.int .i64 code] rfl rfl (cell_one_new _ _ _) (by intro u hu; simp at hu; subst hu; rfl) (by decide) (by decide) (by decide) (hbase _) _ rfl ?_; intro g5 cp5 w5 hown5 hgrow5 hat5 hgl5; have hg5 : w2.heap.size ≤ g5 := (by rcases hat5 with h5 | h5; (have hgz : g = g5 := (by simpa [Value.ownBlock] using h5)); (rw [← hgz]; exact hg); (rw [h5]; exact hbase _))) | (go_at_call 26; refine (hso _ _ _ hown5).mono ?_; rintro e w6 ⟨rfl, hgr6, ho6⟩) | (go_at_call 40; refine (hco _ _ _ ho6).mono ?_; rintro e w7 ⟨rfl, hgr7, ho7⟩))
          have hb5 : Below w2.heap.size w2 w5 := (hbel.alloc hbel.size _).grown hgrow5 (hbase _) (fun z hz => by have hgz : g = z := (by simpa [Value.ownBlock] using hz); rw [← hgz]; exact hg)
          have hb7 : Below w2.heap.size w2 w7 := (hb5.grown hgr6 hb5.size (fun z hz => by rw [← Option.some.inj hz]; exact hg5)).grown hgr7 (Nat.le_trans hb5.size hgr6.size) (fun z hz => by rw [← Option.some.inj hz]; exact hg5)
          have hI7 : IntsV w7 (.slice (some ⟨g5, 0, none⟩) (upL [code]).length cp5) (upL [code]) := intsV_of_owns ho7
          go_ret2
          exact ⟨_, rfl, HB2.out.trans (hb7.mono HB2.out.size), by rw [HRes.out]; exact ⟨hI7, owns_mono ho7 HB2.out.size⟩⟩
        · have HRes : Hid (res = upL raw) := by show _ = _; rw [HNL.out, if_neg hraw]
          have hpos : 0 < raw.length := List.length_pos_iff.2 hraw
          have hso := sort_own g gc w2.heap.size raw wr (by have := HRl.out; omega) hown
          obtain ⟨L, hL⟩ : ∃ L, L = raw.length := ⟨_, rfl⟩
          have HL : Hid (L = raw.length) := hL
          have HLs : Hid ((raw.mergeSort leB).length = L) := by show _ = _; rw [List.length_mergeSort, hL]
          have hL12 : L ≤ 12 := by have := HRl.out; omega
          rw [← hL] at hso hpos ⊢
          clear hown HNL HRl hraw hL
          have HCo : Hid (∀ w5 : World, w5.ownsRow w2.heap.size 3 1 (.slice (some ⟨g, 0, none⟩) L gc) L (ivals (raw.mergeSort leB)) → Calls Tryd.prog 40 #[.slice (some ⟨g, 0, none⟩) L gc] w5 fun e w' => e = .returned (.slice (some ⟨g, 0, none⟩) (upL raw).length gc) ∧ w5.grownBy w' (some g) ∧ w'.ownsRow w2.heap.size 3 1 (.slice (some ⟨g, 0, none⟩) (upL raw).length gc) (upL raw).length (ivals (upL raw))) := fun w5 ho => by
            rw [← HLs.out] at ho ⊢
            exact compact_own g gc w2.heap.size (raw.mergeSort leB) w5 (by rw [HLs.out]; omega) ho
          go_wp2_with (first | (go_at_call 26; refine hso.mono ?_; rintro e w6 ⟨rfl, hgr6, ho6⟩; have hco := HCo.out w6 ho6) | (go_at_call 40; refine hco.mono ?_; rintro e w7 ⟨rfl, hgr7, ho7⟩))
          have hb7 : Below w2.heap.size w2 w7 := (hbel.grown hgr6 hbel.size (fun z hz => by rw [← Option.some.inj hz]; exact hg)).grown hgr7 (Nat.le_trans hbel.size hgr6.size) (fun z hz => by rw [← Option.some.inj hz]; exact hg)
          have hI7 : IntsV w7 (.slice (some ⟨g, 0, none⟩) (upL raw).length gc) (upL raw) := intsV_of_owns ho7
          go_ret2
          exact ⟨_, rfl, HB2.out.trans (hb7.mono HB2.out.size), by rw [HRes.out]; exact ⟨hI7, owns_mono ho7 HB2.out.size⟩⟩
  · have hvl := fun w' (hb : Below w.heap.size w w') => mvalues_any _ _ ⟨m.vars, []⟩ code w' (Nat.lt_of_lt_of_le hB hb.size) (hT.below hb hB) (hVb w' hb ao cap rfl)
    rw [wcode_bare _ hm] at hvl
    have hnl : nxtL m code = [] := by unfold nxtL; rw [if_neg hw]
    rw [hnl]
    subst hro
    generalize wcode m code = c at *
    generalize wvals ⟨m.vars, []⟩ code = vs at *
    generalize m.vars.length = n at *
    generalize m.rules.length = rn at *
    clear hV hT hVb hnl hm
    go_enter Tryd.func25, Tryd.ntmps25
    go_wp2_with (first | (go_at_call 31; refine (hba _).mono ?_; rintro e w2 ⟨rfl, hb2⟩; have hbw2 := (hA _).trans (hb2.mono (hA _).size)) | (go_at_call 17; refine (hvl _ hbw2).mono ?_; rintro e w3 ⟨v, rfl, hb3, _⟩))
    go_ret2
    exact ⟨_, rfl, hbw2.trans (hb3.mono hbw2.size), ⟨none, 0, rfl, fun h => absurd rfl h⟩, World.ownsRow_nil _ _ _ _⟩

set_option maxRecDepth 20000 in
theorem nextOf_any (va vr : Value) (m : Mo) (code : Int) (w : World) (hB : 0 < w.heap.size) (hT : TabAt w) (hV : ModelV w va vr m) (hm : mcode m = 0) :
    Calls Tryd.prog 25 #[.agg #[va, vr], .int .i64 code] w fun e w' => ∃ v, e = .returned (.tuple #[v, .int .i64 (wcode m code)]) ∧ Below w.heap.size w w' ∧ IntsV w' v (nxtL m code) :=
  (nextOf_own va vr m code w hB hT hV hm).mono fun _ _ ⟨v, h1, h2, h3, _⟩ => ⟨v, h1, h2, h3⟩

set_option maxHeartbeats 1600000 in
set_option maxRecDepth 20000 in
/-- THE CONTRACT OF Next. -/
theorem next_any (va vr : Value) (m : Mo) (code : Int) (w : World) (hB : 0 < w.heap.size) (hT : TabAt w) (hV : ModelV w va vr m) :
    Calls Tryd.prog 15 #[.agg #[va, vr], .int .i64 code] w fun e w' => ∃ v, e = .returned (.tuple #[v, .int .i64 (wcode m code)]) ∧ Below w.heap.size w w' ∧ IntsV w' v (nxtL m code) := by
  have hA : ∀ o, Below w.heap.size w (w.alloc o) := fun o => (Below.refl _ _).alloc (Nat.le_refl _) o
  have hch := fun o => mcheck_any va vr m (w.alloc o) (Nat.lt_of_lt_of_le hB (hA o).size) (hT.below (hA o) hB) (hV.below (hA o))
  by_cases hm : mcode m = 0
  · have hne := fun w' (hb : Below w.heap.size w w') => nextOf_any va vr m code w' (Nat.lt_of_lt_of_le hB hb.size) (hT.below hb hB) (hV.below hb) hm
    rw [hm] at hch
    obtain ⟨ao, cap, rfl⟩ := hV.1.shape
    obtain ⟨ro, rc, rfl⟩ := hV.2.shape
    generalize wcode m code = c at *
    generalize nxtL m code = res at *
    generalize m.vars.length = n at *
    generalize m.rules.length = rn at *
    clear hV hT hm
    go_enter Tryd.func15, Tryd.ntmps15
    go_wp2_with (first | (go_at_call 11; refine (hch _).mono ?_; rintro e w1 ⟨rfl, hb1⟩; have hbw1 := (hA _).trans (hb1.mono (hA _).size); have k10 : w1.cell? ⟨w.heap.size, 0, none⟩ = some (.slice ao n cap) := (hb1.cell (p := ⟨w.heap.size, 0, none⟩) (by simp)).trans (by simp [go_sem]); have k11 : w1.cell? ⟨w.heap.size, 1, none⟩ = some (.slice ro rn rc) := (hb1.cell (p := ⟨w.heap.size, 1, none⟩) (by simp)).trans (by simp [go_sem])) | (go_at_call 25; refine (hne _ hbw1).mono ?_; rintro e w2 ⟨v, rfl, hb2, hI2⟩))
    go_ret2
    exact ⟨_, rfl, hbw1.trans (hb2.mono hbw1.size), hI2⟩
  · have hw : wcode m code = mcode m := wcode_bad hm
    have hnl : nxtL m code = [] := by unfold nxtL; rw [if_neg (by rw [hw]; exact hm)]
    rw [hw, hnl]
    obtain ⟨ao, cap, rfl⟩ := hV.1.shape
    obtain ⟨ro, rc, rfl⟩ := hV.2.shape
    generalize mcode m = c at *
    generalize m.vars.length = n at *
    generalize m.rules.length = rn at *
    clear hV hT hw hnl
    go_enter Tryd.func15, Tryd.ntmps15
    go_wp2_with (go_at_call 11; refine (hch _).mono ?_; rintro e w1 ⟨rfl, hb1⟩)
    go_ret2
    exact ⟨_, rfl, (hA _).trans (hb1.mono (hA _).size), none, 0, rfl, fun h => absurd rfl h⟩
end Go.Proofs.YtflmefohofocaaaDoor

/-
  Plain mathematics of what is reached.
-/
namespace Go.Proofs.YtflmefohofocaaaDoor
open Terms Tm

/-- reached from the first state on. -/
inductive RSt (nx : Int → List Int) (first : Int) : Int → Prop where
  | first : RSt nx first first
  | next {x y : Int} : RSt nx first x → y ∈ nx x → RSt nx first y
open Classical in
/-- the states that are reached, rising. -/
noncomputable def reachN (nx : Int → List Int) (first : Int) (N : Nat) : List Int := ((List.range N).filter (fun j : Nat => decide (RSt nx first (j : Int)))).map (fun j : Nat => (j : Int))
set_option maxRecDepth 20000 in
theorem reachN_rise (nx : Int → List Int) (first : Int) (N : Nat) : Rise (reachN nx first N) := by
  unfold reachN Rise
  rw [List.pairwise_map]
  refine List.Pairwise.imp (fun {a b} h => ?_) (List.Pairwise.filter _ List.pairwise_lt_range)
  omega
set_option maxRecDepth 20000 in
theorem reachN_mem (nx : Int → List Int) (first : Int) (N : Nat) (x : Int) : x ∈ reachN nx first N ↔ (0 ≤ x ∧ x < N) ∧ RSt nx first x := by
  unfold reachN
  simp only [List.mem_map, List.mem_filter, List.mem_range, decide_eq_true_eq]
  constructor
  · rintro ⟨j, ⟨h1, h2⟩, rfl⟩; exact ⟨⟨by omega, by omega⟩, h2⟩
  · rintro ⟨⟨h0, h1⟩, h2⟩; exact ⟨x.toNat, ⟨by omega, by rw [Int.toNat_of_nonneg h0]; exact h2⟩, by omega⟩
set_option maxRecDepth 20000 in
/-- states that are reached are states. -/
theorem RSt.in {nx : Int → List Int} {first : Int} {N : Nat} (hf : 0 ≤ first ∧ first < N) (hn : ∀ x y : Int, 0 ≤ x ∧ x < N → y ∈ nx x → 0 ≤ y ∧ y < N) {x : Int} (h : RSt nx first x) : 0 ≤ x ∧ x < N := by
  induction h with
  | first => exact hf
  | next _ hy ih => exact hn _ _ ih hy
set_option maxRecDepth 20000 in
/-- a list without a number twice, sorted, rises. -/
theorem sorted_rise {l : List Int} (h : l.Nodup) : Rise (l.mergeSort leB) := by
  have hp : (l.mergeSort leB).Pairwise (fun x y => leB x y = true) := List.pairwise_mergeSort (le := leB) (by intro a b c; simp only [leB, decide_eq_true_eq]; omega) (by intro a b; simp only [leB, Bool.or_eq_true, decide_eq_true_eq]; omega) l
  have hn : (l.mergeSort leB).Nodup := (List.mergeSort_perm l leB).nodup_iff.2 h
  refine (hp.and hn).imp fun {a b} hab => ?_
  have h1 : a ≤ b := by simpa [leB] using hab.1
  have h2 : a ≠ b := hab.2
  omega
set_option maxRecDepth 20000 in
/-- what goes through a list that is closed is all that is reached. -/
theorem closed_reach {nx : Int → List Int} {first : Int} {l : List Int} (hf : first ∈ l) (hr : ∀ x ∈ l, RSt nx first x) (hc : ∀ x ∈ l, ∀ y ∈ nx x, y ∈ l) (x : Int) : x ∈ l ↔ RSt nx first x := by
  refine ⟨hr x, fun h => ?_⟩
  induction h with
  | first => exact hf
  | next _ hy ih => exact hc _ ih _ hy
set_option maxRecDepth 20000 in
theorem rise_length : ∀ {l : List Int} {lo N : Int}, Rise l → (∀ x ∈ l, lo ≤ x ∧ x < N) → lo ≤ N → (l.length : Int) ≤ N - lo
  | [], lo, N, _, _, h => by simp; omega
  | x :: l, lo, N, h1, h2, _ => by
    obtain ⟨hx, t⟩ := List.pairwise_cons.1 h1
    have h3 := h2 x (by simp)
    have := rise_length (lo := x + 1) (N := N) t (fun y hy => ⟨by have := hx y hy; omega, (h2 y (by simp [hy])).2⟩) (by omega)
    simp only [List.length_cons]
    omega
set_option maxRecDepth 20000 in
/-- how long a list of states may be. -/
theorem nodup_length {l : List Int} {N : Nat} (h : l.Nodup) (hi : ∀ x ∈ l, 0 ≤ x ∧ x < N) : l.length ≤ N := by
  have h1 := rise_length (lo := 0) (N := N) (sorted_rise h) (fun x hx => hi x ((List.mergeSort_perm l leB).mem_iff.1 hx)) (by omega)
  rw [List.length_mergeSort] at h1
  omega
end Go.Proofs.YtflmefohofocaaaDoor

/-
  The contract of step.Reach.
-/
namespace Go.Proofs.YtflmefohofocaaaDoor
open Go.ChangeShapes Go.WideShapes Go.ChangeAt Go.RowKit Go.Deep Go.Maps
open Terms Tm

/-- the first state's code. -/
def firstC (m : Mo) : Int := codeTo m.vars (initsL m.vars) m.vars.length
set_option maxRecDepth 20000 in
theorem firstC_in {m : Mo} (h : mcode m = 0) : 0 ≤ firstC m ∧ firstC m < prodTo m.vars m.vars.length := code_bounds (mcode_vars h) (Nat.le_refl _) (fun i hi => inits_in (mcode_vars h) i hi)
/-- the states that are reached. -/
noncomputable def reachL (m : Mo) : List Int := if mcode m = 0 then reachN (nextL m) (firstC m) (prodTo m.vars m.vars.length).toNat else []
set_option maxRecDepth 20000 in
theorem nextL_in {m : Mo} (hm : mcode m = 0) {x : Int} (hx : 0 ≤ x ∧ x < prodTo m.vars m.vars.length) {y : Int} (hy : y ∈ nextL m x) : 0 ≤ y ∧ y < prodTo m.vars m.vars.length := by
  have h1 := ((upL_spec _).2 y).1 hy
  unfold rawL at h1
  split at h1
  · simp at h1; subst h1; exact hx
  · obtain ⟨j, _, e⟩ := (rawTo_mem (Nat.le_refl _) y).1 h1
    exact ruleDo_state (mcode_vars hm) e
/-- the states that were met, by their codes. -/
def MetIs (w : World) (b : Nat) (l : List Int) : Prop := ∃ D : DataW Unit, w.ownsMap Tryd.prog 3 (plainElem Tryd.prog 3) b l.length D ∧ ∀ x : Int, 0 ≤ x ∧ x ≤ 5000 → Maps.has D (.int .i64 x) = decide (x ∈ l)
set_option maxRecDepth 20000 in
theorem keyS (x : Int) (h : 0 ≤ x ∧ x ≤ 5000) : keyOf Tryd.prog 3 (.int .i64 x) = some (.int .i64 x) := keyOf_int_mk Tryd.underlying3 (WalkArith.wf_i64 (by omega))
set_option maxRecDepth 20000 in
theorem MetIs.put {w w' : World} {b : Nat} {l : List Int} {D : DataW Unit} {x : Int} {d : DataW Unit} (hD : w.ownsMap Tryd.prog 3 (plainElem Tryd.prog 3) b l.length D) (h : ∀ y : Int, 0 ≤ y ∧ y ≤ 5000 → Maps.has D (.int .i64 y) = decide (y ∈ l)) (h' : w'.ownsMap Tryd.prog 3 (plainElem Tryd.prog 3) b (l.length + 1) (D.put (.int .i64 x) d)) : MetIs w' b (l ++ [x]) := by
  refine ⟨_, by simpa using h', fun y hy => ?_⟩
  by_cases hyx : y = x
  · subst hyx
    rw [has_put_same hD.isMap (by simp [WideAt.IsKeyLit])]
    simp
  · rw [has_put_other (by simpa using hyx), h y hy]
    simp [hyx]

set_option maxRecDepth 20000 in
theorem MetIs.below {w w' : World} {b : Nat} {l : List Int} (h : MetIs w b l) (hb : Below w.heap.size w w') : MetIs w' b l := by
  obtain ⟨D, h1, h2⟩ := h
  exact ⟨D, h1.kept (row := none) ⟨hb.os, hb.tape, hb.output, hb.size, fun i hi _ => hb.block i hi⟩ (by simp), h2⟩
set_option maxRecDepth 20000 in
theorem undrewB {a b : World} (h : Below a.drew.heap.size a.drew b) : Below a.heap.size a b := ⟨h.os, h.tape, h.output, h.size, h.block⟩
/-- the list of states that were met, and the map, as the search goes on. -/
structure Met (nx : Int → List Int) (first : Int) (N b : Nat) (w1 wr : World) (v : Value) (R : List Int) (p : Nat) : Prop where
  nodup : R.Nodup
  fst : first ∈ R
  all : ∀ x ∈ R, (0 ≤ x ∧ x < N) ∧ RSt nx first x
  closed : ∀ i, i < p → ∀ y ∈ nx (R.getD i 0), y ∈ R
  own : wr.ownsRow (b + 1) 3 1 v R.length (ivals R)
  ne : v ≠ .slice none 0 0
  met : MetIs wr b R
  bel : Below w1.heap.size w1 wr
set_option maxRecDepth 20000 in
theorem Met.below {nx : Int → List Int} {first : Int} {N b : Nat} {w1 wr w' : World} {v : Value} {R : List Int} {p : Nat} (h : Met nx first N b w1 wr v R p) (hb : Below wr.heap.size wr w') : Met nx first N b w1 w' v R p :=
  ⟨h.nodup, h.fst, h.all, h.closed, owns_later h.own hb (Nat.le_refl _), h.ne, h.met.below hb, h.bel.trans (hb.mono h.bel.size)⟩
set_option maxRecDepth 20000 in
theorem Met.length {nx : Int → List Int} {first : Int} {N b : Nat} {w1 wr : World} {v : Value} {R : List Int} {p : Nat} (h : Met nx first N b w1 wr v R p) : R.length ≤ N := nodup_length h.nodup fun x hx => (h.all x hx).1
set_option maxRecDepth 20000 in
theorem Met.form {nx : Int → List Int} {first : Int} {N b : Nat} {w1 wr : World} {v : Value} {R : List Int} {p : Nat} (h : Met nx first N b w1 wr v R p) : ∃ g cap, v = .slice (some ⟨g, 0, none⟩) R.length cap ∧ b + 1 ≤ g ∧ g < wr.heap.size := OwnI.form ⟨h.own, h.ne⟩
/-- so far gone through. -/
def MetTo (nx : Int → List Int) (first : Int) (N b : Nat) (w1 wr : World) (v : Value) (p : Nat) : Prop := ∃ R, p ≤ R.length ∧ Met nx first N b w1 wr v R p
/-- and so far through the next states of the one at hand. -/
def MetAt (nx : Int → List Int) (first : Int) (N b : Nat) (w1 wr : World) (v : Value) (p : Nat) (x : Int) (nl : List Int) (q : Nat) : Prop := ∃ R, p < R.length ∧ R.getD p 0 = x ∧ (∀ j, j < q → nl.getD j 0 ∈ R) ∧ Met nx first N b w1 wr v R p
end Go.Proofs.YtflmefohofocaaaDoor

/-
  The contract of step.Reach.
-/
namespace Go.Proofs.YtflmefohofocaaaDoor
open Go.ChangeShapes Go.WideShapes Go.ChangeAt Go.RowKit Go.Deep Go.Maps
open Terms Tm

/-- in the round of a state: the next states lie apart from the list and the map. -/
def MIn (nx : Int → List Int) (first : Int) (N b : Nat) (w1 wr : World) (v : Value) (p : Nat) (x : Int) (nl : List Int) (q bs h4 : Nat) (nv : Value) : Prop :=
  MetAt nx first N b w1 wr v p x nl q ∧ (∃ g cap n, v = .slice (some ⟨g, 0, none⟩) n cap ∧ (g < bs ∨ h4 ≤ g)) ∧ wr.ownsRow bs 3 1 nv nl.length (ivals nl) ∧ h4 ≤ wr.heap.size ∧ (∀ k, nv.ownBlock = some k → k < h4) ∧ b < bs
set_option maxRecDepth 20000 in
theorem MIn.put {nx : Int → List Int} {first : Int} {N b : Nat} {w1 wr : World} {p : Nat} {x : Int} {nl : List Int} {q bs h4 : Nat} {nv : Value} {R : List Int} {g2 gc2 : Nat} {D : DataW Unit} (hpR : p < R.length) (hRx : R.getD p 0 = x) (hin : ∀ j, j < q → nl.getD j 0 ∈ R) (hM : Met nx first N b w1 wr (.slice (some ⟨g2, 0, none⟩) R.length gc2) R p)
    (hyN : 0 ≤ nl.getD q 0 ∧ nl.getD q 0 < N) (hyr : RSt nx first (nl.getD q 0)) (hyR : ¬ nl.getD q 0 ∈ R) (hhas : ∀ y : Int, 0 ≤ y ∧ y ≤ 5000 → Maps.has D (.int .i64 y) = decide (y ∈ R)) (hown : wr.ownsMap Tryd.prog 3 (plainElem Tryd.prog 3) b R.length D) (hg2 : g2 < bs ∨ h4 ≤ g2)
    (how : wr.ownsRow bs 3 1 nv nl.length (ivals nl)) (hh4 : h4 ≤ wr.heap.size) (hnvl : ∀ k, nv.ownBlock = some k → k < h4) (hbs : b < bs) (hb1 : w1.heap.size = b) {w5 w6 : World} {o : Obj} {g6 c6 : Nat} (h1 : w5.ownsMap Tryd.prog 3 (plainElem Tryd.prog 3) b (R.length + 1) (D.put (.int .i64 (nl.getD q 0)) (.lit (.int .i64 (R.length : Int))))) (h2 : wr.grownBy w5 (some b)) (h3 : (w5.alloc o).grownBy w6 (some g2))
    (h4o : w6.ownsRow (b + 1) 3 1 (.slice (some ⟨g6, 0, none⟩) (R.length + 1) c6) (R.length + 1) (ivals R ++ [.int .i64 (nl.getD q 0)])) (h5 : g2 = g6 ∨ g6 = (w5.alloc o).heap.size) : MIn nx first N b w1 w6 (.slice (some ⟨g6, 0, none⟩) (R.length + 1) c6) p x nl (q + 1) bs h4 nv := by
  have hs2 := h2.size
  have hs3 := h3.size
  simp only [World.size_alloc] at hs3
  have hlt := hM.own.lt g2 rfl
  have hgr : Below b wr w6 := by
    have e1 : Below b wr w5 := (Below.refl _ _).grown h2 (by have := hlt.1; have := hlt.2; omega) (fun k hk => by rw [← Option.some.inj hk]; exact Nat.le_refl _)
    exact (e1.alloc (by have := hlt.1; have := hlt.2; omega) o).grown h3 (by simp; have := hlt.1; have := hlt.2; omega) (fun k hk => by rw [← Option.some.inj hk]; have := hlt.1; omega)
  refine ⟨⟨R ++ [nl.getD q 0], by simp; omega, ?_, fun j hj => ?_, ?_, ?_, fun z hz => ?_, fun i hi y hy => ?_, ?_, by simp, ?_, ?_⟩, ⟨g6, c6, _, rfl, ?_⟩, ?_, by omega, hnvl, hbs⟩
  · rw [List.getD_eq_getElem?_getD, List.getElem?_append_left hpR, ← List.getD_eq_getElem?_getD]; exact hRx
  · by_cases hjq : j < q
    · exact List.mem_append.2 (.inl (hin j hjq))
    · obtain rfl : j = q := by omega
      simp
  · rw [List.nodup_append]
    refine ⟨hM.nodup, by simp, fun a ha c hc => ?_⟩
    rw [List.mem_singleton] at hc
    subst hc
    exact fun e => hyR (e ▸ ha)
  · exact List.mem_append.2 (.inl hM.fst)
  · rcases List.mem_append.1 hz with hz | hz
    · exact hM.all z hz
    · simp at hz; subst hz; exact ⟨hyN, hyr⟩
  · have hil : i < R.length := by omega
    rw [List.getD_eq_getElem?_getD, List.getElem?_append_left hil, ← List.getD_eq_getElem?_getD] at hy
    exact List.mem_append.2 (.inl (hM.closed i hi y hy))
  · have : ivals (R ++ [nl.getD q 0]) = ivals R ++ [.int .i64 (nl.getD q 0)] := by simp [ivals]
    rw [this, List.length_append]
    exact h4o
  · have hm6 : w6.ownsMap Tryd.prog 3 (plainElem Tryd.prog 3) b (R.length + 1) (D.put (.int .i64 (nl.getD q 0)) (.lit (.int .i64 (R.length : Int)))) := by
      have hb5 : Below w5.heap.size w5 (w5.alloc o) := (Below.refl _ _).alloc (Nat.le_refl _) o
      have := h1.kept (row := none) ⟨hb5.os, hb5.tape, hb5.output, hb5.size, fun i hi _ => hb5.block i hi⟩ (by simp)
      exact this.kept h3 (fun e => by have := Option.some.inj e; omega)
    exact MetIs.put hown hhas hm6
  · exact hM.bel.trans (hgr.mono (by omega))
  · rcases h5 with rfl | h5
    · exact hg2
    · right; rw [h5]; simp; omega
  · have hnv : ∀ k, nv.ownBlock = some k → bs ≤ k ∧ k < h4 := fun k hk => ⟨(how.lt k hk).1, hnvl k hk⟩
    have e1 := how.kept h2 (by cases hx : nv.ownBlock with | none => exact .inl rfl | some k => exact .inr (fun e => by have := hnv k hx; have := Option.some.inj e; omega))
    exact (e1.alloc o).kept h3 (by cases hx : nv.ownBlock with | none => exact .inl rfl | some k => exact .inr (fun e => by have := hnv k hx; have := Option.some.inj e; omega))
set_option maxHeartbeats 3200000 in
set_option maxRecDepth 20000 in
theorem reach_loop (va vr : Value) (m : Mo) (w : World) (hB : 0 < w.heap.size) (hT : TabAt w) (hV : ModelV w va vr m) (hm : mcode m = 0) :
    Calls Tryd.prog 12 #[.agg #[va, vr]] w fun e w' => ∃ v, e = .returned (.tuple #[v, .int .i64 0]) ∧ Below w.heap.size w w' ∧ IntsV w' v (reachN (nextL m) (firstC m) (prodTo m.vars m.vars.length).toNat) := by
  have hA : ∀ o, Below w.heap.size w (w.alloc o) := fun o => (Below.refl _ _).alloc (Nat.le_refl _) o
  have hfi : ∀ o, Calls Tryd.prog 13 #[.agg #[va, vr]] (w.alloc o) fun e w' => e = .returned (.tuple #[.int .i64 (firstC m), .int .i64 0]) ∧ Below (w.alloc o).heap.size (w.alloc o) w' := fun o => by
    have h := mfirst_any va vr m (w.alloc o) (Nat.lt_of_lt_of_le hB (hA o).size) (hT.below (hA o) hB) (hV.below (hA o))
    rw [hm, if_pos rfl] at h
    exact h
  obtain ⟨hf0, hf1⟩ := firstC_in hm
  have hN := (mcode_vars hm).prod (j := m.vars.length) (Nat.le_refl _)
  obtain ⟨N, hNe⟩ : ∃ N : Nat, prodTo m.vars m.vars.length = N := ⟨(prodTo m.vars m.vars.length).toNat, by omega⟩
  have HNx : Hid (∀ w' (_ : Below w.heap.size w w') (c : Int), 0 ≤ c ∧ c < N → Calls Tryd.prog 25 #[.agg #[va, vr], .int .i64 c] w' fun e w2 => ∃ v, e = .returned (.tuple #[v, .int .i64 0]) ∧ Below w'.heap.size w' w2 ∧ IntsV w2 v (nextL m c) ∧ w2.ownsRow w'.heap.size 3 1 v (nextL m c).length (ivals (nextL m c))) := fun w' hb c hc => by
    have hw : wcode m c = 0 := wcode_yes hm (by rw [hNe]; exact hc)
    have h := nextOf_own va vr m c w' (Nat.lt_of_lt_of_le hB hb.size) (hT.below hb hB) (hV.below hb) hm
    rw [hw, show nxtL m c = nextL m c by unfold nxtL; rw [if_pos hw]] at h
    exact h
  have HIn : Hid (∀ x y : Int, 0 ≤ x ∧ x < N → y ∈ nextL m x → 0 ≤ y ∧ y < N) := fun x y hx hy => by rw [← hNe] at hx ⊢; exact nextL_in hm hx hy
  have HLe : Hid (∀ x : Int, 0 ≤ x ∧ x < N → (nextL m x).length ≤ 20) := fun x hx => by
    have hw : wcode m x = 0 := wcode_yes hm (by rw [hNe]; exact hx)
    have h1 := nxtL_length m x
    rw [show nxtL m x = nextL m x by unfold nxtL; rw [if_pos hw]] at h1
    have h2 := (mcode_rules hm).1
    omega
  rw [hNe] at hf1 hN ⊢
  rw [Int.toNat_natCast]
  obtain ⟨ao, cap, rfl⟩ := hV.1.shape
  obtain ⟨ro, rc, rfl⟩ := hV.2.shape
  generalize firstC m = first at *
  generalize nextL m = nx at *
  obtain ⟨hN0, hN1⟩ := hN
  clear hV hT hm hNe
  generalize m.vars.length = n at *
  generalize m.rules.length = rn at *
  have hmm := @run_makeMap Tryd.prog
  obtain ⟨i0, hi, hz0, hz1, hz2⟩ := info_parts infoInt
  have hlen : first ≤ 5000 := by omega
  go_enter Tryd.func12, Tryd.ntmps12
  go_wp2_with (first | (go_at_call 13; refine (hfi _).mono ?_; rintro e w1 ⟨rfl, hb1⟩; have h0 := World.ownsMap_made w1 Tryd.prog 3 (plainElem (H := Unit) Tryd.prog 3)) | (refine wpList_insert_own _ rfl _ _ _ 68 rfl 3 3 keyInt Tryd.underlying68 (plainElem Tryd.prog 3) w1.heap.size 0 _ rfl h0 (by unfold maxLen; omega) _ _ _ rfl rfl (keyS first ⟨hf0, hlen⟩) _ [] (plainElem_int Tryd.underlying3 (by decide)) ?_; intro w2 hm2 hg2))
  have hb2 : Below w1.heap.size w1 w2 := ((Below.refl _ _).alloc (Nat.le_refl _) _).grown hg2 (by simp) (fun z hz => by rw [← Option.some.inj hz]; exact Nat.le_refl _)
  have hs2 : w1.heap.size + 1 ≤ w2.heap.size := by have := hg2.size; simp at this; omega
  have hA2 : ∀ o, Below w2.heap.size w2 (w2.alloc o) := fun o => (Below.refl _ _).alloc (Nat.le_refl _) o
  have hbw1 := (hA _).trans (hb1.mono (hA _).size)
  have hs1 : w.heap.size < w1.heap.size := by have := hb1.size; simp at this; omega
  have k10 : w1.cell? ⟨w.heap.size, 0, none⟩ = some (.slice ao n cap) := (hb1.cell (p := ⟨w.heap.size, 0, none⟩) (by simp)).trans (by simp [go_sem])
  have k11 : w1.cell? ⟨w.heap.size, 1, none⟩ = some (.slice ro rn rc) := (hb1.cell (p := ⟨w.heap.size, 1, none⟩) (by simp)).trans (by simp [go_sem])
  have HK1 : Hid (∀ w', Below w1.heap.size w1 w' → w'.cell? ⟨w.heap.size, 0, none⟩ = some (.slice ao n cap) ∧ w'.cell? ⟨w.heap.size, 1, none⟩ = some (.slice ro rn rc)) := fun w' hb => ⟨(hb.cell (p := ⟨w.heap.size, 0, none⟩) hs1).trans k10, (hb.cell (p := ⟨w.heap.size, 1, none⟩) hs1).trans k11⟩
  have HB1 : Hid (Below w.heap.size w w1) := hbw1
  have HM0 : Hid (Met nx first N w1.heap.size w1 (w2.alloc (.cells #[.int .i64 first] 3)) (.slice (some ⟨w2.heap.size, 0, none⟩) 1 1) [first] 0) := ⟨by simp, by simp, fun x hx => by simp at hx; subst hx; exact ⟨⟨hf0, hf1⟩, .first⟩, fun i hi => by omega, World.ownsRow_lit w2 #[.int .i64 first] 1 hs2 (by decide) rfl, by simp, (MetIs.put (l := []) h0 (fun y _ => by simp [Maps.has]) hm2).below (hA2 _), hb2.trans ((hA2 _).mono hb2.size)⟩
  clear hmm hfi hb1 h0 hm2 hg2 hb2 hbw1 k10 k11 hA2
  go_loopw [7, 8] (fun v i wr => ∃ p : Nat, p ≤ N ∧ i = .int .i64 p ∧ Hid (MetTo nx first N w1.heap.size w1 wr v p)) (fun _ i _ => N - (intOf i).toNat)
  case atStart => exact ⟨0, Nat.zero_le _, rfl, [first], by simp, HM0.out⟩
  case round =>
    obtain ⟨p, hp, rfl, HM⟩ := hrel
    obtain ⟨R, hpR, hM⟩ := HM.out
    obtain ⟨g, gc, rfl, hg, hgl⟩ := hM.form
    have hRN := hM.length
    have hbw := HB1.out.trans (hM.bel.mono HB1.out.size)
    obtain ⟨kr0, kr1⟩ := HK1.out wr hM.bel
    obtain ⟨L, hL⟩ : ∃ L, L = R.length := ⟨_, rfl⟩
    have HL : Hid (L = R.length) := hL
    have HMe : Hid (Met nx first N w1.heap.size w1 wr (.slice (some ⟨g, 0, none⟩) L gc) R p) := by rw [hL]; exact hM
    rw [← hL] at hpR hRN ⊢
    by_cases hlt : p < L
    · have hp' : p < R.length := by rw [← HL.out]; exact hlt
      have hc : wr.cell? ⟨g, p, none⟩ = some (.int .i64 (R.getD p 0)) := by
        have := hM.own.cellAt p (by omega)
        rw [this]
        simp [ivals, List.getD_eq_getElem?_getD, hp']
      have hxin := (hM.all (R.getD p 0) (by rw [show R.getD p 0 = R[p] by simp [List.getD_eq_getElem?_getD, hp']]; exact List.getElem_mem _)).1
      have hne := HNx.out wr.drew hbw.drew (R.getD p 0) hxin
      have HX : Hid (∀ w4, Below wr.heap.size wr w4 → MetAt nx first N w1.heap.size w1 w4 (.slice (some ⟨g, 0, none⟩) L gc) p (R.getD p 0) (nx (R.getD p 0)) 0) := fun w4 hb => ⟨R, hp', rfl, fun j hj => by omega, HMe.out.below hb⟩
      generalize R.getD p 0 = x at hc hxin hne HX
      clear hM hL hpR HM hp' HMe
      have hS : ∀ w', Below wr.heap.size wr w' → w'.cell? ⟨w.heap.size, 0, none⟩ = some (.slice ao n cap) ∧ w'.cell? ⟨w.heap.size, 1, none⟩ = some (.slice ro rn rc) ∧ w'.cell? ⟨g, p, none⟩ = some (.int .i64 x) := fun w' hb => ⟨(hb.cell (p := ⟨w.heap.size, 0, none⟩) (World.block_lt_of_cell? wr _ kr0)).trans kr0, (hb.cell (p := ⟨w.heap.size, 1, none⟩) (World.block_lt_of_cell? wr _ kr1)).trans kr1, (hb.cell (p := ⟨g, p, none⟩) hgl).trans hc⟩
      go_wp2_with fail
      go_region_held3 (fun w' => w'.cell? ⟨w.heap.size, 0, none⟩ = some (.slice ao n cap) ∧ w'.cell? ⟨w.heap.size, 1, none⟩ = some (.slice ro rn rc) ∧ w'.cell? ⟨g, p, none⟩ = some (.int .i64 x)) (exact hS _ (by first | exact (Below.refl _ _).drew | exact undrewB hb4 | exact Below.refl _ _)) (first | (go_at_call 25; refine hne.mono ?_; rintro e w4 ⟨nv, rfl, hb4, hI4, ho4⟩; obtain ⟨no, nc, rfl⟩ := hI4.shape))
      have hb4' := undrewB hb4
      obtain ⟨nn, hnn⟩ : ∃ nn, nn = (nx x).length := ⟨_, rfl⟩
      have HNN : Hid (nn = (nx x).length) := hnn
      have HO4 : Hid (w4.ownsRow wr.heap.size 3 1 (.slice no nn nc) nn (ivals (nx x))) := by rw [hnn]; exact ho4
      have HNxi : Hid (∀ j, j < nn → (0 ≤ (nx x).getD j 0 ∧ (nx x).getD j 0 < N) ∧ (nx x).getD j 0 ∈ nx x) := fun j hj => by
        have hm : (nx x).getD j 0 ∈ nx x := by rw [List.getD_eq_getElem?_getD, List.getElem?_eq_getElem (by rw [← hnn]; exact hj)]; exact List.getElem_mem _
        exact ⟨HIn.out x _ hxin hm, hm⟩
      have hrow : g < wr.heap.size := hgl
      have HX4 : Hid (MetAt nx first N w1.heap.size w1 w4 (.slice (some ⟨g, 0, none⟩) L gc) p x (nx x) 0) := HX.out w4 hb4'
      rw [← hnn]
      have hbs : w1.heap.size < wr.heap.size := by
        obtain ⟨R', _, _, _, hM'⟩ := HX.out wr (Below.refl _ _)
        obtain ⟨D', h1', _⟩ := hM'.met
        exact World.ownsMap.lt h1'
      have HI0 : Hid (MIn nx first N w1.heap.size w1 w4 (.slice (some ⟨g, 0, none⟩) L gc) p x (nx x) 0 wr.heap.size w4.heap.size (.slice no nn nc)) := ⟨HX4.out, ⟨g, gc, L, rfl, .inl hgl⟩, by rw [← hnn]; exact HO4.out, Nat.le_refl _, fun k hk => (HO4.out.lt k hk).2, hbs⟩
      have hbs4 := hb4'.size
      have hnn20 : nn ≤ 20 := by rw [hnn]; exact HLe.out x hxin
      clear hnn hI4 ho4 hS hne HX kr0 kr1 hc hb4 hrow HO4 HX4
      go_wp2_with fail
      generalize wr.heap.size = bs at *
      generalize wr = wo at *
      go_loopw [7, 48] (fun v i wr => ∃ q : Nat, q ≤ nn ∧ i = .int .i64 q ∧ Hid (MIn nx first N w1.heap.size w1 wr v p x (nx x) q bs w4.heap.size (.slice no nn nc))) (fun _ i _ => nn - (intOf i).toNat)
      case atStart => exact ⟨0, Nat.zero_le _, rfl, HI0⟩
      case round =>
        obtain ⟨q, hq, rfl, HQ⟩ := hrel
        obtain ⟨⟨R, hpR, hRx, hin, hM⟩, ⟨g2, gc2, n2, rfl, hg2⟩, how, hh4, hnvl, hbs2⟩ := HQ.out
        have hn2 : n2 = R.length := by
          obtain ⟨ga, ca, e1, _⟩ := hM.form
          injection e1 with _ e2 _
        subst hn2
        have hRN := hM.length
        by_cases hlq : q < nn
        · obtain ⟨⟨hy0, hy1⟩, hymem⟩ := HNxi.out q hlq
          have hnvq : ∃ nb, no = some ⟨nb, 0, none⟩ ∧ wr.cell? ⟨nb, q, none⟩ = some (.int .i64 ((nx x).getD q 0)) := by
            rcases how.2 with ⟨e, h0⟩ | ⟨nb, cap, cur, e, _⟩
            · have := HNN.out; omega
            · injection e with e1 _ _
              subst e1
              refine ⟨nb, rfl, ?_⟩
              have how' : wr.ownsRow bs 3 1 (.slice (some ⟨nb, 0, none⟩) (nx x).length nc) (nx x).length (ivals (nx x)) := by rw [HNN.out] at how; exact how
              have hql : q < (nx x).length * 1 := by have := HNN.out; omega
              rw [how'.cellAt q hql]
              have : q < (nx x).length := by rw [← HNN.out]; exact hlq
              simp [ivals, List.getD_eq_getElem?_getD, this]
          obtain ⟨nb, rfl, hcy⟩ := hnvq
          have HMi := hin
          obtain ⟨D, hown, hhas⟩ := hM.met
          have hk1 := keyS ((nx x).getD q 0) ⟨hy0, by omega⟩
          have hh := hhas ((nx x).getD q 0) ⟨hy0, by omega⟩
          by_cases hyR : (nx x).getD q 0 ∈ R
          · have HN : Hid (MIn nx first N w1.heap.size w1 wr (.slice (some ⟨g2, 0, none⟩) R.length gc2) p x (nx x) (q + 1) bs w4.heap.size (.slice (some ⟨nb, 0, none⟩) nn nc)) := ⟨⟨R, hpR, hRx, fun j hj => by
                by_cases hjq : j < q
                · exact hin j hjq
                · obtain rfl : j = q := by omega
                  exact hyR, hM⟩, ⟨g2, gc2, _, rfl, hg2⟩, how, hh4, hnvl, hbs2⟩
            rw [decide_eq_true hyR] at hh
            generalize (nx x).getD q 0 = y at *
            generalize R.length = L2 at *
            clear HQ hin hM hhas HMi how hRx hyR hymem
            go_wp2_with (at_lookup; refine wpList_lookup_own_ok_int _ rfl _ _ 68 rfl 3 3 .i64 keyInt Tryd.underlying68 Tryd.underlying3 (zeroInt _) w1.heap.size _ D rfl hown _ _ rfl hk1 ?_; intro c hat hwc; rw [hh]; clear hat hwc)
            go_roundw
            case rel => exact ⟨q + 1, hlq, by go_num, HN⟩
            case measure => simp [intOf]; omega
          · rw [decide_eq_false hyR] at hh
            have hyr : RSt nx first ((nx x).getD q 0) := RSt.next (hM.all x (by rw [← hRx, List.getD_eq_getElem?_getD, List.getElem?_eq_getElem hpR]; exact List.getElem_mem _)).2 hymem
            have HN : Hid (∀ (w5 w6 : World) (o : Obj) (g6 c6 : Nat), w5.ownsMap Tryd.prog 3 (plainElem Tryd.prog 3) w1.heap.size (R.length + 1) (D.put (.int .i64 ((nx x).getD q 0)) (.lit (.int .i64 (R.length : Int)))) → wr.grownBy w5 (some w1.heap.size) → (w5.alloc o).grownBy w6 (some g2) → w6.ownsRow (w1.heap.size + 1) 3 1 (.slice (some ⟨g6, 0, none⟩) (R.length + 1) c6) (R.length + 1) (ivals R ++ [.int .i64 ((nx x).getD q 0)]) → (g2 = g6 ∨ g6 = (w5.alloc o).heap.size) → MIn nx first N w1.heap.size w1 w6 (.slice (some ⟨g6, 0, none⟩) (R.length + 1) c6) p x (nx x) (q + 1) bs w4.heap.size (.slice (some ⟨nb, 0, none⟩) nn nc)) := fun w5 w6 o g6 c6 h1 h2 h3 h4 h5 => MIn.put hpR hRx hin hM ⟨hy0, hy1⟩ hyr hyR hhas hown hg2 how hh4 hnvl hbs2 rfl h1 h2 h3 h4 h5
            have hownL := hM.own
            have hlt2 := hownL.lt
            generalize (nx x).getD q 0 = y at *
            obtain ⟨L2, hL2⟩ : ∃ L2, L2 = R.length := ⟨_, rfl⟩
            rw [← hL2] at HN hown hownL hRN hlt2 ⊢
            have hkm : L2 < maxLen := by unfold maxLen; omega
            have h63 : L2 + 1 ≤ maxLen := by unfold maxLen; omega
            have hkb : (L2 + 1) * 8 ≤ 140737488355328 := by omega
            have hwf : (Lit.int .i64 (L2 : Int)).wf = true := WalkArith.wf_i64 (by omega)
            have hszr : w1.heap.size + 1 ≤ wr.heap.size := by omega
            clear HQ hin hM hhas HMi how hRx hyR hymem hyr hL2
            go_wp2_with (first
              | (at_lookup; refine wpList_lookup_own_ok_int _ rfl _ _ 68 rfl 3 3 .i64 keyInt Tryd.underlying68 Tryd.underlying3 (zeroInt _) w1.heap.size _ D rfl hown _ _ rfl hk1 ?_; intro c hat hwc; rw [hh]; clear hat hwc)
              | (at_mapUpdate; refine wpList_mapUpdate_own _ rfl _ _ _ 68 rfl 3 3 keyInt Tryd.underlying68 _ w1.heap.size L2 D rfl hown hkm _ _ _ rfl rfl hk1 _ [] (plainElem_int Tryd.underlying3 hwf) ?_; intro w5 hown5 hg5; have how5 := fun o => (hownL.kept hg5 (.inr (fun e => by have := (hlt2 w1.heap.size e).1; omega))).alloc o; have hsz5 := hg5.size; have hbase : ∀ o, w1.heap.size + 1 ≤ (w5.alloc o).heap.size := (fun o => by simp; omega))
              | (at_builtin; refine wpList_append_lies _ rfl (.tmp 64) (.tmp 66) 46 rfl (w1.heap.size + 1) 3 i0 (.int .i64 0) 1 8 Tryd.underlying46 hi hz0 hz1 hz2 rfl (by decide) (.slice (some ⟨g2, 0, none⟩) L2 gc2) L2 _ rfl (how5 _) ⟨w5.heap.size, 0, none⟩ 1 1 [.int .i64 y] rfl rfl (cell_one_new _ _ _) (by intro u hu; simp at hu; subst hu; rfl) (by decide) h63 hkb (hbase _) _ rfl ?_; intro g6 c6 w6 hown6 hg6 hor6 hlt6))
            have HN6 : Hid (MIn nx first N w1.heap.size w1 w6 (.slice (some ⟨g6, 0, none⟩) (L2 + 1) c6) p x (nx x) (q + 1) bs w4.heap.size (.slice (some ⟨nb, 0, none⟩) nn nc)) := HN.out w5 w6 _ g6 c6 hown5 hg5 hg6 hown6 (by rcases hor6 with h | h; exact .inl (by simpa [Value.ownBlock] using h); exact .inr h)
            go_roundw
            case rel => exact ⟨q + 1, hlq, by go_num, HN6⟩
            case measure => simp [intOf]; omega
        · obtain rfl : q = nn := by omega
          have HN : Hid (MetTo nx first N w1.heap.size w1 wr (.slice (some ⟨g2, 0, none⟩) R.length gc2) (p + 1)) := ⟨R, hpR, hM.nodup, hM.fst, hM.all, fun i hi => by
            by_cases hip : i < p
            · exact hM.closed i hip
            · obtain rfl : i = p := by omega
              intro y hy
              rw [hRx] at hy
              obtain ⟨j, hj, rfl⟩ := List.getElem_of_mem hy
              have := hin j (by rw [HNN.out]; exact hj)
              rwa [List.getD_eq_getElem?_getD, List.getElem?_eq_getElem hj] at this, hM.own, hM.ne, hM.met, hM.bel⟩
          have hpN : p + 1 ≤ N := by omega
          generalize R.length = L2 at *
          clear HQ hin hM how hRx
          go_wp2_with fail
          go_roundw
          case rel => exact ⟨p + 1, hpN, by go_num, HN⟩
          case measure => simp [intOf]; omega
    · have hpl : p = L := by omega
      subst hpl
      have HRes : Hid (R.mergeSort leB = reachN nx first N) := by
        refine rise_eq (sorted_rise hM.nodup) (reachN_rise _ _ _) fun y => ?_
        rw [reachN_mem, (List.mergeSort_perm R leB).mem_iff]
        have hc := closed_reach (nx := nx) (l := R) hM.fst (fun x hx => (hM.all x hx).2) (fun x hx y hy => by
          obtain ⟨i, hi, rfl⟩ := List.getElem_of_mem hx
          exact hM.closed i (by rw [HL.out]; exact hi) y (by rw [List.getD_eq_getElem?_getD, List.getElem?_eq_getElem hi]; exact hy))
        rw [hc y]
        exact ⟨fun h => ⟨h.in ⟨hf0, hf1⟩ HIn.out, h⟩, fun h => h.2⟩
      have hown := HMe.out.own
      have hso := sort_own g gc (w1.heap.size + 1) R wr (by rw [← HL.out]; omega) (by rw [HL.out] at hown; exact hown)
      rw [← HL.out] at hso
      clear hM HMe HM hown hL
      go_wp2_with (go_at_call 26; refine hso.mono ?_; rintro e w6 ⟨rfl, hgr6, ho6⟩)
      go_ret2
      refine ⟨_, rfl, ?_, ?_⟩
      · exact hbw.grown hgr6 hbw.size (fun z hz => by rw [← Option.some.inj hz]; have := HB1.out.size; omega)
      · rw [← HRes.out]
        exact intsV_of_owns (by rw [List.length_mergeSort, ← HL.out]; exact ho6)
end Go.Proofs.YtflmefohofocaaaDoor

/-
  The contract of step.Reach, for every model.
-/
namespace Go.Proofs.YtflmefohofocaaaDoor
open Go.ChangeShapes Go.WideShapes Go.ChangeAt Go.RowKit Go.Deep Go.Maps
open Terms Tm

set_option maxHeartbeats 1600000 in
set_option maxRecDepth 20000 in
/-- THE CONTRACT OF Reach. -/
theorem reach_any (va vr : Value) (m : Mo) (w : World) (hB : 0 < w.heap.size) (hT : TabAt w) (hV : ModelV w va vr m) :
    Calls Tryd.prog 12 #[.agg #[va, vr]] w fun e w' => ∃ v, e = .returned (.tuple #[v, .int .i64 (mcode m)]) ∧ Below w.heap.size w w' ∧ IntsV w' v (reachL m) := by
  by_cases hm : mcode m = 0
  · have h := reach_loop va vr m w hB hT hV hm
    unfold reachL
    rw [if_pos hm, hm]
    exact h
  · have hA : ∀ o, Below w.heap.size w (w.alloc o) := fun o => (Below.refl _ _).alloc (Nat.le_refl _) o
    have hfi := fun o => mfirst_any va vr m (w.alloc o) (Nat.lt_of_lt_of_le hB (hA o).size) (hT.below (hA o) hB) (hV.below (hA o))
    have hRL : reachL m = [] := by unfold reachL; rw [if_neg hm]
    rw [if_neg hm] at hfi
    rw [hRL]
    obtain ⟨ao, cap, rfl⟩ := hV.1.shape
    obtain ⟨ro, rc, rfl⟩ := hV.2.shape
    generalize mcode m = c at *
    generalize m.vars.length = n at *
    generalize m.rules.length = rn at *
    clear hV hRL hT
    go_enter Tryd.func12, Tryd.ntmps12
    go_wp2_with (go_at_call 13; refine (hfi _).mono ?_; rintro e w1 ⟨rfl, hb1⟩)
    go_ret2
    exact ⟨_, rfl, (hA _).trans (hb1.mono (hA _).size), none, 0, rfl, fun h => absurd rfl h⟩
set_option maxRecDepth 20000 in
theorem reachL_length (m : Mo) : (reachL m).length ≤ 5000 := by
  unfold reachL
  split
  · rename_i hm
    have hN := (mcode_vars hm).prod (j := m.vars.length) (Nat.le_refl _)
    unfold reachN
    rw [List.length_map]
    refine Nat.le_trans (List.length_filter_le _ _) ?_
    rw [List.length_range]
    omega
  · simp
end Go.Proofs.YtflmefohofocaaaDoor

/-
  What the program answers of the next states of a model that the keeping laws make.
-/
namespace Go.Proofs.YtflmefohofocaaaDoor
open Go.ChangeShapes Go.WideShapes Go.ChangeAt Go.RowKit Go.Deep
open Terms Tm

/-- a list of next states. -/
structure UpTo (l : List Int) (N : Int) (rn : Nat) : Prop where
  rise : Rise l
  inN : ∀ x ∈ l, 0 ≤ x ∧ x < N
  some : 0 < l.length
  few : l.length ≤ max rn 1
set_option maxRecDepth 20000 in
theorem UpTo.at {l : List Int} {N : Int} {rn : Nat} (h : UpTo l N rn) {i : Nat} (hi : i < l.length) : 0 ≤ l.getD i 0 ∧ l.getD i 0 < N := by
  rw [show l.getD i 0 = l[i] by simp [List.getD_eq_getElem?_getD, hi]]
  exact h.inN _ (List.getElem_mem hi)
set_option maxRecDepth 20000 in
theorem UpTo.up {l : List Int} {N : Int} {rn : Nat} (h : UpTo l N rn) {i : Nat} (hi : i + 1 < l.length) : l.getD i 0 < l.getD (i + 1) 0 := by
  rw [show l.getD i 0 = l[i] by simp [List.getD_eq_getElem?_getD, show i < l.length by omega], show l.getD (i + 1) 0 = l[i + 1] by simp [List.getD_eq_getElem?_getD, hi]]
  exact List.pairwise_iff_getElem.1 h.rise i (i + 1) (by omega) hi (by omega)
set_option maxRecDepth 20000 in
theorem rawL_facts {a b : Vr} (hG : GV a b) {rules : List Ru} {c : Int} (hc : 0 ≤ c ∧ c < vspan a * vspan b) : (∀ x ∈ rawL ⟨[a, b], rules⟩ c, 0 ≤ x ∧ x < vspan a * vspan b) ∧ 0 < (rawL ⟨[a, b], rules⟩ c).length ∧ (rawL ⟨[a, b], rules⟩ c).length ≤ max rules.length 1 := by
  have hv := varsOk_of hG.vcode
  have hp := prod_two a b
  unfold rawL
  split
  · exact ⟨fun x hx => by simp at hx; subst hx; exact hc, by simp, by simp; omega⟩
  · rename_i h
    refine ⟨fun x hx => ?_, List.length_pos_iff.2 h, ?_⟩
    · obtain ⟨j, _, e⟩ := (rawTo_mem (Nat.le_refl _) x).1 hx
      have := ruleDo_state hv e
      rw [← hp]; exact this
    · have := rawTo_length [a, b] (valsL [a, b] c) rules rules.length
      show (rawTo [a, b] (valsL [a, b] c) rules rules.length).length ≤ _
      omega
set_option maxRecDepth 20000 in
theorem upL_pos {l : List Int} (h : 0 < l.length) : 0 < (upL l).length := by
  obtain ⟨x, hx⟩ := List.exists_mem_of_length_pos h
  exact List.length_pos_of_mem (((upL_spec l).2 x).2 hx)
set_option maxRecDepth 20000 in
theorem nextL_up {a b : Vr} (hG : GV a b) {rules : List Ru} {c : Int} (hc : 0 ≤ c ∧ c < vspan a * vspan b) : UpTo (nextL ⟨[a, b], rules⟩ c) (vspan a * vspan b) rules.length := by
  obtain ⟨h1, h2, h3⟩ := rawL_facts hG (rules := rules) hc
  refine ⟨(upL_spec _).1, fun x hx => h1 x (((upL_spec _).2 x).1 hx), upL_pos h2, Nat.le_trans (upL_length _) h3⟩
set_option maxRecDepth 20000 in
theorem gwcode {a b : Vr} (hG : GV a b) {rules : List Ru} (h5 : rules.length ≤ 12) (hr : ∀ j, j < rules.length → rcode 2 (rules.getD j ru0) = 0) {c : Int} (hc : 0 ≤ c ∧ c < vspan a * vspan b) : wcode ⟨[a, b], rules⟩ c = 0 :=
  wcode_yes (hG.mcode h5 hr) ⟨hc.1, by show c < prodTo [a, b] 2; rw [prod_two]; exact hc.2⟩
set_option maxRecDepth 20000 in
/-- step.Next of such a model. -/
theorem knext {a b : Vr} {va : Value} {ro : Option Addr} {rn rc : Nat} {w : World} (hG : GV a b) {c : Int} (hc : 0 ≤ c ∧ c < vspan a * vspan b) (hB : 0 < w.heap.size) (hT : TabAt w) (hM : GModel w va (.slice ro rn rc) [a, b]) :
    Calls Tryd.prog 15 #[.agg #[va, .slice ro rn rc], .int .i64 c] w fun e w' => ∃ v l, e = .returned (.tuple #[v, .int .i64 0]) ∧ Below w.heap.size w w' ∧ IntsV w' v l ∧ UpTo l (vspan a * vspan b) rn := by
  obtain ⟨rules, h1, h2, h3⟩ := hM
  have hrn : rn = rules.length := by
    obtain ⟨ao, cap, e, _⟩ := h1.2
    injection e
  have hw := gwcode hG (by omega) h3 hc
  have h := next_any va _ ⟨[a, b], rules⟩ c w hB hT h1
  rw [hw, show nxtL ⟨[a, b], rules⟩ c = nextL ⟨[a, b], rules⟩ c by unfold nxtL; rw [if_pos hw]] at h
  exact h.mono fun e w' ⟨v, he, hb, hi⟩ => ⟨v, _, he, hb, hi, by rw [hrn]; exact nextL_up hG hc⟩
end Go.Proofs.YtflmefohofocaaaDoor

/-
  The keeping laws' own has; what the program answers of a model that they make, its rules at hand.
-/
namespace Go.Proofs.YtflmefohofocaaaDoor
open Go.ChangeShapes Go.WideShapes Go.ChangeAt Go.RowKit Go.Deep
open Terms Tm

set_option maxRecDepth 20000 in
theorem mem_take_succ {l : List Int} {k : Nat} (hk : k < l.length) (x : Int) : x ∈ l.take (k + 1) ↔ x ∈ l.take k ∨ x = l.getD k 0 := by
  rw [List.take_succ_eq_append_getElem hk, show l[k] = l.getD k 0 by simp [List.getD_eq_getElem?_getD, hk]]
  simp
set_option maxRecDepth 20000 in
set_option maxHeartbeats 1600000 in
/-- THE CONTRACT OF has. -/
theorem has_any (v : Value) (l : List Int) (x : Int) (w : World) (hl : l.length ≤ 1000) (hI : IntsV w v l) :
    Calls Tryd.prog 14 #[v, .int .i64 x] w fun e w' => e = .returned (.bool (decide (x ∈ l))) ∧ Below w.heap.size w w' := by
  obtain ⟨vo, vc, rfl⟩ := hI.shape
  obtain ⟨n, hn⟩ : ∃ n, n = l.length := ⟨_, rfl⟩
  have HN : Hid (n = l.length) := hn
  have HI : Hid (IntsV w (.slice vo n vc) l) := by rw [hn]; exact hI
  rw [← hn] at hl ⊢
  obtain ⟨res, hres⟩ : ∃ res, decide (x ∈ l) = res := ⟨_, rfl⟩
  have HRes : Hid (decide (x ∈ l) = res) := hres
  rw [hres]
  clear hI hn hres
  go_enter Tryd.func14, Tryd.ntmps14
  go_wp2_with fail
  go_loopw [5] (fun i wr => ∃ k : Nat, k ≤ n ∧ i = .int .i64 k ∧ Hid (¬ x ∈ l.take k) ∧ wr = w) (fun i _ => n - (intOf i).toNat)
  case atStart => exact ⟨0, Nat.zero_le _, rfl, (show ¬ x ∈ l.take 0 by simp), rfl⟩
  case round =>
    obtain ⟨k, hk, rfl, HNo, rfl⟩ := hrel
    by_cases hlt : k < n
    · obtain ⟨b, off, rfl, hb, hc⟩ := HI.out.at (i := k) (by rw [← HN.out]; exact hlt)
      have hk' : k < l.length := by rw [← HN.out]; exact hlt
      by_cases hx : l.getD k 0 = x
      · have hr : res = true := by
          rw [← HRes.out]
          refine decide_eq_true ?_
          rw [← hx, show l.getD k 0 = l[k] by simp [List.getD_eq_getElem?_getD, hk']]
          exact List.getElem_mem hk'
        rw [hx] at hc
        subst hr
        clear hx hk'
        go_wp2_with fail
        go_ret
        exact ⟨rfl, Below.refl _ _⟩
      · have HNo2 : Hid (¬ x ∈ l.take (k + 1)) := by
          show ¬ _
          rw [mem_take_succ hk']
          rintro (h | h)
          · exact HNo.out h
          · exact hx h.symm
        generalize l.getD k 0 = y at hc hx
        clear hk' HNo
        go_wp2_with fail
        go_roundw
        case rel => exact ⟨k + 1, hlt, by go_num, HNo2.out, by first | rfl | trivial⟩
        case measure => simp [intOf]; omega
    · have hkn : k = n := by omega
      subst hkn
      have hr : res = false := by
        rw [← HRes.out]
        refine decide_eq_false ?_
        have := HNo.out
        rwa [List.take_of_length_le (by rw [← HN.out]; omega)] at this
      subst hr
      go_wp2_with fail
      go_ret
      exact ⟨rfl, Below.refl _ _⟩
end Go.Proofs.YtflmefohofocaaaDoor

/-
  What is reached of the models that the keeping laws make.
-/
namespace Go.Proofs.YtflmefohofocaaaDoor
open Go.ChangeShapes Go.WideShapes Go.ChangeAt Go.RowKit Go.Deep
open Terms Tm

/-- all that comes behind the first so many states of a list. -/
def behTo (nx : Int → List Int) (l : List Int) (k : Nat) : List Int := (l.take k).flatMap nx
set_option maxRecDepth 20000 in
theorem behTo_succ {nx : Int → List Int} {l : List Int} {k : Nat} (hk : k < l.length) : behTo nx l (k + 1) = behTo nx l k ++ nx (l.getD k 0) := by
  unfold behTo
  rw [List.take_succ_eq_append_getElem hk, List.flatMap_append, List.getD_eq_getElem?_getD, List.getElem?_eq_getElem hk]
  simp
set_option maxRecDepth 20000 in
theorem behTo_length {nx : Int → List Int} {l : List Int} (h : ∀ x ∈ l, (nx x).length ≤ 6) : ∀ k, k ≤ l.length → (behTo nx l k).length ≤ 6 * k
  | 0, _ => by simp [behTo]
  | k + 1, hk => by
    rw [behTo_succ (by omega), List.length_append]
    have h1 := behTo_length h k (by omega)
    have h2 := h (l.getD k 0) (by rw [List.getD_eq_getElem?_getD, List.getElem?_eq_getElem (by omega)]; exact List.getElem_mem _)
    omega
set_option maxRecDepth 20000 in
theorem behTo_all {nx : Int → List Int} {l : List Int} {y : Int} (h : ∃ x ∈ l, y ∈ nx x) : y ∈ behTo nx l l.length := by
  obtain ⟨x, hx, hy⟩ := h
  unfold behTo
  rw [List.take_length]
  exact List.mem_flatMap.2 ⟨x, hx, hy⟩
/-- a list that is closed, rises, and leads to each of its own but the first. -/
structure Closed (nx : Int → List Int) (first : Int) (l : List Int) (N : Int) : Prop where
  fst : first ∈ l
  up : ∀ i, i + 1 < l.length → l.getD i 0 < l.getD (i + 1) 0
  inn : ∀ i, i < l.length → 0 ≤ l.getD i 0 ∧ l.getD i 0 < N
  next : ∀ i, i < l.length → ∀ y ∈ nx (l.getD i 0), y ∈ l
  pre : ∀ i, i < l.length → l.getD i 0 ≠ first → l.getD i 0 ∈ behTo nx l l.length
  len : l.length ≤ 16
  nlen : ∀ i, i < l.length → (nx (l.getD i 0)).length ≤ 6
  blen : ∀ k, k ≤ l.length → (behTo nx l k).length ≤ 96
set_option maxRecDepth 20000 in
theorem getD_mem {l : List Int} {i : Nat} (hi : i < l.length) : l.getD i 0 ∈ l := by rw [List.getD_eq_getElem?_getD, List.getElem?_eq_getElem hi]; exact List.getElem_mem _
set_option maxRecDepth 20000 in
theorem reach_closed {a b : Vr} (hG : GV a b) {rules : List Ru} (h5 : rules.length ≤ 5) (hr : ∀ j, j < rules.length → rcode 2 (rules.getD j ru0) = 0) : Closed (nextL ⟨[a, b], rules⟩) (firstC ⟨[a, b], rules⟩) (reachL ⟨[a, b], rules⟩) (vspan a * vspan b) := by
  have hm : mcode ⟨[a, b], rules⟩ = 0 := hG.mcode (by omega) hr
  have hP := hG.prod
  have hpr : prodTo [a, b] 2 = vspan a * vspan b := prod_two a b
  have hf := firstC_in hm
  have hf' : 0 ≤ firstC ⟨[a, b], rules⟩ ∧ firstC ⟨[a, b], rules⟩ < vspan a * vspan b := by rw [← hpr]; exact hf
  obtain ⟨N, hN⟩ : ∃ N : Nat, vspan a * vspan b = N := ⟨(vspan a * vspan b).toNat, by omega⟩
  have hL : reachL ⟨[a, b], rules⟩ = reachN (nextL ⟨[a, b], rules⟩) (firstC ⟨[a, b], rules⟩) N := by
    unfold reachL
    rw [if_pos hm]
    show reachN _ _ (prodTo [a, b] 2).toNat = _
    rw [hpr, hN, Int.toNat_natCast]
  have hin : ∀ x y : Int, 0 ≤ x ∧ x < N → y ∈ nextL ⟨[a, b], rules⟩ x → 0 ≤ y ∧ y < N := fun x y hx hy => by
    have := nextL_in hm (x := x) (by show 0 ≤ x ∧ x < prodTo [a, b] 2; rw [hpr, hN]; exact hx) hy
    have h2 : 0 ≤ y ∧ y < prodTo [a, b] 2 := this
    rw [hpr, hN] at h2
    exact h2
  have hl6 : ∀ x : Int, 0 ≤ x ∧ x < N → (nextL ⟨[a, b], rules⟩ x).length ≤ 6 := fun x hx => by
    have h1 := upL_length (rawL ⟨[a, b], rules⟩ x)
    have h2 := (rawL_facts hG (rules := rules) (c := x) (by rw [hN]; exact hx)).2.2
    unfold nextL
    omega
  rw [hN] at hf' hP ⊢
  rw [hL]
  have hmem := fun x => reachN_mem (nextL ⟨[a, b], rules⟩) (firstC ⟨[a, b], rules⟩) N x
  have hrise := reachN_rise (nextL ⟨[a, b], rules⟩) (firstC ⟨[a, b], rules⟩) N
  have hlen : (reachN (nextL ⟨[a, b], rules⟩) (firstC ⟨[a, b], rules⟩) N).length ≤ N := by
    unfold reachN
    rw [List.length_map]
    refine Nat.le_trans (List.length_filter_le _ _) ?_
    rw [List.length_range]
    exact Nat.le_refl _
  generalize reachN (nextL ⟨[a, b], rules⟩) (firstC ⟨[a, b], rules⟩) N = l at *
  generalize nextL ⟨[a, b], rules⟩ = nx at *
  generalize firstC ⟨[a, b], rules⟩ = first at *
  have hx : ∀ i, i < l.length → (0 ≤ l.getD i 0 ∧ l.getD i 0 < N) ∧ RSt nx first (l.getD i 0) := fun i hi => (hmem _).1 (getD_mem hi)
  refine ⟨(hmem first).2 ⟨hf', .first⟩, fun i hi => ?_, fun i hi => (hx i hi).1, fun i hi y hy => (hmem y).2 ⟨hin _ y (hx i hi).1 hy, (hx i hi).2.next hy⟩, fun i hi hne => ?_, by omega, fun i hi => hl6 _ (hx i hi).1, fun k hk => ?_⟩
  · have := List.pairwise_iff_getElem.1 hrise i (i + 1) (by omega) hi (by omega)
    simpa [List.getD_eq_getElem?_getD, hi, show i < l.length by omega] using this
  · refine behTo_all ?_
    have h2 := (hx i hi).2
    generalize l.getD i 0 = y at h2 hne
    cases h2 with
    | first => exact absurd rfl hne
    | next hp hy => exact ⟨_, (hmem _).2 ⟨hp.in hf' hin, hp⟩, hy⟩
  · have := behTo_length (nx := nx) (l := l) (fun x hx' => hl6 x ((hmem x).1 hx').1) k hk
    omega

set_option maxHeartbeats 1600000 in
set_option maxRecDepth 20000 in
/-- Next's list lies in memory of its own. -/
theorem next_own (va vr : Value) (m : Mo) (code : Int) (w : World) (hB : 0 < w.heap.size) (hT : TabAt w) (hV : ModelV w va vr m) (hm : mcode m = 0) :
    Calls Tryd.prog 15 #[.agg #[va, vr], .int .i64 code] w fun e w' => ∃ v, e = .returned (.tuple #[v, .int .i64 (wcode m code)]) ∧ Below w.heap.size w w' ∧ w'.ownsRow w.heap.size 3 1 v (nxtL m code).length (ivals (nxtL m code)) := by
  have hA : ∀ o, Below w.heap.size w (w.alloc o) := fun o => (Below.refl _ _).alloc (Nat.le_refl _) o
  have hch := fun o => mcheck_any va vr m (w.alloc o) (Nat.lt_of_lt_of_le hB (hA o).size) (hT.below (hA o) hB) (hV.below (hA o))
  have hne := fun w' (hb : Below w.heap.size w w') => nextOf_own va vr m code w' (Nat.lt_of_lt_of_le hB hb.size) (hT.below hb hB) (hV.below hb) hm
  rw [hm] at hch
  obtain ⟨ao, cap, rfl⟩ := hV.1.shape
  obtain ⟨ro, rc, rfl⟩ := hV.2.shape
  generalize wcode m code = c at *
  generalize nxtL m code = res at *
  generalize m.vars.length = n at *
  generalize m.rules.length = rn at *
  clear hV hT hm
  go_enter Tryd.func15, Tryd.ntmps15
  go_wp2_with (first | (go_at_call 11; refine (hch _).mono ?_; rintro e w1 ⟨rfl, hb1⟩; have hbw1 := (hA _).trans (hb1.mono (hA _).size); have k10 : w1.cell? ⟨w.heap.size, 0, none⟩ = some (.slice ao n cap) := (hb1.cell (p := ⟨w.heap.size, 0, none⟩) (by simp)).trans (by simp [go_sem]); have k11 : w1.cell? ⟨w.heap.size, 1, none⟩ = some (.slice ro rn rc) := (hb1.cell (p := ⟨w.heap.size, 1, none⟩) (by simp)).trans (by simp [go_sem])) | (go_at_call 25; refine (hne _ hbw1).mono ?_; rintro e w2 ⟨v, rfl, hb2, hI2, ho2⟩))
  go_ret2
  exact ⟨_, rfl, hbw1.trans (hb2.mono hbw1.size), owns_mono ho2 hbw1.size⟩
/-- two lists that lie apart: one that grows, and one that is gone through. -/
structure BIn (wr : World) (base : Nat) (bh : Value) (B : List Int) (bs h6 : Nat) (nv : Value) (ny : List Int) : Prop where
  own : wr.ownsRow base 3 1 bh B.length (ivals B)
  apart : ∀ k, bh.ownBlock = some k → k < bs ∨ h6 ≤ k
  list : wr.ownsRow bs 3 1 nv ny.length (ivals ny)
  low : ∀ k, nv.ownBlock = some k → k < h6
  size : h6 ≤ wr.heap.size
theorem BIn.drew {wr : World} {base : Nat} {bh : Value} {B : List Int} {bs h6 : Nat} {nv : Value} {ny : List Int} (h : BIn wr base bh B bs h6 nv ny) : BIn wr.drew base bh B bs h6 nv ny := ⟨h.own, h.apart, h.list, h.low, h.size⟩
set_option maxRecDepth 20000 in
theorem BIn.put {wr w7 w8 : World} {base : Nat} {bh : Value} {B : List Int} {bs h6 : Nat} {nv : Value} {ny : List Int} {o : Obj} {g c : Nat} {y : Int} (h : BIn wr base bh B bs h6 nv ny) (hb7 : Below wr.heap.size wr w7) (hg : (w7.alloc o).grownBy w8 bh.ownBlock) (ho : w8.ownsRow base 3 1 (.slice (some ⟨g, 0, none⟩) (B.length + 1) c) (B.length + 1) (ivals B ++ [.int .i64 y])) (hor : bh.ownBlock = some g ∨ g = (w7.alloc o).heap.size) : BIn w8 base (.slice (some ⟨g, 0, none⟩) (B.length + 1) c) (B ++ [y]) bs h6 nv ny := by
  have hs7 := hb7.size
  have hs8 := hg.size
  simp only [World.size_alloc] at hs8
  have hsz := h.size
  refine ⟨?_, fun k hk => ?_, ?_, h.low, by omega⟩
  · rw [List.length_append, show ivals (B ++ [y]) = ivals B ++ [.int .i64 y] by simp [ivals]]; exact ho
  · obtain rfl : g = k := by simpa [Value.ownBlock] using hk
    rcases hor with h1 | h1
    · exact h.apart g h1
    · right; rw [h1]; simp; omega
  · have e1 := owns_later h.list hb7 (Nat.le_refl _)
    refine (e1.alloc o).kept hg ?_
    cases hx : nv.ownBlock with
    | none => exact .inl rfl
    | some k =>
      refine .inr fun e => ?_
      have h1 := h.low k hx
      have h2 := (h.list.lt k hx).1
      rcases h.apart k e.symm with h3 | h3 <;> omega
end Go.Proofs.YtflmefohofocaaaDoor
