/-
  Joined out of StepAfter, MProps, Bools, StepLetter, ShelfSort, SortOwn, Nexts, StepNext, KeepNext, KeepTwice, KwWalk, in their order: a claim bears at most so many files.
-/
import Derived.Test.YtphdhcemachgdaaDoorStepRule
import Derived.Test.YtphdhcemachgdaaDoorMValues
import Derived.Test.YtphdhcemachgdaaDoorMCheck2
import Derived.Test.YtphdhcemachgdaaDoorMem
import Derived.Deep.OwnRows
import Derived.Shelf.Sort.Plain
import Derived.Ground.Names2Prog
import Derived.Shelf.Slices.CompactI
import Derived.Test.YtphdhcemachgdaaDoorIntsOf
import Derived.Sort.OwnSortedInts
import Derived.Lib.OwnBridge
import Derived.Lib.RowBridge
import Derived.Test.YtphdhcemachgdaaDoorSteps
import Derived.Deep.AppendLies
import Derived.Test.YtphdhcemachgdaaDoorKeepStates
import Derived.Deep.RegionHeld3
import Derived.Deep.RegionLaw
import Derived.Deep.Cut
import Derived.Deep.CutBlock
import Derived.Deep.CutRange
import Derived.Deep.DeepCutAuto
import Derived.Deep.QuietTactic
/-
  The contract of step.After.
-/
namespace Go.Proofs.YtphdhcemachgdaaDoor
open Go.ChangeShapes Go.WideShapes Go.ChangeAt Go.RowKit Go.Deep
open Terms Tm

/-- what After answers. -/
noncomputable def aftN (m : Mo) (code rule : Int) : Int := if wcode m code = 0 then (if 0 ≤ rule ∧ rule < m.rules.length then optN (ruleDo m.vars (valsL m.vars code) (m.rules.getD rule.toNat ru0)) else 0) else 0
noncomputable def aftC (m : Mo) (code rule : Int) : Int := if wcode m code = 0 then (if 0 ≤ rule ∧ rule < m.rules.length then optC (ruleDo m.vars (valsL m.vars code) (m.rules.getD rule.toNat ru0)) else 2) else wcode m code
set_option maxRecDepth 20000 in
theorem wcode_zero {m : Mo} {code : Int} (h : wcode m code = 0) : mcode m = 0 ∧ 0 ≤ code ∧ code < prodTo m.vars m.vars.length := by
  unfold wcode at h
  split at h
  · rename_i h1
    split at h
    · rename_i h2; exact ⟨h1, h2⟩
    · cases h
  · rename_i h1; exact absurd h h1
set_option maxRecDepth 20000 in
/-- THE CONTRACT OF Values, where there are some: a block of their own. -/
theorem svalues_any (va vr : Value) (m : Mo) (code : Int) (w : World) (hB : 0 < w.heap.size) (hT : TabAt w) (hV : ModelV w va vr m) (h : wcode m code = 0) :
    Calls Tryd.prog 13 #[.agg #[va, vr], .int .i64 code] w fun e w' => ∃ B, e = .returned (.tuple #[.slice (some ⟨B, 0, none⟩) (valsL m.vars code).length (valsL m.vars code).length, .int .i64 0]) ∧ w.heap.size ≤ B ∧ Below w.heap.size w w' ∧ w'.rowIs B 3 (valsL m.vars code).length (fun j => .int .i64 ((valsL m.vars code).getD j 0)) := by
  obtain ⟨h1, h2⟩ := wcode_zero h
  refine (mvalues_loop va vr m code w hB hT hV h1 h2).mono fun e w' ⟨B, he, hl, hb, hr⟩ => ?_
  rw [← valsL_length m.vars code] at he hr
  refine ⟨B, he, hl, hb, hr.congr fun j hj => ?_⟩
  rw [valsL_length] at hj
  simp [valsL, List.getD_eq_getElem?_getD, hj]

set_option maxHeartbeats 3200000 in
set_option maxRecDepth 20000 in
/-- THE CONTRACT OF After. -/
theorem after_any (va vr : Value) (m : Mo) (code rule : Int) (w : World) (hB : 0 < w.heap.size) (hT : TabAt w) (hV : ModelV w va vr m) :
    Calls Tryd.prog 16 #[.agg #[va, vr], .int .i64 code, .int .i64 rule] w fun e w' => e = .returned (.tuple #[.int .i64 (aftN m code rule), .int .i64 (aftC m code rule)]) ∧ Below w.heap.size w w' := by
  have hA : ∀ o, Below w.heap.size w (w.alloc o) := fun o => (Below.refl _ _).alloc (Nat.le_refl _) o
  by_cases hw : wcode m code = 0
  · obtain ⟨hm, _⟩ := wcode_zero hw
    obtain ⟨hr12, hrs⟩ := mcode_rules hm
    have hvl := fun o => svalues_any va vr m code (w.alloc o) (Nat.lt_of_lt_of_le hB (hA o).size) (hT.below (hA o) hB) (hV.below (hA o)) hw
    have he := valsL_length m.vars code
    have HDo : Hid (∀ w' (_ : Below w.heap.size w w') B k gv sv, k < m.rules.length → w'.rowIs B 3 (valsL m.vars code).length (fun j => .int .i64 ((valsL m.vars code).getD j 0)) → OpsV w' gv (m.rules.getD k ru0).guard → SetsV w' sv (m.rules.getD k ru0).sets → Calls Tryd.prog 29 #[.agg #[va, vr], .slice (some ⟨B, 0, none⟩) (valsL m.vars code).length (valsL m.vars code).length, .agg #[gv, sv]] w' fun e w2 => e = .returned (.tuple #[.int .i64 (optN (ruleDo m.vars (valsL m.vars code) (m.rules.getD k ru0))), .int .i64 (optC (ruleDo m.vars (valsL m.vars code) (m.rules.getD k ru0)))]) ∧ Below w'.heap.size w' w2) := fun w' hb B k gv sv hk hrow hg hs =>
      doRule_any va vr gv sv B m (valsL m.vars code) (m.rules.getD k ru0) w' (Nat.lt_of_lt_of_le hB hb.size) (hT.below hb hB) (hV.below hb) hm (hrs k hk) he hrow hg hs
    have HR : Hid (RulesV w vr m.rules) := hV.2
    obtain ⟨ao, cap, rfl⟩ := hV.1.shape
    obtain ⟨ro, rc, rfl⟩ := hV.2.shape
    unfold aftN aftC
    rw [if_pos hw, if_pos hw]
    generalize hrr : (fun k => ruleDo m.vars (valsL m.vars code) (m.rules.getD k ru0)) = rr
    have HRR : Hid (∀ k, ruleDo m.vars (valsL m.vars code) (m.rules.getD k ru0) = rr k) := fun k => by rw [← hrr]
    have HDo2 := (show Hid _ from HDo.out)
    clear HDo
    have hrr2 := HRR.out
    simp only [hrr2] at HDo2 ⊢
    generalize (valsL m.vars code).length = vn at *
    generalize m.vars.length = n at *
    obtain ⟨rn, hrn⟩ : ∃ rn, rn = m.rules.length := ⟨_, rfl⟩
    have HRN : Hid (rn = m.rules.length) := hrn
    rw [← hrn] at hvl HR HDo2 ⊢
    rw [← hrn] at hr12
    clear hV hT hw hm hrs he hrr hrr2 hrn HRR
    by_cases hin : 0 ≤ rule ∧ rule < rn
    · rw [if_pos hin, if_pos hin]
      obtain ⟨hi0, hi1⟩ := hin
      obtain ⟨k, rfl⟩ : ∃ k : Nat, rule = k := ⟨rule.toNat, by omega⟩
      have hkn : k < rn := by omega
      rw [Int.toNat_natCast]
      obtain ⟨b, off, rfl, hblt, hat⟩ := HR.out.at (i := k) (by rw [← HRN.out]; exact hkn)
      clear HR hi1
      go_enter Tryd.func16, Tryd.ntmps16
      go_wp2_with (go_at_call 13; refine (hvl _).mono ?_; rintro e w1 ⟨B, rfl, hBl, hb1, hrow⟩; have hbw1 := (hA _).trans (hb1.mono (hA _).size); have k10 : w1.cell? ⟨w.heap.size, 0, none⟩ = some (.slice ao n cap) := (hb1.cell (p := ⟨w.heap.size, 0, none⟩) (by simp)).trans (by simp [go_sem]); have k11 : w1.cell? ⟨w.heap.size, 1, none⟩ = some (.slice (some ⟨b, off, none⟩) rn rc) := (hb1.cell (p := ⟨w.heap.size, 1, none⟩) (by simp)).trans (by simp [go_sem]))
      obtain ⟨⟨u, c0, hou⟩, u', c1, hsu⟩ := hat.below hbw1 hblt
      obtain ⟨uo, uc, rfl⟩ := hou.shape
      obtain ⟨so, sc, rfl⟩ := hsu.shape
      have hdo := HDo2.out w1.drew hbw1.drew B k _ _ hkn hrow hou hsu
      have HBW1 : Hid (Below w.heap.size w w1) := hbw1
      generalize (m.rules.getD k ru0).guard.length = gl at *
      generalize (m.rules.getD k ru0).sets.length = sl at *
      clear hvl hb1 hbw1 hrow hou hsu HDo2 hat
      go_region_with (go_at_call 29; refine hdo.mono ?_; rintro e w3 ⟨rfl, hb3⟩)
      all_goals go_wp2_with fail
      all_goals go_ret2
      all_goals exact ⟨rfl, HBW1.out.drew.trans (hb3.mono HBW1.out.drew.size)⟩
    · have HIN : Hid (¬ (0 ≤ rule ∧ rule < rn)) := hin
      rw [if_neg hin, if_neg hin]
      by_cases h0 : rule < 0
      · clear hin HDo2 HR
        go_enter Tryd.func16, Tryd.ntmps16
        go_wp2_with (go_at_call 13; refine (hvl _).mono ?_; rintro e w1 ⟨B, rfl, hBl, hb1, hrow⟩; have hbw1 := (hA _).trans (hb1.mono (hA _).size); have k11 : w1.cell? ⟨w.heap.size, 1, none⟩ = some (.slice ro rn rc) := (hb1.cell (p := ⟨w.heap.size, 1, none⟩) (by simp)).trans (by simp [go_sem]))
        go_ret2
        exact ⟨rfl, hbw1⟩
      · have h1 : (rn : Int) ≤ rule := by omega
        clear hin HDo2 HR
        go_enter Tryd.func16, Tryd.ntmps16
        go_wp2_with (go_at_call 13; refine (hvl _).mono ?_; rintro e w1 ⟨B, rfl, hBl, hb1, hrow⟩; have hbw1 := (hA _).trans (hb1.mono (hA _).size); have k11 : w1.cell? ⟨w.heap.size, 1, none⟩ = some (.slice ro rn rc) := (hb1.cell (p := ⟨w.heap.size, 1, none⟩) (by simp)).trans (by simp [go_sem]))
        go_ret2
        exact ⟨rfl, hbw1⟩
  · have hvl := fun o => mvalues_any va vr m code (w.alloc o) (Nat.lt_of_lt_of_le hB (hA o).size) (hT.below (hA o) hB) (hV.below (hA o))
    obtain ⟨ao, cap, rfl⟩ := hV.1.shape
    obtain ⟨ro, rc, rfl⟩ := hV.2.shape
    unfold aftN aftC
    rw [if_neg hw, if_neg hw]
    generalize wcode m code = c at *
    generalize m.vars.length = n at *
    generalize m.rules.length = rn at *
    clear hV hT
    go_enter Tryd.func16, Tryd.ntmps16
    go_wp2_with (go_at_call 13; refine (hvl _).mono ?_; rintro e w1 ⟨v, rfl, hb1, _⟩)
    go_ret2
    exact ⟨rfl, (hA _).trans (hb1.mono (hA _).size)⟩
end Go.Proofs.YtphdhcemachgdaaDoor

/-
  The contract of the program's Props.
-/
namespace Go.Proofs.YtphdhcemachgdaaDoor
open Go.ChangeShapes Go.WideShapes Go.ChangeAt Go.RowKit Go.Deep
open Terms Tm

set_option maxRecDepth 20000 in
theorem TermsV.shape {w : World} {v : Value} {ts : List (List (Int × Int))} (h : TermsV w v ts) : ∃ ao cap, v = .slice ao ts.length cap := by
  obtain ⟨ao, cap, h1, _⟩ := h
  exact ⟨ao, cap, h1⟩
set_option maxRecDepth 20000 in
theorem TermsV.at {w : World} {ao : Option Addr} {cap n : Nat} {ts : List (List (Int × Int))} (h : TermsV w (.slice ao n cap) ts) {i : Nat} (hi : i < ts.length) : ∃ b off, ao = some ⟨b, off, none⟩ ∧ b < w.heap.size ∧ ∃ u, w.cell? ⟨b, off + i, none⟩ = some u ∧ OpsV w u (ts.getD i []) := by
  obtain ⟨ao', cap', h1, h3⟩ := h
  injection h1 with e1 e2 e3
  subst e1
  obtain ⟨b, off, e, hb, hh⟩ := h3 (by intro h; subst h; simp at hi)
  exact ⟨b, off, e, hb, hh i hi⟩

set_option maxRecDepth 20000 in
set_option maxHeartbeats 1600000 in
theorem mprops_loop (va vr pv : Value) (m : Mo) (ps : List (List (Int × Int))) (w : World) (hB : 0 < w.heap.size) (hT : TabAt w) (hV : ModelV w va vr m) (hP : TermsV w pv ps) (h : mcode m = 0) (hl6 : ps.length ≤ 6) :
    Calls Tryd.prog 25 #[.agg #[va, vr], pv] w fun e w' => e = .returned (.int .i64 (firstOf (fun i => kcode m.vars.length (ps.getD i []) true) ps.length)) ∧ Below w.heap.size w w' := by
  have hA : ∀ o, Below w.heap.size w (w.alloc o) := fun o => (Below.refl _ _).alloc (Nat.le_refl _) o
  have hch := fun o => mcheck_any va vr m (w.alloc o) (Nat.lt_of_lt_of_le hB (hA o).size) (hT.below (hA o) hB) (hV.below (hA o))
  rw [h] at hch
  have h6 := (mcode_vars h).1
  obtain ⟨ao, cap, rfl⟩ := hV.1.shape
  obtain ⟨ro, rc, rfl⟩ := hV.2.shape
  obtain ⟨po, pc, rfl⟩ := hP.shape
  have HP : Hid (TermsV w (.slice po ps.length pc) ps) := hP
  have HT : Hid (TabAt w) := hT
  obtain ⟨n, hn⟩ : ∃ n, n = ps.length := ⟨_, rfl⟩
  have HN : Hid (n = ps.length) := hn
  rw [← hn] at hl6 HP ⊢
  generalize m.vars.length = vn at *
  generalize m.rules.length = rn at *
  clear hV hT hP hn h
  obtain ⟨f, hf⟩ : ∃ f : Nat → Int, f = fun i => kcode vn (ps.getD i []) true := ⟨_, rfl⟩
  rw [← hf]
  have HF : Hid (f = fun i => kcode vn (ps.getD i []) true) := hf
  clear hf
  go_enter Tryd.func25, Tryd.ntmps25
  go_wp2_with (go_at_call 10; refine (hch _).mono ?_; rintro e w1 ⟨rfl, hb1⟩)
  have hb1' : Below (w.heap.size + 1) (w.alloc (.cells #[.slice ao vn cap, .slice ro rn rc] 29)) w1 := hb1.mono (by simp)
  clear hch hb1
  go_loopw [19] (fun i wr => ∃ k : Nat, k ≤ n ∧ i = .int .i64 k ∧ Hid (∀ j, j < k → f j = 0) ∧ Below (w.heap.size + 1) (w.alloc (.cells #[.slice ao vn cap, .slice ro rn rc] 29)) wr) (fun i _ => n - (intOf i).toNat)
  case atStart => exact ⟨0, Nat.zero_le _, rfl, fun j hj => by omega, hb1'⟩
  case round =>
    obtain ⟨k, hk, rfl, HJ, hbel⟩ := hrel
    clear hb1'
    have hbw := (hA _).trans (hbel.mono (Nat.le_succ _))
    have hszb : w.heap.size + 1 ≤ wr.heap.size := by have := hbel.size; simp at this; omega
    have cb := (hbel.cell (p := ⟨w.heap.size, 0, none⟩) (by simp)).trans (show _ = some (.slice ao vn cap) by simp [go_sem])
    by_cases hlt : k < n
    · obtain ⟨b, off, rfl, hblt, u, c0', hO⟩ := HP.out.at (i := k) (by rw [← HN.out]; exact hlt)
      have HFk : Hid (f k = kcode vn (ps.getD k []) true) := by show _ = _; rw [HF.out]
      have HHit : Hid (∀ c, f k = c → c ≠ 0 → firstOf f n = c) := fun c h1 h2 => by rw [firstOf_hit hlt HJ.out (by rw [h1]; exact h2), h1]
      have HStep : Hid (f k = 0 → ∀ j, j < k + 1 → f j = 0) := fun h0 j hj => by
        by_cases hjk : j = k
        · subst hjk; exact h0
        · exact HJ.out j (by omega)
      generalize ps.getD k [] = p at *
      obtain ⟨ua, uc, rfl⟩ := hO.shape
      have c0 := (hbw.cell (p := ⟨b, off + k, none⟩) hblt).trans c0'
      have hcm := checkMakes_any _ p vn true wr (Nat.lt_of_lt_of_le hB hbw.size) (HT.out.below hbw hB) (hO.below hbw)
      generalize p.length = pn at *
      obtain ⟨x, hx⟩ : ∃ x, kcode vn p true = x := ⟨_, rfl⟩
      rw [hx] at hcm HFk
      clear HJ c0' hO hx HF
      by_cases hx0 : x = 0
      · subst hx0
        have HJ2 := (show Hid _ from HStep.out HFk.out)
        clear HStep HHit HFk
        go_wp2_with (go_at_call 34; refine hcm.mono ?_; rintro e w3 ⟨rfl, hb3⟩)
        go_roundw
        case rel => exact ⟨k + 1, hlt, by go_num, HJ2, hbel.trans (hb3.mono hszb)⟩
        case measure => simp [intOf]; omega
      · have HR : Hid (firstOf f n = x) := HHit.out x HFk.out hx0
        clear HStep HHit HFk
        go_wp2_with (go_at_call 34; refine hcm.mono ?_; rintro e w3 ⟨rfl, hb3⟩)
        go_ret
        rw [HR.out]
        exact ⟨rfl, hbw.trans (hb3.mono hbw.size)⟩
    · have hkn : k = n := by omega
      have HR : Hid (firstOf f n = 0) := firstOf_none (fun j hj => HJ.out j (by omega))
      go_wp2
      go_ret
      rw [HR.out]
      exact ⟨rfl, hbw⟩

set_option maxRecDepth 20000 in
/-- THE CONTRACT OF Props. -/
theorem mprops_any (va vr pv : Value) (m : Mo) (ps : List (List (Int × Int))) (w : World) (hB : 0 < w.heap.size) (hT : TabAt w) (hV : ModelV w va vr m) (hP : TermsV w pv ps) :
    Calls Tryd.prog 25 #[.agg #[va, vr], pv] w fun e w' => e = .returned (.int .i64 (pcode m ps)) ∧ Below w.heap.size w w' := by
  unfold pcode
  by_cases h : mcode m = 0
  · rw [if_pos h]
    by_cases h6 : 6 < ps.length
    · rw [if_pos h6]
      have hA : ∀ o, Below w.heap.size w (w.alloc o) := fun o => (Below.refl _ _).alloc (Nat.le_refl _) o
      have hch := fun o => mcheck_any va vr m (w.alloc o) (Nat.lt_of_lt_of_le hB (hA o).size) (hT.below (hA o) hB) (hV.below (hA o))
      rw [h] at hch
      obtain ⟨ao, cap, rfl⟩ := hV.1.shape
      obtain ⟨ro, rc, rfl⟩ := hV.2.shape
      obtain ⟨po, pc, rfl⟩ := hP.shape
      generalize m.vars.length = vn at *
      generalize m.rules.length = rn at *
      generalize ps.length = n at *
      clear hV hT hP h
      go_enter Tryd.func25, Tryd.ntmps25
      go_wp2_with (go_at_call 10; refine (hch _).mono ?_; rintro e w1 ⟨rfl, hb1⟩)
      go_ret
      exact ⟨rfl, (hA _).trans (hb1.mono (hA _).size)⟩
    · rw [if_neg h6]
      exact mprops_loop va vr pv m ps w hB hT hV hP h (by omega)
  · rw [if_neg h]
    have hA : ∀ o, Below w.heap.size w (w.alloc o) := fun o => (Below.refl _ _).alloc (Nat.le_refl _) o
    have hch := fun o => mcheck_any va vr m (w.alloc o) (Nat.lt_of_lt_of_le hB (hA o).size) (hT.below (hA o) hB) (hV.below (hA o))
    obtain ⟨ao, cap, rfl⟩ := hV.1.shape
    obtain ⟨ro, rc, rfl⟩ := hV.2.shape
    obtain ⟨po, pc, rfl⟩ := hP.shape
    generalize mcode m = x at *
    generalize m.vars.length = vn at *
    generalize m.rules.length = rn at *
    generalize ps.length = n at *
    clear hV hT hP
    go_enter Tryd.func25, Tryd.ntmps25
    go_wp2_with (go_at_call 10; refine (hch _).mono ?_; rintro e w1 ⟨rfl, hb1⟩)
    go_ret
    exact ⟨rfl, (hA _).trans (hb1.mono (hA _).size)⟩

end Go.Proofs.YtphdhcemachgdaaDoor

/-
  Slices of truths; the contract of the laws' own sameTruths.
-/
namespace Go.Proofs.YtphdhcemachgdaaDoor
open Go.ChangeShapes Go.WideShapes Go.ChangeAt Go.RowKit Go.Deep
open Terms

set_option maxRecDepth 20000 in
theorem infoBool : (Tryd.prog.info? 4).map (fun i => (i.zero, i.size, i.bytes)) = some (some (.bool false), 1, 1) := by kernel_rfl
/-- a slice of truths. -/
def BoolsAt (w : World) (b off : Nat) (l : List Bool) : Prop := ∀ i, i < l.length → w.cell? ⟨b, off + i, none⟩ = some (.bool (l.getD i false))
def BoolsV (w : World) (v : Value) (l : List Bool) : Prop := ∃ ao cap, v = .slice ao l.length cap ∧ (l ≠ [] → ∃ b off, ao = some ⟨b, off, none⟩ ∧ b < w.heap.size ∧ BoolsAt w b off l)
set_option maxRecDepth 20000 in
theorem BoolsV.below {w w' : World} {v : Value} {l : List Bool} (h : BoolsV w v l) (hb : Below w.heap.size w w') : BoolsV w' v l := by
  obtain ⟨ao, cap, rfl, h⟩ := h
  refine ⟨ao, cap, rfl, fun hne => ?_⟩
  obtain ⟨b, off, rfl, hlt, hat⟩ := h hne
  exact ⟨b, off, rfl, Nat.lt_of_lt_of_le hlt hb.size, fun i hi => (hb.cell (p := ⟨b, _, none⟩) hlt).trans (hat i hi)⟩
def bvals (l : List Bool) : List Value := l.map fun x => .bool x
set_option maxRecDepth 20000 in
theorem boolsV_of_owns {w : World} {base : Nat} {v : Value} {l : List Bool} (h : w.ownsRow base 4 1 v l.length (bvals l)) : BoolsV w v l := by
  rcases h.2 with ⟨rfl, h0⟩ | ⟨g, cap, cur, rfl, hb, hg, hnc, hcm, hcs, htake⟩
  · have : l = [] := by simpa using h0
    subst this
    exact ⟨none, 0, rfl, fun h => absurd rfl h⟩
  · refine ⟨_, cap, rfl, fun _ => ⟨g, 0, rfl, (Array.getElem?_eq_some_iff.1 hg).1, fun i hi => ?_⟩⟩
    rw [Nat.zero_add, h.cellAt i (by omega)]
    simp [bvals, List.getD_eq_getElem?_getD, hi]
set_option maxRecDepth 20000 in
theorem boolsV_of_row {w : World} {B : Nat} {l : List Bool} (h : w.rowIs B 4 l.length (fun j => .bool (l.getD j false))) : BoolsV w (.slice (some ⟨B, 0, none⟩) l.length l.length) l :=
  ⟨some ⟨B, 0, none⟩, l.length, rfl, fun _ => ⟨B, 0, rfl, h.lt, fun i hi => by rw [Nat.zero_add, h.cell hi]⟩⟩

end Go.Proofs.YtphdhcemachgdaaDoor

/-
  The contract of step.Letter.
-/
namespace Go.Proofs.YtphdhcemachgdaaDoor
open Go.ChangeShapes Go.WideShapes Go.ChangeAt Go.RowKit Go.Deep
open Terms Tm

/-- what Letter answers. -/
noncomputable def letC (m : Mo) (ps : List (List (Int × Int))) (code : Int) : Int := if pcode m ps = 0 then wcode m code else pcode m ps
noncomputable def letL (m : Mo) (ps : List (List (Int × Int))) (code : Int) : List Bool := if letC m ps code = 0 then ps.map (fun p => holdsB p (valsL m.vars code)) else []
set_option maxRecDepth 20000 in
theorem pcode_m {m : Mo} {ps : List (List (Int × Int))} (h : pcode m ps = 0) : mcode m = 0 ∧ ps.length ≤ 6 := by
  unfold pcode at h
  split at h
  · rename_i h1
    split at h
    · simp at h
    · exact ⟨h1, by omega⟩
  · rename_i h1; exact absurd h h1
set_option maxRecDepth 20000 in
theorem wcode_bare {m : Mo} (code : Int) (h : mcode m = 0) : wcode ⟨m.vars, []⟩ code = wcode m code := by
  unfold wcode
  rw [if_pos h, if_pos (mcode_bare h)]

set_option maxHeartbeats 3200000 in
set_option maxRecDepth 20000 in
/-- THE CONTRACT OF Letter. -/
theorem letter_any (va vr pv : Value) (m : Mo) (ps : List (List (Int × Int))) (code : Int) (w : World) (hB : 0 < w.heap.size) (hT : TabAt w) (hV : ModelV w va vr m) (hP : TermsV w pv ps) :
    Calls Tryd.prog 14 #[.agg #[va, vr], pv, .int .i64 code] w fun e w' => ∃ v, e = .returned (.tuple #[v, .int .i64 (letC m ps code)]) ∧ Below w.heap.size w w' ∧ BoolsV w' v (letL m ps code) := by
  have hA : ∀ o, Below w.heap.size w (w.alloc o) := fun o => (Below.refl _ _).alloc (Nat.le_refl _) o
  have hpr := fun o => mprops_any va vr pv m ps (w.alloc o) (Nat.lt_of_lt_of_le hB (hA o).size) (hT.below (hA o) hB) (hV.below (hA o)) (hP.below (hA o))
  obtain ⟨ao, cap, rfl⟩ := hV.1.shape
  obtain ⟨ro, rc, rfl⟩ := hV.2.shape
  obtain ⟨po, pc, rfl, hPa⟩ := hP
  have hba := fun w => bare_any ao ro m.vars.length cap m.rules.length rc w
  by_cases hp : pcode m ps = 0
  · obtain ⟨hm, hp6⟩ := pcode_m hp
    rw [hp] at hpr
    have hVb : ∀ w', Below w.heap.size w w' → ModelV w' (.slice ao m.vars.length cap) (.slice none 0 0) ⟨m.vars, []⟩ := fun w' hb => ⟨hV.1.below hb, ⟨none, 0, rfl, ⟨by simp, fun _ => ⟨rfl, rfl⟩⟩, fun h => by simp at h⟩⟩
    by_cases hw : wcode m code = 0
    · have hlc : letC m ps code = 0 := by unfold letC; rw [if_pos hp, hw]
      have hll : letL m ps code = ps.map (fun p => holdsB p (valsL m.vars code)) := by unfold letL; rw [if_pos hlc]
      rw [hlc, hll]
      have hvl := fun w' (hb : Below w.heap.size w w') => svalues_any _ _ ⟨m.vars, []⟩ code w' (Nat.lt_of_lt_of_le hB hb.size) (hT.below hb hB) (hVb w' hb) (by rw [wcode_bare _ hm]; exact hw)
      have hvl2 : ∀ w', Below w.heap.size w w' → Calls Tryd.prog 13 #[.agg #[.slice ao m.vars.length cap, .slice none 0 0], .int .i64 code] w' fun e w2 => ∃ B, e = .returned (.tuple #[.slice (some ⟨B, 0, none⟩) (valsL m.vars code).length (valsL m.vars code).length, .int .i64 0]) ∧ w'.heap.size ≤ B ∧ Below w'.heap.size w' w2 ∧ w2.rowIs B 3 (valsL m.vars code).length (fun j => .int .i64 ((valsL m.vars code).getD j 0)) := hvl
      generalize valsL m.vars code = env at hvl2 ⊢
      have HHo : Hid (∀ w' (_ : Below w.heap.size w w') v ev l, OpsV w' v l → IntsV w' ev env → Calls Tryd.prog 27 #[v, ev] w' fun e w2 => e = .returned (.bool (holdsB l env)) ∧ Below w'.heap.size w' w2) := fun w' hb v ev l h1 h2 => sholds_any v ev l env w' (Nat.lt_of_lt_of_le hB hb.size) (hT.below hb hB) h1 h2
      have HP : Hid (ps ≠ [] → ∃ b off, po = some ⟨b, off, none⟩ ∧ b < w.heap.size ∧ ∀ i, i < ps.length → ∃ u, w.cell? ⟨b, off + i, none⟩ = some u ∧ OpsV w u (ps.getD i [])) := hPa
      have HML : Hid ((ps.map (fun p => holdsB p env)).length = ps.length ∧ ∀ i, i < ps.length → (ps.map (fun p => holdsB p env)).getD i false = holdsB (ps.getD i []) env) := ⟨by simp, fun i hi => by simp [List.getD_eq_getElem?_getD, hi]⟩
      generalize ps.map (fun p => holdsB p env) = lt at HML ⊢
      obtain ⟨pn, hpn⟩ : ∃ pn, pn = ps.length := ⟨_, rfl⟩
      have HPN : Hid (pn = ps.length) := hpn
      rw [← hpn] at hpr hp6 HP HML ⊢
      generalize m.vars.length = n at *
      generalize m.rules.length = rn at *
      have hmk := run_make_row' (P := Tryd.prog) 52 4 (.bool false) 1 Tryd.underlying52 infoBool rfl .i64 .i64 pn (by omega) (by omega)
      clear hV hT hVb hlc hll hPa hvl hpn hw hm hp
      go_enter Tryd.func14, Tryd.ntmps14
      go_wp2_with (first | (go_at_call 25; refine (hpr _).mono ?_; rintro e w1 ⟨rfl, hb1⟩; have hbw1 := (hA _).trans (hb1.mono (hA _).size); have k10 : w1.cell? ⟨w.heap.size, 0, none⟩ = some (.slice ao n cap) := (hb1.cell (p := ⟨w.heap.size, 0, none⟩) (by simp)).trans (by simp [go_sem]); have k11 : w1.cell? ⟨w.heap.size, 1, none⟩ = some (.slice ro rn rc) := (hb1.cell (p := ⟨w.heap.size, 1, none⟩) (by simp)).trans (by simp [go_sem])) | (go_at_call 26; refine (hba _).mono ?_; rintro e w2 ⟨rfl, hb2⟩; have hbw2 := hbw1.trans (hb2.mono hbw1.size)) | (go_at_call 13; refine (hvl2 _ hbw2).mono ?_; rintro e w3 ⟨B, rfl, hBl, hb3, hr3⟩))
      have hbw3 := hbw2.trans (hb3.mono hbw2.size)
      have hrow0 := World.rowIs_made w3 (.bool false) pn 4
      have HI3 : Hid (∀ w', Below w3.heap.size w3 w' → IntsV w' (.slice (some ⟨B, 0, none⟩) env.length env.length) env) := fun w' hb => by
        have h1 := intsV_of_row hr3
        have e1 : (List.range env.length).map (fun j => env.getD j 0) = env := by
          apply List.ext_getElem?
          intro i
          by_cases hi : i < env.length
          · simp [hi, List.getD_eq_getElem?_getD]
          · simp [hi]
        rw [e1] at h1
        exact h1.below hb
      have HB3 : Hid (Below w.heap.size w w3) := hbw3
      clear hpr hvl2 hba hmk hb1 hbw1 k10 k11 hb2 hbw2 hb3 hr3 hbw3 hBl
      go_loopw [35] (fun i wr => ∃ k : Nat, k ≤ pn ∧ i = .int .i64 k ∧ Hid (wr.rowIs w3.heap.size 4 pn (fun j => if j < k then .bool (lt.getD j false) else .bool false)) ∧ Hid (Below w3.heap.size w3 wr)) (fun i _ => pn - (intOf i).toNat)
      case atStart => exact ⟨0, Nat.zero_le _, rfl, hrow0.congr (fun i hi => by rw [if_neg (by omega)]), (Below.refl _ _).alloc (Nat.le_refl _) _⟩
      case round =>
        obtain ⟨k, hk, rfl, HRow, HBel⟩ := hrel
        have hbel := HBel.out
        have hbw := HB3.out.trans (hbel.mono HB3.out.size)
        by_cases hlt : k < pn
        · obtain ⟨b, off, rfl, hblt, hat⟩ := HP.out (by intro h; have := HPN.out; subst h; simp at this; omega)
          obtain ⟨u, hu, hou⟩ := hat k hlt
          have c0 := (hbel.cell (p := ⟨b, off + k, none⟩) (Nat.lt_of_lt_of_le hblt HB3.out.size)).trans ((HB3.out.cell (p := ⟨b, off + k, none⟩) hblt).trans hu)
          obtain ⟨uo, uc, rfl⟩ := hou.shape
          have hho := HHo.out wr hbw _ _ _ (hou.below hbw) (HI3.out wr hbel)
          have HLk := (show Hid _ from HML.out.2 k hlt)
          generalize holdsB (ps.getD k []) env = tv at hho HLk
          generalize (ps.getD k []).length = ul at *
          have HWr : Hid (∀ w4, Below wr.heap.size wr w4 → w4.rowIs w3.heap.size 4 pn (fun j => if j < k then .bool (lt.getD j false) else .bool false) ∧ Below w3.heap.size w3 w4) := fun w4 hb => ⟨row_later HRow.out hb, hbel.trans (hb.mono hbel.size)⟩
          clear hat hu hou hbel hbw HHo HI3 HP HML
          go_wp2_with (go_at_call 27; refine hho.mono ?_; rintro e w4 ⟨rfl, hb4⟩; obtain ⟨hr4, hb34⟩ := HWr.out w4 hb4; have hf := hr4.frozen k; have hc : w4.cell? ⟨w3.heap.size, k, none⟩ = some (.bool false) := (by rw [hr4.cell hlt, if_neg (by omega)]); have HR4 : Hid (w4.rowIs w3.heap.size 4 pn (fun j => if j < k then .bool (lt.getD j false) else .bool false)) := hr4; clear hr4)
          refine ⟨⟨k + 1, hlt, by first | rfl | simp, (HR4.out.set k (.bool tv)).congr fun i hi => ?_, hb34.setCell (Nat.le_refl _) _⟩, by simp [intOf]; omega⟩
          by_cases hik : i = k
          · subst hik; rw [if_pos rfl, if_pos (by omega), HLk.out]
          · rw [if_neg hik]
            by_cases hlk : i < k
            · rw [if_pos hlk, if_pos (by omega)]
            · rw [if_neg hlk, if_neg (by omega)]
        · have hkn : k = pn := by omega
          subst hkn
          have hrow := HRow.out.congr (g := fun j => .bool (lt.getD j false)) (fun i hi => by rw [if_pos hi])
          rw [← HML.out.1] at hrow
          have hbo := boolsV_of_row hrow
          rw [HML.out.1] at hbo
          have HBO := (show Hid _ from hbo)
          clear hrow hbo
          go_wp2_with fail
          go_ret2
          exact ⟨_, rfl, hbw, HBO.out⟩
    · have hlc : letC m ps code = wcode m code := by unfold letC; rw [if_pos hp]
      have hll : letL m ps code = [] := by unfold letL; rw [if_neg (by rw [hlc]; exact hw)]
      rw [hlc, hll]
      have hvl := fun w' (hb : Below w.heap.size w w') => mvalues_any _ _ ⟨m.vars, []⟩ code w' (Nat.lt_of_lt_of_le hB hb.size) (hT.below hb hB) (hVb w' hb)
      rw [wcode_bare _ hm] at hvl
      generalize wcode m code = c at *
      generalize wvals ⟨m.vars, []⟩ code = vs at *
      generalize m.vars.length = n at *
      generalize m.rules.length = rn at *
      generalize ps.length = pn at *
      clear hV hT hVb hlc hll hPa
      go_enter Tryd.func14, Tryd.ntmps14
      go_wp2_with (first | (go_at_call 25; refine (hpr _).mono ?_; rintro e w1 ⟨rfl, hb1⟩; have hbw1 := (hA _).trans (hb1.mono (hA _).size); have k10 : w1.cell? ⟨w.heap.size, 0, none⟩ = some (.slice ao n cap) := (hb1.cell (p := ⟨w.heap.size, 0, none⟩) (by simp)).trans (by simp [go_sem]); have k11 : w1.cell? ⟨w.heap.size, 1, none⟩ = some (.slice ro rn rc) := (hb1.cell (p := ⟨w.heap.size, 1, none⟩) (by simp)).trans (by simp [go_sem])) | (go_at_call 26; refine (hba _).mono ?_; rintro e w2 ⟨rfl, hb2⟩; have hbw2 := hbw1.trans (hb2.mono hbw1.size)) | (go_at_call 13; refine (hvl _ hbw2).mono ?_; rintro e w3 ⟨v, rfl, hb3, _⟩))
      go_ret2
      exact ⟨_, rfl, hbw2.trans (hb3.mono hbw2.size), none, 0, rfl, fun h => absurd rfl h⟩
  · have hlc : letC m ps code = pcode m ps := by unfold letC; rw [if_neg hp]
    have hll : letL m ps code = [] := by unfold letL; rw [if_neg (by rw [hlc]; exact hp)]
    rw [hlc, hll]
    generalize pcode m ps = c at *
    generalize m.vars.length = n at *
    generalize m.rules.length = rn at *
    generalize ps.length = pn at *
    clear hV hT hlc hll hPa
    go_enter Tryd.func14, Tryd.ntmps14
    go_wp2_with (go_at_call 25; refine (hpr _).mono ?_; rintro e w1 ⟨rfl, hb1⟩)
    go_ret2
    exact ⟨_, rfl, (hA _).trans (hb1.mono (hA _).size), none, 0, rfl, fun h => absurd rfl h⟩
end Go.Proofs.YtphdhcemachgdaaDoor

/-
  The library's slices.Sort and slices.Compact at lists of numbers: their contracts at this program, in plain words.
-/
namespace Go.Proofs.YtphdhcemachgdaaDoor
open Go.Shelf
def lays189_ren : Go.Shelf.Ren := ⟨fun | 189 => 35 | 125 => 45 | 257 => 44 | 128 => 62 | 129 => 63 | 294 => 53 | 295 => 54 | 296 => 55 | 297 => 56 | 298 => 57 | 299 => 58 | 216 => 59 | 300 => 60 | 301 => 61 | 328 => 75 | 329 => 76 | 330 => 77 | 331 => 78 | 332 => 79 | 215 => 80 | 343 => 84 | n => n, fun | 28 => 48 | 3 => 3 | 46 => 95 | 0 => 0 | 51 => 113 | 53 => 115 | 4 => 4 | 183 => 106 | 182 => 105 | 131 => 79 | 5 => 5 | 9 => 9 | 218 => 120 | 222 => 124 | 228 => 127 | 229 => 128 | n => n, fun | n => n⟩
set_option maxRecDepth 20000 in
theorem lays189 : Go.Proofs.Lays.n189 Tryd.prog lays189_ren := {
  mixed := by kernel_rfl
  f125 := Tryd.func45.trans (congrArg some (by kernel_rfl))
  f128 := Tryd.func62.trans (congrArg some (by kernel_rfl))
  f129 := Tryd.func63.trans (congrArg some (by kernel_rfl))
  f189 := Tryd.func35.trans (congrArg some (by kernel_rfl))
  f215 := Tryd.func80.trans (congrArg some (by kernel_rfl))
  f216 := Tryd.func59.trans (congrArg some (by kernel_rfl))
  f257 := Tryd.func44.trans (congrArg some (by kernel_rfl))
  f294 := Tryd.func53.trans (congrArg some (by kernel_rfl))
  f295 := Tryd.func54.trans (congrArg some (by kernel_rfl))
  f296 := Tryd.func55.trans (congrArg some (by kernel_rfl))
  f297 := Tryd.func56.trans (congrArg some (by kernel_rfl))
  f298 := Tryd.func57.trans (congrArg some (by kernel_rfl))
  f299 := Tryd.func58.trans (congrArg some (by kernel_rfl))
  f300 := Tryd.func60.trans (congrArg some (by kernel_rfl))
  f301 := Tryd.func61.trans (congrArg some (by kernel_rfl))
  f328 := Tryd.func75.trans (congrArg some (by kernel_rfl))
  f329 := Tryd.func76.trans (congrArg some (by kernel_rfl))
  f330 := Tryd.func77.trans (congrArg some (by kernel_rfl))
  f331 := Tryd.func78.trans (congrArg some (by kernel_rfl))
  f332 := Tryd.func79.trans (congrArg some (by kernel_rfl))
  f343 := Tryd.func84.trans (congrArg some (by kernel_rfl))
  t0 := Tryd.underlying0
  a0 := Tryd.isAgg0
  z0 := Tryd.sizeOf0
  v0 := Tryd.zeroValue0
  t3 := Tryd.underlying3
  a3 := Tryd.isAgg3
  z3 := Tryd.sizeOf3
  v3 := Tryd.zeroValue3
  t4 := Tryd.underlying4
  a4 := Tryd.isAgg4
  z4 := Tryd.sizeOf4
  v4 := Tryd.zeroValue4
  t5 := Tryd.underlying5
  a5 := Tryd.isAgg5
  z5 := Tryd.sizeOf5
  v5 := Tryd.zeroValue5
  t9 := Tryd.underlying9
  a9 := Tryd.isAgg9
  z9 := Tryd.sizeOf9
  v9 := Tryd.zeroValue9
  t28 := Tryd.underlying48
  a28 := Tryd.isAgg48
  z28 := Tryd.sizeOf48
  v28 := Tryd.zeroValue48
  t46 := Tryd.underlying95
  a46 := Tryd.isAgg95
  z46 := Tryd.sizeOf95
  v46 := Tryd.zeroValue95
  t51 := Tryd.underlying113
  a51 := Tryd.isAgg113
  z51 := Tryd.sizeOf113
  v51 := Tryd.zeroValue113
  t53 := Tryd.underlying115
  a53 := Tryd.isAgg115
  z53 := Tryd.sizeOf115
  v53 := Tryd.zeroValue115
  t131 := Tryd.underlying79
  a131 := Tryd.isAgg79
  z131 := Tryd.sizeOf79
  v131 := Tryd.zeroValue79
  t182 := Tryd.underlying105
  a182 := Tryd.isAgg105
  z182 := Tryd.sizeOf105
  v182 := Tryd.zeroValue105
  t183 := Tryd.underlying106
  a183 := Tryd.isAgg106
  z183 := Tryd.sizeOf106
  v183 := Tryd.zeroValue106
  t218 := Tryd.underlying120
  a218 := Tryd.isAgg120
  z218 := Tryd.sizeOf120
  v218 := Tryd.zeroValue120
  t222 := Tryd.underlying124
  a222 := Tryd.isAgg124
  z222 := Tryd.sizeOf124
  v222 := Tryd.zeroValue124
  t228 := Tryd.underlying127
  a228 := Tryd.isAgg127
  z228 := Tryd.sizeOf127
  v228 := Tryd.zeroValue127
  t229 := Tryd.underlying128
  a229 := Tryd.isAgg128
  z229 := Tryd.sizeOf128
  v229 := Tryd.zeroValue128 }
open Go.Sort Go.RowKit in
set_option maxRecDepth 20000 in
theorem slices_Sort_int (blk off cap : Nat) (zs : List Int) (w : World) (hH : Holds (Value.int .i64) w blk off zs.toArray) (hblk : blk < w.heap.size) (hsz : zs.length < 4611686018427387904) :
    Calls Tryd.prog 35 #[.slice (some ⟨blk, off, none⟩) zs.length cap] w fun e w' =>
      e = .returned (.tuple #[]) ∧ ∃ n os, w' = grow (putRow (Value.int .i64) (Sort.ahead w n) blk off (zs.mergeSort fun x y => decide (x ≤ y)).toArray) os := Any.slices_Sort_int lays189 blk off cap zs w hH hblk hsz
def laysNm220_ren : Go.Shelf.Ren := ⟨fun | 20 => 36 | n => n, fun | 22 => 48 | 3 => 3 | 4 => 4 | 0 => 0 | n => n, fun | n => n⟩
set_option maxRecDepth 20000 in
theorem laysNm220 : Go.Proofs.Lays2.n20 Tryd.prog laysNm220_ren := {
  mixed := by kernel_rfl
  f20 := Tryd.func36.trans (congrArg some (by kernel_rfl))
  t0 := Tryd.underlying0
  a0 := Tryd.isAgg0
  z0 := Tryd.sizeOf0
  v0 := Tryd.zeroValue0
  t3 := Tryd.underlying3
  a3 := Tryd.isAgg3
  z3 := Tryd.sizeOf3
  v3 := Tryd.zeroValue3
  t4 := Tryd.underlying4
  a4 := Tryd.isAgg4
  z4 := Tryd.sizeOf4
  v4 := Tryd.zeroValue4
  t22 := Tryd.underlying48
  a22 := Tryd.isAgg48
  z22 := Tryd.sizeOf48
  v22 := Tryd.zeroValue48
  i3 := by kernel_rfl }
open Go.RowKit Go.Lib Go.Sort in
set_option maxRecDepth 20000 in
theorem slices_Compact_int (blk off cap : Nat) (zs : List Int) (w : World) (hH : Holds (Value.int .i64) w blk off zs.toArray) (hsz : zs.length ≤ 9223372036854775807) (hcap : zs.length ≤ cap) :
    Calls Tryd.prog 36 #[.slice (some ⟨blk, off, none⟩) zs.length cap] w fun e w' => e = .returned (.slice (some ⟨blk, off, none⟩) (Lib.compact zs).length cap) ∧ ∃ q, w' = putRow (Value.int .i64) (Sort.ahead w q) blk off (Lib.compact zs ++ List.replicate (zs.length - (Lib.compact zs).length) 0).toArray := Any.slices_Compact_int laysNm220 blk off cap zs w hH hsz hcap
end Go.Proofs.YtphdhcemachgdaaDoor

/-
  The library's Sort and Compact of numbers that lie in a row of one's own; and what comes of them.
-/
namespace Go.Proofs.YtphdhcemachgdaaDoor
open Go.RowKit Go.Sort

def leB (x y : Int) : Bool := decide (x ≤ y)
set_option maxRecDepth 20000 in
/-- slices.Sort. -/
theorem sort_own (g cap base : Nat) (zs : List Int) (w : World) (hz : zs.length ≤ 100000) (ho : w.ownsRow base 3 1 (.slice (some ⟨g, 0, none⟩) zs.length cap) zs.length (ivals zs)) :
    Calls Tryd.prog 35 #[.slice (some ⟨g, 0, none⟩) zs.length cap] w fun e w' => e = .returned (.tuple #[]) ∧ w.grownBy w' (some g) ∧ w'.ownsRow base 3 1 (.slice (some ⟨g, 0, none⟩) zs.length cap) zs.length (ivals (zs.mergeSort leB)) := by
  have ho' : w.ownsRow base 3 1 (.slice (some ⟨g, 0, none⟩) zs.length cap) zs.length (zs.map (Value.int .i64)) := ho
  obtain ⟨g', cap', hv, hbg, hlt, hn, hm, hl, hH⟩ := Lib.holds_of_ownsRow ho' (by simp)
  injection hv with h1 h2 h3
  injection h1 with h1
  injection h1 with h1
  subst h1 h3
  rcases ho.2 with ⟨e0, _⟩ | ⟨g2, cap2, cur, e0, hb, hg, hnc, hcm, hcs, ht⟩
  · cases e0
  · injection e0 with e1 _ e3
    injection e1 with e1
    injection e1 with e1
    subst e1 e3
    refine (slices_Sort_int g 0 cap zs w hH hlt (by omega)).mono fun e w' ⟨he, n, os, hw⟩ => ⟨he, ?_, ?_⟩
    · rw [hw]; exact grownBy_sortedI _
    · rw [hw]; exact ownsRow_sortedI (ts := zs.mergeSort leB) (by simp) hbg hg hnc hcm hcs
set_option maxRecDepth 20000 in
/-- slices.Compact. -/
theorem compact_own (g cap base : Nat) (zs : List Int) (w : World) (hz : zs.length ≤ 100000) (ho : w.ownsRow base 3 1 (.slice (some ⟨g, 0, none⟩) zs.length cap) zs.length (ivals zs)) :
    Calls Tryd.prog 36 #[.slice (some ⟨g, 0, none⟩) zs.length cap] w fun e w' => e = .returned (.slice (some ⟨g, 0, none⟩) (Lib.compact zs).length cap) ∧ w.grownBy w' (some g) ∧ w'.ownsRow base 3 1 (.slice (some ⟨g, 0, none⟩) (Lib.compact zs).length cap) (Lib.compact zs).length (ivals (Lib.compact zs)) := by
  have ho' : w.ownsRow base 3 1 (.slice (some ⟨g, 0, none⟩) zs.length cap) zs.length (zs.map (Value.int .i64)) := ho
  obtain ⟨g', cap', hv, hbg, hlt, hn, hm, hl, hH⟩ := Lib.holds_of_ownsRow ho' (by simp)
  injection hv with h1 h2 h3
  injection h1 with h1
  injection h1 with h1
  subst h1 h3
  have hcl := Lib.compact_length_le zs
  refine (slices_Compact_int g 0 cap zs w hH (by omega) hn).mono fun e w' ⟨he, q, hw⟩ => ⟨he, ?_, ?_⟩
  · rw [hw]
    refine ⟨rfl, rfl, rfl, by simp [putRow, mapBlock, Sort.ahead], fun k _ hne => ?_⟩
    have : g ≠ k := fun e => hne (by rw [e])
    simp [putRow, mapBlock, Sort.ahead, Array.getElem?_modify, this]
  · rw [hw]
    have h := Lib.ownsRow_putRow (q := q) (k := (Lib.compact zs).length) (ys := Lib.compact zs ++ List.replicate (zs.length - (Lib.compact zs).length) 0) ho' (by simp; omega) hcl
    rw [List.take_left] at h
    exact h

/-! ### lists that rise -/

abbrev Rise (l : List Int) : Prop := l.Pairwise (· < ·)
set_option maxRecDepth 20000 in
theorem rise_eq : ∀ {l l' : List Int}, Rise l → Rise l' → (∀ x, x ∈ l ↔ x ∈ l') → l = l'
  | [], [], _, _, _ => rfl
  | [], y :: l', _, _, h => absurd ((h y).2 (by simp)) (by simp)
  | x :: l, [], _, _, h => absurd ((h x).1 (by simp)) (by simp)
  | x :: l, y :: l', h1, h2, h => by
    obtain ⟨hx, t1⟩ := List.pairwise_cons.1 h1
    obtain ⟨hy, t2⟩ := List.pairwise_cons.1 h2
    have e : x = y := by
      rcases List.mem_cons.1 ((h x).1 (by simp)) with e | e
      · exact e
      · rcases List.mem_cons.1 ((h y).2 (by simp)) with e' | e'
        · exact e'.symm
        · have := hx y e'; have := hy x e; omega
    subst e
    refine congrArg (x :: ·) (rise_eq t1 t2 fun z => ⟨fun hz => ?_, fun hz => ?_⟩)
    · rcases List.mem_cons.1 ((h z).1 (by simp [hz])) with e | e
      · subst e; have := hx z hz; omega
      · exact e
    · rcases List.mem_cons.1 ((h z).2 (by simp [hz])) with e | e
      · subst e; have := hy z hz; omega
      · exact e
set_option maxRecDepth 20000 in
theorem compact_step {d : Array Int} {n : Nat} (hs : ∀ i j, i ≤ j → j < n → d[i]! ≤ d[j]!) : ∀ m, m ≤ n → Rise (Lib.compactUpTo d m) ∧ ∀ x, x ∈ Lib.compactUpTo d m ↔ ∃ j, j < m ∧ d[j]! = x := by
  intro m
  induction m with
  | zero => intro _; exact ⟨by simp [Lib.compactUpTo], fun x => by simp [Lib.compactUpTo]⟩
  | succ m ih =>
    intro hm
    obtain ⟨h1, h2⟩ := ih (by omega)
    rw [Lib.compactUpTo_succ]
    by_cases hk : Lib.keeps d m = true
    · rw [if_pos hk]
      refine ⟨List.pairwise_append.2 ⟨h1, by simp, fun x hx y hy => ?_⟩, fun x => ?_⟩
      · simp at hy
        subst hy
        obtain ⟨j, hj, rfl⟩ := (h2 x).1 hx
        have h3 := hs j m (by omega) (by omega)
        have h4 := hs j (m - 1) (by omega) (by omega)
        have h5 := hs (m - 1) m (by omega) (by omega)
        have h6 : d[m]! ≠ d[m - 1]! := by
          have : m ≠ 0 := by omega
          simpa [Lib.keeps, this] using hk
        omega
      · simp only [List.mem_append, List.mem_singleton, h2]
        constructor
        · rintro (⟨j, hj, e⟩ | e)
          · exact ⟨j, by omega, e⟩
          · exact ⟨m, by omega, e.symm⟩
        · rintro ⟨j, hj, e⟩
          by_cases hjm : j = m
          · subst hjm; exact .inr e.symm
          · exact .inl ⟨j, by omega, e⟩
    · rw [if_neg hk, List.append_nil]
      refine ⟨h1, fun x => ?_⟩
      rw [h2]
      constructor
      · rintro ⟨j, hj, e⟩; exact ⟨j, by omega, e⟩
      · rintro ⟨j, hj, e⟩
        by_cases hjm : j = m
        · subst hjm
          have h7 : j ≠ 0 ∧ d[j]! = d[j - 1]! := by simpa [Lib.keeps] using hk
          exact ⟨j - 1, by omega, by rw [← h7.2]; exact e⟩
        · exact ⟨j, by omega, e⟩
/-- the numbers of a list, each once, rising. -/
def upL (l : List Int) : List Int := Lib.compact (l.mergeSort leB)
set_option maxRecDepth 20000 in
theorem upL_spec (l : List Int) : Rise (upL l) ∧ ∀ x, x ∈ upL l ↔ x ∈ l := by
  have hp : (l.mergeSort leB).Pairwise (fun x y => leB x y = true) := List.pairwise_mergeSort (le := leB) (by intro a b c; simp only [leB, decide_eq_true_eq]; omega) (by intro a b; simp only [leB, Bool.or_eq_true, decide_eq_true_eq]; omega) l
  have hs : ∀ i j, i ≤ j → j < (l.mergeSort leB).length → (l.mergeSort leB).toArray[i]! ≤ (l.mergeSort leB).toArray[j]! := fun i j hij hj => by
    rw [getElem!_pos _ i (by simpa using (by omega : i < (l.mergeSort leB).length)), getElem!_pos _ j (by simpa using hj)]
    rcases Nat.lt_or_eq_of_le hij with h | h
    · have := List.pairwise_iff_getElem.1 hp i j (by omega) hj h
      simpa [leB] using this
    · subst h; exact Int.le_refl _
  obtain ⟨h1, h2⟩ := compact_step hs (l.mergeSort leB).length (Nat.le_refl _)
  refine ⟨h1, fun x => ?_⟩
  show x ∈ Lib.compactUpTo _ _ ↔ _
  rw [h2, ← (List.mergeSort_perm l leB).mem_iff, List.mem_iff_getElem]
  constructor
  · rintro ⟨j, hj, e⟩
    exact ⟨j, hj, by rw [← e, getElem!_pos _ j (by simpa using hj)]; rfl⟩
  · rintro ⟨j, hj, e⟩
    exact ⟨j, hj, by rw [getElem!_pos _ j (by simpa using hj)]; exact e⟩
set_option maxRecDepth 20000 in
theorem upL_eq {l l' : List Int} (h : Rise l) (hm : ∀ x, x ∈ l ↔ x ∈ l') : l = upL l' := rise_eq h (upL_spec l').1 fun x => by rw [hm, (upL_spec l').2]
end Go.Proofs.YtphdhcemachgdaaDoor

/-
  Plain mathematics of what comes next.
-/
namespace Go.Proofs.YtphdhcemachgdaaDoor
open Terms Tm

/-- what comes behind the first so many rules. -/
noncomputable def rawTo (vars : List Vr) (env : List Int) (rules : List Ru) (k : Nat) : List Int := (rules.take k).filterMap (ruleDo vars env)
set_option maxRecDepth 20000 in
theorem rawTo_some {vars : List Vr} {env : List Int} {rules : List Ru} {k : Nat} (hk : k < rules.length) {x : Int} (h : ruleDo vars env (rules.getD k ru0) = some x) : rawTo vars env rules (k + 1) = rawTo vars env rules k ++ [x] := by
  unfold rawTo
  rw [List.take_succ_eq_append_getElem hk, List.filterMap_append, show rules[k] = rules.getD k ru0 by simp [List.getD_eq_getElem?_getD, hk]]
  generalize rules.getD k ru0 = r at h
  simp [h]
set_option maxRecDepth 20000 in
theorem rawTo_none {vars : List Vr} {env : List Int} {rules : List Ru} {k : Nat} (hk : k < rules.length) (h : ruleDo vars env (rules.getD k ru0) = none) : rawTo vars env rules (k + 1) = rawTo vars env rules k := by
  unfold rawTo
  rw [List.take_succ_eq_append_getElem hk, List.filterMap_append, show rules[k] = rules.getD k ru0 by simp [List.getD_eq_getElem?_getD, hk]]
  generalize rules.getD k ru0 = r at h
  simp [h]
set_option maxRecDepth 20000 in
theorem rawTo_length (vars : List Vr) (env : List Int) (rules : List Ru) (k : Nat) : (rawTo vars env rules k).length ≤ k := by
  unfold rawTo
  exact Nat.le_trans (List.length_filterMap_le _ _) (by simp; omega)
/-- what comes behind all rules, or the state itself. -/
noncomputable def rawL (m : Mo) (code : Int) : List Int := if rawTo m.vars (valsL m.vars code) m.rules m.rules.length = [] then [code] else rawTo m.vars (valsL m.vars code) m.rules m.rules.length
/-- the next states. -/
noncomputable def nextL (m : Mo) (code : Int) : List Int := upL (rawL m code)
/-- what Next answers. -/
noncomputable def nxtL (m : Mo) (code : Int) : List Int := if wcode m code = 0 then nextL m code else []
set_option maxRecDepth 20000 in
theorem rawTo_mem {vars : List Vr} {env : List Int} {rules : List Ru} {k : Nat} (hk : k ≤ rules.length) (x : Int) : x ∈ rawTo vars env rules k ↔ ∃ j, j < k ∧ ruleDo vars env (rules.getD j ru0) = some x := by
  unfold rawTo
  rw [List.mem_filterMap]
  constructor
  · rintro ⟨r, hr, e⟩
    obtain ⟨j, hj, rfl⟩ := List.mem_iff_getElem.1 hr
    rw [List.length_take] at hj
    refine ⟨j, by omega, ?_⟩
    rw [List.getElem_take] at e
    rw [show rules.getD j ru0 = rules[j]'(by omega) by simp [List.getD_eq_getElem?_getD, show j < rules.length by omega]]
    exact e
  · rintro ⟨j, hj, e⟩
    refine ⟨rules.getD j ru0, ?_, e⟩
    rw [List.mem_iff_getElem]
    exact ⟨j, by rw [List.length_take]; omega, by rw [List.getElem_take]; simp [List.getD_eq_getElem?_getD, show j < rules.length by omega]⟩
set_option maxRecDepth 20000 in
/-- a state behind a rule is a state. -/
theorem ruleDo_state {vars : List Vr} {env : List Int} {r : Ru} {x : Int} (hv : VarsOk vars) (h : ruleDo vars env r = some x) : 0 ≤ x ∧ x < prodTo vars vars.length := by
  unfold ruleDo at h
  split at h
  · rename_i hc
    injection h with h
    subst h
    exact code_bounds hv (Nat.le_refl _) hc.2.2
  · cases h
set_option maxRecDepth 20000 in
theorem upL_length (l : List Int) : (upL l).length ≤ l.length := Nat.le_trans (Lib.compact_length_le _) (by simp)
set_option maxRecDepth 20000 in
theorem nxtL_length (m : Mo) (code : Int) : (nxtL m code).length ≤ 1 + m.rules.length := by
  unfold nxtL nextL
  split
  · refine Nat.le_trans (upL_length _) ?_
    unfold rawL
    split
    · simp
    · exact Nat.le_trans (rawTo_length _ _ _ _) (by omega)
  · simp
end Go.Proofs.YtphdhcemachgdaaDoor

/-
  The contracts of step.nextOf and step.Next.
-/
namespace Go.Proofs.YtphdhcemachgdaaDoor
open Go.ChangeShapes Go.WideShapes Go.ChangeAt Go.RowKit Go.Deep
open Terms Tm

/-- numbers in a row of one's own, in a slice that is not nil. -/
def OwnI (base : Nat) (w : World) (v : Value) (l : List Int) : Prop := w.ownsRow base 3 1 v l.length (ivals l) ∧ v ≠ .slice none 0 0
set_option maxRecDepth 20000 in
theorem OwnI.form {base : Nat} {w : World} {v : Value} {l : List Int} (h : OwnI base w v l) : ∃ g cap, v = .slice (some ⟨g, 0, none⟩) l.length cap ∧ base ≤ g ∧ g < w.heap.size := by
  rcases h.1.2 with ⟨e0, _⟩ | ⟨g, cap, cur, rfl, hb, hg, _⟩
  · exact absurd e0 h.2
  · exact ⟨g, cap, rfl, hb, (Array.getElem?_eq_some_iff.1 hg).1⟩

set_option maxHeartbeats 3200000 in
set_option maxRecDepth 20000 in
/-- THE CONTRACT OF nextOf. -/
theorem nextOf_own (va vr : Value) (m : Mo) (code : Int) (w : World) (hB : 0 < w.heap.size) (hT : TabAt w) (hV : ModelV w va vr m) (hm : mcode m = 0) :
    Calls Tryd.prog 23 #[.agg #[va, vr], .int .i64 code] w fun e w' => ∃ v, e = .returned (.tuple #[v, .int .i64 (wcode m code)]) ∧ Below w.heap.size w w' ∧ IntsV w' v (nxtL m code) ∧ w'.ownsRow w.heap.size 3 1 v (nxtL m code).length (ivals (nxtL m code)) := by
  have hA : ∀ o, Below w.heap.size w (w.alloc o) := fun o => (Below.refl _ _).alloc (Nat.le_refl _) o
  have hVb : ∀ w', Below w.heap.size w w' → ∀ ao cap, va = .slice ao m.vars.length cap → ModelV w' (.slice ao m.vars.length cap) (.slice none 0 0) ⟨m.vars, []⟩ := fun w' hb ao cap e => ⟨e ▸ hV.1.below hb, ⟨none, 0, rfl, ⟨by simp, fun _ => ⟨rfl, rfl⟩⟩, fun h => by simp at h⟩⟩
  obtain ⟨ao, cap, rfl⟩ := hV.1.shape
  obtain ⟨ro, rc, hro⟩ := hV.2.shape
  have hba := fun w => bare_any ao ro m.vars.length cap m.rules.length rc w
  by_cases hw : wcode m code = 0
  · have hvl : ∀ w', Below w.heap.size w w' → Calls Tryd.prog 13 #[.agg #[.slice ao m.vars.length cap, .slice none 0 0], .int .i64 code] w' fun e w2 => ∃ B, e = .returned (.tuple #[.slice (some ⟨B, 0, none⟩) (valsL m.vars code).length (valsL m.vars code).length, .int .i64 0]) ∧ w'.heap.size ≤ B ∧ Below w'.heap.size w' w2 ∧ w2.rowIs B 3 (valsL m.vars code).length (fun j => .int .i64 ((valsL m.vars code).getD j 0)) := fun w' hb =>
      svalues_any _ _ ⟨m.vars, []⟩ code w' (Nat.lt_of_lt_of_le hB hb.size) (hT.below hb hB) (hVb w' hb ao cap rfl) (by rw [wcode_bare _ hm]; exact hw)
    obtain ⟨hr12, hrs⟩ := mcode_rules hm
    have HDo : Hid (∀ w' (_ : Below w.heap.size w w') B k gv sv, k < m.rules.length → w'.rowIs B 3 (valsL m.vars code).length (fun j => .int .i64 ((valsL m.vars code).getD j 0)) → OpsV w' gv (m.rules.getD k ru0).guard → SetsV w' sv (m.rules.getD k ru0).sets → Calls Tryd.prog 29 #[.agg #[.slice ao m.vars.length cap, vr], .slice (some ⟨B, 0, none⟩) (valsL m.vars code).length (valsL m.vars code).length, .agg #[gv, sv]] w' fun e w2 => e = .returned (.tuple #[.int .i64 (optN (ruleDo m.vars (valsL m.vars code) (m.rules.getD k ru0))), .int .i64 (optC (ruleDo m.vars (valsL m.vars code) (m.rules.getD k ru0)))]) ∧ Below w'.heap.size w' w2) := fun w' hb B k gv sv hk hrow hg hs =>
      doRule_any _ vr gv sv B m (valsL m.vars code) (m.rules.getD k ru0) w' (Nat.lt_of_lt_of_le hB hb.size) (hT.below hb hB) (hV.below hb) hm (hrs k hk) (valsL_length _ _) hrow hg hs
    have HR : Hid (RulesV w vr m.rules) := hV.2
    have HNL : Hid (nxtL m code = upL (if rawTo m.vars (valsL m.vars code) m.rules m.rules.length = [] then [code] else rawTo m.vars (valsL m.vars code) m.rules m.rules.length)) := by show _ = _; unfold nxtL nextL rawL; rw [if_pos hw]
    rw [hw]
    generalize nxtL m code = res at *
    generalize valsL m.vars code = env at *
    subst hro
    obtain ⟨rn, hrn⟩ : ∃ rn, rn = m.rules.length := ⟨_, rfl⟩
    have HRN : Hid (rn = m.rules.length) := hrn
    rw [← hrn] at hba HDo HR HNL hr12 ⊢
    obtain ⟨i0, hi, hz0, hz1, hz2⟩ := info_parts infoInt
    clear hV hT hVb hw hm hrs hrn
    generalize m.vars.length = n at *
    go_enter Tryd.func23, Tryd.ntmps23
    go_wp2_with (first | (go_at_call 26; refine (hba _).mono ?_; rintro e w1 ⟨rfl, hb1⟩; have hbw1 := (hA _).trans (hb1.mono (hA _).size); have k10 : w1.cell? ⟨w.heap.size, 0, none⟩ = some (.slice ao n cap) := (hb1.cell (p := ⟨w.heap.size, 0, none⟩) (by simp)).trans (by simp [go_sem]); have k11 : w1.cell? ⟨w.heap.size, 1, none⟩ = some (.slice ro rn rc) := (hb1.cell (p := ⟨w.heap.size, 1, none⟩) (by simp)).trans (by simp [go_sem]); have hs1 : w.heap.size < w1.heap.size := (by have := hb1.size; simp at this; omega)) | (go_at_call 13; refine (hvl _ hbw1).mono ?_; rintro e w2 ⟨B, rfl, hBl, hb2, hr2⟩; have k20 := (hb2.cell (p := ⟨w.heap.size, 0, none⟩) hs1).trans k10; have k21 := (hb2.cell (p := ⟨w.heap.size, 1, none⟩) hs1).trans k11; have hs2 := Nat.lt_of_lt_of_le hs1 hb2.size; have kA1 : ∀ o, (w2.alloc o).cell? ⟨w.heap.size, 1, none⟩ = some (.slice ro rn rc) := fun o => (((Below.refl w2.heap.size w2).alloc (Nat.le_refl _) o).cell (p := ⟨w.heap.size, 1, none⟩) hs2).trans k21))
    have hbw2 := hbw1.trans (hb2.mono hbw1.size)
    have hA2 : ∀ o, Below w2.heap.size w2 (w2.alloc o) := fun o => (Below.refl _ _).alloc (Nat.le_refl _) o
    have HRow : Hid (w2.rowIs B 3 env.length (fun j => .int .i64 (env.getD j 0))) := hr2
    have HB2 : Hid (Below w.heap.size w w2) := hbw2
    have HK2 : Hid (∀ w', Below w2.heap.size w2 w' → w'.cell? ⟨w.heap.size, 0, none⟩ = some (.slice ao n cap) ∧ w'.cell? ⟨w.heap.size, 1, none⟩ = some (.slice ro rn rc)) := fun w' hb => ⟨(hb.cell (p := ⟨w.heap.size, 0, none⟩) hs2).trans k20, (hb.cell (p := ⟨w.heap.size, 1, none⟩) hs2).trans k21⟩
    have HO0 : Hid (OwnI w2.heap.size (w2.alloc (.cells #[] 3)) (.slice (some ⟨w2.heap.size, 0, none⟩) 0 0) (rawTo m.vars env m.rules 0)) := ⟨World.ownsRow_lit w2 #[] 0 (Nat.le_refl _) (by decide) rfl, by simp⟩
    clear hvl hba hb1 hbw1 k10 k11 hs1 hb2 hr2 k20 k21 kA1 hbw2
    go_loopw [8, 27] (fun nx i wr => ∃ k : Nat, k ≤ rn ∧ i = .int .i64 k ∧ Hid (OwnI w2.heap.size wr nx (rawTo m.vars env m.rules k)) ∧ Hid (Below w2.heap.size w2 wr)) (fun _ i _ => rn - (intOf i).toNat)
    case atStart => exact ⟨0, Nat.zero_le _, rfl, HO0.out, hA2 _⟩
    case round =>
      obtain ⟨k, hk, rfl, HOwn, HBel⟩ := hrel
      have hbel := HBel.out
      have hbw := HB2.out.trans (hbel.mono HB2.out.size)
      obtain ⟨kr0, kr1⟩ := HK2.out wr hbel
      obtain ⟨g, gc, rfl, hg, hgl⟩ := HOwn.out.form
      have hown := HOwn.out.1
      by_cases hlt : k < rn
      · obtain ⟨b, off, rfl, hblt, hat⟩ := HR.out.at (i := k) (by rw [← HRN.out]; exact hlt)
        obtain ⟨⟨u, c0, hou⟩, u', c1, hsu⟩ := hat.below hbw hblt
        obtain ⟨uo, uc, rfl⟩ := hou.shape
        obtain ⟨so, sc, rfl⟩ := hsu.shape
        have hAr : ∀ o, Below wr.heap.size wr (wr.alloc o) := fun o => (Below.refl _ _).alloc (Nat.le_refl _) o
        have hkA0 : ∀ o, (wr.alloc o).cell? ⟨w.heap.size, 0, none⟩ = some (.slice ao n cap) := fun o => (HK2.out _ (hbel.trans ((hAr o).mono hbel.size))).1
        have hkA1 : ∀ o, (wr.alloc o).cell? ⟨w.heap.size, 1, none⟩ = some (.slice (some ⟨b, off, none⟩) rn rc) := fun o => (HK2.out _ (hbel.trans ((hAr o).mono hbel.size))).2
        have hdo := fun o => HDo.out (wr.alloc o) (hbw.trans ((hAr o).mono hbw.size)) B k _ _ hlt (row_later (row_later HRow.out hbel) (hAr o)) (hou.below (hAr o)) (hsu.below (hAr o))
        have HRl : Hid ((rawTo m.vars env m.rules k).length ≤ k) := rawTo_length _ _ _ _
        have hk' : k < m.rules.length := by rw [← HRN.out]; exact hlt
        generalize (m.rules.getD k ru0).guard.length = gl at *
        generalize (m.rules.getD k ru0).sets.length = sl at *
        obtain ⟨L, hL⟩ : ∃ L, L = (rawTo m.vars env m.rules k).length := ⟨_, rfl⟩
        have HL : Hid (L = (rawTo m.vars env m.rules k).length) := hL
        rw [← hL] at hown HRl ⊢
        cases hres : ruleDo m.vars env (m.rules.getD k ru0) with
        | none =>
          rw [hres] at hdo
          simp only [optN, optC] at hdo
          have HN : Hid (rawTo m.vars env m.rules (k + 1) = rawTo m.vars env m.rules k) := rawTo_none hk' hres
          have HW4 : Hid (∀ o w4, Below (wr.alloc o).heap.size (wr.alloc o) w4 → Below w2.heap.size w2 w4 ∧ OwnI w2.heap.size w4 (.slice (some ⟨g, 0, none⟩) L gc) (rawTo m.vars env m.rules k)) := fun o w4 hb => ⟨(hbel.alloc hbel.size o).trans (hb.mono (hbel.alloc hbel.size o).size), by
            refine ⟨?_, by simp⟩
            rw [← HL.out]
            exact owns_later (owns_later hown (hAr o) (Nat.le_refl _)) hb (Nat.le_refl _)⟩
          clear hat hou hsu HDo HR hres hk' hown hL
          go_wp2_with (go_at_call 29; refine (hdo _).mono ?_; rintro e w4 ⟨rfl, hb4⟩; obtain ⟨hb24, ho4⟩ := HW4.out _ w4 hb4)
          exact ⟨⟨k + 1, hlt, by first | rfl | simp, by rw [HN.out]; exact ho4, hb24⟩, by simp [intOf]; omega⟩
        | some x =>
          rw [hres] at hdo
          simp only [optN, optC] at hdo
          have HN : Hid (rawTo m.vars env m.rules (k + 1) = rawTo m.vars env m.rules k ++ [x]) := rawTo_some hk' hres
          have h63 : L + 1 ≤ maxLen := by have := HRl.out; unfold maxLen; omega
          have hkb : (L + 1) * 8 ≤ 140737488355328 := by have := HRl.out; omega
          clear hat hou hsu HDo HR hres hk' hL
          go_wp2_with (first | (go_at_call 29; refine (hdo _).mono ?_; rintro e w4 ⟨rfl, hb4⟩; have hb24 := (hbel.alloc hbel.size _).trans (hb4.mono (hbel.alloc hbel.size _).size); have hown4 := fun o => (owns_later (owns_later hown (hAr _) (Nat.le_refl _)) hb4 (Nat.le_refl _)).alloc o; have hbase : ∀ o, w2.heap.size ≤ (w4.alloc o).heap.size := (fun o => by have := hb24.size; simp; omega)) | (at_builtin; refine wpList_append_lies _ rfl (.tmp 40) (.tmp 42) 48 rfl w2.heap.size 3 i0 (.int .i64 0) 1 8 Tryd.underlying48 hi hz0 hz1 hz2 rfl (by decide) (.slice (some ⟨g, 0, none⟩) L gc) L _ rfl (hown4 _) ⟨w4.heap.size, 0, none⟩ 1 1 [.int .i64 x] rfl rfl (cell_one_new _ _ _) (by intro u hu; simp at hu; subst hu; rfl) (by decide) h63 hkb (hbase _) _ rfl ?_; intro g5 cp5 w5 hown5 hgrow5 hat5 hgl5))
          have hb25 : Below w2.heap.size w2 w5 := (hb24.alloc hb24.size _).grown hgrow5 (hbase _) (fun z hz => by have hgz : g = z := (by simpa [Value.ownBlock] using hz); rw [← hgz]; exact hg)
          have ho5 : OwnI w2.heap.size w5 (.slice (some ⟨g5, 0, none⟩) (L + 1) cp5) (rawTo m.vars env m.rules (k + 1)) := by
            refine ⟨?_, by simp⟩
            rw [HN.out, List.length_append, ← HL.out]
            rw [show ivals (rawTo m.vars env m.rules k ++ [x]) = ivals (rawTo m.vars env m.rules k) ++ [.int .i64 x] by simp [ivals]]
            exact hown5
          exact ⟨⟨k + 1, hlt, by first | rfl | simp, ho5, hb25⟩, by simp [intOf]; omega⟩
      · have hkn : k = rn := by omega
        subst hkn
        have HRl : Hid ((rawTo m.vars env m.rules k).length ≤ k) := rawTo_length _ _ _ _
        generalize rawTo m.vars env m.rules k = raw at *
        clear HDo HR HOwn kr0 kr1 hlt hk
        by_cases hraw : raw = []
        · have HRes : Hid (res = upL [code]) := by show _ = _; rw [HNL.out, if_pos hraw]
          subst hraw
          have hown0 : wr.ownsRow w2.heap.size 3 1 (.slice (some ⟨g, 0, none⟩) 0 gc) 0 [] := hown
          have hown4 := fun o => hown0.alloc o
          have hbase : ∀ o, w2.heap.size ≤ (wr.alloc o).heap.size := fun o => by have := hbel.size; simp; omega
          have hAr : ∀ o, Below wr.heap.size wr (wr.alloc o) := fun o => (Below.refl _ _).alloc (Nat.le_refl _) o
          clear hown HNL HRl
          simp only [List.length_nil]
          have hso := fun (w5 : World) g5 cp5 (ho : w5.ownsRow w2.heap.size 3 1 (.slice (some ⟨g5, 0, none⟩) 1 cp5) 1 (ivals [code])) => sort_own g5 cp5 w2.heap.size [code] w5 (by simp) ho
          have hms : [code].mergeSort leB = [code] := List.mergeSort_singleton _
          have HUp : Hid (Lib.compact [code] = upL [code]) := by show _ = Lib.compact _; rw [hms]
          rw [hms] at hso
          simp only [List.length_cons, List.length_nil, Nat.zero_add] at hso
          have hco := fun (w5 : World) g5 cp5 (ho : w5.ownsRow w2.heap.size 3 1 (.slice (some ⟨g5, 0, none⟩) 1 cp5) 1 (ivals [code])) => compact_own g5 cp5 w2.heap.size [code] w5 (by simp) ho
          simp only [List.length_cons, List.length_nil, Nat.zero_add] at hco
          rw [HUp.out] at hco
          go_wp2_with (first | (at_builtin; refine wpList_append_lies _ rfl (.tmp 48) (.tmp 50) 48 rfl w2.heap.size 3 i0 (.int .i64 0) 1 8 Tryd.underlying48 hi hz0 hz1 hz2 rfl (by decide) (.slice (some ⟨g, 0, none⟩) 0 gc) 0 _ rfl (hown4 _) ⟨wr.heap.size, 0, none⟩ 1 1 [.int .i64 code] rfl rfl (cell_one_new _ _ _) (by intro u hu; simp at hu; subst hu; rfl) (by decide) (by decide) (by decide) (hbase _) _ rfl ?_; intro g5 cp5 w5 hown5 hgrow5 hat5 hgl5; have hg5 : w2.heap.size ≤ g5 := (by rcases hat5 with h5 | h5; (have hgz : g = g5 := (by simpa [Value.ownBlock] using h5)); (rw [← hgz]; exact hg); (rw [h5]; exact hbase _))) | (go_at_call 35; refine (hso _ _ _ hown5).mono ?_; rintro e w6 ⟨rfl, hgr6, ho6⟩) | (go_at_call 36; refine (hco _ _ _ ho6).mono ?_; rintro e w7 ⟨rfl, hgr7, ho7⟩))
          have hb5 : Below w2.heap.size w2 w5 := (hbel.alloc hbel.size _).grown hgrow5 (hbase _) (fun z hz => by have hgz : g = z := (by simpa [Value.ownBlock] using hz); rw [← hgz]; exact hg)
          have hb7 : Below w2.heap.size w2 w7 := (hb5.grown hgr6 hb5.size (fun z hz => by rw [← Option.some.inj hz]; exact hg5)).grown hgr7 (Nat.le_trans hb5.size hgr6.size) (fun z hz => by rw [← Option.some.inj hz]; exact hg5)
          have hI7 : IntsV w7 (.slice (some ⟨g5, 0, none⟩) (upL [code]).length cp5) (upL [code]) := intsV_of_owns ho7
          go_ret2
          exact ⟨_, rfl, HB2.out.trans (hb7.mono HB2.out.size), by rw [HRes.out]; exact ⟨hI7, owns_mono ho7 HB2.out.size⟩⟩
        · have HRes : Hid (res = upL raw) := by show _ = _; rw [HNL.out, if_neg hraw]
          have hpos : 0 < raw.length := List.length_pos_iff.2 hraw
          have hso := sort_own g gc w2.heap.size raw wr (by have := HRl.out; omega) hown
          obtain ⟨L, hL⟩ : ∃ L, L = raw.length := ⟨_, rfl⟩
          have HL : Hid (L = raw.length) := hL
          have HLs : Hid ((raw.mergeSort leB).length = L) := by show _ = _; rw [List.length_mergeSort, hL]
          have hL12 : L ≤ 12 := by have := HRl.out; omega
          rw [← hL] at hso hpos ⊢
          clear hown HNL HRl hraw hL
          have HCo : Hid (∀ w5 : World, w5.ownsRow w2.heap.size 3 1 (.slice (some ⟨g, 0, none⟩) L gc) L (ivals (raw.mergeSort leB)) → Calls Tryd.prog 36 #[.slice (some ⟨g, 0, none⟩) L gc] w5 fun e w' => e = .returned (.slice (some ⟨g, 0, none⟩) (upL raw).length gc) ∧ w5.grownBy w' (some g) ∧ w'.ownsRow w2.heap.size 3 1 (.slice (some ⟨g, 0, none⟩) (upL raw).length gc) (upL raw).length (ivals (upL raw))) := fun w5 ho => by
            rw [← HLs.out] at ho ⊢
            exact compact_own g gc w2.heap.size (raw.mergeSort leB) w5 (by rw [HLs.out]; omega) ho
          go_wp2_with (first | (go_at_call 35; refine hso.mono ?_; rintro e w6 ⟨rfl, hgr6, ho6⟩; have hco := HCo.out w6 ho6) | (go_at_call 36; refine hco.mono ?_; rintro e w7 ⟨rfl, hgr7, ho7⟩))
          have hb7 : Below w2.heap.size w2 w7 := (hbel.grown hgr6 hbel.size (fun z hz => by rw [← Option.some.inj hz]; exact hg)).grown hgr7 (Nat.le_trans hbel.size hgr6.size) (fun z hz => by rw [← Option.some.inj hz]; exact hg)
          have hI7 : IntsV w7 (.slice (some ⟨g, 0, none⟩) (upL raw).length gc) (upL raw) := intsV_of_owns ho7
          go_ret2
          exact ⟨_, rfl, HB2.out.trans (hb7.mono HB2.out.size), by rw [HRes.out]; exact ⟨hI7, owns_mono ho7 HB2.out.size⟩⟩
  · have hvl := fun w' (hb : Below w.heap.size w w') => mvalues_any _ _ ⟨m.vars, []⟩ code w' (Nat.lt_of_lt_of_le hB hb.size) (hT.below hb hB) (hVb w' hb ao cap rfl)
    rw [wcode_bare _ hm] at hvl
    have hnl : nxtL m code = [] := by unfold nxtL; rw [if_neg hw]
    rw [hnl]
    subst hro
    generalize wcode m code = c at *
    generalize wvals ⟨m.vars, []⟩ code = vs at *
    generalize m.vars.length = n at *
    generalize m.rules.length = rn at *
    clear hV hT hVb hnl hm
    go_enter Tryd.func23, Tryd.ntmps23
    go_wp2_with (first | (go_at_call 26; refine (hba _).mono ?_; rintro e w2 ⟨rfl, hb2⟩; have hbw2 := (hA _).trans (hb2.mono (hA _).size)) | (go_at_call 13; refine (hvl _ hbw2).mono ?_; rintro e w3 ⟨v, rfl, hb3, _⟩))
    go_ret2
    exact ⟨_, rfl, hbw2.trans (hb3.mono hbw2.size), ⟨none, 0, rfl, fun h => absurd rfl h⟩, World.ownsRow_nil _ _ _ _⟩

set_option maxRecDepth 20000 in
theorem nextOf_any (va vr : Value) (m : Mo) (code : Int) (w : World) (hB : 0 < w.heap.size) (hT : TabAt w) (hV : ModelV w va vr m) (hm : mcode m = 0) :
    Calls Tryd.prog 23 #[.agg #[va, vr], .int .i64 code] w fun e w' => ∃ v, e = .returned (.tuple #[v, .int .i64 (wcode m code)]) ∧ Below w.heap.size w w' ∧ IntsV w' v (nxtL m code) :=
  (nextOf_own va vr m code w hB hT hV hm).mono fun _ _ ⟨v, h1, h2, h3, _⟩ => ⟨v, h1, h2, h3⟩

set_option maxHeartbeats 1600000 in
set_option maxRecDepth 20000 in
/-- THE CONTRACT OF Next. -/
theorem next_any (va vr : Value) (m : Mo) (code : Int) (w : World) (hB : 0 < w.heap.size) (hT : TabAt w) (hV : ModelV w va vr m) :
    Calls Tryd.prog 12 #[.agg #[va, vr], .int .i64 code] w fun e w' => ∃ v, e = .returned (.tuple #[v, .int .i64 (wcode m code)]) ∧ Below w.heap.size w w' ∧ IntsV w' v (nxtL m code) := by
  have hA : ∀ o, Below w.heap.size w (w.alloc o) := fun o => (Below.refl _ _).alloc (Nat.le_refl _) o
  have hch := fun o => mcheck_any va vr m (w.alloc o) (Nat.lt_of_lt_of_le hB (hA o).size) (hT.below (hA o) hB) (hV.below (hA o))
  by_cases hm : mcode m = 0
  · have hne := fun w' (hb : Below w.heap.size w w') => nextOf_any va vr m code w' (Nat.lt_of_lt_of_le hB hb.size) (hT.below hb hB) (hV.below hb) hm
    rw [hm] at hch
    obtain ⟨ao, cap, rfl⟩ := hV.1.shape
    obtain ⟨ro, rc, rfl⟩ := hV.2.shape
    generalize wcode m code = c at *
    generalize nxtL m code = res at *
    generalize m.vars.length = n at *
    generalize m.rules.length = rn at *
    clear hV hT hm
    go_enter Tryd.func12, Tryd.ntmps12
    go_wp2_with (first | (go_at_call 10; refine (hch _).mono ?_; rintro e w1 ⟨rfl, hb1⟩; have hbw1 := (hA _).trans (hb1.mono (hA _).size); have k10 : w1.cell? ⟨w.heap.size, 0, none⟩ = some (.slice ao n cap) := (hb1.cell (p := ⟨w.heap.size, 0, none⟩) (by simp)).trans (by simp [go_sem]); have k11 : w1.cell? ⟨w.heap.size, 1, none⟩ = some (.slice ro rn rc) := (hb1.cell (p := ⟨w.heap.size, 1, none⟩) (by simp)).trans (by simp [go_sem])) | (go_at_call 23; refine (hne _ hbw1).mono ?_; rintro e w2 ⟨v, rfl, hb2, hI2⟩))
    go_ret2
    exact ⟨_, rfl, hbw1.trans (hb2.mono hbw1.size), hI2⟩
  · have hw : wcode m code = mcode m := wcode_bad hm
    have hnl : nxtL m code = [] := by unfold nxtL; rw [if_neg (by rw [hw]; exact hm)]
    rw [hw, hnl]
    obtain ⟨ao, cap, rfl⟩ := hV.1.shape
    obtain ⟨ro, rc, rfl⟩ := hV.2.shape
    generalize mcode m = c at *
    generalize m.vars.length = n at *
    generalize m.rules.length = rn at *
    clear hV hT hw hnl
    go_enter Tryd.func12, Tryd.ntmps12
    go_wp2_with (go_at_call 10; refine (hch _).mono ?_; rintro e w1 ⟨rfl, hb1⟩)
    go_ret2
    exact ⟨_, rfl, (hA _).trans (hb1.mono (hA _).size), none, 0, rfl, fun h => absurd rfl h⟩
end Go.Proofs.YtphdhcemachgdaaDoor

/-
  What the program answers of the next states of a model that the keeping laws make.
-/
namespace Go.Proofs.YtphdhcemachgdaaDoor
open Go.ChangeShapes Go.WideShapes Go.ChangeAt Go.RowKit Go.Deep
open Terms Tm

/-- a list of next states. -/
structure UpTo (l : List Int) (N : Int) (rn : Nat) : Prop where
  rise : Rise l
  inN : ∀ x ∈ l, 0 ≤ x ∧ x < N
  some : 0 < l.length
  few : l.length ≤ max rn 1
set_option maxRecDepth 20000 in
theorem UpTo.at {l : List Int} {N : Int} {rn : Nat} (h : UpTo l N rn) {i : Nat} (hi : i < l.length) : 0 ≤ l.getD i 0 ∧ l.getD i 0 < N := by
  rw [show l.getD i 0 = l[i] by simp [List.getD_eq_getElem?_getD, hi]]
  exact h.inN _ (List.getElem_mem hi)
set_option maxRecDepth 20000 in
theorem UpTo.up {l : List Int} {N : Int} {rn : Nat} (h : UpTo l N rn) {i : Nat} (hi : i + 1 < l.length) : l.getD i 0 < l.getD (i + 1) 0 := by
  rw [show l.getD i 0 = l[i] by simp [List.getD_eq_getElem?_getD, show i < l.length by omega], show l.getD (i + 1) 0 = l[i + 1] by simp [List.getD_eq_getElem?_getD, hi]]
  exact List.pairwise_iff_getElem.1 h.rise i (i + 1) (by omega) hi (by omega)
set_option maxRecDepth 20000 in
theorem rawL_facts {a b : Vr} (hG : GV a b) {rules : List Ru} {c : Int} (hc : 0 ≤ c ∧ c < vspan a * vspan b) : (∀ x ∈ rawL ⟨[a, b], rules⟩ c, 0 ≤ x ∧ x < vspan a * vspan b) ∧ 0 < (rawL ⟨[a, b], rules⟩ c).length ∧ (rawL ⟨[a, b], rules⟩ c).length ≤ max rules.length 1 := by
  have hv := varsOk_of hG.vcode
  have hp := prod_two a b
  unfold rawL
  split
  · exact ⟨fun x hx => by simp at hx; subst hx; exact hc, by simp, by simp; omega⟩
  · rename_i h
    refine ⟨fun x hx => ?_, List.length_pos_iff.2 h, ?_⟩
    · obtain ⟨j, _, e⟩ := (rawTo_mem (Nat.le_refl _) x).1 hx
      have := ruleDo_state hv e
      rw [← hp]; exact this
    · have := rawTo_length [a, b] (valsL [a, b] c) rules rules.length
      show (rawTo [a, b] (valsL [a, b] c) rules rules.length).length ≤ _
      omega
set_option maxRecDepth 20000 in
theorem upL_pos {l : List Int} (h : 0 < l.length) : 0 < (upL l).length := by
  obtain ⟨x, hx⟩ := List.exists_mem_of_length_pos h
  exact List.length_pos_of_mem (((upL_spec l).2 x).2 hx)
set_option maxRecDepth 20000 in
theorem nextL_up {a b : Vr} (hG : GV a b) {rules : List Ru} {c : Int} (hc : 0 ≤ c ∧ c < vspan a * vspan b) : UpTo (nextL ⟨[a, b], rules⟩ c) (vspan a * vspan b) rules.length := by
  obtain ⟨h1, h2, h3⟩ := rawL_facts hG (rules := rules) hc
  refine ⟨(upL_spec _).1, fun x hx => h1 x (((upL_spec _).2 x).1 hx), upL_pos h2, Nat.le_trans (upL_length _) h3⟩
set_option maxRecDepth 20000 in
theorem gwcode {a b : Vr} (hG : GV a b) {rules : List Ru} (h5 : rules.length ≤ 12) (hr : ∀ j, j < rules.length → rcode 2 (rules.getD j ru0) = 0) {c : Int} (hc : 0 ≤ c ∧ c < vspan a * vspan b) : wcode ⟨[a, b], rules⟩ c = 0 :=
  wcode_yes (hG.mcode h5 hr) ⟨hc.1, by show c < prodTo [a, b] 2; rw [prod_two]; exact hc.2⟩
set_option maxRecDepth 20000 in
/-- step.Next of such a model. -/
theorem knext {a b : Vr} {va : Value} {ro : Option Addr} {rn rc : Nat} {w : World} (hG : GV a b) {c : Int} (hc : 0 ≤ c ∧ c < vspan a * vspan b) (hB : 0 < w.heap.size) (hT : TabAt w) (hM : GModel w va (.slice ro rn rc) [a, b]) :
    Calls Tryd.prog 12 #[.agg #[va, .slice ro rn rc], .int .i64 c] w fun e w' => ∃ v l, e = .returned (.tuple #[v, .int .i64 0]) ∧ Below w.heap.size w w' ∧ IntsV w' v l ∧ UpTo l (vspan a * vspan b) rn := by
  obtain ⟨rules, h1, h2, h3⟩ := hM
  have hrn : rn = rules.length := by
    obtain ⟨ao, cap, e, _⟩ := h1.2
    injection e
  have hw := gwcode hG (by omega) h3 hc
  have h := next_any va _ ⟨[a, b], rules⟩ c w hB hT h1
  rw [hw, show nxtL ⟨[a, b], rules⟩ c = nextL ⟨[a, b], rules⟩ c by unfold nxtL; rw [if_pos hw]] at h
  exact h.mono fun e w' ⟨v, he, hb, hi⟩ => ⟨v, _, he, hb, hi, by rw [hrn]; exact nextL_up hG hc⟩
end Go.Proofs.YtphdhcemachgdaaDoor

/-
  A model whose rules are those of another, in another order and some of them twice: how it lies, and that its next states are the same.
-/
namespace Go.Proofs.YtphdhcemachgdaaDoor
open Go.ChangeShapes Go.WideShapes Go.ChangeAt Go.RowKit Go.Deep
open Terms Tm

/-- the rules of some places. -/
def rulesAt (rules : List Ru) (is : List Nat) : List Ru := is.map fun i => rules.getD i ru0
theorem rulesAt_getD {rules : List Ru} {is : List Nat} {j : Nat} (hj : j < is.length) : (rulesAt rules is).getD j ru0 = rules.getD (is.getD j 0) ru0 := by
  simp [rulesAt, List.getD_eq_getElem?_getD, List.getElem?_map, List.getElem?_eq_getElem hj]
theorem rulesAt_length (rules : List Ru) (is : List Nat) : (rulesAt rules is).length = is.length := by simp [rulesAt]
/-- the same members, the same next states. -/
theorem next_same {vars : List Vr} {rules : List Ru} {is : List Nat} {c : Int} (h1 : ∀ i ∈ is, i < rules.length) (h2 : ∀ i, i < rules.length → i ∈ is) : nextL ⟨vars, rulesAt rules is⟩ c = nextL ⟨vars, rules⟩ c := by
  have hm : ∀ x, x ∈ rawTo vars (valsL vars c) (rulesAt rules is) (rulesAt rules is).length ↔ x ∈ rawTo vars (valsL vars c) rules rules.length := fun x => by
    rw [rawTo_mem (Nat.le_refl _), rawTo_mem (Nat.le_refl _)]
    constructor
    · rintro ⟨j, hj, e⟩
      rw [rulesAt_length] at hj
      rw [rulesAt_getD hj] at e
      refine ⟨is.getD j 0, h1 _ ?_, e⟩
      rw [List.getD_eq_getElem?_getD, List.getElem?_eq_getElem hj]
      exact List.getElem_mem hj
    · rintro ⟨i, hi, e⟩
      obtain ⟨j, hj, hij⟩ := List.getElem_of_mem (h2 i hi)
      refine ⟨j, by rw [rulesAt_length]; exact hj, ?_⟩
      rw [rulesAt_getD hj, List.getD_eq_getElem?_getD (l := is), List.getElem?_eq_getElem hj]
      show ruleDo vars (valsL vars c) (rules.getD is[j] ru0) = some x
      rw [hij]; exact e
  have hn : rawTo vars (valsL vars c) (rulesAt rules is) (rulesAt rules is).length = [] ↔ rawTo vars (valsL vars c) rules rules.length = [] := by
    rw [List.eq_nil_iff_forall_not_mem, List.eq_nil_iff_forall_not_mem]
    exact ⟨fun h x hx => h x ((hm x).2 hx), fun h x hx => h x ((hm x).1 hx)⟩
  unfold nextL
  refine upL_eq (upL_spec _).1 fun x => ?_
  rw [(upL_spec _).2]
  unfold rawL
  show (x ∈ if rawTo vars (valsL vars c) (rulesAt rules is) (rulesAt rules is).length = [] then [c] else rawTo vars (valsL vars c) (rulesAt rules is) (rulesAt rules is).length) ↔ (x ∈ if rawTo vars (valsL vars c) rules rules.length = [] then [c] else rawTo vars (valsL vars c) rules rules.length)
  by_cases hz : rawTo vars (valsL vars c) rules rules.length = []
  · rw [if_pos hz, if_pos (hn.2 hz)]
  · rw [if_neg hz, if_neg (fun h => hz (hn.1 h))]; exact hm x
/-- the cells of a model's rules. -/
structure RuC (W : World) (rb roff : Nat) (rules : List Ru) (gv sv : Nat → Value) : Prop where
  lt : 0 < rules.length → rb < W.heap.size
  g : ∀ i, i < rules.length → W.cell? ⟨rb, roff + i * 2, none⟩ = some (gv i) ∧ OpsV W (gv i) (rules.getD i ru0).guard
  s : ∀ i, i < rules.length → W.cell? ⟨rb, roff + i * 2 + 1, none⟩ = some (sv i) ∧ SetsV W (sv i) (rules.getD i ru0).sets
theorem rulesV_cells {W : World} {ro : Option Addr} {rn rc : Nat} {rules : List Ru} (h : RulesV W (.slice ro rn rc) rules) (hp : 0 < rules.length) : ∃ rb roff gv sv, ro = some ⟨rb, roff, none⟩ ∧ RuC W rb roff rules gv sv := by
  obtain ⟨ao, cap, e, _, h2⟩ := h
  obtain ⟨rb, roff, e2, hb, hc⟩ := h2 hp
  injection e with e3 _ _
  refine ⟨rb, roff, fun i => (W.cell? ⟨rb, roff + i * 2, none⟩).getD .nilIface, fun i => (W.cell? ⟨rb, roff + i * 2 + 1, none⟩).getD .nilIface, e3.trans e2, fun _ => hb, fun i hi => ?_, fun i hi => ?_⟩
  · obtain ⟨⟨u, h3, h4⟩, _⟩ := hc i hi
    rw [h3]; exact ⟨rfl, h4⟩
  · obtain ⟨_, u, h3, h4⟩ := hc i hi
    rw [h3]; exact ⟨rfl, h4⟩
def ruCells (gv sv : Nat → Value) (is : List Nat) : List Value := is.flatMap fun i => [gv i, sv i]
theorem ruCells_at (gv sv : Nat → Value) : ∀ (is : List Nat) (j : Nat), j < is.length → (ruCells gv sv is)[j * 2]? = some (gv (is.getD j 0)) ∧ (ruCells gv sv is)[j * 2 + 1]? = some (sv (is.getD j 0))
  | [], j, h => by simp at h
  | i :: is, 0, _ => ⟨rfl, rfl⟩
  | i :: is, j + 1, h => by
    have := ruCells_at gv sv is j (by simpa using h)
    rw [show (j + 1) * 2 = j * 2 + 1 + 1 by omega]
    exact this
/-- THE OTHER MODEL UNDER WAY: its box, and its rules. -/
structure XAt (W wr : World) (X : Nat) (va : Value) (gv sv : Nat → Value) (is : List Nat) (xv : Value) : Prop where
  c0 : wr.cell? ⟨X, 0, none⟩ = some va
  c1 : wr.cell? ⟨X, 1, none⟩ = some xv
  f1 : wr.frozen? ⟨X, 1, none⟩ = false
  row : wr.ownsRow (X + 1) 42 2 xv is.length (ruCells gv sv is)
  below : Below W.heap.size W wr
  lo : W.heap.size ≤ X
  size : X < wr.heap.size
theorem XAt.start {W w4 : World} {va u0 : Value} {t : TypeId} {gv sv : Nat → Value} (hb : Below W.heap.size W w4) : XAt W ((w4.alloc (.cells #[u0, .slice none 0 0] t)).setCell ⟨w4.heap.size, 0, none⟩ va) w4.heap.size va gv sv [] (.slice none 0 0) := by
  refine ⟨by simp [go_sem], by simp [go_sem], by simp [go_sem], World.ownsRow_nil _ _ _ _, ((hb.alloc hb.size _).setCell (by have := hb.size; exact this) _), hb.size, by simp⟩
theorem XAt.step {W wr w2 : World} {X : Nat} {va xv xv' : Value} {gv sv : Nat → Value} {is : List Nat} {o : Obj} {i : Nat} (h : XAt W wr X va gv sv is xv) (hg : (wr.alloc o).grownBy w2 xv.ownBlock) (ho : w2.ownsRow (X + 1) 42 2 xv' (is.length + 1) (ruCells gv sv is ++ [gv i, sv i])) : XAt W (w2.setCell ⟨X, 1, none⟩ xv') X va gv sv (is ++ [i]) xv' := by
  have hlo := h.lo
  have hsz := h.size
  have hb : Below (X + 1) wr w2 := ((Below.refl _ _).alloc (by omega) o).grown hg (by simp; omega) (fun k hk => (h.row.lt k hk).1)
  have c0 : w2.cell? ⟨X, 0, none⟩ = some va := (hb.cell (p := ⟨X, 0, none⟩) (Nat.lt_succ_self _)).trans h.c0
  have c1 : w2.cell? ⟨X, 1, none⟩ = some xv := (hb.cell (p := ⟨X, 1, none⟩) (Nat.lt_succ_self _)).trans h.c1
  have f1 : w2.frozen? ⟨X, 1, none⟩ = false := (hb.frozen (p := ⟨X, 1, none⟩) (Nat.lt_succ_self _)).trans h.f1
  refine ⟨by simp [go_sem, c0], by simp [go_sem, c1], by simp [go_sem, f1], ?_, (h.below.trans (hb.mono (by omega))).setCell (by show W.heap.size ≤ X; exact hlo) _, hlo, by have := hb.size; simp; omega⟩
  have : ruCells gv sv (is ++ [i]) = ruCells gv sv is ++ [gv i, sv i] := by simp [ruCells]
  rw [this, List.length_append]
  exact ownsRow_setCell_below ho (Nat.lt_succ_self _) _
theorem XAt.keep {W wr w' : World} {X : Nat} {va xv : Value} {gv sv : Nat → Value} {is : List Nat} (h : XAt W wr X va gv sv is xv) (hb : Below wr.heap.size wr w') : XAt W w' X va gv sv is xv :=
  ⟨(hb.cell (p := ⟨X, 0, none⟩) h.size).trans h.c0, (hb.cell (p := ⟨X, 1, none⟩) h.size).trans h.c1, (hb.frozen (p := ⟨X, 1, none⟩) h.size).trans h.f1, owns_later h.row hb (Nat.le_refl _), h.below.trans (hb.mono h.below.size), h.lo, Nat.lt_of_lt_of_le h.size hb.size⟩
theorem XAt.rules {W wr : World} {X rb roff : Nat} {va xv : Value} {gv sv : Nat → Value} {is : List Nat} {rules : List Ru} (h : XAt W wr X va gv sv is xv) (hr : RuC W rb roff rules gv sv) (hi : ∀ i ∈ is, i < rules.length) : RulesV wr xv (rulesAt rules is) := by
  rcases h.row.2 with ⟨hv, h0⟩ | ⟨gb, cap, cur, hv, hbs, hg, hc1, hc2, hc3, htk⟩
  · subst hv
    have : is = [] := List.length_eq_zero_iff.1 h0
    subst this
    exact ⟨none, 0, rfl, ⟨by simp [rulesAt], fun _ => ⟨rfl, rfl⟩⟩, fun h => by simp [rulesAt] at h⟩
  · have hrow := h.row
    subst hv
    refine ⟨_, cap, by rw [rulesAt_length], ⟨by rw [rulesAt_length]; exact hc1, fun e => by cases e⟩, fun _ => ⟨gb, 0, rfl, ?_, fun j hj => ?_⟩⟩
    · rcases Nat.lt_or_ge gb wr.heap.size with hlt | hge
      · exact hlt
      · rw [Array.getElem?_eq_none hge] at hg; cases hg
    · rw [rulesAt_length] at hj
      rw [rulesAt_getD hj]
      have hm : is.getD j 0 < rules.length := hi _ (by rw [List.getD_eq_getElem?_getD, List.getElem?_eq_getElem hj]; exact List.getElem_mem hj)
      obtain ⟨e1, e2⟩ := ruCells_at gv sv is j hj
      refine ⟨⟨gv (is.getD j 0), ?_, (hr.g _ hm).2.below h.below⟩, sv (is.getD j 0), ?_, (hr.s _ hm).2.below h.below⟩
      · rw [Nat.zero_add, hrow.cellAt (j * 2) (by omega)]; exact e1
      · rw [Nat.zero_add, hrow.cellAt (j * 2 + 1) (by omega)]; exact e2
/-- step.Next of the other model answers the same. -/
theorem knext_two {a b : Vr} {va xv : Value} {w : World} {rules : List Ru} (hG : GV a b) {c : Int} (hc : 0 ≤ c ∧ c < vspan a * vspan b) (hB : 0 < w.heap.size) (hT : TabAt w) {is : List Nat} (h5 : is.length ≤ 12) (hr : ∀ j, j < rules.length → rcode 2 (rules.getD j ru0) = 0) (h1 : ∀ i ∈ is, i < rules.length) (h2 : ∀ i, i < rules.length → i ∈ is) (hV : VarsV w va [a, b]) (hR : RulesV w xv (rulesAt rules is)) :
    Calls Tryd.prog 12 #[.agg #[va, xv], .int .i64 c] w fun e w' => ∃ v, e = .returned (.tuple #[v, .int .i64 0]) ∧ Below w.heap.size w w' ∧ IntsV w' v (nextL ⟨[a, b], rules⟩ c) := by
  have hr' : ∀ j, j < (rulesAt rules is).length → rcode 2 ((rulesAt rules is).getD j ru0) = 0 := fun j hj => by
    rw [rulesAt_length] at hj
    rw [rulesAt_getD hj]
    exact hr _ (h1 _ (by rw [List.getD_eq_getElem?_getD, List.getElem?_eq_getElem hj]; exact List.getElem_mem hj))
  have hw := gwcode hG (by rw [rulesAt_length]; exact h5) hr' hc
  have h := next_any va xv ⟨[a, b], rulesAt rules is⟩ c w hB hT ⟨hV, hR⟩
  rw [hw, show nxtL ⟨[a, b], rulesAt rules is⟩ c = nextL ⟨[a, b], rules⟩ c by unfold nxtL; rw [if_pos hw]; exact next_same h1 h2] at h
  exact h
end Go.Proofs.YtphdhcemachgdaaDoor

namespace Go.Proofs.YtphdhcemachgdaaDoor
open Go.ChangeShapes Go.WideShapes Go.ChangeAt Go.RowKit Go.Deep
open Terms Tm

/-- the places from the last down, so many. -/
def downTo (n : Nat) : Nat → List Nat
  | 0 => []
  | j + 1 => downTo n j ++ [n - 1 - j]
theorem downTo_length (n : Nat) : ∀ j, (downTo n j).length = j
  | 0 => rfl
  | j + 1 => by rw [downTo, List.length_append, downTo_length n j]; rfl
theorem downTo_mem {n : Nat} : ∀ {j : Nat}, j ≤ n → ∀ i, i ∈ downTo n j ↔ n - j ≤ i ∧ i < n
  | 0, _, i => by simp [downTo]
  | j + 1, h, i => by
    rw [downTo, List.mem_append, downTo_mem (by omega) i, List.mem_singleton]
    omega
theorem two_newD (w : World) (x y : Value) (t : TypeId) : ∀ j u, [x, y][j]? = some u → (w.alloc (.cells #[x, y] t)).drew.cell? ((⟨w.heap.size, 0, none⟩ : Addr).add j) = some u := two_new w x y t
theorem grown_undrew {w w' : World} {row : Option Nat} (h : w.drew.grownBy w' row) : w.grownBy w' row := ⟨h.os, h.tape, h.output, h.size, h.block⟩

theorem XAt.start2 {W w4 : World} {va : Value} {t : TypeId} {gv sv : Nat → Value} (hb : Below W.heap.size W w4) : XAt W (w4.alloc (.cells #[va, .slice none 0 0] t)) w4.heap.size va gv sv [] (.slice none 0 0) := by
  refine ⟨by simp [go_sem], by simp [go_sem], by simp [go_sem], World.ownsRow_nil _ _ _ _, hb.alloc hb.size _, hb.size, by simp⟩

set_option maxHeartbeats 12800000 in
set_option maxRecDepth 20000 in
theorem stepTwice_walk (c0 c1 c2 c3 c4 c5 c6 : Value) (a b : Vr) (code wh : Int) (w : World) (hB : 0 < w.heap.size) (hT : TabAt w) (hG : GV a b) (hc : I64 code) (hwh : I64 wh)
    (hmd : ∀ w', Below w.heap.size w w' → Calls Tryd.prog 7 #[.agg #[c0, c1, c2, c3, c4, c5, c6]] w' fun e w2 => ∃ va vr, e = .returned (.agg #[va, vr]) ∧ Below w'.heap.size w' w2 ∧ GModel w2 va vr [a, b]) :
    Calls Tryd.prog 4 #[.agg #[c0, c1, c2, c3, c4, c5, c6], .int .i64 code, .int .i64 wh] w fun e w' => e = .returned (.bool true) ∧ Below w.heap.size w w' := by
  have HT : Hid (∀ w', Below w.heap.size w w' → 0 < w'.heap.size ∧ TabAt w') := fun w' hb => ⟨Nat.lt_of_lt_of_le hB hb.size, hT.below hb hB⟩
  have hA : ∀ o, Below w.heap.size w (w.alloc o) := fun o => (Below.refl _ _).alloc (Nat.le_refl _) o
  clear hB hT
  go_enter Tryd.func4, Tryd.ntmps4
  go_upto_region 2 with (go_at_call 7; refine (hmd _ (hA _)).mono ?_; rintro e w1 ⟨va, vr, rfl, hb1, hM⟩; obtain ⟨ao, cap, ro, rn, rc, rfl, rfl, hrn⟩ := hM.shape)
  obtain ⟨hbW, hk⟩ := kept (a := a) (b := b) (t := 29) HT.out ((hA _).trans (hb1.mono (hA _).size)) hM rfl
  generalize w1.alloc (.cells #[.slice ao 2 cap, .slice ro rn rc] 29) = W2 at hbW hk ⊢
  have HK : Hid (∀ w', Below W2.heap.size W2 w' → (0 < w'.heap.size ∧ TabAt w') ∧ w'.cell? ⟨w1.heap.size, 0, none⟩ = some (.slice ao 2 cap) ∧ w'.cell? ⟨w1.heap.size, 1, none⟩ = some (.slice ro rn rc)) := fun w' hb => ⟨⟨(hk w' hb).1.1, (hk w' hb).1.2.1⟩, (hk w' hb).2⟩
  have HBW : Hid (Below w.heap.size w W2) := hbW
  obtain ⟨⟨z0, z1, z2⟩, z3, z4⟩ := hk W2 (Below.refl _ _)
  have hcn := kcount hG z0 z1 z2
  have hP := hG.prod
  have hpk := fun w => picked_is code (vspan a * vspan b) w hc (by omega) (by omega)
  have hpr := pk_range (n := code) (m := vspan a * vspan b) (by omega)
  generalize pk code (vspan a * vspan b) = c at hpk hpr
  obtain ⟨rules, hMV, hle, hrc⟩ := z2
  have hrl : rules.length = rn := by
    obtain ⟨ao', cap', e, _⟩ := hMV.2
    injection e with _ e2 _
    exact e2.symm
  have hup := nextL_up hG (rules := rules) hpr
  have HN1 : Hid (∀ w', Below W2.heap.size W2 w' → Calls Tryd.prog 12 #[.agg #[.slice ao 2 cap, .slice ro rn rc], .int .i64 c] w' fun e w2 => ∃ v, e = .returned (.tuple #[v, .int .i64 0]) ∧ Below w'.heap.size w' w2 ∧ IntsV w2 v (nextL ⟨[a, b], rules⟩ c)) := fun w' hb => by
    have hw := gwcode hG (by omega) hrc hpr
    have h := next_any (.slice ao 2 cap) (.slice ro rn rc) ⟨[a, b], rules⟩ c w' (HK.out w' hb).1.1 (HK.out w' hb).1.2 ⟨hMV.1.below hb, hMV.2.below hb⟩
    rw [hw, show nxtL ⟨[a, b], rules⟩ c = nextL ⟨[a, b], rules⟩ c by unfold nxtL; rw [if_pos hw]] at h
    exact h
  obtain ⟨rb, roff, gv, sv, hRC, hro⟩ : ∃ rb roff gv sv, RuC W2 rb roff rules gv sv ∧ (0 < rn → ro = some ⟨rb, roff, none⟩) := by
    by_cases h0 : 0 < rn
    · obtain ⟨rb, roff, gv, sv, h1, h2⟩ := rulesV_cells hMV.2 (by show 0 < rules.length; omega)
      exact ⟨rb, roff, gv, sv, h2, fun _ => h1⟩
    · exact ⟨0, 0, fun _ => .nilIface, fun _ => .nilIface, ⟨fun h => by omega, fun i hi => by omega, fun i hi => by omega⟩, fun h => absurd h h0⟩
  have HN2 : Hid (∀ w' X is xv, XAt W2 w' X (.slice ao 2 cap) gv sv is xv → is.length ≤ 12 → (∀ i ∈ is, i < rn) → (∀ i, i < rn → i ∈ is) → Calls Tryd.prog 12 #[.agg #[.slice ao 2 cap, xv], .int .i64 c] w' fun e w2 => ∃ v, e = .returned (.tuple #[v, .int .i64 0]) ∧ Below w'.heap.size w' w2 ∧ IntsV w2 v (nextL ⟨[a, b], rules⟩ c)) := fun w' X is xv hx h12 h1 h2 =>
    knext_two hG hpr (HK.out w' hx.below).1.1 (HK.out w' hx.below).1.2 h12 hrc (fun i hi => by rw [hrl]; exact h1 i hi) (fun i hi => h2 i (by rw [← hrl]; exact hi)) (hMV.1.below hx.below) (hx.rules hRC (fun i hi => by rw [hrl]; exact h1 i hi))
  have HRC : Hid (∀ i, i < rn → ∀ w', Below W2.heap.size W2 w' → (∃ go gn gc, gv i = .slice go gn gc) ∧ (∃ go gn gc, sv i = .slice go gn gc) ∧ w'.cell? ⟨rb, roff + i * 2, none⟩ = some (gv i) ∧ w'.cell? ⟨rb, roff + i * 2 + 1, none⟩ = some (sv i)) := fun i hi w' hb => by
    have hlt := hRC.lt (by omega)
    obtain ⟨e1, o1⟩ := hRC.g i (by omega)
    obtain ⟨e2, o2⟩ := hRC.s i (by omega)
    refine ⟨?_, ?_, (hb.cell (p := ⟨rb, _, none⟩) hlt).trans e1, (hb.cell (p := ⟨rb, _, none⟩) hlt).trans e2⟩
    · obtain ⟨x1, x2, x3, _⟩ := o1; exact ⟨_, _, _, x3⟩
    · obtain ⟨x1, x2, x3, _⟩ := o2; exact ⟨_, _, _, x3⟩
  have HRO : Hid (0 < rn → ro = some ⟨rb, roff, none⟩) := hro
  have hrn5 : rn ≤ 5 := by omega
  have hlen0 : 0 < (nextL ⟨[a, b], rules⟩ c).length := hup.some
  have hlen6 : (nextL ⟨[a, b], rules⟩ c).length ≤ 6 := by have := hup.few; omega
  generalize nextL ⟨[a, b], rules⟩ c = l at HN1 HN2 hlen0 hlen6
  generalize vspan a * vspan b = N at hP hpk hpr hcn
  obtain ⟨hp1, hp2⟩ := hP
  have hpw := fun (h0 : 0 < (rn : Int)) (w : World) => picked_is wh (rn : Int) w hwh h0 (by omega)
  have hpwr := fun (h0 : 0 < (rn : Int)) => pk_range (n := wh) (m := (rn : Int)) h0
  obtain ⟨iR, hiR, r0, r1, r2⟩ := info_parts infoRule
  clear hk hbW hM hb1 hmd hc hG z0 z1 hMV hrc hup hRC hro hrl hle hwh
  go_upto_region 7 with (first | (go_at_call 11; refine hcn.mono ?_; rintro e w3 ⟨rfl, hb3⟩; obtain ⟨k30, k31⟩ := (HK.out w3 hb3).2; have hnx := HN1.out w3 hb3) | (go_at_call 8; refine (hpk _).mono ?_; rintro e w9 ⟨rfl, rfl⟩) | (go_at_call 12; refine hnx.mono ?_; rintro e w4 ⟨v4, rfl, hb4, hI4⟩))
  have hb34 : Below W2.heap.size W2 w4 := hb3.trans (hb4.mono hb3.size)
  obtain ⟨k40, k41⟩ := (HK.out w4 hb34).2
  have hw14 : w1.heap.size < w4.heap.size := World.block_lt_of_cell? w4 ⟨w1.heap.size, 1, none⟩ k41
  have hne4 : ¬ w1.heap.size = w4.heap.size := by omega
  obtain ⟨vo, vc, rfl⟩ := hI4.shape
  have HI4 : Hid (IntsV w4 (.slice vo l.length vc) l) := hI4
  have HX0 : Hid (XAt W2 (w4.alloc (.cells #[.slice ao 2 cap, .slice none 0 0] 29)) w4.heap.size (.slice ao 2 cap) gv sv [] (.slice none 0 0)) := XAt.start2 hb34
  have HB4 : Hid (Below w4.heap.size w4 (w4.alloc (.cells #[.slice ao 2 cap, .slice none 0 0] 29))) := (Below.refl _ _).alloc (Nat.le_refl _) _
  clear hcn hnx hpk hb3 hb4 k30 k31 hI4
  go_wp2_with fail
  generalize w4.alloc (.cells #[.slice ao 2 cap, .slice none 0 0] 29) = W5 at HX0 HB4 ⊢
  obtain ⟨X, hX⟩ : ∃ X, X = w4.heap.size := ⟨_, rfl⟩
  obtain ⟨M, hM⟩ : ∃ M, M = w1.heap.size := ⟨_, rfl⟩
  have hMX : ¬ M = X := by omega
  have hXM : ¬ X = M := by omega
  rw [← hX] at HX0 ⊢
  rw [← hM] at HK ⊢
  have HXw : Hid (X = w4.heap.size) := hX
  clear hX hM hne4 hw14 k40 k41 z3 z4
  obtain ⟨ln, hln⟩ : ∃ ln, ln = l.length := ⟨_, rfl⟩
  have HLN : Hid (ln = l.length) := hln
  rw [← hln] at HI4 hlen0 hlen6 ⊢
  clear hln
  go_loopw [14] (fun i wr => ∃ j : Nat, j ≤ rn ∧ i = .int .i64 ((rn : Int) - 1 - (j : Int)) ∧ Hid (Below W5.heap.size W5 W5 ∧ Below w4.heap.size w4 wr ∧ ∃ xv, XAt W2 wr X (.slice ao 2 cap) gv sv (downTo rn j) xv)) (fun i _ => (intOf i + 1).toNat)
  case atStart => exact ⟨0, Nat.zero_le _, by simp, Below.refl _ _, HB4.out, _, HX0.out⟩
  case round =>
    obtain ⟨j, hj, rfl, HJ⟩ := hrel
    obtain ⟨_, hb4r, xv, hx⟩ := HJ.out
    obtain ⟨xo, xc, hxv⟩ := owns_slice hx.row
    rw [downTo_length] at hxv
    subst hxv
    obtain ⟨m0, m1⟩ := (HK.out wr hx.below).2
    have x1 : wr.cell? ⟨X, 1, none⟩ = some (.slice xo j xc) := hx.c1
    by_cases hlt : j < rn
    · obtain ⟨p, hp⟩ : ∃ p, p + j + 1 = rn := ⟨rn - 1 - j, by omega⟩
      have hpi : (rn : Int) - 1 - (j : Int) = (p : Int) := by omega
      have hpr2 : p < rn := by omega
      have HP : Hid (p = rn - 1 - j) := by show _ = _; omega
      have hpos : ¬ (p : Int) < 0 := by omega
      have hro := HRO.out (by omega)
      subst hro
      obtain ⟨⟨g1, g2, g3, hg⟩, ⟨s1, s2, s3, hs⟩, hcg, hcs⟩ := HRC.out p hpr2 wr hx.below
      have HX : Hid (XAt W2 wr X (.slice ao 2 cap) gv sv (downTo rn j) (.slice xo j xc)) := hx
      have HB4r : Hid (Below w4.heap.size w4 wr) := hb4r
      have hrow : ∀ o, (wr.alloc o).ownsRow (X + 1) 42 2 (.slice xo j xc) j (ruCells gv sv (downTo rn j)) := fun o => by
        have := hx.row.alloc o
        rw [downTo_length] at this
        exact this
      have hszx : X < wr.heap.size := hx.size
      have hfx : wr.frozen? ⟨X, 1, none⟩ = false := hx.f1
      have hneX : ¬ X = wr.heap.size := by omega
      have hmw : M < wr.heap.size := World.block_lt_of_cell? wr ⟨M, 1, none⟩ m1
      have hneM : ¬ M = wr.heap.size := by omega
      have hrbw : rb < wr.heap.size := World.block_lt_of_cell? wr ⟨rb, roff + p * 2, none⟩ hcg
      have hneR : ¬ rb = wr.heap.size := by omega
      have hbase : ∀ o, X + 1 ≤ (wr.alloc o).drew.heap.size := fun o => by show _ ≤ (wr.alloc o).heap.size; simp; omega
      have h63 : j + 1 ≤ maxLen := by unfold maxLen; omega
      have h48 : (j + 1) * 48 ≤ 140737488355328 := by omega
      rw [hg] at hcg
      rw [hs] at hcs
      have HG : Hid (gv p = .slice g1 g2 g3) := hg
      have HS : Hid (sv p = .slice s1 s2 s3) := hs
      clear hx HJ hg hs hb4r hp
      rw [hpi]
      go_upto_block 1 with fail
      go_cut [] (fun wx => ∃ (xb xc2 : Nat) (w2 : World), wx = w2.setCell ⟨X, 1, none⟩ (.slice (some ⟨xb, 0, none⟩) (j + 1) xc2) ∧ Hid (w2.ownsRow (X + 1) 42 2 (.slice (some ⟨xb, 0, none⟩) (j + 1) xc2) (j + 1) (ruCells gv sv (downTo rn j) ++ [.slice g1 g2 g3, .slice s1 s2 s3])) ∧ Hid (World.grownBy (wr.alloc (.cells #[.slice g1 g2 g3, .slice s1 s2 s3] 42)) w2 (Value.slice xo j xc).ownBlock))
      case first =>
        go_wp2_with fail
        go_region_law (refine step_append_lies _ (by rfl) (.tmp 52) (.tmp 58) 27 (by rfl) (X + 1) 42 iR _ 2 48 Tryd.underlying27 hiR r0 r1 r2 (by rfl) (by decide) (.slice xo j xc) j (ruCells gv sv (downTo rn j)) (by rfl) (hrow _).drew ⟨wr.heap.size, 0, none⟩ 1 1 [.slice g1 g2 g3, .slice s1 s2 s3] (by rfl) (by rfl) (two_newD _ _ _ _) (by intro u hu; simp at hu; rcases hu with rfl | rfl <;> rfl) (by decide) h63 h48 (hbase _) _ rfl ?_; intro xb xc2 w2 ho2 hg2d _ _; have hg2 := grown_undrew hg2d; have xst := HX.out.step (i := p) (xv' := .slice (some ⟨xb, 0, none⟩) (j + 1) xc2) hg2 (by rw [downTo_length, HG.out, HS.out]; exact ho2); have hbx : Below (X + 1) wr w2 := ((Below.refl _ _).alloc (by omega) _).grown hg2 (hbase _) (fun k hk => ((hrow default).lt k hk).1); have y0 : w2.frozen? ⟨X, 1, none⟩ = false := (hbx.frozen (p := ⟨X, 1, none⟩) (Nat.lt_succ_self _)).trans hfx; have d0 : w2.cell? ⟨X, 1, none⟩ = some (.slice xo j xc) := (hbx.cell (p := ⟨X, 1, none⟩) (Nat.lt_succ_self _)).trans x1)
        all_goals go_wp2_with fail
        all_goals go_meet
        all_goals exact ⟨xb, xc2, w2, rfl, ho2, hg2⟩
      case rest =>
        obtain ⟨xb, xc2, w2, hwc, HO2, HG2⟩ := hcut
        rw [hwc]
        clear hwc
        have hXw := HXw.out
        have hbx : Below w4.heap.size w4 (w2.setCell ⟨X, 1, none⟩ (.slice (some ⟨xb, 0, none⟩) (j + 1) xc2)) := ((HB4r.out.alloc HB4r.out.size _).grown HG2.out (by have := HB4r.out.size; simp; omega) (fun k hk => by have := ((hrow default).lt k hk).1; omega)).setCell (by show w4.heap.size ≤ X; omega) _
        have HK4 : Hid (Below W5.heap.size W5 W5 ∧ Below w4.heap.size w4 (w2.setCell ⟨X, 1, none⟩ (.slice (some ⟨xb, 0, none⟩) (j + 1) xc2)) ∧ ∃ xv, XAt W2 (w2.setCell ⟨X, 1, none⟩ (.slice (some ⟨xb, 0, none⟩) (j + 1) xc2)) X (.slice ao 2 cap) gv sv (downTo rn (j + 1)) xv) := ⟨Below.refl _ _, hbx, _, by
          rw [downTo, ← HP.out]
          exact HX.out.step HG2.out (by rw [downTo_length, HG.out, HS.out]; exact HO2.out)⟩
        clear hXw hbx
        go_wp2_with fail
        go_roundw
        case rel => exact ⟨j + 1, by omega, by go_num, HK4⟩
        case measure => simp [intOf]
    · obtain rfl : j = rn := by omega
      have hm1 : (j : Int) - 1 - (j : Int) = -1 := by omega
      have HX : Hid (XAt W2 wr X (.slice ao 2 cap) gv sv (downTo j j) (.slice xo j xc)) := hx
      have HB4r : Hid (Below w4.heap.size w4 wr) := hb4r
      have HD : Hid ((∀ i ∈ downTo j j, i < j) ∧ ∀ i, i < j → i ∈ downTo j j) := ⟨fun i hi => ((downTo_mem (Nat.le_refl _) i).1 hi).2, fun i hi => (downTo_mem (Nat.le_refl _) i).2 ⟨by omega, hi⟩⟩
      rw [hm1]
      clear HJ hb4r
      go_upto_if 64 with fail
      go_cut [] (fun wx => Hid (∃ is xv, XAt W2 wx X (.slice ao 2 cap) gv sv is xv ∧ is.length ≤ 12 ∧ (∀ i ∈ is, i < j) ∧ (∀ i, i < j → i ∈ is) ∧ Below w4.heap.size w4 wx))
      case first =>
        by_cases h0 : 0 < j
        · have h0i : (0 : Int) < (j : Int) := by omega
          have hpw1 := fun w => hpw h0i w
          obtain ⟨q0, q1⟩ := hpwr h0i
          obtain ⟨p, hp⟩ : ∃ p : Nat, pk wh (j : Int) = (p : Int) := ⟨(pk wh (j : Int)).toNat, by omega⟩
          rw [hp] at hpw1 q0 q1
          have hpr2 : p < j := by omega
          have hro := HRO.out h0
          subst hro
          obtain ⟨⟨g1, g2, g3, hg⟩, ⟨s1, s2, s3, hs⟩, hcg, hcs⟩ := HRC.out p hpr2 wr hx.below
          have hrow : ∀ o, (wr.alloc o).ownsRow (X + 1) 42 2 (.slice xo j xc) j (ruCells gv sv (downTo j j)) := fun o => by
            have := hx.row.alloc o
            rw [downTo_length] at this
            exact this
          have hszx : X < wr.heap.size := hx.size
          have hfx : wr.frozen? ⟨X, 1, none⟩ = false := hx.f1
          have hneX : ¬ X = wr.heap.size := by omega
          have hmw : M < wr.heap.size := World.block_lt_of_cell? wr ⟨M, 1, none⟩ m1
          have hneM : ¬ M = wr.heap.size := by omega
          have hrbw : rb < wr.heap.size := World.block_lt_of_cell? wr ⟨rb, roff + p * 2, none⟩ hcg
          have hneR : ¬ rb = wr.heap.size := by omega
          have hbase : ∀ o, X + 1 ≤ (wr.alloc o).drew.heap.size := fun o => by show _ ≤ (wr.alloc o).heap.size; simp; omega
          have h63 : j + 1 ≤ maxLen := by unfold maxLen; omega
          have h48 : (j + 1) * 48 ≤ 140737488355328 := by omega
          rw [hg] at hcg
          rw [hs] at hcs
          have HG : Hid (gv p = .slice g1 g2 g3) := hg
          have HS : Hid (sv p = .slice s1 s2 s3) := hs
          have HE : Hid (∀ (xb xc2 : Nat) (w2 : World), w2.ownsRow (X + 1) 42 2 (.slice (some ⟨xb, 0, none⟩) (j + 1) xc2) (j + 1) (ruCells gv sv (downTo j j) ++ [.slice g1 g2 g3, .slice s1 s2 s3]) → World.grownBy (wr.alloc (.cells #[.slice g1 g2 g3, .slice s1 s2 s3] 42)) w2 (Value.slice xo j xc).ownBlock → ∃ is xv, XAt W2 (w2.setCell ⟨X, 1, none⟩ (.slice (some ⟨xb, 0, none⟩) (j + 1) xc2)) X (.slice ao 2 cap) gv sv is xv ∧ is.length ≤ 12 ∧ (∀ i ∈ is, i < j) ∧ (∀ i, i < j → i ∈ is) ∧ Below w4.heap.size w4 (w2.setCell ⟨X, 1, none⟩ (.slice (some ⟨xb, 0, none⟩) (j + 1) xc2))) := fun xb xc2 w2 ho hgr => by
            refine ⟨downTo j j ++ [p], _, HX.out.step hgr (by rw [downTo_length, HG.out, HS.out]; exact ho), by rw [List.length_append, downTo_length]; simp; omega, fun i hi => ?_, fun i hi => List.mem_append_left _ (HD.out.2 i hi), ?_⟩
            · rcases List.mem_append.1 hi with h | h
              · exact HD.out.1 i h
              · rw [List.mem_singleton.1 h]; exact hpr2
            · have hXw := HXw.out
              exact ((HB4r.out.alloc HB4r.out.size _).grown hgr (by have := HB4r.out.size; simp; omega) (fun k hk => by have := ((hrow default).lt k hk).1; omega)).setCell (by show w4.heap.size ≤ X; omega) _
          clear hx hg hs hpw hpwr hp
          go_wp2_with fail
          go_region_law (first | (refine step_append_lies _ (by rfl) (.tmp 66) (.tmp 76) 27 (by rfl) (X + 1) 42 iR _ 2 48 Tryd.underlying27 hiR r0 r1 r2 (by rfl) (by decide) (.slice xo j xc) j (ruCells gv sv (downTo j j)) (by rfl) (hrow _).drew ⟨wr.heap.size, 0, none⟩ 1 1 [.slice g1 g2 g3, .slice s1 s2 s3] (by rfl) (by rfl) (two_newD _ _ _ _) (by intro u hu; simp at hu; rcases hu with rfl | rfl <;> rfl) (by decide) h63 h48 (hbase _) _ rfl ?_; intro xb xc2 w2 ho2 hg2d _ _; have hg2 := grown_undrew hg2d; have hbx : Below (X + 1) wr w2 := ((Below.refl _ _).alloc (by omega) _).grown hg2 (hbase _) (fun k hk => ((hrow default).lt k hk).1); have y0 : w2.frozen? ⟨X, 1, none⟩ = false := (hbx.frozen (p := ⟨X, 1, none⟩) (Nat.lt_succ_self _)).trans hfx; have d0 : w2.cell? ⟨X, 1, none⟩ = some (.slice xo j xc) := (hbx.cell (p := ⟨X, 1, none⟩) (Nat.lt_succ_self _)).trans x1) | (go_simp; go_at_call 8; refine (hpw1 _).mono ?_; rintro e w9 ⟨rfl, rfl⟩))
          all_goals go_wp2_with fail
          all_goals go_meet
          all_goals exact HE.out xb xc2 w2 ho2 hg2
        · have h0i : ¬ (0 : Int) < (j : Int) := by omega
          clear hpw hpwr
          go_wp2_with fail
          all_goals go_meet
          all_goals exact ⟨_, _, HX.out, by rw [downTo_length]; omega, HD.out.1, HD.out.2, HB4r.out⟩
      case rest =>
        obtain ⟨is, xv, hx2, h12, hi1, hi2, hb4c⟩ := hcut.out
        obtain ⟨xo2, xc2, hxv2⟩ := owns_slice hx2.row
        subst hxv2
        have x0 : wc.cell? ⟨X, 0, none⟩ = some (.slice ao 2 cap) := hx2.c0
        have x2 : wc.cell? ⟨X, 1, none⟩ = some (.slice xo2 is.length xc2) := hx2.c1
        have hn2 := HN2.out wc X is _ hx2 h12 hi1 hi2
        have hll : l.length = ln := HLN.out.symm
        have HBc : Hid (Below w4.heap.size w4 wc) := hb4c
        have HBW2 : Hid (Below W2.heap.size W2 wc) := hx2.below
        have hlen0i : ¬ (ln : Int) = 0 := by omega
        have hlen0n : ¬ ln = 0 := by omega
        clear hcut hx2 hx HX HB4r HD hpw hpwr x1 m0 m1 hi1 hi2 hb4c
        go_wp2_with (go_at_call 12; refine hn2.mono ?_; rintro e w7 ⟨v7, rfl, hb7, hI7⟩; obtain ⟨uo, uc, rfl⟩ := hI7.shape)
        have HI7 : Hid (IntsV w7 (.slice uo ln uc) l) := by rw [← hll]; exact hI7
        have HJ4 : Hid (IntsV w7 (.slice vo ln vc) l) := (HI4.out.below HBc.out).below hb7
        have HE : Hid (Below w.heap.size w w7) := by
          have h1 := HBW.out.trans (HBW2.out.mono HBW.out.size)
          exact h1.trans (hb7.mono h1.size)
        clear hI7 hn2 hb7 HBc HBW2 HI4 hll x0 x2
        go_loopw [17] (fun i wr => ∃ q : Nat, q ≤ ln ∧ i = .int .i64 q ∧ ∃ d, wr = w7.drewN d) (fun i _ => ln - (intOf i).toNat)
        case atStart => exact ⟨0, Nat.zero_le _, rfl, 0, rfl⟩
        case round =>
          obtain ⟨q, hq, rfl, d, rfl⟩ := hrel
          by_cases hql : q < ln
          · obtain ⟨vb, voff, rfl, hvl, hvc⟩ := HJ4.out.at (i := q) (by rw [← HLN.out]; exact hql)
            obtain ⟨ub, uoff, rfl, hul, huc⟩ := HI7.out.at (i := q) (by rw [← HLN.out]; exact hql)
            generalize l.getD q 0 = y at hvc huc
            go_wp2_with fail
            go_quiet (fail)
            go_wp2_with fail
            go_roundw
            case rel => exact ⟨q + 1, by omega, by go_num, _, rfl⟩
            case measure => simp [intOf]; omega
          · go_wp2_with fail
            go_ret
            exact ⟨rfl, below_drewN HE.out _⟩
end Go.Proofs.YtphdhcemachgdaaDoor
