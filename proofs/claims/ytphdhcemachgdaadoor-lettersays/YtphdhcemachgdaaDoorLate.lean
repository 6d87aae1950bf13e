/-
  Joined out of StepAfter, MProps, Bools, StepLetter, Joined, Joined2, KeepLetter, KlWalk, in their order: a claim bears at most so many files.
-/
import Derived.Test.YtphdhcemachgdaaDoorStepRule
import Derived.Test.YtphdhcemachgdaaDoorMValues
import Derived.Test.YtphdhcemachgdaaDoorMCheck2
import Derived.Test.YtphdhcemachgdaaDoorMem
import Derived.Deep.OwnRows
import Derived.Test.YtphdhcemachgdaaDoorModelMem
import Derived.Test.YtphdhcemachgdaaDoorKeepStates
import Derived.Deep.RegionHeld3
import Derived.Deep.Cut
import Derived.Deep.QuietTactic
/-
  The contract of step.After.
-/
namespace Go.Proofs.YtphdhcemachgdaaDoor
open Go.ChangeShapes Go.WideShapes Go.ChangeAt Go.RowKit Go.Deep
open Terms Tm

/-- what After answers. -/
noncomputable def aftN (m : Mo) (code rule : Int) : Int := if wcode m code = 0 then (if 0 ≤ rule ∧ rule < m.rules.length then optN (ruleDo m.vars (valsL m.vars code) (m.rules.getD rule.toNat ru0)) else 0) else 0
noncomputable def aftC (m : Mo) (code rule : Int) : Int := if wcode m code = 0 then (if 0 ≤ rule ∧ rule < m.rules.length then optC (ruleDo m.vars (valsL m.vars code) (m.rules.getD rule.toNat ru0)) else 2) else wcode m code
set_option maxRecDepth 20000 in
theorem wcode_zero {m : Mo} {code : Int} (h : wcode m code = 0) : mcode m = 0 ∧ 0 ≤ code ∧ code < prodTo m.vars m.vars.length := by
  unfold wcode at h
  split at h
  · rename_i h1
    split at h
    · rename_i h2; exact ⟨h1, h2⟩
    · cases h
  · rename_i h1; exact absurd h h1
set_option maxRecDepth 20000 in
/-- THE CONTRACT OF Values, where there are some: a block of their own. -/
theorem svalues_any (va vr : Value) (m : Mo) (code : Int) (w : World) (hB : 0 < w.heap.size) (hT : TabAt w) (hV : ModelV w va vr m) (h : wcode m code = 0) :
    Calls Tryd.prog 13 #[.agg #[va, vr], .int .i64 code] w fun e w' => ∃ B, e = .returned (.tuple #[.slice (some ⟨B, 0, none⟩) (valsL m.vars code).length (valsL m.vars code).length, .int .i64 0]) ∧ w.heap.size ≤ B ∧ Below w.heap.size w w' ∧ w'.rowIs B 3 (valsL m.vars code).length (fun j => .int .i64 ((valsL m.vars code).getD j 0)) := by
  obtain ⟨h1, h2⟩ := wcode_zero h
  refine (mvalues_loop va vr m code w hB hT hV h1 h2).mono fun e w' ⟨B, he, hl, hb, hr⟩ => ?_
  rw [← valsL_length m.vars code] at he hr
  refine ⟨B, he, hl, hb, hr.congr fun j hj => ?_⟩
  rw [valsL_length] at hj
  simp [valsL, List.getD_eq_getElem?_getD, hj]

set_option maxHeartbeats 3200000 in
set_option maxRecDepth 20000 in
/-- THE CONTRACT OF After. -/
theorem after_any (va vr : Value) (m : Mo) (code rule : Int) (w : World) (hB : 0 < w.heap.size) (hT : TabAt w) (hV : ModelV w va vr m) :
    Calls Tryd.prog 16 #[.agg #[va, vr], .int .i64 code, .int .i64 rule] w fun e w' => e = .returned (.tuple #[.int .i64 (aftN m code rule), .int .i64 (aftC m code rule)]) ∧ Below w.heap.size w w' := by
  have hA : ∀ o, Below w.heap.size w (w.alloc o) := fun o => (Below.refl _ _).alloc (Nat.le_refl _) o
  by_cases hw : wcode m code = 0
  · obtain ⟨hm, _⟩ := wcode_zero hw
    obtain ⟨hr12, hrs⟩ := mcode_rules hm
    have hvl := fun o => svalues_any va vr m code (w.alloc o) (Nat.lt_of_lt_of_le hB (hA o).size) (hT.below (hA o) hB) (hV.below (hA o)) hw
    have he := valsL_length m.vars code
    have HDo : Hid (∀ w' (_ : Below w.heap.size w w') B k gv sv, k < m.rules.length → w'.rowIs B 3 (valsL m.vars code).length (fun j => .int .i64 ((valsL m.vars code).getD j 0)) → OpsV w' gv (m.rules.getD k ru0).guard → SetsV w' sv (m.rules.getD k ru0).sets → Calls Tryd.prog 29 #[.agg #[va, vr], .slice (some ⟨B, 0, none⟩) (valsL m.vars code).length (valsL m.vars code).length, .agg #[gv, sv]] w' fun e w2 => e = .returned (.tuple #[.int .i64 (optN (ruleDo m.vars (valsL m.vars code) (m.rules.getD k ru0))), .int .i64 (optC (ruleDo m.vars (valsL m.vars code) (m.rules.getD k ru0)))]) ∧ Below w'.heap.size w' w2) := fun w' hb B k gv sv hk hrow hg hs =>
      doRule_any va vr gv sv B m (valsL m.vars code) (m.rules.getD k ru0) w' (Nat.lt_of_lt_of_le hB hb.size) (hT.below hb hB) (hV.below hb) hm (hrs k hk) he hrow hg hs
    have HR : Hid (RulesV w vr m.rules) := hV.2
    obtain ⟨ao, cap, rfl⟩ := hV.1.shape
    obtain ⟨ro, rc, rfl⟩ := hV.2.shape
    unfold aftN aftC
    rw [if_pos hw, if_pos hw]
    generalize hrr : (fun k => ruleDo m.vars (valsL m.vars code) (m.rules.getD k ru0)) = rr
    have HRR : Hid (∀ k, ruleDo m.vars (valsL m.vars code) (m.rules.getD k ru0) = rr k) := fun k => by rw [← hrr]
    have HDo2 := (show Hid _ from HDo.out)
    clear HDo
    have hrr2 := HRR.out
    simp only [hrr2] at HDo2 ⊢
    generalize (valsL m.vars code).length = vn at *
    generalize m.vars.length = n at *
    obtain ⟨rn, hrn⟩ : ∃ rn, rn = m.rules.length := ⟨_, rfl⟩
    have HRN : Hid (rn = m.rules.length) := hrn
    rw [← hrn] at hvl HR HDo2 ⊢
    rw [← hrn] at hr12
    clear hV hT hw hm hrs he hrr hrr2 hrn HRR
    by_cases hin : 0 ≤ rule ∧ rule < rn
    · rw [if_pos hin, if_pos hin]
      obtain ⟨hi0, hi1⟩ := hin
      obtain ⟨k, rfl⟩ : ∃ k : Nat, rule = k := ⟨rule.toNat, by omega⟩
      have hkn : k < rn := by omega
      rw [Int.toNat_natCast]
      obtain ⟨b, off, rfl, hblt, hat⟩ := HR.out.at (i := k) (by rw [← HRN.out]; exact hkn)
      clear HR hi1
      go_enter Tryd.func16, Tryd.ntmps16
      go_wp2_with (go_at_call 13; refine (hvl _).mono ?_; rintro e w1 ⟨B, rfl, hBl, hb1, hrow⟩; have hbw1 := (hA _).trans (hb1.mono (hA _).size); have k10 : w1.cell? ⟨w.heap.size, 0, none⟩ = some (.slice ao n cap) := (hb1.cell (p := ⟨w.heap.size, 0, none⟩) (by simp)).trans (by simp [go_sem]); have k11 : w1.cell? ⟨w.heap.size, 1, none⟩ = some (.slice (some ⟨b, off, none⟩) rn rc) := (hb1.cell (p := ⟨w.heap.size, 1, none⟩) (by simp)).trans (by simp [go_sem]))
      obtain ⟨⟨u, c0, hou⟩, u', c1, hsu⟩ := hat.below hbw1 hblt
      obtain ⟨uo, uc, rfl⟩ := hou.shape
      obtain ⟨so, sc, rfl⟩ := hsu.shape
      have hdo := HDo2.out w1.drew hbw1.drew B k _ _ hkn hrow hou hsu
      have HBW1 : Hid (Below w.heap.size w w1) := hbw1
      generalize (m.rules.getD k ru0).guard.length = gl at *
      generalize (m.rules.getD k ru0).sets.length = sl at *
      clear hvl hb1 hbw1 hrow hou hsu HDo2 hat
      go_region_with (go_at_call 29; refine hdo.mono ?_; rintro e w3 ⟨rfl, hb3⟩)
      all_goals go_wp2_with fail
      all_goals go_ret2
      all_goals exact ⟨rfl, HBW1.out.drew.trans (hb3.mono HBW1.out.drew.size)⟩
    · have HIN : Hid (¬ (0 ≤ rule ∧ rule < rn)) := hin
      rw [if_neg hin, if_neg hin]
      by_cases h0 : rule < 0
      · clear hin HDo2 HR
        go_enter Tryd.func16, Tryd.ntmps16
        go_wp2_with (go_at_call 13; refine (hvl _).mono ?_; rintro e w1 ⟨B, rfl, hBl, hb1, hrow⟩; have hbw1 := (hA _).trans (hb1.mono (hA _).size); have k11 : w1.cell? ⟨w.heap.size, 1, none⟩ = some (.slice ro rn rc) := (hb1.cell (p := ⟨w.heap.size, 1, none⟩) (by simp)).trans (by simp [go_sem]))
        go_ret2
        exact ⟨rfl, hbw1⟩
      · have h1 : (rn : Int) ≤ rule := by omega
        clear hin HDo2 HR
        go_enter Tryd.func16, Tryd.ntmps16
        go_wp2_with (go_at_call 13; refine (hvl _).mono ?_; rintro e w1 ⟨B, rfl, hBl, hb1, hrow⟩; have hbw1 := (hA _).trans (hb1.mono (hA _).size); have k11 : w1.cell? ⟨w.heap.size, 1, none⟩ = some (.slice ro rn rc) := (hb1.cell (p := ⟨w.heap.size, 1, none⟩) (by simp)).trans (by simp [go_sem]))
        go_ret2
        exact ⟨rfl, hbw1⟩
  · have hvl := fun o => mvalues_any va vr m code (w.alloc o) (Nat.lt_of_lt_of_le hB (hA o).size) (hT.below (hA o) hB) (hV.below (hA o))
    obtain ⟨ao, cap, rfl⟩ := hV.1.shape
    obtain ⟨ro, rc, rfl⟩ := hV.2.shape
    unfold aftN aftC
    rw [if_neg hw, if_neg hw]
    generalize wcode m code = c at *
    generalize m.vars.length = n at *
    generalize m.rules.length = rn at *
    clear hV hT
    go_enter Tryd.func16, Tryd.ntmps16
    go_wp2_with (go_at_call 13; refine (hvl _).mono ?_; rintro e w1 ⟨v, rfl, hb1, _⟩)
    go_ret2
    exact ⟨rfl, (hA _).trans (hb1.mono (hA _).size)⟩
end Go.Proofs.YtphdhcemachgdaaDoor

/-
  The contract of the program's Props.
-/
namespace Go.Proofs.YtphdhcemachgdaaDoor
open Go.ChangeShapes Go.WideShapes Go.ChangeAt Go.RowKit Go.Deep
open Terms Tm

set_option maxRecDepth 20000 in
theorem TermsV.shape {w : World} {v : Value} {ts : List (List (Int × Int))} (h : TermsV w v ts) : ∃ ao cap, v = .slice ao ts.length cap := by
  obtain ⟨ao, cap, h1, _⟩ := h
  exact ⟨ao, cap, h1⟩
set_option maxRecDepth 20000 in
theorem TermsV.at {w : World} {ao : Option Addr} {cap n : Nat} {ts : List (List (Int × Int))} (h : TermsV w (.slice ao n cap) ts) {i : Nat} (hi : i < ts.length) : ∃ b off, ao = some ⟨b, off, none⟩ ∧ b < w.heap.size ∧ ∃ u, w.cell? ⟨b, off + i, none⟩ = some u ∧ OpsV w u (ts.getD i []) := by
  obtain ⟨ao', cap', h1, h3⟩ := h
  injection h1 with e1 e2 e3
  subst e1
  obtain ⟨b, off, e, hb, hh⟩ := h3 (by intro h; subst h; simp at hi)
  exact ⟨b, off, e, hb, hh i hi⟩

set_option maxRecDepth 20000 in
set_option maxHeartbeats 1600000 in
theorem mprops_loop (va vr pv : Value) (m : Mo) (ps : List (List (Int × Int))) (w : World) (hB : 0 < w.heap.size) (hT : TabAt w) (hV : ModelV w va vr m) (hP : TermsV w pv ps) (h : mcode m = 0) (hl6 : ps.length ≤ 6) :
    Calls Tryd.prog 25 #[.agg #[va, vr], pv] w fun e w' => e = .returned (.int .i64 (firstOf (fun i => kcode m.vars.length (ps.getD i []) true) ps.length)) ∧ Below w.heap.size w w' := by
  have hA : ∀ o, Below w.heap.size w (w.alloc o) := fun o => (Below.refl _ _).alloc (Nat.le_refl _) o
  have hch := fun o => mcheck_any va vr m (w.alloc o) (Nat.lt_of_lt_of_le hB (hA o).size) (hT.below (hA o) hB) (hV.below (hA o))
  rw [h] at hch
  have h6 := (mcode_vars h).1
  obtain ⟨ao, cap, rfl⟩ := hV.1.shape
  obtain ⟨ro, rc, rfl⟩ := hV.2.shape
  obtain ⟨po, pc, rfl⟩ := hP.shape
  have HP : Hid (TermsV w (.slice po ps.length pc) ps) := hP
  have HT : Hid (TabAt w) := hT
  obtain ⟨n, hn⟩ : ∃ n, n = ps.length := ⟨_, rfl⟩
  have HN : Hid (n = ps.length) := hn
  rw [← hn] at hl6 HP ⊢
  generalize m.vars.length = vn at *
  generalize m.rules.length = rn at *
  clear hV hT hP hn h
  obtain ⟨f, hf⟩ : ∃ f : Nat → Int, f = fun i => kcode vn (ps.getD i []) true := ⟨_, rfl⟩
  rw [← hf]
  have HF : Hid (f = fun i => kcode vn (ps.getD i []) true) := hf
  clear hf
  go_enter Tryd.func25, Tryd.ntmps25
  go_wp2_with (go_at_call 10; refine (hch _).mono ?_; rintro e w1 ⟨rfl, hb1⟩)
  have hb1' : Below (w.heap.size + 1) (w.alloc (.cells #[.slice ao vn cap, .slice ro rn rc] 29)) w1 := hb1.mono (by simp)
  clear hch hb1
  go_loopw [19] (fun i wr => ∃ k : Nat, k ≤ n ∧ i = .int .i64 k ∧ Hid (∀ j, j < k → f j = 0) ∧ Below (w.heap.size + 1) (w.alloc (.cells #[.slice ao vn cap, .slice ro rn rc] 29)) wr) (fun i _ => n - (intOf i).toNat)
  case atStart => exact ⟨0, Nat.zero_le _, rfl, fun j hj => by omega, hb1'⟩
  case round =>
    obtain ⟨k, hk, rfl, HJ, hbel⟩ := hrel
    clear hb1'
    have hbw := (hA _).trans (hbel.mono (Nat.le_succ _))
    have hszb : w.heap.size + 1 ≤ wr.heap.size := by have := hbel.size; simp at this; omega
    have cb := (hbel.cell (p := ⟨w.heap.size, 0, none⟩) (by simp)).trans (show _ = some (.slice ao vn cap) by simp [go_sem])
    by_cases hlt : k < n
    · obtain ⟨b, off, rfl, hblt, u, c0', hO⟩ := HP.out.at (i := k) (by rw [← HN.out]; exact hlt)
      have HFk : Hid (f k = kcode vn (ps.getD k []) true) := by show _ = _; rw [HF.out]
      have HHit : Hid (∀ c, f k = c → c ≠ 0 → firstOf f n = c) := fun c h1 h2 => by rw [firstOf_hit hlt HJ.out (by rw [h1]; exact h2), h1]
      have HStep : Hid (f k = 0 → ∀ j, j < k + 1 → f j = 0) := fun h0 j hj => by
        by_cases hjk : j = k
        · subst hjk; exact h0
        · exact HJ.out j (by omega)
      generalize ps.getD k [] = p at *
      obtain ⟨ua, uc, rfl⟩ := hO.shape
      have c0 := (hbw.cell (p := ⟨b, off + k, none⟩) hblt).trans c0'
      have hcm := checkMakes_any _ p vn true wr (Nat.lt_of_lt_of_le hB hbw.size) (HT.out.below hbw hB) (hO.below hbw)
      generalize p.length = pn at *
      obtain ⟨x, hx⟩ : ∃ x, kcode vn p true = x := ⟨_, rfl⟩
      rw [hx] at hcm HFk
      clear HJ c0' hO hx HF
      by_cases hx0 : x = 0
      · subst hx0
        have HJ2 := (show Hid _ from HStep.out HFk.out)
        clear HStep HHit HFk
        go_wp2_with (go_at_call 34; refine hcm.mono ?_; rintro e w3 ⟨rfl, hb3⟩)
        go_roundw
        case rel => exact ⟨k + 1, hlt, by go_num, HJ2, hbel.trans (hb3.mono hszb)⟩
        case measure => simp [intOf]; omega
      · have HR : Hid (firstOf f n = x) := HHit.out x HFk.out hx0
        clear HStep HHit HFk
        go_wp2_with (go_at_call 34; refine hcm.mono ?_; rintro e w3 ⟨rfl, hb3⟩)
        go_ret
        rw [HR.out]
        exact ⟨rfl, hbw.trans (hb3.mono hbw.size)⟩
    · have hkn : k = n := by omega
      have HR : Hid (firstOf f n = 0) := firstOf_none (fun j hj => HJ.out j (by omega))
      go_wp2
      go_ret
      rw [HR.out]
      exact ⟨rfl, hbw⟩

set_option maxRecDepth 20000 in
/-- THE CONTRACT OF Props. -/
theorem mprops_any (va vr pv : Value) (m : Mo) (ps : List (List (Int × Int))) (w : World) (hB : 0 < w.heap.size) (hT : TabAt w) (hV : ModelV w va vr m) (hP : TermsV w pv ps) :
    Calls Tryd.prog 25 #[.agg #[va, vr], pv] w fun e w' => e = .returned (.int .i64 (pcode m ps)) ∧ Below w.heap.size w w' := by
  unfold pcode
  by_cases h : mcode m = 0
  · rw [if_pos h]
    by_cases h6 : 6 < ps.length
    · rw [if_pos h6]
      have hA : ∀ o, Below w.heap.size w (w.alloc o) := fun o => (Below.refl _ _).alloc (Nat.le_refl _) o
      have hch := fun o => mcheck_any va vr m (w.alloc o) (Nat.lt_of_lt_of_le hB (hA o).size) (hT.below (hA o) hB) (hV.below (hA o))
      rw [h] at hch
      obtain ⟨ao, cap, rfl⟩ := hV.1.shape
      obtain ⟨ro, rc, rfl⟩ := hV.2.shape
      obtain ⟨po, pc, rfl⟩ := hP.shape
      generalize m.vars.length = vn at *
      generalize m.rules.length = rn at *
      generalize ps.length = n at *
      clear hV hT hP h
      go_enter Tryd.func25, Tryd.ntmps25
      go_wp2_with (go_at_call 10; refine (hch _).mono ?_; rintro e w1 ⟨rfl, hb1⟩)
      go_ret
      exact ⟨rfl, (hA _).trans (hb1.mono (hA _).size)⟩
    · rw [if_neg h6]
      exact mprops_loop va vr pv m ps w hB hT hV hP h (by omega)
  · rw [if_neg h]
    have hA : ∀ o, Below w.heap.size w (w.alloc o) := fun o => (Below.refl _ _).alloc (Nat.le_refl _) o
    have hch := fun o => mcheck_any va vr m (w.alloc o) (Nat.lt_of_lt_of_le hB (hA o).size) (hT.below (hA o) hB) (hV.below (hA o))
    obtain ⟨ao, cap, rfl⟩ := hV.1.shape
    obtain ⟨ro, rc, rfl⟩ := hV.2.shape
    obtain ⟨po, pc, rfl⟩ := hP.shape
    generalize mcode m = x at *
    generalize m.vars.length = vn at *
    generalize m.rules.length = rn at *
    generalize ps.length = n at *
    clear hV hT hP
    go_enter Tryd.func25, Tryd.ntmps25
    go_wp2_with (go_at_call 10; refine (hch _).mono ?_; rintro e w1 ⟨rfl, hb1⟩)
    go_ret
    exact ⟨rfl, (hA _).trans (hb1.mono (hA _).size)⟩

end Go.Proofs.YtphdhcemachgdaaDoor

/-
  Slices of truths; the contract of the laws' own sameTruths.
-/
namespace Go.Proofs.YtphdhcemachgdaaDoor
open Go.ChangeShapes Go.WideShapes Go.ChangeAt Go.RowKit Go.Deep
open Terms

set_option maxRecDepth 20000 in
theorem infoBool : (Tryd.prog.info? 4).map (fun i => (i.zero, i.size, i.bytes)) = some (some (.bool false), 1, 1) := by kernel_rfl
/-- a slice of truths. -/
def BoolsAt (w : World) (b off : Nat) (l : List Bool) : Prop := ∀ i, i < l.length → w.cell? ⟨b, off + i, none⟩ = some (.bool (l.getD i false))
def BoolsV (w : World) (v : Value) (l : List Bool) : Prop := ∃ ao cap, v = .slice ao l.length cap ∧ (l ≠ [] → ∃ b off, ao = some ⟨b, off, none⟩ ∧ b < w.heap.size ∧ BoolsAt w b off l)
set_option maxRecDepth 20000 in
theorem BoolsV.below {w w' : World} {v : Value} {l : List Bool} (h : BoolsV w v l) (hb : Below w.heap.size w w') : BoolsV w' v l := by
  obtain ⟨ao, cap, rfl, h⟩ := h
  refine ⟨ao, cap, rfl, fun hne => ?_⟩
  obtain ⟨b, off, rfl, hlt, hat⟩ := h hne
  exact ⟨b, off, rfl, Nat.lt_of_lt_of_le hlt hb.size, fun i hi => (hb.cell (p := ⟨b, _, none⟩) hlt).trans (hat i hi)⟩
def bvals (l : List Bool) : List Value := l.map fun x => .bool x
set_option maxRecDepth 20000 in
theorem boolsV_of_owns {w : World} {base : Nat} {v : Value} {l : List Bool} (h : w.ownsRow base 4 1 v l.length (bvals l)) : BoolsV w v l := by
  rcases h.2 with ⟨rfl, h0⟩ | ⟨g, cap, cur, rfl, hb, hg, hnc, hcm, hcs, htake⟩
  · have : l = [] := by simpa using h0
    subst this
    exact ⟨none, 0, rfl, fun h => absurd rfl h⟩
  · refine ⟨_, cap, rfl, fun _ => ⟨g, 0, rfl, (Array.getElem?_eq_some_iff.1 hg).1, fun i hi => ?_⟩⟩
    rw [Nat.zero_add, h.cellAt i (by omega)]
    simp [bvals, List.getD_eq_getElem?_getD, hi]
set_option maxRecDepth 20000 in
theorem boolsV_of_row {w : World} {B : Nat} {l : List Bool} (h : w.rowIs B 4 l.length (fun j => .bool (l.getD j false))) : BoolsV w (.slice (some ⟨B, 0, none⟩) l.length l.length) l :=
  ⟨some ⟨B, 0, none⟩, l.length, rfl, fun _ => ⟨B, 0, rfl, h.lt, fun i hi => by rw [Nat.zero_add, h.cell hi]⟩⟩

end Go.Proofs.YtphdhcemachgdaaDoor

/-
  The contract of step.Letter.
-/
namespace Go.Proofs.YtphdhcemachgdaaDoor
open Go.ChangeShapes Go.WideShapes Go.ChangeAt Go.RowKit Go.Deep
open Terms Tm

/-- what Letter answers. -/
noncomputable def letC (m : Mo) (ps : List (List (Int × Int))) (code : Int) : Int := if pcode m ps = 0 then wcode m code else pcode m ps
noncomputable def letL (m : Mo) (ps : List (List (Int × Int))) (code : Int) : List Bool := if letC m ps code = 0 then ps.map (fun p => holdsB p (valsL m.vars code)) else []
set_option maxRecDepth 20000 in
theorem pcode_m {m : Mo} {ps : List (List (Int × Int))} (h : pcode m ps = 0) : mcode m = 0 ∧ ps.length ≤ 6 := by
  unfold pcode at h
  split at h
  · rename_i h1
    split at h
    · simp at h
    · exact ⟨h1, by omega⟩
  · rename_i h1; exact absurd h h1
set_option maxRecDepth 20000 in
theorem wcode_bare {m : Mo} (code : Int) (h : mcode m = 0) : wcode ⟨m.vars, []⟩ code = wcode m code := by
  unfold wcode
  rw [if_pos h, if_pos (mcode_bare h)]

set_option maxHeartbeats 3200000 in
set_option maxRecDepth 20000 in
/-- THE CONTRACT OF Letter. -/
theorem letter_any (va vr pv : Value) (m : Mo) (ps : List (List (Int × Int))) (code : Int) (w : World) (hB : 0 < w.heap.size) (hT : TabAt w) (hV : ModelV w va vr m) (hP : TermsV w pv ps) :
    Calls Tryd.prog 14 #[.agg #[va, vr], pv, .int .i64 code] w fun e w' => ∃ v, e = .returned (.tuple #[v, .int .i64 (letC m ps code)]) ∧ Below w.heap.size w w' ∧ BoolsV w' v (letL m ps code) := by
  have hA : ∀ o, Below w.heap.size w (w.alloc o) := fun o => (Below.refl _ _).alloc (Nat.le_refl _) o
  have hpr := fun o => mprops_any va vr pv m ps (w.alloc o) (Nat.lt_of_lt_of_le hB (hA o).size) (hT.below (hA o) hB) (hV.below (hA o)) (hP.below (hA o))
  obtain ⟨ao, cap, rfl⟩ := hV.1.shape
  obtain ⟨ro, rc, rfl⟩ := hV.2.shape
  obtain ⟨po, pc, rfl, hPa⟩ := hP
  have hba := fun w => bare_any ao ro m.vars.length cap m.rules.length rc w
  by_cases hp : pcode m ps = 0
  · obtain ⟨hm, hp6⟩ := pcode_m hp
    rw [hp] at hpr
    have hVb : ∀ w', Below w.heap.size w w' → ModelV w' (.slice ao m.vars.length cap) (.slice none 0 0) ⟨m.vars, []⟩ := fun w' hb => ⟨hV.1.below hb, ⟨none, 0, rfl, ⟨by simp, fun _ => ⟨rfl, rfl⟩⟩, fun h => by simp at h⟩⟩
    by_cases hw : wcode m code = 0
    · have hlc : letC m ps code = 0 := by unfold letC; rw [if_pos hp, hw]
      have hll : letL m ps code = ps.map (fun p => holdsB p (valsL m.vars code)) := by unfold letL; rw [if_pos hlc]
      rw [hlc, hll]
      have hvl := fun w' (hb : Below w.heap.size w w') => svalues_any _ _ ⟨m.vars, []⟩ code w' (Nat.lt_of_lt_of_le hB hb.size) (hT.below hb hB) (hVb w' hb) (by rw [wcode_bare _ hm]; exact hw)
      have hvl2 : ∀ w', Below w.heap.size w w' → Calls Tryd.prog 13 #[.agg #[.slice ao m.vars.length cap, .slice none 0 0], .int .i64 code] w' fun e w2 => ∃ B, e = .returned (.tuple #[.slice (some ⟨B, 0, none⟩) (valsL m.vars code).length (valsL m.vars code).length, .int .i64 0]) ∧ w'.heap.size ≤ B ∧ Below w'.heap.size w' w2 ∧ w2.rowIs B 3 (valsL m.vars code).length (fun j => .int .i64 ((valsL m.vars code).getD j 0)) := hvl
      generalize valsL m.vars code = env at hvl2 ⊢
      have HHo : Hid (∀ w' (_ : Below w.heap.size w w') v ev l, OpsV w' v l → IntsV w' ev env → Calls Tryd.prog 27 #[v, ev] w' fun e w2 => e = .returned (.bool (holdsB l env)) ∧ Below w'.heap.size w' w2) := fun w' hb v ev l h1 h2 => sholds_any v ev l env w' (Nat.lt_of_lt_of_le hB hb.size) (hT.below hb hB) h1 h2
      have HP : Hid (ps ≠ [] → ∃ b off, po = some ⟨b, off, none⟩ ∧ b < w.heap.size ∧ ∀ i, i < ps.length → ∃ u, w.cell? ⟨b, off + i, none⟩ = some u ∧ OpsV w u (ps.getD i [])) := hPa
      have HML : Hid ((ps.map (fun p => holdsB p env)).length = ps.length ∧ ∀ i, i < ps.length → (ps.map (fun p => holdsB p env)).getD i false = holdsB (ps.getD i []) env) := ⟨by simp, fun i hi => by simp [List.getD_eq_getElem?_getD, hi]⟩
      generalize ps.map (fun p => holdsB p env) = lt at HML ⊢
      obtain ⟨pn, hpn⟩ : ∃ pn, pn = ps.length := ⟨_, rfl⟩
      have HPN : Hid (pn = ps.length) := hpn
      rw [← hpn] at hpr hp6 HP HML ⊢
      generalize m.vars.length = n at *
      generalize m.rules.length = rn at *
      have hmk := run_make_row' (P := Tryd.prog) 52 4 (.bool false) 1 Tryd.underlying52 infoBool rfl .i64 .i64 pn (by omega) (by omega)
      clear hV hT hVb hlc hll hPa hvl hpn hw hm hp
      go_enter Tryd.func14, Tryd.ntmps14
      go_wp2_with (first | (go_at_call 25; refine (hpr _).mono ?_; rintro e w1 ⟨rfl, hb1⟩; have hbw1 := (hA _).trans (hb1.mono (hA _).size); have k10 : w1.cell? ⟨w.heap.size, 0, none⟩ = some (.slice ao n cap) := (hb1.cell (p := ⟨w.heap.size, 0, none⟩) (by simp)).trans (by simp [go_sem]); have k11 : w1.cell? ⟨w.heap.size, 1, none⟩ = some (.slice ro rn rc) := (hb1.cell (p := ⟨w.heap.size, 1, none⟩) (by simp)).trans (by simp [go_sem])) | (go_at_call 26; refine (hba _).mono ?_; rintro e w2 ⟨rfl, hb2⟩; have hbw2 := hbw1.trans (hb2.mono hbw1.size)) | (go_at_call 13; refine (hvl2 _ hbw2).mono ?_; rintro e w3 ⟨B, rfl, hBl, hb3, hr3⟩))
      have hbw3 := hbw2.trans (hb3.mono hbw2.size)
      have hrow0 := World.rowIs_made w3 (.bool false) pn 4
      have HI3 : Hid (∀ w', Below w3.heap.size w3 w' → IntsV w' (.slice (some ⟨B, 0, none⟩) env.length env.length) env) := fun w' hb => by
        have h1 := intsV_of_row hr3
        have e1 : (List.range env.length).map (fun j => env.getD j 0) = env := by
          apply List.ext_getElem?
          intro i
          by_cases hi : i < env.length
          · simp [hi, List.getD_eq_getElem?_getD]
          · simp [hi]
        rw [e1] at h1
        exact h1.below hb
      have HB3 : Hid (Below w.heap.size w w3) := hbw3
      clear hpr hvl2 hba hmk hb1 hbw1 k10 k11 hb2 hbw2 hb3 hr3 hbw3 hBl
      go_loopw [35] (fun i wr => ∃ k : Nat, k ≤ pn ∧ i = .int .i64 k ∧ Hid (wr.rowIs w3.heap.size 4 pn (fun j => if j < k then .bool (lt.getD j false) else .bool false)) ∧ Hid (Below w3.heap.size w3 wr)) (fun i _ => pn - (intOf i).toNat)
      case atStart => exact ⟨0, Nat.zero_le _, rfl, hrow0.congr (fun i hi => by rw [if_neg (by omega)]), (Below.refl _ _).alloc (Nat.le_refl _) _⟩
      case round =>
        obtain ⟨k, hk, rfl, HRow, HBel⟩ := hrel
        have hbel := HBel.out
        have hbw := HB3.out.trans (hbel.mono HB3.out.size)
        by_cases hlt : k < pn
        · obtain ⟨b, off, rfl, hblt, hat⟩ := HP.out (by intro h; have := HPN.out; subst h; simp at this; omega)
          obtain ⟨u, hu, hou⟩ := hat k hlt
          have c0 := (hbel.cell (p := ⟨b, off + k, none⟩) (Nat.lt_of_lt_of_le hblt HB3.out.size)).trans ((HB3.out.cell (p := ⟨b, off + k, none⟩) hblt).trans hu)
          obtain ⟨uo, uc, rfl⟩ := hou.shape
          have hho := HHo.out wr hbw _ _ _ (hou.below hbw) (HI3.out wr hbel)
          have HLk := (show Hid _ from HML.out.2 k hlt)
          generalize holdsB (ps.getD k []) env = tv at hho HLk
          generalize (ps.getD k []).length = ul at *
          have HWr : Hid (∀ w4, Below wr.heap.size wr w4 → w4.rowIs w3.heap.size 4 pn (fun j => if j < k then .bool (lt.getD j false) else .bool false) ∧ Below w3.heap.size w3 w4) := fun w4 hb => ⟨row_later HRow.out hb, hbel.trans (hb.mono hbel.size)⟩
          clear hat hu hou hbel hbw HHo HI3 HP HML
          go_wp2_with (go_at_call 27; refine hho.mono ?_; rintro e w4 ⟨rfl, hb4⟩; obtain ⟨hr4, hb34⟩ := HWr.out w4 hb4; have hf := hr4.frozen k; have hc : w4.cell? ⟨w3.heap.size, k, none⟩ = some (.bool false) := (by rw [hr4.cell hlt, if_neg (by omega)]); have HR4 : Hid (w4.rowIs w3.heap.size 4 pn (fun j => if j < k then .bool (lt.getD j false) else .bool false)) := hr4; clear hr4)
          refine ⟨⟨k + 1, hlt, by first | rfl | simp, (HR4.out.set k (.bool tv)).congr fun i hi => ?_, hb34.setCell (Nat.le_refl _) _⟩, by simp [intOf]; omega⟩
          by_cases hik : i = k
          · subst hik; rw [if_pos rfl, if_pos (by omega), HLk.out]
          · rw [if_neg hik]
            by_cases hlk : i < k
            · rw [if_pos hlk, if_pos (by omega)]
            · rw [if_neg hlk, if_neg (by omega)]
        · have hkn : k = pn := by omega
          subst hkn
          have hrow := HRow.out.congr (g := fun j => .bool (lt.getD j false)) (fun i hi => by rw [if_pos hi])
          rw [← HML.out.1] at hrow
          have hbo := boolsV_of_row hrow
          rw [HML.out.1] at hbo
          have HBO := (show Hid _ from hbo)
          clear hrow hbo
          go_wp2_with fail
          go_ret2
          exact ⟨_, rfl, hbw, HBO.out⟩
    · have hlc : letC m ps code = wcode m code := by unfold letC; rw [if_pos hp]
      have hll : letL m ps code = [] := by unfold letL; rw [if_neg (by rw [hlc]; exact hw)]
      rw [hlc, hll]
      have hvl := fun w' (hb : Below w.heap.size w w') => mvalues_any _ _ ⟨m.vars, []⟩ code w' (Nat.lt_of_lt_of_le hB hb.size) (hT.below hb hB) (hVb w' hb)
      rw [wcode_bare _ hm] at hvl
      generalize wcode m code = c at *
      generalize wvals ⟨m.vars, []⟩ code = vs at *
      generalize m.vars.length = n at *
      generalize m.rules.length = rn at *
      generalize ps.length = pn at *
      clear hV hT hVb hlc hll hPa
      go_enter Tryd.func14, Tryd.ntmps14
      go_wp2_with (first | (go_at_call 25; refine (hpr _).mono ?_; rintro e w1 ⟨rfl, hb1⟩; have hbw1 := (hA _).trans (hb1.mono (hA _).size); have k10 : w1.cell? ⟨w.heap.size, 0, none⟩ = some (.slice ao n cap) := (hb1.cell (p := ⟨w.heap.size, 0, none⟩) (by simp)).trans (by simp [go_sem]); have k11 : w1.cell? ⟨w.heap.size, 1, none⟩ = some (.slice ro rn rc) := (hb1.cell (p := ⟨w.heap.size, 1, none⟩) (by simp)).trans (by simp [go_sem])) | (go_at_call 26; refine (hba _).mono ?_; rintro e w2 ⟨rfl, hb2⟩; have hbw2 := hbw1.trans (hb2.mono hbw1.size)) | (go_at_call 13; refine (hvl _ hbw2).mono ?_; rintro e w3 ⟨v, rfl, hb3, _⟩))
      go_ret2
      exact ⟨_, rfl, hbw2.trans (hb3.mono hbw2.size), none, 0, rfl, fun h => absurd rfl h⟩
  · have hlc : letC m ps code = pcode m ps := by unfold letC; rw [if_neg hp]
    have hll : letL m ps code = [] := by unfold letL; rw [if_neg (by rw [hlc]; exact hp)]
    rw [hlc, hll]
    generalize pcode m ps = c at *
    generalize m.vars.length = n at *
    generalize m.rules.length = rn at *
    generalize ps.length = pn at *
    clear hV hT hlc hll hPa
    go_enter Tryd.func14, Tryd.ntmps14
    go_wp2_with (go_at_call 25; refine (hpr _).mono ?_; rintro e w1 ⟨rfl, hb1⟩)
    go_ret2
    exact ⟨_, rfl, (hA _).trans (hb1.mono (hA _).size), none, 0, rfl, fun h => absurd rfl h⟩
end Go.Proofs.YtphdhcemachgdaaDoor

/-
  The contract of the keeping laws' own joined: an op ahead of terms.
-/
namespace Go.Proofs.YtphdhcemachgdaaDoor
open Go.ChangeShapes Go.WideShapes Go.ChangeAt Go.RowKit Go.Deep
open Terms

set_option maxRecDepth 20000 in
theorem take_flat {ts : List (List (Int × Int))} {i : Nat} (hi : i < ts.length) : (ts.take (i + 1)).flatten = (ts.take i).flatten ++ ts.getD i [] := by
  rw [List.take_succ_eq_append_getElem hi, List.flatten_append]
  simp [List.getD_eq_getElem?_getD, hi]

set_option maxRecDepth 20000 in
set_option maxHeartbeats 800000 in
/-- THE CONTRACT OF joined. -/
theorem joined_any (kind : Int) (v : Value) (ts : List (List (Int × Int))) (w : World) (hn : ts.length ≤ 10) (hl : ∀ i, i ≤ ts.length → (ts.take i).flatten.length ≤ 200) (hne : ∀ i, i < ts.length → ts.getD i [] ≠ []) (hV : TermsV w v ts) :
    Calls Tryd.prog 28 #[.int .i64 kind, v] w fun e w' => ∃ v', e = .returned v' ∧ Below w.heap.size w w' ∧ w'.ownsRow w.heap.size 35 2 v' ((kind, 0) :: ts.flatten).length (flat ((kind, 0) :: ts.flatten)) := by
  obtain ⟨i0, hi, hz0, hz1, hz2⟩ := info_parts infoOp
  obtain ⟨va, vc, rfl, hat⟩ := hV
  obtain ⟨n, hnn⟩ : ∃ n, n = ts.length := ⟨_, rfl⟩
  have HN : Hid (n = ts.length) := hnn
  have HL := (show Hid _ from hl)
  have HNE := (show Hid _ from hne)
  have HA := (show Hid _ from hat)
  rw [← hnn] at hn ⊢
  clear hl hne hat hnn
  go_enter Tryd.func28, Tryd.ntmps28
  go_wp2_with fail
  go_loopw [5, 6] (fun out c wr => ∃ i : Nat, i ≤ n ∧ c = .int .i64 i ∧ wr.ownsRow w.heap.size 35 2 out ((ts.take i).flatten.length + 1) (flat ((kind, 0) :: (ts.take i).flatten)) ∧ Below w.heap.size w wr) (fun _ c _ => n - (intOf c).toNat)
  case atStart => exact ⟨0, Nat.zero_le _, rfl, World.ownsRow_lit w #[.int .i64 kind, .int .i64 0] 1 (Nat.le_refl _) (by unfold maxLen; omega) rfl, (Below.refl _ _).alloc (Nat.le_refl _) _⟩
  case round =>
    obtain ⟨i, hile, rfl, hown, hbel⟩ := hrel
    by_cases hlt : i < n
    · have hlt' : i < ts.length := by rw [← HN.out]; exact hlt
      obtain ⟨b, off, rfl, hbl, hcs⟩ := HA.out (by intro h; rw [h] at hlt'; simp at hlt')
      obtain ⟨u, hu, hou⟩ := hcs i hlt'
      have hcu := (hbel.cell (p := ⟨b, off + i, none⟩) hbl).trans hu
      obtain ⟨ua, uc, hus, _, huat⟩ := hou.below hbel
      obtain ⟨ub, uoff, rfl, hubl, huat⟩ := huat (HNE.out i hlt')
      have HS : Hid ((ts.take (i + 1)).flatten = (ts.take i).flatten ++ ts.getD i []) := take_flat hlt'
      have hl1 := HL.out (i + 1) (by omega)
      rw [HS.out, List.length_append] at hl1
      have HC : Hid (∀ j x, (flat (ts.getD i []))[j]? = some x → wr.cell? ((⟨ub, uoff, none⟩ : Addr).add j) = some x) := huat.cells
      obtain ⟨m, hm⟩ : ∃ m, m = (ts.getD i []).length := ⟨_, rfl⟩
      have HM : Hid (m = (ts.getD i []).length) := hm
      rw [← hm] at hus hl1
      subst hus
      obtain ⟨q, hq⟩ : ∃ q, q = (ts.take i).flatten.length := ⟨_, rfl⟩
      have HQ : Hid (q = (ts.take i).flatten.length) := hq
      rw [← hq] at hown hl1
      clear hou hu hcs huat hm hq hlt'
      generalize ts.getD i [] = tt at HC HM HS
      go_wp2_with (at_builtin; refine wpList_append_own _ rfl (.tmp 16) (.tmp 20) 36 rfl w.heap.size 35 i0 (.agg #[.int .i64 0, .int .i64 0]) 2 16 Tryd.underlying36 hi hz0 hz1 hz2 rfl (by decide) _ _ _ rfl hown ⟨ub, uoff, none⟩ m uc (flat tt) rfl ?c0 HC.out (flat_one _) ?c3 ?c4 ?c5 ?_)
      case c0 => rw [flat_length, HM.out]
      case c3 => unfold maxLen; omega
      case c4 => omega
      case c5 => exact hbel.size
      intro v' w4 hown' hgrow _
      have hb4 : Below w.heap.size w w4 := hbel.grown hgrow hbel.size (fun k hk => (hown.lt k hk).1)
      have ho4 : w4.ownsRow w.heap.size 35 2 v' ((ts.take (i + 1)).flatten.length + 1) (flat ((kind, 0) :: (ts.take (i + 1)).flatten)) := by
        have e1 : (ts.take (i + 1)).flatten.length + 1 = q + 1 + m := by rw [HS.out, List.length_append, ← HQ.out, ← HM.out]; omega
        have e2 : flat ((kind, 0) :: (ts.take (i + 1)).flatten) = flat ((kind, 0) :: (ts.take i).flatten) ++ flat tt := by rw [HS.out, ← flat_append]; rfl
        rw [e1, e2]
        exact hown'
      clear hown' hgrow hown
      go_wp2
      go_roundw
      case rel => exact ⟨i + 1, by omega, by go_num, ho4, hb4⟩
      case measure => simp [intOf]; omega
    · have hin : i = n := by omega
      subst hin
      rw [show ts.take i = ts by rw [HN.out, List.take_length]] at hown
      clear hlt hile
      go_wp2_with fail
      go_ret
      exact ⟨_, rfl, hbel, hown⟩
end Go.Proofs.YtphdhcemachgdaaDoor

/-
  The keeping laws' own joined, over one and over two terms.
-/
namespace Go.Proofs.YtphdhcemachgdaaDoor
open Go.ChangeShapes Go.WideShapes Go.ChangeAt Go.RowKit Go.Deep
open Terms

set_option maxRecDepth 20000 in
set_option maxRecDepth 20000 in
theorem joined1 (kind : Int) (g : Nat) (lv : Value) (l : List (Int × Int)) (w : World) (hc : w.cell? ⟨g, 0, none⟩ = some lv) (hl : l.length ≤ 60) (hne : l ≠ []) (hV : OpsV w lv l) :
    Calls Tryd.prog 28 #[.int .i64 kind, .slice (some ⟨g, 0, none⟩) 1 1] w fun e w' => ∃ a c, e = .returned (.slice a ((kind, 0) :: l).length c) ∧ Below w.heap.size w w' ∧ OpsV w' (.slice a ((kind, 0) :: l).length c) ((kind, 0) :: l) := by
  have hT : TermsV w (.slice (some ⟨g, 0, none⟩) 1 1) [l] := ⟨_, 1, rfl, fun _ => ⟨g, 0, rfl, World.block_lt_of_cell? w ⟨g, 0, none⟩ hc, fun i hi => by
    obtain rfl : i = 0 := by simp at hi; exact hi
    exact ⟨lv, hc, hV⟩⟩⟩
  refine (joined_any kind _ [l] w (by simp) (fun i hi => ?_) (fun i hi => ?_) hT).mono fun e w' ⟨v', he, hb, ho⟩ => ?_
  · have : i = 0 ∨ i = 1 := by simp at hi; omega
    rcases this with rfl | rfl <;> simp <;> omega
  · obtain rfl : i = 0 := by simp at hi; exact hi
    exact hne
  · have h2 : [l].flatten = l := by simp
    rw [h2] at ho
    obtain ⟨a, c, rfl⟩ := owns_slice ho
    exact ⟨a, c, he, hb, opsV_of_owns ho⟩
set_option maxRecDepth 20000 in
theorem joined2 (kind : Int) (g : Nat) (lv mv : Value) (l m : List (Int × Int)) (w : World) (hc : w.cell? ⟨g, 0, none⟩ = some lv) (hd : w.cell? ⟨g, 1, none⟩ = some mv) (hl : l.length ≤ 60) (hm : m.length ≤ 60) (hne : l ≠ []) (hne2 : m ≠ []) (hV : OpsV w lv l) (hM : OpsV w mv m) :
    Calls Tryd.prog 28 #[.int .i64 kind, .slice (some ⟨g, 0, none⟩) 2 2] w fun e w' => ∃ a c, e = .returned (.slice a ((kind, 0) :: (l ++ m)).length c) ∧ Below w.heap.size w w' ∧ OpsV w' (.slice a ((kind, 0) :: (l ++ m)).length c) ((kind, 0) :: (l ++ m)) := by
  have hT : TermsV w (.slice (some ⟨g, 0, none⟩) 2 2) [l, m] := ⟨_, 2, rfl, fun _ => ⟨g, 0, rfl, World.block_lt_of_cell? w ⟨g, 0, none⟩ hc, fun i hi => by
    have : i = 0 ∨ i = 1 := by simp at hi; omega
    rcases this with rfl | rfl
    · exact ⟨lv, hc, hV⟩
    · exact ⟨mv, hd, hM⟩⟩⟩
  refine (joined_any kind _ [l, m] w (by simp) (fun i hi => ?_) (fun i hi => ?_) hT).mono fun e w' ⟨v', he, hb, ho⟩ => ?_
  · have : i = 0 ∨ i = 1 ∨ i = 2 := by simp at hi; omega
    rcases this with rfl | rfl | rfl <;> simp <;> omega
  · have : i = 0 ∨ i = 1 := by simp at hi; omega
    rcases this with rfl | rfl
    · exact hne
    · exact hne2
  · have h2 : [l, m].flatten = l ++ m := by simp
    rw [h2] at ho
    obtain ⟨a, c, rfl⟩ := owns_slice ho
    exact ⟨a, c, he, hb, opsV_of_owns ho⟩
end Go.Proofs.YtphdhcemachgdaaDoor

/-
  The props that the keeping laws give a model, and what its letter says.
-/
namespace Go.Proofs.YtphdhcemachgdaaDoor
open Go.ChangeShapes Go.WideShapes Go.ChangeAt Go.RowKit Go.Deep
open Terms Tm

def tp0 : Tm := .bi 7 0 (.leaf 2 0) (.leaf 1 1)
def tp1 : Tm := .bi 7 0 (.leaf 2 0) (.leaf 2 1)
def tp2 : Tm := .bi 6 0 (.leaf 2 0) (.leaf 2 1)
def propsL : List (List (Int × Int)) := [[(7, 0), (2, 0), (1, 1)], [(7, 0), (2, 0), (2, 1)], [(6, 0), (2, 0), (2, 1)]]
theorem tp0_good : tp0.Good 2 := ⟨by decide, by decide, rfl, .inr (.inl ⟨rfl, by decide, by decide⟩), .inl ⟨rfl, by decide, by decide⟩⟩
theorem tp1_good : tp1.Good 2 := ⟨by decide, by decide, rfl, .inr (.inl ⟨rfl, by decide, by decide⟩), .inr (.inl ⟨rfl, by decide, by decide⟩)⟩
theorem tp2_good : tp2.Good 2 := ⟨by decide, by decide, rfl, .inr (.inl ⟨rfl, by decide, by decide⟩), .inr (.inl ⟨rfl, by decide, by decide⟩)⟩
theorem prop_code {T : Tm} (hg : T.Good 2) (h60 : T.size ≤ 60) (ht : T.typed = true) (hk : mkT T.kind = true) : kcode 2 T.ops true = 0 := by
  rw [kcode_tree (by decide) (by decide) hg h60 ht, if_pos hk]
theorem prop_holds {T : Tm} (hg : T.Good 2) (h60 : T.size ≤ 60) (ht : T.typed = true) {x y z : Int} (hx : -1000000 ≤ x ∧ x ≤ 1000000) (hy : -1000000 ≤ y ∧ y ≤ 1000000) (he : T.eval [x, y] = some z) : holdsB T.ops [x, y] = decide (z = 1) := by
  have hxc : xcode (([x, y] : List Int).length : Int) T.ops T = 0 := by
    have := xcode_good (vars := 2) (by decide) (by decide) hg h60
    rw [if_pos ht] at this
    exact this
  have hen : envBad [x, y] = false := envBad_ok fun j hj => by
    have : j = 0 ∨ j = 1 := by simp at hj; omega
    rcases this with rfl | rfl
    · exact hx
    · exact hy
  unfold holdsB exC exN
  rw [treeOf_ops hg.wf h60]
  unfold evalC evalN
  rw [hxc, hen, he]
  simp
theorem lid_bit (p : Prop) [Decidable p] : lid (if p then 1 else 0) = some (if p then 1 else 0) := by
  by_cases h : p
  · rw [if_pos h]; rfl
  · rw [if_neg h]; rfl
theorem props_hold {x y : Int} (hx : -1000000 ≤ x ∧ x ≤ 1000000) (hy : -1000000 ≤ y ∧ y ≤ 1000000) : propsL.map (fun p => holdsB p [x, y]) = [decide (x < 1), decide (x < y), decide (x = y)] := by
  have bit : ∀ (p : Prop) [Decidable p], decide ((if p then (1 : Int) else 0) = 1) = decide p := fun p _ => by by_cases h : p <;> simp [h]
  have h0 : holdsB [(7, 0), (2, 0), (1, 1)] [x, y] = decide (x < 1) := by
    have := prop_holds (T := tp0) (z := if x < 1 then 1 else 0) tp0_good (by decide) (by decide) hx hy (lid_bit (x < 1))
    rw [bit] at this
    exact this
  have h1 : holdsB [(7, 0), (2, 0), (2, 1)] [x, y] = decide (x < y) := by
    have := prop_holds (T := tp1) (z := if x < y then 1 else 0) tp1_good (by decide) (by decide) hx hy (lid_bit (x < y))
    rw [bit] at this
    exact this
  have h2 : holdsB [(6, 0), (2, 0), (2, 1)] [x, y] = decide (x = y) := by
    have := prop_holds (T := tp2) (z := if x = y then 1 else 0) tp2_good (by decide) (by decide) hx hy (lid_bit (x = y))
    rw [bit] at this
    exact this
  simp only [propsL, List.map_cons, List.map_nil, h0, h1, h2]
theorem props_code {m : Mo} (hm : mcode m = 0) (hv : m.vars.length = 2) : pcode m propsL = 0 := by
  unfold pcode
  rw [if_pos hm, if_neg (by decide)]
  refine firstOf_none fun j hj => ?_
  rw [hv]
  have : j = 0 ∨ j = 1 ∨ j = 2 := by simp [propsL] at hj; omega
  rcases this with rfl | rfl | rfl
  · exact prop_code tp0_good (by decide) (by decide) (by decide)
  · exact prop_code tp1_good (by decide) (by decide) (by decide)
  · exact prop_code tp2_good (by decide) (by decide) (by decide)
section
variable {a b : Vr} {w : World} {va vr pv : Value}
theorem kletter (hG : GV a b) {c : Int} (hc : 0 ≤ c ∧ c < vspan a * vspan b) (hB : 0 < w.heap.size) (hT : TabAt w) (hM : GModel w va vr [a, b]) (hP : TermsV w pv propsL) :
    Calls Tryd.prog 14 #[.agg #[va, vr], pv, .int .i64 c] w fun e w' => ∃ v, e = .returned (.tuple #[v, .int .i64 0]) ∧ Below w.heap.size w w' ∧ BoolsV w' v [decide ((cvals a b c).getD 0 0 < 1), decide ((cvals a b c).getD 0 0 < (cvals a b c).getD 1 0), decide ((cvals a b c).getD 0 0 = (cvals a b c).getD 1 0)] := by
  obtain ⟨rules, h1, h2, h3⟩ := hM
  have hm := hG.mcode (by omega) h3
  have hl := letter_any va vr pv ⟨[a, b], rules⟩ propsL c w hB hT h1 hP
  have e1 : letC ⟨[a, b], rules⟩ propsL c = 0 := by
    unfold letC
    rw [if_pos (props_code hm rfl)]
    exact wcode_yes hm ⟨hc.1, by show c < prodTo [a, b] 2; rw [prod_two]; exact hc.2⟩
  have e2 : valsL [a, b] c = [(cvals a b c).getD 0 0, (cvals a b c).getD 1 0] := by
    show [valAt [a, b] c 0, valAt [a, b] c 1] = _
    rw [val_zero hG hc.1 hc.2, val_one]; rfl
  have e3 : letL ⟨[a, b], rules⟩ propsL c = [decide ((cvals a b c).getD 0 0 < 1), decide ((cvals a b c).getD 0 0 < (cvals a b c).getD 1 0), decide ((cvals a b c).getD 0 0 = (cvals a b c).getD 1 0)] := by
    unfold letL
    rw [if_pos e1]
    show propsL.map (fun p => holdsB p (valsL [a, b] c)) = _
    rw [e2]
    obtain ⟨⟨k1, k2⟩, k3, k4⟩ := cvals_in hG hc.1 hc.2
    have := hG.a0
    have := hG.a1
    have := hG.a3
    have := hG.b0
    have := hG.b1
    have := hG.b3
    exact props_hold ⟨by show -1000000 ≤ a.lo + c / vspan b; omega, by show a.lo + c / vspan b ≤ 1000000; omega⟩ ⟨by show -1000000 ≤ b.lo + c % vspan b; omega, by show b.lo + c % vspan b ≤ 1000000; omega⟩
  rw [e1, e3] at hl
  exact hl
end
theorem ops_one (w : World) (k v : Int) : OpsV (w.alloc (.cells #[.int .i64 k, .int .i64 v] 35)) (.slice (some ⟨w.heap.size, 0, none⟩) 1 1) [(k, v)] := by
  refine ⟨_, 1, rfl, ⟨Nat.le_refl _, fun h => by cases h⟩, fun _ => ⟨w.heap.size, 0, rfl, by simp, fun i hi => ?_⟩⟩
  obtain rfl : i = 0 := by simpa using hi
  constructor <;> simp [go_sem]
theorem OpsV.al {w : World} {v : Value} {l : List (Int × Int)} (h : OpsV w v l) (o : Obj) : OpsV (w.alloc o) v l := h.below ((Below.refl _ _).alloc (Nat.le_refl _) o)

set_option maxHeartbeats 3200000 in
/-- THE CONTRACT OF props. -/
theorem propsFn_any (w : World) :
    Calls Tryd.prog 15 #[] w fun e w' => ∃ pb, e = .returned (.slice (some ⟨pb, 0, none⟩) 3 3) ∧ Below w.heap.size w w' ∧ TermsV w' (.slice (some ⟨pb, 0, none⟩) 3 3) propsL := by
  have tk1 := True.intro
  have tk2 := True.intro
  have tk3 := True.intro
  have hA : ∀ o1 o2 o3 o4, Below w.heap.size w ((((w.alloc o1).alloc o2).alloc o3).alloc o4) := fun o1 o2 o3 o4 => ((((Below.refl _ _).alloc (Nat.le_refl _) _).alloc (by simp) _).alloc (by simp; omega) _).alloc (by simp; omega) _
  have hX : ∀ o2 o3 o4, OpsV ((((w.alloc (.cells #[.int .i64 2, .int .i64 0] 35)).alloc o2).alloc o3).alloc o4) (.slice (some ⟨w.heap.size, 0, none⟩) 1 1) [(2, 0)] := fun o2 o3 o4 => (((ops_one w 2 0).al o2).al o3).al o4
  have hY : ∀ o1 o3 o4, OpsV ((((w.alloc o1).alloc (.cells #[.int .i64 2, .int .i64 1] 35)).alloc o3).alloc o4) (.slice (some ⟨w.heap.size + 1, 0, none⟩) 1 1) [(2, 1)] := fun o1 o3 o4 => by
    have := ((ops_one (w.alloc o1) 2 1).al o3).al o4
    rw [World.size_alloc] at this
    exact this
  have hN : ∀ o1 o2 o4, OpsV ((((w.alloc o1).alloc o2).alloc (.cells #[.int .i64 1, .int .i64 1] 35)).alloc o4) (.slice (some ⟨w.heap.size + 1 + 1, 0, none⟩) 1 1) [(1, 1)] := fun o1 o2 o4 => by
    have := (ops_one ((w.alloc o1).alloc o2) 1 1).al o4
    rw [World.size_alloc, World.size_alloc] at this
    exact this
  go_enter Tryd.func15, Tryd.ntmps15
  go_wp2_with (first | (clear tk1; go_at_call 28; refine (joined2 7 _ (.slice (some ⟨w.heap.size, 0, none⟩) 1 1) (.slice (some ⟨w.heap.size + 1 + 1, 0, none⟩) 1 1) [(2, 0)] [(1, 1)] _ (by simp [go_sem]) (by simp [go_sem]) (by simp) (by simp) (by simp) (by simp) (hX _ _ _) (hN _ _ _)).mono ?_; rintro e w5 ⟨a1, c1, rfl, hb5, hp1⟩; have hx5 := (hX _ _ _).below hb5; have hy5 := (hY _ _ _).below hb5; have hbw5 := (hA _ _ _ _).trans (hb5.mono (hA _ _ _ _).size)) | (clear tk2; go_at_call 28; refine (joined2 7 _ (.slice (some ⟨w.heap.size, 0, none⟩) 1 1) (.slice (some ⟨w.heap.size + 1, 0, none⟩) 1 1) [(2, 0)] [(2, 1)] _ (by simp [go_sem]) (by simp [go_sem]) (by simp) (by simp) (by simp) (by simp) (hx5.al _) (hy5.al _)).mono ?_; rintro e w6 ⟨a2, c2, rfl, hb6, hp2⟩; have hx6 := (hx5.al _).below hb6; have hy6 := (hy5.al _).below hb6; have hq6 := (hp1.al _).below hb6) | (clear tk3; go_at_call 28; refine (joined2 6 _ (.slice (some ⟨w.heap.size, 0, none⟩) 1 1) (.slice (some ⟨w.heap.size + 1, 0, none⟩) 1 1) [(2, 0)] [(2, 1)] _ (by simp [go_sem]) (by simp [go_sem]) (by simp) (by simp) (by simp) (by simp) (hx6.al _) (hy6.al _)).mono ?_; rintro e w7 ⟨a3, c3, rfl, hb7, hp3⟩; have hq7 := (hq6.al _).below hb7; have hr7 := (hp2.al _).below hb7))
  go_ret
  have h6 : Below w.heap.size w w6 := (hbw5.alloc hbw5.size _).trans (hb6.mono (hbw5.alloc hbw5.size _).size)
  have h7 : Below w.heap.size w w7 := (h6.alloc h6.size _).trans (hb7.mono (h6.alloc h6.size _).size)
  refine ⟨w7.heap.size, rfl, h7.alloc h7.size _, _, 3, rfl, fun _ => ⟨w7.heap.size, 0, rfl, by simp, fun i hi => ?_⟩⟩
  have : i = 0 ∨ i = 1 ∨ i = 2 := by simp [propsL] at hi; omega
  rcases this with rfl | rfl | rfl
  · exact ⟨_, by simp [go_sem], hq7.al _⟩
  · exact ⟨_, by simp [go_sem], hr7.al _⟩
  · exact ⟨_, by simp [go_sem], hp3.al _⟩
end Go.Proofs.YtphdhcemachgdaaDoor

namespace Go.Proofs.YtphdhcemachgdaaDoor
open Go.ChangeShapes Go.WideShapes Go.ChangeAt Go.RowKit Go.Deep
open Terms Tm

set_option maxHeartbeats 12800000 in
set_option maxRecDepth 20000 in
theorem letterSays_walk (c0 c1 c2 c3 c4 c5 c6 : Value) (a b : Vr) (code : Int) (w : World) (hB : 0 < w.heap.size) (hT : TabAt w) (hG : GV a b) (hc : I64 code)
    (hmd : ∀ w', Below w.heap.size w w' → Calls Tryd.prog 7 #[.agg #[c0, c1, c2, c3, c4, c5, c6]] w' fun e w2 => ∃ va vr, e = .returned (.agg #[va, vr]) ∧ Below w'.heap.size w' w2 ∧ GModel w2 va vr [a, b]) :
    Calls Tryd.prog 5 #[.agg #[c0, c1, c2, c3, c4, c5, c6], .int .i64 code] w fun e w' => e = .returned (.bool true) ∧ Below w.heap.size w w' := by
  have HT : Hid (∀ w', Below w.heap.size w w' → 0 < w'.heap.size ∧ TabAt w') := fun w' hb => ⟨Nat.lt_of_lt_of_le hB hb.size, hT.below hb hB⟩
  have hA : ∀ o, Below w.heap.size w (w.alloc o) := fun o => (Below.refl _ _).alloc (Nat.le_refl _) o
  clear hB hT
  go_enter Tryd.func5, Tryd.ntmps5
  go_upto_region 2 with (go_at_call 7; refine (hmd _ (hA _)).mono ?_; rintro e w1 ⟨va, vr, rfl, hb1, hM⟩; obtain ⟨ao, cap, ro, rn, rc, rfl, rfl, hrn⟩ := hM.shape)
  obtain ⟨hbW, hk⟩ := kept (a := a) (b := b) (t := 29) HT.out ((hA _).trans (hb1.mono (hA _).size)) hM rfl
  generalize w1.alloc (.cells #[.slice ao 2 cap, .slice ro rn rc] 29) = W2 at hbW hk ⊢
  have HK : Hid (∀ w', Below W2.heap.size W2 w' → (0 < w'.heap.size ∧ TabAt w' ∧ GModel w' (.slice ao 2 cap) (.slice ro rn rc) [a, b]) ∧ w'.cell? ⟨w1.heap.size, 0, none⟩ = some (.slice ao 2 cap) ∧ w'.cell? ⟨w1.heap.size, 1, none⟩ = some (.slice ro rn rc)) := hk
  have HBW : Hid (Below w.heap.size w W2) := hbW
  obtain ⟨⟨z0, z1, z2⟩, z3, z4⟩ := hk W2 (Below.refl _ _)
  have hcn := kcount hG z0 z1 z2
  have hP := hG.prod
  have hpk := fun w => picked_is code (vspan a * vspan b) w hc (by omega) (by omega)
  have hpr := pk_range (n := code) (m := vspan a * vspan b) (by omega)
  generalize pk code (vspan a * vspan b) = c at hpk hpr
  have HV : Hid (∀ w', Below W2.heap.size W2 w' → Calls Tryd.prog 13 #[.agg #[.slice ao 2 cap, .slice ro rn rc], .int .i64 c] w' fun e w2 => ∃ B, e = .returned (.tuple #[.slice (some ⟨B, 0, none⟩) 2 2, .int .i64 0]) ∧ w'.heap.size ≤ B ∧ Below w'.heap.size w' w2 ∧ w2.rowIs B 3 2 (fun j => .int .i64 ((cvals a b c).getD j 0))) := fun w' hb => kvalues hG hpr (HK.out w' hb).1.1 (HK.out w' hb).1.2.1 (HK.out w' hb).1.2.2
  have HL : Hid (∀ w' pv, Below W2.heap.size W2 w' → TermsV w' pv propsL → Calls Tryd.prog 14 #[.agg #[.slice ao 2 cap, .slice ro rn rc], pv, .int .i64 c] w' fun e w2 => ∃ v, e = .returned (.tuple #[v, .int .i64 0]) ∧ Below w'.heap.size w' w2 ∧ BoolsV w2 v [decide ((cvals a b c).getD 0 0 < 1), decide ((cvals a b c).getD 0 0 < (cvals a b c).getD 1 0), decide ((cvals a b c).getD 0 0 = (cvals a b c).getD 1 0)]) := fun w' pv hb hp => kletter hG hpr (HK.out w' hb).1.1 (HK.out w' hb).1.2.1 (HK.out w' hb).1.2.2 hp
  generalize cvals a b c = vs at HV HL
  generalize vspan a * vspan b = N at hP hpk hpr hcn
  obtain ⟨hp1, hp2⟩ := hP
  clear hk hbW hM hb1 hmd hc hG z0 z1 z2
  go_upto_region 7 with (first | (go_at_call 11; refine hcn.mono ?_; rintro e w3 ⟨rfl, hb3⟩; obtain ⟨k30, k31⟩ := (HK.out w3 hb3).2; have hvl := HV.out w3 hb3) | (go_at_call 8; refine (hpk _).mono ?_; rintro e w9 ⟨rfl, rfl⟩) | (go_at_call 13; refine hvl.mono ?_; rintro e w4 ⟨B, rfl, hB4, hb4, hR4⟩))
  have hb34 : Below W2.heap.size W2 w4 := hb3.trans (hb4.mono hb3.size)
  obtain ⟨k40, k41⟩ := (HK.out w4 hb34).2
  have hS : ∀ w', Below W2.heap.size W2 w' → w'.cell? ⟨w1.heap.size, 0, none⟩ = some (.slice ao 2 cap) ∧ w'.cell? ⟨w1.heap.size, 1, none⟩ = some (.slice ro rn rc) := fun w' hb => (HK.out w' hb).2
  clear hvl hcn hpk
  go_region_held3 (fun w' => w'.cell? ⟨w1.heap.size, 0, none⟩ = some (.slice ao 2 cap) ∧ w'.cell? ⟨w1.heap.size, 1, none⟩ = some (.slice ro rn rc)) (exact hS _ (by first | exact hb34 | exact hb34.drew | exact hb5w | exact hb5w.drew | exact hb6w | exact hb6w.drew)) (first | (go_at_call 15; refine (propsFn_any _).mono ?_; rintro e w5 ⟨pb, rfl, hb5, hP5⟩; have hb5w : Below W2.heap.size W2 w5 := Below.trans (by first | exact hb34 | exact hb34.drew) (hb5.mono (by first | exact hb34.size | exact hb34.drew.size))) | (go_at_call 14; refine (HL.out _ _ (by first | exact hb5w | exact hb5w.drew) hP5).mono ?_; rintro e w6 ⟨v6, rfl, hb6, hV6⟩; have hb6w : Below W2.heap.size W2 w6 := Below.trans (by first | exact hb5w | exact hb5w.drew) (hb6.mono (by first | exact hb5w.size | exact hb5w.drew.size)); obtain ⟨lo, lc, rfl, hV7⟩ := hV6; obtain ⟨lb, loff, rfl, hlb, hcl⟩ := hV7 (by simp)))
  have hb45 : Below w4.heap.size w4 w5 := by first | exact hb5 | exact below_undrew hb5
  have hb56 : Below w5.heap.size w5 w6 := by first | exact hb6 | exact below_undrew hb6
  have hb46 : Below w4.heap.size w4 w6 := hb45.trans (hb56.mono hb45.size)
  have hR6 : w6.rowIs B 3 2 (fun j => .int .i64 (vs.getD j 0)) := row_later hR4 hb46
  have m0 : w6.cell? ⟨B, 0, none⟩ = some (.int .i64 (vs.getD 0 0)) := hR6.cell (by decide)
  have m1 : w6.cell? ⟨B, 1, none⟩ = some (.int .i64 (vs.getD 1 0)) := hR6.cell (by decide)
  have l0 : w6.cell? ⟨lb, loff, none⟩ = some (.bool (decide (vs.getD 0 0 < 1))) := hcl 0 (by simp)
  have l1 : w6.cell? ⟨lb, loff + 1, none⟩ = some (.bool (decide (vs.getD 0 0 < vs.getD 1 0))) := hcl 1 (by simp)
  have l2 : w6.cell? ⟨lb, loff + 2, none⟩ = some (.bool (decide (vs.getD 0 0 = vs.getD 1 0))) := hcl 2 (by simp)
  have HE : Hid (Below w.heap.size w w6) := HBW.out.trans (hb6w.mono HBW.out.size)
  generalize vs.getD 0 0 = x at m0 l0 l1 l2
  generalize vs.getD 1 0 = y at m1 l1 l2
  clear hR6 hR4 hcl hV7 hb45 hb56 hb46 hb5 hb6 hb34 hb3 hb4 hb5w hb6w hP5 hS k30 k31 k40 k41 z3 z4 HL HV HK hp1 hp2 hpr hB4 HBW HT hA hrn
  go_wp2_with fail
  generalize hd1 : decide (x < 1) = p at l0
  generalize hd2 : decide (x < y) = q at l1
  generalize hd3 : decide (x = y) = r at l2
  cases p <;> cases q <;> cases r
  all_goals go_quiet (fail)
  all_goals go_wp2_with fail
  all_goals go_ret
  all_goals exact ⟨by first | rfl | (rw [show (x == y) = false from hd3]; rfl) | (rw [show (x == y) = true from hd3]; rfl) | (rw [show (x == y) = true from hd3]) | simp_all, below_drewN HE.out _⟩
end Go.Proofs.YtphdhcemachgdaaDoor
