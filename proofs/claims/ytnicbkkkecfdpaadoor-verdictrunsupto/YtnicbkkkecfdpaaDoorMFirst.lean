/-
  The contract of the program's First.
-/
import Derived.Test.YtnicbkkkecfdpaaDoorMCode
import Derived.Test.YtnicbkkkecfdpaaDoorValRes
namespace Go.Proofs.YtnicbkkkecfdpaaDoor
open Go.ChangeShapes Go.WideShapes Go.ChangeAt Go.RowKit Go.Deep
open Terms Tm

set_option maxRecDepth 20000 in
theorem initsL_length (l : List Vr) : (initsL l).length = l.length := by simp [initsL]
set_option maxRecDepth 20000 in
theorem initsL_get {l : List Vr} {i : Nat} (h : i < l.length) : (initsL l).getD i 0 = (l.getD i vr0).ini := by
  simp [initsL, List.getD_eq_getElem?_getD, h]

set_option maxRecDepth 20000 in
set_option maxHeartbeats 1600000 in
theorem mfirst_loop (va vr : Value) (m : Mo) (w : World) (hB : 0 < w.heap.size) (hT : TabAt w) (hV : ModelV w va vr m) (h : mcode m = 0) :
    Calls Tryd.prog 8 #[.agg #[va, vr]] w fun e w' => e = .returned (.tuple #[.int .i64 (codeTo m.vars (initsL m.vars) m.vars.length), .int .i64 0]) ∧ Below w.heap.size w w' := by
  have hA : ∀ o, Below w.heap.size w (w.alloc o) := fun o => (Below.refl _ _).alloc (Nat.le_refl _) o
  have hch := fun o => mcheck_any va vr m (w.alloc o) (Nat.lt_of_lt_of_le hB (hA o).size) (hT.below (hA o) hB) (hV.below (hA o))
  rw [h] at hch
  have hok := mcode_vars h
  have h6 := hok.1
  have hcf := (fun vv w1 (hb : Below w.heap.size w w1) (hI : IntsV w1 vv (initsL m.vars)) => codeOf_any va vv m.vars (initsL m.vars) w1 hok (initsL_length _) (inits_in hok) (hV.1.below hb) hI)
  obtain ⟨ao, cap, rfl⟩ := hV.1.shape
  obtain ⟨ro, rc, rfl⟩ := hV.2.shape
  have HCF := (show Hid _ from hcf)
  have HV : Hid (VarsV w (.slice ao m.vars.length cap) m.vars) := hV.1
  have HIn : Hid (∀ i, i < m.vars.length → (initsL m.vars).getD i 0 = (m.vars.getD i vr0).ini) := fun i hi => initsL_get hi
  have HLn : Hid ((initsL m.vars).length = m.vars.length) := initsL_length _
  generalize codeTo m.vars (initsL m.vars) m.vars.length = res at *
  obtain ⟨n, hn⟩ : ∃ n, n = m.vars.length := ⟨_, rfl⟩
  have HN : Hid (n = m.vars.length) := hn
  rw [← hn] at h6 hch HCF HV HIn HLn ⊢
  generalize m.rules.length = rn at *
  have hmk := run_make_row' (P := Tryd.prog) 26 3 (.int .i64 0) 8 Tryd.underlying26 infoInt rfl .i64 .i64 n (by omega) (by omega)
  clear hV hT hn hok h hcf
  go_enter Tryd.func8, Tryd.ntmps8
  go_wp2_with (go_at_call 16; refine (hch _).mono ?_; rintro e w1 ⟨rfl, hb1⟩; have hcb : w1.cell? ⟨w.heap.size, 0, none⟩ = some (.slice ao n cap) := (hb1.cell (p := ⟨w.heap.size, 0, none⟩) (by simp)).trans (by simp [go_sem]); have hs1 : w.heap.size < w1.heap.size := (by have := hb1.size; simp at this; omega); have hcbA : ∀ o, (w1.alloc o).cell? ⟨w.heap.size, 0, none⟩ = some (.slice ao n cap) := (fun o => (((Below.refl w1.heap.size w1).alloc (Nat.le_refl _) o).cell (p := ⟨w.heap.size, 0, none⟩) hs1).trans hcb))
  have hbw := (hA _).trans (hb1.mono (hA _).size)
  have hrow0 := World.rowIs_made w1 (.int .i64 0) n 3
  have HB1 : Hid (Below w.heap.size w w1) := hbw
  clear hch hmk hb1 hbw hcbA
  go_loopw [20] (fun i wr => ∃ k : Nat, k ≤ n ∧ i = .int .i64 k ∧ Hid (wr.rowIs w1.heap.size 3 n (fun j => if j < k then .int .i64 ((initsL m.vars).getD j 0) else .int .i64 0)) ∧ Hid (Below w1.heap.size w1 wr)) (fun i _ => n - (intOf i).toNat)
  case atStart => exact ⟨0, Nat.zero_le _, rfl, hrow0.congr (fun i hi => by rw [if_neg (by omega)]), (Below.refl _ _).alloc (Nat.le_refl _) _⟩
  case round =>
    obtain ⟨k, hk, rfl, HRow, HBel⟩ := hrel
    have hbel := HBel.out
    have hrow := HRow.out
    have hbw := HB1.out.trans (hbel.mono HB1.out.size)
    have hszr := hrow.lt
    have cb := (hbel.cell (p := ⟨w.heap.size, 0, none⟩) hs1).trans hcb
    by_cases hlt : k < n
    · obtain ⟨b, off, rfl, hblt, hat⟩ := HV.out.at (i := k) (by rw [← HN.out]; exact hlt)
      obtain ⟨c0, c1, c2, c3⟩ := hat.below hbw hblt
      have HIk := (show Hid _ from HIn.out k hlt)
      have hA2 := fun o => hrow.alloc o
      have hf : ∀ o, (wr.alloc o).frozen? ⟨w1.heap.size, k, none⟩ = false := fun o => (hA2 o).frozen k
      have hcl : ∀ o, (wr.alloc o).cell? ⟨w1.heap.size, k, none⟩ = some (.int .i64 0) := fun o => by rw [(hA2 o).cell hlt, if_neg (by omega)]
      generalize m.vars.getD k vr0 = x at *
      obtain ⟨s, lo, hi, ini⟩ := x
      simp only at c0 c1 c2 c3 HIk
      have hfin : (((wr.setCell ⟨w1.heap.size, k, none⟩ (.int .i64 ini)).alloc (.cells #[.string s, .int .i64 lo, .int .i64 hi, .int .i64 ini] 51)).rowIs w1.heap.size 3 n (fun j => if j < k + 1 then .int .i64 ((initsL m.vars).getD j 0) else .int .i64 0)) := ((hrow.set k (.int .i64 ini)).alloc _).congr fun j hj => by
        by_cases hjk : j = k
        · subst hjk; rw [if_pos rfl, if_pos (by omega), HIk.out]
        · rw [if_neg hjk]
          by_cases hlk : j < k
          · rw [if_pos hlk, if_pos (by omega)]
          · rw [if_neg hlk, if_neg (by omega)]
      have hbA := (hbel.setCell (p := ⟨w1.heap.size, k, none⟩) (Nat.le_refl _) (.int .i64 ini)).alloc (by simp; omega) (.cells #[.string s, .int .i64 lo, .int .i64 hi, .int .i64 ini] 51)
      have HF := (show Hid _ from hfin)
      have HBA := (show Hid _ from hbA)
      have hfs := hf (.cells #[.string s, .int .i64 lo, .int .i64 hi, .int .i64 ini] 51)
      have hcs := hcl (.cells #[.string s, .int .i64 lo, .int .i64 hi, .int .i64 ini] 51)
      clear hat hA2 hf hcl hfin hbA hrow hbel hrow0
      go_wp2_with fail
      go_roundw
      case rel => exact ⟨k + 1, hlt, by go_num, HF.out, HBA.out⟩
      case measure => simp [intOf]; omega
    · have hkn : k = n := by omega
      subst hkn
      have hI : IntsV wr (.slice (some ⟨w1.heap.size, 0, none⟩) k k) (initsL m.vars) := by
        have := intsV_of_row (hrow.congr (g := fun j => .int .i64 ((initsL m.vars).getD j 0)) (fun i hi => by rw [if_pos hi]))
        have e : (List.range k).map (fun j => (initsL m.vars).getD j 0) = initsL m.vars := by
          apply List.ext_getElem?
          intro i
          by_cases hi : i < k
          · simp [hi, List.getD_eq_getElem?_getD, show i < (initsL m.vars).length by rw [HLn.out]; exact hi]
          · simp [hi, show ¬ i < (initsL m.vars).length by rw [HLn.out]; exact hi]
        rwa [e] at this
      have hcf := HCF.out _ wr hbw hI
      clear hI hrow HCF HRow hrow0
      go_wp2_with (go_at_call 17; refine hcf.mono ?_; rintro e w2 ⟨rfl, hb2⟩)
      go_ret2
      exact ⟨rfl, hbw.trans (hb2.mono hbw.size)⟩

set_option maxRecDepth 20000 in
theorem mfirst_bad (va vr : Value) (m : Mo) (w : World) (hB : 0 < w.heap.size) (hT : TabAt w) (hV : ModelV w va vr m) (h : mcode m ≠ 0) :
    Calls Tryd.prog 8 #[.agg #[va, vr]] w fun e w' => e = .returned (.tuple #[.int .i64 0, .int .i64 (mcode m)]) ∧ Below w.heap.size w w' := by
  have hA : ∀ o, Below w.heap.size w (w.alloc o) := fun o => (Below.refl _ _).alloc (Nat.le_refl _) o
  have hch := fun o => mcheck_any va vr m (w.alloc o) (Nat.lt_of_lt_of_le hB (hA o).size) (hT.below (hA o) hB) (hV.below (hA o))
  obtain ⟨ao, cap, rfl⟩ := hV.1.shape
  obtain ⟨ro, rc, rfl⟩ := hV.2.shape
  generalize mcode m = x at *
  generalize m.vars.length = n at *
  generalize m.rules.length = rn at *
  clear hV hT
  go_enter Tryd.func8, Tryd.ntmps8
  go_wp2_with (go_at_call 16; refine (hch _).mono ?_; rintro e w1 ⟨rfl, hb1⟩)
  go_ret2
  exact ⟨rfl, (hA _).trans (hb1.mono (hA _).size)⟩
set_option maxRecDepth 20000 in
/-- THE CONTRACT OF First. -/
theorem mfirst_any (va vr : Value) (m : Mo) (w : World) (hB : 0 < w.heap.size) (hT : TabAt w) (hV : ModelV w va vr m) :
    Calls Tryd.prog 8 #[.agg #[va, vr]] w fun e w' => e = .returned (.tuple #[.int .i64 (if mcode m = 0 then codeTo m.vars (initsL m.vars) m.vars.length else 0), .int .i64 (mcode m)]) ∧ Below w.heap.size w w' := by
  by_cases h : mcode m = 0
  · rw [if_pos h, h]
    exact mfirst_loop va vr m w hB hT hV h
  · rw [if_neg h]
    exact mfirst_bad va vr m w hB hT hV h
end Go.Proofs.YtnicbkkkecfdpaaDoor
