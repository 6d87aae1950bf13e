/-
  tape.cut: a tape's first bytes, in new memory.
-/
import Derived.Test.YtjnobdpjohbdnaaTTape2
namespace Go.Proofs.Ytjnobdpjohbdnaa
open Go.ChangeShapes Go.WideShapes Go.ChangeAt Go.RowKit Go.Deep

section
variable {P : Program} {w : World}
theorem run_appz (t ty e : TypeId) (i : TypeInfo) (ht : P.underlying t = some (.slice e)) (hi : P.info? e = some i) (v : Value) (g n cap : Nat) (hv : v = .slice (some ⟨g, 0, none⟩) n cap) (so : Option Addr) (sc : Nat) (hnc : n ≤ cap) :
    (Builtin.append_ #[t, t] ty #[v, .slice so 0 sc]).run P w = .ok v w := by
  subst hv
  cases so with
  | none => simp [Builtin.append_, run_underlying ht, sizeOf, typeInfo, hi, Builtin.lenOf, Builtin.firstCells, hnc, storeCells]
  | some a => simp [Builtin.append_, run_underlying ht, sizeOf, typeInfo, hi, Builtin.lenOf, Builtin.firstCells, loadCells, loadCellsFrom, hnc, storeCells]
theorem step_appz {ops : Array Oper} {o : Oper} {a : Act} {K : Act → World → Prop} {Q : Exit → Act → World → Prop} {E : Prop} (hgd : o.guard = none) (s x : Operand) (t : TypeId)
    (ho : o.op = .call { callee := .builtin .append, args := #[s, x], argTypes := #[t, t] })
    (e : TypeId) (i : TypeInfo) (ht : P.underlying t = some (.slice e)) (hi : P.info? e = some i) (g n cap : Nat) (hs : a.eval s = .slice (some ⟨g, 0, none⟩) n cap) (so : Option Addr) (sc : Nat) (hx : a.eval x = .slice so 0 sc) (hnc : n ≤ cap) (h : ∀ w', Hid (w' = w) → K (a.put o.dst (.slice (some ⟨g, 0, none⟩) n cap)) w') :
    if Region.wanted o (yielded ops a.tmps) = true then Oper.wp P o a w K Q else E := by
  have hw : Region.wanted o (yielded ops a.tmps) = true := by simp [Region.wanted, hgd]
  rw [if_pos hw]
  have hr := run_appz (P := P) (w := w) t o.type e i ht hi _ g n cap rfl so sc hnc
  unfold Oper.wp execOp
  simp only [ho, resolve, invoke, builtin, Sem.run_bind, Sem.run_pure, Result.andThen_ok, List.map_toArray, List.map_cons, List.map_nil, hs, hx, hr]
  exact h w (show w = w from rfl)
end

set_option maxHeartbeats 1600000 in
set_option maxRecDepth 20000 in
/-- THE CONTRACT OF cut. -/
theorem cut_any (ao : Option Addr) (cap : Nat) (l : List UInt8) (s y : Int) (n : Nat) (w : World) (hl : l.length ≤ 1048576) (hn : n ≤ l.length) (hV : BytesV w (.slice ao l.length cap) l) :
    Calls Try.prog 24 #[.agg #[.slice ao l.length cap, .int .i64 s], .int .i64 n, .int .i64 y] w fun e w' => ∃ ao' cap', e = .returned (.agg #[.slice ao' n cap', .int .i64 y]) ∧ Below w.heap.size w w' ∧ w'.ownsRow w.heap.size 5 1 (.slice ao' n cap') n (bvals (l.take n)) := by
  obtain ⟨W0, hW0⟩ : ∃ W0, W0 = ((w.alloc (.cells #[.slice ao l.length cap, .int .i64 s] 29)).alloc (.cells #[.slice none 0 0, .int .i64 0] 29)) := ⟨_, rfl⟩
  have hA : Below w.heap.size w W0 := by rw [hW0]; exact ((Below.refl _ _).alloc (Nat.le_refl _) _).alloc (by simp) _
  have hz : W0.heap.size = w.heap.size + 1 + 1 := by rw [hW0]; simp
  have HSt : Hid (∀ w1, Below W0.heap.size W0 w1 → (w1.cell? ⟨w.heap.size, 0, none⟩ = some (.slice ao l.length cap) ∧ w1.cell? ⟨w.heap.size, 1, none⟩ = some (.int .i64 s)) ∧ w1.cell? ⟨w.heap.size + 1, 0, none⟩ = some (.slice none 0 0) ∧ w1.cell? ⟨w.heap.size + 1, 1, none⟩ = some (.int .i64 0) ∧ w1.frozen? ⟨w.heap.size + 1, 0, none⟩ = false ∧ w1.frozen? ⟨w.heap.size + 1, 1, none⟩ = false) := fun w1 hb => by
    refine ⟨⟨(hb.cell (p := ⟨w.heap.size, 0, none⟩) (by show w.heap.size < _; omega)).trans ?_, (hb.cell (p := ⟨w.heap.size, 1, none⟩) (by show w.heap.size < _; omega)).trans ?_⟩, (hb.cell (p := ⟨w.heap.size + 1, 0, none⟩) (by show w.heap.size + 1 < _; omega)).trans ?_, (hb.cell (p := ⟨w.heap.size + 1, 1, none⟩) (by show w.heap.size + 1 < _; omega)).trans ?_, (hb.frozen (p := ⟨w.heap.size + 1, 0, none⟩) (by show w.heap.size + 1 < _; omega)).trans ?_, (hb.frozen (p := ⟨w.heap.size + 1, 1, none⟩) (by show w.heap.size + 1 < _; omega)).trans ?_⟩ <;> (rw [hW0]; simp [go_sem])
  obtain ⟨i0, hi, hz0, hz1, hz2⟩ := info_parts infoByte
  have hmk : ∀ w1 : World, (Instr.makeSlice 22 (.int .i64 0) (.int .i64 (n : Int))).run Try.prog w1 = .ok (.slice (some ⟨w1.heap.size, 0, none⟩) 0 n) (w1.alloc (.cells (madeCells #[.int .u8 0] n) 5)) := fun w1 => by
    have := run_make (P := Try.prog) w1 22 5 i0 (.int .u8 0) Try.underlying22 hi hz0 .i64 .i64 0 n (Int.le_refl _) (by omega) (by rw [hz2]; omega) (by omega)
    simpa [hz1, Value.cells] using this
  have hB0 : Below W0.heap.size W0 W0 := Below.refl _ _
  have HOw : Hid (∀ w1 : World, (w1.alloc (.cells (madeCells #[.int .u8 0] n) 5)).ownsRow w1.heap.size 5 1 (.slice (some ⟨w1.heap.size, 0, none⟩) 0 n) 0 []) := fun w1 => World.ownsRow_made w1 _ n (Nat.le_refl _) (by unfold maxLen; omega) (by simp [size_madeCells])
  by_cases h0 : n = 0
  · subst h0
    have hmk0 : ∀ w1 : World, (Instr.makeSlice 22 (.int .i64 0) (.int .i64 0)).run Try.prog w1 = .ok (.slice (some ⟨w1.heap.size, 0, none⟩) 0 0) (w1.alloc (.cells (madeCells #[.int .u8 0] 0) 5)) := hmk
    have hO1 : (W0.alloc (.cells (madeCells #[.int .u8 0] 0) 5)).drew.ownsRow (w.heap.size + 1 + 1) 5 1 (.slice (some ⟨w.heap.size + 1 + 1, 0, none⟩) 0 0) 0 [] := by
      have := (HOw.out W0).drew
      rw [hz] at this
      exact this
    have hB1 : Below W0.heap.size W0 (W0.alloc (.cells (madeCells #[.int .u8 0] 0) 5)).drew := (hB0.alloc (Nat.le_refl _) _).drew
    rw [List.take_zero]
    obtain ⟨ao', cap', e1, ⟨hlc, hnone⟩, hat⟩ := hV
    simp at e1
    obtain ⟨rfl, rfl⟩ := e1
    have hm0 : ao = none → l.length = 0 ∧ cap = 0 := fun h => by obtain ⟨h1, h2⟩ := hnone h; exact ⟨by rw [h2]; rfl, h1⟩
    show Calls Try.prog 24 #[_, .int .i64 0, .int .i64 y] w _
    have hc2 : (0 : Int) ≤ (cap : Int) := by omega
    generalize l.length = m at *
    clear hat hnone hmk
    have HWd : Hid (∀ w1 : World, w1.drew.heap = w1.heap) := fun _ => rfl
    cases ao with
    | none =>
      obtain ⟨rfl, rfl⟩ := hm0 rfl
      go_enter Try.func24, Try.ntmps24
      go_wp2_with fail
      rw [← hW0]
      clear hW0
      have tk := True.intro
      go_region_held3 (fun w' => w'.cell? ⟨w.heap.size, 0, none⟩ = some (.slice none 0 0) ∧ w'.cell? ⟨w.heap.size, 1, none⟩ = some (.int .i64 s))
        (first | exact (HSt.out _ (by first | exact hB0 | exact hB0.drew | exact hB1 | exact hB0.drew.alloc (by simp) _ | exact hb01)).1 | (obtain ⟨⟨y0, y1⟩, _⟩ := HSt.out _ hb01; exact ⟨by simp [go_sem, y0], by simp [go_sem, y1]⟩))
        (first | (clear tk; refine step_appz (by rfl) (.tmp 8) (.tmp 12) 22 (by rfl) 5 i0 Try.underlying22 hi (w.heap.size + 1 + 1) 0 0 (by rfl) _ _ (by rfl) (Nat.le_refl _) ?_; intro wB HEq; have hb01 : Below W0.heap.size W0 wB := (by rw [HEq.out]; exact hB1); have howB : wB.ownsRow (w.heap.size + 1 + 1) 5 1 (.slice (some ⟨w.heap.size + 1 + 1, 0, none⟩) 0 0) 0 [] := (by rw [HEq.out]; exact hO1); obtain ⟨_, k0, k1, f0, f1⟩ := HSt.out _ hb01))
      have hbw := hA.trans (hb01.mono hA.size)
      have HV3 : Hid (((wB.setCell ⟨w.heap.size + 1, 0, none⟩ (.slice (some ⟨w.heap.size + 1 + 1, 0, none⟩) 0 0)).setCell ⟨w.heap.size + 1, 1, none⟩ (.int .i64 y)).ownsRow w.heap.size 5 1 (.slice (some ⟨w.heap.size + 1 + 1, 0, none⟩) 0 0) 0 []) := owns_mono (owns_setCell (owns_setCell howB (by show w.heap.size + 1 < _; omega) _) (by show w.heap.size + 1 < _; omega) _) (by omega)
      have HBf : Hid (Below w.heap.size w ((wB.setCell ⟨w.heap.size + 1, 0, none⟩ (.slice (some ⟨w.heap.size + 1 + 1, 0, none⟩) 0 0)).setCell ⟨w.heap.size + 1, 1, none⟩ (.int .i64 y))) := (hbw.setCell (p := ⟨w.heap.size + 1, 0, none⟩) (by simp) _).setCell (p := ⟨w.heap.size + 1, 1, none⟩) (by simp) _
      go_wp2_with fail
      refine bodyPost_ret (v := .agg #[.slice (some ⟨w.heap.size + 1 + 1, 0, none⟩) 0 0, .int .i64 y]) ?_ rfl ⟨_, _, rfl, HBf.out, HV3.out⟩
      simp [results, Try.results24, go_sem, k0, k1]
    | some a =>
      go_enter Try.func24, Try.ntmps24
      go_wp2_with fail
      rw [← hW0]
      clear hW0
      have tk := True.intro
      go_region_held3 (fun w' => w'.cell? ⟨w.heap.size, 0, none⟩ = some (.slice (some a) m cap) ∧ w'.cell? ⟨w.heap.size, 1, none⟩ = some (.int .i64 s))
        (first | exact (HSt.out _ (by first | exact hB0 | exact hB0.drew | exact hB1 | exact hB0.drew.alloc (by simp) _ | exact hb01)).1 | (obtain ⟨⟨y0, y1⟩, _⟩ := HSt.out _ hb01; exact ⟨by simp [go_sem, y0], by simp [go_sem, y1]⟩))
        (first | (clear tk; refine step_appz (by rfl) (.tmp 8) (.tmp 12) 22 (by rfl) 5 i0 Try.underlying22 hi (w.heap.size + 1 + 1) 0 0 (by rfl) _ _ (by rfl) (Nat.le_refl _) ?_; intro wB HEq; have hb01 : Below W0.heap.size W0 wB := (by rw [HEq.out]; exact hB1); have howB : wB.ownsRow (w.heap.size + 1 + 1) 5 1 (.slice (some ⟨w.heap.size + 1 + 1, 0, none⟩) 0 0) 0 [] := (by rw [HEq.out]; exact hO1); obtain ⟨_, k0, k1, f0, f1⟩ := HSt.out _ hb01))
      have hbw := hA.trans (hb01.mono hA.size)
      have HV3 : Hid (((wB.setCell ⟨w.heap.size + 1, 0, none⟩ (.slice (some ⟨w.heap.size + 1 + 1, 0, none⟩) 0 0)).setCell ⟨w.heap.size + 1, 1, none⟩ (.int .i64 y)).ownsRow w.heap.size 5 1 (.slice (some ⟨w.heap.size + 1 + 1, 0, none⟩) 0 0) 0 []) := owns_mono (owns_setCell (owns_setCell howB (by show w.heap.size + 1 < _; omega) _) (by show w.heap.size + 1 < _; omega) _) (by omega)
      have HBf : Hid (Below w.heap.size w ((wB.setCell ⟨w.heap.size + 1, 0, none⟩ (.slice (some ⟨w.heap.size + 1 + 1, 0, none⟩) 0 0)).setCell ⟨w.heap.size + 1, 1, none⟩ (.int .i64 y))) := (hbw.setCell (p := ⟨w.heap.size + 1, 0, none⟩) (by simp) _).setCell (p := ⟨w.heap.size + 1, 1, none⟩) (by simp) _
      go_wp2_with fail
      refine bodyPost_ret (v := .agg #[.slice (some ⟨w.heap.size + 1 + 1, 0, none⟩) 0 0, .int .i64 y]) ?_ rfl ⟨_, _, rfl, HBf.out, HV3.out⟩
      simp [results, Try.results24, go_sem, k0, k1]
  · have hne : l ≠ [] := by intro h; subst h; simp at hn; omega
    have hVc := hV
    obtain ⟨ao', cap', e1, ⟨hlc, _⟩, hat⟩ := hV
    simp at e1
    obtain ⟨rfl, rfl⟩ := e1
    obtain ⟨b, off, rfl, hbl, hba⟩ := hat hne
    have HC : Hid (∀ w1, Below w.heap.size w w1 → ∀ j u, (bvals (l.take n))[j]? = some u → w1.cell? ((⟨b, off, none⟩ : Addr).add j) = some u) := fun w1 hb j u hj => by
      have hjn : j < (l.take n).length := by have := (List.getElem?_eq_some_iff.1 hj).1; simpa [bvals] using this
      have hjl : j < l.length := by rw [List.length_take] at hjn; omega
      have := (hba.below hb hbl).cells j u
      refine this ?_
      rw [← hj]
      simp [bvals, List.getElem?_take]
      rw [List.length_take] at hjn
      omega
    have HLn : Hid ((bvals (l.take n)).length = n * 1) := by show _ = _; rw [bvals_length, List.length_take]; omega
    have HOne : Hid (∀ u ∈ bvals (l.take n), u.oneCell' = true) := bvals_one _
    have hnc : n ≤ cap := by omega
    have hnc2 : (n : Int) ≤ (cap : Int) := by omega
    have hnc3 : ¬ (n : Int) < 0 := by omega
    have hnc4 : ¬ (cap : Int) < (n : Int) := by omega
    generalize bvals (l.take n) = xs at *
    generalize l.length = m at *
    clear hVc hat hba hne hlc
    go_enter Try.func24, Try.ntmps24
    go_wp2_with fail
    rw [← hW0]
    have HW0 := (show Hid _ from hW0)
    clear hW0
    have tk := True.intro
    have hO1 : (W0.alloc (.cells (madeCells #[.int .u8 0] n) 5)).drew.ownsRow (w.heap.size + 1 + 1) 5 1 (.slice (some ⟨w.heap.size + 1 + 1, 0, none⟩) 0 n) 0 [] := by
      have := (HOw.out W0).drew
      rw [hz] at this
      exact this
    have hB1 : Below W0.heap.size W0 (W0.alloc (.cells (madeCells #[.int .u8 0] n) 5)).drew := (hB0.alloc (Nat.le_refl _) _).drew
    have hc1 := HC.out _ (hA.trans (hB1.mono hA.size))
    have hs1 : w.heap.size + 1 + 1 ≤ (W0.alloc (.cells (madeCells #[.int .u8 0] n) 5)).drew.heap.size := by rw [← hz]; exact hB1.size
    go_region_held3 (fun w' => w'.cell? ⟨w.heap.size, 0, none⟩ = some (.slice (some ⟨b, off, none⟩) m cap) ∧ w'.cell? ⟨w.heap.size, 1, none⟩ = some (.int .i64 s))
      (first | exact (HSt.out _ (by first | exact hB0 | exact hB0.drew | exact hB1 | exact hB0.drew.alloc (by simp) _ | exact hb01)).1 | (obtain ⟨⟨y0, y1⟩, _⟩ := HSt.out _ hb01; exact ⟨by simp [go_sem, y0], by simp [go_sem, y1]⟩))
      (first | (clear tk; refine step_append_lies _ (by rfl) (.tmp 8) (.tmp 12) 22 (by rfl) (w.heap.size + 1 + 1) 5 i0 _ 1 1 Try.underlying22 hi hz0 hz1 hz2 (by rfl) (by decide) (.slice (some ⟨w.heap.size + 1 + 1, 0, none⟩) 0 n) 0 [] (by rfl) hO1 ⟨b, off, none⟩ n cap xs (by rfl) HLn.out hc1 HOne.out (by omega) (by unfold maxLen; omega) (by omega) hs1 _ rfl ?_; intro gB capB wB howB hgrB hatB hltB; have hb01 : Below W0.heap.size W0 wB := (hB1.grown hgrB hB1.size (fun q hq => (by simp [Value.ownBlock] at hq; omega))); rw [Nat.zero_add, List.nil_append] at howB; obtain ⟨_, k0, k1, f0, f1⟩ := HSt.out _ hb01))
    have hbw := hA.trans (hb01.mono hA.size)
    have HV3 : Hid (((wB.setCell ⟨w.heap.size + 1, 0, none⟩ (.slice (some ⟨gB, 0, none⟩) n capB)).setCell ⟨w.heap.size + 1, 1, none⟩ (.int .i64 y)).ownsRow w.heap.size 5 1 (.slice (some ⟨gB, 0, none⟩) n capB) n xs) := owns_mono (owns_setCell (owns_setCell howB (by show w.heap.size + 1 < _; omega) _) (by show w.heap.size + 1 < _; omega) _) (by omega)
    have HBf : Hid (Below w.heap.size w ((wB.setCell ⟨w.heap.size + 1, 0, none⟩ (.slice (some ⟨gB, 0, none⟩) n capB)).setCell ⟨w.heap.size + 1, 1, none⟩ (.int .i64 y))) := (hbw.setCell (p := ⟨w.heap.size + 1, 0, none⟩) (by simp) _).setCell (p := ⟨w.heap.size + 1, 1, none⟩) (by simp) _
    go_wp2_with fail
    refine bodyPost_ret (v := .agg #[.slice (some ⟨gB, 0, none⟩) n capB, .int .i64 y]) ?_ rfl ⟨_, _, rfl, HBf.out, HV3.out⟩
    simp [results, Try.results24, go_sem, k0, k1]
end Go.Proofs.Ytjnobdpjohbdnaa
