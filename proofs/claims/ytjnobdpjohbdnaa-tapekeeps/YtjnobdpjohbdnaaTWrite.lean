/-
  tape.Write.
-/
import Derived.Test.YtjnobdpjohbdnaaTRec2
namespace Go.Proofs.Ytjnobdpjohbdnaa
open Go.ChangeShapes Go.WideShapes Go.ChangeAt Go.RowKit Go.Deep

theorem Bx.low {w w1 w2 : World} {x0 x1 : Value} {B : Nat} (h : Bx w w1 x0 x1) (hb : Below B w1 w2) (hB : w.heap.size + 1 + 1 ≤ B) : Bx w w2 x0 x1 := by
  exact ⟨h.b.trans (hb.mono (by omega)), Nat.le_trans h.z hb.size, (hb.cell (p := ⟨w.heap.size, 0, none⟩) (by show w.heap.size < _; omega)).trans h.a0, (hb.cell (p := ⟨w.heap.size, 1, none⟩) (by show w.heap.size < _; omega)).trans h.a1, (hb.cell (p := ⟨w.heap.size + 1, 0, none⟩) (by show w.heap.size + 1 < _; omega)).trans h.r0, (hb.cell (p := ⟨w.heap.size + 1, 1, none⟩) (by show w.heap.size + 1 < _; omega)).trans h.r1, (hb.frozen (p := ⟨w.heap.size + 1, 0, none⟩) (by show w.heap.size + 1 < _; omega)).trans h.f0, (hb.frozen (p := ⟨w.heap.size + 1, 1, none⟩) (by show w.heap.size + 1 < _; omega)).trans h.f1⟩

set_option maxHeartbeats 1600000 in
set_option maxRecDepth 20000 in
theorem write_bad (ao : Option Addr) (cap : Nat) (l : List UInt8) (s : Int) (v : Value) (r : List Int) (w : World) (hr : r.length ≤ 140737488355328) (hI : IntsV w v r) (hm : mayB l.length s = false) :
    Calls Try.prog 17 #[.agg #[.slice ao l.length cap, .int .i64 s], v] w (TAns w [] 0 9) := by
  obtain ⟨bo, bcap, hbs⟩ : ∃ bo bcap, v = .slice bo r.length bcap := by obtain ⟨bo, bcap, h, _⟩ := id hI; exact ⟨bo, bcap, h⟩
  subst hbs
  have hst := Bx.start w (.slice ao l.length cap) (.int .i64 s) 29 29
  have hmb := mayBe_any ao l.length cap s ((w.alloc (.cells #[.slice ao l.length cap, .int .i64 s] 29)).alloc (.cells #[.slice none 0 0, .int .i64 0] 29))
  rw [hm] at hmb
  have HBx : Hid (∀ w1, Below ((w.alloc (.cells #[.slice ao l.length cap, .int .i64 s] 29)).alloc (.cells #[.slice none 0 0, .int .i64 0] 29)).heap.size ((w.alloc (.cells #[.slice ao l.length cap, .int .i64 s] 29)).alloc (.cells #[.slice none 0 0, .int .i64 0] 29)) w1 → Bx w w1 (.slice ao l.length cap) (.int .i64 s)) := fun w1 hb => hst.later hb
  have HCn : Hid (∀ w1, Bx w w1 (.slice ao l.length cap) (.int .i64 s) → Calls Try.prog 25 #[.slice bo r.length bcap, .func (.func 26) #[] #[]] w1 fun e w' => e = .returned (.bool (r.any outB)) ∧ w' = w1) := fun w1 hx => contains_any _ r w1 hr (hI.below hx.b)
  generalize l.length = n at *
  generalize r.length = k at *
  clear hst hm hI
  go_enter Try.func17, Try.ntmps17
  go_wp2_with (first | (go_at_call 21; refine hmb.mono ?_; rintro e w1 ⟨rfl, hb1⟩; have hx := HBx.out w1 hb1; have hcn := HCn.out w1 hx; obtain ⟨_, _, a0, a1, r0, r1, f0, f1⟩ := id hx) | (go_at_call 25; refine hcn.mono ?_; rintro e w2 ⟨rfl, rfl⟩))
  refine bodyPost_ret (v := .tuple #[.agg #[.slice none 0 0, .int .i64 0], .int .i64 9]) ?_ rfl ⟨none, 0, rfl, hx.done _ _, World.ownsRow_nil _ _ _ _⟩
  simp [results, Try.results17, go_sem, r0, r1]

set_option maxHeartbeats 1600000 in
set_option maxRecDepth 20000 in
theorem write_size (ao : Option Addr) (cap : Nat) (l : List UInt8) (s : Int) (v : Value) (r : List Int) (w : World) (hr : r.length ≤ 140737488355328) (hI : IntsV w v r) (hm : mayB l.length s = true) (hz : 4000 < r.length) :
    Calls Try.prog 17 #[.agg #[.slice ao l.length cap, .int .i64 s], v] w (TAns w [] 0 1) := by
  obtain ⟨bo, bcap, hbs⟩ : ∃ bo bcap, v = .slice bo r.length bcap := by obtain ⟨bo, bcap, h, _⟩ := id hI; exact ⟨bo, bcap, h⟩
  subst hbs
  have hst := Bx.start w (.slice ao l.length cap) (.int .i64 s) 29 29
  have hmb := mayBe_any ao l.length cap s ((w.alloc (.cells #[.slice ao l.length cap, .int .i64 s] 29)).alloc (.cells #[.slice none 0 0, .int .i64 0] 29))
  rw [hm] at hmb
  have HBx : Hid (∀ w1, Below ((w.alloc (.cells #[.slice ao l.length cap, .int .i64 s] 29)).alloc (.cells #[.slice none 0 0, .int .i64 0] 29)).heap.size ((w.alloc (.cells #[.slice ao l.length cap, .int .i64 s] 29)).alloc (.cells #[.slice none 0 0, .int .i64 0] 29)) w1 → Bx w w1 (.slice ao l.length cap) (.int .i64 s)) := fun w1 hb => hst.later hb
  have HCn : Hid (∀ w1, Bx w w1 (.slice ao l.length cap) (.int .i64 s) → Calls Try.prog 25 #[.slice bo r.length bcap, .func (.func 26) #[] #[]] w1 fun e w' => e = .returned (.bool (r.any outB)) ∧ w' = w1) := fun w1 hx => contains_any _ r w1 hr (hI.below hx.b)
  generalize l.length = n at *
  generalize r.length = k at *
  clear hst hm hI
  go_enter Try.func17, Try.ntmps17
  go_wp2_with (first | (go_at_call 21; refine hmb.mono ?_; rintro e w1 ⟨rfl, hb1⟩; have hx := HBx.out w1 hb1; have hcn := HCn.out w1 hx; obtain ⟨_, _, a0, a1, r0, r1, f0, f1⟩ := id hx) | (go_at_call 25; refine hcn.mono ?_; rintro e w2 ⟨rfl, rfl⟩))
  refine bodyPost_ret (v := .tuple #[.agg #[.slice none 0 0, .int .i64 0], .int .i64 1]) ?_ rfl ⟨none, 0, rfl, hx.done _ _, World.ownsRow_nil _ _ _ _⟩
  simp [results, Try.results17, go_sem, r0, r1]

set_option maxHeartbeats 1600000 in
set_option maxRecDepth 20000 in
theorem write_range (ao : Option Addr) (cap : Nat) (l : List UInt8) (s : Int) (v : Value) (r : List Int) (w : World) (hr : r.length ≤ 140737488355328) (hI : IntsV w v r) (hm : mayB l.length s = true) (hz : r.length ≤ 4000) (ha : r.any outB = true) :
    Calls Try.prog 17 #[.agg #[.slice ao l.length cap, .int .i64 s], v] w (TAns w [] 0 2) := by
  obtain ⟨bo, bcap, hbs⟩ : ∃ bo bcap, v = .slice bo r.length bcap := by obtain ⟨bo, bcap, h, _⟩ := id hI; exact ⟨bo, bcap, h⟩
  subst hbs
  have hst := Bx.start w (.slice ao l.length cap) (.int .i64 s) 29 29
  have hmb := mayBe_any ao l.length cap s ((w.alloc (.cells #[.slice ao l.length cap, .int .i64 s] 29)).alloc (.cells #[.slice none 0 0, .int .i64 0] 29))
  rw [hm] at hmb
  have HBx : Hid (∀ w1, Below ((w.alloc (.cells #[.slice ao l.length cap, .int .i64 s] 29)).alloc (.cells #[.slice none 0 0, .int .i64 0] 29)).heap.size ((w.alloc (.cells #[.slice ao l.length cap, .int .i64 s] 29)).alloc (.cells #[.slice none 0 0, .int .i64 0] 29)) w1 → Bx w w1 (.slice ao l.length cap) (.int .i64 s)) := fun w1 hb => hst.later hb
  have HCn : Hid (∀ w1, Bx w w1 (.slice ao l.length cap) (.int .i64 s) → Calls Try.prog 25 #[.slice bo r.length bcap, .func (.func 26) #[] #[]] w1 fun e w' => e = .returned (.bool (r.any outB)) ∧ w' = w1) := fun w1 hx => contains_any _ r w1 hr (hI.below hx.b)
  rw [ha] at HCn
  generalize l.length = n at *
  generalize r.length = k at *
  clear hst hm hI ha
  go_enter Try.func17, Try.ntmps17
  go_wp2_with (first | (go_at_call 21; refine hmb.mono ?_; rintro e w1 ⟨rfl, hb1⟩; have hx := HBx.out w1 hb1; have hcn := HCn.out w1 hx; obtain ⟨_, _, a0, a1, r0, r1, f0, f1⟩ := id hx) | (go_at_call 25; refine hcn.mono ?_; rintro e w2 ⟨rfl, rfl⟩))
  refine bodyPost_ret (v := .tuple #[.agg #[.slice none 0 0, .int .i64 0], .int .i64 2]) ?_ rfl ⟨none, 0, rfl, hx.done _ _, World.ownsRow_nil _ _ _ _⟩
  simp [results, Try.results17, go_sem, r0, r1]

set_option maxHeartbeats 1600000 in
set_option maxRecDepth 20000 in
theorem write_full (ao : Option Addr) (cap : Nat) (l : List UInt8) (s : Int) (v : Value) (r : List Int) (w : World) (hr : r.length ≤ 140737488355328) (hI : IntsV w v r) (hm : mayB l.length s = true) (hz : r.length ≤ 4000) (ha : r.any outB = false) (hf : 1048576 < l.length + (4 * r.length + 8)) :
    Calls Try.prog 17 #[.agg #[.slice ao l.length cap, .int .i64 s], v] w (TAns w [] 0 12) := by
  obtain ⟨bo, bcap, hbs⟩ : ∃ bo bcap, v = .slice bo r.length bcap := by obtain ⟨bo, bcap, h, _⟩ := id hI; exact ⟨bo, bcap, h⟩
  subst hbs
  have hst := Bx.start w (.slice ao l.length cap) (.int .i64 s) 29 29
  have hmb := mayBe_any ao l.length cap s ((w.alloc (.cells #[.slice ao l.length cap, .int .i64 s] 29)).alloc (.cells #[.slice none 0 0, .int .i64 0] 29))
  rw [hm] at hmb
  have HBx : Hid (∀ w1, Below ((w.alloc (.cells #[.slice ao l.length cap, .int .i64 s] 29)).alloc (.cells #[.slice none 0 0, .int .i64 0] 29)).heap.size ((w.alloc (.cells #[.slice ao l.length cap, .int .i64 s] 29)).alloc (.cells #[.slice none 0 0, .int .i64 0] 29)) w1 → Bx w w1 (.slice ao l.length cap) (.int .i64 s)) := fun w1 hb => hst.later hb
  have HCn : Hid (∀ w1, Bx w w1 (.slice ao l.length cap) (.int .i64 s) → Calls Try.prog 25 #[.slice bo r.length bcap, .func (.func 26) #[] #[]] w1 fun e w' => e = .returned (.bool (r.any outB)) ∧ w' = w1) := fun w1 hx => contains_any _ r w1 hr (hI.below hx.b)
  rw [ha] at HCn
  have hl : l.length ≤ 1048576 := by simp [mayB] at hm; omega
  have hrb := fun w1 => recordBytes_any r.length w1 (by omega)
  have hsum : wrap64 ((l.length : Int) + ((4 * r.length + 8 : Nat) : Int)) = ((l.length + (4 * r.length + 8) : Nat) : Int) := by rw [IntWalk.wrap64_in _ (by omega)]; omega
  have hsum' : IntKind.i64.wrap ((l.length : Int) + ((4 * r.length + 8 : Nat) : Int)) = ((l.length + (4 * r.length + 8) : Nat) : Int) := by rw [IntWalk.i64_left]; exact hsum
  generalize 4 * r.length + 8 = y at *
  generalize l.length = n at *
  generalize r.length = k at *
  obtain ⟨sz, hsz⟩ : ∃ sz, n + y = sz := ⟨_, rfl⟩
  rw [hsz] at hsum hsum' hf
  clear hst hm hI ha hsz
  go_enter Try.func17, Try.ntmps17
  go_wp2_with (first | (go_at_call 21; refine hmb.mono ?_; rintro e w1 ⟨rfl, hb1⟩; have hx := HBx.out w1 hb1; have hcn := HCn.out w1 hx; obtain ⟨_, _, a0, a1, r0, r1, f0, f1⟩ := id hx) | (go_at_call 25; refine hcn.mono ?_; rintro e w2 ⟨rfl, rfl⟩))
  have hxd : Bx w w2.drew (.slice ao n cap) (.int .i64 s) := hx.later (Below.refl _ _).drew
  go_region_held3 (fun w' => w'.cell? ⟨w.heap.size, 0, none⟩ = some (.slice ao n cap))
    (first | exact hx.a0 | exact hxd.a0)
    (first | (go_at_call 23; refine (hrb _).mono ?_; rintro e w3 ⟨rfl, rfl⟩))
  have hx2 := hxd
  obtain ⟨_, _, a0', a1', r0', r1', f0', f1'⟩ := id hxd
  go_wp2_with fail
  refine bodyPost_ret (v := .tuple #[.agg #[.slice none 0 0, .int .i64 0], .int .i64 12]) ?_ rfl ⟨none, 0, rfl, (hx.done _ _).drew, World.ownsRow_nil _ _ _ _⟩
  simp [results, Try.results17, go_sem, r0, r1]

section
variable {P : Program} {w : World}
/-- bytes are appended to an own row, be they none. -/
theorem step_append_b {ops : Array Oper} {o : Oper} {a : Act} {K : Act → World → Prop} {Q : Exit → Act → World → Prop} {E : Prop} (hgd : o.guard = none) (s x : Operand)
    (ho : o.op = .call { callee := .builtin .append, args := #[s, x], argTypes := #[22, 22] })
    (base g n cap : Nat) (xs : List Value) (hs : a.eval s = .slice (some ⟨g, 0, none⟩) n cap) (hown : w.ownsRow base 5 1 (.slice (some ⟨g, 0, none⟩) n cap) n xs) (so : Option Addr) (m c : Nat) (l : List UInt8) (hx : a.eval x = .slice so m c) (hV : BytesV w (.slice so m c) l)
    (hsz : n + m ≤ 4194304) (hbase : base ≤ w.heap.size)
    (h : ∀ g' cap' w', w'.ownsRow base 5 1 (.slice (some ⟨g', 0, none⟩) (n + m) cap') (n + m) (xs ++ bvals l) → w.grownBy w' (some g) → K (a.put o.dst (.slice (some ⟨g', 0, none⟩) (n + m) cap')) w') :
    if Region.wanted o (yielded ops a.tmps) = true then Oper.wp Try.prog o a w K Q else E := by
  obtain ⟨i0, hi, hz0, hz1, hz2⟩ := info_parts infoByte
  obtain ⟨so', c', e1, ⟨hlc, hnone⟩, hat⟩ := id hV
  injection e1 with e1 e2 e3
  subst e1 e2 e3
  by_cases hl : l = []
  · subst hl
    rcases hown.2 with ⟨hv, _⟩ | ⟨g', cap', cur, hv, hb, hg, hnc, _⟩
    · cases hv
    · cases hv
      refine step_appz hgd s x 22 ho 5 i0 Try.underlying22 hi g n cap hs so c hx hnc fun w' HE => ?_
      have hE := HE.out
      subst hE
      have := h g cap w' (by simpa [bvals] using hown) (World.grownBy.refl _ _)
      simpa using this
  · obtain ⟨b, off, rfl, hbl, hba⟩ := hat hl
    exact step_append_lies _ hgd s x 22 ho base 5 i0 _ 1 1 Try.underlying22 hi hz0 hz1 hz2 rfl (by decide) _ n xs hs hown ⟨b, off, none⟩ l.length c (bvals l) hx (by rw [bvals_length]; omega) hba.cells (bvals_one l) (List.length_pos_iff.2 hl) (by unfold maxLen; omega) (by omega) hbase _ rfl fun g' cap' w' h1 h2 _ _ => h g' cap' w' h1 h2
end

set_option maxHeartbeats 1600000 in
set_option maxRecDepth 20000 in
theorem write_ok (ao : Option Addr) (cap : Nat) (l : List UInt8) (s : Int) (v : Value) (r : List Int) (w : World) (hV : BytesV w (.slice ao l.length cap) l) (hI : IntsV w v r) (hm : mayB l.length s = true) (hz : r.length ≤ 4000) (ha : r.any outB = false) (hf : l.length + (4 * r.length + 8) ≤ 1048576) :
    Calls Try.prog 17 #[.agg #[.slice ao l.length cap, .int .i64 s], v] w (TAns w (l ++ recB r) s 0) := by
  have hr : r.length ≤ 140737488355328 := by omega
  obtain ⟨bo, bcap, hbs⟩ : ∃ bo bcap, v = .slice bo r.length bcap := by obtain ⟨bo, bcap, h, _⟩ := id hI; exact ⟨bo, bcap, h⟩
  subst hbs
  have hst := Bx.start w (.slice ao l.length cap) (.int .i64 s) 29 29
  have hmb := mayBe_any ao l.length cap s ((w.alloc (.cells #[.slice ao l.length cap, .int .i64 s] 29)).alloc (.cells #[.slice none 0 0, .int .i64 0] 29))
  rw [hm] at hmb
  have HBx : Hid (∀ w1, Below ((w.alloc (.cells #[.slice ao l.length cap, .int .i64 s] 29)).alloc (.cells #[.slice none 0 0, .int .i64 0] 29)).heap.size ((w.alloc (.cells #[.slice ao l.length cap, .int .i64 s] 29)).alloc (.cells #[.slice none 0 0, .int .i64 0] 29)) w1 → Bx w w1 (.slice ao l.length cap) (.int .i64 s)) := fun w1 hb => hst.later hb
  have HCn : Hid (∀ w1, Bx w w1 (.slice ao l.length cap) (.int .i64 s) → Calls Try.prog 25 #[.slice bo r.length bcap, .func (.func 26) #[] #[]] w1 fun e w' => e = .returned (.bool (r.any outB)) ∧ w' = w1) := fun w1 hx => contains_any _ r w1 hr (hI.below hx.b)
  rw [ha] at HCn
  have hl : l.length ≤ 1048576 := by simp [mayB] at hm; omega
  have hrb := fun w1 => recordBytes_any r.length w1 (by omega)
  have hsum : wrap64 ((l.length : Int) + ((4 * r.length + 8 : Nat) : Int)) = ((l.length + (4 * r.length + 8) : Nat) : Int) := by rw [IntWalk.wrap64_in _ (by omega)]; omega
  have hsum' : IntKind.i64.wrap ((l.length : Int) + ((4 * r.length + 8 : Nat) : Int)) = ((l.length + (4 * r.length + 8) : Nat) : Int) := by rw [IntWalk.i64_left]; exact hsum
  obtain ⟨i0, hi, hz0, hz1, hz2⟩ := info_parts infoByte
  have HVb : Hid (∀ w1, Below w.heap.size w w1 → BytesV w1 (.slice ao l.length cap) l) := fun w1 hb => hV.below hb
  have HWr : Hid (∀ (a : Option Addr) (c base : Nat) (w0 w1 : World), w.heap.size ≤ base → base ≤ w1.heap.size → Below w.heap.size w w1 → w1.ownsRow base 5 1 (.slice a l.length c) l.length (bvals l) → Calls Try.prog 27 #[.slice a l.length c, .slice bo r.length bcap] w1 fun e w' => ∃ ao' cap', e = .returned (.slice ao' (l ++ recB r).length cap') ∧ Below base w1 w' ∧ Hid (w'.ownsRow base 5 1 (.slice ao' (l ++ recB r).length cap') (l ++ recB r).length (bvals (l ++ recB r)))) := fun a c base w0 w1 h1 h2 h3 h4 => withRecord_any a c l _ r base w1 h4 hl (wrC_ok hz ha) h2 fun w2 hb => hI.below (h3.trans (hb.mono h1))
  have HT : TAns w (l ++ recB r) s 0 = fun e w' => ∃ ao cap, e = .returned (.tuple #[.agg #[.slice ao (l ++ recB r).length cap, .int .i64 s], .int .i64 0]) ∧ Below w.heap.size w w' ∧ Hid (w'.ownsRow w.heap.size 5 1 (.slice ao (l ++ recB r).length cap) (l ++ recB r).length (bvals (l ++ recB r))) := rfl
  rw [HT]
  clear HT
  have hz' : l.length ≤ 1048576 := hl
  generalize bvals (l ++ recB r) = ys at *
  generalize (l ++ recB r).length = yl at *
  obtain ⟨y, hy⟩ : ∃ y, 4 * r.length + 8 = y := ⟨_, rfl⟩
  rw [hy] at hrb hsum hsum' hf
  clear hy
  obtain ⟨xs, hxs⟩ : ∃ xs, bvals l = xs := ⟨_, rfl⟩
  have HXs : Hid (bvals l = xs) := hxs
  rw [hxs] at HWr
  clear hxs
  generalize l.length = n at *
  generalize r.length = k at *
  obtain ⟨sz, hsz⟩ : ∃ sz, n + y = sz := ⟨_, rfl⟩
  have HSz : Hid (n ≤ sz) := by show _ ≤ _; omega
  rw [hsz] at hsum hsum' hf
  clear hst hm hI ha hsz hV
  have hmk : ∀ w1 : World, (Instr.makeSlice 22 (.int .i64 0) (.int .i64 (sz : Int))).run Try.prog w1 = .ok (.slice (some ⟨w1.heap.size, 0, none⟩) 0 sz) (w1.alloc (.cells (madeCells #[.int .u8 0] sz) 5)) := fun w1 => by
    have := run_make (P := Try.prog) w1 22 5 i0 (.int .u8 0) Try.underlying22 hi hz0 .i64 .i64 0 sz (Int.le_refl _) (by omega) (by rw [hz2]; omega) (by omega)
    simpa [hz1, Value.cells] using this
  have HOw : Hid (∀ w1 : World, (w1.alloc (.cells (madeCells #[.int .u8 0] sz) 5)).ownsRow w1.heap.size 5 1 (.slice (some ⟨w1.heap.size, 0, none⟩) 0 sz) 0 []) := fun w1 => World.ownsRow_made w1 _ sz (Nat.le_refl _) (by unfold maxLen; omega) (by simp [size_madeCells])
  go_enter Try.func17, Try.ntmps17
  go_wp2_with (first | (go_at_call 21; refine hmb.mono ?_; rintro e w1 ⟨rfl, hb1⟩; have hx := HBx.out w1 hb1; have hcn := HCn.out w1 hx; obtain ⟨_, _, a0, a1, r0, r1, f0, f1⟩ := id hx) | (go_at_call 25; refine hcn.mono ?_; rintro e w2 ⟨rfl, rfl⟩))
  have hxd : Bx w w2.drew (.slice ao n cap) (.int .i64 s) := hx.later (Below.refl _ _).drew
  go_region_held3 (fun w' => w'.cell? ⟨w.heap.size, 0, none⟩ = some (.slice ao n cap))
    (first | exact hx.a0 | exact hxd.a0)
    (first | (go_at_call 23; refine (hrb _).mono ?_; rintro e w3 ⟨rfl, rfl⟩))
  obtain ⟨w3, hw3⟩ : ∃ w3, w2.drew = w3 := ⟨_, rfl⟩
  rw [hw3] at hxd ⊢
  clear hw3 hx hcn hb1 hmb a0 a1 r0 r1 f0 f1
  go_wp2_with fail
  have a0 := hxd.a0
  have hB1 : Below w3.heap.size w3 (w3.alloc (.cells (madeCells #[.int .u8 0] sz) 5)).drew := ((Below.refl _ _).alloc (Nat.le_refl _) _).drew
  have hx1 := hxd.later hB1
  have hO1 := (HOw.out w3).drew
  have hv1 := HVb.out _ hx1.b
  have tk := True.intro
  go_region_held3 (fun w' => w'.cell? ⟨w.heap.size, 0, none⟩ = some (.slice ao n cap))
    (first | exact hxd.a0 | exact hx1.a0 | exact hx4.a0 | (exact (hxd.later (Below.refl _ _).drew).a0))
    (first | (clear tk; refine step_append_b (by rfl) (.tmp 30) (.tmp 32) (by rfl) w3.heap.size w3.heap.size 0 sz [] (by rfl) hO1 ao n cap l (by rfl) hv1 (by omega) hB1.size ?_; intro gB capB wB howB hgrB; have hb4 : Below w3.heap.size w3 wB := (hB1.grown hgrB hB1.size (fun q hq => (by simp at hq; omega))); have hx4 := hxd.later hb4; rw [Nat.zero_add, List.nil_append, HXs.out] at howB))
  go_wp2_with fail
  have hz3 := hxd.z
  have hxw := hx4.later (Below.refl _ _).drew
  have hww := HWr.out (some ⟨gB, 0, none⟩) capB w3.heap.size w3 wB.drew (by omega) hb4.size hxw.b howB.drew
  go_region_held3 (fun w' => w'.cell? ⟨w.heap.size, 1, none⟩ = some (.int .i64 s))
    (first | exact hx4.a1 | exact hxw.a1 | exact hx5.a1 | (have y0 := hx5.a1; simp [go_sem, y0]))
    (first | (go_at_call 27; refine hww.mono ?_; rintro e w5 ⟨xo, xc, rfl, hb5, HO5⟩; have hx5 := hxw.low hb5 hz3; obtain ⟨_, _, _, _, r0, r1, f0, f1⟩ := id hx5))
  go_wp2_with fail
  refine bodyPost_ret (v := .tuple #[.agg #[.slice xo yl xc, .int .i64 s], .int .i64 0]) ?_ rfl ⟨xo, xc, rfl, hx5.done _ _, owns_done HO5.out hz3 _ _⟩
  simp [results, Try.results17, go_sem, r0, r1]
end Go.Proofs.Ytjnobdpjohbdnaa
