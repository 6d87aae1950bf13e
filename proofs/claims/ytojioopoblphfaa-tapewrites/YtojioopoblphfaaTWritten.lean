/-
  The document's Written.
-/
import Derived.Test.YtojioopoblphfaaTWrite
namespace Go.Proofs.Ytojioopoblphfaa
open Go.ChangeShapes Go.WideShapes Go.ChangeAt Go.RowKit Go.Deep

set_option maxHeartbeats 1600000 in
set_option maxRecDepth 20000 in
theorem written_bad (ao : Option Addr) (cap : Nat) (l : List UInt8) (s : Int) (v : Value) (r : List Int) (w : World) (_hr : r.length ≤ 140737488355328) (hI : IntsV w v r) (hm : mayB l.length s = false) :
    Calls Try.prog 15 #[.agg #[.slice ao l.length cap, .int .i64 s], v] w (TAns w [] 0 9) := by
  obtain ⟨bo, bcap, hbs⟩ : ∃ bo bcap, v = .slice bo r.length bcap := by obtain ⟨bo, bcap, h, _⟩ := id hI; exact ⟨bo, bcap, h⟩
  subst hbs
  have hst := Bx.start w (.slice ao l.length cap) (.int .i64 s) 27 27
  have hmb := tmay_any ao l.length cap s ((w.alloc (.cells #[.slice ao l.length cap, .int .i64 s] 27)).alloc (.cells #[.slice none 0 0, .int .i64 0] 27))
  rw [hm] at hmb
  have HBx : Hid (∀ w1, Below ((w.alloc (.cells #[.slice ao l.length cap, .int .i64 s] 27)).alloc (.cells #[.slice none 0 0, .int .i64 0] 27)).heap.size ((w.alloc (.cells #[.slice ao l.length cap, .int .i64 s] 27)).alloc (.cells #[.slice none 0 0, .int .i64 0] 27)) w1 → Bx w w1 (.slice ao l.length cap) (.int .i64 s)) := fun w1 hb => hst.later hb
  generalize l.length = n at *
  generalize r.length = k at *
  clear hst hm hI
  go_enter Try.func15, Try.ntmps15
  go_wp2_with (first | (go_at_call 31; refine hmb.mono ?_; rintro e w1 ⟨rfl, hb1⟩; have hx := HBx.out w1 hb1; obtain ⟨_, _, a0, a1, r0, r1, f0, f1⟩ := id hx))
  refine bodyPost_ret (v := .tuple #[.agg #[.slice none 0 0, .int .i64 0], .int .i64 9]) ?_ rfl ⟨none, 0, rfl, hx.done _ _, World.ownsRow_nil _ _ _ _⟩
  simp [results, Try.results15, go_sem, r0, r1]

set_option maxHeartbeats 1600000 in
set_option maxRecDepth 20000 in
theorem written_err (ao : Option Addr) (cap : Nat) (l : List UInt8) (s : Int) (v : Value) (r : List Int) (w : World) (hr : r.length ≤ 140737488355328) (hI : IntsV w v r) (hm : mayB l.length s = true) (hc : wrC r ≠ 0) :
    Calls Try.prog 15 #[.agg #[.slice ao l.length cap, .int .i64 s], v] w (TAns w [] 0 (wrC r)) := by
  obtain ⟨bo, bcap, hbs⟩ : ∃ bo bcap, v = .slice bo r.length bcap := by obtain ⟨bo, bcap, h, _⟩ := id hI; exact ⟨bo, bcap, h⟩
  subst hbs
  have hst := Bx.start w (.slice ao l.length cap) (.int .i64 s) 27 27
  have hmb := tmay_any ao l.length cap s ((w.alloc (.cells #[.slice ao l.length cap, .int .i64 s] 27)).alloc (.cells #[.slice none 0 0, .int .i64 0] 27))
  rw [hm] at hmb
  have HBx : Hid (∀ w1, Below ((w.alloc (.cells #[.slice ao l.length cap, .int .i64 s] 27)).alloc (.cells #[.slice none 0 0, .int .i64 0] 27)).heap.size ((w.alloc (.cells #[.slice ao l.length cap, .int .i64 s] 27)).alloc (.cells #[.slice none 0 0, .int .i64 0] 27)) w1 → Bx w w1 (.slice ao l.length cap) (.int .i64 s)) := fun w1 hb => hst.later hb
  have HRb : Hid (∀ w1, Bx w w1 (.slice ao l.length cap) (.int .i64 s) → Calls Try.prog 32 #[.slice bo r.length bcap] w1 fun e w' => e = .returned (.tuple #[.slice none 0 0, .int .i64 (wrC r)]) ∧ Below w1.heap.size w1 w') := fun w1 hx => (rb_any _ r w1 hr (hI.below hx.b)).mono fun e w' h => ⟨h.2.1 hc, h.1⟩
  obtain ⟨c, hcd⟩ : ∃ c, wrC r = c := ⟨_, rfl⟩
  rw [hcd] at HRb hc ⊢
  clear hcd
  generalize l.length = n at *
  generalize r.length = k at *
  clear hst hm hI
  go_enter Try.func15, Try.ntmps15
  go_wp2_with (first | (go_at_call 31; refine hmb.mono ?_; rintro e w1 ⟨rfl, hb1⟩; have hx := HBx.out w1 hb1; have hrb := HRb.out w1 hx; obtain ⟨_, _, a0, a1, r0, r1, f0, f1⟩ := id hx) | (go_at_call 32; refine hrb.mono ?_; rintro e w2 ⟨rfl, hb2⟩; have hx2 := hx.later hb2; obtain ⟨_, _, a0, a1, r0, r1, f0, f1⟩ := id hx2))
  refine bodyPost_ret (v := .tuple #[.agg #[.slice none 0 0, .int .i64 0], .int .i64 c]) ?_ rfl ⟨none, 0, rfl, hx2.done _ _, World.ownsRow_nil _ _ _ _⟩
  simp [results, Try.results15, go_sem, r0, r1]

set_option maxHeartbeats 1600000 in
set_option maxRecDepth 20000 in
theorem written_full (ao : Option Addr) (cap : Nat) (l : List UInt8) (s : Int) (v : Value) (r : List Int) (w : World) (hr : r.length ≤ 140737488355328) (hI : IntsV w v r) (hm : mayB l.length s = true) (hc : wrC r = 0) (hf : 1048576 < l.length + (4 * r.length + 8)) :
    Calls Try.prog 15 #[.agg #[.slice ao l.length cap, .int .i64 s], v] w (TAns w [] 0 12) := by
  obtain ⟨bo, bcap, hbs⟩ : ∃ bo bcap, v = .slice bo r.length bcap := by obtain ⟨bo, bcap, h, _⟩ := id hI; exact ⟨bo, bcap, h⟩
  subst hbs
  have hst := Bx.start w (.slice ao l.length cap) (.int .i64 s) 27 27
  have hmb := tmay_any ao l.length cap s ((w.alloc (.cells #[.slice ao l.length cap, .int .i64 s] 27)).alloc (.cells #[.slice none 0 0, .int .i64 0] 27))
  rw [hm] at hmb
  have HBx : Hid (∀ w1, Below ((w.alloc (.cells #[.slice ao l.length cap, .int .i64 s] 27)).alloc (.cells #[.slice none 0 0, .int .i64 0] 27)).heap.size ((w.alloc (.cells #[.slice ao l.length cap, .int .i64 s] 27)).alloc (.cells #[.slice none 0 0, .int .i64 0] 27)) w1 → Bx w w1 (.slice ao l.length cap) (.int .i64 s)) := fun w1 hb => hst.later hb
  have HRb : Hid (∀ w1, Bx w w1 (.slice ao l.length cap) (.int .i64 s) → Calls Try.prog 32 #[.slice bo r.length bcap] w1 fun e w' => ∃ xo xc, e = .returned (.tuple #[.slice xo (recB r).length xc, .int .i64 0]) ∧ Below w1.heap.size w1 w' ∧ Hid (BytesV w' (.slice xo (recB r).length xc) (recB r))) := fun w1 hx => (rb_any _ r w1 hr (hI.below hx.b)).mono fun e w' h => by
    obtain ⟨a, c, h1, h2⟩ := h.2.2 hc
    exact ⟨a, c, h1, h.1, bytesV_of_owns h2.out⟩
  have hl : l.length ≤ 1048576 := by simp [mayB] at hm; omega
  have hrl : r.length ≤ 4000 := by unfold wrC at hc; split at hc <;> omega
  obtain ⟨y, hy⟩ : ∃ y, (recB r).length = y := ⟨_, rfl⟩
  have hy2 : y = 4 * r.length + 8 := by rw [← hy, recB_length]
  have hf' : 1048576 < l.length + y := by omega
  have HY : Hid ((recB r).length = y) := hy
  rw [hy] at HRb
  have hyl : y ≤ 20000 := by omega
  have hsum : wrap64 ((l.length : Int) + (y : Int)) = ((l.length + y : Nat) : Int) := by rw [IntWalk.wrap64_in _ (by omega)]; omega
  have hsum' : IntKind.i64.wrap ((l.length : Int) + (y : Int)) = ((l.length + y : Nat) : Int) := by rw [IntWalk.i64_left]; exact hsum
  clear hy2 hf
  generalize l.length = n at *
  generalize r.length = k at *
  obtain ⟨sz, hsz⟩ : ∃ sz, n + y = sz := ⟨_, rfl⟩
  have HSz : Hid (n + y = sz) := hsz
  rw [hsz] at hsum hsum' hf'
  clear hsz
  clear hst hm hI hy
  go_enter Try.func15, Try.ntmps15
  go_wp2_with (first | (go_at_call 31; refine hmb.mono ?_; rintro e w1 ⟨rfl, hb1⟩; have hx := HBx.out w1 hb1; have hrb := HRb.out w1 hx; obtain ⟨_, _, a0, a1, r0, r1, f0, f1⟩ := id hx) | (go_at_call 32; refine hrb.mono ?_; rintro e w2 ⟨xo, xc, rfl, hb2, HB⟩; have hx2 := hx.later hb2; obtain ⟨_, _, a0, a1, r0, r1, f0, f1⟩ := id hx2))
  refine bodyPost_ret (v := .tuple #[.agg #[.slice none 0 0, .int .i64 0], .int .i64 12]) ?_ rfl ⟨none, 0, rfl, hx2.done _ _, World.ownsRow_nil _ _ _ _⟩
  simp [results, Try.results15, go_sem, r0, r1]

set_option maxHeartbeats 1600000 in
set_option maxRecDepth 20000 in
theorem written_ok (ao : Option Addr) (cap : Nat) (l : List UInt8) (s : Int) (v : Value) (r : List Int) (w : World) (hr : r.length ≤ 140737488355328) (hV : BytesV w (.slice ao l.length cap) l) (hI : IntsV w v r) (hm : mayB l.length s = true) (hc : wrC r = 0) (hf : l.length + (4 * r.length + 8) ≤ 1048576) :
    Calls Try.prog 15 #[.agg #[.slice ao l.length cap, .int .i64 s], v] w (TAns w (l ++ recB r) s 0) := by
  obtain ⟨bo, bcap, hbs⟩ : ∃ bo bcap, v = .slice bo r.length bcap := by obtain ⟨bo, bcap, h, _⟩ := id hI; exact ⟨bo, bcap, h⟩
  subst hbs
  have hst := Bx.start w (.slice ao l.length cap) (.int .i64 s) 27 27
  have hmb := tmay_any ao l.length cap s ((w.alloc (.cells #[.slice ao l.length cap, .int .i64 s] 27)).alloc (.cells #[.slice none 0 0, .int .i64 0] 27))
  rw [hm] at hmb
  have HBx : Hid (∀ w1, Below ((w.alloc (.cells #[.slice ao l.length cap, .int .i64 s] 27)).alloc (.cells #[.slice none 0 0, .int .i64 0] 27)).heap.size ((w.alloc (.cells #[.slice ao l.length cap, .int .i64 s] 27)).alloc (.cells #[.slice none 0 0, .int .i64 0] 27)) w1 → Bx w w1 (.slice ao l.length cap) (.int .i64 s)) := fun w1 hb => hst.later hb
  have HRb : Hid (∀ w1, Bx w w1 (.slice ao l.length cap) (.int .i64 s) → Calls Try.prog 32 #[.slice bo r.length bcap] w1 fun e w' => ∃ xo xc, e = .returned (.tuple #[.slice xo (recB r).length xc, .int .i64 0]) ∧ Below w1.heap.size w1 w' ∧ Hid (BytesV w' (.slice xo (recB r).length xc) (recB r))) := fun w1 hx => (rb_any _ r w1 hr (hI.below hx.b)).mono fun e w' h => by
    obtain ⟨a, c, h1, h2⟩ := h.2.2 hc
    exact ⟨a, c, h1, h.1, bytesV_of_owns h2.out⟩
  have hll : (l ++ recB r).length = l.length + (recB r).length := List.length_append
  have HOc : Hid (∀ w1, Bx w w1 (.slice ao l.length cap) (.int .i64 s) → Calls Try.prog 33 #[.slice ao l.length cap, .int .i64 l.length] w1 fun e w' => ∃ ao' cap', e = .returned (.slice ao' l.length cap') ∧ Below w1.heap.size w1 w' ∧ Hid (w'.ownsRow w1.heap.size 5 1 (.slice ao' l.length cap') l.length (bvals l))) := fun w1 hx => by
    have := octs_any (.slice ao l.length cap) l l.length w1 (by simp [mayB] at hm; omega) (Nat.le_refl _) (hV.below hx.b)
    rw [List.take_length] at this
    refine this.mono fun e w' ⟨v', h1, h2, h3⟩ => ?_
    obtain ⟨a1, c1, rfl⟩ := owns_slice h3
    exact ⟨a1, c1, h1, h2, h3⟩
  have HT : TAns w (l ++ recB r) s 0 = fun e w' => ∃ ao cap, e = .returned (.tuple #[.agg #[.slice ao (l ++ recB r).length cap, .int .i64 s], .int .i64 0]) ∧ Below w.heap.size w w' ∧ Hid (w'.ownsRow w.heap.size 5 1 (.slice ao (l ++ recB r).length cap) (l ++ recB r).length (bvals (l ++ recB r))) := rfl
  rw [HT]
  clear HT
  have hl : l.length ≤ 1048576 := by simp [mayB] at hm; omega
  have hrl : r.length ≤ 4000 := by unfold wrC at hc; split at hc <;> omega
  obtain ⟨y, hy⟩ : ∃ y, (recB r).length = y := ⟨_, rfl⟩
  have hy2 : y = 4 * r.length + 8 := by rw [← hy, recB_length]
  have hf' : l.length + y ≤ 1048576 := by omega
  have HY : Hid ((recB r).length = y) := hy
  rw [hy] at HRb
  have hyl : y ≤ 20000 := by omega
  have hsum : wrap64 ((l.length : Int) + (y : Int)) = ((l.length + y : Nat) : Int) := by rw [IntWalk.wrap64_in _ (by omega)]; omega
  have hsum' : IntKind.i64.wrap ((l.length : Int) + (y : Int)) = ((l.length + y : Nat) : Int) := by rw [IntWalk.i64_left]; exact hsum
  clear hy2 hf
  rw [hll, hy]
  clear hll
  obtain ⟨rb, hrbd⟩ : ∃ rb, rb = recB r := ⟨_, rfl⟩
  rw [← hrbd] at HRb HY ⊢
  clear hrbd hc hm hy
  obtain ⟨i0, hi, hz0, hz1, hz2⟩ := info_parts infoByte
  generalize l.length = n at *
  generalize r.length = k at *
  obtain ⟨sz, hsz⟩ : ∃ sz, n + y = sz := ⟨_, rfl⟩
  have HSz : Hid (n + y = sz) := hsz
  rw [hsz] at hsum hsum' hf' ⊢
  clear hsz
  clear hst hI hV
  go_enter Try.func15, Try.ntmps15
  go_wp2_with (first | (go_at_call 31; refine hmb.mono ?_; rintro e w1 ⟨rfl, hb1⟩; have hx := HBx.out w1 hb1; have hrb := HRb.out w1 hx; obtain ⟨_, _, a0, a1, r0, r1, f0, f1⟩ := id hx) | (go_at_call 32; refine hrb.mono ?_; rintro e w2 ⟨xo, xc, rfl, hb2, HB⟩; have hx2 := hx.later hb2; obtain ⟨_, _, a0, a1, r0, r1, f0, f1⟩ := id hx2; have hoc := HOc.out w2 hx2) | (go_at_call 33; refine hoc.mono ?_; rintro e w3 ⟨oo, oc, rfl, hb3, HO⟩; have hx3 := hx2.later hb3))
  go_loopw [8, 9] (fun u i wr => ∃ q : Nat, q ≤ y ∧ i = .int .i64 q ∧ ∃ a c, u = .slice a (n + q) c ∧ Below w2.heap.size w2 wr ∧ Hid (wr.ownsRow w2.heap.size 5 1 (.slice a (n + q) c) (n + q) (bvals (l ++ rb.take q)))) (fun _ i _ => y - (intOf i).toNat)
  case atStart => exact ⟨0, Nat.zero_le _, rfl, oo, oc, rfl, hb3, by rw [List.take_zero, List.append_nil]; exact HO.out⟩
  case round =>
    obtain ⟨q, hq, rfl, a, c, rfl, hB, hOq⟩ := hrel
    by_cases hlt : q < y
    · have hlt2 : q < rb.length := by rw [HY.out]; exact hlt
      obtain ⟨xo', xc', e1, _, hat⟩ := HB.out
      injection e1 with e1 e2 e3
      subst e1 e3
      clear e2
      obtain ⟨b, off, rfl, hbl, hca⟩ := hat (by intro h; subst h; simp at hlt2)
      have c2 := (hB.cell (p := ⟨b, off + q, none⟩) hbl).trans (hca q hlt2)
      have HNx : Hid (bvals (l ++ rb.take q) ++ [.int .u8 ((rb.getD q 0).toNat : Int)] = bvals (l ++ rb.take (q + 1))) := by
        show _ = _
        rw [take_succ hlt2, ← List.append_assoc, bvals_append (l ++ rb.take q)]
        rfl
      have hsq : n + q ≤ 1048576 := by have := HSz.out; omega
      clear hca hat
      generalize rb.getD q 0 = x at *
      go_wp2_with (at_builtin; refine wpList_append_own _ rfl _ _ 22 rfl w2.heap.size 5 i0 (.int .u8 0) 1 1 Try.underlying22 hi hz0 hz1 hz2 rfl (by decide) (.slice a (n + q) c) (n + q) (bvals (l ++ rb.take q)) rfl (hOq.out.alloc _) ⟨wr.heap.size, 0, none⟩ 1 1 [.int .u8 (x.toNat : Int)] rfl rfl ?c1 (by simp [Value.oneCell']) ?c3 ?c4 ?c5 ?_)
      case c1 =>
        intro j u hj
        match j, hj with
        | 0, hj => simp at hj; subst hj; simp [Addr.add, go_sem]
      case c3 => unfold maxLen; omega
      case c4 => omega
      case c5 => simp; exact Nat.le_succ_of_le hB.size
      intro v' w4 hown' hgrow _
      have hb4 : Below w2.heap.size w2 w4 := (hB.alloc hB.size _).grown hgrow (by simp; exact Nat.le_succ_of_le hB.size) (fun q hq => (hOq.out.lt q hq).1)
      rw [HNx.out] at hown'
      obtain ⟨a4, c4, rfl⟩ := owns_slice hown'
      clear hgrow HNx c2
      go_wp2
      go_roundw
      case rel => exact ⟨q + 1, by omega, by go_num, a4, c4, rfl, hb4, hown'⟩
      case measure => simp [intOf]; omega
    · obtain rfl : q = y := by omega
      have hall : rb.take q = rb := by rw [List.take_of_length_le]; rw [HY.out]; omega
      rw [hall] at hOq
      have hsq := HSz.out
      have hx9 := hx2.later hB
      obtain ⟨_, _, b0, b1, q0, q1, g0, g1⟩ := id hx9
      have hz2' := hx2.z
      rw [hsq] at hOq ⊢
      clear hall hsq
      go_wp2_with fail
      refine bodyPost_ret (v := .tuple #[.agg #[.slice a sz c, .int .i64 s], .int .i64 0]) ?_ rfl ⟨a, c, rfl, hx9.done _ _, owns_done hOq.out hz2' _ _⟩
      simp [results, Try.results15, go_sem, q0, q1]
end Go.Proofs.Ytojioopoblphfaa
