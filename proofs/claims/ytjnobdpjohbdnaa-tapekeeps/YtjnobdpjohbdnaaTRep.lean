/-
  tape.Repair and the document's Repaired; lists that are the same.
-/
import Derived.Test.YtjnobdpjohbdnaaTRecs
namespace Go.Proofs.Ytjnobdpjohbdnaa
open Go.ChangeShapes Go.WideShapes Go.ChangeAt Go.RowKit Go.Deep

set_option maxHeartbeats 1600000 in
set_option maxRecDepth 20000 in
theorem repair_bad (ao : Option Addr) (cap : Nat) (l : List UInt8) (s : Int) (w : World) (hm : mayB l.length s = false) :
    Calls Try.prog 19 #[.agg #[.slice ao l.length cap, .int .i64 s]] w (TAns w [] 0 9) := by
  have hst := Bx.start w (.slice ao l.length cap) (.int .i64 s) 29 29
  have hrd := read_bad ao cap l s ((w.alloc (.cells #[.slice ao l.length cap, .int .i64 s] 29)).alloc (.cells #[.slice none 0 0, .int .i64 0] 29)) hm
  have HBx : Hid (∀ w1, Below ((w.alloc (.cells #[.slice ao l.length cap, .int .i64 s] 29)).alloc (.cells #[.slice none 0 0, .int .i64 0] 29)).heap.size ((w.alloc (.cells #[.slice ao l.length cap, .int .i64 s] 29)).alloc (.cells #[.slice none 0 0, .int .i64 0] 29)) w1 → Bx w w1 (.slice ao l.length cap) (.int .i64 s)) := fun w1 hb => hst.later hb
  generalize l.length = n at *
  clear hst hm
  go_enter Try.func19, Try.ntmps19
  go_wp2_with (go_at_call 13; refine hrd.mono ?_; rintro e w1 ⟨rfl, hb1⟩; have hx := HBx.out w1 hb1; obtain ⟨_, _, a0, a1, r0, r1, f0, f1⟩ := id hx)
  refine bodyPost_ret (v := .tuple #[.agg #[.slice none 0 0, .int .i64 0], .int .i64 9]) ?_ rfl ⟨none, 0, rfl, hx.done _ _, World.ownsRow_nil _ _ _ _⟩
  simp [results, Try.results19, go_sem, r0, r1]

set_option maxHeartbeats 1600000 in
set_option maxRecDepth 20000 in
theorem repair_ok (ao : Option Addr) (cap : Nat) (l : List UInt8) (s : Int) (w : World) (hm : mayB l.length s = true) (hV : BytesV w (.slice ao l.length cap) l) :
    Calls Try.prog 19 #[.agg #[.slice ao l.length cap, .int .i64 s]] w (TAns w (l.take (readL l).2) (min s ((readL l).2 : Nat)) 0) := by
  have hmm : l.length ≤ 1048576 ∧ 0 ≤ s ∧ s ≤ l.length := by simpa [mayB] using hm
  obtain ⟨hl, hs0, hs1⟩ := hmm
  have hst := Bx.start w (.slice ao l.length cap) (.int .i64 s) 29 29
  have hrd0 := read_ok ao cap l s ((w.alloc (.cells #[.slice ao l.length cap, .int .i64 s] 29)).alloc (.cells #[.slice none 0 0, .int .i64 0] 29)) hm (hV.below hst.b)
  have hrd : Calls Try.prog 13 #[.agg #[.slice ao l.length cap, .int .i64 s]] ((w.alloc (.cells #[.slice ao l.length cap, .int .i64 s] 29)).alloc (.cells #[.slice none 0 0, .int .i64 0] 29)) fun e w' => ∃ xo xn xc, e = .returned (.tuple #[.slice xo xn xc, .int .i64 ((readL l).2 : Nat), .int .i64 0]) ∧ Below ((w.alloc (.cells #[.slice ao l.length cap, .int .i64 s] 29)).alloc (.cells #[.slice none 0 0, .int .i64 0] 29)).heap.size ((w.alloc (.cells #[.slice ao l.length cap, .int .i64 s] 29)).alloc (.cells #[.slice none 0 0, .int .i64 0] 29)) w' := hrd0.mono fun e w' ⟨xo, xc, h1, h2, _⟩ => ⟨xo, _, xc, h1, h2⟩
  have hq1 : (readL l).2 ≤ l.length := run_le l l.length
  generalize (readL l).2 = q at *
  have htl : (l.take q).length = q := take_len hq1
  have HBx : Hid (∀ w1, Below ((w.alloc (.cells #[.slice ao l.length cap, .int .i64 s] 29)).alloc (.cells #[.slice none 0 0, .int .i64 0] 29)).heap.size ((w.alloc (.cells #[.slice ao l.length cap, .int .i64 s] 29)).alloc (.cells #[.slice none 0 0, .int .i64 0] 29)) w1 → Bx w w1 (.slice ao l.length cap) (.int .i64 s)) := fun w1 hb => hst.later hb
  have HCu : Hid (∀ w1, Bx w w1 (.slice ao l.length cap) (.int .i64 s) → Calls Try.prog 24 #[.agg #[.slice ao l.length cap, .int .i64 s], .int .i64 q, .int .i64 (min s (q : Nat))] w1 fun e w' => ∃ ao' cap', e = .returned (.agg #[.slice ao' q cap', .int .i64 (min s (q : Nat))]) ∧ Below w1.heap.size w1 w' ∧ Hid (w'.ownsRow w1.heap.size 5 1 (.slice ao' q cap') q (bvals (l.take q)))) := fun w1 hx => cut_any ao cap l s _ q w1 hl hq1 (hV.below hx.b)
  have HT : TAns w (l.take q) (min s (q : Nat)) 0 = fun e w' => ∃ ao cap, e = .returned (.tuple #[.agg #[.slice ao q cap, .int .i64 (min s (q : Nat))], .int .i64 0]) ∧ Below w.heap.size w w' ∧ Hid (w'.ownsRow w.heap.size 5 1 (.slice ao q cap) q (bvals (l.take q))) := by unfold TAns; rw [htl]
  rw [HT]
  clear HT htl hrd0
  generalize bvals (l.take q) = xs at *
  generalize l.length = n at *
  clear hst hm hV
  by_cases hsq : s ≤ (q : Int)
  · have hmin : min s (q : Int) = s := by omega
    rw [hmin] at HCu ⊢
    go_enter Try.func19, Try.ntmps19
    go_wp2_with (first | (go_at_call 13; refine hrd.mono ?_; rintro e w1 ⟨zo, zn, zc, rfl, hb1⟩; have hx := HBx.out w1 hb1; have hcu := HCu.out w1 hx; obtain ⟨_, _, a0, a1, _, _, _, _⟩ := id hx) | (go_at_call 24; refine hcu.mono ?_; rintro e w2 ⟨bo, bc, rfl, hb2, HO⟩; have hx2 := hx.later hb2; obtain ⟨_, _, _, _, r0, r1, f0, f1⟩ := id hx2))
    refine bodyPost_ret (v := .tuple #[.agg #[.slice bo q bc, .int .i64 s], .int .i64 0]) ?_ rfl ⟨bo, bc, rfl, hx2.done _ _, owns_done HO.out hx.z _ _⟩
    simp [results, Try.results19, go_sem, r0, r1]
  · have hmin : min s (q : Int) = (q : Int) := by omega
    rw [hmin] at HCu ⊢
    go_enter Try.func19, Try.ntmps19
    go_wp2_with (first | (go_at_call 13; refine hrd.mono ?_; rintro e w1 ⟨zo, zn, zc, rfl, hb1⟩; have hx := HBx.out w1 hb1; have hcu := HCu.out w1 hx; obtain ⟨_, _, a0, a1, _, _, _, _⟩ := id hx) | (go_at_call 24; refine hcu.mono ?_; rintro e w2 ⟨bo, bc, rfl, hb2, HO⟩; have hx2 := hx.later hb2; obtain ⟨_, _, _, _, r0, r1, f0, f1⟩ := id hx2))
    refine bodyPost_ret (v := .tuple #[.agg #[.slice bo q bc, .int .i64 q], .int .i64 0]) ?_ rfl ⟨bo, bc, rfl, hx2.done _ _, owns_done HO.out hx.z _ _⟩
    simp [results, Try.results19, go_sem, r0, r1]

/-- lists that lie somewhere. -/
def LisV (w : World) (v : Value) (rs : List (List Int)) : Prop := ∃ (us : List Value) (ao : Option Addr) (cap : Nat), v = .slice ao rs.length cap ∧ us.length = rs.length ∧ (∀ i, i < rs.length → IntsV w (us.getD i nilV) (rs.getD i [])) ∧ (rs ≠ [] → ∃ b off, ao = some ⟨b, off, none⟩ ∧ b < w.heap.size ∧ ∀ i, i < rs.length → w.cell? ⟨b, off + i, none⟩ = some (us.getD i nilV))
theorem LisV.below {w w' : World} {v : Value} {rs : List (List Int)} (h : LisV w v rs) (hb : Below w.heap.size w w') : LisV w' v rs := by
  obtain ⟨us, ao, cap, rfl, h1, h2, h3⟩ := h
  refine ⟨us, ao, cap, rfl, h1, fun i hi => (h2 i hi).below hb, fun hne => ?_⟩
  obtain ⟨b, off, rfl, hlt, hat⟩ := h3 hne
  exact ⟨b, off, rfl, Nat.lt_of_lt_of_le hlt hb.size, fun i hi => (hb.cell (p := ⟨b, _, none⟩) hlt).trans (hat i hi)⟩
theorem LisO.v {w : World} {base : Nat} {v : Value} {rs : List (List Int)} (h : LisO w base v rs) : LisV w v rs := by
  obtain ⟨us, h1, h2, h3⟩ := h
  rcases h1.2 with ⟨rfl, h0⟩ | ⟨g, cap, cur, rfl, hb, hg, hnc, hcm, hcs, htake⟩
  · have : rs = [] := by simpa using h0
    subst this
    exact ⟨us, none, 0, rfl, h2, fun i hi => by simp at hi, fun h => absurd rfl h⟩
  · refine ⟨us, _, cap, rfl, h2, fun i hi => intsV_of_owns (h3 i hi), fun _ => ⟨g, 0, rfl, (Array.getElem?_eq_some_iff.1 hg).1, fun i hi => ?_⟩⟩
    rw [Nat.zero_add, h1.cellAt i (by omega)]
    simp [List.getD_eq_getElem?_getD, show i < us.length by omega]
theorem LisV.at {w : World} {ao : Option Addr} {cap n : Nat} {rs : List (List Int)} (h : LisV w (.slice ao n cap) rs) {i : Nat} (hi : i < rs.length) : ∃ b off, ao = some ⟨b, off, none⟩ ∧ b < w.heap.size ∧ ∃ u, w.cell? ⟨b, off + i, none⟩ = some u ∧ IntsV w u (rs.getD i []) := by
  obtain ⟨us, ao', cap', hv, h1, h2, h3⟩ := h
  injection hv with e1 e2 e3
  subst e1
  obtain ⟨b, off, e, hlt, hat⟩ := h3 (by rintro rfl; simp at hi)
  exact ⟨b, off, e, hlt, _, hat i hi, h2 i hi⟩

end Go.Proofs.Ytjnobdpjohbdnaa
