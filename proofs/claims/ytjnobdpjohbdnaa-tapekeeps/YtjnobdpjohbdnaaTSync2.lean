/-
  The document's TapeSynced; tape.Crash and the document's TapeCrashed.
-/
import Derived.Test.YtjnobdpjohbdnaaTSync
namespace Go.Proofs.Ytjnobdpjohbdnaa
open Go.ChangeShapes Go.WideShapes Go.ChangeAt Go.RowKit Go.Deep

set_option maxHeartbeats 1600000 in
set_option maxRecDepth 20000 in
theorem crash_bad (ao : Option Addr) (cap : Nat) (l : List UInt8) (s : Int) (k : Int) (w : World) (hm : mayB l.length s = false) :
    Calls Try.prog 18 #[.agg #[.slice ao l.length cap, .int .i64 s], .int .i64 k] w (TAns w [] 0 9) := by
  have hst := Bx.start w (.slice ao l.length cap) (.int .i64 s) 29 29
  have hmb := mayBe_any ao l.length cap s ((w.alloc (.cells #[.slice ao l.length cap, .int .i64 s] 29)).alloc (.cells #[.slice none 0 0, .int .i64 0] 29))
  rw [hm] at hmb
  have HBx : Hid (∀ w1, Below ((w.alloc (.cells #[.slice ao l.length cap, .int .i64 s] 29)).alloc (.cells #[.slice none 0 0, .int .i64 0] 29)).heap.size ((w.alloc (.cells #[.slice ao l.length cap, .int .i64 s] 29)).alloc (.cells #[.slice none 0 0, .int .i64 0] 29)) w1 → Bx w w1 (.slice ao l.length cap) (.int .i64 s)) := fun w1 hb => hst.later hb
  generalize l.length = n at *
  clear hst hm
  go_enter Try.func18, Try.ntmps18
  go_wp2_with (go_at_call 21; refine hmb.mono ?_; rintro e w1 ⟨rfl, hb1⟩; have hx := HBx.out w1 hb1; obtain ⟨_, _, a0, a1, r0, r1, f0, f1⟩ := id hx)
  refine bodyPost_ret (v := .tuple #[.agg #[.slice none 0 0, .int .i64 0], .int .i64 9]) ?_ rfl ⟨none, 0, rfl, hx.done _ _, World.ownsRow_nil _ _ _ _⟩
  simp [results, Try.results18, go_sem, r0, r1]

set_option maxHeartbeats 1600000 in
set_option maxRecDepth 20000 in
theorem crash_neg (ao : Option Addr) (cap : Nat) (l : List UInt8) (s : Int) (k : Int) (w : World) (hm : mayB l.length s = true) (hk : k < 0) :
    Calls Try.prog 18 #[.agg #[.slice ao l.length cap, .int .i64 s], .int .i64 k] w (TAns w [] 0 2) := by
  have hst := Bx.start w (.slice ao l.length cap) (.int .i64 s) 29 29
  have hmb := mayBe_any ao l.length cap s ((w.alloc (.cells #[.slice ao l.length cap, .int .i64 s] 29)).alloc (.cells #[.slice none 0 0, .int .i64 0] 29))
  rw [hm] at hmb
  have HBx : Hid (∀ w1, Below ((w.alloc (.cells #[.slice ao l.length cap, .int .i64 s] 29)).alloc (.cells #[.slice none 0 0, .int .i64 0] 29)).heap.size ((w.alloc (.cells #[.slice ao l.length cap, .int .i64 s] 29)).alloc (.cells #[.slice none 0 0, .int .i64 0] 29)) w1 → Bx w w1 (.slice ao l.length cap) (.int .i64 s)) := fun w1 hb => hst.later hb
  generalize l.length = n at *
  clear hst hm
  go_enter Try.func18, Try.ntmps18
  go_wp2_with (go_at_call 21; refine hmb.mono ?_; rintro e w1 ⟨rfl, hb1⟩; have hx := HBx.out w1 hb1; obtain ⟨_, _, a0, a1, r0, r1, f0, f1⟩ := id hx)
  refine bodyPost_ret (v := .tuple #[.agg #[.slice none 0 0, .int .i64 0], .int .i64 2]) ?_ rfl ⟨none, 0, rfl, hx.done _ _, World.ownsRow_nil _ _ _ _⟩
  simp [results, Try.results18, go_sem, r0, r1]

/-- how many bytes a crash leaves. -/
def leftN (n : Nat) (s k : Int) : Nat := (s + min k (n - s)).toNat
set_option maxHeartbeats 1600000 in
set_option maxRecDepth 20000 in
theorem crash_ok (ao : Option Addr) (cap : Nat) (l : List UInt8) (s k : Int) (w : World) (hm : mayB l.length s = true) (hk : 0 ≤ k) (hV : BytesV w (.slice ao l.length cap) l) :
    Calls Try.prog 18 #[.agg #[.slice ao l.length cap, .int .i64 s], .int .i64 k] w (TAns w (l.take (leftN l.length s k)) (leftN l.length s k) 0) := by
  have hmm : l.length ≤ 1048576 ∧ 0 ≤ s ∧ s ≤ l.length := by simpa [mayB] using hm
  obtain ⟨hl, hs0, hs1⟩ := hmm
  have hq : leftN l.length s k ≤ l.length ∧ (leftN l.length s k : Int) = s + min k (l.length - s) := by unfold leftN; omega
  obtain ⟨q, hqd⟩ : ∃ q, q = leftN l.length s k := ⟨_, rfl⟩
  rw [← hqd] at hq ⊢
  obtain ⟨hq1, hq2⟩ := hq
  clear hqd
  have htl : (l.take q).length = q := take_len hq1
  have hst := Bx.start w (.slice ao l.length cap) (.int .i64 s) 29 29
  have hmb := mayBe_any ao l.length cap s ((w.alloc (.cells #[.slice ao l.length cap, .int .i64 s] 29)).alloc (.cells #[.slice none 0 0, .int .i64 0] 29))
  rw [hm] at hmb
  have HBx : Hid (∀ w1, Below ((w.alloc (.cells #[.slice ao l.length cap, .int .i64 s] 29)).alloc (.cells #[.slice none 0 0, .int .i64 0] 29)).heap.size ((w.alloc (.cells #[.slice ao l.length cap, .int .i64 s] 29)).alloc (.cells #[.slice none 0 0, .int .i64 0] 29)) w1 → Bx w w1 (.slice ao l.length cap) (.int .i64 s)) := fun w1 hb => hst.later hb
  have HCu : Hid (∀ w1, Bx w w1 (.slice ao l.length cap) (.int .i64 s) → Calls Try.prog 24 #[.agg #[.slice ao l.length cap, .int .i64 s], .int .i64 q, .int .i64 q] w1 fun e w' => ∃ ao' cap', e = .returned (.agg #[.slice ao' q cap', .int .i64 q]) ∧ Below w1.heap.size w1 w' ∧ Hid (w'.ownsRow w1.heap.size 5 1 (.slice ao' q cap') q (bvals (l.take q)))) := fun w1 hx => cut_any ao cap l s q q w1 hl hq1 (hV.below hx.b)
  have HT : TAns w (l.take q) q 0 = fun e w' => ∃ ao cap, e = .returned (.tuple #[.agg #[.slice ao q cap, .int .i64 q], .int .i64 0]) ∧ Below w.heap.size w w' ∧ Hid (w'.ownsRow w.heap.size 5 1 (.slice ao q cap) q (bvals (l.take q))) := by unfold TAns; rw [htl]
  rw [HT]
  clear HT htl
  generalize bvals (l.take q) = xs at *
  generalize l.length = n at *
  clear hst hm hV
  have HQ : Hid ((q : Int) = s + min k (n - s)) := hq2
  by_cases hkk : k ≤ (n : Int) - s
  · obtain rfl : k = (q : Int) - s := by omega
    have hsub : wrap64 ((n : Int) - s) = (n : Int) - s := IntWalk.wrap64_in _ (by omega)
    have hadd : wrap64 (s + ((q : Int) - s)) = (q : Int) := by rw [IntWalk.wrap64_in _ (by omega)]; omega
    have hadd' : IntKind.i64.wrap (s + ((q : Int) - s)) = (q : Int) := by rw [IntWalk.i64_left]; exact hadd
    have hsub' : IntKind.i64.wrap ((n : Int) - s) = (n : Int) - s := by rw [IntWalk.i64_left]; exact hsub
    have hmin : min ((q : Int) - s) ((n : Int) - s) = (q : Int) - s := by omega
    clear hq2
    go_enter Try.func18, Try.ntmps18
    go_wp2_with (first | (go_at_call 21; refine hmb.mono ?_; rintro e w1 ⟨rfl, hb1⟩; have hx := HBx.out w1 hb1; have hcu := HCu.out w1 hx; obtain ⟨_, _, a0, a1, _, _, _, _⟩ := id hx) | (go_at_call 24; refine hcu.mono ?_; rintro e w2 ⟨bo, bc, rfl, hb2, HO⟩; have hx2 := hx.later hb2; obtain ⟨_, _, _, _, r0, r1, f0, f1⟩ := id hx2))
    refine bodyPost_ret (v := .tuple #[.agg #[.slice bo q bc, .int .i64 q], .int .i64 0]) ?_ rfl ⟨bo, bc, rfl, hx2.done _ _, owns_done HO.out hx.z _ _⟩
    simp [results, Try.results18, go_sem, r0, r1]
  · obtain rfl : q = n := by omega
    have hsub : wrap64 ((q : Int) - s) = (q : Int) - s := IntWalk.wrap64_in _ (by omega)
    have hadd : wrap64 (s + ((q : Int) - s)) = (q : Int) := by rw [IntWalk.wrap64_in _ (by omega)]; omega
    have hadd' : IntKind.i64.wrap (s + ((q : Int) - s)) = (q : Int) := by rw [IntWalk.i64_left]; exact hadd
    have hsub' : IntKind.i64.wrap ((q : Int) - s) = (q : Int) - s := by rw [IntWalk.i64_left]; exact hsub
    have hmin : min k ((q : Int) - s) = (q : Int) - s := by omega
    clear hq2
    go_enter Try.func18, Try.ntmps18
    go_wp2_with (first | (go_at_call 21; refine hmb.mono ?_; rintro e w1 ⟨rfl, hb1⟩; have hx := HBx.out w1 hb1; have hcu := HCu.out w1 hx; obtain ⟨_, _, a0, a1, _, _, _, _⟩ := id hx) | (go_at_call 24; refine hcu.mono ?_; rintro e w2 ⟨bo, bc, rfl, hb2, HO⟩; have hx2 := hx.later hb2; obtain ⟨_, _, _, _, r0, r1, f0, f1⟩ := id hx2))
    refine bodyPost_ret (v := .tuple #[.agg #[.slice bo q bc, .int .i64 q], .int .i64 0]) ?_ rfl ⟨bo, bc, rfl, hx2.done _ _, owns_done HO.out hx.z _ _⟩
    simp [results, Try.results18, go_sem, r0, r1]

end Go.Proofs.Ytjnobdpjohbdnaa
