/-
  A range over slices.Backward, round by round: the body knows which round it is. (The library's law of a range over a function lets a round have any element: here the place of each round is told.)
-/
import Derived.Test.YtoeagklgfaoejaaDoorLogicRound
namespace Go.Proofs.YtoeagklgfaoejaaDoor
open Go.ChangeShapes Go.WideShapes Go.ChangeAt Go.RowKit Go.Deep Go.Shelf
open Terms

attribute [local go_sem] Oper.semAt_some

/-- what the round of this number is handed. -/
def backArg (l : List (Int × Int)) (n k : Nat) : Array Value := #[.int .i64 ((n - 1 - k : Nat) : Int), .agg #[.int .i64 (l.getD (n - 1 - k) (0, 0)).1, .int .i64 (l.getD (n - 1 - k) (0, 0)).2]]

set_option maxRecDepth 100000 in
set_option maxHeartbeats 2000000 in
/-- THE ITERATOR: n rounds, from the last place to the first. -/
theorem back_by (m : Nat) (L Bs n₀ b off n cap : Nat) (l : List (Int × Int)) (hnl : n = l.length) (h60 : n ≤ 60) (hb : b < n₀) (J : Nat → World → Prop)
    (hY : ∀ k W, k < n → J k W → YieldAt Fence.wide (m - 1) Tryd.prog L (backArg l n k) W fun e W' => e = .returned (.bool true) ∧ J (k + 1) W' ∧ BackK n₀ Bs W W')
    (W : World) (hBs : W.cell? ⟨Bs, 0, none⟩ = some (.slice (some ⟨b, off, none⟩) n cap)) (hc : OpsAt W b off l) (h0 : J 0 W) :
    CallsIn Fence.wide m Tryd.prog 34 #[.func (.yield L) #[] #[], .pointer (some ⟨Bs, 0, none⟩)] W fun e W' => (∃ v, e = .returned v) ∧ J n W' := by
  refine callsIn_of_wp Tryd.func34 rfl trivial ?_ rfl
  simp only [Tryd.ntmps34, List.size_toArray, List.length_cons, List.length_nil, Nat.reduceAdd, Nat.reduceSub, Array.replicate_succ, Array.replicate_zero, List.push_toArray, List.append_toArray, List.nil_append, List.cons_append]
  have HC : Hid (OpsAt W b off l) := hc
  have HN : Hid (n = l.length) := hnl
  clear hc hnl
  gi_wp2
  gi_loopw [3] (fun i wr => ∃ k : Nat, k ≤ n ∧ i = .int .i64 ((n : Int) - 1 - k) ∧ J k wr ∧ BackK n₀ Bs W wr) (fun i _ => (intOf i + 1).toNat)
  case atStart => exact ⟨0, Nat.zero_le _, by first | rfl | simp, h0, Below.refl _ _, rfl⟩
  case round =>
    obtain ⟨k, hk, rfl, hJs, hnx, hbx⟩ := hrel
    have hcb : wr.cell? ⟨Bs, 0, none⟩ = some (.slice (some ⟨b, off, none⟩) n cap) := (World.cell?_of_block (w := W) hbx).trans hBs
    by_cases hlt : k < n
    · obtain ⟨p, hp⟩ : ∃ p : Nat, p = n - 1 - k := ⟨_, rfl⟩
      have hpi : (n : Int) - 1 - k = (p : Int) := by omega
      have hpn : p < n := by omega
      obtain ⟨c0, c1⟩ := (HC.out.below hnx hb) p (by rw [← HN.out]; exact hpn)
      obtain ⟨fn, tmps, assign, body, hy, hR⟩ := hY k wr hlt hJs
      simp only [backArg, ← hp] at hy
      rw [hpi]
      have HPI : Hid ((n : Int) - 1 - k = (p : Int)) := hpi
      clear hp hpi
      generalize l.getD p (0, 0) = xy at c0 c1 hy
      obtain ⟨x, y⟩ := xy
      simp only at c0 c1 hy
      gi_wp2
      refine ⟨fun h => by simp [Fence.wide] at h, hR.mono ?_⟩
      rintro e W3 ⟨rfl, hJ3, hk3, hk4⟩
      gi_wp2
      go_roundw
      case rel => exact ⟨k + 1, by omega, by have := HPI.out; first | (congr 1; omega) | (simp; omega), hJ3, hnx.trans hk3, hk4.trans hbx⟩
      case measure => have := HPI.out; first | (simp [intOf]; omega) | simp [intOf]
    · obtain rfl : k = n := by omega
      have hpi : (k : Int) - 1 - k = -1 := by omega
      rw [hpi]
      gi_wp2
      go_end0
      exact ⟨⟨_, rfl⟩, hJs⟩

/-- how a round ends: it goes on. -/
def roundEnd (B : Nat) (Kp : World → World → Prop) (J : World → Prop) (W : World) : Exit → Act → World → Prop
  | .normal, _, W' => KeepsFrom B W W' ∧ Kp W W' ∧ J W'
  | _, _, _ => False

set_option maxHeartbeats 1000000 in
/-- THE RANGE: of rounds that all go on, each of which knows its number. -/
theorem range_by {P : Program} {g : Operand} {ps : Array Tmp} {assign body : Code} {Q : Exit → Act → World → Prop} {a : Act} {w : World} {m gf N : Nat} {lb : Array Value}
    (hm : 1 ≤ m) (hg : a.eval g = .func (.func gf) #[] lb) (eg : ∀ args w, (callFunc gf args).run P w = .ok (.enter gf args) w) (arg : Nat → Array Value) (hps : ∀ k, (arg k).size = ps.size) (Kp : World → World → Prop)
    (hseq : ∀ (l : Nat) (J : Nat → World → Prop) (W : World), Below w.heap.size w W → (∀ k W1, k < N → J k W1 → YieldAt Fence.wide (m - 1 - 1) P l (arg k) W1 fun e W' => e = .returned (.bool true) ∧ J (k + 1) W' ∧ Kp W1 W') → J 0 W → CallsIn Fence.wide (m - 1) P gf (#[.func (.yield l) #[] #[]] ++ lb) W fun e W' => (∃ v, e = .returned v) ∧ J N W')
    (hKt : ∀ {A B C : World}, Kp A B → Kp B C → Kp A C) (hKb : ∀ (W : World) (l : Nat) (o o' : Obj), w.heap.size ≤ l → W.heap[l]? = some o → o.isCells = false → o.isWalk = false → Kp W (W.putObj l o'))
    (I : Nat → World → Prop) (hI : OwnFrom w.heap.size I) (h0 : I 0 w) (Ax : Nat → Act → World → Prop) (hAx : ∀ k a', OwnFrom w.heap.size (fun (_ : Unit) W => Ax k a' W))
    (hassign : ∀ (l k : Nat) (W : World) (K : Act → World → Prop), k < N → I k W → (∀ a' W', KeepsFrom w.heap.size W W' → Kp W W' → I k W' → Ax k a' W' → K a' W') →
      assign.wpIn (Fence.wide.inRound l) (m - 1 - 1) P (Exit.then K (fun _ _ _ => False)) { tmps := (ps.zip (arg k)).foldl (fun t (p, v) => t.setIfInBounds p v) a.tmps, defers := [] } W)
    (hbody : ∀ (l k : Nat) (a' : Act) (W : World), k < N → I k W → Ax k a' W → body.wpIn (Fence.wide.inRound l) (m - 1 - 1) P (roundEnd w.heap.size Kp (I (k + 1)) W) a' W)
    (hdone : ∀ (D : Nat) (W : World), w.heap.size ≤ D → I N W → W.heap[D]? = some (.deferred (some [])) → Q .normal { a with defers := { target := .collected D, args := #[] } :: a.defers } W) :
    (Code.rangeFunc g ps assign body).wpIn Fence.wide m P Q a w := by
  refine wpIn_rangeFunc ?_
  intro fn hfn
  rw [show Fence.wide.round = none from rfl]
  -- the two blocks of the range itself: what was deferred (D), and its record (R)
  obtain ⟨mk, hmk⟩ : ∃ mk : LoopState → Loop, mk = fun st => { state := st, pending := none, fn, tmps := a.tmps, params := ps, assign, body, defers := w.heap.size } := ⟨_, rfl⟩
  obtain ⟨X, hX⟩ : ∃ X, X = (w.alloc (.deferred (some []))).alloc (.loop (mk .ready)) := ⟨_, rfl⟩
  obtain ⟨R, hR⟩ : ∃ R, R = w.heap.size + 1 := ⟨_, rfl⟩
  have hXR : X.heap[R]? = some (.loop (mk .ready)) := by
    have := World.alloc_heap_new (w.alloc (.deferred (some []))) (.loop (mk .ready))
    rw [World.size_alloc, ← hX, ← hR] at this
    exact this
  have hXD : X.heap[w.heap.size]? = some (.deferred (some [])) := by
    rw [hX]; exact (Below.heap_alloc _ _ _ (by simp)).trans (World.alloc_heap_new w _)
  have hXI : I 0 X := by rw [hX]; exact hI.alloc _ (hI.alloc _ h0)
  have hXB : Below w.heap.size w X := by rw [hX]; exact ((Below.refl _ w).alloc (Nat.le_refl _) _).alloc (by simp) _
  refine ⟨R, [{ target := .collected w.heap.size, args := #[] }], X, { target := .fn (.func gf) lb, args := #[.func (.yield R) #[] #[]] }, X, gf, #[.func (.yield R) #[] #[]] ++ lb, X, ?_, ?_, ?_, ?_, fun _ => hm, ?_⟩
  · rw [hX, hR, hmk]; exact run_enterLoop_outer _ _ _ _ _
  · simp only [resolve, hg]
    simp [go_sem]
  · intro f' _; trivial
  · simp [invoke, go_sem, eg]
  -- the iterator, with what the range keeps beside the caller's own
  refine (hseq R (fun k W => I k W ∧ W.heap[R]? = some (.loop (mk .ready)) ∧ W.heap[w.heap.size]? = some (.deferred (some []))) X hXB ?_ ⟨hXI, hXR, hXD⟩).mono ?_
  · rintro k W hkN ⟨hi, hl, hd⟩
    have hy := run_yield (P := P) (args := arg k) hl (by rw [hmk]; exact hps k)
    rw [hmk] at hy
    refine ⟨fn, _, assign, body, hy, roundIn_of_wpIn hfn (hassign _ k W _ hkN hi ?_)⟩
    intro a' V hf hp hiV hax
    have hlV := hf.same _ _ (by omega) hl rfl
    have hdV := hf.same _ _ (Nat.le_refl _) hd rfl
    have hRV : R < V.heap.size := (Array.getElem?_eq_some_iff.1 hlV).1
    refine ⟨_, run_beginRound hlV (by rw [hmk]), ?_⟩
    obtain ⟨U, hU⟩ : ∃ U, U = V.putObj R (.loop { mk .ready with state := .busy }) := ⟨_, rfl⟩
    have hUR : U.heap[R]? = some (.loop { mk .ready with state := .busy }) := by rw [hU]; exact World.putObj_heap_same hRV
    have hUD : U.heap[w.heap.size]? = some (.deferred (some [])) := by rw [hU]; exact (World.putObj_heap_other (by omega)).trans hdV
    have hUK : Kp V U := by rw [hU]; exact hKb _ _ _ _ (by omega) hlV rfl rfl
    have hUI : I k U := by rw [hU]; exact hI.putObj _ hiV (by omega) hlV rfl
    have hUA : Ax k a' U := by rw [hU]; exact (hAx k a').putObj (s := ()) _ hax (by omega) hlV rfl
    rw [← hU]
    refine wpIn_mono (hbody _ k a' U hkN hUI hUA) ?_
    rintro e a3 Z hz
    cases e with
    | normal =>
      obtain ⟨hfZ, hpZ, hiZ⟩ := hz
      have hlZ := hfZ.same _ _ (by omega) hUR rfl
      have hdZ := hfZ.same _ _ (Nat.le_refl _) hUD rfl
      have hr := run_endRound (P := P) none hlZ
      have hRZ : R < Z.heap.size := (Array.getElem?_eq_some_iff.1 hlZ).1
      refine ⟨_, _, hr, rfl, ⟨hI.putObj _ hiZ (by omega) hlZ rfl, ?_, (World.putObj_heap_other (by omega)).trans hdZ⟩, hKt hp (hKt (hKt hUK hpZ) (hKb _ _ _ _ (by omega) hlZ rfl rfl))⟩
      rw [World.putObj_heap_same hRZ, hmk]
      rfl
    | _ => exact hz.elim
  · rintro e W2 ⟨⟨v, rfl⟩, hi, hl, hd⟩
    exact ⟨none, _, by have := run_endLoop (P := P) hl (by rw [hmk]; simp); rw [hmk] at this; exact this, hdone _ _ (Nat.le_refl _) (hI.putObj _ hi (by omega) hl rfl) ((World.putObj_heap_other (by omega)).trans hd)⟩
end Go.Proofs.YtoeagklgfaoejaaDoor
