/-
  The contract of the document's own PartsOfGraph.
-/
import Derived.Test.YtknneajaklcjdaaRefTurn
import Derived.Test.YtknneajaklcjdaaRefReached
import Derived.Test.YtknneajaklcjdaaSParts
namespace Go.Proofs.Ytknneajaklcjdaa
open Go.ChangeShapes Go.WideShapes Go.ChangeAt Go.RowKit Go.Deep
open Terms

/-- a row of parts under way, made in the world T. -/
structure PJ (T w : World) (P n : Nat) (pt : Nat → Int) : Prop where
  below : Below T.heap.size T w
  base : T.heap.size ≤ P
  row : w.rowIs P 3 n (intRow pt)
def putI (pt : Nat → Int) (c : Nat) (x : Int) : Nat → Int := fun j => if j = c then x else pt j
theorem PJ.later {T w w' : World} {P n : Nat} {pt : Nat → Int} (h : PJ T w P n pt) (hb : Below w.heap.size w w') : PJ T w' P n pt := ⟨h.below.trans (hb.mono h.below.size), h.base, row_later h.row hb⟩
theorem PJ.put {T w : World} {P n : Nat} {pt : Nat → Int} (h : PJ T w P n pt) (c : Nat) (x : Int) : PJ T (w.setCell ⟨P, c, none⟩ (.int .i64 x)) P n (putI pt c x) := by
  refine ⟨h.below.setCell h.base _, h.base, ?_⟩
  have h1 := h.row.set c (.int .i64 x)
  have e : intRow (putI pt c x) = fun j => if j = c then .int .i64 x else intRow pt j := by
    funext j
    unfold intRow putI
    split <;> rfl
  rw [e]
  exact h1
theorem PJ.cell {T w : World} {P n : Nat} {pt : Nat → Int} (h : PJ T w P n pt) {c : Nat} (hc : c < n) : w.cell? ⟨P, c, none⟩ = some (.int .i64 (pt c)) := h.row.cell hc
theorem PJ.frozen {T w : World} {P n : Nat} {pt : Nat → Int} (h : PJ T w P n pt) (c : Nat) : w.frozen? ⟨P, c, none⟩ = false := h.row.frozen c
theorem PJ.congr {T w : World} {P n : Nat} {pt pt' : Nat → Int} (h : PJ T w P n pt) (e : ∀ j, j < n → pt j = pt' j) : PJ T w P n pt' := ⟨h.below, h.base, h.row.congr fun j hj => by unfold intRow; rw [e j hj]⟩
theorem PJ.made (T : World) (n : Nat) : PJ T (T.alloc (.cells (madeCells #[.int .i64 0] n) 3)) T.heap.size n (fun _ => 0) := ⟨(Below.refl _ _).alloc (Nat.le_refl _) _, Nat.le_refl _, World.rowIs_made T (.int .i64 0) n 3⟩
/-- truths that lie somewhere. -/
def TruAt (w : World) (b off n : Nat) (f : Nat → Bool) : Prop := ∀ j, j < n → w.cell? ⟨b, off + j, none⟩ = some (.bool (f j))
theorem TruAt.put {w : World} {b off n P c : Nat} {f : Nat → Bool} {x y : Int} (h : TruAt w b off n f) (hc : w.cell? ⟨P, c, none⟩ = some (.int .i64 y)) : TruAt (w.setCell ⟨P, c, none⟩ (.int .i64 x)) b off n f := fun j hj => by
  rw [World.cell?_setCell_other]
  · exact h j hj
  · intro e
    have h1 := h j hj
    first
      | (rw [e, hc] at h1; injection Option.some.inj h1)
      | (rw [← e, hc] at h1; injection Option.some.inj h1)
theorem TruAt.later {w w' : World} {b off n : Nat} {f : Nat → Bool} (h : TruAt w b off n f) (hb : Below w.heap.size w w') : TruAt w' b off n f := fun j hj => (hb.cell (p := ⟨b, off + j, none⟩) (World.block_lt_of_cell? _ _ (h j hj))).trans (h j hj)
theorem truAt_of {w : World} {v : Value} {l : List Bool} {n : Nat} (h : BoolsV w v l) (hl : l.length = n) (hn : 0 < n) : ∃ b off cap, v = .slice (some ⟨b, off, none⟩) n cap ∧ TruAt w b off n (fun j => l.getD j false) := by
  obtain ⟨ao, cap, rfl, h2⟩ := h
  obtain ⟨b, off, rfl, _, h3⟩ := h2 (fun e => by rw [e] at hl; simp at hl; omega)
  exact ⟨b, off, cap, by rw [hl], fun j hj => h3 j (by omega)⟩
/-- so many spots looked at: the part of spot i. -/
def fillI (pt : Nat → Int) (i : Nat) (A B : Nat → Bool) (k : Nat) : Nat → Int := fun j => if j < k ∧ A j = true ∧ B j = true then (i : Int) else pt j
theorem fillI_zero {pt : Nat → Int} {i : Nat} {A B : Nat → Bool} : fillI pt i A B 0 = pt := by
  funext j
  unfold fillI
  rw [if_neg (by omega)]
theorem fillI_no {pt : Nat → Int} {i k : Nat} {A B : Nat → Bool} (h : ¬ (A k = true ∧ B k = true)) : fillI pt i A B (k + 1) = fillI pt i A B k := by
  funext j
  unfold fillI
  by_cases e : j = k
  · subst e
    rw [if_neg (fun q => h q.2), if_neg (by omega)]
  · by_cases e2 : j < k ∧ A j = true ∧ B j = true
    · rw [if_pos e2, if_pos ⟨by omega, e2.2⟩]
    · rw [if_neg e2, if_neg (fun q => e2 ⟨by omega, q.2⟩)]
theorem fillI_yes {pt : Nat → Int} {i k : Nat} {A B : Nat → Bool} (h : A k = true ∧ B k = true) : fillI pt i A B (k + 1) = putI (fillI pt i A B k) k (i : Int) := by
  funext j
  unfold fillI putI
  by_cases e : j = k
  · subst e
    rw [if_pos ⟨by omega, h⟩, if_pos rfl]
  · rw [if_neg e]
    show _ = if j < k ∧ A j = true ∧ B j = true then (i : Int) else pt j
    by_cases e2 : j < k ∧ A j = true ∧ B j = true
    · rw [if_pos e2, if_pos ⟨by omega, e2.2⟩]
    · rw [if_neg e2, if_neg (fun q => e2 ⟨by omega, q.2⟩)]
theorem nats_one {w : World} {h : Nat} {i : Nat} (hc : w.cell? ⟨h, 0, none⟩ = some (.int .i64 (i : Int))) : NatsV w (.slice (some ⟨h, 0, none⟩) [i].length 1) [i] :=
  ⟨_, 1, rfl, fun _ => ⟨h, 0, rfl, World.block_lt_of_cell? _ _ hc, fun j hj => by
    obtain rfl : j = 0 := by simpa using hj
    exact hc⟩⟩

set_option maxHeartbeats 1600000 in
set_option maxRecDepth 20000 in
theorem rparts_bad (so no bo : Option Addr) (sc nc bc : Nat) (g : Gr) (w : World) (hz : GrLe g) (hV : GraphV w (.slice so g.spots.length sc) (.slice no g.next.length nc) (.slice bo g.sets.length bc) g) (hc : ¬ gcode g = 0) :
    Calls Try.prog 8 #[.agg #[.slice so g.spots.length sc, .int .i64 g.init, .slice no g.next.length nc, .slice bo g.sets.length bc, .int .i64 g.many]] w fun e w' => e = .returned (.tuple #[.slice none 0 0, .int .i64 9]) ∧ Below w.heap.size w w' := by
  have hA : ∀ o, Below w.heap.size w (w.alloc o) := fun o => (Below.refl _ _).alloc (Nat.le_refl _) o
  have hch := fun o => gfault_any so no bo sc nc bc g (w.alloc o) hz.spots hz.next hz.sets hz.rows (hV.below (hA o))
  rw [gcode_nine hc] at hch
  clear hV hz hc
  generalize g.spots.length = sn at *
  generalize g.next.length = nn at *
  generalize g.sets.length = bn at *
  generalize g.init = gi at *
  generalize g.many = gm at *
  go_enter Try.func8, Try.ntmps8
  go_wp2_with (go_at_call 19; refine (hch _).mono ?_; rintro e w1 ⟨rfl, hb1⟩)
  go_ret2
  exact ⟨rfl, (hA _).trans (hb1.mono (hA _).size)⟩

set_option maxHeartbeats 6400000 in
set_option maxRecDepth 20000 in
/-- THE CONTRACT OF PartsOfGraph. -/
theorem rparts_ok (so no bo : Option Addr) (sc nc bc : Nat) (g : Gr) (w : World) (hz : GrLe g) (hV : GraphV w (.slice so g.spots.length sc) (.slice no g.next.length nc) (.slice bo g.sets.length bc) g) (hc : gcode g = 0) (htot : totN (nxt g) g.spots.length ≤ 1099511627776) :
    Calls Try.prog 8 #[.agg #[.slice so g.spots.length sc, .int .i64 g.init, .slice no g.next.length nc, .slice bo g.sets.length bc, .int .i64 g.many]] w fun e w' => ∃ B, e = .returned (.tuple #[.slice (some ⟨B, 0, none⟩) g.spots.length g.spots.length, .int .i64 0]) ∧ Below w.heap.size w w' ∧ Hid (∃ pt, w.heap.size ≤ B ∧ w'.rowIs B 3 g.spots.length (intRow pt) ∧ PartsOk g pt) := by
  have hok := gcode_zero hc
  obtain ⟨n, hn⟩ : ∃ n, n = g.spots.length := ⟨_, rfl⟩
  have hnn : g.next.length = n := by rw [hn]; exact hok.head.next
  have hn2 : n ≤ 20000 := by rw [hn]; exact hok.head.n
  rw [hnn, ← hn] at hV ⊢
  obtain ⟨W0, hW0⟩ : ∃ W0, W0 = w.alloc (.cells #[.slice so n sc, .int .i64 g.init, .slice no n nc, .slice bo g.sets.length bc, .int .i64 g.many] 26) := ⟨_, rfl⟩
  have hA : Below w.heap.size w W0 := by rw [hW0]; exact (Below.refl _ _).alloc (Nat.le_refl _) _
  have hs0 : w.heap.size < W0.heap.size := by rw [hW0]; simp
  have HD : Hid (∀ w1, Below W0.heap.size W0 w1 → w1.cell? ⟨w.heap.size, 0, none⟩ = some (.slice so n sc) ∧ w1.cell? ⟨w.heap.size, 1, none⟩ = some (.int .i64 g.init) ∧ w1.cell? ⟨w.heap.size, 2, none⟩ = some (.slice no n nc) ∧ w1.cell? ⟨w.heap.size, 3, none⟩ = some (.slice bo g.sets.length bc) ∧ w1.cell? ⟨w.heap.size, 4, none⟩ = some (.int .i64 g.many)) := fun w1 hb => by
    have c : ∀ j, w1.cell? ⟨w.heap.size, j, none⟩ = W0.cell? ⟨w.heap.size, j, none⟩ := fun j => hb.cell (p := ⟨w.heap.size, j, none⟩) hs0
    refine ⟨(c _).trans ?_, (c _).trans ?_, (c _).trans ?_, (c _).trans ?_, (c _).trans ?_⟩ <;> (rw [hW0]; simp [go_sem])
  have hch := gfault_any so no bo sc nc bc g W0 hz.spots hz.next hz.sets hz.rows (by rw [hnn, ← hn]; exact hV.below hA)
  rw [hc, hnn, ← hn] at hch
  have hrows : ∀ w1, Below w.heap.size w w1 → ∀ p, p < n → ∃ b off, no = some ⟨b, off, none⟩ ∧ b < w1.heap.size ∧ ∃ uo uc, w1.cell? ⟨b, off + p, none⟩ = some (.slice uo (nxt g p).length uc) ∧ NatsV w1 (.slice uo (nxt g p).length uc) (nxt g p) := fun w1 hb p hp => by
    refine graph_rowsR (w := w1) (so := so) (sc := sc) (nc := nc) (bo := bo) (bc := bc) hok ?_ p (by rw [← hn]; exact hp)
    rw [hnn, ← hn]
    exact hV.below hb
  have hxl : ∀ i, i < n → (nxt g i).length ≤ 140737488355328 := fun i hi => Nat.le_trans (Nat.le_trans (totN_at (nx := nxt g) (n := g.spots.length) (by rw [← hn]; exact hi)) htot) (by decide)
  have hnx : ∀ i, i < n → ∀ k ∈ nxt g i, k < n := fun i hi k hk => by rw [hn] at hi ⊢; exact nxt_lt hok hi hk
  have HTu : Hid (∀ w1, Below W0.heap.size W0 w1 → Calls Try.prog 20 #[.agg #[.slice so n sc, .int .i64 g.init, .slice no n nc, .slice bo g.sets.length bc, .int .i64 g.many]] w1 fun e w' => ∃ nb, e = .returned (.agg #[.slice so n sc, .int .i64 0, .slice (some ⟨nb, 0, none⟩) n n, .slice none 0 0, .int .i64 0]) ∧ Below w1.heap.size w1 w' ∧ Hid (∃ us, TurnW w' w1.heap.size nb n us (turnN (nxt g) n))) := fun w1 hb => turned_any so no bo sc nc _ bc g.init g.many n (nxt g) w1 hn2 hnx (by rw [hn]; exact htot) (hrows w1 (hA.trans (hb.mono hA.size)))
  have HRa : Hid (∀ (w1 : World) (h i : Nat), Below W0.heap.size W0 w1 → i < n → w1.cell? ⟨h, 0, none⟩ = some (.int .i64 (i : Int)) → Calls Try.prog 21 #[.agg #[.slice so n sc, .int .i64 g.init, .slice no n nc, .slice bo g.sets.length bc, .int .i64 g.many], .slice (some ⟨h, 0, none⟩) 1 1] w1 fun e w' => ∃ v, e = .returned v ∧ Below w1.heap.size w1 w' ∧ Hid (BoolsV w' v (reachB (nxt g) [i] n))) := fun w1 h i hb hi hcl => reachedFrom_any so no bo (some ⟨h, 0, none⟩) sc n nc _ bc 1 g.init g.many n (nxt g) [i] w1 hn2 hnx (fun f hf => by simp at hf; omega) (by simp) hxl (hrows w1 (hA.trans (hb.mono hA.size))) rfl (nats_one hcl)
  have HRb : Hid (∀ (w1 : World) (h i nb T : Nat) (us : Nat → Value), TurnW w1 T nb n us (turnN (nxt g) n) → i < n → w1.cell? ⟨h, 0, none⟩ = some (.int .i64 (i : Int)) → Calls Try.prog 21 #[.agg #[.slice so n sc, .int .i64 0, .slice (some ⟨nb, 0, none⟩) n n, .slice none 0 0, .int .i64 0], .slice (some ⟨h, 0, none⟩) 1 1] w1 fun e w' => ∃ v, e = .returned v ∧ Below w1.heap.size w1 w' ∧ Hid (BoolsV w' v (reachB (turnN (nxt g) n) [i] n))) := fun w1 h i nb T us hT hi hcl => reachedFrom_any so (some ⟨nb, 0, none⟩) none (some ⟨h, 0, none⟩) sc n n 0 0 1 0 0 n (turnN (nxt g) n) [i] w1 hn2 (fun i hi k hk => turnN_lt i hi k hk) (fun f hf => by simp at hf; omega) (by simp) (fun i _ => Nat.le_trans (Nat.le_trans (turnN_tot i n) (by rw [hn]; exact htot)) (by decide)) (fun p hp => ⟨nb, 0, rfl, hT.row.lt, by
      obtain ⟨uo, uc, h1, h2⟩ := hT.rows hp
      exact ⟨uo, uc, by rw [Nat.zero_add]; exact h1, h2⟩⟩) rfl (nats_one hcl)
  have HPo : Hid (∀ pt : Nat → Int, Prt (nxt g) n n pt → PartsOk g pt) := fun pt h x hx => h.done (by rw [hn]; exact hx)
  have HFi : Hid (∀ (pt : Nat → Int) (i : Nat), Prt (nxt g) n i pt → i < n → pt i < 0 → Prt (nxt g) n (i + 1) (fillI pt i (fun j => (reachB (nxt g) [i] n).getD j false) (fun j => (reachB (turnN (nxt g) n) [i] n).getD j false) n)) := fun pt i h hi hp => by
    have hA : ∀ x, x < n → ((reachB (nxt g) [i] n).getD x false = true ↔ Way (nxt g) i x) := fun x hx => by rw [reachB_at hx]; simp
    have hB : ∀ x, x < n → ((reachB (turnN (nxt g) n) [i] n).getD x false = true ↔ Way (nxt g) x i) := fun x hx => by
      rw [reachB_at hx]
      simp only [decide_eq_true_eq, List.mem_singleton]
      constructor
      · rintro ⟨f, rfl, hw⟩
        exact (turn_iff hnx hx).1 hw
      · exact fun hw => ⟨i, rfl, (turn_iff hnx hx).2 hw⟩
    refine h.fill hi hp (fun x hx hw => ?_) (fun x hx hw => ?_)
    · unfold fillI
      rw [if_pos ⟨hx, (hA x hx).2 hw.1, (hB x hx).2 hw.2⟩]
    · unfold fillI
      rw [if_neg (fun q => hw ⟨(hA x hx).1 q.2.1, (hB x hx).1 q.2.2⟩)]
  have HLn : Hid (∀ (nx : Nat → List Nat) (i : Nat), (reachB nx [i] n).length = n) := fun nx i => reachB_length _ _ _
  have hmk := run_make_row' (P := Try.prog) 24 3 (.int .i64 0) 8 Try.underlying24 infoInt rfl .i64 .i64 n (by omega) (by omega)
  have HW0 : Hid (W0 = w.alloc (.cells #[.slice so n sc, .int .i64 g.init, .slice no n nc, .slice bo g.sets.length bc, .int .i64 g.many] 26)) := hW0
  rw [hW0] at hch
  generalize PartsOk g = PO at *
  generalize nxt g = nx at *
  generalize g.sets.length = bn at *
  generalize g.init = gi at *
  generalize g.many = gm at *
  clear hV hz hc hok hW0 hrows hxl hnx htot hn hnn
  go_enter Try.func8, Try.ntmps8
  go_upto_region 5 with (first | (go_at_call 19; refine hch.mono ?_; rintro e w1 ⟨rfl, hb1⟩; rw [← HW0.out] at hb1; obtain ⟨a0, a1, a2, a3, a4⟩ := HD.out w1 hb1; have hpa := HTu.out w1 hb1) | (go_at_call 20; refine hpa.mono ?_; rintro e w2 ⟨nb, rfl, hb2, HTw⟩))
  obtain ⟨T, hT⟩ : ∃ T, T = w2.alloc (.cells #[.slice so n sc, .int .i64 0, .slice (some ⟨nb, 0, none⟩) n n, .slice none 0 0, .int .i64 0] 26) := ⟨_, rfl⟩
  have hbT2 : Below w2.heap.size w2 T := by rw [hT]; exact (Below.refl _ _).alloc (Nat.le_refl _) _
  have hb02 := hb1.trans (hb2.mono hb1.size)
  have hb0T := hb02.trans (hbT2.mono hb02.size)
  have hsT : w2.heap.size < T.heap.size := by rw [hT]; simp
  have HG : Hid (∀ W, Below T.heap.size T W → Below W0.heap.size W0 W ∧ (W.cell? ⟨w.heap.size, 0, none⟩ = some (.slice so n sc) ∧ W.cell? ⟨w.heap.size, 1, none⟩ = some (.int .i64 gi) ∧ W.cell? ⟨w.heap.size, 2, none⟩ = some (.slice no n nc) ∧ W.cell? ⟨w.heap.size, 3, none⟩ = some (.slice bo bn bc) ∧ W.cell? ⟨w.heap.size, 4, none⟩ = some (.int .i64 gm))) := fun W hb => ⟨hb0T.trans (hb.mono hb0T.size), HD.out W (hb0T.trans (hb.mono hb0T.size))⟩
  have HK : Hid (∀ W, Below T.heap.size T W → (W.cell? ⟨w2.heap.size, 0, none⟩ = some (.slice so n sc) ∧ W.cell? ⟨w2.heap.size, 1, none⟩ = some (.int .i64 0) ∧ W.cell? ⟨w2.heap.size, 2, none⟩ = some (.slice (some ⟨nb, 0, none⟩) n n) ∧ W.cell? ⟨w2.heap.size, 3, none⟩ = some (.slice none 0 0) ∧ W.cell? ⟨w2.heap.size, 4, none⟩ = some (.int .i64 0)) ∧ ∃ us, TurnW W w1.heap.size nb n us (turnN nx n)) := fun W hb => by
    have c : ∀ j, W.cell? ⟨w2.heap.size, j, none⟩ = T.cell? ⟨w2.heap.size, j, none⟩ := fun j => hb.cell (p := ⟨w2.heap.size, j, none⟩) hsT
    refine ⟨⟨(c _).trans ?_, (c _).trans ?_, (c _).trans ?_, (c _).trans ?_, (c _).trans ?_⟩, ?_⟩
    iterate 5 (rw [hT]; simp [go_sem])
    obtain ⟨us, hu⟩ := HTw.out
    exact ⟨us, (hu.later hbT2).later hb⟩
  have HwT : Hid (Below w.heap.size w T) := hA.trans (hb0T.mono hA.size)
  have HTE : Hid (T = w2.alloc (.cells #[.slice so n sc, .int .i64 0, .slice (some ⟨nb, 0, none⟩) n n, .slice none 0 0, .int .i64 0] 26)) := hT
  rw [← hT]
  obtain ⟨g0, -, -, -, -⟩ := (HG.out T (Below.refl _ _)).2
  have HJ0 : Hid (PJ T (T.alloc (.cells (madeCells #[.int .i64 0] n) 3)) T.heap.size n (fun j => if j < 0 then -1 else 0)) := (PJ.made T n).congr fun j _ => by rw [if_neg (by omega)]
  clear hT hch hpa HTw a0 a1 a2 a3 a4
  go_upto_block 0 with fail
  generalize T.alloc (.cells (madeCells #[.int .i64 0] n) 3) = W6 at *
  go_cut [7] from 23 to 31 (fun i wx => i = .int .i64 (n : Int) ∧ Hid (PJ T wx T.heap.size n (fun _ => -1)))
  case first =>
    go_wp2_with fail
    go_loopw [7] (fun i wr => ∃ c : Nat, c ≤ n ∧ i = .int .i64 (c : Int) ∧ Hid (PJ T wr T.heap.size n (fun j => if j < c then -1 else 0))) (fun i _ => n - (intOf i).toNat)
    case atStart => exact ⟨0, Nat.zero_le _, rfl, HJ0⟩
    case round =>
      obtain ⟨c, hc, rfl, HJ⟩ := hrel
      by_cases hlt : c < n
      · have hlti : (c : Int) < (n : Int) := by omega
        have d0 := HJ.out.cell hlt
        have d1 := HJ.out.frozen c
        have HJn : Hid (PJ T (wr.setCell ⟨T.heap.size, c, none⟩ (.int .i64 (-1))) T.heap.size n (fun j => if j < c + 1 then -1 else 0)) := (HJ.out.put c (-1)).congr fun j _ => by
          unfold putI
          by_cases e : j = c
          · rw [if_pos e, if_pos (by omega)]
          · rw [if_neg e]
            show (if j < c then (-1 : Int) else 0) = _
            by_cases e2 : j < c
            · rw [if_pos e2, if_pos (by omega)]
            · rw [if_neg e2, if_neg (by omega)]
        go_wp2_with fail
        go_roundw
        case rel => exact ⟨c + 1, by omega, by go_num, HJn⟩
        case measure => simp [intOf]; omega
      · obtain rfl : c = n := by omega
        have HJe : Hid (PJ T wr T.heap.size c (fun _ => -1)) := HJ.out.congr fun j hj => by rw [if_pos hj]
        go_wp2_with fail
        go_meet
        exact ⟨rfl, HJe⟩
  case rest =>
    obtain ⟨rfl, HJ1⟩ := hcut
    obtain ⟨w7, rfl⟩ : ∃ w7, w7 = wc := ⟨_, rfl⟩
    clear HJ0 g0
    go_upto_region 11 with fail
    go_loopw [8] (fun iv wr => ∃ (i : Nat) (pt : Nat → Int), i ≤ n ∧ iv = .int .i64 (i : Int) ∧ Hid (PJ T wr T.heap.size n pt ∧ Prt nx n i pt)) (fun i _ => n - (intOf i).toNat)
    case atStart => exact ⟨0, fun _ => -1, Nat.zero_le _, rfl, HJ1.out, Prt.start _ _⟩
    case round =>
      obtain ⟨i, pt, hi, rfl, HJ⟩ := hrel
      clear HJ1
      by_cases hlt : i < n
      · have hlti : (i : Int) < (n : Int) := by omega
        have hn1 : 0 < n := by omega
        have d0 := HJ.out.1.cell hlt
        by_cases hp : 0 ≤ pt i
        · have HJn : Hid (PJ T wr T.heap.size n pt ∧ Prt nx n (i + 1) pt) := ⟨HJ.out.1, HJ.out.2.skip hlt hp⟩
          go_wp2_with fail
          go_roundw
          case rel => exact ⟨i + 1, pt, by omega, by go_num, HJn⟩
          case measure => simp [intOf]; omega
        · have hp2 : pt i < 0 := by omega
          have HPt : Hid (Prt nx n i pt) := HJ.out.2
          have hbr : Below T.heap.size T wr := HJ.out.1.below
          obtain ⟨hb0r, a0, a1, a2, a3, a4⟩ := HG.out wr hbr
          have hAl : Below wr.heap.size wr (wr.alloc (.cells #[.int .i64 (i : Int)] 3)) := (Below.refl _ _).alloc (Nat.le_refl _) _
          have hra := HRa.out (wr.alloc (.cells #[.int .i64 (i : Int)] 3)) wr.heap.size i (hb0r.trans (hAl.mono hb0r.size)) hlt (by simp [go_sem])
          go_upto_region 15 with (go_at_call 21; refine hra.mono ?_; rintro e w9 ⟨va, rfl, hb9, HVa⟩)
          have hbr9 := hAl.trans (hb9.mono hAl.size)
          have HJ9 : Hid (PJ T w9 T.heap.size n pt) := HJ.out.1.later hbr9
          obtain ⟨⟨k0, k1, k2, k3, k4⟩, us, hus⟩ := HK.out w9 HJ9.out.below
          have hAl2 : Below w9.heap.size w9 (w9.alloc (.cells #[.int .i64 (i : Int)] 3)) := (Below.refl _ _).alloc (Nat.le_refl _) _
          have hrb := HRb.out (w9.alloc (.cells #[.int .i64 (i : Int)] 3)) w9.heap.size i nb w1.heap.size us (hus.later hAl2) hlt (by simp [go_sem])
          obtain ⟨ab, aof, acp, rfl, hta⟩ := truAt_of HVa.out (HLn.out nx i) hn1
          have HTa : Hid (TruAt w9 ab aof n (fun j => (reachB nx [i] n).getD j false)) := hta
          clear hra a0 a1 a2 a3 a4 d0 hus hta HVa
          go_upto_region 17 with (go_at_call 21; refine hrb.mono ?_; rintro e w10 ⟨vb, rfl, hb10, HVb⟩; obtain ⟨bb, bof, bcp, rfl, htb⟩ := truAt_of HVb.out (HLn.out (turnN nx n) i) hn1)
          have hb910 := hAl2.trans (hb10.mono hAl2.size)
          have HTb : Hid (TruAt w10 bb bof n (fun j => (reachB (turnN nx n) [i] n).getD j false)) := htb
          have HTa2 : Hid (TruAt w10 ab aof n (fun j => (reachB nx [i] n).getD j false)) := HTa.out.later hb910
          have HJ10 : Hid (PJ T w10 T.heap.size n pt) := HJ9.out.later hb910
          have HFx := HFi.out pt i HPt.out hlt hp2
          have HFy : Hid (Prt nx n (i + 1) (fillI pt i (fun j => (reachB nx [i] n).getD j false) (fun j => (reachB (turnN nx n) [i] n).getD j false) n)) := HFx
          clear hrb htb HVb HTa HJ9 HJ HFx k0 k1 k2 k3 k4
          generalize (fun j => (reachB nx [i] n).getD j false) = A at *
          generalize (fun j => (reachB (turnN nx n) [i] n).getD j false) = B at *
          generalize wr = wo at *
          go_loopw [11] (fun kv wx => ∃ k : Nat, k ≤ n ∧ kv = .int .i64 (k : Int) ∧ Hid (PJ T wx T.heap.size n (fillI pt i A B k) ∧ TruAt wx ab aof n A ∧ TruAt wx bb bof n B)) (fun i _ => n - (intOf i).toNat)
          case atStart => exact ⟨0, Nat.zero_le _, rfl, by rw [fillI_zero]; exact HJ10.out, HTa2.out, HTb.out⟩
          case round =>
            obtain ⟨k, hk, rfl, HR⟩ := hrel
            clear HJ10 HTa2 HTb
            by_cases hkn : k < n
            · have hkni : (k : Int) < (n : Int) := by omega
              have t0 := HR.out.2.1 k hkn
              have t1 := HR.out.2.2 k hkn
              have d0 := HR.out.1.cell hkn
              have d1 := HR.out.1.frozen k
              cases hAk : A k with
              | false =>
                rw [hAk] at t0
                have HRn : Hid (PJ T wr T.heap.size n (fillI pt i A B (k + 1)) ∧ TruAt wr ab aof n A ∧ TruAt wr bb bof n B) := by
                  show PJ _ _ _ _ _ ∧ _
                  rw [fillI_no (by rw [hAk]; simp)]
                  exact HR.out
                go_wp2_with fail
                go_roundw
                case rel => exact ⟨k + 1, by omega, by go_num, HRn⟩
                case measure => simp [intOf]; omega
              | true =>
                rw [hAk] at t0
                cases hBk : B k with
                | false =>
                  rw [hBk] at t1
                  have HRn : Hid (PJ T wr T.heap.size n (fillI pt i A B (k + 1)) ∧ TruAt wr ab aof n A ∧ TruAt wr bb bof n B) := by
                    show PJ _ _ _ _ _ ∧ _
                    rw [fillI_no (by rw [hBk]; simp)]
                    exact HR.out
                  go_wp2_with fail
                  go_roundw
                  case rel => exact ⟨k + 1, by omega, by go_num, HRn⟩
                  case measure => simp [intOf]; omega
                | true =>
                  rw [hBk] at t1
                  have HRn : Hid (PJ T (wr.setCell ⟨T.heap.size, k, none⟩ (.int .i64 (i : Int))) T.heap.size n (fillI pt i A B (k + 1)) ∧ TruAt (wr.setCell ⟨T.heap.size, k, none⟩ (.int .i64 (i : Int))) ab aof n A ∧ TruAt (wr.setCell ⟨T.heap.size, k, none⟩ (.int .i64 (i : Int))) bb bof n B) := by
                    show PJ _ _ _ _ _ ∧ _
                    rw [fillI_yes ⟨hAk, hBk⟩]
                    exact ⟨HR.out.1.put k (i : Int), HR.out.2.1.put d0, HR.out.2.2.put d0⟩
                  go_wp2_with fail
                  go_roundw
                  case rel => exact ⟨k + 1, by omega, by go_num, HRn⟩
                  case measure => simp [intOf]; omega
            · obtain rfl : k = n := by omega
              have HJn : Hid (PJ T wr T.heap.size k (fillI pt i A B k) ∧ Prt nx k (i + 1) (fillI pt i A B k)) := ⟨HR.out.1, HFy.out⟩
              go_wp2_with fail
              go_roundw
              case rel => exact ⟨i + 1, _, by omega, by go_num, HJn⟩
              case measure => simp [intOf]; omega
      · obtain rfl : i = n := by omega
        go_wp2_with fail
        go_ret2
        exact ⟨_, rfl, HwT.out.trans (HJ.out.1.below.mono HwT.out.size), pt, HwT.out.size, HJ.out.1.row, HPo.out pt HJ.out.2⟩
end Go.Proofs.Ytknneajaklcjdaa
