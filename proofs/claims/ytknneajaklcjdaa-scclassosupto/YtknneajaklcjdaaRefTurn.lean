/-
  The contract of the document's own turnedGraph.
-/
import Derived.Test.YtknneajaklcjdaaRefTurn0
import Derived.Test.YtknneajaklcjdaaLists
import Derived.Test.YtknneajaklcjdaaAnyE
import Derived.Deep.AppendLies
import Derived.Deep.Cut
import Derived.Deep.CutBlock
import Derived.Deep.CutRange
import Derived.Deep.DeepCutAuto
namespace Go.Proofs.Ytknneajaklcjdaa
open Go.ChangeShapes Go.WideShapes Go.ChangeAt Go.RowKit Go.Deep
open Terms

/-- so many entries are there in all. -/
def totN (nx : Nat → List Nat) : Nat → Nat
  | 0 => 0
  | i + 1 => totN nx i + (nx i).length
theorem totN_mono {nx : Nat → List Nat} {i n : Nat} (h : i ≤ n) : totN nx i ≤ totN nx n := by
  induction n with
  | zero => obtain rfl : i = 0 := by omega
            exact Nat.le_refl _
  | succ n ih =>
    by_cases e : i = n + 1
    · rw [e]; exact Nat.le_refl _
    · have := ih (by omega)
      show _ ≤ totN nx n + _
      omega
theorem totN_at {nx : Nat → List Nat} {i n : Nat} (h : i < n) : (nx i).length ≤ totN nx n := by
  have := totN_mono (nx := nx) (i := i + 1) (n := n) h
  have h2 : totN nx (i + 1) = totN nx i + (nx i).length := rfl
  omega
theorem turnA_le (l : List Nat) (i j : Nat) : (turnA l i j).length ≤ l.length := by
  unfold turnA
  rw [List.length_map]
  exact List.length_filter_le _ _
theorem turnN_tot {nx : Nat → List Nat} (j : Nat) : ∀ n, (turnN nx n j).length ≤ totN nx n
  | 0 => by simp [turnN, totN]
  | n + 1 => by
    unfold turnN totN
    rw [List.length_append]
    have h1 := turnN_tot (nx := nx) j n
    have h2 := turnA_le (nx n) n j
    omega
theorem turnQ_tot {nx : Nat → List Nat} {c k t n : Nat} (h : c < n) : (turnQ nx c k t).length ≤ totN nx n := by
  unfold turnQ
  rw [List.length_append]
  have h1 := turnN_tot (nx := nx) t c
  have h2 := turnA_le ((nx c).take k) c t
  have h3 : ((nx c).take k).length ≤ (nx c).length := by rw [List.length_take]; omega
  have h4 := totN_mono (nx := nx) (i := c + 1) (n := n) h
  have h5 : totN nx (c + 1) = totN nx c + (nx c).length := rfl
  omega

/-- what stands while the operations of the entry's statement come; the one that changes has come, or not. -/
def tuJ (wr : World) (gb nb n t : Nat) (uv : Value) (b : Bool) (w : World) : Prop := w.cell? ⟨gb, 2, none⟩ = some (.slice (some ⟨nb, 0, none⟩) n n) ∧ w.cell? ⟨nb, t, none⟩ = some uv ∧ (b = false → Below wr.heap.size wr w) ∧ wr.heap.size ≤ w.heap.size
theorem tuJ_keep {wr w w' : World} {gb nb n t : Nat} {uv : Value} {b : Bool} (h : tuJ wr gb nb n t uv b w) (hb : Below w.heap.size w w') : tuJ wr gb nb n t uv b w' :=
  ⟨(hb.cell (p := ⟨gb, 2, none⟩) (World.block_lt_of_cell? _ _ h.1)).trans h.1, (hb.cell (p := ⟨nb, t, none⟩) (World.block_lt_of_cell? _ _ h.2.1)).trans h.2.1, fun e => (h.2.2.1 e).trans (hb.mono h.2.2.2), Nat.le_trans h.2.2.2 hb.size⟩
/-- what the operations of the entry's statement leave. -/
def tuP (wr : World) (gb nb n t c ql : Nat) (uv : Value) (R : World → Prop) : Nat → Value → World → Prop
  | 0, v, _ => v = .pointer (some ⟨gb, 2, none⟩)
  | 1, v, _ => v = .slice (some ⟨nb, 0, none⟩) n n
  | 2, v, _ => v = .int .i64 (t : Int)
  | 3, v, _ => v = .pointer (some ⟨gb, 2, none⟩)
  | 4, v, _ => v = .slice (some ⟨nb, 0, none⟩) n n
  | 5, v, _ => v = .int .i64 (t : Int)
  | 6, v, _ => v = .pointer (some ⟨nb, t, none⟩)
  | 7, v, _ => v = uv
  | 8, v, _ => v = .int .i64 (c : Int)
  | 9, v, w => ∃ g, v = .slice (some ⟨g, 0, none⟩) 1 1 ∧ w.heap[g]? = some (.cells #[.int .i64 (c : Int)] 3 (0, 0)) ∧ wr.heap.size ≤ g
  | 10, v, w => ∃ g cap w2, v = .slice (some ⟨g, 0, none⟩) (ql + 1) cap ∧ w2.frozen? ⟨nb, t, none⟩ = false ∧ R (w2.setCell ⟨nb, t, none⟩ (.slice (some ⟨g, 0, none⟩) (ql + 1) cap)) ∧ Below w2.heap.size w2 w
  | _, _, _ => True
theorem tuP_stable {wr w w' : World} {gb nb n t c ql : Nat} {uv : Value} {R : World → Prop} (i : Nat) (v : Value) (hlt : i < 11) (h : tuP wr gb nb n t c ql uv R i v w) (hb : Below w.heap.size w w') : tuP wr gb nb n t c ql uv R i v w' := by
  have hc : i = 0 ∨ i = 1 ∨ i = 2 ∨ i = 3 ∨ i = 4 ∨ i = 5 ∨ i = 6 ∨ i = 7 ∨ i = 8 ∨ i = 9 ∨ i = 10 := by omega
  rcases hc with rfl | rfl | rfl | rfl | rfl | rfl | rfl | rfl | rfl | rfl | rfl
  iterate 9 exact h
  · obtain ⟨g, h1, h2, h3⟩ := h
    exact ⟨g, h1, (hb.block g (Array.getElem?_eq_some_iff.1 h2).1).trans h2, h3⟩
  · obtain ⟨g, cap, w2, h1, h2, h3, h4⟩ := h
    exact ⟨g, cap, w2, h1, h2, h3, h4.trans (hb.mono h4.size)⟩
theorem tuP_grown {wr w w' : World} {gb nb n t c ql : Nat} {uv : Value} {R : World → Prop} {row : Option Nat} (i : Nat) (v : Value) (hlt : i < 11) (hne : i ≠ 10) (h : tuP wr gb nb n t c ql uv R i v w) (hg : w.grownBy w' row) (hr : ∀ g, row = some g → g < wr.heap.size) : tuP wr gb nb n t c ql uv R i v w' := by
  have hc : i = 0 ∨ i = 1 ∨ i = 2 ∨ i = 3 ∨ i = 4 ∨ i = 5 ∨ i = 6 ∨ i = 7 ∨ i = 8 ∨ i = 9 := by omega
  rcases hc with rfl | rfl | rfl | rfl | rfl | rfl | rfl | rfl | rfl | rfl
  iterate 9 exact h
  obtain ⟨g, h1, h2, h3⟩ := h
  exact ⟨g, h1, (hg.block g (Array.getElem?_eq_some_iff.1 h2).1 (fun e => by have := hr g e.symm; omega)).trans h2, h3⟩
theorem one_cell {w : World} {g : Nat} {x : Value} {t : TypeId} {fr : Nat × Nat} (h : w.heap[g]? = some (.cells #[x] t fr)) : ∀ j u, [x][j]? = some u → w.cell? ((⟨g, 0, none⟩ : Addr).add j) = some u := by
  intro j u hj
  rw [Go.WideShapes.add_plain]
  cases j with
  | zero =>
    obtain rfl : x = u := by simpa using hj
    simp [World.cell?, h]
  | succ j => simp at hj
theorem below_both {w w' : World} (hb : Below w.heap.size w w') (p : Addr) (u : Value) : Below (w.setCell p u).heap.size (w.setCell p u) (w'.setCell p u) := by
  have hs : (w.setCell p u).heap.size = w.heap.size := by simp [World.setCell]
  refine ⟨hb.os, hb.tape, hb.output, ?_, fun i hi => ?_⟩
  · rw [hs]
    have := hb.size
    simpa [World.setCell] using this
  · rw [hs] at hi
    have := hb.block i hi
    simp only [World.setCell, Array.getElem?_modify]
    rw [this]

/-- the graph under way: its box, and its lists. -/
structure TG (W0 w : World) (gb nb n : Nat) (so : Option Addr) (sc : Nat) (L : Nat → List Nat) : Prop where
  below : Below W0.heap.size W0 w
  gbl : W0.heap.size ≤ gb
  box : w.heap[gb]? = some (.cells #[.slice so n sc, .int .i64 0, .slice (some ⟨nb, 0, none⟩) n n, .slice none 0 0, .int .i64 0] 26 (0, 0))
  turn : ∃ us, TurnW w W0.heap.size nb n us L

theorem TurnW.low {w : World} {T nb n : Nat} {us : Nat → Value} {L : Nat → List Nat} (h : TurnW w T nb n us L) {p : Addr} (hp : p.block < T) (u : Value) : TurnW (w.setCell p u) T nb n us L :=
  ⟨h.base, h.row.setOther (by have := h.base; omega) u, fun j hj => owns_block (h.each j hj) fun z hz => blk_setCell_other _ _ _ _ (by have := ((h.each j hj).lt z hz).1; omega), h.apart⟩
theorem TurnW.mono {w : World} {T T' nb n : Nat} {us : Nat → Value} {L : Nat → List Nat} (h : TurnW w T nb n us L) (hT : T' ≤ T) : TurnW w T' nb n us L :=
  ⟨Nat.le_trans hT h.base, h.row, fun j hj => owns_mono (h.each j hj) hT, h.apart⟩
theorem TG.later {W0 w w' : World} {gb nb n : Nat} {so : Option Addr} {sc : Nat} {L : Nat → List Nat} (h : TG W0 w gb nb n so sc L) (hb : Below w.heap.size w w') : TG W0 w' gb nb n so sc L := by
  obtain ⟨us, hu⟩ := h.turn
  have hlt : gb < w.heap.size := (Array.getElem?_eq_some_iff.1 h.box).1
  exact ⟨h.below.trans (hb.mono h.below.size), h.gbl, (hb.block gb hlt).trans h.box, us, hu.later hb⟩
theorem TG.cell {W0 w : World} {gb nb n : Nat} {so : Option Addr} {sc : Nat} {L : Nat → List Nat} (h : TG W0 w gb nb n so sc L) : w.cell? ⟨gb, 2, none⟩ = some (.slice (some ⟨nb, 0, none⟩) n n) := by simp [World.cell?, h.box]
theorem TG.congr {W0 w : World} {gb nb n : Nat} {so : Option Addr} {sc : Nat} {L L' : Nat → List Nat} (h : TG W0 w gb nb n so sc L) (e : ∀ j, L j = L' j) : TG W0 w gb nb n so sc L' := by rw [← show L = L' from funext e]; exact h
theorem TG.start1 (W0 : World) (n : Nat) (so : Option Addr) (sc : Nat) : TG W0 ((W0.alloc (.cells (madeCells #[.slice none 0 0] n) 24)).alloc (.cells #[.slice so n sc, .int .i64 0, .slice (some ⟨W0.heap.size, 0, none⟩) n n, .slice none 0 0, .int .i64 0] 26)) (W0.heap.size + 1) W0.heap.size n so sc (fun _ => []) := by
  refine ⟨((Below.refl _ _).alloc (Nat.le_refl _) _).alloc (by simp) _, by omega, ?_, _, TurnW.start (Nat.le_refl _) ((World.rowIs_made W0 (.slice none 0 0) n 24).alloc _)⟩
  have := blk_alloc_new (W0.alloc (.cells (madeCells #[.slice none 0 0] n) 24)) (.cells #[.slice so n sc, .int .i64 0, .slice (some ⟨W0.heap.size, 0, none⟩) n n, .slice none 0 0, .int .i64 0] 26)
  simpa using this
theorem TG.start2 (W0 : World) (n : Nat) (so : Option Addr) (sc : Nat) : TG W0 ((W0.alloc (.cells #[.slice so n sc, .int .i64 0, .slice (some ⟨W0.heap.size + 1, 0, none⟩) n n, .slice none 0 0, .int .i64 0] 26)).alloc (.cells (madeCells #[.slice none 0 0] n) 24)) W0.heap.size (W0.heap.size + 1) n so sc (fun _ => []) := by
  refine ⟨((Below.refl _ _).alloc (Nat.le_refl _) _).alloc (by simp) _, by omega, ?_, _, TurnW.start (by omega) (by
    have := World.rowIs_made (W0.alloc (.cells #[.slice so n sc, .int .i64 0, .slice (some ⟨W0.heap.size + 1, 0, none⟩) n n, .slice none 0 0, .int .i64 0] 26)) (.slice none 0 0) n 24
    simpa using this)⟩
  rw [blk_alloc_lt _ _ _ (by simp), blk_alloc_new]
theorem TG.push {W0 w w1 w2 : World} {gb nb n : Nat} {so : Option Addr} {sc : Nat} {L : Nat → List Nat} (h : TG W0 w gb nb n so sc L) {us : Nat → Value} (hu : TurnW w W0.heap.size nb n us L) (hb : Below w.heap.size w w1) {t i g cap : Nat} (ht : t < n)
    (hown : w2.ownsRow W0.heap.size 3 1 (.slice (some ⟨g, 0, none⟩) ((L t).length + 1) cap) ((L t).length + 1) (nvals (L t) ++ [.int .i64 (i : Int)])) (hgr : w1.grownBy w2 (us t).ownBlock) (hor : (us t).ownBlock = some g ∨ g = w1.heap.size) :
    (w2.cell? ⟨gb, 2, none⟩ = some (.slice (some ⟨nb, 0, none⟩) n n) ∧ w2.cell? ⟨nb, t, none⟩ = some (us t) ∧ w2.frozen? ⟨nb, t, none⟩ = false) ∧ TG W0 (w2.setCell ⟨nb, t, none⟩ (.slice (some ⟨g, 0, none⟩) ((L t).length + 1) cap)) gb nb n so sc (fun j => if j = t then L t ++ [i] else L j) := by
  have h1 := h.later hb
  have hu1 := hu.later hb
  have hlt : gb < w1.heap.size := (Array.getElem?_eq_some_iff.1 h1.box).1
  have hfar := owns_far (hu1.each t ht) hu1.row
  have hr2 : w2.rowIs nb 24 n us := hu1.row.of_block (hgr.block nb hu1.row.lt (fun e => hfar e.symm))
  have hgn : some gb ≠ (us t).ownBlock := fun e => by
    rcases (hu1.each t ht).2 with ⟨hv, _⟩ | ⟨g', cap', cur, hv, hg, hh, r⟩
    · rw [hv] at e; cases e
    · rw [hv] at e
      obtain rfl : gb = g' := Option.some.inj e
      rw [h1.box] at hh
      injection Option.some.inj hh with _ h2 _
      exact absurd h2 (by decide)
  have hbox : w2.heap[gb]? = _ := (hgr.block gb hlt hgn).trans h1.box
  have hne : gb ≠ nb := fun e => by
    obtain ⟨c, hc, _⟩ := hr2
    rw [← e, hbox] at hc
    injection Option.some.inj hc with _ h2 _
    exact absurd h2 (by decide)
  refine ⟨⟨by simp [World.cell?, hbox], hr2.cell ht, hr2.frozen t⟩, (h1.below.grown hgr h1.below.size (fun k hk => ((hu1.each t ht).lt k hk).1)).setCell hu.base _, h.gbl, (blk_setCell_other _ _ _ _ hne).trans hbox, _, hu.push hb ht hown hgr hor⟩

set_option maxHeartbeats 3200000 in
set_option maxRecDepth 20000 in
theorem turned_any (so no bo : Option Addr) (sc nc bn bc : Nat) (gi gm : Int) (n : Nat) (nx : Nat → List Nat) (w : World) (hn : n ≤ 20000) (hnx : ∀ i, i < n → ∀ k ∈ nx i, k < n) (htot : totN nx n ≤ 1099511627776)
    (hRow : ∀ p, p < n → ∃ b off, no = some ⟨b, off, none⟩ ∧ b < w.heap.size ∧ ∃ uo uc, w.cell? ⟨b, off + p, none⟩ = some (.slice uo (nx p).length uc) ∧ NatsV w (.slice uo (nx p).length uc) (nx p)) :
    Calls Try.prog 20 #[.agg #[.slice so n sc, .int .i64 gi, .slice no n nc, .slice bo bn bc, .int .i64 gm]] w fun e w' => ∃ nb, e = .returned (.agg #[.slice so n sc, .int .i64 0, .slice (some ⟨nb, 0, none⟩) n n, .slice none 0 0, .int .i64 0]) ∧ Below w.heap.size w w' ∧ Hid (∃ us, TurnW w' w.heap.size nb n us (turnN nx n)) := by
  have hmk := run_make_row' (P := Try.prog) 23 24 (.slice none 0 0) 24 Try.underlying23 infoInts rfl .i64 .i64 n (by omega) (by omega)
  have HRow : Hid (∀ p, p < n → ∃ b off, no = some ⟨b, off, none⟩ ∧ b < w.heap.size ∧ ∃ uo uc, w.cell? ⟨b, off + p, none⟩ = some (.slice uo (nx p).length uc) ∧ NatsV w (.slice uo (nx p).length uc) (nx p)) := hRow
  clear hRow
  go_enter Try.func20, Try.ntmps20
  go_wp2_with fail
  obtain ⟨W0, hW0⟩ : ∃ W0, W0 = (w.alloc (.cells #[.slice so n sc, .int .i64 gi, .slice no n nc, .slice bo bn bc, .int .i64 gm] 26)).alloc (.cells #[.slice none 0 0, .int .i64 0, .slice none 0 0, .slice none 0 0, .int .i64 0] 26) := ⟨_, rfl⟩
  rw [← hW0]
  have hbW : Below w.heap.size w W0 := by rw [hW0]; exact ((Below.refl _ _).alloc (Nat.le_refl _) _).alloc (by simp) _
  have hs0 : W0.heap.size = w.heap.size + 2 := by rw [hW0]; simp
  have HD : Hid (∀ W, Below W0.heap.size W0 W → W.cell? ⟨w.heap.size, 0, none⟩ = some (.slice so n sc) ∧ W.cell? ⟨w.heap.size, 2, none⟩ = some (.slice no n nc)) := fun W hb => by
    have h9 : W.heap[w.heap.size]? = some (.cells #[.slice so n sc, .int .i64 gi, .slice no n nc, .slice bo bn bc, .int .i64 gm] 26 (0, 0)) := by
      rw [hb.block _ (by omega), hW0, blk_alloc_lt _ _ _ (by simp), blk_alloc_new]
    constructor <;> simp [World.cell?, h9]
  have HZ : Hid (W0.heap[w.heap.size + 1]? = some (.cells #[.slice none 0 0, .int .i64 0, .slice none 0 0, .slice none 0 0, .int .i64 0] 26 (0, 0))) := by
    show _ = _
    rw [hW0]
    have h9 := blk_alloc_new (w.alloc (.cells #[.slice so n sc, .int .i64 gi, .slice no n nc, .slice bo bn bc, .int .i64 gm] 26)) (.cells #[.slice none 0 0, .int .i64 0, .slice none 0 0, .slice none 0 0, .int .i64 0] 26)
    rw [show (w.alloc (.cells #[.slice so n sc, .int .i64 gi, .slice no n nc, .slice bo bn bc, .int .i64 gm] 26)).heap.size = w.heap.size + 1 by simp] at h9
    exact h9
  have HRw : Hid (∀ W, Below W0.heap.size W0 W → ∀ p, p < n → ∃ b off, no = some ⟨b, off, none⟩ ∧ ∃ uo uc, W.cell? ⟨b, off + p, none⟩ = some (.slice uo (nx p).length uc) ∧ NatsV W (.slice uo (nx p).length uc) (nx p)) := fun W hb p hp => by
    obtain ⟨b, off, h1, h2, uo, uc, h3, h4⟩ := HRow.out p hp
    have h5 := hbW.trans (hb.mono hbW.size)
    exact ⟨b, off, h1, uo, uc, (h5.cell (p := ⟨b, off + p, none⟩) h2).trans h3, h4.below h5⟩
  have HW0 : Hid (W0 = (w.alloc (.cells #[.slice so n sc, .int .i64 gi, .slice no n nc, .slice bo bn bc, .int .i64 gm] 26)).alloc (.cells #[.slice none 0 0, .int .i64 0, .slice none 0 0, .slice none 0 0, .int .i64 0] 26)) := hW0
  clear hW0 HRow
  have hd := (HD.out W0 (Below.refl _ _)).1
  go_cut [3] (fun s3 wz => ∃ gb nb, s3 = .pointer (some ⟨gb, 0, none⟩) ∧ Hid (TG W0 wz gb nb n so sc (fun _ => [])))
  case first =>
    go_region
    all_goals go_wp2_with fail
    all_goals go_meet
    · refine ⟨w.heap.size + 2 + 1, w.heap.size + 2, rfl, ?_⟩
      rw [← hs0]
      exact (TG.start1 W0 n so sc).later (Below.refl _ _).drew
    · refine ⟨w.heap.size + 2, w.heap.size + 2 + 1, rfl, ?_⟩
      rw [← hs0]
      exact (TG.start2 W0 n so sc).later (Below.refl _ _).drew
  case rest =>
    obtain ⟨gb, nb, rfl, HT0⟩ := hcut
    generalize hwx : wc = wx at *
    clear hwx
    go_wp2_with fail
    go_loopw [4] (fun iv wr => ∃ c : Nat, c ≤ n ∧ iv = .int .i64 c ∧ Hid (TG W0 wr gb nb n so sc (turnN nx c))) (fun i _ => n - (intOf i).toNat)
    case atStart => exact ⟨0, Nat.zero_le _, rfl, HT0.out⟩
    case round =>
      obtain ⟨c, hc, rfl, HT⟩ := hrel
      obtain ⟨_, hd2⟩ := HD.out wr HT.out.below
      clear HT0
      by_cases hlt : c < n
      · have hlti : (c : Int) < (n : Int) := by omega
        have HTq : Hid (TG W0 wr gb nb n so sc (turnQ nx c 0)) := HT.out.congr fun j => (turnQ_zero nx c j).symm
        obtain ⟨rb, roff, hno, _⟩ := HRw.out wr HT.out.below c hlt
        subst hno
        obtain ⟨m, hm⟩ : ∃ m, m = (nx c).length := ⟨_, rfl⟩
        have HM : Hid (m = (nx c).length) := hm
        have hm2 : m ≤ 1099511627776 := by rw [hm]; exact Nat.le_trans (totN_at hlt) htot
        have HRc : Hid (∀ W, Below W0.heap.size W0 W → ∃ uo uc, W.cell? ⟨rb, roff + c, none⟩ = some (.slice uo m uc) ∧ NatsV W (.slice uo m uc) (nx c)) := fun W hb => by
          obtain ⟨b, off, e, uo, uc, h3, h4⟩ := HRw.out W hb c hlt
          injection Option.some.inj e with e1 e2
          subst e1 e2
          rw [HM.out]
          exact ⟨uo, uc, h3, h4⟩
        clear hm
        generalize wr = wo at *
        obtain ⟨uo0, uc0, hq1, _⟩ := HRc.out wo HTq.out.below
        go_wp2_with fail
        go_loopw [5] (fun qv wr => ∃ k : Nat, k ≤ m ∧ qv = .int .i64 k ∧ Hid (TG W0 wr gb nb n so sc (turnQ nx c k))) (fun i _ => m - (intOf i).toNat)
        case atStart => exact ⟨0, Nat.zero_le _, rfl, HTq⟩
        case round =>
          obtain ⟨k, hk, rfl, HTk⟩ := hrel
          clear hd2 hq1
          obtain ⟨_, hd2⟩ := HD.out wr HTk.out.below
          obtain ⟨uo, uc, hrc, hrn⟩ := HRc.out wr HTk.out.below
          by_cases hkm : k < m
          · have hkmi : (k : Int) < (m : Int) := by omega
            obtain ⟨t, ht⟩ : ∃ t, t = (nx c).getD k 0 := ⟨_, rfl⟩
            have htn : t < n := by
              rw [ht, List.getD_eq_getElem?_getD, List.getElem?_eq_getElem (by rw [← HM.out]; exact hkm)]
              exact hnx c hlt _ (List.getElem_mem _)
            obtain ⟨ub, uoff, rfl, hcell⟩ : ∃ ub uoff, uo = some ⟨ub, uoff, none⟩ ∧ wr.cell? ⟨ub, uoff + k, none⟩ = some (.int .i64 (t : Int)) := by
              obtain ⟨ao, cap, e1, e2⟩ := hrn
              injection e1 with e3 e4 e5
              obtain ⟨b, off, e6, _, e7⟩ := e2 (fun h => by have h9 := HM.out; rw [h] at h9; simp at h9; omega)
              exact ⟨b, off, e3.trans e6, by rw [ht]; exact e7 k (by rw [← HM.out]; exact hkm)⟩
            obtain ⟨us, hus⟩ := HTk.out.turn
            have HU : Hid (TurnW wr W0.heap.size nb n us (turnQ nx c k)) := hus
            have HQs : Hid (∀ j, (if j = t then turnQ nx c k t ++ [c] else turnQ nx c k j) = turnQ nx c (k + 1) j) := fun j => by
              rw [turnQ_succ (by rw [← HM.out]; exact hkm), ← ht]
              by_cases e : j = t
              · rw [if_pos e, if_pos e, e]
              · rw [if_neg e, if_neg e]
            obtain ⟨vo, vc, hvs⟩ := owns_slice (hus.each t htn)
            have HVs : Hid (us t = .slice vo (turnQ nx c k t).length vc) := hvs
            have hz2 := hus.row.cell htn
            rw [hvs] at hz2
            have hz1 : wr.cell? ⟨gb, 2, none⟩ = some (.slice (some ⟨nb, 0, none⟩) n n) := by simp [World.cell?, HTk.out.box]
            have hzf := hus.row.frozen t
            have hlen : (turnQ nx c k t).length ≤ 1099511627776 := Nat.le_trans (turnQ_tot hlt) htot
            have HOw : Hid (∀ W, Below wr.heap.size wr W → W.ownsRow W0.heap.size 3 1 (.slice vo (turnQ nx c k t).length vc) (turnQ nx c k t).length (nvals (turnQ nx c k t))) := fun W hb => by
              have h9 := (HU.out.later hb).each t htn
              rw [HVs.out] at h9
              exact h9
            have HPu : Hid (∀ (w1 w2 : World) (g cap : Nat), Below wr.heap.size wr w1 → w2.ownsRow W0.heap.size 3 1 (.slice (some ⟨g, 0, none⟩) ((turnQ nx c k t).length + 1) cap) ((turnQ nx c k t).length + 1) (nvals (turnQ nx c k t) ++ [.int .i64 (c : Int)]) → w1.grownBy w2 (Value.slice vo (turnQ nx c k t).length vc).ownBlock → ((Value.slice vo (turnQ nx c k t).length vc).ownBlock = some g ∨ g = w1.heap.size) → (w2.cell? ⟨gb, 2, none⟩ = some (.slice (some ⟨nb, 0, none⟩) n n) ∧ w2.cell? ⟨nb, t, none⟩ = some (.slice vo (turnQ nx c k t).length vc) ∧ w2.frozen? ⟨nb, t, none⟩ = false) ∧ TG W0 (w2.setCell ⟨nb, t, none⟩ (.slice (some ⟨g, 0, none⟩) ((turnQ nx c k t).length + 1) cap)) gb nb n so sc (turnQ nx c (k + 1))) := fun w1 w2 g cap hb h1 h2 h3 => by
              rw [← HVs.out] at h2 h3
              obtain ⟨h4, h5⟩ := HTk.out.push HU.out hb htn h1 h2 h3
              rw [HVs.out] at h4
              exact ⟨h4, h5.congr HQs.out⟩
            have hT2 := HTk.out.below.size
            obtain ⟨i0, hi, hz0, hz1', hz2'⟩ := info_parts infoInt
            clear hus hvs ht hrn
            generalize hql : (turnQ nx c k t).length = ql at *
            generalize nvals (turnQ nx c k t) = nv at *
            clear hql
            have HZ1 : Hid (wr.cell? ⟨gb, 2, none⟩ = some (.slice (some ⟨nb, 0, none⟩) n n)) := hz1
            have HZ2 : Hid (wr.cell? ⟨nb, t, none⟩ = some (.slice vo ql vc)) := hz2
            have HLo : Hid (∀ g, (Value.slice vo ql vc).ownBlock = some g → g < wr.heap.size) := fun g hg => ((HOw.out wr (Below.refl _ _)).lt g hg).2
            have HT2 : Hid (W0.heap.size ≤ wr.heap.size) := hT2
            go_upto_block 3 with fail
            go_cut [] (fun wx => Hid (TG W0 wx gb nb n so sc (turnQ nx c (k + 1))))
            case first =>
              go_upto_region 9 with fail
              rename_i J K' hJ' hK'
              generalize ha0 : Act.mk _ _ = a0
              have hsz : a0.tmps.size = 52 := by rw [← ha0]; rfl
              have a3 : a0.eval (.tmp 3) = .pointer (some ⟨gb, 0, none⟩) := by rw [← ha0]; rfl
              have a4 : a0.eval (.tmp 4) = .int .i64 (c : Int) := by rw [← ha0]; rfl
              have a6 : a0.eval (.tmp 6) = .int .i64 (t : Int) := by rw [← ha0]; rfl
              refine wp_anywayE (by rfl) [39, 40, 41, 42, 43, 44, 45, 46, 47, 48, 49, 50] 11 10 (by decide) (tuJ wr gb nb n t (.slice vo ql vc)) (tuP wr gb nb n t c ql (.slice vo ql vc) (fun w => TG W0 w gb nb n so sc (turnQ nx c (k + 1)))) (by rw [hsz]; rfl) ?_ ?_ ?_
              · exact tuJ_keep ⟨HZ1.out, HZ2.out, fun _ => Below.refl _ _, Nat.le_refl _⟩ (Below.refl _ _).drew
              · intro i o hi0 ho q w' b hbe hy hq
                have f : ∀ t, [39, 40, 41, 42, 43, 44, 45, 46, 47, 48, 49, 50].contains t = true → t < 52 → (frm a0 [39, 40, 41, 42, 43, 44, 45, 46, 47, 48, 49, 50] q).eval (.tmp t) = q t := fun t h1 h2 => frm_in h1 (by rw [hsz]; exact h2)
                have e3 : (frm a0 [39, 40, 41, 42, 43, 44, 45, 46, 47, 48, 49, 50] q).eval (.tmp 3) = .pointer (some ⟨gb, 0, none⟩) := (frm_out rfl).trans a3
                have e4 : (frm a0 [39, 40, 41, 42, 43, 44, 45, 46, 47, 48, 49, 50] q).eval (.tmp 4) = .int .i64 (c : Int) := (frm_out rfl).trans a4
                have e6 : (frm a0 [39, 40, 41, 42, 43, 44, 45, 46, 47, 48, 49, 50] q).eval (.tmp 6) = .int .i64 (t : Int) := (frm_out rfl).trans a6
                have y1 := hy.1
                have y2 := hy.2.1
                have hJ : ∀ i, i ≠ 10 → tuJ wr gb nb n t (.slice vo ql vc) (b || decide (i = 10)) w' := fun i hi => by rw [decide_eq_false hi, Bool.or_false]; exact hy
                have hA : ∀ o, Below w'.heap.size w' (w'.alloc o) := fun o => (Below.refl _ _).alloc (Nat.le_refl _) o
                obtain ⟨ev, hev⟩ : ∃ ev, ev = (frm a0 [39, 40, 41, 42, 43, 44, 45, 46, 47, 48, 49, 50] q).eval := ⟨_, rfl⟩
                rw [← hev] at f e3 e4 e6
                have hc : i = 0 ∨ i = 1 ∨ i = 2 ∨ i = 3 ∨ i = 4 ∨ i = 5 ∨ i = 6 ∨ i = 7 ∨ i = 8 ∨ i = 9 ∨ i = 10 := by omega
                rcases hc with rfl | rfl | rfl | rfl | rfl | rfl | rfl | rfl | rfl | rfl | rfl
                all_goals obtain rfl := Option.some.inj ho
                · refine op_run (w' := w') (v := .pointer (some ⟨gb, 2, none⟩)) ?_ ⟨_, rfl, hJ _ (by decide), fun _ _ _ _ h => h, rfl⟩
                  rw [← hev]
                  simp [execOp, e3, go_sem]
                · have e39 := (f 39 rfl (by decide)).trans (hq 0 39 rfl rfl)
                  refine op_run (w' := w') (v := .slice (some ⟨nb, 0, none⟩) n n) ?_ ⟨_, rfl, hJ _ (by decide), fun _ _ _ _ h => h, rfl⟩
                  rw [← hev]
                  simp [execOp, e39, y1, go_sem]
                · refine op_run (w' := w') (v := .int .i64 (t : Int)) ?_ ⟨_, rfl, hJ _ (by decide), fun _ _ _ _ h => h, rfl⟩
                  rw [← hev]
                  simp [execOp, e6, go_sem]
                · refine op_run (w' := w') (v := .pointer (some ⟨gb, 2, none⟩)) ?_ ⟨_, rfl, hJ _ (by decide), fun _ _ _ _ h => h, rfl⟩
                  rw [← hev]
                  simp [execOp, e3, go_sem]
                · have e42 := (f 42 rfl (by decide)).trans (hq 3 42 rfl rfl)
                  refine op_run (w' := w') (v := .slice (some ⟨nb, 0, none⟩) n n) ?_ ⟨_, rfl, hJ _ (by decide), fun _ _ _ _ h => h, rfl⟩
                  rw [← hev]
                  simp [execOp, e42, y1, go_sem]
                · refine op_run (w' := w') (v := .int .i64 (t : Int)) ?_ ⟨_, rfl, hJ _ (by decide), fun _ _ _ _ h => h, rfl⟩
                  rw [← hev]
                  simp [execOp, e6, go_sem]
                · have e43 := (f 43 rfl (by decide)).trans (hq 4 43 rfl rfl)
                  have e44 := (f 44 rfl (by decide)).trans (hq 5 44 rfl rfl)
                  refine op_run (w' := w') (v := .pointer (some ⟨nb, t, none⟩)) ?_ ⟨_, rfl, hJ _ (by decide), fun _ _ _ _ h => h, rfl⟩
                  rw [← hev]
                  simp [execOp, e43, e44, go_sem]
                  omega
                · have e45 := (f 45 rfl (by decide)).trans (hq 6 45 rfl rfl)
                  refine op_run (w' := w') (v := .slice vo ql vc) ?_ ⟨_, rfl, hJ _ (by decide), fun _ _ _ _ h => h, rfl⟩
                  rw [← hev]
                  simp [execOp, e45, y2, go_sem]
                · refine op_run (w' := w') (v := .int .i64 (c : Int)) ?_ ⟨_, rfl, hJ _ (by decide), fun _ _ _ _ h => h, rfl⟩
                  rw [← hev]
                  simp [execOp, e4, go_sem]
                · have e47 := (f 47 rfl (by decide)).trans (hq 8 47 rfl rfl)
                  refine op_run (v := .slice (some ⟨w'.heap.size, 0, none⟩) 1 1) (w' := w'.alloc (.cells #[.int .i64 (c : Int)] 3)) ?_ ⟨_, rfl, tuJ_keep (hJ _ (by decide)) (hA _), fun j x hj _ h => tuP_stable j x hj h (hA _), ⟨_, rfl, heap_new _ _, hy.2.2.2⟩⟩
                  rw [← hev]
                  simp [execOp, e47, go_sem]
                · have hbf := hbe rfl
                  subst hbf
                  have hb := hy.2.2.1 rfl
                  have e46 := (f 46 rfl (by decide)).trans (hq 7 46 rfl rfl)
                  obtain ⟨g, hg48, hgb, hgl⟩ := hq 9 48 rfl rfl
                  have e48 := (f 48 rfl (by decide)).trans hg48
                  rw [hev] at e46 e48
                  refine wp_append_lies _ (.tmp 46) (.tmp 48) 24 rfl W0.heap.size 3 i0 _ 1 8 Try.underlying24 hi hz0 hz1' hz2' rfl (by decide) (.slice vo ql vc) ql nv e46 (HOw.out w' hb) ⟨g, 0, none⟩ 1 1 [.int .i64 (c : Int)] e48 rfl (one_cell hgb) (by intro u hu; simp at hu; subst hu; rfl) (by omega) (by unfold maxLen; omega) (by omega) (Nat.le_trans HT2.out hb.size) w'.heap.size rfl ?_
                  intro g6 cp6 w6 ho6 hg6 hat6 hgl6
                  obtain ⟨⟨k1, k2, k3⟩, HX⟩ := HPu.out w' w6 g6 cp6 hb ho6 hg6 hat6
                  refine ⟨_, rfl, ⟨k1, k2, (fun h => by cases h), Nat.le_trans hb.size hg6.size⟩, fun j x hj hji h => ?_, ⟨g6, cp6, w6, rfl, k3, HX, Below.refl _ _⟩⟩
                  refine tuP_grown j x hj hji h hg6 (fun g hg => HLo.out g hg)
              · intro q w' hy hq
                have f : ∀ q t, [39, 40, 41, 42, 43, 44, 45, 46, 47, 48, 49, 50].contains t = true → t < 52 → (frm a0 [39, 40, 41, 42, 43, 44, 45, 46, 47, 48, 49, 50] q).eval (.tmp t) = q t := fun q t h1 h2 => frm_in h1 (by rw [hsz]; exact h2)
                have h40 : q 40 = .slice (some ⟨nb, 0, none⟩) n n := hq 1 40 (by decide) rfl
                have h41 : q 41 = .int .i64 (t : Int) := hq 2 41 (by decide) rfl
                obtain ⟨g6, cp6, w6, h49, k3, HX, hb6⟩ := hq 10 49 (by decide) rfl
                have k2 := hy.2.1
                have k4 : w'.frozen? ⟨nb, t, none⟩ = false := (hb6.frozen (p := ⟨nb, t, none⟩) (by
                  have := HX.turn
                  obtain ⟨us, hu⟩ := this
                  have := hu.row.lt
                  simpa using this)).trans k3
                show wpOps Try.prog _ _ [11, 12] _ _
                rw [wpOps_cons]
                refine op_at rfl rfl ?_
                refine op_run (w' := w') (v := .pointer (some ⟨nb, t, none⟩)) ?_ ?_
                · have e40 := (f q 40 rfl (by decide)).trans h40
                  have e41 := (f q 41 rfl (by decide)).trans h41
                  generalize (frm a0 [39, 40, 41, 42, 43, 44, 45, 46, 47, 48, 49, 50] q).eval = ev at e40 e41 ⊢
                  simp [execOp, e40, e41, go_sem]
                  omega
                rw [late_put 50 rfl rfl, wpOps_cons]
                refine op_at rfl rfl ?_
                have e50 := (f (setV q 50 (.pointer (some ⟨nb, t, none⟩))) 50 rfl (by decide)).trans (setV_same _ _ _)
                have e49 := (f (setV q 50 (.pointer (some ⟨nb, t, none⟩))) 49 rfl (by decide)).trans ((setV_other (by decide)).trans h49)
                refine op_skip (w' := w'.setCell ⟨nb, t, none⟩ (.slice (some ⟨g6, 0, none⟩) (ql + 1) cp6)) rfl ?_ ?_
                · generalize (frm a0 [39, 40, 41, 42, 43, 44, 45, 46, 47, 48, 49, 50] (setV q 50 (.pointer (some ⟨nb, t, none⟩)))).eval = ev at e50 e49 ⊢
                  simp [execOp, e50, e49, go_sem, k2, k4]
                show K' _ _
                refine hK' _ _ ?_
                rw [← ha0]
                go_meet
                exact HX.later (below_both hb6 _ _)
            case rest =>
              obtain ⟨wy, rfl⟩ : ∃ wy, wy = wc := ⟨_, rfl⟩
              have HXn := hcut
              clear hcut
              go_wp2_with fail
              exact ⟨⟨k + 1, hkm, by first | rfl | simp, HXn⟩, by simp [intOf]; omega⟩
          · obtain rfl : k = m := by omega
            have HTn : Hid (TG W0 wr gb nb n so sc (turnN nx (c + 1))) := HTk.out.congr fun j => turnQ_full (by rw [← HM.out]; exact Nat.le_refl _) j
            go_wp2_with fail
            exact ⟨⟨c + 1, hlt, by first | rfl | simp, HTn⟩, by simp [intOf]; omega⟩
      · obtain rfl : c = n := by omega
        have hbx := HT.out.box
        have hzz : wr.heap[w.heap.size + 1]? = _ := (HT.out.below.block (w.heap.size + 1) (by omega)).trans HZ.out
        have hy0 : wr.cell? ⟨w.heap.size + 1, 0, none⟩ = some (.slice none 0 0) := by simp [World.cell?, hzz]
        have hf0 : wr.frozen? ⟨w.heap.size + 1, 0, none⟩ = false := by simp [World.frozen?, hzz]
        have hy1 : wr.cell? ⟨w.heap.size + 1, 1, none⟩ = some (.int .i64 0) := by simp [World.cell?, hzz]
        have hf1 : wr.frozen? ⟨w.heap.size + 1, 1, none⟩ = false := by simp [World.frozen?, hzz]
        have hy2 : wr.cell? ⟨w.heap.size + 1, 2, none⟩ = some (.slice none 0 0) := by simp [World.cell?, hzz]
        have hf2 : wr.frozen? ⟨w.heap.size + 1, 2, none⟩ = false := by simp [World.frozen?, hzz]
        have hy3 : wr.cell? ⟨w.heap.size + 1, 3, none⟩ = some (.slice none 0 0) := by simp [World.cell?, hzz]
        have hf3 : wr.frozen? ⟨w.heap.size + 1, 3, none⟩ = false := by simp [World.frozen?, hzz]
        have hy4 : wr.cell? ⟨w.heap.size + 1, 4, none⟩ = some (.int .i64 0) := by simp [World.cell?, hzz]
        have hf4 : wr.frozen? ⟨w.heap.size + 1, 4, none⟩ = false := by simp [World.frozen?, hzz]
        have hg0 : wr.cell? ⟨gb, 0, none⟩ = some (.slice so c sc) := by simp [World.cell?, hbx]
        have hg1 : wr.cell? ⟨gb, 1, none⟩ = some (.int .i64 0) := by simp [World.cell?, hbx]
        have hg2 : wr.cell? ⟨gb, 2, none⟩ = some (.slice (some ⟨nb, 0, none⟩) c c) := by simp [World.cell?, hbx]
        have hg3 : wr.cell? ⟨gb, 3, none⟩ = some (.slice none 0 0) := by simp [World.cell?, hbx]
        have hg4 : wr.cell? ⟨gb, 4, none⟩ = some (.int .i64 0) := by simp [World.cell?, hbx]
        obtain ⟨us, hus⟩ := HT.out.turn
        have hbz := hbW.trans (HT.out.below.mono hbW.size)
        have HE : Hid (∀ v0 v1 v2 v3 v4, Below w.heap.size w (((((wr.setCell ⟨w.heap.size + 1, 0, none⟩ v0).setCell ⟨w.heap.size + 1, 1, none⟩ v1).setCell ⟨w.heap.size + 1, 2, none⟩ v2).setCell ⟨w.heap.size + 1, 3, none⟩ v3).setCell ⟨w.heap.size + 1, 4, none⟩ v4) ∧ TurnW (((((wr.setCell ⟨w.heap.size + 1, 0, none⟩ v0).setCell ⟨w.heap.size + 1, 1, none⟩ v1).setCell ⟨w.heap.size + 1, 2, none⟩ v2).setCell ⟨w.heap.size + 1, 3, none⟩ v3).setCell ⟨w.heap.size + 1, 4, none⟩ v4) w.heap.size nb c us (turnN nx c)) := fun v0 v1 v2 v3 v4 => by
          have hl : w.heap.size ≤ w.heap.size + 1 := by omega
          have hq : w.heap.size + 1 < W0.heap.size := by omega
          exact ⟨((((hbz.setCell hl _).setCell hl _).setCell hl _).setCell hl _).setCell hl _, (((((hus.low (p := ⟨w.heap.size + 1, 0, none⟩) hq v0).low (p := ⟨w.heap.size + 1, 1, none⟩) hq v1).low (p := ⟨w.heap.size + 1, 2, none⟩) hq v2).low (p := ⟨w.heap.size + 1, 3, none⟩) hq v3).low (p := ⟨w.heap.size + 1, 4, none⟩) hq v4).mono hbW.size⟩
        clear hus
        go_wp2_with fail
        have hxx : ∀ v0 v1 v2 v3 v4, (((((wr.setCell ⟨w.heap.size + 1, 0, none⟩ v0).setCell ⟨w.heap.size + 1, 1, none⟩ v1).setCell ⟨w.heap.size + 1, 2, none⟩ v2).setCell ⟨w.heap.size + 1, 3, none⟩ v3).setCell ⟨w.heap.size + 1, 4, none⟩ v4).heap[w.heap.size + 1]? = some (.cells #[v0, v1, v2, v3, v4] 26 (0, 0)) := fun v0 v1 v2 v3 v4 => by
          simp [World.setCell, Array.getElem?_modify, hzz]
        have hx9 := hxx (.slice so c sc) (.int .i64 0) (.slice (some ⟨nb, 0, none⟩) c c) (.slice none 0 0) (.int .i64 0)
        refine bodyPost_ret (v := .agg #[.slice so c sc, .int .i64 0, .slice (some ⟨nb, 0, none⟩) c c, .slice none 0 0, .int .i64 0]) ?_ rfl ⟨nb, rfl, (HE.out _ _ _ _ _).1, us, (HE.out _ _ _ _ _).2⟩
        simp only [results, Try.results20]
        generalize ((((wr.setCell ⟨w.heap.size + 1, 0, none⟩ _).setCell ⟨w.heap.size + 1, 1, none⟩ _).setCell ⟨w.heap.size + 1, 2, none⟩ _).setCell ⟨w.heap.size + 1, 3, none⟩ _).setCell ⟨w.heap.size + 1, 4, none⟩ _ = we at *
        have x0 : we.cell? ⟨w.heap.size + 1, 0, none⟩ = some (.slice so c sc) := by simp [World.cell?, hx9]
        have x1 : we.cell? ⟨w.heap.size + 1, 1, none⟩ = some (.int .i64 0) := by simp [World.cell?, hx9]
        have x2 : we.cell? ⟨w.heap.size + 1, 2, none⟩ = some (.slice (some ⟨nb, 0, none⟩) c c) := by simp [World.cell?, hx9]
        have x3 : we.cell? ⟨w.heap.size + 1, 3, none⟩ = some (.slice none 0 0) := by simp [World.cell?, hx9]
        have x4 : we.cell? ⟨w.heap.size + 1, 4, none⟩ = some (.int .i64 0) := by simp [World.cell?, hx9]
        simp [go_sem, x0, x1, x2, x3, x4]
end Go.Proofs.Ytknneajaklcjdaa
