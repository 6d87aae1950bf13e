/-
  The walk of FairMore.
-/
import Derived.Test.YtdmclgbmdhhdiaaFmM
import Derived.Test.YtdmclgbmdhhdiaaAnyRows
import Derived.Deep.Cut
import Derived.Deep.CutBlock
import Derived.Deep.CutRange
import Derived.Deep.DeepCutAuto
namespace Go.Proofs.Ytdmclgbmdhhdiaa
open Go.ChangeShapes Go.WideShapes Go.ChangeAt Go.RowKit Go.Deep
open Terms

theorem blk_own {w : World} {base : Nat} {e : TypeId} {s n : Nat} {v : Value} {xs : List Value} (h : w.ownsRow base e s v n xs) : blk v = v.ownBlock := by
  rcases h.2 with ⟨rfl, _⟩ | ⟨g, cap, cur, rfl, _⟩ <;> rfl
theorem row_grown {w w' : World} {base : Nat} {e : TypeId} {s n : Nat} {v : Value} {xs : List Value} {row : Option Nat} (h : w.ownsRow base e s v n xs) (hg : w.grownBy w' row) (hne : ∀ b, row = some b → blk v ≠ some b) : w'.ownsRow base e s v n xs := by
  refine h.kept hg ?_
  rw [← blk_own h]
  cases hr : row with
  | none =>
    cases hb : blk v with
    | none => exact .inl rfl
    | some b => exact .inr (by simp)
  | some b => exact .inr (hne b hr)
theorem block_grown {w w' : World} {row : Option Nat} {b : Nat} {x : Obj} (hg : w.grownBy w' row) (h : w.heap[b]? = some x) (hne : row ≠ some b) : w'.heap[b]? = some x :=
  (hg.block b (Array.getElem?_eq_some_iff.1 h).1 (fun e => hne e.symm)).trans h
theorem op_valR {P : Program} {o : Oper} {a : Act} {w w' : World} {v : Value} {post : Value → World → Prop} {rel : Value → Prop} {nw : Bool} {Q : Exit → Act → World → Prop} (hr : (execOp a.eval o).run P w = .ok (.value v) w') (hb : Below w.heap.size w w') (hp : post v w') (hre : rel v) (hn : ∀ b, nw = true → blk v = some b → w.heap.size ≤ b ∧ b < w'.heap.size) : Oper.wp P o a w (fun a' w' => ∃ v, a' = a.put o.dst v ∧ Below w.heap.size w w' ∧ post v w' ∧ rel v ∧ ∀ b, nw = true → blk v = some b → w.heap.size ≤ b ∧ b < w'.heap.size) Q := by
  unfold Oper.wp
  rw [hr]
  exact ⟨v, rfl, hb, hp, hre, hn⟩
theorem op_callR {P : Program} {o : Oper} {a : Act} {w : World} {f : FuncId} {args : Array Value} {post : Value → World → Prop} {rel : Value → Prop} {nw : Bool} {Q : Exit → Act → World → Prop} (hr : (execOp a.eval o).run P w = .ok (.enter f args) w) (hc : Calls P f args w fun e w' => ∃ v, e = .returned v ∧ Below w.heap.size w w' ∧ post v w' ∧ rel v ∧ ∀ b, nw = true → blk v = some b → w.heap.size ≤ b ∧ b < w'.heap.size) : Oper.wp P o a w (fun a' w' => ∃ v, a' = a.put o.dst v ∧ Below w.heap.size w w' ∧ post v w' ∧ rel v ∧ ∀ b, nw = true → blk v = some b → w.heap.size ≤ b ∧ b < w'.heap.size) Q := by
  unfold Oper.wp
  rw [hr]
  refine hc.mono ?_
  rintro e w' ⟨v, rfl, h⟩
  exact ⟨v, rfl, h⟩
/-- what the operations leave that put a step more. -/
def fm7P (H G base : Nat) (nv uv sv : Value) (nb x n : Nat) (b y : Int) (l : List Int) : Nat → Value → World → Prop
  | 0, v, _ => v = .pointer (some ⟨H, 2, none⟩)
  | 1, v, _ => v = nv
  | 2, v, _ => v = .int .i64 (x : Int)
  | 3, v, _ => v = .pointer (some ⟨H, 2, none⟩)
  | 4, v, _ => v = nv
  | 5, v, _ => v = .int .i64 (x : Int)
  | 6, v, _ => v = .pointer (some ⟨nb, x, none⟩)
  | 7, v, _ => v = uv
  | 8, v, w => w.ownsRow base 3 1 v l.length (ivals l)
  | 9, v, _ => v = .int .i64 b
  | 10, v, _ => v = .pointer (some ⟨G, 0, none⟩)
  | 11, v, _ => v = sv
  | 12, v, _ => v = .int .i64 (n : Int)
  | 13, v, _ => v = .int .i64 y
  | 14, v, w => ∃ g, v = .slice (some ⟨g, 0, none⟩) 1 1 ∧ w.heap[g]? = some (.cells #[.int .i64 y] 3 (0, 0))
  | 15, v, w => w.ownsRow base 3 1 v (l.length + 1) (ivals l ++ [.int .i64 y]) ∧ ∃ g c, v = .slice (some ⟨g, 0, none⟩) (l.length + 1) c
  | _, _, _ => True
def fm7E (i : Nat) : Option Nat := if i = 15 then some 8 else none
def fm7N (i : Nat) : Bool := i == 8 || i == 14 || i == 15
theorem fm7_eat (j k : Nat) (h : fm7E j = some k) : j = 15 ∧ k = 8 := by
  unfold fm7E at h
  split at h
  · exact ⟨by assumption, (Option.some.inj h).symm⟩
  · cases h
def fm8P (H G : Nat) (bv : Value) (bb x : Nat) (s bt p z c : Int) : Nat → Value → World → Prop
  | 0, v, _ => v = .pointer (some ⟨H, 3, none⟩)
  | 1, v, _ => v = bv
  | 2, v, _ => v = .int .i64 (x : Int)
  | 3, v, _ => v = .pointer (some ⟨bb, x, none⟩)
  | 4, v, _ => v = .int .i64 s
  | 5, v, _ => v = .int .i64 bt
  | 6, v, _ => v = .pointer (some ⟨G, 4, none⟩)
  | 7, v, _ => v = .int .i64 c
  | 8, v, _ => v = .int .i64 p
  | 9, v, _ => v = .int .i64 z
  | 10, v, _ => v = .int .i64 (bits BinOp.or IntKind.i64 s z)
  | _, _, _ => True
theorem fm7_lt : ∀ i, i < 16 → i = 0 ∨ i = 1 ∨ i = 2 ∨ i = 3 ∨ i = 4 ∨ i = 5 ∨ i = 6 ∨ i = 7 ∨ i = 8 ∨ i = 9 ∨ i = 10 ∨ i = 11 ∨ i = 12 ∨ i = 13 ∨ i = 14 ∨ i = 15 := by intro i hi; omega
theorem fm8_lt : ∀ i, i < 11 → i = 0 ∨ i = 1 ∨ i = 2 ∨ i = 3 ∨ i = 4 ∨ i = 5 ∨ i = 6 ∨ i = 7 ∨ i = 8 ∨ i = 9 ∨ i = 10 := by intro i hi; omega
theorem fm7P_stable (H G base : Nat) (nv uv sv : Value) (nb x n : Nat) (b y : Int) (l : List Int) (i : Nat) (v : Value) (w w' : World) (hlt : i < 16) (h : fm7P H G base nv uv sv nb x n b y l i v w) (hb : Below w.heap.size w w') : fm7P H G base nv uv sv nb x n b y l i v w' := by
  rcases fm7_lt i hlt with rfl | rfl | rfl | rfl | rfl | rfl | rfl | rfl | rfl | rfl | rfl | rfl | rfl | rfl | rfl | rfl
  · exact h
  · exact h
  · exact h
  · exact h
  · exact h
  · exact h
  · exact h
  · exact h
  · exact owns_later h hb (Nat.le_refl _)
  · exact h
  · exact h
  · exact h
  · exact h
  · exact h
  · obtain ⟨g, h1, h2⟩ := h
    exact ⟨g, h1, (hb.block g (Array.getElem?_eq_some_iff.1 h2).1).trans h2⟩
  · exact ⟨owns_later h.1 hb (Nat.le_refl _), h.2⟩
theorem fm7P_grown (H G base : Nat) (nv uv sv : Value) (nb x n : Nat) (b y : Int) (l : List Int) (i : Nat) (v : Value) (w w' : World) (row : Option Nat) (hlt : i < 16) (h : fm7P H G base nv uv sv nb x n b y l i v w) (hg : w.grownBy w' row) (hne : ∀ b, row = some b → (fm7N i = true → blk v ≠ some b)) : fm7P H G base nv uv sv nb x n b y l i v w' := by
  rcases fm7_lt i hlt with rfl | rfl | rfl | rfl | rfl | rfl | rfl | rfl | rfl | rfl | rfl | rfl | rfl | rfl | rfl | rfl
  · exact h
  · exact h
  · exact h
  · exact h
  · exact h
  · exact h
  · exact h
  · exact h
  · exact row_grown h hg fun b hb => hne b hb rfl
  · exact h
  · exact h
  · exact h
  · exact h
  · exact h
  · obtain ⟨g, h1, h2⟩ := h
    exact ⟨g, h1, block_grown hg h2 fun e => hne g e rfl (by rw [h1]; rfl)⟩
  · exact ⟨row_grown h.1 hg fun b hb => hne b hb rfl, h.2⟩
theorem fm8P_stable (H G : Nat) (bv : Value) (bb x : Nat) (s bt p z c : Int) (i : Nat) (v : Value) (w w' : World) (hlt : i < 11) (h : fm8P H G bv bb x s bt p z c i v w) (_ : Below w.heap.size w w') : fm8P H G bv bb x s bt p z c i v w' := by
  rcases fm8_lt i hlt with rfl | rfl | rfl | rfl | rfl | rfl | rfl | rfl | rfl | rfl | rfl
  all_goals exact h

set_option maxHeartbeats 6400000 in
set_option maxRecDepth 20000 in
theorem fairMore_walk (nv bv : Value) (ls : List (List Int)) (bs : List Int) (wi wm pa pb pc : Int) (w : World) (hL : ListsR w nv ls) (hlz0 : ls.length * 24 ≤ 140737488355328) (hS : IntsR w bv bs) (hwi : I64 wi) (hwm : I64 wm) (hpa : I64 pa) (hpb : I64 pb) (hpc : I64 pc) :
    Calls Try.prog 3 #[.agg #[nv, bv, .int .i64 wi, .int .i64 wm], .int .i64 pa, .int .i64 pb, .int .i64 pc] w fun e w' => e = .returned (.bool true) ∧ Below w.heap.size w w' := by
  have hlz : ls.length ≤ 140737488355328 := by omega
  obtain ⟨no, nc, rfl⟩ : ∃ no nc, nv = .slice no ls.length nc := by obtain ⟨us, a, c, h, _⟩ := hL; exact ⟨a, c, h⟩
  obtain ⟨bo, bc, rfl⟩ : ∃ bo bc, bv = .slice bo bs.length bc := by obtain ⟨a, c, h, _⟩ := hS.v; exact ⟨a, c, h⟩
  obtain ⟨W0, hW0⟩ : ∃ W0, W0 = w.alloc (.cells #[.slice no ls.length nc, .slice bo bs.length bc, .int .i64 wi, .int .i64 wm] 25) := ⟨_, rfl⟩
  have hA : Below w.heap.size w W0 := by rw [hW0]; exact (Below.refl _ _).alloc (Nat.le_refl _) _
  obtain ⟨g, hgE⟩ : ∃ g, g = gOf ls bs wi wm := ⟨_, rfl⟩
  have HGR : Hid (∀ w', Below W0.heap.size W0 w' → Calls Try.prog 4 #[.agg #[.slice no ls.length nc, .slice bo bs.length bc, .int .i64 wi, .int .i64 wm]] w' fun e w2 => ∃ so sc no' nc' bo' bc', e = .returned (.agg #[.slice so g.spots.length sc, .int .i64 (g.init.toNat : Nat), .slice no' g.spots.length nc', .slice bo' g.spots.length bc', .int .i64 (g.many.toNat : Nat)]) ∧ Below w'.heap.size w' w2 ∧ Hid (KOwn w2 w'.heap.size so sc no' nc' bo' bc' g.spots.length g.init.toNat g.many.toNat g)) := fun w' hb => (graphFn_x no bo nc bc ls bs wi wm w' ((hL.below hA).below hb) hlz ((hS.below hA).below hb) hwi hwm).mono fun e w2 ⟨so, sc, no', nc', bo', bc', n, gi, mm, h1, h2, H3⟩ => by
    obtain ⟨h3, h4⟩ := H3.out
    rw [← hgE] at h3 h4
    have h5 := h3.init
    have h6 := h3.many
    have e1 : g.init.toNat = gi := by omega
    have e2 : g.many.toNat = mm := by omega
    rw [e1, e2, ← h4]
    exact ⟨so, sc, no', nc', bo', bc', h1, h2, h3⟩
  have hgr := HGR.out W0 (Below.refl _ _)
  have HW0 : Hid (∀ w', Below W0.heap.size W0 w' → w'.cell? ⟨w.heap.size, 0, none⟩ = some (.slice no ls.length nc) ∧ w'.cell? ⟨w.heap.size, 1, none⟩ = some (.slice bo bs.length bc) ∧ w'.cell? ⟨w.heap.size, 2, none⟩ = some (.int .i64 wi) ∧ w'.cell? ⟨w.heap.size, 3, none⟩ = some (.int .i64 wm)) := fun w' hb => by
    have hlt : w.heap.size < W0.heap.size := by rw [hW0]; simp
    refine ⟨(hb.cell (p := ⟨w.heap.size, 0, none⟩) hlt).trans (by rw [hW0]; simp [go_sem]), (hb.cell (p := ⟨w.heap.size, 1, none⟩) hlt).trans (by rw [hW0]; simp [go_sem]), (hb.cell (p := ⟨w.heap.size, 2, none⟩) hlt).trans (by rw [hW0]; simp [go_sem]), (hb.cell (p := ⟨w.heap.size, 3, none⟩) hlt).trans (by rw [hW0]; simp [go_sem])⟩
  have HA : Hid (Below w.heap.size w W0) := hA
  obtain ⟨n, hnE⟩ : ∃ n, n = g.spots.length := ⟨_, rfl⟩
  obtain ⟨gi, hgiE⟩ : ∃ gi, gi = g.init.toNat := ⟨_, rfl⟩
  obtain ⟨mm, hmmE⟩ : ∃ mm, mm = g.many.toNat := ⟨_, rfl⟩
  rw [← hnE, ← hgiE, ← hmmE] at HGR hgr
  have HN : Hid (n = g.spots.length) := hnE
  have HGI : Hid (gi = g.init.toNat ∧ mm = g.many.toNat) := ⟨hgiE, hmmE⟩
  generalize ls.length = nl at *
  generalize bs.length = bl at *
  clear hL hS hgE hA hnE hgiE hmmE
  subst hW0
  go_enter Try.func3, Try.ntmps3
  go_upto_region 2 with (go_at_call 4; refine hgr.mono ?_; rintro e w1 ⟨so1, sc1, no1, nc1, bo1, bc1, rfl, hb1, HG1⟩)
  have hb12 : Below w1.heap.size w1 (w1.alloc (.cells #[.slice so1 n sc1, .int .i64 (gi : Int), .slice no1 n nc1, .slice bo1 n bc1, .int .i64 (mm : Int)] 28)) := (Below.refl _ _).alloc (Nat.le_refl _) _
  have hG0 : (w1.alloc (.cells #[.slice so1 n sc1, .int .i64 (gi : Int), .slice no1 n nc1, .slice bo1 n bc1, .int .i64 (mm : Int)] 28)).cell? ⟨w1.heap.size, 0, none⟩ = some (.slice so1 n sc1) := by simp [go_sem]
  have hG1 : (w1.alloc (.cells #[.slice so1 n sc1, .int .i64 (gi : Int), .slice no1 n nc1, .slice bo1 n bc1, .int .i64 (mm : Int)] 28)).cell? ⟨w1.heap.size, 1, none⟩ = some (.int .i64 (gi : Int)) := by simp [go_sem]
  have hG2 : (w1.alloc (.cells #[.slice so1 n sc1, .int .i64 (gi : Int), .slice no1 n nc1, .slice bo1 n bc1, .int .i64 (mm : Int)] 28)).cell? ⟨w1.heap.size, 2, none⟩ = some (.slice no1 n nc1) := by simp [go_sem]
  have hG3 : (w1.alloc (.cells #[.slice so1 n sc1, .int .i64 (gi : Int), .slice no1 n nc1, .slice bo1 n bc1, .int .i64 (mm : Int)] 28)).cell? ⟨w1.heap.size, 3, none⟩ = some (.slice bo1 n bc1) := by simp [go_sem]
  have hG4 : (w1.alloc (.cells #[.slice so1 n sc1, .int .i64 (gi : Int), .slice no1 n nc1, .slice bo1 n bc1, .int .i64 (mm : Int)] 28)).cell? ⟨w1.heap.size, 4, none⟩ = some (.int .i64 (mm : Int)) := by simp [go_sem]
  have hGl : w1.heap.size < (w1.alloc (.cells #[.slice so1 n sc1, .int .i64 (gi : Int), .slice no1 n nc1, .slice bo1 n bc1, .int .i64 (mm : Int)] 28)).heap.size := by simp
  generalize w1.alloc (.cells #[.slice so1 n sc1, .int .i64 (gi : Int), .slice no1 n nc1, .slice bo1 n bc1, .int .i64 (mm : Int)] 28) = W2 at hb12 hG0 hG1 hG2 hG3 hG4 hGl ⊢
  have HB02 : Hid (Below (w.alloc (.cells #[.slice no nl nc, .slice bo bl bc, .int .i64 wi, .int .i64 wm] 25)).heap.size (w.alloc (.cells #[.slice no nl nc, .slice bo bl bc, .int .i64 wi, .int .i64 wm] 25)) W2) := hb1.trans (hb12.mono hb1.size)
  obtain ⟨G, hGG⟩ : ∃ G, G = w1.heap.size := ⟨_, rfl⟩
  rw [← hGG] at hG0 hG1 hG2 hG3 hG4 hGl ⊢
  have HGX : Hid (∀ w', Below W2.heap.size W2 w' → (w'.cell? ⟨G, 0, none⟩ = some (.slice so1 n sc1) ∧ w'.cell? ⟨G, 1, none⟩ = some (.int .i64 (gi : Int)) ∧ w'.cell? ⟨G, 2, none⟩ = some (.slice no1 n nc1) ∧ w'.cell? ⟨G, 3, none⟩ = some (.slice bo1 n bc1) ∧ w'.cell? ⟨G, 4, none⟩ = some (.int .i64 (mm : Int)))) := fun w' hb => ⟨(hb.cell (p := ⟨G, 0, none⟩) hGl).trans hG0, (hb.cell (p := ⟨G, 1, none⟩) hGl).trans hG1, (hb.cell (p := ⟨G, 2, none⟩) hGl).trans hG2, (hb.cell (p := ⟨G, 3, none⟩) hGl).trans hG3, (hb.cell (p := ⟨G, 4, none⟩) hGl).trans hG4⟩
  have HF1 : Hid (∀ w', Below W2.heap.size W2 w' → Calls Try.prog 5 #[.agg #[.slice so1 n sc1, .int .i64 (gi : Int), .slice no1 n nc1, .slice bo1 n bc1, .int .i64 (mm : Int)]] w' fun e w2 => e = .returned (.tuple #[.int .i64 (fairV g), .int .i64 (fairC g)]) ∧ Below w'.heap.size w' w2) := fun w' hb => by
    have ho := HG1.out
    obtain ⟨h1, h2, h3, h4, h5⟩ := kown_got ho HN.out
    have := sfair_ok so1 no1 bo1 sc1 nc1 bc1 g w' h2 (h1.below (hb12.trans (hb.mono hb12.size))) h3
    rw [h4, h5, ← HN.out, ho.init, ho.many] at this
    exact this
  have hn20 : n ≤ 20 := HG1.out.small
  have HOK : Hid (GOk g ∧ g.many = mm) := ⟨HG1.out.ok, HG1.out.many⟩
  have hm6 : mm ≤ 6 := by have := HG1.out.ok.head.many6; have := HG1.out.many; omega
  clear hb1 hb12 hG0 hG1 hG2 hG3 hG4 HG1 hgr hGG
  obtain ⟨x0, x1, x2, x3, x4⟩ := HGX.out W2 (Below.refl _ _)
  have hf1 := HF1.out W2 (Below.refl _ _)
  by_cases hn0 : n = 0
  · have hfc : fairC g = 11 := (fair_none (g := g) (fun j hj => by have := HN.out; omega)).2
    rw [hfc] at hf1
    subst hn0
    go_wp2_with (go_at_call 5; refine hf1.mono ?_; rintro e w3 ⟨rfl, hb3⟩)
    go_ret
    have h02 := HA.out.trans (HB02.out.mono HA.out.size)
    exact ⟨by first | rfl | simp, h02.trans (hb3.mono h02.size)⟩
  · have hnp : (0 : Int) < (n : Int) := by omega
    have hpx := fun w => picked_is pa (n : Int) w hpa hnp (by omega)
    have hxr := pk_range (n := pa) (m := (n : Int)) hnp
    obtain ⟨x, hxE⟩ : ∃ x : Nat, pk pa (n : Int) = (x : Int) := ⟨(pk pa (n : Int)).toNat, by omega⟩
    rw [hxE] at hpx hxr
    have hxn : x < n := by omega
    have hg2 := HGR.out W2 HB02.out
    obtain ⟨q0, q1, q2, q3⟩ := HW0.out W2 HB02.out
    clear hxE hxr hf1
    go_upto_region 7 with (first | (go_at_call 6; refine (hpx _).mono ?_; rintro e w9 ⟨rfl, h9⟩; rw [h9]; clear h9) | (go_at_call 4; refine hg2.mono ?_; rintro e w3 ⟨so3, sc3, no3, nc3, bo3, bc3, rfl, hb3, HG3⟩))

    have hb34 : Below w3.heap.size w3 (w3.alloc (.cells #[.slice so3 n sc3, .int .i64 (gi : Int), .slice no3 n nc3, .slice bo3 n bc3, .int .i64 (mm : Int)] 28)) := (Below.refl _ _).alloc (Nat.le_refl _) _
    have hH0 : (w3.alloc (.cells #[.slice so3 n sc3, .int .i64 (gi : Int), .slice no3 n nc3, .slice bo3 n bc3, .int .i64 (mm : Int)] 28)).cell? ⟨w3.heap.size, 0, none⟩ = some (.slice so3 n sc3) := by simp [go_sem]
    have hH1 : (w3.alloc (.cells #[.slice so3 n sc3, .int .i64 (gi : Int), .slice no3 n nc3, .slice bo3 n bc3, .int .i64 (mm : Int)] 28)).cell? ⟨w3.heap.size, 1, none⟩ = some (.int .i64 (gi : Int)) := by simp [go_sem]
    have hH2 : (w3.alloc (.cells #[.slice so3 n sc3, .int .i64 (gi : Int), .slice no3 n nc3, .slice bo3 n bc3, .int .i64 (mm : Int)] 28)).cell? ⟨w3.heap.size, 2, none⟩ = some (.slice no3 n nc3) := by simp [go_sem]
    have hH3 : (w3.alloc (.cells #[.slice so3 n sc3, .int .i64 (gi : Int), .slice no3 n nc3, .slice bo3 n bc3, .int .i64 (mm : Int)] 28)).cell? ⟨w3.heap.size, 3, none⟩ = some (.slice bo3 n bc3) := by simp [go_sem]
    have hH4 : (w3.alloc (.cells #[.slice so3 n sc3, .int .i64 (gi : Int), .slice no3 n nc3, .slice bo3 n bc3, .int .i64 (mm : Int)] 28)).cell? ⟨w3.heap.size, 4, none⟩ = some (.int .i64 (mm : Int)) := by simp [go_sem]
    have hHl : w3.heap.size < (w3.alloc (.cells #[.slice so3 n sc3, .int .i64 (gi : Int), .slice no3 n nc3, .slice bo3 n bc3, .int .i64 (mm : Int)] 28)).heap.size := by simp
    obtain ⟨us, hr3⟩ := HG3.out.rows
    have hr4 := hr3.later hb34
    generalize w3.alloc (.cells #[.slice so3 n sc3, .int .i64 (gi : Int), .slice no3 n nc3, .slice bo3 n bc3, .int .i64 (mm : Int)] 28) = W4 at hb34 hH0 hH1 hH2 hH3 hH4 hHl hr4 ⊢
    obtain ⟨nb, nc', hnv, hnb1, hnb2⟩ := hr3.next.form (by omega)
    injection hnv with e1 e2 e3
    subst e1 e3
    obtain ⟨bb, bc', hbv, hbb1, hbb2⟩ := hr3.sets.form (by omega)
    injection hbv with e1 e2 e3
    subst e1 e3
    have hb24 : Below W2.heap.size W2 W4 := hb3.trans (hb34.mono hb3.size)
    obtain ⟨H, hHH⟩ : ∃ H, H = w3.heap.size := ⟨_, rfl⟩
    rw [← hHH] at hH0 hH1 hH2 hH3 hH4 hHl hnb2 hbb2 ⊢
    have HR4 : Hid (KRows W4 W2.heap.size (.slice so3 n sc3) (.slice (some ⟨nb, 0, none⟩) n nc3) (.slice (some ⟨bb, 0, none⟩) n bc3) us g n) := hr4
    have hW2H : W2.heap.size ≤ H := by rw [hHH]; exact hb3.size
    obtain ⟨l, hlE⟩ : ∃ l, l = g.next.getD x [] := ⟨_, rfl⟩
    have hl6 : l.length ≤ 6 := by rw [hlE]; exact HG3.out.len x hxn
    have HGL : Hid (∀ i, i < n → (g.next.getD i []).length ≤ 6) := HG3.out.len
    have HLE : Hid (l = g.next.getD x []) := hlE
    obtain ⟨uv, huE⟩ : ∃ uv, uv = us.getD x nilV := ⟨_, rfl⟩
    have hul : us.length = n := by simpa using hr4.next.1
    have hurow : W4.ownsRow W2.heap.size 3 1 uv l.length (ivals l) := by rw [huE, hlE]; exact hr4.each x hxn
    obtain ⟨uo, uc, huv⟩ := owns_slice hurow
    have HUC : Hid (∀ w', Below W4.heap.size W4 w' → w'.cell? ⟨nb, x, none⟩ = some (.slice uo l.length uc)) := fun w' hb => by
      rw [hb.cell (p := ⟨nb, x, none⟩) (by show nb < _; omega), ← huv, huE, hr4.next.cellAt x (by omega), List.getD_eq_getElem?_getD, List.getElem?_eq_getElem (by omega)]; rfl
    have HUN : Hid (uo = none → uc = 0 ∧ l.length = 0) := fun e => by
      rcases hurow.2 with ⟨h1, h2⟩ | ⟨g', cap, cur, h1, _⟩
      · rw [huv] at h1; injection h1 with _ _ h3; exact ⟨h3, h2⟩
      · rw [huv, e] at h1; injection h1 with h3; cases h3
    have HUL : Hid (∀ w', Below W4.heap.size W4 w' → ∀ ad, uo = some ad → ∀ j u, (ivals l)[j]? = some u → w'.cell? (ad.add j) = some u) := fun w' hb ad he j u hj => by
      rcases hurow.2 with ⟨h1, h2⟩ | ⟨g', cap, cur, h1, hbs, hg', hrest⟩
      · rw [huv, he] at h1; injection h1 with h3; cases h3
      · have h1' := h1
        rw [huv, he] at h1'
        injection h1' with h3
        obtain rfl := Option.some.inj h3
        have hjl : j < l.length := by
          have := (List.getElem?_eq_some_iff.1 hj).1; simpa [ivals] using this
        rw [show (⟨g', 0, none⟩ : Addr).add j = ⟨g', j, none⟩ by unfold Addr.add; split <;> simp_all, hb.cell (p := ⟨g', j, none⟩) (Array.getElem?_eq_some_iff.1 hg').1]
        have hro := hurow
        rw [h1] at hro
        rw [hro.cellAt j (by omega)]; exact hj
    have hpy := fun w => picked_is pb (n : Int) w hpb hnp (by omega)
    have hyr := pk_range (n := pb) (m := (n : Int)) hnp
    generalize pk pb (n : Int) = y at hpy hyr
    have HYR : Hid (0 ≤ y ∧ y < (n : Int)) := hyr
    have HHX : Hid (∀ w', Below W4.heap.size W4 w' → (w'.cell? ⟨H, 0, none⟩ = some (.slice so3 n sc3) ∧ w'.cell? ⟨H, 1, none⟩ = some (.int .i64 (gi : Int)) ∧ w'.cell? ⟨H, 2, none⟩ = some (.slice (some ⟨nb, 0, none⟩) n nc3) ∧ w'.cell? ⟨H, 3, none⟩ = some (.slice (some ⟨bb, 0, none⟩) n bc3) ∧ w'.cell? ⟨H, 4, none⟩ = some (.int .i64 (mm : Int)))) := fun w' hb => ⟨(hb.cell (p := ⟨H, 0, none⟩) hHl).trans hH0, (hb.cell (p := ⟨H, 1, none⟩) hHl).trans hH1, (hb.cell (p := ⟨H, 2, none⟩) hHl).trans hH2, (hb.cell (p := ⟨H, 3, none⟩) hHl).trans hH3, (hb.cell (p := ⟨H, 4, none⟩) hHl).trans hH4⟩
    obtain ⟨iI, hiI, hz0, hz1, hz2⟩ := info_parts infoInt
    have HNF : Hid (W4.frozen? ⟨nb, x, none⟩ = false) := by
      have := hr4.next
      show _ = _
      rcases this.2 with ⟨h1, _⟩ | ⟨g', cap, cur, h1, hbs, hg', hrest⟩
      · injection h1 with h3; cases h3
      · injection h1 with h3
        obtain ⟨rfl⟩ : nb = g' := by injection Option.some.inj h3
        simp [World.frozen?, hg']
    have HBF : Hid (W4.frozen? ⟨bb, x, none⟩ = false) := by
      have := hr4.sets
      show _ = _
      rcases this.2 with ⟨h1, _⟩ | ⟨g', cap, cur, h1, hbs, hg', hrest⟩
      · injection h1 with h3; cases h3
      · injection h1 with h3
        obtain ⟨rfl⟩ : bb = g' := by injection Option.some.inj h3
        simp [World.frozen?, hg']
    have hnbl : nb < W4.heap.size := by omega
    have hbbl : bb < W4.heap.size := by omega
    clear hH0 hH1 hH2 hH3 hH4 hr3 hr4 HG3 hurow huv huE hlE hul hb34 hyr hHH hg2 q0 q1 q2 q3
    go_cut [] (fun wx => Hid (∃ us', KRows wx W2.heap.size (.slice so3 n sc3) (.slice (some ⟨nb, 0, none⟩) n nc3) (.slice (some ⟨bb, 0, none⟩) n bc3) us' { g with next := g.next.set x (g.next.getD x [] ++ [y]) } n ∧ (wx.cell? ⟨H, 0, none⟩ = some (.slice so3 n sc3) ∧ wx.cell? ⟨H, 1, none⟩ = some (.int .i64 (gi : Int)) ∧ wx.cell? ⟨H, 2, none⟩ = some (.slice (some ⟨nb, 0, none⟩) n nc3) ∧ wx.cell? ⟨H, 3, none⟩ = some (.slice (some ⟨bb, 0, none⟩) n bc3) ∧ wx.cell? ⟨H, 4, none⟩ = some (.int .i64 (mm : Int))) ∧ H < wx.heap.size ∧ Below W2.heap.size W2 wx ∧ wx.frozen? ⟨bb, x, none⟩ = false ∧ bb < wx.heap.size))
    case first =>
      rename_i J K' hJ hK'
      generalize ha0 : Act.mk _ _ = a0
      have hsz : a0.tmps.size = 99 := by rw [← ha0]; rfl
      have a13 : a0.eval (.tmp 13) = .pointer (some ⟨H, 0, none⟩) := by rw [← ha0]; rfl
      have a12 : a0.eval (.tmp 12) = .int .i64 (x : Int) := by rw [← ha0]; rfl
      have a9 : a0.eval (.tmp 9) = .pointer (some ⟨G, 0, none⟩) := by rw [← ha0]; rfl
      have a2 : a0.eval (.tmp 2) = .int .i64 pb := by rw [← ha0]; rfl
      refine wp_anywayR (by rfl) [38, 39, 40, 41, 42, 43, 44, 45, 46, 47, 48, 49, 50, 51, 52, 53, 54] 16 (fm7P H G W4.heap.size (.slice (some ⟨nb, 0, none⟩) n nc3) (.slice uo l.length uc) (.slice so1 n sc1) nb x n pb y l) fm7E fm7N (fun _ _ _ => True) (by rw [hsz]; rfl) ?_ (fun _ _ _ _ _ _ _ h => h) (fm7P_stable _ _ _ _ _ _ _ _ _ _ _ _) (fun i v w w' row hi h hg hne => fm7P_grown _ _ _ _ _ _ _ _ _ _ _ _ i v w w' row hi h hg (fun b hb => (hne b hb).2)) ?_ ?_ ?_
      · intro i A h
        obtain ⟨rfl, rfl⟩ := fm7_eat i A h
        exact ⟨by decide, by decide, rfl, rfl, rfl, fun j hj => (fm7_eat j 8 hj).1⟩
      · intro i o hi he ho q w' hb hq
        have hbW : Below W2.heap.size W2 w' := hb24.trans (hb.mono hb24.size)
        have f : ∀ t, [38, 39, 40, 41, 42, 43, 44, 45, 46, 47, 48, 49, 50, 51, 52, 53, 54].contains t = true → t < 99 → (frm a0 [38, 39, 40, 41, 42, 43, 44, 45, 46, 47, 48, 49, 50, 51, 52, 53, 54] q).eval (.tmp t) = q t := fun t h1 h2 => frm_in h1 (by rw [hsz]; exact h2)
        have e13 : (frm a0 [38, 39, 40, 41, 42, 43, 44, 45, 46, 47, 48, 49, 50, 51, 52, 53, 54] q).eval (.tmp 13) = .pointer (some ⟨H, 0, none⟩) := (frm_out rfl).trans a13
        have e12 : (frm a0 [38, 39, 40, 41, 42, 43, 44, 45, 46, 47, 48, 49, 50, 51, 52, 53, 54] q).eval (.tmp 12) = .int .i64 (x : Int) := (frm_out rfl).trans a12
        have e9 : (frm a0 [38, 39, 40, 41, 42, 43, 44, 45, 46, 47, 48, 49, 50, 51, 52, 53, 54] q).eval (.tmp 9) = .pointer (some ⟨G, 0, none⟩) := (frm_out rfl).trans a9
        have e2 : (frm a0 [38, 39, 40, 41, 42, 43, 44, 45, 46, 47, 48, 49, 50, 51, 52, 53, 54] q).eval (.tmp 2) = .int .i64 pb := (frm_out rfl).trans a2
        obtain ⟨m0, m1, m2, m3, m4⟩ := HHX.out w' hb
        obtain ⟨p0, p1, p2, p3, p4⟩ := HGX.out w' hbW
        have hsw := hb.size
        obtain ⟨ev, hev⟩ : ∃ ev, ev = (frm a0 [38, 39, 40, 41, 42, 43, 44, 45, 46, 47, 48, 49, 50, 51, 52, 53, 54] q).eval := ⟨_, rfl⟩
        have evc : ∀ v, ev (.const v) = v := fun v => by rw [hev]; rfl
        have evf : ∀ n, ev (.func n) = .func (.func n) #[] #[] := fun n => by rw [hev]; rfl
        rw [← hev] at f e13 e12 e9 e2
        rcases fm7_lt i hi with rfl | rfl | rfl | rfl | rfl | rfl | rfl | rfl | rfl | rfl | rfl | rfl | rfl | rfl | rfl | rfl
        all_goals first | (exfalso; revert he; decide) | obtain rfl := Option.some.inj ho
        · refine op_valR (w' := w') (v := .pointer (some ⟨H, 2, none⟩)) ?_ (Below.refl _ _) rfl trivial (fun b h => absurd h (by decide))
          rw [← hev]
          simp [execOp, e13, go_sem]
        · have e38 := (f 38 rfl (by decide)).trans (hq 0 38 rfl (fun j h => by have := fm7_eat j 0 h; omega) rfl)
          refine op_valR (w' := w') (v := (.slice (some ⟨nb, 0, none⟩) n nc3)) ?_ (Below.refl _ _) rfl trivial (fun b h => absurd h (by decide))
          rw [← hev]
          simp [execOp, e38, m2, go_sem]
        · refine op_valR (w' := w') (v := .int .i64 (x : Int)) ?_ (Below.refl _ _) rfl trivial (fun b h => absurd h (by decide))
          rw [← hev]
          simp [execOp, e12, go_sem]
        · refine op_valR (w' := w') (v := .pointer (some ⟨H, 2, none⟩)) ?_ (Below.refl _ _) rfl trivial (fun b h => absurd h (by decide))
          rw [← hev]
          simp [execOp, e13, go_sem]
        · have e41 := (f 41 rfl (by decide)).trans (hq 3 41 rfl (fun j h => by have := fm7_eat j 3 h; omega) rfl)
          refine op_valR (w' := w') (v := (.slice (some ⟨nb, 0, none⟩) n nc3)) ?_ (Below.refl _ _) rfl trivial (fun b h => absurd h (by decide))
          rw [← hev]
          simp [execOp, e41, m2, go_sem]
        · refine op_valR (w' := w') (v := .int .i64 (x : Int)) ?_ (Below.refl _ _) rfl trivial (fun b h => absurd h (by decide))
          rw [← hev]
          simp [execOp, e12, go_sem]
        · have e42 := (f 42 rfl (by decide)).trans (hq 4 42 rfl (fun j h => by have := fm7_eat j 4 h; omega) rfl)
          have e43 := (f 43 rfl (by decide)).trans (hq 5 43 rfl (fun j h => by have := fm7_eat j 5 h; omega) rfl)
          refine op_valR (w' := w') (v := .pointer (some ⟨nb, x, none⟩)) ?_ (Below.refl _ _) rfl trivial (fun b h => absurd h (by decide))
          rw [← hev]
          simp [execOp, e42, e43, go_sem]
          try (intro h; omega)
        · have e44 := (f 44 rfl (by decide)).trans (hq 6 44 rfl (fun j h => by have := fm7_eat j 6 h; omega) rfl)
          refine op_valR (w' := w') (v := (.slice uo l.length uc)) ?_ (Below.refl _ _) rfl trivial (fun b h => absurd h (by decide))
          rw [← hev]
          simp [execOp, e44, HUC.out w' hb, go_sem]
        · have e45 := (f 45 rfl (by decide)).trans (hq 7 45 rfl (fun j h => by have := fm7_eat j 7 h; omega) rfl)
          exact wp_copy (.const (.slice none 0 0)) (.tmp 45) 23 rfl w'.heap.size 3 iI _ 1 8 Try.underlying23 hiI hz0 hz1 hz2 rfl (by decide) rfl uo l.length uc (ivals l) (by rw [← hev]; exact e45) HUN.out (by simp [ivals]) (HUL.out w' hb) (by intro u hu; simp [ivals] at hu; obtain ⟨z, _, rfl⟩ := hu; rfl) (by unfold maxLen; omega) (by omega) (Nat.le_refl _) fun v' w2 ho2 hg2 => ⟨v', rfl, below_of_grown hg2, owns_mono ho2 hsw, trivial, fun b _ hb => by rw [blk_own ho2] at hb; exact ho2.lt b hb⟩
        · refine op_valR (w' := w') (v := .int .i64 pb) ?_ (Below.refl _ _) rfl trivial (fun b h => absurd h (by decide))
          rw [← hev]
          simp [execOp, e2, go_sem]
        · refine op_valR (w' := w') (v := .pointer (some ⟨G, 0, none⟩)) ?_ (Below.refl _ _) rfl trivial (fun b h => absurd h (by decide))
          rw [← hev]
          simp [execOp, e9, go_sem]
        · have e48 := (f 48 rfl (by decide)).trans (hq 10 48 rfl (fun j h => by have := fm7_eat j 10 h; omega) rfl)
          refine op_valR (w' := w') (v := (.slice so1 n sc1)) ?_ (Below.refl _ _) rfl trivial (fun b h => absurd h (by decide))
          rw [← hev]
          simp [execOp, e48, p0, go_sem]
        · have e49 := (f 49 rfl (by decide)).trans (hq 11 49 rfl (fun j h => by have := fm7_eat j 11 h; omega) rfl)
          refine op_valR (w' := w') (v := .int .i64 (n : Int)) ?_ (Below.refl _ _) rfl trivial (fun b h => absurd h (by decide))
          rw [← hev]
          simp [execOp, e49, go_sem]
        · have e47 := (f 47 rfl (by decide)).trans (hq 9 47 rfl (fun j h => by have := fm7_eat j 9 h; omega) rfl)
          have e50 := (f 50 rfl (by decide)).trans (hq 12 50 rfl (fun j h => by have := fm7_eat j 12 h; omega) rfl)
          refine op_callR (f := 6) (args := #[.int .i64 pb, .int .i64 (n : Int)]) ?_ ((hpy w').mono ?_)
          · rw [← hev]; simp [execOp, e47, e50, evf, go_sem]
          · rintro e w2 ⟨rfl, rfl⟩
            exact ⟨_, rfl, Below.refl _ _, rfl, trivial, fun b h => absurd h (by decide)⟩
        · have e51 := (f 51 rfl (by decide)).trans (hq 13 51 rfl (fun j h => by have := fm7_eat j 13 h; omega) rfl)
          refine op_valR (w' := w'.alloc (.cells #[.int .i64 y] 3)) (v := .slice (some ⟨w'.heap.size, 0, none⟩) 1 1) ?_ ((Below.refl _ _).alloc (Nat.le_refl _) _) ⟨_, rfl, heap_new _ _⟩ trivial (fun b _ h => by obtain rfl := Option.some.inj h; exact ⟨Nat.le_refl _, by simp⟩)
          rw [← hev]
          simp [execOp, e51, go_sem]
      · intro i A tA o hi he hA ho q w' hb hq
        have hbW : Below W2.heap.size W2 w' := hb24.trans (hb.mono hb24.size)
        have f : ∀ t, [38, 39, 40, 41, 42, 43, 44, 45, 46, 47, 48, 49, 50, 51, 52, 53, 54].contains t = true → t < 99 → (frm a0 [38, 39, 40, 41, 42, 43, 44, 45, 46, 47, 48, 49, 50, 51, 52, 53, 54] q).eval (.tmp t) = q t := fun t h1 h2 => frm_in h1 (by rw [hsz]; exact h2)
        have e13 : (frm a0 [38, 39, 40, 41, 42, 43, 44, 45, 46, 47, 48, 49, 50, 51, 52, 53, 54] q).eval (.tmp 13) = .pointer (some ⟨H, 0, none⟩) := (frm_out rfl).trans a13
        have e12 : (frm a0 [38, 39, 40, 41, 42, 43, 44, 45, 46, 47, 48, 49, 50, 51, 52, 53, 54] q).eval (.tmp 12) = .int .i64 (x : Int) := (frm_out rfl).trans a12
        have e9 : (frm a0 [38, 39, 40, 41, 42, 43, 44, 45, 46, 47, 48, 49, 50, 51, 52, 53, 54] q).eval (.tmp 9) = .pointer (some ⟨G, 0, none⟩) := (frm_out rfl).trans a9
        have e2 : (frm a0 [38, 39, 40, 41, 42, 43, 44, 45, 46, 47, 48, 49, 50, 51, 52, 53, 54] q).eval (.tmp 2) = .int .i64 pb := (frm_out rfl).trans a2
        obtain ⟨m0, m1, m2, m3, m4⟩ := HHX.out w' hb
        obtain ⟨p0, p1, p2, p3, p4⟩ := HGX.out w' hbW
        have hsw := hb.size
        obtain ⟨ev, hev⟩ : ∃ ev, ev = (frm a0 [38, 39, 40, 41, 42, 43, 44, 45, 46, 47, 48, 49, 50, 51, 52, 53, 54] q).eval := ⟨_, rfl⟩
        have evc : ∀ v, ev (.const v) = v := fun v => by rw [hev]; rfl
        have evf : ∀ n, ev (.func n) = .func (.func n) #[] #[] := fun n => by rw [hev]; rfl
        rw [← hev] at f e13 e12 e9 e2
        obtain ⟨rfl, rfl⟩ := fm7_eat i A he
        obtain rfl : 46 = tA := Option.some.inj hA
        obtain rfl := Option.some.inj ho
        have ho2 := (hq 8 46 rfl (fun j h => by have := fm7_eat j 8 h; omega) rfl)
        obtain ⟨g5, hgv, hgb⟩ := (hq 14 52 rfl (fun j h => by have := fm7_eat j 14 h; omega) rfl)
        have e52 := (f 52 rfl (by decide)).trans hgv
        exact wp_append_lies _ (.tmp 46) (.tmp 52) 23 rfl W4.heap.size 3 iI _ 1 8 Try.underlying23 hiI hz0 hz1 hz2 rfl (by decide) (q 46) l.length (ivals l) (by rw [← hev]; exact f 46 rfl (by decide)) ho2 ⟨g5, 0, none⟩ 1 1 [.int .i64 y] (by rw [← hev]; exact e52) rfl (World.news_of_block hgb) (by intro u hu; simp at hu; subst hu; rfl) (by omega) (by unfold maxLen; omega) (by omega) hsw _ rfl fun g9 cap w2 hown hgrow hat hlt => ⟨_, rfl, by rw [blk_own ho2]; exact hgrow, ⟨hown, g9, cap, rfl⟩, trivial, fun b hb => by
          obtain rfl := Option.some.inj hb
          exact ⟨by rw [blk_own ho2]; exact hat.imp id (fun e => Nat.le_of_eq e.symm), hlt⟩⟩
      · intro q w' hb hq hl hd hw
        have f : ∀ q t, [38, 39, 40, 41, 42, 43, 44, 45, 46, 47, 48, 49, 50, 51, 52, 53, 54].contains t = true → t < 99 → (frm a0 [38, 39, 40, 41, 42, 43, 44, 45, 46, 47, 48, 49, 50, 51, 52, 53, 54] q).eval (.tmp t) = q t := fun q t h1 h2 => frm_in h1 (by rw [hsz]; exact h2)
        have hne : ∀ k i, i ≠ 8 → fm7E k ≠ some i := fun k i hi h => hi (fm7_eat k i h).2
        obtain ⟨ho, g5, n5, hv53⟩ := hq 15 53 (by decide) (fun k => hne k 15 (by decide)) rfl
        have e39 := (f q 39 rfl (by decide)).trans (hq 1 39 (by decide) (fun k => hne k 1 (by decide)) rfl)
        have e40 := (f q 40 rfl (by decide)).trans (hq 2 40 (by decide) (fun k => hne k 2 (by decide)) rfl)
        have hg5 : W4.heap.size ≤ g5 := hw 15 53 g5 (by decide) rfl (fun k => hne k 15 (by decide)) rfl (by rw [hv53]; rfl)
        have kn : w'.cell? ⟨nb, x, none⟩ = some (.slice uo l.length uc) := HUC.out w' hb
        have kf : w'.frozen? ⟨nb, x, none⟩ = false := (hb.frozen (p := ⟨nb, x, none⟩) hnbl).trans HNF.out
        show wpOps Try.prog _ _ [16, 17] _ _
        rw [wpOps_cons]
        refine op_at rfl rfl ?_
        refine op_run (w' := w') (v := .pointer (some ⟨nb, x, none⟩)) ?_ ?_
        · generalize (frm a0 [38, 39, 40, 41, 42, 43, 44, 45, 46, 47, 48, 49, 50, 51, 52, 53, 54] q).eval = ev at e39 e40 ⊢
          simp [execOp, e39, e40, go_sem]
          try (intro h; omega)
        rw [late_put 54 rfl rfl, wpOps_cons]
        refine op_at rfl rfl ?_
        have e54 := f (setV q 54 (.pointer (some ⟨nb, x, none⟩))) 54 rfl (by decide)
        have e53 := f (setV q 54 (.pointer (some ⟨nb, x, none⟩))) 53 rfl (by decide)
        rw [setV_same] at e54
        rw [setV_other (by decide), hv53] at e53
        refine op_skip (w' := w'.setCell ⟨nb, x, none⟩ (.slice (some ⟨g5, 0, none⟩) (l.length + 1) n5)) rfl ?_ ?_
        · generalize (frm a0 [38, 39, 40, 41, 42, 43, 44, 45, 46, 47, 48, 49, 50, 51, 52, 53, 54] (setV q 54 (.pointer (some ⟨nb, x, none⟩)))).eval = ev at e53 e54 ⊢
          simp [execOp, e53, e54, go_sem, kn, kf]
        show K' _ _
        refine hK' _ _ ?_
        rw [← ha0]
        go_meet
        have hrw := HR4.out.later hb
        have hr5 := hrw.put (i := x) hxn (lv := .slice (some ⟨g5, 0, none⟩) (l.length + 1) n5) (l := l ++ [y]) (by
          rw [hv53] at ho
          rw [List.length_append, show ivals (l ++ [y]) = ivals l ++ [.int .i64 y] by simp [ivals]]
          exact owns_mono ho (Nat.le_trans hb24.size (Nat.le_refl _))) (.inr (fun e => by
            have := Option.some.inj e
            have h1 : g5 = bb := this
            omega))
        rw [HLE.out] at hr5
        have hc : ∀ j, (w'.setCell ⟨nb, x, none⟩ (.slice (some ⟨g5, 0, none⟩) ((g.next.getD x []).length + 1) n5)).cell? ⟨H, j, none⟩ = w'.cell? ⟨H, j, none⟩ := fun j => World.cell?_setCell_other _ _ _ _ (by intro e; injection e with e1; omega)
        obtain ⟨h0, h1, h2, h3, h4⟩ := HHX.out w' hb
        have hbs := hb.size
        rw [HLE.out]
        refine ⟨_, hr5, ⟨(hc 0).trans h0, (hc 1).trans h1, (hc 2).trans h2, (hc 3).trans h3, (hc 4).trans h4⟩, by simp; omega, (hb24.trans (hb.mono hb24.size)).setCell hnb1 _, ?_, by simp; omega⟩
        rw [World.frozen?_setCell]
        exact (hb.frozen (p := ⟨bb, x, none⟩) hbbl).trans HBF.out
    case rest =>
      obtain ⟨us', hr5, ⟨h0, h1, h2, h3, h4⟩, hH5, hb25, hbf5, hbb5⟩ := hcut.out
      obtain ⟨W5, hW5⟩ : ∃ W5, W5 = wc := ⟨_, rfl⟩
      rw [← hW5] at hr5 h0 h1 h2 h3 h4 hH5 hb25 hbf5 hbb5 ⊢
      clear hW5 hcut
      have hok := HOK.out.1
      obtain ⟨hs1, hs2⟩ := hok.sN (x := x) (by rw [← HN.out]; exact hxn)
      have hmN : mN g = mm := by unfold mN; rw [HOK.out.2]; simp
      rw [hmN] at hs2
      obtain ⟨sx, hsx⟩ : ∃ sx, sx = sN g x := ⟨_, rfl⟩
      rw [← hsx] at hs1 hs2
      have HSX : Hid (sx = sN g x ∧ g.sets.getD x 0 = (sx : Int) ∧ sx < 2 ^ mm) := ⟨hsx, hs1, hs2⟩
      have h264 : (2 : Nat) ^ mm ≤ 64 := pow64 hm6
      have hpp : (0 : Int) < ((2 ^ mm : Nat) : Int) := by have := Nat.two_pow_pos mm; omega
      have hpz := fun w => picked_is pc ((2 ^ mm : Nat) : Int) w hpc hpp (by omega)
      have hzr := pk_range (n := pc) (m := ((2 ^ mm : Nat) : Int)) hpp
      obtain ⟨z, hzE⟩ : ∃ z : Nat, pk pc ((2 ^ mm : Nat) : Int) = (z : Int) := ⟨(pk pc ((2 ^ mm : Nat) : Int)).toNat, by omega⟩
      rw [hzE] at hpz hzr
      have HZR : Hid (z < 2 ^ mm) := by show _ < _; omega
      have HSC : Hid (∀ w', Below W5.heap.size W5 w' → w'.cell? ⟨bb, x, none⟩ = some (.int .i64 (sx : Int))) := fun w' hb => by
        have hkb := hr5.kb
        have hgl : g.sets.length = n := hkb
        rw [hb.cell (p := ⟨bb, x, none⟩) hbb5, hr5.sets.cellAt x (by omega)]
        show (ivals g.sets)[x]? = _
        rw [ivals, List.getElem?_map, List.getElem?_eq_getElem (by omega), ← hs1, List.getD_eq_getElem?_getD, List.getElem?_eq_getElem (by omega)]; rfl
      have HR5 : Hid (KRows W5 W2.heap.size (.slice so3 n sc3) (.slice (some ⟨nb, 0, none⟩) n nc3) (.slice (some ⟨bb, 0, none⟩) n bc3) us' { g with next := g.next.set x (g.next.getD x [] ++ [y]) } n) := hr5
      have HH5 : Hid (∀ w', Below W5.heap.size W5 w' → (w'.cell? ⟨H, 0, none⟩ = some (.slice so3 n sc3) ∧ w'.cell? ⟨H, 1, none⟩ = some (.int .i64 (gi : Int)) ∧ w'.cell? ⟨H, 2, none⟩ = some (.slice (some ⟨nb, 0, none⟩) n nc3) ∧ w'.cell? ⟨H, 3, none⟩ = some (.slice (some ⟨bb, 0, none⟩) n bc3) ∧ w'.cell? ⟨H, 4, none⟩ = some (.int .i64 (mm : Int)))) := fun w' hb => ⟨(hb.cell (p := ⟨H, 0, none⟩) hH5).trans h0, (hb.cell (p := ⟨H, 1, none⟩) hH5).trans h1, (hb.cell (p := ⟨H, 2, none⟩) hH5).trans h2, (hb.cell (p := ⟨H, 3, none⟩) hH5).trans h3, (hb.cell (p := ⟨H, 4, none⟩) hH5).trans h4⟩
      clear hr5 h0 h1 h2 h3 h4 hzE hzr hsx hs1 hs2 hok hpy HHX HUC HUN HUL HR4 HNF HBF
      go_upto_region 8 with fail
      go_cut [] (fun wx => Hid (KRows wx W2.heap.size (.slice so3 n sc3) (.slice (some ⟨nb, 0, none⟩) n nc3) (.slice (some ⟨bb, 0, none⟩) n bc3) us' (moreG g x y (bits BinOp.or IntKind.i64 (sx : Int) (z : Int))) n ∧ (wx.cell? ⟨H, 0, none⟩ = some (.slice so3 n sc3) ∧ wx.cell? ⟨H, 1, none⟩ = some (.int .i64 (gi : Int)) ∧ wx.cell? ⟨H, 2, none⟩ = some (.slice (some ⟨nb, 0, none⟩) n nc3) ∧ wx.cell? ⟨H, 3, none⟩ = some (.slice (some ⟨bb, 0, none⟩) n bc3) ∧ wx.cell? ⟨H, 4, none⟩ = some (.int .i64 (mm : Int))) ∧ H < wx.heap.size ∧ Below W2.heap.size W2 wx))
      case first =>
        rename_i J K' hJ hK'
        generalize ha0 : Act.mk _ _ = a0
        have hsz : a0.tmps.size = 99 := by rw [← ha0]; rfl
        have a13 : a0.eval (.tmp 13) = .pointer (some ⟨H, 0, none⟩) := by rw [← ha0]; rfl
        have a12 : a0.eval (.tmp 12) = .int .i64 (x : Int) := by rw [← ha0]; rfl
        have a9 : a0.eval (.tmp 9) = .pointer (some ⟨G, 0, none⟩) := by rw [← ha0]; rfl
        have a3 : a0.eval (.tmp 3) = .int .i64 pc := by rw [← ha0]; rfl
        refine wp_anyway (by rfl) [55, 56, 57, 58, 59, 60, 61, 62, 63, 64, 65, 66] 11 (fm8P H G (.slice (some ⟨bb, 0, none⟩) n bc3) bb x (sx : Int) pc ((2 ^ mm : Nat) : Int) (z : Int) (mm : Int)) (by rw [hsz]; rfl) (fm8P_stable _ _ _ _ _ _ _ _ _ _) ?_ ?_
        · intro i o hi ho q w' hb hq
          have hbW : Below W2.heap.size W2 w' := hb25.trans (hb.mono hb25.size)
          have f : ∀ t, [55, 56, 57, 58, 59, 60, 61, 62, 63, 64, 65, 66].contains t = true → t < 99 → (frm a0 [55, 56, 57, 58, 59, 60, 61, 62, 63, 64, 65, 66] q).eval (.tmp t) = q t := fun t h1 h2 => frm_in h1 (by rw [hsz]; exact h2)
          have e13 : (frm a0 [55, 56, 57, 58, 59, 60, 61, 62, 63, 64, 65, 66] q).eval (.tmp 13) = .pointer (some ⟨H, 0, none⟩) := (frm_out rfl).trans a13
          have e12 : (frm a0 [55, 56, 57, 58, 59, 60, 61, 62, 63, 64, 65, 66] q).eval (.tmp 12) = .int .i64 (x : Int) := (frm_out rfl).trans a12
          have e9 : (frm a0 [55, 56, 57, 58, 59, 60, 61, 62, 63, 64, 65, 66] q).eval (.tmp 9) = .pointer (some ⟨G, 0, none⟩) := (frm_out rfl).trans a9
          have e3 : (frm a0 [55, 56, 57, 58, 59, 60, 61, 62, 63, 64, 65, 66] q).eval (.tmp 3) = .int .i64 pc := (frm_out rfl).trans a3
          obtain ⟨m0, m1, m2, m3, m4⟩ := HH5.out w' hb
          obtain ⟨p0, p1, p2, p3, p4⟩ := HGX.out w' hbW
          obtain ⟨ev, hev⟩ : ∃ ev, ev = (frm a0 [55, 56, 57, 58, 59, 60, 61, 62, 63, 64, 65, 66] q).eval := ⟨_, rfl⟩
          have evc : ∀ v, ev (.const v) = v := fun v => by rw [hev]; rfl
          have evf : ∀ n, ev (.func n) = .func (.func n) #[] #[] := fun n => by rw [hev]; rfl
          rw [← hev] at f e13 e12 e9 e3
          rcases fm8_lt i hi with rfl | rfl | rfl | rfl | rfl | rfl | rfl | rfl | rfl | rfl | rfl
          all_goals obtain rfl := Option.some.inj ho
          · refine op_val (w' := w') (v := .pointer (some ⟨H, 3, none⟩)) ?_ (Below.refl _ _) rfl
            rw [← hev]
            simp [execOp, e13, go_sem]
          · have e55 := (f 55 rfl (by decide)).trans (hq 0 55 rfl rfl)
            refine op_val (w' := w') (v := (.slice (some ⟨bb, 0, none⟩) n bc3)) ?_ (Below.refl _ _) rfl
            rw [← hev]
            simp [execOp, e55, m3, go_sem]
          · refine op_val (w' := w') (v := .int .i64 (x : Int)) ?_ (Below.refl _ _) rfl
            rw [← hev]
            simp [execOp, e12, go_sem]
          · have e56 := (f 56 rfl (by decide)).trans (hq 1 56 rfl rfl)
            have e57 := (f 57 rfl (by decide)).trans (hq 2 57 rfl rfl)
            refine op_val (w' := w') (v := .pointer (some ⟨bb, x, none⟩)) ?_ (Below.refl _ _) rfl
            rw [← hev]
            simp [execOp, e56, e57, go_sem]
            try (intro h; omega)
          · have e58 := (f 58 rfl (by decide)).trans (hq 3 58 rfl rfl)
            refine op_val (w' := w') (v := .int .i64 (sx : Int)) ?_ (Below.refl _ _) rfl
            rw [← hev]
            simp [execOp, e58, HSC.out w' hb, go_sem]
          · refine op_val (w' := w') (v := .int .i64 pc) ?_ (Below.refl _ _) rfl
            rw [← hev]
            simp [execOp, e3, go_sem]
          · refine op_val (w' := w') (v := .pointer (some ⟨G, 4, none⟩)) ?_ (Below.refl _ _) rfl
            rw [← hev]
            simp [execOp, e9, go_sem]
          · have e61 := (f 61 rfl (by decide)).trans (hq 6 61 rfl rfl)
            refine op_val (w' := w') (v := .int .i64 (mm : Int)) ?_ (Below.refl _ _) rfl
            rw [← hev]
            simp [execOp, e61, p4, go_sem]
          · have e62 := (f 62 rfl (by decide)).trans (hq 7 62 rfl rfl)
            refine op_val (w' := w') (v := .int .i64 ((2 ^ mm : Nat) : Int)) ?_ (Below.refl _ _) rfl
            rw [← hev]
            have hmc : mm = 0 ∨ mm = 1 ∨ mm = 2 ∨ mm = 3 ∨ mm = 4 ∨ mm = 5 ∨ mm = 6 := by omega
            clear hpz HZR HSX HSC HR5 HH5 HOK HGI HGR HF1 HGX hpp h264 hq p4 m4 hJ hK' ha0
            rcases hmc with rfl | rfl | rfl | rfl | rfl | rfl | rfl <;> simp [execOp, e62, evc, go_sem] <;> decide
          · have e60 := (f 60 rfl (by decide)).trans (hq 5 60 rfl rfl)
            have e63 := (f 63 rfl (by decide)).trans (hq 8 63 rfl rfl)
            refine op_call (f := 6) (args := #[.int .i64 pc, .int .i64 ((2 ^ mm : Nat) : Int)]) ?_ ((hpz w').mono ?_)
            · rw [← hev]; simp [execOp, e60, e63, evf, go_sem]
            · rintro e w2 ⟨rfl, rfl⟩
              exact ⟨_, rfl, Below.refl _ _, rfl⟩
          · have e59 := (f 59 rfl (by decide)).trans (hq 4 59 rfl rfl)
            have e64 := (f 64 rfl (by decide)).trans (hq 9 64 rfl rfl)
            refine op_val (w' := w') (v := .int .i64 (bits BinOp.or IntKind.i64 (sx : Int) (z : Int))) ?_ (Below.refl _ _) rfl
            rw [← hev]
            simp [execOp, e59, e64, go_sem]
        · intro q w' hb hq
          have f : ∀ q t, [55, 56, 57, 58, 59, 60, 61, 62, 63, 64, 65, 66].contains t = true → t < 99 → (frm a0 [55, 56, 57, 58, 59, 60, 61, 62, 63, 64, 65, 66] q).eval (.tmp t) = q t := fun q t h1 h2 => frm_in h1 (by rw [hsz]; exact h2)
          have e56 := (f q 56 rfl (by decide)).trans (hq 1 56 (by decide) rfl)
          have e57 := (f q 57 rfl (by decide)).trans (hq 2 57 (by decide) rfl)
          have kn : w'.cell? ⟨bb, x, none⟩ = some (.int .i64 (sx : Int)) := HSC.out w' hb
          have kf : w'.frozen? ⟨bb, x, none⟩ = false := (hb.frozen (p := ⟨bb, x, none⟩) hbb5).trans hbf5
          show wpOps Try.prog _ _ [11, 12] _ _
          rw [wpOps_cons]
          refine op_at rfl rfl ?_
          refine op_run (w' := w') (v := .pointer (some ⟨bb, x, none⟩)) ?_ ?_
          · generalize (frm a0 [55, 56, 57, 58, 59, 60, 61, 62, 63, 64, 65, 66] q).eval = ev at e56 e57 ⊢
            simp [execOp, e56, e57, go_sem]
            try (intro h; omega)
          rw [late_put 66 rfl rfl, wpOps_cons]
          refine op_at rfl rfl ?_
          have e66 := f (setV q 66 (.pointer (some ⟨bb, x, none⟩))) 66 rfl (by decide)
          have e65 := f (setV q 66 (.pointer (some ⟨bb, x, none⟩))) 65 rfl (by decide)
          rw [setV_same] at e66
          rw [setV_other (by decide)] at e65
          have e65 := e65.trans (hq 10 65 (by decide) rfl)
          refine op_skip (w' := w'.setCell ⟨bb, x, none⟩ (.int .i64 (bits BinOp.or IntKind.i64 (sx : Int) (z : Int)))) rfl ?_ ?_
          · generalize (frm a0 [55, 56, 57, 58, 59, 60, 61, 62, 63, 64, 65, 66] (setV q 66 (.pointer (some ⟨bb, x, none⟩)))).eval = ev at e65 e66 ⊢
            simp [execOp, e65, e66, go_sem, kn, kf]
          show K' _ _
          refine hK' _ _ ?_
          rw [← ha0]
          go_meet
          have hr6 := (HR5.out.later hb).putB (i := x) (s := bits BinOp.or IntKind.i64 (sx : Int) (z : Int))
          have hc : ∀ j, (w'.setCell ⟨bb, x, none⟩ (.int .i64 (bits BinOp.or IntKind.i64 (sx : Int) (z : Int)))).cell? ⟨H, j, none⟩ = w'.cell? ⟨H, j, none⟩ := fun j => World.cell?_setCell_other _ _ _ _ (by intro e; injection e with e1; omega)
          obtain ⟨h0, h1, h2, h3, h4⟩ := HH5.out w' hb
          have hbs := hb.size
          exact ⟨hr6, ⟨(hc 0).trans h0, (hc 1).trans h1, (hc 2).trans h2, (hc 3).trans h3, (hc 4).trans h4⟩, by simp; omega, (hb25.trans (hb.mono hb25.size)).setCell hbb1 _⟩
      case rest =>
        obtain ⟨hr6, ⟨h0, h1, h2, h3, h4⟩, hH6, hb26⟩ := hcut.out
        obtain ⟨W6, hW6⟩ : ∃ W6, W6 = wc := ⟨_, rfl⟩
        rw [← hW6] at hr6 h0 h1 h2 h3 h4 hH6 hb26 ⊢
        clear hW6 hcut
        have hok := HOK.out.1
        have hor : bits BinOp.or IntKind.i64 (sx : Int) (z : Int) = ((sx ||| z : Nat) : Int) := or_nat0 sx (Nat.lt_of_lt_of_le HSX.out.2.2 h264) z (Nat.lt_of_lt_of_le HZR.out h264)
        have hlt : sx ||| z < 2 ^ mm := Nat.or_lt_two_pow HSX.out.2.2 HZR.out
        have htop : top g = ((2 ^ mm - 1 : Nat) : Int) := by have := hok.mN.2.2; rw [show mN g = mm by unfold mN; rw [HOK.out.2]; simp] at this; exact this
        have hgh : GOk (moreG g x y (bits BinOp.or IntKind.i64 (sx : Int) (z : Int))) := gok_more hok (by rw [← HN.out]; exact hxn) (by rw [← HN.out]; exact HYR.out) (by rw [hor, htop]; omega)
        have hfm : fairC g = 0 → fairC (moreG g x y (bits BinOp.or IntKind.i64 (sx : Int) (z : Int))) = 0 := fair_more hok (by rw [← HN.out]; exact hxn) (fun i hi => by rw [hor, Int.toNat_natCast, Nat.testBit_or, HSX.out.1, hi]; rfl)
        obtain ⟨h, hhE⟩ : ∃ h, h = moreG g x y (bits BinOp.or IntKind.i64 (sx : Int) (z : Int)) := ⟨_, rfl⟩
        rw [← hhE] at hr6 hgh hfm
        have hinit : h.init = (gi : Int) := by rw [hhE]; show g.init = _; have := HGI.out.1; have := hok.head.init0; omega
        have hmany : h.many = (mm : Int) := by rw [hhE]; exact HOK.out.2
        have HF2 : Hid (∀ w', Below W6.heap.size W6 w' → Calls Try.prog 5 #[.agg #[.slice so3 n sc3, .int .i64 (gi : Int), .slice (some ⟨nb, 0, none⟩) n nc3, .slice (some ⟨bb, 0, none⟩) n bc3, .int .i64 (mm : Int)]] w' fun e w2 => e = .returned (.tuple #[.int .i64 (fairV h), .int .i64 (fairC h)]) ∧ Below w'.heap.size w' w2) := fun w' hb => by
          have k1 := hr6.ks
          have k2 := hr6.kn
          have k3 := hr6.kb
          have hle : GrLe h := ⟨by omega, by omega, by omega, fun i hi => by
            rw [hhE]
            show ((g.next.set x (g.next.getD x [] ++ [y])).getD i []).length ≤ _
            rw [getD_put (by rw [hok.head.next, ← HN.out]; exact hxn)]
            have hgl := HGL.out
            by_cases e : i = x
            · rw [if_pos e, List.length_append]
              have := hgl x hxn
              show (g.next.getD x []).length + 1 ≤ 140737488355328
              omega
            · rw [if_neg e]
              have := hgl i (by omega)
              omega⟩
          have := sfair_ok so3 (some ⟨nb, 0, none⟩) (some ⟨bb, 0, none⟩) sc3 nc3 bc3 h w' hle (by rw [k1, k2, k3]; exact hr6.v.below hb) (gcode_ok hgh.head hgh.row)
          rw [k1, k2, k3, hinit, hmany] at this
          exact this
        have HHX : Hid (∀ w', Below W6.heap.size W6 w' → (w'.cell? ⟨H, 0, none⟩ = some (.slice so3 n sc3) ∧ w'.cell? ⟨H, 1, none⟩ = some (.int .i64 (gi : Int)) ∧ w'.cell? ⟨H, 2, none⟩ = some (.slice (some ⟨nb, 0, none⟩) n nc3) ∧ w'.cell? ⟨H, 3, none⟩ = some (.slice (some ⟨bb, 0, none⟩) n bc3) ∧ w'.cell? ⟨H, 4, none⟩ = some (.int .i64 (mm : Int)))) := fun w' hb => ⟨(hb.cell (p := ⟨H, 0, none⟩) hH6).trans h0, (hb.cell (p := ⟨H, 1, none⟩) hH6).trans h1, (hb.cell (p := ⟨H, 2, none⟩) hH6).trans h2, (hb.cell (p := ⟨H, 3, none⟩) hH6).trans h3, (hb.cell (p := ⟨H, 4, none⟩) hH6).trans h4⟩
        obtain ⟨i0, i1, i2, i3, i4⟩ := HGX.out W6 hb26
        have hk1 := HF1.out W6 hb26
        have HBW : Hid (∀ w', Below W6.heap.size W6 w' → Below w.heap.size w w') := fun w' hb => by
          have h02 := HA.out.trans (HB02.out.mono HA.out.size)
          have h06 := h02.trans (hb26.mono h02.size)
          exact h06.trans (hb.mono h06.size)
        have hcs : (fairC g = 0 ∧ fairC h = 0) ∨ (fairC g = 11 ∧ fairC h = 0) ∨ (fairC g = 11 ∧ fairC h = 11) := by
          rcases fairC_or g with e | e
          · exact .inl ⟨e, hfm e⟩
          · rcases fairC_or h with e' | e'
            · exact .inr (.inl ⟨e, e'⟩)
            · exact .inr (.inr ⟨e, e'⟩)
        clear hr6 h0 h1 h2 h3 h4 hgh hfm hor hlt htop hok HGX HF1 hinit hmany hhE
        have tk1 := True.intro
        have tk2 := True.intro
        rcases hcs with ⟨c1, c2⟩ | ⟨c1, c2⟩ | ⟨c1, c2⟩
        all_goals
          rw [c1] at hk1
          rw [c2] at HF2
          clear c1 c2
          go_wp2_with (first
            | (clear tk1; go_at_call 5; refine hk1.mono ?_; rintro e v1 ⟨rfl, hv1⟩; obtain ⟨j0, j1, j2, j3, j4⟩ := HHX.out v1 hv1; have hk2 := HF2.out v1 hv1)
            | (clear tk2; go_at_call 5; refine hk2.mono ?_; rintro e v2 ⟨rfl, hv2'⟩; have hv2 := hv1.trans (hv2'.mono hv1.size)))
          go_ret
          exact ⟨by first | rfl | simp, HBW.out _ hv2⟩
end Go.Proofs.Ytdmclgbmdhhdiaa
