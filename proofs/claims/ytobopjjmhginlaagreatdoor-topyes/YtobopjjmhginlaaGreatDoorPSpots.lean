import Derived.Test.YtobopjjmhginlaaGreatDoorOwns
namespace Go.Proofs.YtobopjjmhginlaaGreatDoor
open Go.ChangeShapes Go.WideShapes Go.ChangeAt Go.RowKit Go.Deep
set_option maxHeartbeats 6400000
set_option maxRecDepth 20000
theorem infoSpot : (Tryz.prog.info? 87).map (fun i => (i.zero, i.size, i.bytes)) = some (some (.agg #[.int .i64 0, .int .i64 0]), 2, 16) := by kernel_rfl
def SpO (w : World) (base : Nat) (v : Value) (l : List (Int × Int)) : Prop := w.ownsRow base 87 2 v l.length (flat l)
theorem SpO.nil (w : World) (base : Nat) : SpO w base (.slice none 0 0) [] := World.ownsRow_nil _ _ _ _
theorem SpO.later {w w' : World} {base B : Nat} {v : Value} {l : List (Int × Int)} (h : SpO w base v l) (hb : Below B w w') (hB : w.heap.size <= B) : SpO w' base v l := owns_later h hb hB
theorem SpO.shape {w : World} {base : Nat} {v : Value} {l : List (Int × Int)} (h : SpO w base v l) : ∃ ao cap, v = .slice ao l.length cap := owns_slice h
def SpV (w : World) (v : Value) (l : List (Int × Int)) : Prop := ∃ ao cap, v = .slice ao l.length cap /\ (l ≠ [] -> ∃ b off, ao = some ⟨b, off, none⟩ /\ b < w.heap.size /\ OpsAt w b off l)
theorem SpV.nil (w : World) : SpV w (.slice none 0 0) [] := ⟨none, 0, rfl, fun h => absurd rfl h⟩
theorem SpO.v {w : World} {base : Nat} {v : Value} {l : List (Int × Int)} (h : SpO w base v l) : SpV w v l := by
  rcases h.2 with ⟨rfl, h0⟩ | ⟨g, cap, cur, rfl, hb, hg, hnc, hcm, hcs, htake⟩
  · have : l = [] := by simpa using h0
    subst this; exact SpV.nil w
  · refine ⟨_, cap, rfl, fun _ => ⟨g, 0, rfl, (Array.getElem?_eq_some_iff.1 hg).1, fun i hi => ?_⟩⟩
    obtain ⟨f0, f1⟩ := flat_get l i hi; rw [World.ownsRow.cellAt h _ (by omega), World.ownsRow.cellAt h _ (by omega)]
    simpa using ⟨f0, f1⟩
section
variable {W : World}
theorem push_sp {ops : Array Oper} {rest : List Oper} {o : Oper} {a : Act} {Q : Exit -> Act -> World -> Prop} (y z : Int) (hgd : o.guard = none) (s x : Operand)
    (ho : o.op = .call { callee := .builtin .append, args := #[s, x], argTypes := #[57, 57] })
    (base n cap : Nat) (vo : Option Addr) (l : List (Int × Int)) (hl : l.length = n) (hs : a.eval s = .slice vo n cap) (hown : SpO W base (.slice vo n cap) l) (hx : a.eval x = .slice (some ⟨W.heap.size, 0, none⟩) 1 1)
    (hsz : (n + 1) * 16 <= 140737488355328) (hbase : base <= W.heap.size)
    (h : ∀ vo' cap' w', SpO w' base (.slice vo' (n + 1) cap') (l ++ [(y, z)]) -> Below base W w' -> (W.alloc (.cells #[.int .i64 y, .int .i64 z] 87)).grownBy w' (Value.slice vo n cap).ownBlock -> wpList Tryz.prog ops Q rest (a.put o.dst (.slice vo' (n + 1) cap')) w') : wpList Tryz.prog ops Q (o :: rest) a (W.alloc (.cells #[.int .i64 y, .int .i64 z] 87)) := by
  subst hl; obtain ⟨i0, hi, hz0, hz1, hz2⟩ := info_parts infoSpot; have hown' : W.ownsRow base 87 2 (.slice vo l.length cap) l.length (flat l) := hown
  refine wpList_append_own _ hgd s x 57 ho base 87 i0 (.agg #[.int .i64 0, .int .i64 0]) 2 16 Tryz.underlying57 hi hz0 hz1 hz2 rfl (by decide) (.slice vo l.length cap) l.length (flat l) hs (hown'.alloc _) ⟨W.heap.size, 0, none⟩ 1 1 [.int .i64 y, .int .i64 z] hx rfl (two_new _ _ _ _) (by intro u hu; simp at hu; rcases hu with rfl | rfl <;> rfl) (by unfold maxLen; omega) hsz (Nat.le_trans hbase (by simp)) ?_
  intro v' w4 hown' hgrow _; obtain ⟨a4, c4, rfl⟩ := owns_slice hown'; refine h a4 c4 w4 ?_ (((Below.refl base W).alloc hbase _).grown hgrow (Nat.le_trans hbase (by simp)) (fun q hq => (World.ownsRow.lt hown q hq).1)) hgrow
  unfold SpO; rw [flat_append, List.length_append]; exact hown'
end
end Go.Proofs.YtobopjjmhginlaaGreatDoor
