/-
  Slices that are cut, and appended to a row of one's own.
-/
import Derived.Test.YtncfkpfbjenpjaaUStM
import Derived.Test.YtncfkpfbjenpjaaUOpen
namespace Go.Proofs.Ytncfkpfbjenpjaa
open Go.ChangeShapes Go.WideShapes Go.ChangeAt Go.RowKit Go.Deep

def OwnI (w : World) (base : Nat) (v : Value) (l : List Int) : Prop := w.ownsRow base 3 1 v l.length (ivals l)
theorem OwnI.v {w : World} {base : Nat} {v : Value} {l : List Int} (h : OwnI w base v l) : IntsV w v l := intsV_of_owns h
theorem OwnI.snoc {w : World} {base : Nat} {v : Value} {l : List Int} {x : Int} (h : w.ownsRow base 3 1 v (l.length + 1) (ivals l ++ [.int .i64 x])) : OwnI w base v (l ++ [x]) := by
  unfold OwnI; rw [List.length_append, ivals_append]; exact h
theorem OwnI.mono {w : World} {base base' : Nat} {v : Value} {l : List Int} (h : OwnI w base v l) (hb : base' ≤ base) : OwnI w base' v l := owns_mono h hb
theorem OwnI.later {w w' : World} {base B : Nat} {v : Value} {l : List Int} (h : OwnI w base v l) (hb : Below B w w') (hB : w.heap.size ≤ B) : OwnI w' base v l := owns_later h hb hB

theorem IntsV.len {w : World} {ao : Option Addr} {n cap : Nat} {l : List Int} (h : IntsV w (.slice ao n cap) l) : l.length = n := by
  obtain ⟨_, _, h, _⟩ := h
  injection h with _ h _
  exact h.symm
theorem LisV.len {w : World} {ao : Option Addr} {n cap : Nat} {l : List (List Int)} (h : LisV w (.slice ao n cap) l) : l.length = n := by
  obtain ⟨_, _, _, h, _⟩ := h
  injection h with _ h _
  exact h.symm
set_option maxRecDepth 20000 in
theorem elemInts : Try.prog.elem 22 = 3 := by kernel_rfl
set_option maxRecDepth 20000 in
theorem elemLists : Try.prog.elem 23 = 22 := by kernel_rfl
/-- l[k:]. -/
theorem slice_i {w : World} {ao : Option Addr} {n cap k : Nat} {l : List Int} (hV : IntsV w (.slice ao n cap) l) (hk : k ≤ n) : ∃ so sc, (∀ w1, (Instr.slice 22 (.slice ao n cap) (some (.int .i64 (k : Int))) none none).run Try.prog w1 = .ok (.slice so (n - k) sc) w1) ∧ IntsV w (.slice so (n - k) sc) (l.drop k) := by
  obtain ⟨i0, hi, hz0, hz1, hz2⟩ := info_parts infoInt
  refine ⟨if cap = k then ao else ao.map (·.add k), cap - k, fun w1 => ?_, ?_⟩
  · rw [run_slice_l w1 22 ao n cap (by rw [elemInts]; exact Try.underlying22) .i64 (k : Int) (by omega) (by omega), elemInts]
    simp [sizeOf, typeInfo, hi, hz1, sliced, Result.andThen]
  · obtain ⟨ao', cap', e, ⟨h1, h2⟩, h3⟩ := hV
    injection e with e1 e2 e3
    subst e1 e3
    refine ⟨_, cap - k, by rw [List.length_drop, e2], ⟨by simp; omega, fun h => ?_⟩, fun hne => ?_⟩
    · by_cases hc : cap = k
      · rw [if_pos hc] at h
        obtain ⟨h4, h5⟩ := h2 h
        exact ⟨by omega, by rw [h5]; simp⟩
      · rw [if_neg hc] at h
        obtain ⟨h4, h5⟩ := h2 (by simpa using h)
        exact ⟨by omega, by rw [h5]; simp⟩
    · have hlt : k < l.length := by
        rcases Nat.lt_or_ge k l.length with h | h
        · exact h
        · exact absurd (List.drop_eq_nil_of_le h) hne
      obtain ⟨b, off, rfl, hb, hat⟩ := h3 (by rintro rfl; simp at hlt)
      refine ⟨b, off + k, ?_, hb, fun i hi => ?_⟩
      · rw [if_neg (by omega)]
        simp [add_plain]
      · rw [List.length_drop] at hi
        rw [show off + k + i = off + (k + i) by omega, hat (k + i) (by omega)]
        simp [List.getD_eq_getElem?_getD]
theorem getD_drop {α : Type} (l : List α) (k i : Nat) (d : α) : (l.drop k).getD i d = l.getD (k + i) d := by simp [List.getD_eq_getElem?_getD]
theorem getD_take {α : Type} {l : List α} {k i : Nat} (d : α) (h : i < k) : (l.take k).getD i d = l.getD i d := by simp [List.getD_eq_getElem?_getD, h]
/-- rs[k:]. -/
theorem slice_lo {w : World} {ao : Option Addr} {n cap k : Nat} {rs : List (List Int)} (hV : LisV w (.slice ao n cap) rs) (hk : k ≤ n) : ∃ so sc, (∀ w1, (Instr.slice 23 (.slice ao n cap) (some (.int .i64 (k : Int))) none none).run Try.prog w1 = .ok (.slice so (n - k) sc) w1) ∧ LisV w (.slice so (n - k) sc) (rs.drop k) := by
  obtain ⟨i0, hi, hz0, hz1, hz2⟩ := info_parts infoInts
  refine ⟨if cap = k then ao else ao.map (·.add k), cap - k, fun w1 => ?_, ?_⟩
  · rw [run_slice_l w1 23 ao n cap (by rw [elemLists]; exact Try.underlying23) .i64 (k : Int) (by omega) (by omega), elemLists]
    simp [sizeOf, typeInfo, hi, hz1, sliced, Result.andThen]
  · obtain ⟨us, ao', cap', e, ⟨h1, h2⟩, hul, hu, h3⟩ := hV
    injection e with e1 e2 e3
    subst e1 e3
    refine ⟨us.drop k, _, cap - k, by rw [List.length_drop, e2], ⟨by simp; omega, fun h => ?_⟩, by simp [hul], fun i hi => ?_, fun hne => ?_⟩
    · by_cases hc : cap = k
      · rw [if_pos hc] at h
        obtain ⟨h4, h5⟩ := h2 h
        exact ⟨by omega, by rw [h5]; simp⟩
      · rw [if_neg hc] at h
        obtain ⟨h4, h5⟩ := h2 (by simpa using h)
        exact ⟨by omega, by rw [h5]; simp⟩
    · rw [List.length_drop] at hi
      rw [getD_drop, getD_drop]
      exact hu (k + i) (by omega)
    · have hlt : k < rs.length := by
        rcases Nat.lt_or_ge k rs.length with h | h
        · exact h
        · exact absurd (List.drop_eq_nil_of_le h) hne
      obtain ⟨b, off, rfl, hb, hat⟩ := h3 (by rintro rfl; simp at hlt)
      refine ⟨b, off + k, ?_, hb, fun i hi => ?_⟩
      · rw [if_neg (by omega)]
        simp [add_plain]
      · rw [List.length_drop] at hi
        rw [show off + k + i = off + (k + i) by omega, hat (k + i) (by omega), getD_drop]
/-- rs[:k]. -/
theorem slice_hi {w : World} {ao : Option Addr} {n cap k : Nat} {rs : List (List Int)} (hV : LisV w (.slice ao n cap) rs) (hk : k ≤ n) : ∃ so sc, (∀ w1, (Instr.slice 23 (.slice ao n cap) none (some (.int .i64 (k : Int))) none).run Try.prog w1 = .ok (.slice so k sc) w1) ∧ LisV w (.slice so k sc) (rs.take k) := by
  obtain ⟨i0, hi, hz0, hz1, hz2⟩ := info_parts infoInts
  obtain ⟨us, ao', cap', e, ⟨h1, h2⟩, hul, hu, h3⟩ := hV
  injection e with e1 e2 e3
  subst e1 e3
  refine ⟨if cap = 0 then ao else ao.map (·.add 0), cap, fun w1 => ?_, ?_⟩
  · rw [run_slice_h w1 23 ao n cap (by rw [elemLists]; exact Try.underlying23) .i64 (k : Int) (by omega) (by omega), elemLists]
    simp [sizeOf, typeInfo, hi, hz1, sliced, Result.andThen]
  · have hlk : (rs.take k).length = k := by rw [List.length_take]; omega
    refine ⟨us.take k, _, cap, by rw [hlk], ⟨by rw [hlk]; omega, fun h => ?_⟩, by rw [List.length_take, List.length_take, hul], fun i hi => ?_, fun hne => ?_⟩
    · by_cases hc : cap = 0
      · rw [if_pos hc] at h
        obtain ⟨h4, h5⟩ := h2 h
        exact ⟨h4, by rw [h5]; simp⟩
      · rw [if_neg hc] at h
        obtain ⟨h4, h5⟩ := h2 (by simpa using h)
        exact ⟨h4, by rw [h5]; simp⟩
    · rw [hlk] at hi
      rw [getD_take _ hi, getD_take _ hi]
      exact hu i (by omega)
    · have hlt : 0 < k := by
        rcases Nat.eq_zero_or_pos k with h | h
        · subst h; simp at hne
        · exact h
      obtain ⟨b, off, rfl, hb, hat⟩ := h3 (by rintro rfl; simp at hne)
      refine ⟨b, off, ?_, hb, fun i hi => ?_⟩
      · rw [if_neg (by omega)]
        simp [add_plain]
      · rw [hlk] at hi
        rw [hat i (by omega), getD_take _ hi]

section
variable {P : Program} {w : World}
theorem run_app0 (t ty e : TypeId) (i : TypeInfo) (ht : P.underlying t = some (.slice e)) (hi : P.info? e = some i) (so : Option Addr) (sc : Nat) :
    (Builtin.append_ #[t, t] ty #[.slice none 0 0, .slice so 0 sc]).run P w = .ok (.slice none 0 0) w := by
  cases so with
  | none => simp [Builtin.append_, run_underlying ht, sizeOf, typeInfo, hi, Builtin.lenOf, Builtin.firstCells]
  | some a => simp [Builtin.append_, run_underlying ht, sizeOf, typeInfo, hi, Builtin.lenOf, Builtin.firstCells, loadCells, loadCellsFrom]
theorem run_appz (t ty e : TypeId) (i : TypeInfo) (ht : P.underlying t = some (.slice e)) (hi : P.info? e = some i) (v : Value) (g n cap : Nat) (hv : v = .slice (some ⟨g, 0, none⟩) n cap) (so : Option Addr) (sc : Nat) (hnc : n ≤ cap) :
    (Builtin.append_ #[t, t] ty #[v, .slice so 0 sc]).run P w = .ok v w := by
  subst hv
  cases so with
  | none => simp [Builtin.append_, run_underlying ht, sizeOf, typeInfo, hi, Builtin.lenOf, Builtin.firstCells, hnc, storeCells]
  | some a => simp [Builtin.append_, run_underlying ht, sizeOf, typeInfo, hi, Builtin.lenOf, Builtin.firstCells, loadCells, loadCellsFrom, hnc, storeCells]
end
section
variable {w : World}
/-- numbers appended to an own row: whatever lies in either. -/
theorem run_append_i (ty : TypeId) (base n cap : Nat) (vo : Option Addr) (xs : List Value) (hown : w.ownsRow base 3 1 (.slice vo n cap) n xs) (so : Option Addr) (m c : Nat) (l : List Int) (hV : IntsV w (.slice so m c) l) (hsz : (n + m) * 8 ≤ 140737488355328) (hbase : base ≤ w.heap.size) :
    ∃ vo' cap' w', (Builtin.append_ #[22, 22] ty #[.slice vo n cap, .slice so m c]).run Try.prog w = .ok (.slice vo' (n + m) cap') w' ∧ w'.ownsRow base 3 1 (.slice vo' (n + m) cap') (n + m) (xs ++ ivals l) ∧ w.grownBy w' (Value.slice vo n cap).ownBlock := by
  obtain ⟨i0, hi, hz0, hz1, hz2⟩ := info_parts infoInt
  obtain ⟨so', c', e1, ⟨hlc, hnone⟩, hat⟩ := id hV
  injection e1 with e1 e2 e3
  subst e1 e2 e3
  by_cases hl : l = []
  · subst hl
    rcases hown.2 with ⟨hv, h0⟩ | ⟨g, cap', cur, hv, _, _, hnc, _⟩
    · injection hv with h1 h2 h3
      subst h1 h2 h3
      exact ⟨none, 0, w, run_app0 22 ty 3 i0 Try.underlying22 hi so c, by simpa [ivals] using hown, World.grownBy.refl _ _⟩
    · injection hv with h1 h2 h3
      subst h1 h3
      exact ⟨_, cap, w, run_appz 22 ty 3 i0 Try.underlying22 hi _ g n cap rfl so c hnc, by simpa [ivals] using hown, World.grownBy.refl _ _⟩
  · obtain ⟨b, off, rfl, hbl, hba⟩ := hat hl
    obtain ⟨g, cap', w', h1, h2, h3, _, _⟩ := run_append_lies (P := Try.prog) w 22 ty base 3 i0 (.int .i64 0) 1 8 Try.underlying22 hi hz0 hz1 hz2 rfl (by decide) _ n xs hown ⟨b, off, none⟩ l.length c (ivals l) (by rw [ivals_length]; omega) hba.cells (ivals_one l) (List.length_pos_iff.2 hl) (by unfold maxLen; omega) hsz hbase _ rfl
    exact ⟨_, cap', w', h1, h2, h3⟩
theorem wp_append_i {o : Oper} {a : Act} {K : Act → World → Prop} {Q : Exit → Act → World → Prop} (s x : Operand)
    (ho : o.op = .call { callee := .builtin .append, args := #[s, x], argTypes := #[22, 22] })
    (base n cap : Nat) (vo : Option Addr) (xs : List Value) (hs : a.eval s = .slice vo n cap) (hown : w.ownsRow base 3 1 (.slice vo n cap) n xs) (so : Option Addr) (m c : Nat) (l : List Int) (hx : a.eval x = .slice so m c) (hV : IntsV w (.slice so m c) l)
    (hsz : (n + m) * 8 ≤ 140737488355328) (hbase : base ≤ w.heap.size)
    (h : ∀ vo' cap' w', w'.ownsRow base 3 1 (.slice vo' (n + m) cap') (n + m) (xs ++ ivals l) → w.grownBy w' (Value.slice vo n cap).ownBlock → K (a.put o.dst (.slice vo' (n + m) cap')) w') : o.wp Try.prog a w K Q := by
  obtain ⟨vo', cap', w', hr, h2, h3⟩ := run_append_i o.type base n cap vo xs hown so m c l hV hsz hbase
  unfold Oper.wp execOp
  simp only [ho, resolve, invoke, builtin, Sem.run_bind, Sem.run_pure, Result.andThen_ok, List.map_toArray, List.map_cons, List.map_nil, hs, hx, hr]
  exact h vo' cap' w' h2 h3
theorem wpList_append_i {ops : Array Oper} {rest : List Oper} {o : Oper} {a : Act} {Q : Exit → Act → World → Prop} (hgd : o.guard = none) (s x : Operand)
    (ho : o.op = .call { callee := .builtin .append, args := #[s, x], argTypes := #[22, 22] })
    (base n cap : Nat) (vo : Option Addr) (xs : List Value) (hs : a.eval s = .slice vo n cap) (hown : w.ownsRow base 3 1 (.slice vo n cap) n xs) (so : Option Addr) (m c : Nat) (l : List Int) (hx : a.eval x = .slice so m c) (hV : IntsV w (.slice so m c) l)
    (hsz : (n + m) * 8 ≤ 140737488355328) (hbase : base ≤ w.heap.size)
    (h : ∀ vo' cap' w', w'.ownsRow base 3 1 (.slice vo' (n + m) cap') (n + m) (xs ++ ivals l) → w.grownBy w' (Value.slice vo n cap).ownBlock → wpList Try.prog ops Q rest (a.put o.dst (.slice vo' (n + m) cap')) w') : wpList Try.prog ops Q (o :: rest) a w :=
  wpList_plain hgd fun _ hK => wp_append_i s x ho base n cap vo xs hs hown so m c l hx hV hsz hbase fun vo' cap' w' h1 h2 => hK _ _ (h vo' cap' w' h1 h2)
theorem step_append_i {ops : Array Oper} {o : Oper} {a : Act} {K : Act → World → Prop} {Q : Exit → Act → World → Prop} {E : Prop} (hgd : o.guard = none) (s x : Operand)
    (ho : o.op = .call { callee := .builtin .append, args := #[s, x], argTypes := #[22, 22] })
    (base n cap : Nat) (vo : Option Addr) (xs : List Value) (hs : a.eval s = .slice vo n cap) (hown : w.ownsRow base 3 1 (.slice vo n cap) n xs) (so : Option Addr) (m c : Nat) (l : List Int) (hx : a.eval x = .slice so m c) (hV : IntsV w (.slice so m c) l)
    (hsz : (n + m) * 8 ≤ 140737488355328) (hbase : base ≤ w.heap.size)
    (h : ∀ vo' cap' w', w'.ownsRow base 3 1 (.slice vo' (n + m) cap') (n + m) (xs ++ ivals l) → w.grownBy w' (Value.slice vo n cap).ownBlock → K (a.put o.dst (.slice vo' (n + m) cap')) w') :
    if Region.wanted o (yielded ops a.tmps) = true then Oper.wp Try.prog o a w K Q else E := by
  have hw : Region.wanted o (yielded ops a.tmps) = true := by simp [Region.wanted, hgd]
  rw [if_pos hw]
  exact wp_append_i s x ho base n cap vo xs hs hown so m c l hx hV hsz hbase h
end
end Go.Proofs.Ytncfkpfbjenpjaa
