/-
  Rules that are copied and put together anew: how they lie; literals; operations of a region in whatever order.
-/
import Derived.Test.YtipleacacfejcaaDoorKeepMore
import Derived.Test.YtipleacacfejcaaDoorAnyway
import Derived.Deep.AppendLies
namespace Go.Proofs.YtipleacacfejcaaDoor
open Go.ChangeShapes Go.WideShapes Go.ChangeAt Go.RowKit Go.Deep
open Terms Tm

/-- the cells of rules, by their two slices. -/
def ruFlat (l : List (Value × Value)) : List Value := l.flatMap fun p => [p.1, p.2]
def pr0 : Value × Value := (.nilIface, .nilIface)
set_option maxRecDepth 20000 in
theorem ruFlat_length : ∀ l : List (Value × Value), (ruFlat l).length = l.length * 2
  | [] => rfl
  | p :: l => by
    have : ruFlat (p :: l) = [p.1, p.2] ++ ruFlat l := rfl
    rw [this, List.length_append, ruFlat_length l]; simp; omega
set_option maxRecDepth 20000 in
theorem ruFlat_at : ∀ (l : List (Value × Value)) (j : Nat), j < l.length → (ruFlat l)[j * 2]? = some (l.getD j pr0).1 ∧ (ruFlat l)[j * 2 + 1]? = some (l.getD j pr0).2
  | [], j, h => by simp at h
  | p :: l, 0, _ => ⟨rfl, rfl⟩
  | p :: l, j + 1, h => by
    have := ruFlat_at l j (by simpa using h)
    rw [show (j + 1) * 2 = j * 2 + 1 + 1 by omega]
    exact this
/-- each rule's two slices. -/
structure RuPairs (w : World) (l : List (Value × Value)) (rules : List Ru) : Prop where
  len : l.length = rules.length
  g : ∀ i, i < rules.length → OpsV w (l.getD i pr0).1 (rules.getD i ru0).guard
  s : ∀ i, i < rules.length → SetsV w (l.getD i pr0).2 (rules.getD i ru0).sets
set_option maxRecDepth 20000 in
theorem RuPairs.below {w w' : World} {l : List (Value × Value)} {rules : List Ru} (h : RuPairs w l rules) (hb : Below w.heap.size w w') : RuPairs w' l rules :=
  ⟨h.len, fun i hi => (h.g i hi).below hb, fun i hi => (h.s i hi).below hb⟩
set_option maxRecDepth 20000 in
theorem RuPairs.app {w : World} {l l2 : List (Value × Value)} {r r2 : List Ru} (h : RuPairs w l r) (h2 : RuPairs w l2 r2) : RuPairs w (l ++ l2) (r ++ r2) := by
  have e := h.len
  have key : ∀ i, i < (r ++ r2).length → (i < r.length ∧ (l ++ l2).getD i pr0 = l.getD i pr0 ∧ (r ++ r2).getD i ru0 = r.getD i ru0) ∨ (∃ k, k < r2.length ∧ (l ++ l2).getD i pr0 = l2.getD k pr0 ∧ (r ++ r2).getD i ru0 = r2.getD k ru0) := fun i hi => by
    by_cases hlt : i < r.length
    · left
      refine ⟨hlt, ?_, ?_⟩
      · rw [List.getD_eq_getElem?_getD, List.getD_eq_getElem?_getD, List.getElem?_append_left (by omega)]
      · rw [List.getD_eq_getElem?_getD, List.getD_eq_getElem?_getD, List.getElem?_append_left hlt]
    · right
      refine ⟨i - r.length, by rw [List.length_append] at hi; omega, ?_, ?_⟩
      · rw [List.getD_eq_getElem?_getD, List.getD_eq_getElem?_getD, List.getElem?_append_right (by omega), e]
      · rw [List.getD_eq_getElem?_getD, List.getD_eq_getElem?_getD, List.getElem?_append_right (by omega)]
  refine ⟨by rw [List.length_append, List.length_append, h.len, h2.len], fun i hi => ?_, fun i hi => ?_⟩
  · rcases key i hi with ⟨h3, h4, h5⟩ | ⟨k, h3, h4, h5⟩
    · rw [h4, h5]; exact h.g i h3
    · rw [h4, h5]; exact h2.g k h3
  · rcases key i hi with ⟨h3, h4, h5⟩ | ⟨k, h3, h4, h5⟩
    · rw [h4, h5]; exact h.s i h3
    · rw [h4, h5]; exact h2.s k h3
set_option maxRecDepth 20000 in
theorem RuPairs.nil (w : World) : RuPairs w [] [] := ⟨rfl, fun i hi => by simp at hi, fun i hi => by simp at hi⟩
set_option maxRecDepth 20000 in
theorem RuPairs.cons {w : World} {x y : Value} {l : List (Value × Value)} {r : Ru} {rs : List Ru} (hg : OpsV w x r.guard) (hs : SetsV w y r.sets) (h : RuPairs w l rs) : RuPairs w ((x, y) :: l) (r :: rs) := by
  refine ⟨by simp [h.len], fun i hi => ?_, fun i hi => ?_⟩
  · match i, hi with
    | 0, _ => exact hg
    | i + 1, hi => exact h.g i (by simpa using hi)
  · match i, hi with
    | 0, _ => exact hs
    | i + 1, hi => exact h.s i (by simpa using hi)
set_option maxRecDepth 20000 in
theorem ruFlat_app (l l2 : List (Value × Value)) : ruFlat (l ++ l2) = ruFlat l ++ ruFlat l2 := by simp [ruFlat]
set_option maxRecDepth 20000 in
theorem opsV_slice {w : World} {v : Value} {l : List (Int × Int)} (h : OpsV w v l) : ∃ ao c, v = .slice ao l.length c := by
  obtain ⟨ao, c, rfl, _⟩ := h; exact ⟨ao, c, rfl⟩
set_option maxRecDepth 20000 in
theorem setsV_slice {w : World} {v : Value} {l : List St} (h : SetsV w v l) : ∃ ao c, v = .slice ao l.length c := by
  obtain ⟨ao, c, rfl, _⟩ := h; exact ⟨ao, c, rfl⟩
set_option maxRecDepth 20000 in
theorem RuPairs.one {w : World} {l : List (Value × Value)} {rules : List Ru} (h : RuPairs w l rules) : ∀ u ∈ ruFlat l, u.oneCell' = true := by
  intro u hu
  unfold ruFlat at hu
  obtain ⟨p, hp, hu⟩ := List.mem_flatMap.1 hu
  obtain ⟨i, hi, he⟩ := List.getElem_of_mem hp
  have hg := h.g i (by rw [← h.len]; exact hi)
  have hs := h.s i (by rw [← h.len]; exact hi)
  rw [List.getD_eq_getElem?_getD, List.getElem?_eq_getElem hi] at hg hs
  simp only [Option.getD_some, he] at hg hs
  simp only [List.mem_cons, List.not_mem_nil, or_false] at hu
  rcases hu with rfl | rfl
  · obtain ⟨_, _, e⟩ := opsV_slice hg; rw [e]; rfl
  · obtain ⟨_, _, e⟩ := setsV_slice hs; rw [e]; rfl
set_option maxRecDepth 20000 in
/-- a model's rules, as their two slices each. -/
theorem rules_pairs {W : World} {ro : Option Addr} {rn rc : Nat} {rules : List Ru} (h : RulesV W (.slice ro rn rc) rules) : ∃ l, RuPairs W l rules ∧ rules.length = rn ∧ (ro = none → rc = 0 ∧ rn = 0) ∧ ∀ w', Below W.heap.size W w' → ∀ ad, ro = some ad → ∀ j u, (ruFlat l)[j]? = some u → w'.cell? (ad.add j) = some u := by
  obtain ⟨ao, cap, e, h1, h2⟩ := h
  injection e with e1 e2 e3
  subst e1 e2 e3
  by_cases hp : 0 < rules.length
  · obtain ⟨rb, roff, rfl, hb, hc⟩ := h2 hp
    have hcell : ∀ i, i < rules.length → ∃ x y, W.cell? ⟨rb, roff + i * 2, none⟩ = some x ∧ W.cell? ⟨rb, roff + i * 2 + 1, none⟩ = some y ∧ OpsV W x (rules.getD i ru0).guard ∧ SetsV W y (rules.getD i ru0).sets := fun i hi => by
      obtain ⟨⟨u, h3, h4⟩, u', h5, h6⟩ := hc i hi
      exact ⟨u, u', h3, h5, h4, h6⟩
    let f : Nat → Value × Value := fun i => ((W.cell? ⟨rb, roff + i * 2, none⟩).getD .nilIface, (W.cell? ⟨rb, roff + i * 2 + 1, none⟩).getD .nilIface)
    have hf : ∀ i, i < rules.length → ((List.range rules.length).map f).getD i pr0 = f i := fun i hi => by
      rw [List.getD_eq_getElem?_getD, List.getElem?_map, List.getElem?_range hi]; rfl
    refine ⟨(List.range rules.length).map f, ⟨by simp, fun i hi => ?_, fun i hi => ?_⟩, rfl, (fun h => by cases h), fun w' hbw ad he j u hj => ?_⟩
    · rw [hf i hi]
      obtain ⟨x, y, h3, h4, h5, h6⟩ := hcell i hi
      show OpsV W ((W.cell? ⟨rb, roff + i * 2, none⟩).getD .nilIface) _
      rw [h3]; exact h5
    · rw [hf i hi]
      obtain ⟨x, y, h3, h4, h5, h6⟩ := hcell i hi
      show SetsV W ((W.cell? ⟨rb, roff + i * 2 + 1, none⟩).getD .nilIface) _
      rw [h4]; exact h6
    · injection he with he
      subst he
      have hjl : j < (ruFlat ((List.range rules.length).map f)).length := by
        rcases Nat.lt_or_ge j (ruFlat ((List.range rules.length).map f)).length with h | h
        · exact h
        · rw [List.getElem?_eq_none h] at hj; cases hj
      rw [ruFlat_length] at hjl
      have hlen : ((List.range rules.length).map f).length = rules.length := by simp
      have hadd : (⟨rb, roff, none⟩ : Addr).add j = ⟨rb, roff + j, none⟩ := by simp [Addr.add]
      rw [hadd, hbw.cell (p := ⟨rb, roff + j, none⟩) hb]
      have hk : j / 2 < rules.length := by omega
      obtain ⟨q1, q2⟩ := ruFlat_at ((List.range rules.length).map f) (j / 2) (by omega)
      obtain ⟨x, y, h3, h4, _, _⟩ := hcell (j / 2) hk
      rw [hf _ hk] at q1 q2
      rcases Nat.mod_two_eq_zero_or_one j with hm | hm
      · have hjj : j / 2 * 2 = j := by omega
        rw [hjj] at q1 h3
        rw [q1] at hj
        injection hj with hj
        rw [← hj, h3]
        show some x = some ((W.cell? ⟨rb, roff + j / 2 * 2, none⟩).getD .nilIface)
        rw [hjj, h3]; rfl
      · have hjj : j / 2 * 2 + 1 = j := by omega
        rw [hjj] at q2
        rw [show roff + j / 2 * 2 + 1 = roff + j by omega] at h4
        rw [q2] at hj
        injection hj with hj
        rw [← hj, h4]
        show some y = some ((W.cell? ⟨rb, roff + j / 2 * 2 + 1, none⟩).getD .nilIface)
        rw [show roff + j / 2 * 2 + 1 = roff + j by omega, h4]; rfl
  · have h0 : rules = [] := List.length_eq_zero_iff.1 (by omega)
    subst h0
    exact ⟨[], RuPairs.nil _, rfl, h1.2, fun w' _ ad _ j u hj => by simp [ruFlat] at hj⟩
set_option maxRecDepth 20000 in
theorem pairs_rules {w : World} {base n : Nat} {v : Value} {l : List (Value × Value)} {rules : List Ru} (h : w.ownsRow base 42 2 v n (ruFlat l)) (hn : n = rules.length) (hp : RuPairs w l rules) : RulesV w v rules := by
  subst hn
  rcases h.2 with ⟨rfl, h0⟩ | ⟨g, cap, cur, rfl, hb, hg, hnc, hcm, hcs, htake⟩
  · exact ⟨none, 0, by rw [h0], ⟨by omega, fun _ => ⟨rfl, h0⟩⟩, fun h => by omega⟩
  · refine ⟨_, cap, rfl, ⟨hnc, fun h => by simp at h⟩, fun _ => ⟨g, 0, rfl, (Array.getElem?_eq_some_iff.1 hg).1, fun i hi => ?_⟩⟩
    obtain ⟨f0, f1⟩ := ruFlat_at l i (by rw [hp.len]; exact hi)
    refine ⟨⟨_, ?_, hp.g i hi⟩, _, ?_, hp.s i hi⟩
    · rw [Nat.zero_add, h.cellAt _ (by omega)]; exact f0
    · rw [Nat.zero_add, h.cellAt _ (by omega)]; exact f1

set_option maxRecDepth 20000 in
/-- an operation that makes a value. -/
theorem op_val {P : Program} {o : Oper} {a : Act} {w w' : World} {v : Value} {post : Value → World → Prop} {Q : Exit → Act → World → Prop} (hr : (execOp a.eval o).run P w = .ok (.value v) w') (hb : Below w.heap.size w w') (hp : post v w') : Oper.wp P o a w (fun a' w' => ∃ v, a' = a.put o.dst v ∧ Below w.heap.size w w' ∧ post v w') Q := by
  unfold Oper.wp
  rw [hr]
  exact ⟨v, rfl, hb, hp⟩
set_option maxRecDepth 20000 in
/-- an operation that calls a function. -/
theorem op_call {P : Program} {o : Oper} {a : Act} {w : World} {f : FuncId} {args : Array Value} {post : Value → World → Prop} {Q : Exit → Act → World → Prop} (hr : (execOp a.eval o).run P w = .ok (.enter f args) w) (hc : Calls P f args w fun e w' => ∃ v, e = .returned v ∧ Below w.heap.size w w' ∧ post v w') : Oper.wp P o a w (fun a' w' => ∃ v, a' = a.put o.dst v ∧ Below w.heap.size w w' ∧ post v w') Q := by
  unfold Oper.wp
  rw [hr]
  refine hc.mono ?_
  rintro e w' ⟨v, rfl, hb, hp⟩
  exact ⟨v, rfl, hb, hp⟩
set_option maxRecDepth 20000 in
/-- an operation at its place. -/
theorem op_at {P : Program} {ops : Array Oper} {Q : Exit → Act → World → Prop} {i : Nat} {K : Act → World → Prop} {a : Act} {w : World} {o : Oper} (ho : ops[i]? = some o) (hg : o.guard = none) (h : o.wp P a w K Q) : wpOp P ops Q i K a w := by
  unfold wpOp
  rw [ho]
  show if Region.wanted o (yielded ops a.tmps) = true then _ else _
  rw [if_pos (by unfold Region.wanted; rw [hg])]
  exact .inl h
set_option maxRecDepth 20000 in
theorem late_put {a : Act} {ds : List Nat} {q : Nat → Value} {o : Oper} {v : Value} (t : Nat) (hd : o.dst = some t) (hc : ds.contains t = true) : (frm a ds q).put o.dst v = frm a ds (setV q t v) := by rw [hd, frm_put hc]
set_option maxRecDepth 20000 in
theorem op_run {P : Program} {o : Oper} {a : Act} {w w' : World} {v : Value} {K : Act → World → Prop} {Q : Exit → Act → World → Prop} (hr : (execOp a.eval o).run P w = .ok (.value v) w') (h : K (a.put o.dst v) w') : Oper.wp P o a w K Q := by
  unfold Oper.wp
  rw [hr]
  exact h
set_option maxRecDepth 20000 in
theorem op_skip {P : Program} {o : Oper} {a : Act} {w w' : World} {K : Act → World → Prop} {Q : Exit → Act → World → Prop} (hd : o.dst = none) (hr : (execOp a.eval o).run P w = .ok .skip w') (h : K a w') : Oper.wp P o a w K Q := by
  unfold Oper.wp
  rw [hr]
  show K (a.put o.dst undef) w'
  rw [hd]
  exact h
set_option maxRecDepth 20000 in
/-- append([]T(nil), l...), at the operation. -/
theorem wp_copy {P : Program} {w : World} {o : Oper} {a : Act} {K : Act → World → Prop} {Q : Exit → Act → World → Prop} (s x : Operand) (t : TypeId)
    (ho : o.op = .call { callee := .builtin .append, args := #[s, x], argTypes := #[t, t] })
    (base : Nat) (e : TypeId) (i : TypeInfo) (z : Value) (size bytes : Nat) (ht : P.underlying t = some (.slice e)) (hi : P.info? e = some i) (hz : i.zero = some z)
    (hsize : i.size = size) (hby : i.bytes = bytes) (hzs : z.cells.size = size) (hsz : 0 < size) (hs : a.eval s = .slice none 0 0)
    (ao : Option Addr) (m c : Nat) (news : List Value) (hx : a.eval x = .slice ao m c) (hno : ao = none → c = 0 ∧ m = 0) (hl : news.length = m * size) (hnews : ∀ ad, ao = some ad → ∀ j u, news[j]? = some u → w.cell? (ad.add j) = some u) (h1 : ∀ u ∈ news, u.oneCell' = true)
    (h63 : m ≤ maxLen) (hbytes : m * bytes ≤ 140737488355328) (hbase : base ≤ w.heap.size)
    (h : ∀ v' w', w'.ownsRow base e size v' m news → w.grownBy w' none → K (a.put o.dst v') w') : o.wp P a w K Q := by
  cases ao with
  | none =>
    obtain ⟨rfl, rfl⟩ := hno rfl
    have : news = [] := List.length_eq_zero_iff.1 (by simpa using hl)
    subst this
    have hrun := run_append_owned_none (P := P) (w := w) base t o.type e i size ht hi (.slice none 0 0) 0 [] (World.ownsRow_nil _ _ _ _)
    unfold Oper.wp
    simp [execOp, ho, resolve, invoke, builtin, hs, hx, hrun, Result.andThen]
    exact h _ _ (World.ownsRow_nil _ _ _ _) (World.grownBy.refl _ _)
  | some ad =>
    exact wp_append_own w s x t ho base e i z size bytes ht hi hz hsize hby hzs hsz _ _ _ hs (World.ownsRow_nil _ _ _ _) ad m c news hx hl (hnews ad rfl) h1 (by omega) (by simpa using hbytes) hbase (fun v' w' h2 h3 _ => h v' w' (by simpa using h2) h3)
set_option maxRecDepth 20000 in
theorem below_of_grown {w w' : World} (h : w.grownBy w' none) : Below w.heap.size w w' := ⟨h.os, h.tape, h.output, h.size, fun k hk => h.block k hk (by intro e; cases e)⟩
set_option maxRecDepth 20000 in
theorem heap_new (w : World) (o : Obj) : (w.alloc o).heap[w.heap.size]? = some o := by
  show (w.heap.push o)[w.heap.size]? = some o
  simp
set_option maxRecDepth 20000 in
/-- an op that is written out. -/
theorem ops_lit {w : World} {g : Nat} {k x : Int} {t : TypeId} {fr : Nat × Nat} (h : w.heap[g]? = some (.cells #[.int .i64 k, .int .i64 x] t fr)) : OpsV w (.slice (some ⟨g, 0, none⟩) 1 1) [(k, x)] := by
  have hlt : g < w.heap.size := (Array.getElem?_eq_some_iff.1 h).1
  refine ⟨_, 1, rfl, ⟨by simp, fun e => by cases e⟩, fun _ => ⟨g, 0, rfl, hlt, fun i hi => ?_⟩⟩
  have h0 : i = 0 := by simp at hi; omega
  subst h0
  constructor
  · simp [World.cell?, h]
  · simp [World.cell?, h]
set_option maxRecDepth 20000 in
theorem sets_nil (w : World) : SetsV w (.slice none 0 0) [] := ⟨none, 0, rfl, ⟨by simp, fun _ => ⟨rfl, rfl⟩⟩, fun h => by simp at h⟩
set_option maxRecDepth 20000 in
theorem sets_one {w : World} {g : Nat} {i : Int} {v : Value} {l : List (Int × Int)} {t : TypeId} {fr : Nat × Nat} (h : w.heap[g]? = some (.cells #[.int .i64 i, v] t fr)) (hv : OpsV w v l) : SetsV w (.slice (some ⟨g, 0, none⟩) 1 1) [⟨i, l⟩] := by
  have hlt : g < w.heap.size := (Array.getElem?_eq_some_iff.1 h).1
  refine ⟨_, 1, rfl, ⟨by simp, fun e => by cases e⟩, fun _ => ⟨g, 0, rfl, hlt, fun j hj => ?_⟩⟩
  have h0 : j = 0 := by simp at hj; omega
  subst h0
  exact ⟨by simp [World.cell?, h], v, by simp [World.cell?, h], hv⟩
set_option maxRecDepth 20000 in
theorem sets_two {w : World} {g : Nat} {i j : Int} {v u : Value} {l k : List (Int × Int)} {t : TypeId} {fr : Nat × Nat} (h : w.heap[g]? = some (.cells #[.int .i64 i, v, .int .i64 j, u] t fr)) (hv : OpsV w v l) (hu : OpsV w u k) : SetsV w (.slice (some ⟨g, 0, none⟩) 2 2) [⟨i, l⟩, ⟨j, k⟩] := by
  have hlt : g < w.heap.size := (Array.getElem?_eq_some_iff.1 h).1
  refine ⟨_, 2, rfl, ⟨by simp, fun e => by cases e⟩, fun _ => ⟨g, 0, rfl, hlt, fun n hn => ?_⟩⟩
  have h0 : n = 0 ∨ n = 1 := by simp at hn; omega
  rcases h0 with rfl | rfl
  · exact ⟨by simp [World.cell?, h], v, by simp [World.cell?, h], hv⟩
  · exact ⟨by simp [World.cell?, h], u, by simp [World.cell?, h], hu⟩
set_option maxRecDepth 20000 in
theorem heap_keep (w : World) (o : Obj) {b : Nat} {x : Obj} (h : w.heap[b]? = some x) : (w.alloc o).heap[b]? = some x :=
  (Below.heap_alloc w o b (Array.getElem?_eq_some_iff.1 h).1).trans h
set_option maxRecDepth 20000 in
theorem heap_grown {u w : World} {row : Option Nat} (hg : u.grownBy w row) {b : Nat} {x : Obj} (h : u.heap[b]? = some x) (hne : row ≠ some b) : w.heap[b]? = some x :=
  (hg.block b (Array.getElem?_eq_some_iff.1 h).1 (fun e => hne e.symm)).trans h
set_option maxRecDepth 20000 in
set_option maxHeartbeats 800000 in
theorem num_is (n : Int) (w : World) : Calls Tryd.prog 7 #[.int .i64 n] w fun e w' => e = .returned (.slice (some ⟨w.heap.size, 0, none⟩) 1 1) ∧ w' = w.alloc (.cells #[.int .i64 1, .int .i64 n] 35) := by
  go_enter Tryd.func7, Tryd.ntmps7
  go_wp2_with fail
  go_ret
  exact ⟨rfl, rfl⟩
end Go.Proofs.YtipleacacfejcaaDoor
