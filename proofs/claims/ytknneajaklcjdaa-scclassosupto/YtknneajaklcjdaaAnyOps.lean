/-
  Operations of a region, one by one; a region in its text's order, by what each operation leaves.
-/
import Derived.Test.YtknneajaklcjdaaAnyway
import Derived.Deep.AppendLies
import Derived.Laws.AppendOwnNone
namespace Go.Proofs.Ytknneajaklcjdaa
open Go.ChangeShapes Go.WideShapes Go.ChangeAt Go.RowKit Go.Deep

theorem op_val {P : Program} {o : Oper} {a : Act} {w w' : World} {v : Value} {post : Value → World → Prop} {Q : Exit → Act → World → Prop} (hr : (execOp a.eval o).run P w = .ok (.value v) w') (hb : Below w.heap.size w w') (hp : post v w') : Oper.wp P o a w (fun a' w' => ∃ v, a' = a.put o.dst v ∧ Below w.heap.size w w' ∧ post v w') Q := by
  unfold Oper.wp
  rw [hr]
  exact ⟨v, rfl, hb, hp⟩
theorem op_call {P : Program} {o : Oper} {a : Act} {w : World} {f : FuncId} {args : Array Value} {post : Value → World → Prop} {Q : Exit → Act → World → Prop} (hr : (execOp a.eval o).run P w = .ok (.enter f args) w) (hc : Calls P f args w fun e w' => ∃ v, e = .returned v ∧ Below w.heap.size w w' ∧ post v w') : Oper.wp P o a w (fun a' w' => ∃ v, a' = a.put o.dst v ∧ Below w.heap.size w w' ∧ post v w') Q := by
  unfold Oper.wp
  rw [hr]
  refine hc.mono ?_
  rintro e w' ⟨v, rfl, hb, hp⟩
  exact ⟨v, rfl, hb, hp⟩
theorem op_at {P : Program} {ops : Array Oper} {Q : Exit → Act → World → Prop} {i : Nat} {K : Act → World → Prop} {a : Act} {w : World} {o : Oper} (ho : ops[i]? = some o) (hg : o.guard = none) (h : o.wp P a w K Q) : wpOp P ops Q i K a w := by
  unfold wpOp
  rw [ho]
  show if Region.wanted o (yielded ops a.tmps) = true then _ else _
  rw [if_pos (by unfold Region.wanted; rw [hg])]
  exact .inl h
theorem late_put {a : Act} {ds : List Nat} {q : Nat → Value} {o : Oper} {v : Value} (t : Nat) (hd : o.dst = some t) (hc : ds.contains t = true) : (frm a ds q).put o.dst v = frm a ds (setV q t v) := by rw [hd, frm_put hc]
theorem op_run {P : Program} {o : Oper} {a : Act} {w w' : World} {v : Value} {K : Act → World → Prop} {Q : Exit → Act → World → Prop} (hr : (execOp a.eval o).run P w = .ok (.value v) w') (h : K (a.put o.dst v) w') : Oper.wp P o a w K Q := by
  unfold Oper.wp
  rw [hr]
  exact h
theorem op_skip {P : Program} {o : Oper} {a : Act} {w w' : World} {K : Act → World → Prop} {Q : Exit → Act → World → Prop} (hd : o.dst = none) (hr : (execOp a.eval o).run P w = .ok .skip w') (h : K a w') : Oper.wp P o a w K Q := by
  unfold Oper.wp
  rw [hr]
  show K (a.put o.dst undef) w'
  rw [hd]
  exact h
theorem wp_copy {P : Program} {w : World} {o : Oper} {a : Act} {K : Act → World → Prop} {Q : Exit → Act → World → Prop} (s x : Operand) (t : TypeId)
    (ho : o.op = .call { callee := .builtin .append, args := #[s, x], argTypes := #[t, t] })
    (base : Nat) (e : TypeId) (i : TypeInfo) (z : Value) (size bytes : Nat) (ht : P.underlying t = some (.slice e)) (hi : P.info? e = some i) (hz : i.zero = some z)
    (hsize : i.size = size) (hby : i.bytes = bytes) (hzs : z.cells.size = size) (hsz : 0 < size) (hs : a.eval s = .slice none 0 0)
    (ao : Option Addr) (m c : Nat) (news : List Value) (hx : a.eval x = .slice ao m c) (hno : ao = none → c = 0 ∧ m = 0) (hl : news.length = m * size) (hnews : ∀ ad, ao = some ad → ∀ j u, news[j]? = some u → w.cell? (ad.add j) = some u) (h1 : ∀ u ∈ news, u.oneCell' = true)
    (h63 : m ≤ maxLen) (hbytes : m * bytes ≤ 140737488355328) (hbase : base ≤ w.heap.size)
    (h : ∀ v' w', w'.ownsRow base e size v' m news → w.grownBy w' none → K (a.put o.dst v') w') : o.wp P a w K Q := by
  cases ao with
  | none =>
    obtain ⟨rfl, rfl⟩ := hno rfl
    have : news = [] := List.length_eq_zero_iff.1 (by simpa using hl)
    subst this
    have hrun := run_append_owned_none (P := P) (w := w) base t o.type e i size ht hi (.slice none 0 0) 0 [] (World.ownsRow_nil _ _ _ _)
    unfold Oper.wp
    simp [execOp, ho, resolve, invoke, builtin, hs, hx, hrun, Result.andThen]
    exact h _ _ (World.ownsRow_nil _ _ _ _) (World.grownBy.refl _ _)
  | some ad =>
    exact wp_append_own w s x t ho base e i z size bytes ht hi hz hsize hby hzs hsz _ _ _ hs (World.ownsRow_nil _ _ _ _) ad m c news hx hl (hnews ad rfl) h1 (by omega) (by simpa using hbytes) hbase (fun v' w' h2 h3 _ => h v' w' (by simpa using h2) h3)
theorem below_of_grown {w w' : World} (h : w.grownBy w' none) : Below w.heap.size w w' := ⟨h.os, h.tape, h.output, h.size, fun k hk => h.block k hk (by intro e; cases e)⟩
theorem heap_new (w : World) (o : Obj) : (w.alloc o).heap[w.heap.size]? = some o := by
  show (w.heap.push o)[w.heap.size]? = some o
  simp
/-- A REGION IN ITS TEXT'S ORDER, by what each of the first m operations leaves. -/
theorem wp_inorder {P : Program} {id : Nat} {ops : Array Oper} {Q : Exit → Act → World → Prop} {a0 : Act} {w0 : World} (ds : List Nat) (m : Nat) (post : Nat → Value → World → Prop)
    (hsh : shapeOk ops ds a0.tmps.size m = true)
    (stable : ∀ i v w w', i < m → post i v w → Below w.heap.size w w' → post i v w')
    (step : ∀ (i : Nat) (o : Oper), i < m → ops[i]? = some o → ∀ q w, Below w0.heap.size w0 w → (∀ k t, waits ops i k = true → dstOf ops k = some t → post k (q t) w) → Oper.wp P o (frm a0 ds q) w (fun a' w' => ∃ v, a' = (frm a0 ds q).put o.dst v ∧ Below w.heap.size w w' ∧ post i v w') Q)
    (last : ∀ q w, Below w0.heap.size w0 w → (∀ i t, i < m → dstOf ops i = some t → post i (q t) w) → wpOps P ops Q ((List.range' m (ops.size - m))) (frm a0 ds q) w) :
    (Code.region id ops false).wp P Q a0 w0 := by
  have hs := shape_of hsh
  refine wp_region ?_
  have key : ∀ k i q w, i + k = m → Below w0.heap.size w0 w → (∀ j t, j < i → dstOf ops j = some t → post j (q t) w) → wpOps P ops Q (List.range' i (ops.size - i)) (frm a0 ds q) w := by
    intro k
    induction k with
    | zero =>
      intro i q w hik hb hp
      have : i = m := by omega
      subst this
      exact last q w hb hp
    | succ k ih =>
      intro i q w hik hb hp
      have him : i < m := by omega
      have hlt := hs.lt
      have h1 : i < ops.size := by omega
      have ho : ops[i]? = some ops[i] := Array.getElem?_eq_getElem h1
      obtain ⟨t, ht, hdt, hts, hne⟩ := hs.dst i _ him ho
      rw [show ops.size - i = (ops.size - (i + 1)) + 1 by omega, List.range'_succ, wpOps_cons]
      refine op_at ho (hs.guard i _ ho) (Oper.wp_mono ?_ (step i _ him ho q w hb fun k' t' hk' ht' => hp k' t' ?_ ht'))
      · rintro a' w' ⟨v, rfl, hb', hv⟩
        rw [ht, frm_put hdt]
        refine ih (i + 1) _ w' (by omega) (hb.trans (hb'.mono hb.size)) fun j t' hj ht' => ?_
        by_cases hji : j = i
        · subst hji
          have : t' = t := by
            unfold dstOf at ht'
            rw [ho] at ht'
            exact Option.some.inj (ht'.symm.trans ht)
          subst this
          rw [setV_same]; exact hv
        · rw [setV_other (fun e => hne j (by omega) hji (by rw [ht', e]))]
          exact stable j _ w w' (by omega) (hp j t' (by omega) ht') hb'
      · unfold waits at hk'
        rw [ho] at hk'
        simp only [List.any_eq_true, Bool.and_eq_true, beq_iff_eq] at hk'
        obtain ⟨e, he, hbi, hon⟩ := hk'
        have := hs.before i _ e ho (by simpa using he) hbi
        omega
  have h0 := key m 0 (fun t => a0.eval (.tmp t)) w0 (by omega) (Below.refl _ _) (fun j t hj _ => by omega)
  rw [frm_start] at h0
  rw [List.range_eq_range']
  exact h0
end Go.Proofs.Ytknneajaklcjdaa
