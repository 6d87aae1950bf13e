import Derived.Test.YtobopjjmhginlaaGreatDoorAnyway
import Derived.Deep.AppendLies
import Derived.Laws.AppendOwnNone
namespace Go.Proofs.YtobopjjmhginlaaGreatDoor
open Go.ChangeShapes Go.WideShapes Go.ChangeAt Go.RowKit Go.Deep
set_option maxHeartbeats 6400000
set_option maxRecDepth 20000
theorem op_val {P : Program} {o : Oper} {a : Act} {w w' : World} {v : Value} {post : Value -> World -> Prop} {Q : Exit -> Act -> World -> Prop} (hr : (execOp a.eval o).run P w = .ok (.value v) w') (hb : Below w.heap.size w w') (hp : post v w') : Oper.wp P o a w (fun a' w' => ∃ v, a' = a.put o.dst v /\ Below w.heap.size w w' /\ post v w') Q := by
  unfold Oper.wp; rw [hr]; exact ⟨v, rfl, hb, hp⟩
theorem op_call {P : Program} {o : Oper} {a : Act} {w : World} {f : FuncId} {args : Array Value} {post : Value -> World -> Prop} {Q : Exit -> Act -> World -> Prop} (hr : (execOp a.eval o).run P w = .ok (.enter f args) w) (hc : Calls P f args w fun e w' => ∃ v, e = .returned v /\ Below w.heap.size w w' /\ post v w') : Oper.wp P o a w (fun a' w' => ∃ v, a' = a.put o.dst v /\ Below w.heap.size w w' /\ post v w') Q := by
  unfold Oper.wp; rw [hr]; refine hc.mono ?_
  rintro e w' ⟨v, rfl, hb, hp⟩
  exact ⟨v, rfl, hb, hp⟩
theorem op_atR {P : Program} {ops : Array Oper} {Q : Exit -> Act -> World -> Prop} {i : Nat} {K : Act -> World -> Prop} {a : Act} {w : World} {o : Oper} (ho : ops[i]? = some o) (hg : o.guard = none) (h : o.wp P a w K Q) : wpOp P ops Q i K a w := by
  unfold wpOp; rw [ho]
  show if Region.wanted o (yielded ops a.tmps) = true then _ else _
  rw [if_pos (by unfold Region.wanted; rw [hg])]
  exact .inl h
theorem late_put {a : Act} {ds : List Nat} {q : Nat -> Value} {o : Oper} {v : Value} (t : Nat) (hd : o.dst = some t) (hc : ds.contains t = true) : (frm a ds q).put o.dst v = frm a ds (setV q t v) := by rw [hd, frm_put hc]
theorem op_run {P : Program} {o : Oper} {a : Act} {w w' : World} {v : Value} {K : Act -> World -> Prop} {Q : Exit -> Act -> World -> Prop} (hr : (execOp a.eval o).run P w = .ok (.value v) w') (h : K (a.put o.dst v) w') : Oper.wp P o a w K Q := by
  unfold Oper.wp; rw [hr]; exact h
theorem op_skip {P : Program} {o : Oper} {a : Act} {w w' : World} {K : Act -> World -> Prop} {Q : Exit -> Act -> World -> Prop} (hd : o.dst = none) (hr : (execOp a.eval o).run P w = .ok .skip w') (h : K a w') : Oper.wp P o a w K Q := by
  unfold Oper.wp; rw [hr]
  show K (a.put o.dst undef) w'
  rw [hd]; exact h
theorem wp_inorder {P : Program} {id : Nat} {ops : Array Oper} {Q : Exit -> Act -> World -> Prop} {a0 : Act} {w0 : World} (ds : List Nat) (m : Nat) (post : Nat -> Value -> World -> Prop)
    (hsh : shapeOk ops ds a0.tmps.size m = true)
    (stable : ∀ i v w w', i < m -> post i v w -> Below w.heap.size w w' -> post i v w')
    (step : ∀ (i : Nat) (o : Oper), i < m -> ops[i]? = some o -> ∀ q w, Below w0.heap.size w0 w -> (∀ k t, waits ops i k = true -> dstOf ops k = some t -> post k (q t) w) -> Oper.wp P o (frm a0 ds q) w (fun a' w' => ∃ v, a' = (frm a0 ds q).put o.dst v /\ Below w.heap.size w w' /\ post i v w') Q)
    (last : ∀ q w, Below w0.heap.size w0 w -> (∀ i t, i < m -> dstOf ops i = some t -> post i (q t) w) -> wpOps P ops Q ((List.range' m (ops.size - m))) (frm a0 ds q) w) :
    (Code.region id ops false).wp P Q a0 w0 := by
  have hs := shape_of hsh; refine wp_region ?_
  have key : ∀ k i q w, i + k = m -> Below w0.heap.size w0 w -> (∀ j t, j < i -> dstOf ops j = some t -> post j (q t) w) -> wpOps P ops Q (List.range' i (ops.size - i)) (frm a0 ds q) w := by
    intro k
    induction k with
    | zero =>
      intro i q w hik hb hp; have : i = m := by omega
      subst this; exact last q w hb hp
    | succ k ih =>
      intro i q w hik hb hp; have him : i < m := by omega
      have hlt := hs.lt; have h1 : i < ops.size := by omega
      have ho : ops[i]? = some ops[i] := Array.getElem?_eq_getElem h1
      obtain ⟨t, ht, hdt, hts, hne⟩ := hs.dst i _ him ho; rw [show ops.size - i = (ops.size - (i + 1)) + 1 by omega, List.range'_succ, wpOps_cons]
      refine op_atR ho (hs.guard i _ ho) (Oper.wp_mono ?_ (step i _ him ho q w hb fun k' t' hk' ht' => hp k' t' ?_ ht'))
      · rintro a' w' ⟨v, rfl, hb', hv⟩
        rw [ht, frm_put hdt]; refine ih (i + 1) _ w' (by omega) (hb.trans (hb'.mono hb.size)) fun j t' hj ht' => ?_
        by_cases hji : j = i
        · subst hji
          have : t' = t := by
            unfold dstOf at ht'; rw [ho] at ht'; exact Option.some.inj (ht'.symm.trans ht)
          subst this; rw [setV_same]; exact hv
        · rw [setV_other (fun e => hne j (by omega) hji (by rw [ht', e]))]
          exact stable j _ w w' (by omega) (hp j t' (by omega) ht') hb'
      · unfold waits at hk'
        rw [ho] at hk'; simp only [List.any_eq_true, Bool.and_eq_true, beq_iff_eq] at hk'; obtain ⟨e, he, hbi, hon⟩ := hk'; have := hs.before i _ e ho (by simpa using he) hbi
        omega
  have h0 := key m 0 (fun t => a0.eval (.tmp t)) w0 (by omega) (Below.refl _ _) (fun j t hj _ => by omega)
  rw [frm_start] at h0; rw [List.range_eq_range']; exact h0
end Go.Proofs.YtobopjjmhginlaaGreatDoor
