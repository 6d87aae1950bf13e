import Derived.Test.YtobopjjmhginlaaGreatDoorTopHolds
import Derived.Test.YtobopjjmhginlaaGreatDoorLawOps
namespace Go.Proofs.YtobopjjmhginlaaGreatDoor
open Go.ChangeShapes Go.WideShapes Go.ChangeAt Go.RowKit Go.Deep
open Terms Tm
set_option maxHeartbeats 6400000
set_option maxRecDepth 20000
inductive Fd
  | same (u : Value)
  | one (l : List (Int × Int))
  | two (l k : List (Int × Int))
  | ops (l : List (Int × Int))
  | held (T : Tm)
  | bit (T : Tm)
  | yes
def Fd.At (m : Mo) : Fd -> Value -> World -> Prop
  | .same u, v, _ => v = u
  | .one l, v, w => One w v l
  | .two l k, v, w => Two w v l k
  | .ops l, v, w => OpsV w v l
  | .held T, v, _ => ∃ b : Bool, v = .tuple #[.bool b, .bool true] /\ Kp m T b
  | .bit T, v, _ => ∃ b : Bool, v = .bool b /\ Kp m T b
  | .yes, v, _ => v = .bool true
theorem Fd.below {m : Mo} {f : Fd} {v : Value} {w w' : World} (h : f.At m v w) (hb : Below w.heap.size w w') : f.At m v w' := by
  cases f with
  | same u => exact h
  | one l => exact One.below (w := w) h hb
  | two l k => exact Two.below (w := w) h hb
  | ops l => exact OpsV.below (w := w) h hb
  | held T => exact h
  | bit T => exact h
  | yes => exact h
def FdP (m : Mo) (fs : List Fd) (i : Nat) (v : Value) (w : World) : Prop := (fs.getD i .yes).At m v w
theorem FdP_stable (m : Mo) (fs : List Fd) (n i : Nat) (v : Value) (w w' : World) (_ : i < n) (h : FdP m fs i v w) (hb : Below w.heap.size w w') : FdP m fs i v w' := Fd.below (w := w) h hb
theorem FOk.no : FOk 0 [(12, 0)] (.leaf 12 0) := ⟨rfl, ⟨by decide, by decide⟩, fun o ho => by
  obtain rfl : o = (12, 0) := by simpa using ho
  rfl, by decide⟩
section
variable {o : Oper} {a : Act} {w : World} {Q : Exit -> Act -> World -> Prop} {m : Mo}
theorem st_load7 {s D : Nat} {c0 c1 c2 c3 c4 c5 c6 : Value} (hop : o.op = .load 25 (.tmp s)) (he : a.eval (.tmp s) = .pointer (some ⟨D, 0, none⟩)) (hc : w.cell? ⟨D, 0, none⟩ = some c0 /\ w.cell? ⟨D, 1, none⟩ = some c1 /\ w.cell? ⟨D, 2, none⟩ = some c2 /\ w.cell? ⟨D, 3, none⟩ = some c3 /\ w.cell? ⟨D, 4, none⟩ = some c4 /\ w.cell? ⟨D, 5, none⟩ = some c5 /\ w.cell? ⟨D, 6, none⟩ = some c6) : Oper.wp Tryz.prog o a w (fun a' w' => ∃ v', a' = a.put o.dst v' /\ Below w.heap.size w w' /\ v' = .agg #[c0, c1, c2, c3, c4, c5, c6]) Q := by
  obtain ⟨h0, h1, h2, h3, h4, h5, h6⟩ := hc; refine op_val (w' := w) (v := .agg #[c0, c1, c2, c3, c4, c5, c6]) (post := fun v' _ => v' = .agg #[c0, c1, c2, c3, c4, c5, c6]) ?_ (Below.refl _ _) rfl
  generalize a.eval = ev at he ⊢; simp [execOp, hop, he, go_sem, h0, h1, h2, h3, h4, h5, h6]
theorem st_opl {k : Int} (hop : o.op = .build 29 #[(0, .const (.int .i64 k))]) : Oper.wp Tryz.prog o a w (fun a' w' => ∃ v', a' = a.put o.dst v' /\ Below w.heap.size w w' /\ v' = .agg #[.int .i64 k, .int .i64 0]) Q := by
  refine op_val (w' := w) (v := .agg #[.int .i64 k, .int .i64 0]) (post := fun v' _ => v' = .agg #[.int .i64 k, .int .i64 0]) ?_ (Below.refl _ _) rfl
  have evc : ∀ v, a.eval (.const v) = v := fun v => rfl
  generalize a.eval = ev at evc ⊢; simp [execOp, hop, evc, go_sem]
theorem st_lit {s : Nat} {k : Int} (hop : o.op = .buildSlice 30 1 #[(0, .tmp s)]) (he : a.eval (.tmp s) = .agg #[.int .i64 k, .int .i64 0]) : Oper.wp Tryz.prog o a w (fun a' w' => ∃ v', a' = a.put o.dst v' /\ Below w.heap.size w w' /\ OpsV w' v' [(k, 0)]) Q := by
  have hA : Below w.heap.size w (w.alloc (.cells #[.int .i64 k, .int .i64 0] 29)) := (Below.refl _ _).alloc (Nat.le_refl _) _; refine op_val (w' := w.alloc (.cells #[.int .i64 k, .int .i64 0] 29)) (v := .slice (some ⟨w.heap.size, 0, none⟩) 1 1) (post := fun v' w' => OpsV w' v' [(k, 0)]) ?_ hA (ops_one w k 0)
  generalize a.eval = ev at he ⊢; simp [execOp, hop, he, go_sem]
theorem st_J1 {s : Nat} {k : Int} {l : List (Int × Int)} (hop : o.op = .call { callee := .value (.func 11), args := #[.const (.int .i64 k), .tmp s], argTypes := #[3, 49] }) (he : One w (a.eval (.tmp s)) l) (hl : l.length <= 60) (hne : l ≠ []) : Oper.wp Tryz.prog o a w (fun a' w' => ∃ v', a' = a.put o.dst v' /\ Below w.heap.size w w' /\ OpsV w' v' ((k, 0) :: l)) Q := by
  obtain ⟨g, lv, hv, hc, hV⟩ := he; refine op_call (f := 11) (args := #[.int .i64 k, .slice (some ⟨g, 0, none⟩) 1 1]) (post := fun v' w' => OpsV w' v' ((k, 0) :: l)) ?_ ((Joined1 k g lv l w hc hl hne hV).mono ?_)
  · have evc : ∀ v, a.eval (.const v) = v := fun v => rfl
    have evf : ∀ n, a.eval (.func n) = .func (.func n) #[] #[] := fun n => rfl
    generalize a.eval = ev at hv evc evf ⊢; simp [execOp, hop, hv, evc, evf, go_sem]
  · rintro e w' ⟨a', c, rfl, hb, hO⟩
    exact ⟨_, rfl, hb, hO⟩
theorem st_J2 {s : Nat} {k : Int} {l m : List (Int × Int)} (hop : o.op = .call { callee := .value (.func 11), args := #[.const (.int .i64 k), .tmp s], argTypes := #[3, 49] }) (he : Two w (a.eval (.tmp s)) l m) (hl : l.length <= 60) (hm : m.length <= 60) (hne : l ≠ []) (hme : m ≠ []) : Oper.wp Tryz.prog o a w (fun a' w' => ∃ v', a' = a.put o.dst v' /\ Below w.heap.size w w' /\ OpsV w' v' ((k, 0) :: (l ++ m))) Q := by
  obtain ⟨g, lv, mv, hv, hc, hd, hV, hM⟩ := he; refine op_call (f := 11) (args := #[.int .i64 k, .slice (some ⟨g, 0, none⟩) 2 2]) (post := fun v' w' => OpsV w' v' ((k, 0) :: (l ++ m))) ?_ ((Joined2 k g lv mv l m w hc hd hl hm hne hme hV hM).mono ?_)
  · have evc : ∀ v, a.eval (.const v) = v := fun v => rfl
    have evf : ∀ n, a.eval (.func n) = .func (.func n) #[] #[] := fun n => rfl
    generalize a.eval = ev at hv evc evf ⊢; simp [execOp, hop, hv, evc, evf, go_sem]
  · rintro e w' ⟨a', c, rfl, hb, hO⟩
    exact ⟨_, rfl, hb, hO⟩
theorem st_holds {s t mm : Nat} {c0 c1 c2 c3 c4 c5 c6 : Value} {l : List (Int × Int)} {T : Tm} {w0 : World} (hop : o.op = .call { callee := .value (.func 9), args := #[.tmp s, .tmp t], argTypes := #[25, 30] }) (hH : HoldsOk w0 c0 c1 c2 c3 c4 c5 c6 m) (hb : Below w0.heap.size w0 w) (he : a.eval (.tmp s) = .agg #[c0, c1, c2, c3, c4, c5, c6]) (hO : OpsV w (a.eval (.tmp t)) l) (hF : FOk mm l T) (hl : l.length <= 59) (hmm : mm <= 6) : Oper.wp Tryz.prog o a w (fun a' w' => ∃ v', a' = a.put o.dst v' /\ Below w.heap.size w w' /\ ∃ b : Bool, v' = .tuple #[.bool b, .bool true] /\ Kp m T b) Q := by
  refine op_call (f := 9) (args := #[.agg #[c0, c1, c2, c3, c4, c5, c6], a.eval (.tmp t)]) (post := fun v' _ => ∃ b : Bool, v' = .tuple #[.bool b, .bool true] /\ Kp m T b) ?_ ((hH w _ l T mm hb hO hF hl hmm).mono ?_)
  · have evf : ∀ n, a.eval (.func n) = .func (.func n) #[] #[] := fun n => rfl
    generalize a.eval = ev at he evf ⊢; simp [execOp, hop, he, evf, go_sem]
  · rintro e w' ⟨b, rfl, hb, hK⟩
    exact ⟨_, rfl, hb, b, rfl, hK.out⟩
theorem st_mvh {s : Nat} {T : Tm} (hop : o.op = .move (.tmp s)) (h : ∃ b : Bool, a.eval (.tmp s) = .tuple #[.bool b, .bool true] /\ Kp m T b) : Oper.wp Tryz.prog o a w (fun a' w' => ∃ v', a' = a.put o.dst v' /\ Below w.heap.size w w' /\ ∃ b : Bool, v' = .tuple #[.bool b, .bool true] /\ Kp m T b) Q := by
  obtain ⟨b, he, hK⟩ := h; refine op_val (w' := w) (v := .tuple #[.bool b, .bool true]) (post := fun v' _ => ∃ b : Bool, v' = .tuple #[.bool b, .bool true] /\ Kp m T b) ?_ (Below.refl _ _) ⟨b, rfl, hK⟩
  generalize a.eval = ev at he ⊢; simp [execOp, hop, he, go_sem]
theorem st_ex0 {s : Nat} {T : Tm} (hop : o.op = .extract (.tmp s) 0) (h : ∃ b : Bool, a.eval (.tmp s) = .tuple #[.bool b, .bool true] /\ Kp m T b) : Oper.wp Tryz.prog o a w (fun a' w' => ∃ v', a' = a.put o.dst v' /\ Below w.heap.size w w' /\ ∃ b : Bool, v' = .bool b /\ Kp m T b) Q := by
  obtain ⟨b, he, hK⟩ := h; refine op_val (w' := w) (v := .bool b) (post := fun v' _ => ∃ b : Bool, v' = .bool b /\ Kp m T b) ?_ (Below.refl _ _) ⟨b, rfl, hK⟩
  generalize a.eval = ev at he ⊢; simp [execOp, hop, he, go_sem]
theorem st_ex1 {s : Nat} {T : Tm} (hop : o.op = .extract (.tmp s) 1) (h : ∃ b : Bool, a.eval (.tmp s) = .tuple #[.bool b, .bool true] /\ Kp m T b) : Oper.wp Tryz.prog o a w (fun a' w' => ∃ v', a' = a.put o.dst v' /\ Below w.heap.size w w' /\ v' = .bool true) Q := by
  obtain ⟨b, he, hK⟩ := h; refine op_val (w' := w) (v := .bool true) (post := fun v' _ => v' = .bool true) ?_ (Below.refl _ _) rfl
  generalize a.eval = ev at he ⊢; simp [execOp, hop, he, go_sem]
theorem st_asb {s : Nat} {T : Tm} (hop : o.op = .assign (.tmp s)) (h : ∃ b : Bool, a.eval (.tmp s) = .bool b /\ Kp m T b) : Oper.wp Tryz.prog o a w (fun a' w' => ∃ v', a' = a.put o.dst v' /\ Below w.heap.size w w' /\ ∃ b : Bool, v' = .bool b /\ Kp m T b) Q := by
  obtain ⟨b, he, hK⟩ := h; refine op_val (w' := w) (v := .bool b) (post := fun v' _ => ∃ b : Bool, v' = .bool b /\ Kp m T b) ?_ (Below.refl _ _) ⟨b, rfl, hK⟩
  generalize a.eval = ev at he ⊢; simp [execOp, hop, he, go_sem]
end
def DBox (w : World) (D : Nat) (c0 c1 c2 c3 c4 c5 c6 : Value) : Prop := w.cell? ⟨D, 0, none⟩ = some c0 /\ w.cell? ⟨D, 1, none⟩ = some c1 /\ w.cell? ⟨D, 2, none⟩ = some c2 /\ w.cell? ⟨D, 3, none⟩ = some c3 /\ w.cell? ⟨D, 4, none⟩ = some c4 /\ w.cell? ⟨D, 5, none⟩ = some c5 /\ w.cell? ⟨D, 6, none⟩ = some c6
theorem DBox.below {w w' : World} {D : Nat} {c0 c1 c2 c3 c4 c5 c6 : Value} (h : DBox w D c0 c1 c2 c3 c4 c5 c6) (hb : Below w.heap.size w w') : DBox w' D c0 c1 c2 c3 c4 c5 c6 := by
  obtain ⟨h0, h1, h2, h3, h4, h5, h6⟩ := h; exact ⟨cell_later hb h0, cell_later hb h1, cell_later hb h2, cell_later hb h3, cell_later hb h4, cell_later hb h5, cell_later hb h6⟩
structure TFor (w : World) (v : Value) (tempo : Nat) (x : List (Int × Int)) (T : Tm) (k : Nat) : Prop where
  v : OpsV w v x
  ok : FOk k x T
  len : x.length <= 17
  ne : x ≠ []
  many : k <= tempo
theorem TFor.below {w w' : World} {v : Value} {tempo k : Nat} {x : List (Int × Int)} {T : Tm} (h : TFor w v tempo x T k) (hb : Below w.heap.size w w') : TFor w' v tempo x T k := ⟨h.v.below hb, h.ok, h.len, h.ne, h.many⟩
theorem tform_any (rawv : Value) (rs : List (Int × Int)) (tempo : Nat) (w : World) (ht : tempo <= 6) (hR : Raws w w.heap.size rawv rs) :
    Calls Tryz.prog 10 #[rawv, .int .i64 3, .int .i64 (tempo : Int)] w fun e w' => ∃ fo fn fc x T k, e = .returned (.slice fo fn fc) /\ Below w.heap.size w w' /\ Hid (TFor w' (.slice fo fn fc) tempo x T k) :=
  (formulaFn_any rawv rs 3 tempo w (by decide) (by decide) (by omega) hR).mono fun e w2 ⟨fo, fc, l, mm, h1, h2, h3, h4, h5, h6⟩ => by
    obtain ⟨T, hT⟩ := h2.ok; exact ⟨fo, _, fc, l, T, mm, h1, h6, h5, hT, h4, h2.ne, h3⟩
section
variable {m : Mo} {A B : Tm} {a b c d : Bool}
theorem kp_eq (h : ∀ σ : Nat -> Nat -> Bool, A.hb σ 0 = B.hb σ 0) (ha : Kp m A a) (hb : Kp m B b) : b = a := by
  have h1 := (keep_same (m := m) (ps := propsL) h); have h2 : a = true ↔ b = true := ha.1.trans (h1.trans hb.1.symm)
  cases a <;> cases b <;> simp_all
theorem kp_imp (h : ∀ σ : Nat -> Nat -> Bool, A.hb σ 0 = true -> B.hb σ 0 = true) (ha : Kp m A a) (hb : Kp m B b) (h0 : a = true) : b = true := hb.1.2 (keep_imp h (ha.1.1 h0))
theorem kp_yes {v : Int} (h : Kp m (.leaf 11 v) a) : a = true := h.1.2 (keep_yes v)
theorem kp_no {v : Int} (h : Kp m (.leaf 12 v) a) : a = false := by
  cases a with
  | false => rfl
  | true => exact absurd (h.1.1 rfl) (keep_no h.2 (by decide) (by decide))
theorem kp_not {v : Int} (ha : Kp m A a) (hb : Kp m (.un 10 v A) b) : a = false \/ b = false := by
  cases a with
  | false => exact .inl rfl
  | true =>
    cases b with
    | false => exact .inr rfl
    | true => exact absurd (hb.1.1 rfl) (keep_not ha.2 v A (ha.1.1 rfl))
theorem kp_and {v : Int} (ha : Kp m A a) (hb : Kp m B b) (hc : Kp m (.bi 8 v A B) c) : c = (a && b) := by
  have h := keep_and (m := m) (ps := propsL) v A B; have h2 : c = true ↔ a = true /\ b = true := hc.1.trans (h.trans ⟨fun ⟨x, y⟩ => ⟨ha.1.2 x, hb.1.2 y⟩, fun ⟨x, y⟩ => ⟨ha.1.1 x, hb.1.1 y⟩⟩)
  cases a <;> cases b <;> cases c <;> simp_all
theorem kp_either {v u : Int} (h : Kp m (.bi 9 v A (.un 10 u A)) a) : a = true := h.1.2 fun p s _ => by
  rw [hb_or, hb_not]
  cases A.hb (sig (p.map (letL m propsL)) s) 0 <;> rfl
end
end Go.Proofs.YtobopjjmhginlaaGreatDoor
