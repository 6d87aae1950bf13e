import Derived.Test.YtfnobbpbmelgnaaGreatDoorAnyway
namespace Go.Proofs.YtfnobbpbmelgnaaGreatDoor
open Go.ChangeShapes Go.WideShapes Go.ChangeAt Go.RowKit Go.Deep
set_option maxHeartbeats 6400000
set_option maxRecDepth 20000
theorem op_val {P:Program} {o:Oper} {a:Act} {w w':World} {v:Value} {post:Value->World->Prop} {Q:Exit->Act->World->Prop} (hr:(execOp a.eval o).run P w=.ok (.value v) w') (hb:Below w.heap.size w w') (hp:post v w'):Oper.wp P o a w (fun a' w'=>∃ v,a'=a.put o.dst v/\Below w.heap.size w w'/\post v w') Q:=by
 unfold Oper.wp;rw [hr];exact ⟨v,rfl,hb,hp⟩
theorem op_call {P:Program} {o:Oper} {a:Act} {w:World} {f:FuncId} {args:Array Value} {post:Value->World->Prop} {Q:Exit->Act->World->Prop} (hr:(execOp a.eval o).run P w=.ok (.enter f args) w) (hc:Calls P f args w fun e w'=>∃ v,e=.returned v/\Below w.heap.size w w'/\post v w'):Oper.wp P o a w (fun a' w'=>∃ v,a'=a.put o.dst v/\Below w.heap.size w w'/\post v w') Q:=by
 unfold Oper.wp;rw [hr];refine hc.mono ?_
 rintro e w' ⟨v,rfl,hb,hp⟩
 exact ⟨v,rfl,hb,hp⟩
theorem op_atR {P:Program} {ops:Array Oper} {Q:Exit->Act->World->Prop} {i:Nat} {K:Act->World->Prop} {a:Act} {w:World} {o:Oper} (ho:ops[i]? = some o) (hg:o.guard=none) (h:o.wp P a w K Q):wpOp P ops Q i K a w:=by
 unfold wpOp;rw [ho]
 show if Region.wanted o (yielded ops a.tmps)=true then _ else _
 rw [if_pos (by unfold Region.wanted;rw [hg])]
 exact .inl h
theorem late_put {a:Act} {ds:List Nat} {q:Nat->Value} {o:Oper} {v:Value} (t:Nat) (hd:o.dst=some t) (hc:ds.contains t=true):(frm a ds q).put o.dst v=frm a ds (setV q t v):=by rw [hd,frm_put hc]
theorem op_run {P:Program} {o:Oper} {a:Act} {w w':World} {v:Value} {K:Act->World->Prop} {Q:Exit->Act->World->Prop} (hr:(execOp a.eval o).run P w=.ok (.value v) w') (h:K (a.put o.dst v) w'):Oper.wp P o a w K Q:=by
 unfold Oper.wp;rw [hr];exact h
theorem op_skip {P:Program} {o:Oper} {a:Act} {w w':World} {K:Act->World->Prop} {Q:Exit->Act->World->Prop} (hd:o.dst=none) (hr:(execOp a.eval o).run P w=.ok .skip w') (h:K a w'):Oper.wp P o a w K Q:=by
 unfold Oper.wp;rw [hr]
 show K (a.put o.dst undef) w'
 rw [hd];exact h
theorem below_of_grown {w w':World} (h:w.grownBy w' none):Below w.heap.size w w':=⟨h.os,h.tape,h.output,h.size,fun k hk=>h.block k hk (by intro e;cases e)⟩
theorem heap_new (w:World) (o:Obj):(w.alloc o).heap[w.heap.size]? = some o:=by
 show (w.heap.push o)[w.heap.size]? = some o
 simp
