import Derived.Test.YtehfhemidmfffaaGreatDoorAnyway
open Go renaming World→Z,Value→Y
namespace Go.Proofs.YtehfhemidmfffaaGreatDoor
open Go.ChangeShapes Go.WideShapes Go.ChangeAt Go.RowKit Go.Deep
set_option maxHeartbeats 6400000
set_option maxRecDepth 20000
theorem Bh{P:Program}{o:Oper}{a:Act}{w w':Z}{v:Y}{post:Y->Z->Prop}{Q:Exit->Act->Z->Prop}(hr:(execOp a.eval o).run P w=.ok (.value v) w')(hb:Below w.heap.size w w')(hp:post v w'):Oper.wp P o a w (fun a' w'=>∃v,a'=a.put o.dst v/\Below w.heap.size w w'/\post v w') Q:=by
 unfold Oper.wp;rw[hr];exact⟨v,rfl,hb,hp⟩
theorem G6{P:Program}{o:Oper}{a:Act}{w:Z}{f:FuncId}{args:Array Y}{post:Y->Z->Prop}{Q:Exit->Act->Z->Prop}(hr:(execOp a.eval o).run P w=.ok (.enter f args) w)(hc:Calls P f args w fun e w'=>∃v,e=.returned v/\Below w.heap.size w w'/\post v w'):Oper.wp P o a w (fun a' w'=>∃v,a'=a.put o.dst v/\Below w.heap.size w w'/\post v w') Q:=by
 unfold Oper.wp;rw[hr];refine hc.mono ?_;rintro e w' ⟨v,rfl,hb,hp⟩;exact⟨v,rfl,hb,hp⟩
theorem G5{P:Program}{ops:Array Oper}{Q:Exit->Act->Z->Prop}{i:Nat}{K:Act->Z->Prop}{a:Act}{w:Z}{o:Oper}(ho:ops[i]? = some o)(hg:o.guard=none)(h:o.wp P a w K Q):wpOp P ops Q i K a w:=by
 unfold wpOp;rw[ho];show if Region.wanted o (yielded ops a.tmps)=true then _ else _
 rw[aj (by unfold Region.wanted;rw[hg])];exact .inl h
theorem Lt{a:Act}{ds:List Nat}{q:Nat->Y}{o:Oper}{v:Y}(t:Nat)(hd:o.dst=some t)(hc:ds.contains t=true):(frm a ds q).put o.dst v=frm a ds (Ds q t v):=by rw[hd,Gi hc]
theorem Mf{P:Program}{o:Oper}{a:Act}{w w':Z}{v:Y}{K:Act->Z->Prop}{Q:Exit->Act->Z->Prop}(hr:(execOp a.eval o).run P w=.ok (.value v) w')(h:K (a.put o.dst v) w'):Oper.wp P o a w K Q:=by
 unfold Oper.wp;rw[hr];exact h
theorem JV{P:Program}{o:Oper}{a:Act}{w w':Z}{K:Act->Z->Prop}{Q:Exit->Act->Z->Prop}(hd:o.dst=none)(hr:(execOp a.eval o).run P w=.ok .skip w')(h:K a w'):Oper.wp P o a w K Q:=by
 unfold Oper.wp;rw[hr];show K (a.put o.dst undef) w';rw[hd];exact h
