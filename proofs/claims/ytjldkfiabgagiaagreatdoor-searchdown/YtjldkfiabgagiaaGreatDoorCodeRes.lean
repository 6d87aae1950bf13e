import Derived.Test.YtjldkfiabgagiaaGreatDoorStates
import Derived.Test.YtjldkfiabgagiaaGreatDoorIntsOf
namespace Go.Proofs.YtjldkfiabgagiaaGreatDoor
open Go.ChangeShapes Go.WideShapes Go.ChangeAt Go.RowKit Go.Deep
open Terms Tm
set_option maxHeartbeats 6400000
set_option maxRecDepth 20000
theorem IntsV.shape{w:World}{v:Value}{l:List Int}(h:IntsV w v l):∃ao cap,v=.slice ao l.length cap:=by
 obtain⟨ao,cap,h1,_⟩:=h;exact⟨ao,cap,h1⟩
theorem IntsV.at{w:World}{ao:Option Addr}{cap n:Nat}{l:List Int}(h:IntsV w (.slice ao n cap) l){i:Nat}(hi:i<l.length):∃b off,ao=some ⟨b,off,none⟩/\b<w.heap.size/\w.cell? ⟨b,off+i,none⟩=some (.int .i64 (l.getD i 0)):=by
 obtain⟨ao',cap',h1,h3⟩:=h;injection h1 with e1 e2 e3;subst e1;obtain⟨b,off,e,hb,hh⟩:=h3 (by intro h;subst h;simp at hi);exact⟨b,off,e,hb,hh i hi⟩
open Classical in
noncomputable def B0(m:Mo)(vals:List Int):Int:=if mcode m=0 then(if vals.length=m.vars.length/\∀i,i<m.vars.length->inB m.vars vals i then 0 else 9)else mcode m
noncomputable def Ce(m:Mo)(vals:List Int):Int:=if B0 m vals=0 then Bn m.vars vals m.vars.length else 0
theorem Ou{m:Mo}{vals:List Int}(h:mcode m≠0):B0 m vals=mcode m:=by unfold B0;rw[if_neg h]
theorem IR{m:Mo}{vals:List Int}(h:mcode m=0)(h2:¬(vals.length=m.vars.length/\∀i,i<m.vars.length->inB m.vars vals i)):B0 m vals=9:=by unfold B0;rw[if_pos h,if_neg h2]
theorem Km{m:Mo}{vals:List Int}(h:mcode m=0)(h2:vals.length=m.vars.length/\∀i,i<m.vars.length->inB m.vars vals i):B0 m vals=0:=by unfold B0;rw[if_pos h,if_pos h2]
