import Derived.Test.YtjldkfiabgagiaaGreatDoorMem
import Derived.Test.YtjldkfiabgagiaaGreatDoorTrees
namespace Go.Proofs.YtjldkfiabgagiaaGreatDoor
open _root_.List renaming length_map→qL
open Go.ChangeShapes Go.WideShapes Go.ChangeAt Go.RowKit Go.Deep
open Terms Tm
set_option maxHeartbeats 6400000
set_option maxRecDepth 20000
theorem B6{w w':World}{b t n:Nat}{f:Nat->Value}(h:w.rowIs b t n f)(hb:Below w.heap.size w w'):w'.rowIs b t n f:=h.of_block (hb.block b h.lt)
def A1(vars:Int)(l:List (Int×Int))(t:Tm):Int:=
 if vars<0\/6<vars then 2 else if AR (l.map Prod.fst)≠0 then AR (l.map Prod.fst)else if firstErr vars l≠0 then firstErr vars l else if t.typed=true then 0 else 5
theorem Nn{vars:Int}{l:List (Int×Int)}{t:Tm}(h:vars<0\/6<vars):A1 vars l t=2:=by unfold A1;rw[if_pos h]
theorem Nl{vars:Int}{l:List (Int×Int)}{t:Tm}(h:¬(vars<0\/6<vars))(h2:AR (l.map Prod.fst)≠0):A1 vars l t=AR (l.map Prod.fst):=by unfold A1;rw[if_neg h,if_pos h2]
theorem Nm{vars:Int}{l:List (Int×Int)}{t:Tm}(h:¬(vars<0\/6<vars))(h2:AR (l.map Prod.fst)=0)(h3:firstErr vars l≠0):A1 vars l t=firstErr vars l:=by unfold A1;rw[if_neg h,if_neg (by simpa using h2),if_pos h3]
theorem J4{vars:Int}{l:List (Int×Int)}{t:Tm}(h:¬(vars<0\/6<vars))(h2:AR (l.map Prod.fst)=0)(h3:firstErr vars l=0):A1 vars l t=if t.typed=true then 0 else 5:=by unfold A1;rw[if_neg h,if_neg (by simpa using h2),if_neg (by simpa using h3)]
theorem Jr{t:Tm}(h:t.Wf)(h60:t.size<=60):AR (t.ops.map Prod.fst)=0:=by
 unfold AR;rw[qL,ops_length,if_neg (by omega),one h];simp
theorem Np{vars:Int}{l:List (Int×Int)}{t:Tm}(h:A1 vars l t=0)(ht:AR (l.map Prod.fst)=0->t.Wf/\t.ops=l):0<=vars/\vars<=6/\t.ops=l/\t.Good vars/\t.typed=true/\t.size<=60:=by
 by_cases hr:vars<0\/6<vars
 .rw[Nn hr]at h;omega
 .by_cases hz:AR (l.map Prod.fst)=0
  .obtain ⟨hwf,hops⟩:=ht hz;obtain⟨h60,_⟩:=FZ hz;rw[qL]at h60;by_cases hf:firstErr vars l=0
   .rw[J4 hr hz hf]at h;split at h
    .rename_i htt;subst hops;exact⟨by omega,by omega,rfl,good_of hwf (firstErr_all hf),htt,by rw[ops_length]at h60;exact h60⟩
    .omega
   .rw[Nm hr hz hf]at h;exact absurd h hf
  .rw[Nl hr hz]at h;exact absurd h hz
theorem Vz{vars:Int}{t:Tm}(h0:0<=vars)(h6:vars<=6)(hg:t.Good vars)(h60:t.size<=60):A1 vars t.ops t=if t.typed=true then 0 else 5:=
 J4 (by omega) (Jr hg.wf h60) (firstErr_of hg.ops)
