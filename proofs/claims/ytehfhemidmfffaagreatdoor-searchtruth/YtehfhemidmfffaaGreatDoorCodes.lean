import Derived.Test.YtehfhemidmfffaaGreatDoorMem
import Derived.Test.YtehfhemidmfffaaGreatDoorTrees
namespace Go.Proofs.YtehfhemidmfffaaGreatDoor
open _root_.List renaming length_map→qM
open Go.ChangeShapes Go.WideShapes Go.ChangeAt Go.RowKit Go.Deep
open Terms Tm
open _root_.Prod renaming fst→aW
set_option maxHeartbeats 6400000
set_option maxRecDepth 20000
theorem CA{w w':World}{b t n:Nat}{f:Nat->Value}(h:w.rowIs b t n f)(hb:Below w.heap.size w w'):w'.rowIs b t n f:=h.of_block (hb.block b h.lt)
def A5(vars:Int)(l:am)(t:Tm):Int:=
 if vars<0\/6<vars then 2 else if AU (l.map aW)≠0 then AU (l.map aW)else if firstErr vars l≠0 then firstErr vars l else if t.typed=true then 0 else 5
theorem OK{vars:Int}{l:am}{t:Tm}(h:vars<0\/6<vars):A5 vars l t=2:=by unfold A5;rw[aj h]
theorem OI{vars:Int}{l:am}{t:Tm}(h:¬(vars<0\/6<vars))(h2:AU (l.map aW)≠0):A5 vars l t=AU (l.map aW):=by unfold A5;rw[ak h,aj h2]
theorem OJ{vars:Int}{l:am}{t:Tm}(h:¬(vars<0\/6<vars))(h2:AU (l.map aW)=0)(h3:firstErr vars l≠0):A5 vars l t=firstErr vars l:=by unfold A5;rw[ak h,ak (by simpa using h2),aj h3]
theorem KN{vars:Int}{l:am}{t:Tm}(h:¬(vars<0\/6<vars))(h2:AU (l.map aW)=0)(h3:firstErr vars l=0):A5 vars l t=if t.typed=true then 0 else 5:=by unfold A5;rw[ak h,ak (by simpa using h2),ak (by simpa using h3)]
theorem KB{t:Tm}(h:t.Wf)(h60:t.size<=60):AU (t.ops.map aW)=0:=by
 unfold AU;rw[qM,ops_length,ak (by omega),one h];simp
theorem OL{vars:Int}{l:am}{t:Tm}(h:A5 vars l t=0)(ht:AU (l.map aW)=0->t.Wf/\t.ops=l):0<=vars/\vars<=6/\t.ops=l/\t.Good vars/\t.typed=true/\t.size<=60:=by
 by_cases hr:vars<0\/6<vars
 .rw[OK hr]at h;omega
 .by_cases hz:AU (l.map aW)=0
  .obtain ⟨hwf,hops⟩:=ht hz;obtain⟨h60,_⟩:=Fe hz;rw[qM]at h60;by_cases hf:firstErr vars l=0
   .rw[KN hr hz hf]at h;split at h
    .rename_i htt;subst hops;exact⟨by omega,by omega,rfl,good_of hwf (firstErr_all hf),htt,by rw[ops_length]at h60;exact h60⟩
    .omega
   .rw[OJ hr hz hf]at h;exact absurd h hf
  .rw[OI hr hz]at h;exact absurd h hz
theorem XG{vars:Int}{t:Tm}(h0:0<=vars)(h6:vars<=6)(hg:t.Good vars)(h60:t.size<=60):A5 vars t.ops t=if t.typed=true then 0 else 5:=
 KN (by omega) (KB hg.wf h60) (firstErr_of hg.ops)
