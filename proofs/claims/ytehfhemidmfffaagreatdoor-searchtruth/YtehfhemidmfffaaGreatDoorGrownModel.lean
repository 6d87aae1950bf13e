import Derived.Test.YtehfhemidmfffaaGreatDoorModelOwn
import Derived.Test.YtehfhemidmfffaaGreatDoorGrownV
open _root_.Option renaming none→Z,some→Y
namespace Go.Proofs.YtehfhemidmfffaaGreatDoor
open Go.RowKit.Below renaming refl→qD
open _root_.Nat renaming le_refl→qB,le_trans→qI,lt_of_lt_of_le→qE
open Go.ChangeShapes Go.WideShapes Go.ChangeAt Go.RowKit Go.Deep
open Terms Tm
open Go.Addr renaming mk→X
set_option maxHeartbeats 6400000
set_option maxRecDepth 20000
def CQ{α:Type}(a b:α)(k:Nat):α:=if k=0 then a else b
def bX:ByteArray:=⟨#[120]⟩
def bY:ByteArray:=⟨#[121,50]⟩
theorem S7:BO bX=true:=by first|kernel_rfl|(simp[BO,CZ,bX,DI,DY,ByteArray.toList_eq,ByteArray.size])
theorem S8:BO bY=true:=by first|kernel_rfl|(simp[BO,CZ,bY,DI,DY,ByteArray.toList_eq,ByteArray.size])
theorem bXY:bX≠bY:=by
 intro h;have:=congrArg ByteArray.size h;revert this;show 1=2->False;omega
def CX(s:ByteArray)(sp lw iv:Int):Vr:=⟨s,pk lw 3-1,pk lw 3-1+pk sp 4,pk lw 3-1+pk iv (pk lw 3-1+pk sp 4-(pk lw 3-1)+1)⟩
theorem Li(s:ByteArray)(sp lw iv:Int):-1<=(CX s sp lw iv).lo/\(CX s sp lw iv).lo<=1/\(CX s sp lw iv).lo<=(CX s sp lw iv).hi/\(CX s sp lw iv).hi<=(CX s sp lw iv).lo+3/\(CX s sp lw iv).lo<=(CX s sp lw iv).ini/\(CX s sp lw iv).ini<=(CX s sp lw iv).hi:=by
 have h1:=BJ (n:=lw) (m:=3) (by decide);have h2:=BJ (n:=sp) (m:=4) (by decide);have h3:=BJ (n:=iv) (m:=pk lw 3-1+pk sp 4-(pk lw 3-1)+1) (by omega);unfold CX;simp only;omega
def E9(sp0 sp1 lw0 lw1 iv0 iv1:Int):List Vr:=[CX bX sp0 lw0 iv0,CX bY sp1 lw1 iv1]
def MVc(B2:Nat)(w4 wr:World)(vV:Value)(l:List Vr):Prop:=
 wr.cell? (X B2 0 Z)=Y vV/\wr.cell? (X B2 1 Z)=Y (.slice Z 0 0)/\wr.frozen? (X B2 0 Z)=false/\wr.frozen? (X B2 1 Z)=false/\wr.ownsRow w4.heap.size 90 4 vV l.length (Cb l)/\w4.grownBy wr (Y B2)/\B2<w4.heap.size
theorem Qx(w:World)(x y z u:Value)(t:TypeId):∀j v,[x,y,z,u][j]? = Y v->(w.alloc (.cells #[x,y,z,u] t)).cell? ((⟨w.heap.size,0,Z⟩:Addr).add j)=Y v:=by
 intro j v hj;match j,hj with
 |0,hj=>simp at hj;subst hj;simp[Addr.add,go_sem]
 |1,hj=>simp at hj;subst hj;simp[Addr.add,go_sem]
 |2,hj=>simp at hj;subst hj;simp[Addr.add,go_sem]
 |3,hj=>simp at hj;subst hj;simp[Addr.add,go_sem]
theorem MVc.at4{B2:Nat}{w4 wr wz:World}{o3:Obj}{vV:Value}{l:List Vr}(h:MVc B2 w4 wr vV l)(hg:(wr.alloc o3).grownBy wz vV.ownBlock) :
  wz.cell? (X B2 0 Z)=Y vV/\wz.cell? (X B2 1 Z)=Y (.slice Z 0 0)/\wz.frozen? (X B2 0 Z)=false/\wz.frozen? (X B2 1 Z)=false:=by
 obtain⟨h0,h1,h2,h3,h4,h5,h6⟩:=h;have h7:B2<wr.heap.size:=qE h6 h5.size;have hA:Below wr.heap.size wr (wr.alloc o3):=(qD _ _).alloc (qB _) o3;have hne:Y B2≠vV.ownBlock:=fun he=>by have:=(h4.lt _ he.symm).1;omega
 have hlt:B2<(wr.alloc o3).heap.size:=qE h7 hA.size;exact⟨(hg.cell_far ⟨B2,0,Z⟩ hlt hne).trans ((hA.cell (p:=(X B2 0 Z)) h7).trans h0),(hg.cell_far ⟨B2,1,Z⟩ hlt hne).trans ((hA.cell (p:=(X B2 1 Z)) h7).trans h1),(hg.frozen_far ⟨B2,0,Z⟩ hlt hne).trans ((hA.frozen (p:=(X B2 0 Z)) h7).trans h2),(hg.frozen_far ⟨B2,1,Z⟩ hlt hne).trans ((hA.frozen (p:=(X B2 1 Z)) h7).trans h3)⟩
theorem Lg{a b:World}{B2 o:Nat}(h:a.grownBy b (Y B2))(v:Value):a.grownBy (b.setCell (X B2 o Z) v) (Y B2):=
 ⟨h.os,h.tape,h.output,by simpa using h.size,fun i hi hne=>(Below.heap_setCell b ⟨B2,o,Z⟩ v i (by simp only;intro he;exact hne (by rw[he]))).trans (h.block i hi hne)⟩
theorem Lh{a b c:World}{B2:Nat}{row:Option Nat}{o3:Obj}(h:a.grownBy b (Y B2))(hg:(b.alloc o3).grownBy c row)(hr:∀j,row=Y j->a.heap.size<=j):a.grownBy c (Y B2):=by
 have hA:Below b.heap.size b (b.alloc o3):=(qD _ _).alloc (qB _) o3;refine⟨hg.os.trans (hA.os.trans h.os),hg.tape.trans (hA.tape.trans h.tape),hg.output.trans (hA.output.trans h.output),qI h.size (qI hA.size hg.size),fun i hi hne=>?_⟩;have hib:i<b.heap.size:=qE hi h.size;rw[hg.block i (qE hib hA.size) (fun he=>by have:=hr i he.symm;omega),hA.block i hib,h.block i hi hne]
theorem Wq(l:List Vr)(x:Vr):Cb (l++[x])=Cb l++[.string x.name,.int .i64 x.lo,.int .i64 x.hi,.int .i64 x.ini]:=by simp[Cb]
theorem MVc.step{B2:Nat}{w4 wr wz:World}{o3:Obj}{vV v':Value}{l:List Vr}{x:Vr}(h:MVc B2 w4 wr vV l)(hg:(wr.alloc o3).grownBy wz vV.ownBlock)
  (ho:wz.ownsRow w4.heap.size 90 4 v' (l.length+1) (Cb l++[.string x.name,.int .i64 x.lo,.int .i64 x.hi,.int .i64 x.ini])):MVc B2 w4 (wz.setCell (X B2 0 Z) v') v' (l++[x]):=by
 obtain⟨f0,f1,f2,f3⟩:=h.at4 hg;obtain⟨_,_,_,_,h4,h5,h6⟩:=h;refine⟨World.cell?_setCell_same _ _ _ f0,?_,?_,?_,?_,Lg (Lh h5 hg (fun j hj=>(h4.lt j hj).1)) _,h6⟩
 .rw[World.cell?_setCell_other _ _ _ _ (by simp)];exact f1
 .rw[World.frozen?_setCell];exact f2
 .rw[World.frozen?_setCell];exact f3
 .rw[Wq,List.length_append];exact Do ho h6 _
