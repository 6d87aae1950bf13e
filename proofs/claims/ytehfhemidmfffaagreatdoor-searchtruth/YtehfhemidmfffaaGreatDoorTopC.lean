/- Joined texts. -/
import Derived.Test.YtehfhemidmfffaaGreatDoorTopB
open Go renaming World→M,Value→J,Calls→H
open Go.Ending renaming returned→L
open Go.IntKind renaming i64→V
open Go.Obj renaming cells→N
open Go.RowKit renaming Below→T,Hid→O
open Go.Value renaming slice→Y,agg→E,tuple→C,pointer→A,int→G
open _root_.Bool renaming false→I
open _root_.Option renaming none→Z,some→U
namespace Go.Proofs.YtehfhemidmfffaaGreatDoor
open _root_.Array renaming getElem?_eq_some_iff→qG,getElem?_modify→qS
open Go.RowKit.Below renaming refl→qD
open _root_.List renaming getD_eq_getElem?_getD→qC,getElem?_eq_getElem→qH,getElem_mem→qR,idxOf_append→xQ,idxOf_cons→kM,length_append→qF,length_pos_iff→vO,length_take→qP,map_append→vJ,map_cons→xI,mem_map→vH,mem_of_mem_take→jD,take_left→yR,take_length→vI
open _root_.Nat renaming le_add_right→xF,le_refl→qB,le_trans→qI,lt_of_lt_of_le→qE,zero_le→qJ
open Go.Proofs.Tryz renaming prog→qA
open Go.ChangeShapes Go.WideShapes Go.ChangeAt Go.RowKit Go.Deep
open Go.Proofs.Tryz renaming func133→iX,func69→iY,ntmps133→iZ,ntmps69→i8,results133→i9,underlying199→ja
open MapKept renaming heap_alloc→du
open World renaming block_lt_of_cell?→bW,cell?→br,frozen?→fX,ownsRow_nil→aX,ownsRow→fk,rowIs_alloc→jc,setCell→bu
set_option maxHeartbeats 6400000
set_option maxRecDepth 20000
open Classical in
noncomputable def GI(lo:List Int)(rs:List (List Int))(x:Int):List Int×List (List Int)×Bool×Int:=
 if May lo rs then(if 0<=x/\x<=2147483647 then(if x∈AR lo rs then(lo,rs,I,0)else if lo.length+rs.flatten.length=20000 then([],[],I,12)else((DE lo rs x).1,(DE lo rs x).2,true,0))else([],[],I,2))else([],[],I,9)
def Df(w:M)(r:List Int×List (List Int)×Bool×Int)(e:Ending)(w':M):Prop:=
 ∃xo xc yo yc,e=L (C #[E #[.slice xo r.1.length xc,.slice yo r.2.1.length yc],.bool r.2.2.1,.int V r.2.2.2])/\T w.heap.size w w'/\O (Ac w' w.heap.size (.slice xo r.1.length xc) r.1)/\O (Bd w' w.heap.size (.slice yo r.2.1.length yc) r.2.1)
structure TwoU(w W0 w1:M)(x0 x1:J):Prop where
 below:T w.heap.size w w1
 arg:Bc w1 w.heap.size x0 x1
 res:Bw w1 (w.heap.size+1) (Y Z 0 0) (Y Z 0 0)
 lt:w.heap.size+1<W0.heap.size
theorem TwoU.start(w:M)(x0 x1:J)(t:TypeId):TwoU w ((w.alloc (N #[x0,x1] t)).alloc (N #[Y Z 0 0,Y Z 0 0] t)) ((w.alloc (N #[x0,x1] t)).alloc (N #[Y Z 0 0,Y Z 0 0] t)) x0 x1:=by
 obtain⟨hbA,hcA⟩:=Bc.arg w x0 x1 t;refine⟨hbA.alloc hbA.size _,hcA.later (ai),?_,by simp⟩;have:=Bw.new (w.alloc (N #[x0,x1] t)) (Y Z 0 0) (Y Z 0 0) t;simpa using this
theorem TwoU.later{w W0 w1 w2:M}{x0 x1:J}(h:TwoU w W0 w1 x0 x1)(hb:T w1.heap.size w1 w2):TwoU w W0 w2 x0 x1:=
 ⟨h.below.trans (hb.mono h.below.size),h.arg.later hb,h.res.later hb,h.lt⟩
theorem TwoU.end{w W0 w1:M}{x0 x1:J}(h:TwoU w W0 w1 x0 x1){lo:List Int}{rs:List (List Int)}(u v:J)(hx:Ac w1 W0.heap.size u lo)(hy:Bd w1 W0.heap.size v rs) :
  T w.heap.size w ((w1.setCell ⟨w.heap.size+1,0,Z⟩ u).setCell ⟨w.heap.size+1,1,Z⟩ v)/\Ac ((w1.setCell ⟨w.heap.size+1,0,Z⟩ u).setCell ⟨w.heap.size+1,1,Z⟩ v) w.heap.size u lo/\Bd ((w1.setCell ⟨w.heap.size+1,0,Z⟩ u).setCell ⟨w.heap.size+1,1,Z⟩ v) w.heap.size v rs:=by
 have hlt:=h.lt;obtain⟨⟨_,c0,c1⟩,_,_⟩:=h.res;have c1':(w1.setCell ⟨w.heap.size+1,0,Z⟩ u).cell? ⟨w.heap.size+1,1,Z⟩=U (Y Z 0 0):=by simp[go_sem,c1]
 exact⟨(h.below.setCell (p:=⟨w.heap.size+1,0,Z⟩) (by simp) _).setCell (p:=⟨w.heap.size+1,1,Z⟩) (by simp) _,((hx.setBox c0 _).setBox c1' _).mono (by omega),((hy.setBox (p:=⟨w.heap.size+1,0,Z⟩) (by show w.heap.size+1<_;omega) c0 _).setBox (p:=⟨w.heap.size+1,1,Z⟩) (by show w.heap.size+1<_;omega) c1' _).mono (by omega)⟩
theorem Kf(lo:List Int)(rs:List (List Int))(x c:Int)(la ra:Option Addr)(lc rc:Nat)(w:M)(hz:StSzU lo rs)(hL:IntsVU w (.slice la lo.length lc) lo)(hR:LisVU w (.slice ra rs.length rc) rs)(hh:Bq lo rs x=(I,c))(hc:c≠0) :
  H qA 133 #[E #[.slice la lo.length lc,.slice ra rs.length rc],.int V x] w (Df w ([],[],I,c)):=by
 obtain⟨W0,hW0⟩:∃W0,W0=((w.alloc (N #[.slice la lo.length lc,.slice ra rs.length rc] 161)).alloc (N #[Y Z 0 0,Y Z 0 0] 161)):=⟨_,rfl⟩;have hT:TwoU w W0 W0 (.slice la lo.length lc) (.slice ra rs.length rc):=by rw[hW0];exact TwoU.start w _ _ _
 obtain⟨_,a0,a1⟩:=id hT.arg;have hha:=Fk lo rs x la ra lc rc W0 hz (hL.below hT.below) (hR.below hT.below);rw[hh]at hha;generalize lo.length=m at *;generalize rs.length=n at *;have hc0:¬c=0:=hc;clear hL hR hz hh hc
 go_enter iX,iZ;go_wp2_with fail
 rw[<-hW0];clear hW0;go_wp2_with (first|(go_at_call 164;refine hha.mono ?_;rintro e w1 ⟨rfl,hb1⟩;have hT1:=hT.later hb1;obtain⟨⟨_,z0,z1⟩,g0,g1⟩:=id hT1.res))
 obtain⟨e1,e2,e3⟩:=hT1.end (Y Z 0 0) (Y Z 0 0) (Ac.nil w1 W0.heap.size) (Bd.nil w1 W0.heap.size);refine bodyPost_ret (v:=C #[E #[Y Z 0 0,Y Z 0 0],.bool I,.int V c]) ?_ rfl ⟨Z,0,Z,0,rfl,e1,e2,e3⟩;simp[results,i9,go_sem,z0,z1]
theorem Od(lo:List Int)(rs:List (List Int))(x:Int)(la ra:Option Addr)(lc rc:Nat)(w:M)(hz:StSzU lo rs)(hL:IntsVU w (.slice la lo.length lc) lo)(hR:LisVU w (.slice ra rs.length rc) rs)(hm:May lo rs)(hh:Bq lo rs x=(true,0)) :
  H qA 133 #[E #[.slice la lo.length lc,.slice ra rs.length rc],.int V x] w (Df w (lo,rs,I,0)):=by
 obtain⟨W0,hW0⟩:∃W0,W0=((w.alloc (N #[.slice la lo.length lc,.slice ra rs.length rc] 161)).alloc (N #[Y Z 0 0,Y Z 0 0] 161)):=⟨_,rfl⟩;have hT:TwoU w W0 W0 (.slice la lo.length lc) (.slice ra rs.length rc):=by rw[hW0];exact TwoU.start w _ _ _
 obtain⟨_,a0,a1⟩:=id hT.arg;have hha:=Fk lo rs x la ra lc rc W0 hz (hL.below hT.below) (hR.below hT.below);have hcl:∀i,i<rs.length->(rs.getD i []).length<=20000:=fun i hi=>by have:=El (Dc hi []);have:=hm.size.many;omega
 have HCp:O (∀w1,T w.heap.size w w1->H qA 166 #[.slice ra rs.length rc] w1 fun e w'=>∃yo yc,e=L (.slice yo rs.length yc)/\T w1.heap.size w1 w'/\O (LisO w' w1.heap.size (.slice yo rs.length yc) rs)):=fun w1 h=>Ff ra rc rs w1 hm.size.runs hcl (hR.below h);have HCd:O (∀w1,T w.heap.size w w1->H qA 165 #[.slice la lo.length lc] w1 fun e w'=>∃xo xc,e=L (.slice xo lo.length xc)/\T w1.heap.size w1 w'/\O (AZ w' w1.heap.size (.slice xo lo.length xc) lo)):=fun w1 h=>E5 _ lo w1 hz.loose (hL.below h);rw[hh]at hha;unfold Df;simp only;generalize lo.length=m at *;generalize rs.length=n at *;clear hL hR hz hh hm hcl
 go_enter iX,iZ;go_wp2_with fail
 rw[<-hW0];clear hW0;go_wp2_with (first|(go_at_call 164;refine hha.mono ?_;rintro e w1 ⟨rfl,hb1⟩;have hT1:=hT.later hb1))
 have hs1:=hb1.size;have hT1d:=hT1.later ((qD w1.heap.size w1).drew);have HT1:O (TwoU w W0 w1 (Y la m lc) (Y ra n rc)):=hT1;have HSt:O (∀w2,T w1.heap.size w1 w2->w2.cell? ⟨w.heap.size,0,Z⟩=U (Y la m lc)/\w2.cell? ⟨w.heap.size,1,Z⟩=U (Y ra n rc)):=fun w2 h=>(hT1.later h).arg.2;have hB0:T w1.heap.size w1 w1:=qD _ _;go_region_held3 (fun w'=>w'.cell? ⟨w.heap.size,0,Z⟩=U (Y la m lc)/\w'.cell? ⟨w.heap.size,1,Z⟩=U (Y ra n rc))
  (first|exact HSt.out _ hb13|exact HSt.out _ hb12|exact HSt.out _ hB0.drew|exact HSt.out _ hB0|(obtain⟨y0,y1⟩:=HSt.out _ hb13;exact⟨by simp[go_sem,y0],by simp[go_sem,y1]⟩))
  (first
   |(go_at_call 165;refine(HCd.out _ hT1d.below).mono ?_;rintro e w2 ⟨xo,xc,rfl,hb2,hx2⟩;have hb12:=hB0.drew.trans (hb2.mono hB0.drew.size);have hT2:=hT1.later hb12)
   |(go_at_call 166;refine(HCp.out _ hT2.below).mono ?_;rintro e w3 ⟨yo,yc,rfl,hb3,hx3⟩;have hb13:=ae hb12 hb3;have hT3:=hT2.later hb3;obtain⟨⟨_,z0,z1⟩,g0,g1⟩:=id hT3.res))
 obtain⟨e1,e2,e3⟩:=hT3.end (Y xo m xc) (Y yo n yc) ((hx2.out.later hb3 (qB _)).mono (qI hs1 (by simp))).n (hx3.out.x.mono (qI hs1 hb12.size));have HE2:O (Ac ((w3.setCell ⟨w.heap.size+1,0,Z⟩ (Y xo m xc)).setCell ⟨w.heap.size+1,1,Z⟩ (Y yo n yc)) w.heap.size (Y xo m xc) lo):=e2;have HE3:O (Bd ((w3.setCell ⟨w.heap.size+1,0,Z⟩ (Y xo m xc)).setCell ⟨w.heap.size+1,1,Z⟩ (Y yo n yc)) w.heap.size (Y yo n yc) rs):=e3;clear e2 e3 hT3 hT2 hT1 hT1d hT;go_wp2_with fail
 refine bodyPost_ret (v:=C #[E #[Y xo m xc,Y yo n yc],.bool I,.int V 0]) ?_ rfl ⟨xo,xc,yo,yc,rfl,e1,HE2,HE3⟩;simp[results,i9,go_sem,z0,z1]
theorem Oc(lo:List Int)(rs:List (List Int))(x:Int)(la ra:Option Addr)(lc rc:Nat)(w:M)(hz:StSzU lo rs)(hL:IntsVU w (.slice la lo.length lc) lo)(hR:LisVU w (.slice ra rs.length rc) rs)(hm:May lo rs)(hh:Bq lo rs x=(I,0))(hf:lo.length+rs.flatten.length=20000) :
  H qA 133 #[E #[.slice la lo.length lc,.slice ra rs.length rc],.int V x] w (Df w ([],[],I,12)):=by
 obtain⟨W0,hW0⟩:∃W0,W0=((w.alloc (N #[.slice la lo.length lc,.slice ra rs.length rc] 161)).alloc (N #[Y Z 0 0,Y Z 0 0] 161)):=⟨_,rfl⟩;have hT:TwoU w W0 W0 (.slice la lo.length lc) (.slice ra rs.length rc):=by rw[hW0];exact TwoU.start w _ _ _
 obtain⟨_,a0,a1⟩:=id hT.arg;have hha:=Fk lo rs x la ra lc rc W0 hz (hL.below hT.below) (hR.below hT.below);have hcl:∀i,i<rs.length->(rs.getD i []).length<=20000:=fun i hi=>by have:=El (Dc hi []);have:=hm.size.many;omega
 have HCp:O (∀w1,T w.heap.size w w1->H qA 166 #[.slice ra rs.length rc] w1 fun e w'=>∃yo yc,e=L (.slice yo rs.length yc)/\T w1.heap.size w1 w'/\O (LisO w' w1.heap.size (.slice yo rs.length yc) rs)):=fun w1 h=>Ff ra rc rs w1 hm.size.runs hcl (hR.below h);have HCd:O (∀w1,T w.heap.size w w1->H qA 165 #[.slice la lo.length lc] w1 fun e w'=>∃xo xc,e=L (.slice xo lo.length xc)/\T w1.heap.size w1 w'/\O (AZ w' w1.heap.size (.slice xo lo.length xc) lo)):=fun w1 h=>E5 _ lo w1 hz.loose (hL.below h);rw[hh]at hha;have HCn:O (∀w1,T w.heap.size w w1->H qA 167 #[E #[.slice la lo.length lc,.slice ra rs.length rc]] w1 fun e w'=>e=L (.int V 20000)/\T w1.heap.size w1 w'):=fun w1 h=>(GR lo rs la ra lc rc w1 hz (hR.below h)).mono fun e w' ⟨q,h1,h2,h3,_⟩=>⟨by rw[h1,h3 (by omega) (by omega),hf];rfl,h2⟩;generalize lo.length=m at *;generalize rs.length=n at *;clear hL hR hz hh hm hcl hf
 go_enter iX,iZ;go_wp2_with fail
 rw[<-hW0];clear hW0;go_wp2_with (first|(go_at_call 164;refine hha.mono ?_;rintro e w1 ⟨rfl,hb1⟩;have hT1:=hT.later hb1;obtain⟨_,q0,q1⟩:=id hT1.arg;have hcn:=HCn.out w1 hT1.below)|(go_at_call 167;refine hcn.mono ?_;rintro e w2 ⟨rfl,hb2⟩;have hT2:=hT1.later hb2;obtain⟨⟨_,z0,z1⟩,g0,g1⟩:=id hT2.res))
 obtain⟨e1,e2,e3⟩:=hT2.end (Y Z 0 0) (Y Z 0 0) (Ac.nil w2 W0.heap.size) (Bd.nil w2 W0.heap.size);refine bodyPost_ret (v:=C #[E #[Y Z 0 0,Y Z 0 0],.bool I,.int V 12]) ?_ rfl ⟨Z,0,Z,0,rfl,e1,e2,e3⟩;simp[results,i9,go_sem,z0,z1]
theorem Oe(lo:List Int)(rs:List (List Int))(x:Int)(la ra:Option Addr)(lc rc:Nat)(w:M)(hz:StSzU lo rs)(hL:IntsVU w (.slice la lo.length lc) lo)(hR:LisVU w (.slice ra rs.length rc) rs)(hm:May lo rs)(hh:Bq lo rs x=(I,0))(hf:¬lo.length+rs.flatten.length=20000)(h8:lo.length+1<8) :
  H qA 133 #[E #[.slice la lo.length lc,.slice ra rs.length rc],.int V x] w (Df w (lo++[x],rs,true,0)):=by
 obtain⟨W0,hW0⟩:∃W0,W0=((w.alloc (N #[.slice la lo.length lc,.slice ra rs.length rc] 161)).alloc (N #[Y Z 0 0,Y Z 0 0] 161)):=⟨_,rfl⟩;have hT:TwoU w W0 W0 (.slice la lo.length lc) (.slice ra rs.length rc):=by rw[hW0];exact TwoU.start w _ _ _
 obtain⟨_,a0,a1⟩:=id hT.arg;have hha:=Fk lo rs x la ra lc rc W0 hz (hL.below hT.below) (hR.below hT.below);have hcl:∀i,i<rs.length->(rs.getD i []).length<=20000:=fun i hi=>by have:=El (Dc hi []);have:=hm.size.many;omega
 have HCp:O (∀w1,T w.heap.size w w1->H qA 166 #[.slice ra rs.length rc] w1 fun e w'=>∃yo yc,e=L (.slice yo rs.length yc)/\T w1.heap.size w1 w'/\O (LisO w' w1.heap.size (.slice yo rs.length yc) rs)):=fun w1 h=>Ff ra rc rs w1 hm.size.runs hcl (hR.below h);have HCd:O (∀w1,T w.heap.size w w1->H qA 165 #[.slice la lo.length lc] w1 fun e w'=>∃xo xc,e=L (.slice xo lo.length xc)/\T w1.heap.size w1 w'/\O (AZ w' w1.heap.size (.slice xo lo.length xc) lo)):=fun w1 h=>E5 _ lo w1 hz.loose (hL.below h);rw[hh]at hha;have HCn:O (∀w1,T w.heap.size w w1->H qA 167 #[E #[.slice la lo.length lc,.slice ra rs.length rc]] w1 fun e w'=>∃q:Nat,e=L (.int V q)/\T w1.heap.size w1 w'/\¬q=20000):=fun w1 h=>(GR lo rs la ra lc rc w1 hz (hR.below h)).mono fun e w' ⟨q,h1,h2,h3,_⟩=>⟨q,h1,h2,by rw[h3 (by omega) hm.size.many];exact hf⟩;have HSn:O (∀(w1:M) (b:Nat) (v:J),w1.ownsRow b 3 1 v (lo.length+1) (AB lo++[.int V x])->AZ w1 b v (lo++[x])):=fun w1 b v h=>AZ.snoc h;have HRow:O (∀(w1:M) (b:Nat) (v:J),AZ w1 b v lo->w1.ownsRow b 3 1 v lo.length (AB lo)):=fun w1 b v h=>h;have hll:(lo++[x]).length=lo.length+1:=by simp
 unfold Df;simp only;rw[hll];generalize lo.length=m at *;generalize rs.length=n at *;clear hL hR hz hh hm hcl hf hll;have h8i:(m:Int)+1<8:=by omega
 go_enter iX,iZ;go_wp2_with fail
 rw[<-hW0];clear hW0;go_wp2_with (first|(go_at_call 164;refine hha.mono ?_;rintro e w1 ⟨rfl,hb1⟩;have hT1:=hT.later hb1;obtain⟨_,q0,q1⟩:=id hT1.arg;have hcn:=HCn.out w1 hT1.below;have hs1:=hb1.size)|(go_at_call 167;refine hcn.mono ?_;rintro e w2 ⟨q,rfl,hb2,hq⟩;have hT2:=hT1.later hb2;obtain⟨_,p0,p1⟩:=id hT2.arg;have hcd:=HCd.out w2 hT2.below;have hs2:=qI hs1 hb2.size;have hqi:¬(q:Int)=20000:=(by omega))|(go_at_call 165;refine hcd.mono ?_;rintro e w3 ⟨xo,xc,rfl,hb3,hx3⟩;have hT3:=hT2.later hb3;have hrow:=HRow.out _ _ _ hx3.out)|(at_builtin;refine M4 x rfl _ _ rfl w2.heap.size m xc xo _ rfl hrow rfl (by omega) hb3.size ?_;intro vo cap w4 ho4 hb4 _;have HO4:O (AZ w4 w2.heap.size (.slice vo (m+1) cap) (lo++[x])):=HSn.out _ _ _ ho4;have hT4:=hT2.later (hb3.trans hb4);obtain⟨_,r0,r1⟩:=id hT4.arg;have hcp:=HCp.out w4 hT4.below;clear ho4 hrow)|(go_at_call 166;refine hcp.mono ?_;rintro e w5 ⟨yo,yc,rfl,hb5,hx5⟩;have hT5:=hT4.later hb5;obtain⟨⟨_,z0,z1⟩,g0,g1⟩:=id hT5.res))
 obtain⟨e1,e2,e3⟩:=hT5.end (.slice vo (m+1) cap) (Y yo n yc) ((HO4.out.later hb5 (qB _)).mono hs2).n (hx5.out.x.mono (qI hs2 (hb3.trans hb4).size));refine bodyPost_ret (v:=C #[E #[.slice vo (m+1) cap,Y yo n yc],.bool true,.int V 0]) ?_ rfl ⟨vo,cap,yo,yc,rfl,e1,e2,e3⟩;simp[results,i9,go_sem,z0,z1]
theorem Of(lo:List Int)(rs:List (List Int))(x:Int)(la ra:Option Addr)(lc rc:Nat)(w:M)(hz:StSzU lo rs)(hL:IntsVU w (.slice la lo.length lc) lo)(hR:LisVU w (.slice ra rs.length rc) rs)(hm:May lo rs)(hh:Bq lo rs x=(I,0))(hx:x∉AR lo rs)(hf:¬lo.length+rs.flatten.length=20000)(h8:¬lo.length+1<8) :
  H qA 133 #[E #[.slice la lo.length lc,.slice ra rs.length rc],.int V x] w (Df w ([],Cm rs (lo++[x]),true,0)):=by
 obtain⟨W0,hW0⟩:∃W0,W0=((w.alloc (N #[.slice la lo.length lc,.slice ra rs.length rc] 161)).alloc (N #[Y Z 0 0,Y Z 0 0] 161)):=⟨_,rfl⟩;have hT:TwoU w W0 W0 (.slice la lo.length lc) (.slice ra rs.length rc):=by rw[hW0];exact TwoU.start w _ _ _
 obtain⟨_,a0,a1⟩:=id hT.arg;have hha:=Fk lo rs x la ra lc rc W0 hz (hL.below hT.below) (hR.below hT.below);have hcl:∀i,i<rs.length->(rs.getD i []).length<=20000:=fun i hi=>by have:=El (Dc hi []);have:=hm.size.many;omega
 have HCp:O (∀w1,T w.heap.size w w1->H qA 166 #[.slice ra rs.length rc] w1 fun e w'=>∃yo yc,e=L (.slice yo rs.length yc)/\T w1.heap.size w1 w'/\O (LisO w' w1.heap.size (.slice yo rs.length yc) rs)):=fun w1 h=>Ff ra rc rs w1 hm.size.runs hcl (hR.below h);have HCd:O (∀w1,T w.heap.size w w1->H qA 165 #[.slice la lo.length lc] w1 fun e w'=>∃xo xc,e=L (.slice xo lo.length xc)/\T w1.heap.size w1 w'/\O (AZ w' w1.heap.size (.slice xo lo.length xc) lo)):=fun w1 h=>E5 _ lo w1 hz.loose (hL.below h);rw[hh]at hha;have HCn:O (∀w1,T w.heap.size w w1->H qA 167 #[E #[.slice la lo.length lc,.slice ra rs.length rc]] w1 fun e w'=>∃q:Nat,e=L (.int V q)/\T w1.heap.size w1 w'/\¬q=20000):=fun w1 h=>(GR lo rs la ra lc rc w1 hz (hR.below h)).mono fun e w' ⟨q,h1,h2,h3,_⟩=>⟨q,h1,h2,by rw[h3 (by have:=hm.size.loose;omega) hm.size.many];exact hf⟩;have HSn:O (∀(w1:M) (b:Nat) (v:J),w1.ownsRow b 3 1 v (lo.length+1) (AB lo++[.int V x])->AZ w1 b v (lo++[x])):=fun w1 b v h=>AZ.snoc h;have HRow:O (∀(w1:M) (b:Nat) (v:J),AZ w1 b v lo->w1.ownsRow b 3 1 v lo.length (AB lo)):=fun w1 b v h=>h;have hll:(lo++[x]).length=lo.length+1:=by simp
 have hnd:(rs.flatten++(lo++[x])).Nodup:=by
  rw[<-List.append_assoc,List.nodup_append];exact⟨hm.nodup,by simp,fun a ha b hb e=>by simp at hb;subst hb;subst e;exact hx ha⟩
 have HRi:O (∀(v:J) (w1:M),IntsVU w1 v (lo++[x])->H qA 161 #[v] w1 fun e w'=>∃ao cap,e=L (.slice ao (lo.length+1) cap)/\T w1.heap.size w1 w'/\O (Ac w' w1.heap.size (.slice ao (lo.length+1) cap) (up (lo++[x])))):=fun v w1 h=>(NL v _ w1 (by rw[hll];have:=hm.size.loose;omega) h).mono fun e w' ⟨ao,cap,h1,h2,h3⟩=>⟨ao,cap,by rw[<-hll];exact h1,h2,by rw[<-hll];exact h3.out.n⟩;have HWi:O (∀(B:Nat) (uo:Option Addr) (uc:Nat) (w1:M),T w.heap.size w w1->B<=w1.heap.size->Ac w1 B (.slice uo (lo.length+1) uc) (up (lo++[x]))->H qA 168 #[.slice ra rs.length rc,.slice uo (lo.length+1) uc] w1 fun e w'=>∃yo yc,e=L (.slice yo (Cm rs (lo++[x])).length yc)/\T w1.heap.size w1 w'/\O (Bd w' B (.slice yo (Cm rs (lo++[x])).length yc) (Cm rs (lo++[x])))):=fun B uo uc w1 hb hBw h=>by
  have:=Ww B ra uo rc uc rs (lo++[x]) w1 hm.size.runs (by rw[hll];have:=hm.size.many;omega) hm.rise hnd (hR.below hb) hBw (by rw[hll];exact h);rw[hll]at this;exact this
 unfold Df;simp only[List.length_nil];have hloose:=hm.size.loose;generalize(Cm rs (lo++[x])).length=rl at *;generalize lo.length=m at *;generalize rs.length=n at *;clear hL hR hz hh hm hcl hf hll hnd hx;have h8i:¬(m:Int)+1<8:=by omega
 go_enter iX,iZ;go_wp2_with fail
 rw[<-hW0];clear hW0;go_wp2_with (first|(go_at_call 164;refine hha.mono ?_;rintro e w1 ⟨rfl,hb1⟩;have hT1:=hT.later hb1;obtain⟨_,q0,q1⟩:=id hT1.arg;have hcn:=HCn.out w1 hT1.below;have hs1:=hb1.size)|(go_at_call 167;refine hcn.mono ?_;rintro e w2 ⟨q,rfl,hb2,hq⟩;have hT2:=hT1.later hb2;obtain⟨_,p0,p1⟩:=id hT2.arg;have hcd:=HCd.out w2 hT2.below;have hs2:=qI hs1 hb2.size;have hqi:¬(q:Int)=20000:=(by omega))|(go_at_call 165;refine hcd.mono ?_;rintro e w3 ⟨xo,xc,rfl,hb3,hx3⟩;have hT3:=hT2.later hb3;have hrow:=HRow.out _ _ _ hx3.out)|(at_builtin;refine M4 x rfl _ _ rfl w2.heap.size m xc xo _ rfl hrow rfl (by omega) hb3.size ?_;intro vo cap w4 ho4 hb4 _;have HO4:O (AZ w4 w2.heap.size (.slice vo (m+1) cap) (lo++[x])):=HSn.out _ _ _ ho4;have hT4:=hT2.later (hb3.trans hb4);obtain⟨_,r0,r1⟩:=id hT4.arg;clear ho4 hrow))
 have hs4:=qI hs2 (hb3.trans hb4).size;have HT4:O (TwoU w W0 w4 (Y la m lc) (Y ra n rc)):=hT4;have HSt:O (∀w2,T w4.heap.size w4 w2->w2.cell? ⟨w.heap.size,0,Z⟩=U (Y la m lc)/\w2.cell? ⟨w.heap.size,1,Z⟩=U (Y ra n rc)):=fun w2 h=>(hT4.later h).arg.2;have hB0:T w4.heap.size w4 w4:=qD _ _;have HV4:O (IntsVU w4.drew (.slice vo (m+1) cap) (lo++[x])):=HO4.out.v.below hB0.drew;go_region_held3 (fun w'=>w'.cell? ⟨w.heap.size,0,Z⟩=U (Y la m lc)/\w'.cell? ⟨w.heap.size,1,Z⟩=U (Y ra n rc))
  (first|exact HSt.out _ hb46|exact HSt.out _ hb45|exact HSt.out _ hB0.drew|exact HSt.out _ hB0|(obtain⟨y0,y1⟩:=HSt.out _ hb46;exact⟨by simp[go_sem,y0],by simp[go_sem,y1]⟩))
  (first
   |(go_at_call 161;refine(HRi.out _ _ HV4.out).mono ?_;rintro e w5 ⟨uo,uc,rfl,hb5,hx5⟩;have hb45:=hB0.drew.trans (hb5.mono hB0.drew.size);have hT5:=hT4.later hb45)
   |(go_at_call 168;refine(HWi.out w4.heap.size _ _ _ hT5.below hb45.size hx5.out).mono ?_;rintro e w6 ⟨yo,yc,rfl,hb6,hx6⟩;have hb46:=ae hb45 hb6;have hT6:=hT5.later hb6;obtain⟨⟨_,z0,z1⟩,g0,g1⟩:=id hT6.res))
 obtain⟨e1,e2,e3⟩:=hT6.end (Y Z 0 0) (Y yo rl yc) (Ac.nil w6 W0.heap.size) (hx6.out.mono hs4);have HE2:O (Ac ((w6.setCell ⟨w.heap.size+1,0,Z⟩ (Y Z 0 0)).setCell ⟨w.heap.size+1,1,Z⟩ (Y yo rl yc)) w.heap.size (Y Z 0 0) []):=e2;have HE3:O (Bd ((w6.setCell ⟨w.heap.size+1,0,Z⟩ (Y Z 0 0)).setCell ⟨w.heap.size+1,1,Z⟩ (Y yo rl yc)) w.heap.size (Y yo rl yc) (Cm rs (lo++[x]))):=e3;clear e2 e3;go_wp2_with fail
 refine bodyPost_ret (v:=C #[E #[Y Z 0 0,Y yo rl yc],.bool true,.int V 0]) ?_ rfl ⟨Z,0,yo,yc,rfl,e1,HE2,HE3⟩;simp[results,i9,go_sem,z0,z1]
theorem Ob(lo:List Int)(rs:List (List Int))(x:Int)(la ra:Option Addr)(lc rc:Nat)(w:M)(hz:StSzU lo rs)(hL:IntsVU w (.slice la lo.length lc) lo)(hR:LisVU w (.slice ra rs.length rc) rs) :
  H qA 133 #[E #[.slice la lo.length lc,.slice ra rs.length rc],.int V x] w (Df w (GI lo rs x)):=by
 unfold GI;by_cases hm:May lo rs
 .rw [aj hm];by_cases hx:0<=x/\x<=2147483647
  .rw [aj hx];by_cases hk:x∈AR lo rs
   .rw[aj hk];exact Od lo rs x la ra lc rc w hz hL hR hm (by unfold Bq;rw[aj hm,aj hx,decide_eq_true hk])
   .rw[ak hk];have hh:Bq lo rs x=(I,0):=by unfold Bq;rw[aj hm,aj hx,decide_eq_false hk]
    by_cases hf:lo.length+rs.flatten.length=20000
    .rw[aj hf];exact Oc lo rs x la ra lc rc w hz hL hR hm hh hf
    .rw[ak hf];unfold DE;by_cases h8:lo.length+1<8
     .rw[aj h8];exact Oe lo rs x la ra lc rc w hz hL hR hm hh hf h8
     .rw[ak h8];exact Of lo rs x la ra lc rc w hz hL hR hm hh hk hf h8
  .rw[ak hx];exact Kf lo rs x 2 la ra lc rc w hz hL hR (by unfold Bq;rw[aj hm,ak hx]) (by decide)
 .rw[ak hm];exact Kf lo rs x 9 la ra lc rc w hz hL hR (by unfold Bq;rw[ak hm]) (by decide)
open Go.ChangeShapes Go.WideShapes Go.ChangeAt Go.RowKit Go.Deep Go.Maps
open Terms Tm
def Cc(w:M)(P:Nat->Prop)(v:J)(l:List Int):Prop:=IntsVU w v l/\∀b off n c,v=Y (U ⟨b,off,Z⟩) n c->l≠[]->P b
def LoP(w:M)(P:Nat->Prop)(lv rv:J)(lo:List Int)(rs:List (List Int)):Prop:=Cc w P lv lo/\∃us,w.ownsRow 0 43 1 rv rs.length us/\(∀b,rv.ownBlock=U b->P b)/\Ba (Cc w P) us rs
section
variable{w w':M}{P Q:Nat -> Prop}{v lv rv:J}{l lo:List Int}{rs:List (List Int)}
theorem Cc.blocks(h:Cc w P v l)(hs:w.heap.size<=w'.heap.size)(hb:∀b,b<w.heap.size->P b->w'.heap[b]? = w.heap[b]?/\Q b):Cc w' Q v l:=by
 obtain⟨⟨ao,cap,rfl,h0,h1⟩,h2⟩:=h;refine⟨⟨ao,cap,rfl,h0,fun hne=>?_⟩,fun b off n c e hne=>?_⟩
 .obtain ⟨b,off,rfl,hlt,hat⟩:=h1 hne;refine⟨b,off,rfl,qE hlt hs,fun i hi=>?_⟩;rw[World.cell?_of_block (a:=⟨b,off+i,Z⟩) (hb b hlt (h2 b off _ _ rfl hne)).1];exact hat i hi
 .obtain ⟨b',off',e',hlt,_⟩:=h1 hne;injection e with e1 _ _;rw[e']at e1;injection e1 with e1;injection e1 with e1 _;subst e1;exact(hb _ hlt (h2 _ off' _ _ (by rw[e']) hne)).2
theorem LoP.blocks(h:LoP w P lv rv lo rs)(hs:w.heap.size<=w'.heap.size)(hb:∀b,b<w.heap.size->P b->w'.heap[b]? = w.heap[b]?/\Q b):LoP w' Q lv rv lo rs:=by
 obtain⟨h1,us,h2,h3,h4⟩:=h;refine⟨h1.blocks hs hb,us,⟨h2.1,?_⟩,fun b e=>?_,h4.1,fun i hi=>(h4.2 i hi).blocks hs hb⟩
 .rcases h2.2 with h5|⟨g,cap,cur,e,hg,hh,r⟩
  .exact .inl h5
  .exact .inr ⟨g,cap,cur,e,hg,((hb g (qG.1 hh).1 (h3 g (by rw[e];rfl))).1).trans hh,r⟩
 .exact (hb b (h2.lt b e).2 (h3 b e)).2
theorem LoP.two(h:LoP w P lv rv lo rs):IntsVU w lv lo/\LisVU w rv rs:=by
 obtain⟨h1,us,h2,h3,h4⟩:=h;exact⟨h1.1,JC h2 ⟨h4.1,fun i hi=>(h4.2 i hi).1⟩⟩
theorem LoP.of{B:Nat}(h1:Ac w B lv lo)(h2:Bd w B rv rs):LoP w (fun b=>B<=b) lv rv lo rs:=by
 obtain⟨us,h3,h4⟩:=h2;exact⟨h1,us,Az h3 (qJ _),fun b e=>(h3.lt b e).1,h4⟩
theorem LoP.nil:LoP w P (Y Z 0 0) (Y Z 0 0) [] []:=⟨⟨I3 w,fun _ _ _ _ _ h=>absurd rfl h⟩,[],aX _ _ _ _,fun b e=>by simp[Value.ownBlock]at e,Ba.nil _⟩
end
def seB(g0:J)(g1:Int)(g2 g3:J)(g4:Int)(fv:J)(up:Bool)(fo th:Nat)(dv:J)(sy:Nat)(lv rv:J)(ag:Nat):Obj:=N #[g0,.int V g1,g2,g3,.int V g4,fv,.bool up,.int V fo,.int V th,dv,.int V sy,lv,rv,.int V ag] 163 (0,0)
section
variable{w:M}{X:Nat}{g0 g2 g3 fv dv lv rv:J}{g1 g4:Int}{up:Bool}{fo th sy ag:Nat}
theorem BT(h:w.heap[X]? = U (seB g0 g1 g2 g3 g4 fv up fo th dv sy lv rv ag)):(w.cell? ⟨X,0,Z⟩=U g0/\w.cell? ⟨X,1,Z⟩=U (.int V g1)/\w.cell? ⟨X,2,Z⟩=U g2/\w.cell? ⟨X,3,Z⟩=U g3/\w.cell? ⟨X,4,Z⟩=U (.int V g4))/\w.cell? ⟨X,5,Z⟩=U fv/\w.cell? ⟨X,6,Z⟩=U (.bool up)/\w.cell? ⟨X,7,Z⟩=U (.int V fo)/\w.cell? ⟨X,8,Z⟩=U (.int V th)/\w.cell? ⟨X,9,Z⟩=U dv/\w.cell? ⟨X,10,Z⟩=U (.int V sy)/\w.cell? ⟨X,11,Z⟩=U lv/\w.cell? ⟨X,12,Z⟩=U rv/\w.cell? ⟨X,13,Z⟩=U (.int V ag):=by
 unfold seB at h;refine⟨⟨?_,?_,?_,?_,?_⟩,?_,?_,?_,?_,?_,?_,?_,?_,?_⟩<;>simp[br,h]
theorem CG(h:w.heap[X]? = U (seB g0 g1 g2 g3 g4 fv up fo th dv sy lv rv ag))(i:Nat):w.frozen? ⟨X,i,Z⟩=false:=by
 unfold seB at h;simp[fX,h]
theorem NZ(h:w.heap[X]? = U (seB g0 g1 g2 g3 g4 fv up fo th dv sy lv rv ag))(x:Bool):(w.setCell ⟨X,6,Z⟩ (.bool x)).heap[X]? = U (seB g0 g1 g2 g3 g4 fv x fo th dv sy lv rv ag):=by
 unfold seB at *;simp[bu,qS,h]
theorem Ju(h:w.heap[X]? = U (seB g0 g1 g2 g3 g4 fv up fo th dv sy lv rv ag))(x:Nat):(w.setCell ⟨X,7,Z⟩ (.int V x)).heap[X]? = U (seB g0 g1 g2 g3 g4 fv up x th dv sy lv rv ag):=by
 unfold seB at *;simp[bu,qS,h]
theorem NY(h:w.heap[X]? = U (seB g0 g1 g2 g3 g4 fv up fo th dv sy lv rv ag))(x:Nat):(w.setCell ⟨X,8,Z⟩ (.int V x)).heap[X]? = U (seB g0 g1 g2 g3 g4 fv up fo x dv sy lv rv ag):=by
 unfold seB at *;simp[bu,qS,h]
theorem NX(h:w.heap[X]? = U (seB g0 g1 g2 g3 g4 fv up fo th dv sy lv rv ag))(x:J):(w.setCell ⟨X,9,Z⟩ x).heap[X]? = U (seB g0 g1 g2 g3 g4 fv up fo th x sy lv rv ag):=by
 unfold seB at *;simp[bu,qS,h]
theorem U1(h:w.heap[X]? = U (seB g0 g1 g2 g3 g4 fv up fo th dv sy lv rv ag))(x:Nat):(w.setCell ⟨X,10,Z⟩ (.int V x)).heap[X]? = U (seB g0 g1 g2 g3 g4 fv up fo th dv x lv rv ag):=by
 unfold seB at *;simp[bu,qS,h]
theorem U0(h:w.heap[X]? = U (seB g0 g1 g2 g3 g4 fv up fo th dv sy lv rv ag))(x y:J):((w.setCell ⟨X,11,Z⟩ x).setCell ⟨X,12,Z⟩ y).heap[X]? = U (seB g0 g1 g2 g3 g4 fv up fo th dv sy x y ag):=by
 unfold seB at *;simp[bu,qS,h]
theorem Uz(h:w.heap[X]? = U (seB g0 g1 g2 g3 g4 fv up fo th dv sy lv rv ag))(x:Nat):(w.setCell ⟨X,13,Z⟩ (.int V x)).heap[X]? = U (seB g0 g1 g2 g3 g4 fv up fo th dv sy lv rv x):=by
 unfold seB at *;simp[bu,qS,h]
end
def DV(w:M)(fb:Nat)(m:Mo)(ps:List am)(l:am)(K:Nat):Prop:=fb<w.heap.size/\∀i,i<K->w.cell? ⟨fb,i*3,Z⟩=U (.int V (AP ((xpP m ps l K).getD i (0,0))))/\w.cell? ⟨fb,i*3+1,Z⟩=U (.int V ((fN m ps l (i+1)-fN m ps l i:Nat):Int))/\∃ro rc,w.cell? ⟨fb,i*3+2,Z⟩=U (.slice ro (AD (rcX m ps l i)).length rc)/\BV w (.slice ro (AD (rcX m ps l i)).length rc) (AD (rcX m ps l i))
noncomputable def kyX(m:Mo)(ps:List am)(l:am)(K i:Nat):Int:=AP ((xpP m ps l K).getD i (0,0))
structure SxI(m:Mo)(ps:List am)(l:am)(K:Nat)(w0 w:M)(st:Sr)(g0:J)(g1:Int)(g2 g3:J)(g4:Int)(fb:Nat)(dso lo ro:Option Addr)(dc lc rc:Nat)(lol:List Int)(rsl:List (List Int)):Prop where
 box:w.heap[w0.heap.size]? = U (seB g0 g1 g2 g3 g4 (Y (U ⟨fb,0,Z⟩) K K) st.up (fN m ps l st.n) st.n (.slice dso (byX m ps l st.n).length dc) (byX m ps l st.s).length (.slice lo lol.length lc) (.slice ro rsl.length rc) st.ag)
 data:w.ownsRow (w0.heap.size+1) 5 1 (.slice dso (byX m ps l st.n).length dc) (byX m ps l st.n).length (AG (byX m ps l st.n))
 lost:LoP w (fun b=>w0.heap.size+1<=b/\(Value.slice dso (byX m ps l st.n).length dc).ownBlock≠U b) (.slice lo lol.length lc) (.slice ro rsl.length rc) lol rsl
 may:May lol rsl
 keys:∀x∈AR lol rsl,∃p,p<st.mx/\x=kyX m ps l K p
 back:∀p,st.n<=p->p<st.mx->kyX m ps l K p∈AR lol rsl
structure SxV(m:Mo)(ps:List am)(l:am)(K:Nat)(w0 w:M)(g0:J)(g1:Int)(g2 g3:J)(g4:Int)(fb:Nat)(st:Sr):Prop where
 ok:SrOk K st
 down:st.up=I->st.s=st.n
 bel:T w0.heap.size w0 w
 fnd:DV w0 fb m ps l K
 lies:∃dso lo ro dc lc rc lol rsl,SxI m ps l K w0 w st g0 g1 g2 g3 g4 fb dso lo ro dc lc rc lol rsl
section
variable{m:Mo}{ps:List am}{l:am}{K fb:Nat}{w0 w w':M}{st:Sr}{g0 g2 g3:J}{g1 g4:Int}
theorem SxI.lt{dso lo ro:Option Addr}{dc lc rc:Nat}{lol:List Int}{rsl:List (List Int)}(h:SxI m ps l K w0 w st g0 g1 g2 g3 g4 fb dso lo ro dc lc rc lol rsl):w0.heap.size<w.heap.size:=(qG.1 h.box).1
theorem SxI.below{dso lo ro:Option Addr}{dc lc rc:Nat}{lol:List Int}{rsl:List (List Int)}(h:SxI m ps l K w0 w st g0 g1 g2 g3 g4 fb dso lo ro dc lc rc lol rsl)(hb:T w.heap.size w w'):SxI m ps l K w0 w' st g0 g1 g2 g3 g4 fb dso lo ro dc lc rc lol rsl:=
 ⟨(hb.block _ h.lt).trans h.box,Ap h.data hb (qB _),h.lost.blocks hb.size fun b hlt hp=>⟨hb.block b hlt,hp⟩,h.may,h.keys,h.back⟩
theorem SxV.below(h:SxV m ps l K w0 w g0 g1 g2 g3 g4 fb st)(hb:T w.heap.size w w'):SxV m ps l K w0 w' g0 g1 g2 g3 g4 fb st:=by
 obtain⟨dso,lo,ro,dc,lc,rc,lol,rsl,h1⟩:=h.lies;exact⟨h.ok,h.down,h.bel.trans (hb.mono h.bel.size),h.fnd,dso,lo,ro,dc,lc,rc,lol,rsl,h1.below hb⟩
theorem SxI.setB{dso lo ro:Option Addr}{dc lc rc:Nat}{lol:List Int}{rsl:List (List Int)}(h:SxI m ps l K w0 w st g0 g1 g2 g3 g4 fb dso lo ro dc lc rc lol rsl)(i:Nat)(v:J):(w.setCell ⟨w0.heap.size,i,Z⟩ v).ownsRow (w0.heap.size+1) 5 1 (.slice dso (byX m ps l st.n).length dc) (byX m ps l st.n).length (AG (byX m ps l st.n))/\LoP (w.setCell ⟨w0.heap.size,i,Z⟩ v) (fun b=>w0.heap.size+1<=b/\(Value.slice dso (byX m ps l st.n).length dc).ownBlock≠U b) (.slice lo lol.length lc) (.slice ro rsl.length rc) lol rsl:=
 ⟨BX h.data (Chg.setCell w _ _) (fun g e z=>by have:=(h.data.lt g e).1;have z':g=w0.heap.size:=z;omega),h.lost.blocks (by simp) fun b _ hp=>⟨RowKit.Below.heap_setCell _ _ _ _ (by show b≠w0.heap.size;omega),hp⟩⟩
theorem SxV.bel_set(h:SxV m ps l K w0 w g0 g1 g2 g3 g4 fb st)(i:Nat)(v:J):T w0.heap.size w0 (w.setCell ⟨w0.heap.size,i,Z⟩ v):=h.bel.setCell (p:=⟨w0.heap.size,i,Z⟩) (qB _) v
end
def A7(w:M)(b:Nat)(S:am):Prop:=
 ∃D:DataW J,w.ownsMap qA 3 Eh b S.length D/\Maps.size D=S.length/\∀k:Int,Maps.has D (.int V k)=decide (k∈S.map AP)/\(k∈S.map AP->∀z,D.atKey (.int V k) z=.held (.int V ((S.map AP).idxOf k:Nat)))
section
variable{w w':M}{b:Nat}{S:am}
theorem A7.new(h:w.heap[b]? = U (.map #[] 0)):A7 w b []:=by
 obtain⟨es,c,h1,h2,h3,h4⟩:=World.ownsMap_made w qA 3 Eh;rw[(du w _).1]at h1;injection h1 with h1;injection h1 with h5 h6;subst h5 h6;exact⟨.map [],⟨#[],0,h,h2,qB _,rfl⟩,rfl,fun k=>⟨by simp[Maps.has],fun hk=>by simp at hk⟩⟩
theorem A7.lt(h:A7 w b S):b<w.heap.size:=by
 obtain⟨D,h1,_⟩:=h;exact h1.lt
theorem A7.isMap(h:A7 w b S):∃es c,w.heap[b]? = U (.map es c):=by
 obtain⟨D,⟨es,c,h1,_⟩,_⟩:=h;exact⟨es,c,h1⟩
theorem A7.kept(h:A7 w b S)(e:w'.heap[b]? = w.heap[b]?):A7 w' b S:=by
 obtain⟨D,⟨es,c,h1,h2⟩,h3⟩:=h;exact⟨D,⟨es,c,e.trans h1,h2⟩,h3⟩
theorem A7.below(h:A7 w b S)(hb:T w.heap.size w w'):A7 w' b S:=h.kept (hb.block b h.lt)
theorem A7.look(h:A7 w b S){k:Int}(hk:-9223372036854775808<=k/\k<=9223372036854775807)(c:Bool):(Instr.lookup 199 (.map (U b)) (.int V k) c).run qA w=.ok (if c=true then C #[if k∈S.map AP then .int V ((S.map AP).idxOf k:Nat)else .int V 0,.bool (decide (k∈S.map AP))]else if k∈S.map AP then .int V ((S.map AP).idxOf k:Nat)else .int V 0) w:=by
 obtain⟨D,h1,_,h2⟩:=h;obtain⟨hs,hv⟩:=h2 k;have key:∀(v:J) (ps:List MemPlace),Eh v=U (D.atKey (.int V k) (.held (.int V 0)),ps)->v=if k∈S.map AP then .int V ((S.map AP).idxOf k:Nat)else .int V 0:=fun v ps hR=>by
  simp only[Eh,Option.some.injEq,Prod.mk.injEq]at hR;by_cases hm:k∈S.map AP
  .rw[aj hm];rw[hv hm]at hR;have e1:=hR.1;injection e1
  .rw[ak hm];rw[decide_eq_false hm]at hs;rw[Maps.atKey_of_not_has (D:=D) (k:=.int V k) (by simpa using hs)]at hR;have e1:=hR.1;injection e1
 cases c with
 |true=>
  obtain⟨v,ps,hrun,hR⟩:=h1.look_ok EB ja (De w) (zd:=.held (.int V 0)) (zp:=[]) rfl (Ei hk);rw[hrun,hs,aj rfl,key v ps hR]
 |false=>
  obtain⟨v,ps,hrun,hR⟩:=h1.lookup EB ja (De w) (zd:=.held (.int V 0)) (zp:=[]) rfl (Ei hk);rw[hrun,ak (by simp),key v ps hR]
theorem A7.len(h:A7 w b S)(ty:TypeId):(Builtin.len_ #[199] ty #[.map (U b)]).run qA w=.ok (.int V (S.length:Nat)) w:=by
 obtain⟨D,h1,h2,_⟩:=h;rw[h1.len ja ty,h2]
theorem A7.put(h:A7 w b S){p:Int×Int}(hk:-9223372036854775808<=AP p/\AP p<=9223372036854775807)(hS:AP p∉S.map AP)(hn:S.length<maxLen):∃w',(Instr.mapUpdate 199 (.map (U b)) (.int V (AP p)) (.int V (S.length:Nat))).run qA w=.ok () w'/\A7 w' b (S++[p])/\w.grownBy w' (U b):=by
 obtain⟨D,h1,h2,h3⟩:=h;obtain⟨w',hr,hm,hg⟩:=h1.update EB ja hn (Ei hk) (val:=.int V (S.length:Nat)) (d:=.held (.int V (S.length:Nat))) (ps:=[]) rfl;have hlit:WideAt.IsKeyLit (.int V (AP p)):=by simp[WideAt.IsKeyLit]
 have hno:Maps.has D (.int V (AP p))=false:=by rw[(h3 _).1,decide_eq_false hS]
 refine⟨w',hr,⟨_,by rw[qF];exact hm,?_,fun k=>?_⟩,hg⟩
 .rw[Maps.size_put (h1.tidy EB),hno,h2];simp
 .rw[vJ,xI,List.map_nil];by_cases hkp:k=AP p
  .subst hkp;refine⟨by rw[Maps.has_put_same h1.isMap hlit];simp,fun _ z=>?_⟩;rw[Maps.atKey_put_same h1.isMap hlit];rw[xQ,ak hS];simp
  .have hne:Lit.int .i64 k≠.int V (AP p):=fun e=>hkp (by injection e);obtain⟨h4,h5⟩:=h3 k;refine⟨by rw[Maps.has_put_other hne,h4];simp[hkp],fun hm z=>?_⟩;have hm':k∈S.map AP:=by simpa[hkp]using hm
   rw[Maps.atKey_put_other hne,h5 hm',xQ,aj hm']
def EU(S:am):Prop:=∀p∈S,(-9223372036854775808<=AP p/\AP p<=9223372036854775807)/\Co p/\∀q∈S,AP p=AP q->p=q
theorem Rr{S R:am}(h:EU R)(hS:∀q∈S,q∈R){p:Int×Int}(hp:p∈R):AP p∈S.map AP↔p∈S:=by
 constructor
 .intro hm;obtain⟨q,hq,e⟩:=vH.1 hm;rw[(h p hp).2.2 q (hS q hq) e.symm];exact hq
 .exact fun hm=>vH.2 ⟨p,hm,rfl⟩
end
def GD(w:M)(b:Nat)(S x:am)(e:Ending)(w':M):Prop:=
 ∃ao cap,e=L (.slice ao ((AH S x).length-S.length) cap)/\Chg (fun i=>i=b) w w'/\A7 w' b (AH S x)/\O (w'.ownsRow w.heap.size 3 1 (.slice ao ((AH S x).length-S.length) cap) ((AH S x).length-S.length) (AB (((AH S x).drop S.length).map AP)))
section
variable{w w':M}{b:Nat}{S x:am}
theorem Lq(p:Int×Int)(w:M)(h0:0<=p.1/\p.1<=1000000)(h1:0<=p.2/\p.2<=1000000):H qA 94 #[E #[G V p.1,.int V p.2]] w fun e w'=>e=L (.int V (AP p))/\T w.heap.size w w':=by
 obtain⟨a,c⟩:=p;simp only at h0 h1⊢;have hb:T w.heap.size w (w.alloc (N #[G V a,.int V c] 82)):=ai;unfold AP;simp only;go_enter Tryz.func94,Tryz.ntmps94;go_wp2;go_ret;exact⟨rfl,hb⟩
end
theorem Se(w:M)(b:Nat)(S x R:am)(so:Option Addr)(sc:Nat)(hK:A7 w b S)(hx:SpV w (.slice so x.length sc) x)(hsep:x≠[]->∀a,so=U a->a.block≠b)(hR:∀p∈R,(0<=p.1/\p.1<=1000000)/\0<=p.2/\p.2<=1000000)(h1:EU R)(hSR:∀q∈S,q∈R)(hxR:∀q∈x,q∈R)(hz:S.length+x.length<=1000000) :
  H qA 93 #[.map (U b),.slice so x.length sc] w (GD w b S x):=by
 obtain⟨n,hn⟩:∃n,x.length=n:=⟨_,rfl⟩;have HN:O (x.length=n):=hn;have HLs:O (∀wr,Chg (fun i=>i=b) w wr->SpV wr (Y so n sc) x):=fun wr h=>by
  by_cases e:x=[]
  .exact ⟨so,sc,by rw[hn],fun h2=>absurd e h2⟩
  .have:=hx.chg h (hsep e);rw[hn]at this;exact this
 have HSz:O (∀k,S.length<=(AH S (x.take k)).length/\(AH S (x.take k)).length<=S.length+n):=fun k=>by
  have:=Hh (x.take k) S;have h2:(x.take k).length<=x.length:=by rw[qP];omega
  show _/\_;omega
 have HSub:O (∀k,∀q∈AH S (x.take k),q∈R):=fun k q hq=>by
  rcases(Eo _ _ _).1 hq with h|h
  .exact hSR q h
  .exact hxR q (jD h)
 have HR:O (∀p∈R,(0<=p.1/\p.1<=1000000)/\0<=p.2/\p.2<=1000000):=hR;have HO:O (EU R):=h1;have HxR:O (∀q∈x,q∈R):=hxR;have HK0:O (A7 w b (AH S (x.take 0))):=hK;have hb0:b<w.heap.size:=hK.lt;obtain⟨i0,hi,hz0,hz1,hz2⟩:=info_parts BS;unfold GD;rw[hn];have HE:O (x.take n=x):=by show _=_;rw[<-hn,vI]
 have hnz:S.length+n<=1000000:=by omega
 clear hK hx hsep hz hn hR h1 hSR hxR;go_enter Tryz.func93,Tryz.ntmps93;go_wp2_with fail
 go_loopw [5,13] (fun f i wr=>∃(k fn:Nat) (fo:Option Addr) (fc:Nat),k<=n/\i=.int V k/\f=Y fo fn fc/\O (fn=(AH S (x.take k)).length-S.length/\wr.ownsRow w.heap.size 3 1 (Y fo fn fc) fn (AB (((AH S (x.take k)).drop S.length).map AP))/\A7 wr b (AH S (x.take k))/\Chg (fun i=>i=b) w wr)) (fun _ i _=>n-(intOf i).toNat)
 case atStart=>exact⟨0,0,Z,0,qJ _,rfl,rfl,by show 0=S.length-S.length;omega,by show fk _ _ _ _ _ _ (AB ((S.drop S.length).map AP));rw[List.drop_length];exact aX _ _ _ _,HK0.out,Chg.refl _ _⟩
 case round=>
  obtain⟨k,fn,fo,fc,hk,rfl,rfl,HA⟩:=hrel;by_cases hlt:k<n
  .have hlt2:k<x.length:=by rw[HN.out];exact hlt
   have HC:O (Chg (fun i=>i=b) w wr):=HA.out.2.2.2;obtain⟨pb,off,rfl,hbl,c0,c1⟩:=(HLs.out wr HC.out).get hlt2;have hki:(k:Int)<(n:Int):=by omega
   have HT:=(show O _ from Hi (S:=S) hlt2);have hpR:x.getD k (0,0)∈R:=HxR.out _ (by rw[qC,qH hlt2];exact qR _);have hsz:=HSz.out k;have hsub:=HSub.out k;have hmem:=Rr HO.out hsub hpR;have hkr:=(HO.out _ hpR).1;have hrg:=HR.out _ hpR;generalize hSk:AH S (x.take k)=Sk at *;generalize x.getD k (0,0)=p at *;have hko:=fun w1=>Lq p w1 hrg.1 hrg.2
   obtain⟨p1,p2⟩:=p;simp only at c0 c1 hko;have hal:T wr.heap.size wr (wr.alloc (N #[G V p1,.int V p2] 82)):=ai;generalize hkp:AP (p1,p2)=kp at *
   by_cases hin:(p1,p2)∈Sk
   .have hin2:=hmem.2 hin;have HT2:O (AH S (x.take (k+1))=Sk):=by show _=_;rw[HT.out,Jg hin]
    have hlk:∀w2,T wr.heap.size wr w2->(Instr.lookup 199 (.map (U b)) (.int V kp) true).run qA w2=.ok (C #[G V ((Sk.map AP).idxOf kp:Nat),.bool true]) w2:=fun w2 h=>by
     have:=(HA.out.2.2.1.below h).look hkr true;rw[aj rfl,aj hin2,decide_eq_true hin2]at this;exact this
    generalize(Sk.map AP).idxOf kp=ix at *;have HLk:=(show O _ from hlk)
    clear hlk hmem hin2 hpR hsub hrg;go_wp2_with (go_at_call 94;refine(hko _).mono ?_;rintro e w2 ⟨rfl,hb2⟩;have hw2:=ae hal hb2;have hl2:=HLk.out w2 hw2)
    go_roundw
    case rel=>exact⟨k+1,fn,fo,fc,by omega,by go_num,rfl,by rw[HT2.out];exact HA.out.1,by rw[HT2.out];exact Ap HA.out.2.1 hw2 (qB _),by rw[HT2.out];exact HA.out.2.2.1.below hw2,HC.out.trans (Chg.of hw2)⟩
    case measure=>simp[intOf];omega
   .have hin2:kp∉Sk.map AP:=fun h=>hin (hmem.1 h);have HT2:O (AH S (x.take (k+1))=Sk++[(p1,p2)]):=by show _=_;rw[HT.out,Hg hin]
    have hlk:∀w2,T wr.heap.size wr w2->(Instr.lookup 199 (.map (U b)) (.int V kp) true).run qA w2=.ok (C #[G V 0,.bool I]) w2/\(Builtin.len_ #[199] 3 #[.map (U b)]).run qA w2=.ok (.int V (Sk.length:Nat)) w2/\∃w',(Instr.mapUpdate 199 (.map (U b)) (.int V kp) (.int V (Sk.length:Nat))).run qA w2=.ok () w'/\A7 w' b (Sk++[(p1,p2)])/\w2.grownBy w' (U b):=fun w2 h=>by
     have hq:=HA.out.2.2.1.below h;have:=hq.look hkr true;rw[aj rfl,ak hin2,decide_eq_false hin2]at this;refine⟨this,hq.len _,?_⟩;have:=hq.put (p:=(p1,p2)) (by rw[hkp];exact hkr) (by rw[hkp];exact hin2) (by unfold maxLen;omega);rw[hkp]at this;exact this
    have HLk:=(show O _ from hlk);have HFn:O (fn=Sk.length-S.length):=HA.out.1;have hfn:fn<=1000000:=by have:=HFn.out;omega
    have HOw:O (wr.ownsRow w.heap.size 3 1 (Y fo fn fc) fn (AB ((Sk.drop S.length).map AP))):=HA.out.2.1;have hbs:=HC.out.size;have hbb:∀g,(Value.slice fo fn fc).ownBlock=U g->g≠b:=fun g e=>by have:=(HOw.out.lt g e).1;omega
    have HBb:=(show O _ from hbb);clear hlk hmem hpR hsub hrg hbb HA;have tk1:=True.intro;go_wp2_with (first
     |(go_at_call 94;refine(hko _).mono ?_;rintro e w2 ⟨rfl,hb2⟩;have hw2:=ae hal hb2;obtain⟨hl2,hlen2,w3,hput,hky,hgr⟩:=HLk.out w2 hw2;have hc3:Chg (fun i=>i=b) wr w3:=(Chg.of hw2).trans ((Chg.grown hgr).weaken (fun i _ e=>by injection e with e;exact e.symm));have ho3:w3.ownsRow w.heap.size 3 1 (Y fo fn fc) fn (AB ((Sk.drop S.length).map AP)):=BX HOw.out hc3 (HBb.out))
     |(clear tk1;at_builtin;refine wpList_append_lies _ rfl (.tmp 31) (.tmp 33) 43 (by rfl) w.heap.size 3 i0 _ 1 8 Tryz.underlying43 hi hz0 hz1 hz2 (by rfl) (by decide) (Y fo fn fc) fn (AB ((Sk.drop S.length).map AP)) (by rfl) (ho3.alloc _) ⟨w3.heap.size,0,Z⟩ 1 1 [.int V kp] (by rfl) (by rfl) (cell_one_new _ _ _) (by intro u hu;simp at hu;subst hu;rfl) (by decide) (by unfold maxLen;omega) (by omega) (by show w.heap.size<=(w3.alloc _).heap.size;have:=hc3.size;simp;omega) _ rfl ?_;intro xb xc2 w4 ho4 hg4 _ _))
    go_roundw
    case rel=>
     have hw3:b<w3.heap.size:=hky.lt;have hne:U b≠(Value.slice fo fn fc).ownBlock:=fun e=>HBb.out b e.symm rfl;have hal3:T w3.heap.size w3 (w3.alloc (N #[G V kp] 3)):=ai;have hb4:w4.heap[b]? = w3.heap[b]?:=(hg4.block b (qE hw3 hal3.size) hne).trans (hal3.block b hw3);have hc4:Chg (fun i=>i=b) w w4:=((HC.out.trans hc3).trans (Chg.of hal3)).trans2 (Chg.grown hg4) (fun i hi e=>by have:=(HOw.out.lt i e).1;omega);refine⟨k+1,fn+1,U ⟨xb,0,Z⟩,xc2,by omega,by go_num,rfl,?_⟩;rw[HT2.out];refine⟨by rw[qF,List.length_singleton,HFn.out];omega,?_,hky.kept hb4,hc4⟩;rw[List.drop_append_of_le_length hsz.1,vJ];show fk _ _ _ _ _ _ (AB (_++[AP (p1,p2)]));rw[hkp,show∀(a:List Int),AB (a++[kp])=AB a++[.int V kp]from fun a=>by simp[AB]];exact ho4
    case measure=>simp[intOf];omega
  .obtain rfl:k=n:=by omega
   have HF:=HA.out;rw[HE.out]at HF;have HF2:=(show O _ from HF);clear HF HA;go_wp2_with fail
   go_ret;obtain⟨e1,e2,e3,e4⟩:=HF2.out;subst e1;exact⟨_,_,rfl,e4,e3,e2⟩
theorem Vd(w:M)(P x:am)(pl:List Int)(so no xo po:Option Addr)(sc nn nc xn xc pc:Nat)(ini man:Int)(hS:SpV w (.slice so P.length sc) P)(hP:IntsV w (.slice po pl.length pc) pl)(hx:x.length=pl.length)(hlt:∀i,i<pl.length->∃q:Nat,pl.getD i 0=(q:Int)/\q<P.length/\P.getD q (0,0)=x.getD i (0,0))(hz:pl.length<=2000000) :
  H qA 95 #[E #[.slice so P.length sc,.int V ini,Y no nn nc,Y xo xn xc,.int V man],.slice po pl.length pc] w fun e w'=>∃R,e=L (Y (U ⟨R,0,Z⟩) x.length x.length)/\T w.heap.size w w'/\w.heap.size<=R/\O (SpV w' (Y (U ⟨R,0,Z⟩) x.length x.length) x):=by
 obtain⟨n,hn⟩:∃n,x.length=n:=⟨_,rfl⟩;have HN:O (x.length=n):=hn;rw[<-hx,hn]at hz hP⊢;have hx0:pl.length=n:=by omega
 obtain⟨W1,hW1⟩:∃W1,W1=w.alloc (N #[.slice so P.length sc,.int V ini,Y no nn nc,Y xo xn xc,.int V man] 45):=⟨_,rfl⟩;have hb1:T w.heap.size w W1:=by rw[hW1];exact ai
 have hc1:W1.cell? ⟨w.heap.size,0,Z⟩=U (.slice so P.length sc):=by rw[hW1];simp[go_sem]
 have hz1:W1.heap.size=w.heap.size+1:=by rw[hW1];simp
 have HS:O (∀wr,T W1.heap.size W1 wr->∀i,i<P.length->∃b off,so=U ⟨b,off,Z⟩/\wr.cell? ⟨b,off+i*2,Z⟩=U (.int V (P.getD i (0,0)).1)/\wr.cell? ⟨b,off+i*2+1,Z⟩=U (.int V (P.getD i (0,0)).2)):=fun wr h i hi=>by
  obtain⟨b,off,e,_,c0,c1⟩:=((hS.below hb1).below h).get hi;exact⟨b,off,e,c0,c1⟩
 have HP:O (∀wr,T W1.heap.size W1 wr->∀i,i<n->∃b off,po=U ⟨b,off,Z⟩/\wr.cell? ⟨b,off+i,Z⟩=U (.int V (pl.getD i 0))):=fun wr h i hi=>by
  have hP1:=(hP.below hb1).below h;obtain⟨b,off,e,_,hat⟩:=IntsV.at hP1 (i:=i) (by omega);exact⟨b,off,e,hat⟩
 have HC:O (∀wr,T W1.heap.size W1 wr->wr.cell? ⟨w.heap.size,0,Z⟩=U (.slice so P.length sc)):=fun wr h=>(h.cell (p:=⟨w.heap.size,0,Z⟩) (by show w.heap.size<_;omega)).trans hc1;have HL:O (∀i,i<n->∃q:Nat,pl.getD i 0=(q:Int)/\q<P.length/\P.getD q (0,0)=x.getD i (0,0)):=fun i hi=>hlt i (by omega);generalize hsn:P.length=sn at *;clear hS hP hlt hn hc1 hx hx0;obtain⟨i0,hi,hy0,hy1,hy2⟩:=info_parts I2
 have hmk:∀w1:M,(Instr.makeSlice 41 (.int V (n:Int)) (.int V (n:Int))).run qA w1=.ok (Y (U ⟨w1.heap.size,0,Z⟩) n n) (w1.alloc (N (madeCells #[G V 0,.int V 0] (n*2)) 82)):=fun w1=>by
  have:=run_make (P:=qA) w1 41 82 i0 (E #[G V 0,.int V 0]) Tryz.underlying41 hi hy0 .i64 .i64 n n (by omega) (by omega) (by rw[hy2];omega) (by omega);simpa[hy1,Value.cells]using this
 have HR0:O (∃f,(W1.alloc (N (madeCells #[G V 0,.int V 0] (n*2)) 82)).rowIs (w.heap.size+1) 82 (n*2) f):=by
  rw[<-hz1];refine⟨fun i=>(madeCells #[G V 0,.int V 0] (n*2)).getD i .nilIface,?_⟩;have:=jc W1 (madeCells #[G V 0,.int V 0] (n*2)) 82 (fun i=>(madeCells #[G V 0,.int V 0] (n*2)).getD i .nilIface) (fun i hi=>by simp[Array.getD,hi]);rw[size_madeCells]at this;exact this
 have hb2:T W1.heap.size W1 (W1.alloc (N (madeCells #[G V 0,.int V 0] (n*2)) 82)):=ai;go_enter Tryz.func95,Tryz.ntmps95;go_wp2_with fail
 rw[<-hW1];clear hW1;go_wp2_with fail
 generalize W1.alloc (N (madeCells #[G V 0,.int V 0] (n*2)) 82)=W2 at *
 go_loopw [13] (fun i wr=>∃k:Nat,k<=n/\i=.int V k/\T W1.heap.size W1 wr/\O (∃f,wr.rowIs (w.heap.size+1) 82 (n*2) f/\∀j,j<k->f (j*2)=.int V (x.getD j (0,0)).1/\f (j*2+1)=.int V (x.getD j (0,0)).2)) (fun i _=>n-(intOf i).toNat)
 case atStart=>
  obtain⟨f,hf⟩:=HR0.out;exact⟨0,qJ _,rfl,hb2,f,hf,fun j h=>by omega⟩
 case round=>
  obtain⟨k,hk,rfl,hbr,HR⟩:=hrel;by_cases hkn:k<n
  .have hki:(k:Int)<(n:Int):=by omega
   obtain⟨pb,poff,rfl,c0⟩:=HP.out wr hbr k hkn;obtain⟨q,hq1,hq2,hq3⟩:=HL.out k hkn;obtain⟨sb,soff,rfl,d0,d1⟩:=HS.out wr hbr q hq2;have g0:=HC.out wr hbr;rw[hq1]at c0;rw[hq3]at d0 d1;have hqi:(q:Int)<(sn:Int):=by omega
   obtain⟨f,hf1,hf2⟩:=HR.out;have f0:=hf1.cell (i:=k*2) (by omega);have f1:=hf1.cell (i:=k*2+1) (by omega);have f2:=hf1.frozen (k*2);have f3:=hf1.frozen (k*2+1);generalize hxk:x.getD k (0,0)=p at *;obtain⟨a,c⟩:=p;simp only at d0 d1
   have HR2:O (∃f,((wr.setCell ⟨w.heap.size+1,k*2,Z⟩ (.int V a)).setCell ⟨w.heap.size+1,k*2+1,Z⟩ (.int V c)).rowIs (w.heap.size+1) 82 (n*2) f/\∀j,j<k+1->f (j*2)=.int V (x.getD j (0,0)).1/\f (j*2+1)=.int V (x.getD j (0,0)).2):=by
    refine⟨_,(hf1.set (k*2) (.int V a)).set (k*2+1) (.int V c),fun j hj=>?_⟩;by_cases e:j=k
    .subst e;rw[hxk];simp
    .have h9:=hf2 j (by omega);have e1:¬j*2=k*2:=by omega
     have e2:¬j*2=k*2+1:=by omega
     have e3:¬j*2+1=k*2:=by omega
     have e4:¬j*2+1=k*2+1:=by omega
     simp only[e1,e2,e3,e4,if_false];exact h9
   clear HR hf1 hf2 hxk;go_wp2_with fail
   go_roundw
   case rel=>exact⟨k+1,by omega,by go_num,(hbr.setCell (p:=⟨w.heap.size+1,k*2,Z⟩) (by show W1.heap.size<=w.heap.size+1;omega) _).setCell (p:=⟨w.heap.size+1,k*2+1,Z⟩) (by show W1.heap.size<=w.heap.size+1;omega) _,HR2⟩
   case measure=>simp[intOf];omega
  .obtain rfl:k=n:=by omega
   obtain⟨f,hf1,hf2⟩:=HR.out;have HF:O (SpV wr (Y (U ⟨w.heap.size+1,0,Z⟩) k k) x):=by
    refine⟨U ⟨w.heap.size+1,0,Z⟩,k,by rw[HN.out],fun _=>⟨w.heap.size+1,0,rfl,hf1.lt,fun i hi=>?_⟩⟩;rw[HN.out]at hi;obtain⟨e1,e2⟩:=hf2 i hi;rw[Nat.zero_add,hf1.cell (by omega),hf1.cell (by omega),e1,e2];exact⟨rfl,rfl⟩
   clear HR;go_wp2_with fail
   go_ret;exact⟨_,rfl,ae hb1 hbr,Nat.le_succ _,HF⟩
theorem RS:(qA.info? 205).map (fun i=>(i.zero,i.size,i.bytes))=U (U (E #[G V 0,.int V 0,Y Z 0 0]),3,40):=by kernel_rfl
theorem Rp{S:am}(h:EU S){p:Int×Int}(hp:p∈S):(S.map AP).idxOf (AP p)=S.idxOf p:=by
 induction S with
 |nil=>cases hp
 |cons a S ih=>
  by_cases e:a=p
  .subst e;simp
  .have hk:AP a≠AP p:=fun h2=>e ((h a (by simp)).2.2 p hp h2);have hp':p∈S:=by
    rcases List.mem_cons.1 hp with h3|h3
    .exact absurd h3.symm e
    .exact h3
   have h':EU S:=fun q hq=>⟨(h q (by simp[hq])).1,(h q (by simp[hq])).2.1,fun r hr=>(h q (by simp[hq])).2.2 r (by simp[hr])⟩;rw[xI,kM,kM,beq_eq_false_iff_ne.2 hk,beq_eq_false_iff_ne.2 e,ih h' hp']
section
variable{m:Mo}{ps:List am}{l:am}{K:Nat}
theorem SmallK.rng(h:SmallK m ps l K):∀p∈xpP m ps l K,(0<=p.1/\p.1<=1000000)/\0<=p.2/\p.2<=1000000:=fun p hp=>by
 have h1:=Ht h.code (h.pre (qB _) p hp);have:=h.states;omega
theorem SmallK.one(h:SmallK m ps l K):EU (xpP m ps l K):=fun p hp=>by
 have h1:=h.key (h.pre (qB _) p hp);have h2:=h.rng p hp;exact⟨by omega,⟨by omega,by omega⟩,fun q hq e=>Rq h.code (h.pre (qB _) p hp) (h.pre (qB _) q hq) e⟩
theorem SmallK.at_mem(h:SmallK m ps l K){k:Nat}(hk:k<K):(xpP m ps l K).getD k (0,0)∈xpP m ps l K:=by
 rw[qC,qH (by rw[h.done.1];exact hk)];exact qR _
theorem SmallK.turn(h:SmallK m ps l K){k:Nat}(hk:k<K):AH (xpP m ps l k) (BB m ps l ((xpP m ps l K).getD k (0,0)))=xpP m ps l (k+1)/\(∀q∈xpP m ps l k,q∈xpP m ps l K)/\(∀q∈BB m ps l ((xpP m ps l K).getD k (0,0)),q∈xpP m ps l K)/\AP ((xpP m ps l K).getD k (0,0))∈(xpP m ps l (k+1)).map AP/\((xpP m ps l (k+1)).map AP).idxOf (AP ((xpP m ps l K).getD k (0,0)))=k:=by
 have e:=OM h.done hk;have h1:AH (xpP m ps l k) (BB m ps l ((xpP m ps l K).getD k (0,0)))=xpP m ps l (k+1):=by rw[<-e,<-IH]
 have hp1:xpP m ps l (k+1) <+: xpP m ps l K:=Dk _ _ hk;have hmem:(xpP m ps l K).getD k (0,0)∈xpP m ps l (k+1):=by
  rw[<-h1,Eo,<-e];exact .inl (KP (Ga h.done hk))
 have hone:EU (xpP m ps l (k+1)):=fun p hp=>⟨(h.one p (hp1.subset hp)).1,(h.one p (hp1.subset hp)).2.1,fun q hq=>(h.one p (hp1.subset hp)).2.2 q (hp1.subset hq)⟩;refine⟨h1,fun q hq=>(Dk (AC m ps l) (BB m ps l) (Nat.le_of_lt hk)).subset hq,fun q hq=>hp1.subset (by rw[<-h1,Eo];exact .inr hq),vH.2 ⟨_,hmem,rfl⟩,?_⟩;rw[Rp hone hmem,<-Gn hp1 hmem,KQ h.done hk]
end
def FnJ(W1:M)(F b:Nat)(m:Mo)(ps:List am)(l:am)(K:Nat)(wr:M)(k:Nat):Prop:=
 T W1.heap.size W1 wr/\A7 wr b (xpP m ps l k)/\∃f,wr.rowIs F 205 (K*3) f/\∀j,j<k->f (j*3)=.int V (AP ((xpP m ps l K).getD j (0,0)))/\f (j*3+1)=.int V ((fN m ps l (j+1)-fN m ps l j:Nat):Int)/\∃ro rc,f (j*3+2)=.slice ro (AD (rcX m ps l j)).length rc/\wr.ownsRow (b+1) 5 1 (.slice ro (AD (rcX m ps l j)).length rc) (AD (rcX m ps l j)).length (AG (AD (rcX m ps l j)))
theorem FnJ.below{W1 wr w':M}{F b K k:Nat}{m:Mo}{ps:List am}{l:am}(h:FnJ W1 F b m ps l K wr k)(hb:T wr.heap.size wr w'):FnJ W1 F b m ps l K w' k:=by
 obtain⟨h1,h2,f,h3,h4⟩:=h;refine⟨ae h1 hb,h2.below hb,f,h3.of_block (hb.block _ h3.lt),fun j hj=>?_⟩;obtain⟨e1,e2,ro,rc,e3,e4⟩:=h4 j hj;exact⟨e1,e2,ro,rc,e3,Ap e4 hb (qB _)⟩
def GfV(w:M)(m:Mo)(ps:List am)(l:am)(K:Nat)(so no:Option Addr)(sc:Nat):Prop:=SpV w (Y so K sc) (xpP m ps l K)/\K<=sc/\∀i,i<K->∃nb uo uc,no=U ⟨nb,0,Z⟩/\w.cell? ⟨nb,i,Z⟩=U (.slice uo ((xpN m ps l K).getD i []).length uc)/\IntsV w (.slice uo ((xpN m ps l K).getD i []).length uc) ((xpN m ps l K).getD i [])
theorem GfV.below{w w':M}{m:Mo}{ps:List am}{l:am}{K:Nat}{so no:Option Addr}{sc:Nat}(h:GfV w m ps l K so no sc)(hb:T w.heap.size w w'):GfV w' m ps l K so no sc:=⟨h.1.below hb,h.2.1,fun i hi=>by
 obtain⟨nb,uo,uc,e,h1,h2⟩:=h.2.2 i hi;exact⟨nb,uo,uc,e,(hb.cell (bW w _ h1)).trans h1,h2.below hb⟩⟩
theorem Qh(w:M)(m:Mo)(ps:List am)(l:am)(K:Nat)(hK:SmallK m ps l K)(so no xo:Option Addr)(sc nc xc:Nat)(man:Int)(hG:GfV w m ps l K so no sc) :
  H qA 64 #[E #[Y so K sc,.int V ((AC m ps l).length:Nat),Y no K nc,Y xo K xc,.int V man]] w fun e w'=>∃F,e=L (C #[Y (U ⟨F,0,Z⟩) K K,.int V 0])/\T w.heap.size w w'/\O (DV w' F m ps l K):=by
 have HK:O (SmallK m ps l K):=hK;obtain⟨W1,hW1⟩:∃W1,W1=w.alloc (N #[Y so K sc,.int V ((AC m ps l).length:Nat),Y no K nc,Y xo K xc,.int V man] 45):=⟨_,rfl⟩;have hb1:T w.heap.size w W1:=by rw[hW1];exact ai
 have hz1:W1.heap.size=w.heap.size+1:=by rw[hW1];simp
 have HX:O (∀wr,T W1.heap.size W1 wr->(wr.cell? ⟨w.heap.size,0,Z⟩=U (Y so K sc)/\wr.cell? ⟨w.heap.size,1,Z⟩=U (.int V ((AC m ps l).length:Nat))/\wr.cell? ⟨w.heap.size,2,Z⟩=U (Y no K nc)/\wr.cell? ⟨w.heap.size,3,Z⟩=U (Y xo K xc)/\wr.cell? ⟨w.heap.size,4,Z⟩=U (.int V man))/\GfV wr m ps l K so no sc):=fun wr h=>by
  have hbk:wr.heap[w.heap.size]? = U (grB (Y so K sc) (Y no K nc) (Y xo K xc) ((AC m ps l).length:Nat) man):=by
   rw[h.block w.heap.size (by omega),hW1];exact(du w _).1
  obtain⟨g0,g1,g2,g3,g4⟩:=Dn hbk;exact⟨⟨g0,g1,g2,g3,g4⟩,(hG.below hb1).below h⟩
 have hbn:(AC m ps l).length<=K:=by rw[<-Gb];exact(DZ hK.done (qJ _)).2
 have hcap:=hG.2.1;have hK1:=hK.few;have HB0:O ((xpP m ps l K).take (AC m ps l).length=AC m ps l):=by
  show _=_;obtain⟨R,hR⟩:=Dk (AC m ps l) (BB m ps l) (qJ K);have e0:exS (AC m ps l) (BB m ps l) 0=AC m ps l:=ON (m:=m) (ps:=ps) (l:=l);rw[e0]at hR;unfold xpP;rw[<-hR,yR]
 obtain⟨i0,hi,hy0,hy1,hy2⟩:=info_parts RS;have hmk:∀w1:M,(Instr.makeSlice 154 (.int V (K:Int)) (.int V (K:Int))).run qA w1=.ok (Y (U ⟨w1.heap.size,0,Z⟩) K K) (w1.alloc (N (madeCells #[G V 0,.int V 0,Y Z 0 0] (K*3)) 205)):=fun w1=>by
  have:=run_make (P:=qA) w1 154 205 i0 (E #[G V 0,.int V 0,Y Z 0 0]) Tryz.underlying154 hi hy0 .i64 .i64 K K (by omega) (by omega) (by rw[hy2];omega) (by omega);simpa[hy1,Value.cells]using this
 have HB1:O (∀wr,SpV wr (Y so K sc) (xpP m ps l K)->SpV wr (.slice so (AC m ps l).length sc) (AC m ps l)):=fun wr h=>by
  obtain⟨ao,cap,e,h1⟩:=h;injection e with e1 e2 e3;subst e1 e3;refine⟨so,sc,rfl,fun hne=>?_⟩;have hpos:0<(AC m ps l).length:=vO.2 hne;obtain⟨b,off,e4,hlt,hat⟩:=h1 (by intro h2;have h3:=hK.done.1;rw[h2]at h3;simp at h3;omega);refine⟨b,off,e4,hlt,fun i hi=>?_⟩;have h5:=hat i (by rw[hK.done.1];omega);have h6:(xpP m ps l K).getD i (0,0)=(AC m ps l).getD i (0,0):=by
   rw[<-HB0.out];simp[qC,hi]
  rw[h6]at h5;exact h5
 have HSo:O (K≠0->∀a,so=U a->a.block<w.heap.size):=fun h a e=>by
  obtain⟨b,off,e2,hlt,_⟩:=hG.1.get (i:=0) (by rw[hK.done.1];omega);rw[e]at e2;injection e2 with e2;subst e2;exact hlt
 generalize hbnn:(AC m ps l).length=bn at *;have HBn:O ((AC m ps l).length=bn):=hbnn;clear hbnn hG;have hmm:=@run_makeMap qA
 have HW3:O (∀W3,W3=(W1.alloc (N (madeCells #[G V 0,.int V 0,Y Z 0 0] (K*3)) 205)).alloc (.map #[] 0)->T W1.heap.size W1 W3/\W3.heap.size=w.heap.size+3/\A7 W3 (w.heap.size+2) []/\∃f,W3.rowIs (w.heap.size+1) 205 (K*3) f):=fun W3 e=>by
  subst e;have hs2:(W1.alloc (N (madeCells #[G V 0,.int V 0,Y Z 0 0] (K*3)) 205)).heap.size=w.heap.size+2:=by simp[hz1]
  refine⟨(ai).alloc (by simp) _,by simp[hz1],A7.new ?_,fun i=>(madeCells #[G V 0,.int V 0,Y Z 0 0] (K*3)).getD i .nilIface,?_⟩
  .rw[<-hs2];exact(du _ _).1
  .have:=jc W1 (madeCells #[G V 0,.int V 0,Y Z 0 0] (K*3)) 205 (fun i=>(madeCells #[G V 0,.int V 0,Y Z 0 0] (K*3)).getD i .nilIface) (fun i hi=>by simp[Array.getD,hi]);rw[size_madeCells,hz1]at this;exact this.alloc _
 have HMt:O (∀wr (S x:am) (so:Option Addr) (n sc:Nat),n=x.length->A7 wr (w.heap.size+2) S->SpV wr (Y so n sc) x->(x≠[]->∀a,so=U a->a.block≠w.heap.size+2)->(∀q∈S,q∈xpP m ps l K)->(∀q∈x,q∈xpP m ps l K)->S.length+x.length<=1000000->H qA 93 #[.map (U (w.heap.size+2)),Y so n sc] wr (GD wr (w.heap.size+2) S x)):=fun wr S x so n sc e h1 h2 h3 h4 h5 h6=>by
  subst e;exact Se wr _ S x (xpP m ps l K) so sc h1 h2 h3 HK.out.rng HK.out.one h4 h5 h6
 go_enter Tryz.func64,Tryz.ntmps64;go_wp2_with fail
 rw[<-hW1];clear hW1;obtain⟨⟨x0,x1,x2,x3,x4⟩,hg1⟩:=HX.out W1 (qD _ _);go_upto_region 3 with fail
 obtain⟨W3,hW3⟩:∃W3,W3=(W1.alloc (N (madeCells #[G V 0,.int V 0,Y Z 0 0] (K*3)) 205)).alloc (.map #[] 0):=⟨_,rfl⟩;obtain⟨hb3,hs3,hky3,hrow3⟩:=HW3.out W3 hW3;rw[<-hW3];clear hW3 HW3 x0 x1 x2 x3 x4 hg1;obtain⟨⟨x0,x1,x2,x3,x4⟩,hg3⟩:=HX.out W3 hb3;have hsob:AC m ps l≠[]->∀a,so=U a->a.block≠w.heap.size+2:=fun hne a e h=>by
  have h1:0<(AC m ps l).length:=vO.2 hne;rw[HBn.out]at h1;have:=HSo.out (by omega) a e;omega
 have hmt:=HMt.out W3 [] (AC m ps l) so bn sc HBn.out.symm hky3 (HB1.out W3 hg3.1) hsob (fun q hq=>by cases hq) (fun q hq=>by rw[<-HB0.out]at hq;exact jD hq) (by rw[HBn.out];simp;omega);go_upto_region 4 with(go_at_call 93;refine hmt.mono ?_;rintro e w4 ⟨ao4,cap4,rfl,hc4,hk4,_⟩)
 have HJ0:O (FnJ W1 (w.heap.size+1) (w.heap.size+2) m ps l K w4 0):=by
  obtain⟨f,hf⟩:=hrow3;exact⟨hb3.trans (hc4.below (fun i e=>by rw[e];omega) hb3.size),hk4,f,hf.of_block (hc4.block _ (by omega) (by omega)),fun j h=>by omega⟩
 obtain⟨⟨y0,y1,y2,y3,y4⟩,_⟩:=HX.out w4 HJ0.out.1;clear hc4 hk4 hmt hrow3 hky3 hb3 hs3 hsob hg3 x0 x1 x2 x3 x4 hmk hmm;go_wp2_with fail
 go_loopw [27] (fun i wr=>∃k:Nat,k<=K/\i=.int V k/\O (FnJ W1 (w.heap.size+1) (w.heap.size+2) m ps l K wr k)) (fun i _=>K-(intOf i).toNat)
 case atStart=>exact⟨0,qJ _,rfl,HJ0⟩
 case round=>
  obtain⟨k,hk,rfl,HJ⟩:=hrel;by_cases hlt:k<K
  .have hki:(k:Int)<(K:Int):=by omega
   obtain⟨⟨x0,x1,x2,x3,x4⟩,hg⟩:=HX.out wr HJ.out.1;obtain⟨sb,soff,e1,_,c0,c1⟩:=hg.1.get (i:=k) (by rw[HK.out.done.1];exact hlt);subst e1;obtain⟨t1,t2,t3,t4,t5⟩:=HK.out.turn hlt;have hrg:=HK.out.rng _ (HK.out.at_mem hlt);have hkr:=(HK.out.one _ (HK.out.at_mem hlt)).1;obtain⟨r1,r2⟩:=IG HK.out.done hlt;have HRow:O (∀j,j<((xpN m ps l K).getD k []).length->∃q:Nat,((xpN m ps l K).getD k []).getD j 0=(q:Int)/\q<(xpP m ps l K).length/\(xpP m ps l K).getD q (0,0)=(BB m ps l ((xpP m ps l K).getD k (0,0))).getD j (0,0)):=fun j hj=>by
    obtain⟨r3,r4⟩:=r2 j (by rw[<-r1];exact hj);have hlt9:=List.idxOf_lt_length_of_mem r4;refine⟨_,r3,hlt9,?_⟩;rw[qC,qH hlt9];exact List.getElem_idxOf hlt9
   have hsz9:(xpP m ps l k).length+(BB m ps l ((xpP m ps l K).getD k (0,0))).length<=1000000:=by
    have h1:(xpP m ps l k).length<=K:=(DZ HK.out.done hk).2;have h2:=GM (m:=m) (ps:=ps) (l:=l) (c:=((xpP m ps l K).getD k (0,0)).2) (Ca (BU HK.out.code).1).1 (HK.out.spot hlt).1 (B6 (BU HK.out.code).2).2.2.2.2;have h3:(BB m ps l ((xpP m ps l K).getD k (0,0))).length<=262144:=h2;have:=HK.out.few;omega
   obtain⟨nb,uo,uc,e2,n0,hrow⟩:=hg.2.2 k hlt;subst e2;have HNx:O (∀W,Chg (fun i=>i=w.heap.size+2) wr W->(W.cell? ⟨w.heap.size,0,Z⟩=U (Y (U ⟨sb,soff,Z⟩) K sc)/\W.cell? ⟨w.heap.size,1,Z⟩=U (.int V bn)/\W.cell? ⟨w.heap.size,2,Z⟩=U (Y (U ⟨nb,0,Z⟩) K nc)/\W.cell? ⟨w.heap.size,3,Z⟩=U (Y xo K xc)/\W.cell? ⟨w.heap.size,4,Z⟩=U (.int V man))/\W.cell? ⟨nb,k,Z⟩=U (.slice uo ((xpN m ps l K).getD k []).length uc)):=fun W h=>by
    have hz:¬w.heap.size=w.heap.size+2:=by omega
    refine⟨⟨h.cell x0 hz,h.cell x1 hz,h.cell x2 hz,h.cell x3 hz,h.cell x4 hz⟩,h.cell n0 ?_⟩;intro hn;obtain⟨es,c,em⟩:=HJ.out.2.1.isMap;exact JQ n0 (show wr.heap[nb]? = _ by rw[show nb=w.heap.size+2 from hn];exact em)
   have HSp:O (∀W,T wr.heap.size wr W->H qA 95 #[E #[Y (U ⟨sb,soff,Z⟩) K sc,.int V bn,Y (U ⟨nb,0,Z⟩) K nc,Y xo K xc,.int V man],.slice uo ((xpN m ps l K).getD k []).length uc] W fun e w'=>∃R,e=L (Y (U ⟨R,0,Z⟩) ((xpN m ps l K).getD k []).length ((xpN m ps l K).getD k []).length)/\T W.heap.size W w'/\W.heap.size<=R/\O (SpV w' (Y (U ⟨R,0,Z⟩) ((xpN m ps l K).getD k []).length ((xpN m ps l K).getD k []).length) (BB m ps l ((xpP m ps l K).getD k (0,0))))):=fun W h=>by
    have:=Vd W (xpP m ps l K) (BB m ps l ((xpP m ps l K).getD k (0,0))) ((xpN m ps l K).getD k []) (U ⟨sb,soff,Z⟩) (U ⟨nb,0,Z⟩) xo uo sc K nc K xc uc (bn:Nat) man (by rw[HK.out.done.1];exact hg.1.below h) (hrow.below h) r1.symm HRow.out (by rw[r1];omega);rw[HK.out.done.1,<-r1]at this;exact this
   have HMe:O (∀W W' R,T wr.heap.size wr W->T W.heap.size W W'->w.heap.size+3<=R->SpV W' (Y (U ⟨R,0,Z⟩) ((xpN m ps l K).getD k []).length ((xpN m ps l K).getD k []).length) (BB m ps l ((xpP m ps l K).getD k (0,0)))->H qA 93 #[.map (U (w.heap.size+2)),Y (U ⟨R,0,Z⟩) ((xpN m ps l K).getD k []).length ((xpN m ps l K).getD k []).length] W' fun e w'=>∃ao cap,e=L (.slice ao (fN m ps l (k+1)-fN m ps l k) cap)/\Chg (fun i=>i=w.heap.size+2) W' w'/\A7 w' (w.heap.size+2) (xpP m ps l (k+1))/\O (w'.ownsRow W'.heap.size 3 1 (.slice ao (fN m ps l (k+1)-fN m ps l k) cap) (fN m ps l (k+1)-fN m ps l k) (AB (frX m ps l k)))):=fun W W' R h h' hR hs=>by
    have:=HMt.out W' (xpP m ps l k) (BB m ps l ((xpP m ps l K).getD k (0,0))) (U ⟨R,0,Z⟩) ((xpN m ps l K).getD k []).length ((xpN m ps l K).getD k []).length r1 ((HJ.out.2.1.below h).below h') hs (fun _ a e=>by injection e with e;subst e;show R≠_;omega) t2 t3 hsz9;unfold GD at this;rw[t1]at this;exact this
   have hrl:((xpN m ps l K).getD k []).length<=1000000:=by rw[r1];omega
   have hko:=fun w1=>Lq ((xpP m ps l K).getD k (0,0)) w1 hrg.1 hrg.2;have HT4:=(show O _ from t4);have HT5:=(show O _ from t5);have hkp:∃kp,kp=AP ((xpP m ps l K).getD k (0,0)):=⟨_,rfl⟩;obtain⟨kp,hkp⟩:=hkp;have HKp:O (kp=AP ((xpP m ps l K).getD k (0,0))):=hkp;rw[<-hkp]at hko hkr HT4 HT5;have hal:T wr.heap.size wr (wr.alloc (N #[G V ((xpP m ps l K).getD k (0,0)).1,.int V ((xpP m ps l K).getD k (0,0)).2] 82)):=ai;generalize((xpN m ps l K).getD k []).length=rn at *
   generalize hpp:(xpP m ps l K).getD k (0,0)=pp at *;obtain⟨pa,pc⟩:=pp;simp only at c0 c1 hko hal
   clear t1 t2 t3 t4 t5 r1 r2 HRow hrow hg hsz9 hkp HMt hrg;go_upto_region 8 with(go_at_call 94;refine(hko _).mono ?_;rintro e w5 ⟨rfl,hb5⟩)
   have hw5:=ae hal hb5;have HW5:=(show O _ from hw5);have hc5:Chg (fun i=>i=w.heap.size+2) wr w5:=Chg.of hw5;go_cut [9] (fun u wx=>∃ao cap,u=.slice ao (fN m ps l (k+1)-fN m ps l k) cap/\O (Chg (fun i=>i=w.heap.size+2) wr wx/\A7 wx (w.heap.size+2) (xpP m ps l (k+1))/\wx.ownsRow w5.heap.size 3 1 (.slice ao (fN m ps l (k+1)-fN m ps l k) cap) (fN m ps l (k+1)-fN m ps l k) (AB (frX m ps l k))))
   case first=>
    go_region_held3 (fun W=>(W.cell? ⟨w.heap.size,0,Z⟩=U (Y (U ⟨sb,soff,Z⟩) K sc)/\W.cell? ⟨w.heap.size,1,Z⟩=U (.int V bn)/\W.cell? ⟨w.heap.size,2,Z⟩=U (Y (U ⟨nb,0,Z⟩) K nc)/\W.cell? ⟨w.heap.size,3,Z⟩=U (Y xo K xc)/\W.cell? ⟨w.heap.size,4,Z⟩=U (.int V man))/\W.cell? ⟨nb,k,Z⟩=U (Y uo rn uc))
     (first|exact HNx.out _ hc8|exact HNx.out _ (Chg.of hw7)|exact HNx.out _ (Chg.of hw5.drew)|exact HNx.out _ (Chg.of hw5))
     (first
      |(go_simp;go_at_call 95;refine(HSp.out _ (by first|exact hw5.drew|exact hw5)).mono ?_;rintro e w7 ⟨R,rfl,hb7,hR7,HS7⟩;have hw7:T wr.heap.size wr w7:=(by first|exact hw5.drew.trans (hb7.mono hw5.size)|exact ae hw5 hb7))
      |(go_simp;go_at_call 93;refine(HMe.out _ _ R (by first|exact hw5.drew|exact hw5) hb7 (by have:=HJ.out.1.size;have:=hw5.size;have h9:w5.heap.size<=R:=hR7;have h8:=HJ.out.2.1.lt;omega) HS7.out).mono ?_;rintro e w8 ⟨ao8,cap8,rfl,hc8',hk8,ho8⟩;have hc8:Chg (fun i=>i=w.heap.size+2) wr w8:=(Chg.of hw7).trans hc8';have HO8:=(show O _ from Az ho8.out (show w5.heap.size<=w7.heap.size from hb7.size))))
    all_goals go_wp2_with fail
    all_goals go_meet
    all_goals exact⟨ao8,cap8,rfl,hc8,hk8,HO8.out⟩
   case rest=>
    obtain⟨ao8,cap8,rfl,HC8⟩:=hcut;obtain⟨w8,rfl⟩:∃w4,w4=wc:=⟨_,rfl⟩;obtain⟨hc8,hk8,ho8⟩:=HC8.out;have hlk:=hk8.look hkr I;rw[ak (by simp),aj HT4.out,HT5.out]at hlk;have hfr:fN m ps l (k+1)-fN m ps l k<=1000:=by have:=(DZ HK.out.done (j:=k+1) hlt).2;omega
    have HRl:O ((rcX m ps l k).length=1+(fN m ps l (k+1)-fN m ps l k)):=by show _=_;rw[Fy];omega
    have HRv:O ([Value.int .i64 (k:Int)]++AB (frX m ps l k)=AB (rcX m ps l k)):=rfl;have HWr:O (∀(w9:M) (vo:Option Addr) (vc:Nat),w9.ownsRow w8.heap.size 3 1 (.slice vo (1+(fN m ps l (k+1)-fN m ps l k)) vc) (1+(fN m ps l (k+1)-fN m ps l k)) ([Value.int .i64 (k:Int)]++AB (frX m ps l k))->H qA 96 #[E #[Y Z 0 0,.int V 0],.slice vo (1+(fN m ps l (k+1)-fN m ps l k)) vc] w9 (CL w9 (AD (rcX m ps l k)) 0 0)):=fun w9 vo vc h=>by
     rw[HRv.out,<-HRl.out]at h;obtain⟨q1,q2⟩:=KL (HK.out.rc hlt);have:=XF Z 0 [] 0 (.slice vo (rcX m ps l k).length vc) (rcX m ps l k) w9 (Ku w9) (D8 h) (by decide) q1 q2 (by simp;omega);rw[HRl.out]at this;exact this
    have HFr:O (IntsVU w8 (.slice ao8 (fN m ps l (k+1)-fN m ps l k) cap8) (frX m ps l k)):=by
     have h:=ho8;rw[<-LY]at h⊢;exact I4 h
    generalize hfre:fN m ps l (k+1)-fN m ps l k=fr at *;have HFe:O (fN m ps l (k+1)-fN m ps l k=fr):=hfre;clear hfre;have hown8:(w8.alloc (N #[G V (k:Int)] 3)).ownsRow w8.heap.size 3 1 (Y (U ⟨w8.heap.size,0,Z⟩) 1 1) 1 [.int V (k:Int)]:=World.ownsRow_lit w8 #[G V (k:Int)] 1 (qB _) (by unfold maxLen;omega) rfl
    have hfr8:IntsVU (w8.alloc (N #[G V (k:Int)] 3)) (Y ao8 fr cap8) (frX m ps l k):=HFr.out.below (ai);have HB9:O (∀w9,(w8.alloc (N #[G V (k:Int)] 3)).grownBy w9 (Value.slice (U ⟨w8.heap.size,0,Z⟩) 1 1).ownBlock->T w8.heap.size w8 w9):=fun w9 hg=>Below.grown (ai) hg (by simp) (fun z hz=>by simp[Value.ownBlock]at hz;omega);have tk1:=True.intro;have HFin:O (∀w9 w10 (rb:Option Addr) (rcap:Nat),T w8.heap.size w8 w9->T w9.heap.size w9 w10->w10.ownsRow w9.heap.size 5 1 (.slice rb (AD (rcX m ps l k)).length rcap) (AD (rcX m ps l k)).length (AG (AD (rcX m ps l k)))->((∃v0,w10.cell? ⟨w.heap.size+1,k*3,Z⟩=U v0)/\(∃v1,w10.cell? ⟨w.heap.size+1,k*3+1,Z⟩=U v1)/\(∃v2,w10.cell? ⟨w.heap.size+1,k*3+2,Z⟩=U v2)/\w10.frozen? ⟨w.heap.size+1,k*3,Z⟩=I/\w10.frozen? ⟨w.heap.size+1,k*3+1,Z⟩=I/\w10.frozen? ⟨w.heap.size+1,k*3+2,Z⟩=I)/\w.heap.size+1<w10.heap.size/\∀w11,T w10.heap.size w10 w11->FnJ W1 (w.heap.size+1) (w.heap.size+2) m ps l K (((w11.setCell ⟨w.heap.size+1,k*3,Z⟩ (.int V kp)).setCell ⟨w.heap.size+1,k*3+1,Z⟩ (.int V (fr:Nat))).setCell ⟨w.heap.size+1,k*3+2,Z⟩ (.slice rb (AD (rcX m ps l k)).length rcap)) (k+1)):=fun w9 w10 rb rcap hb9 hb10 ho10=>by
     obtain⟨hJ1,hJ2,f,hf1,hf2⟩:=HJ.out;have hF8:w8.heap[w.heap.size+1]? = wr.heap[w.heap.size+1]?:=hc8.block _ hf1.lt (by omega);have hFl8:w.heap.size+1<w8.heap.size:=qE hf1.lt hc8.size;have hb810:=ae hb9 hb10;have hF10:w10.heap[w.heap.size+1]? = wr.heap[w.heap.size+1]?:=(hb810.block _ hFl8).trans hF8;have hf10:=hf1.of_block hF10;refine⟨⟨⟨_,hf10.cell (i:=k*3) (by omega)⟩,⟨_,hf10.cell (i:=k*3+1) (by omega)⟩,⟨_,hf10.cell (i:=k*3+2) (by omega)⟩,hf10.frozen _,hf10.frozen _,hf10.frozen _⟩,hf10.lt,fun w11 hb11=>?_⟩;have hf11:=hf10.of_block (hb11.block _ hf10.lt);have hb811:=ae hb810 hb11;have hb3:w.heap.size+2<wr.heap.size:=hJ2.lt;have hset:T (w.heap.size+1) w11 (((w11.setCell ⟨w.heap.size+1,k*3,Z⟩ (.int V kp)).setCell ⟨w.heap.size+1,k*3+1,Z⟩ (.int V (fr:Nat))).setCell ⟨w.heap.size+1,k*3+2,Z⟩ (.slice rb (AD (rcX m ps l k)).length rcap)):=(((qD _ _).setCell (p:=⟨w.heap.size+1,k*3,Z⟩) (qB _) _).setCell (p:=⟨w.heap.size+1,k*3+1,Z⟩) (qB _) _).setCell (p:=⟨w.heap.size+1,k*3+2,Z⟩) (qB _) _;have hcs:Chg (fun i=>i=w.heap.size+1) w11 (((w11.setCell ⟨w.heap.size+1,k*3,Z⟩ (.int V kp)).setCell ⟨w.heap.size+1,k*3+1,Z⟩ (.int V (fr:Nat))).setCell ⟨w.heap.size+1,k*3+2,Z⟩ (.slice rb (AD (rcX m ps l k)).length rcap)):=((Chg.setCell w11 ⟨w.heap.size+1,k*3,Z⟩ _).trans (Chg.setCell _ ⟨w.heap.size+1,k*3+1,Z⟩ _)).trans (Chg.setCell _ ⟨w.heap.size+1,k*3+2,Z⟩ _);have hk11:A7 w11 (w.heap.size+2) (xpP m ps l (k+1)):=hk8.below hb811;refine⟨(hJ1.trans (hc8.below (fun i e=>by have:=hz1;omega) hJ1.size)).trans (hb811.mono (by have:=hJ1.size;have:=hc8.size;omega)) |>.trans (hset.mono (by omega)),hk11.kept (hcs.block _ hk11.lt (by omega)),_,((hf11.set (k*3) _).set (k*3+1) _).set (k*3+2) _,fun j hj=>?_⟩;by_cases e:j=k
     .subst e;have e1:¬j*3=j*3+1:=by omega
      have e2:¬j*3=j*3+2:=by omega
      have e3:¬j*3+1=j*3+2:=by omega
      simp only[e1,e2,e3,if_false,if_true];refine⟨by rw[HKp.out,hpp],by rw[<-HFe.out],rb,rcap,rfl,?_⟩;have h9:=Az ho10 (show w.heap.size+2+1<=w9.heap.size by have:=hb9.size;have:=hc8.size;omega);exact BX (Ap h9 hb11 (qB _)) hcs (fun g e z=>by have:=(h9.lt g e).1;omega)
     .obtain ⟨q1,q2,ro,rc,q3,q4⟩:=hf2 j (by omega);have e1:¬j*3=k*3:=by omega
      have e2:¬j*3=k*3+1:=by omega
      have e3:¬j*3=k*3+2:=by omega
      have e4:¬j*3+1=k*3:=by omega
      have e5:¬j*3+1=k*3+1:=by omega
      have e6:¬j*3+1=k*3+2:=by omega
      have e7:¬j*3+2=k*3:=by omega
      have e8:¬j*3+2=k*3+1:=by omega
      have e9:¬j*3+2=k*3+2:=by omega
      simp only[e1,e2,e3,e4,e5,e6,e7,e8,e9,if_false];refine⟨q1,q2,ro,rc,q3,?_⟩;have h9:=BX q4 hc8 (fun g e z=>by have:=(q4.lt g e).1;omega);exact BX (Ap h9 hb811 (qB _)) hcs (fun g e z=>by have:=(h9.lt g e).1;omega)
    have hk8i:(k:Int)<(K:Int):=hki;clear hc8 hk8 ho8;go_wp2_with (first
     |(clear tk1;at_builtin;refine W9 (w:=w8.alloc (N #[G V (k:Int)] 3)) rfl (.tmp 48) (.tmp 49) rfl w8.heap.size 1 1 (U ⟨w8.heap.size,0,Z⟩) [.int V (k:Int)] rfl hown8 ao8 fr cap8 (frX m ps l k) rfl hfr8 (by omega) (by simp) ?_;intro vo vc w9 ho9 hg9;have hb9:=HB9.out w9 hg9)
     |(go_at_call 96;refine(HWr.out _ _ _ ho9).mono ?_;rintro e w10 ⟨rb,rcap,rfl,hb10,HO10⟩;obtain⟨⟨⟨v0,s0⟩,⟨v1,s1⟩,⟨v2,s2⟩,s3,s4,s5⟩,hl10,hfin⟩:=HFin.out w9 w10 rb rcap hb9 hb10 HO10.out;have HFi:=(show O _ from hfin)))
    go_roundw
    case rel=>exact⟨k+1,by omega,by go_num,(HFi.out w10 (qD _ _)).below (ai)⟩
    case measure=>simp[intOf];omega
  .obtain rfl:K=k:=by omega
   obtain⟨hb,_,f,hf1,hf2⟩:=HJ.out;have HF:O (DV wr (w.heap.size+1) m ps l K):=by
    refine⟨hf1.lt,fun i hi=>?_⟩;obtain⟨e1,e2,ro,rc,e3,e4⟩:=hf2 i hi;rw[hf1.cell (by omega),hf1.cell (by omega),hf1.cell (by omega),e1,e2,e3];exact⟨rfl,rfl,ro,rc,rfl,Eb e4⟩
   clear HJ;go_wp2_with fail
   go_ret2;exact⟨_,rfl,ae hb1 hb,HF⟩
theorem Lo(x:Int)(ao:Option Addr)(cap:Nat)(r:List Int)(w:M)(hl:r.length<=100000)(hs:r.Pairwise (· <= ·))(hV:IntsVU w (.slice ao r.length cap) r) :
  H qA 98 #[.slice ao r.length cap,.int V x] w fun e w'=>e=L (.bool (decide (x∈r)))/\∃q,w'=w.drewN q:=by
 have hb:H qA 131 #[.slice ao r.length cap,.int V x] w fun e w'=>∃p:Int,e=L (C #[G V p,.bool (decide (x∈r))])/\∃q,w'=w.drewN q:=by
  by_cases hr:r=[]
  .subst hr;exact(slices_BinarySearch_int_empty ao cap x w).mono fun e w' ⟨h1,h2⟩=>⟨0,by rw[h1];simp,0,h2⟩
  .obtain ⟨b,off,rfl,_,_,hat⟩:=hV.at (vO.2 hr);refine(slices_BinarySearch_int b off r.length cap r x w (qB _) (by omega) hat (by rw[vI];exact hs)).mono fun e w' ⟨h1,h2⟩=>⟨((r.countP (· < x):Nat):Int),by rw[h1,vI,List.contains_eq_mem],h2⟩
 generalize decide (x∈r)=o at *;generalize r.length=n at *;clear hV hs
 go_enter Tryz.func98,Tryz.ntmps98;go_wp2_with (go_at_call 131;refine hb.mono ?_;rintro e w1 ⟨p,rfl,q,rfl⟩)
 go_ret;exact⟨rfl,q,rfl⟩
section
variable{m:Mo}{ps:List am}{l:am}{K fb:Nat}{w0 w w2:M}{st:Sr}{g0 g2 g3:J}{g1 g4:Int}
theorem SmallK.may(h:SmallK m ps l K)(hst:SrOk K st):BN (byX m ps l st.n).length ((byX m ps l st.s).length:Nat)=true:=by
 have h1:=h.bytes (n:=st.n) (qI hst.b hst.c);obtain⟨more,h2⟩:=GO (m:=m) (ps:=ps) (l:=l) hst.a;have h3:=congrArg List.length h2;rw[qF]at h3;simp[BN];omega
theorem SxI.tape{dso lo ro:Option Addr}{dc lc rc:Nat}{lol:List Int}{rsl:List (List Int)}(h:SxI m ps l K w0 w st g0 g1 g2 g3 g4 fb dso lo ro dc lc rc lol rsl)(hb:T w.heap.size w w2){no:Option Addr}{nc nn sy:Nat}{bs:List UInt8}(ho:w2.ownsRow w.heap.size 5 1 (Y no nn nc) nn (AG bs)) :
  ((w2.setCell ⟨w0.heap.size,9,Z⟩ (Y no nn nc)).setCell ⟨w0.heap.size,10,Z⟩ (.int V (sy:Nat))).heap[w0.heap.size]? = U (seB g0 g1 g2 g3 g4 (Y (U ⟨fb,0,Z⟩) K K) st.up (fN m ps l st.n) st.n (Y no nn nc) sy (.slice lo lol.length lc) (.slice ro rsl.length rc) st.ag)/\
  ((w2.setCell ⟨w0.heap.size,9,Z⟩ (Y no nn nc)).setCell ⟨w0.heap.size,10,Z⟩ (.int V (sy:Nat))).ownsRow (w0.heap.size+1) 5 1 (Y no nn nc) nn (AG bs)/\
  LoP ((w2.setCell ⟨w0.heap.size,9,Z⟩ (Y no nn nc)).setCell ⟨w0.heap.size,10,Z⟩ (.int V (sy:Nat))) (fun b=>w0.heap.size+1<=b/\(Value.slice no nn nc).ownBlock≠U b) (.slice lo lol.length lc) (.slice ro rsl.length rc) lol rsl:=by
 have hlt:=h.lt;have hbox:w2.heap[w0.heap.size]? = _:=(hb.block _ hlt).trans h.box;have hc:Chg (fun i=>i=w0.heap.size) w2 ((w2.setCell ⟨w0.heap.size,9,Z⟩ (Y no nn nc)).setCell ⟨w0.heap.size,10,Z⟩ (.int V (sy:Nat))):=(Chg.setCell w2 ⟨w0.heap.size,9,Z⟩ _).trans (Chg.setCell _ ⟨w0.heap.size,10,Z⟩ _);refine⟨U1 (NX hbox _) _,BX (Az ho (by omega)) hc (fun g e z=>by have:=(ho.lt g e).1;omega),h.lost.blocks (by simpa using hb.size) fun b hlb hp=>⟨(hc.block b (qE hlb hb.size) (by omega)).trans (hb.block b hlb),hp.1,fun e=>by have:=(ho.lt b e).1;omega⟩⟩
theorem Ux(hK:SmallK m ps l K)(h:SxV m ps l K w0 w g0 g1 g2 g3 g4 fb st)(hup:st.up=true) :
  H qA 66 #[A (U ⟨w0.heap.size,0,Z⟩)] w fun e w'=>e=L (.int V 0)/\SxV m ps l K w0 w' g0 g1 g2 g3 g4 fb { st with s:=st.n}:=by
 obtain⟨dso,lo,ro,dc,lc,rc,lol,rsl,hI⟩:=h.lies;have HSy:=Vw dso dc (byX m ps l st.n) ((byX m ps l st.s).length:Nat) w (hK.may h.ok) (Eb hI.data);obtain⟨_,_,_,_,_,c9,c10,_,_,_⟩:=BT hI.box;have HI:O (∀w2 (no:Option Addr) (nc:Nat),T w.heap.size w w2->w2.ownsRow w.heap.size 5 1 (.slice no (byX m ps l st.n).length nc) (byX m ps l st.n).length (AG (byX m ps l st.n))->((∃v,w2.cell? ⟨w0.heap.size,9,Z⟩=U v)/\(∃v,w2.cell? ⟨w0.heap.size,10,Z⟩=U v)/\w2.frozen? ⟨w0.heap.size,9,Z⟩=I/\w2.frozen? ⟨w0.heap.size,10,Z⟩=I/\w0.heap.size<w2.heap.size)/\SxV m ps l K w0 ((w2.setCell ⟨w0.heap.size,9,Z⟩ (.slice no (byX m ps l st.n).length nc)).setCell ⟨w0.heap.size,10,Z⟩ (.int V ((byX m ps l st.n).length:Nat))) g0 g1 g2 g3 g4 fb { st with s:=st.n}):=fun w2 no nc hb ho=>by
  obtain⟨b1,b2,b3⟩:=hI.tape hb ho (sy:=(byX m ps l st.n).length);have hbox:=(hI.below hb).box;obtain⟨_,_,_,_,_,d9,d10,_,_,_⟩:=BT hbox;refine⟨⟨⟨_,d9⟩,⟨_,d10⟩,CG hbox 9,CG hbox 10,(hI.below hb).lt⟩,⟨⟨qB _,h.ok.b,h.ok.c⟩,fun e=>absurd (hup.symm.trans e) (by simp),?_,h.fnd,no,lo,ro,nc,lc,rc,lol,rsl,⟨b1,b2,b3,hI.may,hI.keys,hI.back⟩⟩⟩;exact((h.below hb).bel_set 9 _).setCell (p:=⟨w0.heap.size,10,Z⟩) (qB _) _
 have hwl:=hI.lt;unfold CL at HSy;generalize(byX m ps l st.n).length=dn at *;clear hI h
 go_enter Tryz.func66,Tryz.ntmps66;go_wp2_with (go_at_call 99;refine HSy.mono ?_;rintro e w2 ⟨no,nc,rfl,hb2,HO⟩;obtain⟨⟨⟨v9,s9⟩,⟨v10,s10⟩,s11,s12,s13⟩,HV⟩:=HI.out w2 no nc hb2 HO.out;have HVV:=(show O _ from HV))
 go_ret;exact⟨rfl,HVV.out.below (ai)⟩
theorem Ly{a b k:Nat}(h:b<=a):EE a (b:Nat) (k:Nat)=b+min k (a-b):=by unfold EE;omega
theorem Uw(hK:SmallK m ps l K)(h:SxV m ps l K w0 w g0 g1 g2 g3 g4 fb st) :
  H qA 68 #[A (U ⟨w0.heap.size,0,Z⟩)] w fun e w'=>e=L (C #[G V (st.s:Nat),.int V 0])/\T w.heap.size w w':=by
 obtain⟨dso,lo,ro,dc,lc,rc,lol,rsl,hI⟩:=h.lies;have hsn:st.s<=st.n:=h.ok.a;have hsK:st.s<=K:=qI hsn (qI h.ok.b h.ok.c);obtain⟨more,hmo⟩:=GO (m:=m) (ps:=ps) (l:=l) hsn;have hle:(byX m ps l st.s).length<=(byX m ps l st.n).length:=by rw[hmo,qF];omega
 have HCr:=K9 dso dc (byX m ps l st.n) ((byX m ps l st.s).length:Nat) ((0:Nat):Int) w (hK.may h.ok) (by omega) (Eb hI.data);rw[Ly hle,Nat.zero_min,Nat.add_zero,show(byX m ps l st.n).take (byX m ps l st.s).length=byX m ps l st.s by rw[hmo,yR]]at HCr;have HRd:O (∀w2 (no:Option Addr) (nc:Nat),w2.ownsRow w.heap.size 5 1 (.slice no (byX m ps l st.s).length nc) (byX m ps l st.s).length (AG (byX m ps l st.s))->∀w3,T w2.heap.size w2 w3->H qA 104 #[E #[.slice no (byX m ps l st.s).length nc,.int V ((byX m ps l st.s).length:Nat)]] w3 fun e w'=>∃ao cap,e=L (C #[.slice ao st.s cap,.int V ((byX m ps l st.s).length:Nat),.int V 0])/\T w3.heap.size w3 w'):=fun w2 no nc ho w3 hb=>by
  have hb5:=hK.bytes hsK;have:=Jo no nc (byX m ps l st.s) ((byX m ps l st.s).length:Nat) w3 (by simp[BN];omega) ((Eb ho).below hb);unfold GE at this;rw[show Ax (byX m ps l st.s)=(rcs m ps l st.s,(byX m ps l st.s).length)from Jn (hK.rcs hsK),show(rcs m ps l st.s,(byX m ps l st.s).length).1.length=st.s from Dq _]at this;exact this.mono fun e w' ⟨ao,cap,h1,h2,_⟩=>⟨ao,cap,h1,h2⟩
 obtain⟨_,_,_,_,_,c9,c10,_,_,_⟩:=BT hI.box;have hwl:=hI.lt;unfold CL at HCr;generalize(byX m ps l st.n).length=dn at *;generalize(byX m ps l st.s).length=ds at *;clear hI h hmo
 go_enter Tryz.func68,Tryz.ntmps68;go_wp2_with (first
  |(go_at_call 100;refine HCr.mono ?_;rintro e w2 ⟨no,nc,rfl,hb2,HO⟩;have HR:=HRd.out w2 no nc HO.out)
  |(go_at_call 104;refine(HR _ (ai)).mono ?_;rintro e w3 ⟨ao,cap,rfl,hb3⟩))
 go_ret2;exact⟨rfl,hb2.trans (((ai).trans (hb3.mono (by simp))).mono hb2.size)⟩
theorem VQ(g0 g2 g3:J)(g1 g4:Int)(c:Int)(w:M)(hc:c=0\/c=11)(hF:∀w2,T w.heap.size w w2->H qA 105 #[E #[g0,.int V g1,g2,g3,.int V g4]] w2 fun e w3=>∃x,e=L (C #[G V x,.int V c])/\T w2.heap.size w2 w3) :
    H qA 69 #[E #[g0,.int V g1,g2,g3,.int V g4]] w fun e w'=>e=L (C #[.bool (decide (c=11)),.int V 0])/\T w.heap.size w w':=by
  have hbA:T w.heap.size w (w.alloc (N #[g0,.int V g1,g2,g3,.int V g4] 45)):=ai;have hF1:=hF _ hbA;obtain⟨q0,q1,q2,q3,q4⟩:=Dn (show(w.alloc (N #[g0,.int V g1,g2,g3,.int V g4] 45)).heap[w.heap.size]? = U (grB g0 g2 g3 g1 g4)from(du w _).1);clear hF;rcases hc with rfl|rfl
  . go_enter iY,i8
    go_wp2_with (first|(go_at_call 105;refine hF1.mono ?_;rintro e w3 ⟨x,rfl,hb3⟩))
    go_ret2;exact⟨by first|rfl|simp,ae hbA hb3⟩
  . go_enter iY,i8
    go_wp2_with (first|(go_at_call 105;refine hF1.mono ?_;rintro e w3 ⟨x,rfl,hb3⟩))
    go_ret2;exact⟨by first|rfl|simp,ae hbA hb3⟩
theorem U2(hK:SmallK m ps l K)(so no xo:Option Addr)(sc nc xc:Nat)(man:Int)(hG:GfV w m ps l K so no sc) :
  H qA 37 #[E #[Y so K sc,.int V ((AC m ps l).length:Nat),Y no K nc,Y xo K xc,.int V man]] w fun e w'=>∃w1 fb,e=L (C #[A (U ⟨w1.heap.size,0,Z⟩),.int V 0])/\T w.heap.size w w1/\SxV m ps l K w1 w' (Y so K sc) ((AC m ps l).length:Nat) (Y no K nc) (Y xo K xc) man fb sr0:=by
 have hbA:T w.heap.size w (w.alloc (N #[Y so K sc,.int V ((AC m ps l).length:Nat),Y no K nc,Y xo K xc,.int V man] 45)):=ai;have HFi:=Qh _ m ps l K hK so no xo sc nc xc man (hG.below hbA);have HBx:O (∀w2,T (w.alloc (N #[Y so K sc,.int V ((AC m ps l).length:Nat),Y no K nc,Y xo K xc,.int V man] 45)).heap.size (w.alloc (N #[Y so K sc,.int V ((AC m ps l).length:Nat),Y no K nc,Y xo K xc,.int V man] 45)) w2->w2.cell? ⟨w.heap.size,0,Z⟩=U (Y so K sc)/\w2.cell? ⟨w.heap.size,1,Z⟩=U (.int V ((AC m ps l).length:Nat))/\w2.cell? ⟨w.heap.size,2,Z⟩=U (Y no K nc)/\w2.cell? ⟨w.heap.size,3,Z⟩=U (Y xo K xc)/\w2.cell? ⟨w.heap.size,4,Z⟩=U (.int V man)):=fun w2 h=>Dn ((h.block _ (by simp)).trans (show(w.alloc (N #[Y so K sc,.int V ((AC m ps l).length:Nat),Y no K nc,Y xo K xc,.int V man] 45)).heap[w.heap.size]? = U (grB (Y so K sc) (Y no K nc) (Y xo K xc) ((AC m ps l).length:Nat) man)from(du w _).1));have HEnd:O (∀(w2:M) (F:Nat),DV w2 F m ps l K->SxV m ps l K w2 (w2.alloc (seB (Y so K sc) ((AC m ps l).length:Nat) (Y no K nc) (Y xo K xc) man (Y (U ⟨F,0,Z⟩) K K) true (AC m ps l).length 0 (Y Z 0 0) 0 (Y Z 0 0) (Y Z 0 0) 0)) (Y so K sc) ((AC m ps l).length:Nat) (Y no K nc) (Y xo K xc) man F sr0):=fun w2 F hF=>by
  refine⟨SrOk.start,fun e=>(by cases e),ai,hF,Z,Z,Z,0,0,0,[],[],⟨?_,aX _ _ _ _,LoP.nil,⟨⟨by simp,by simp,by simp⟩,by simp,by simp[AR],by simp[AR]⟩,fun x hx=>by simp[AR]at hx,fun p _ h=>by simp[sr0]at h⟩⟩;rw[(du w2 _).1];show U _=U (seB _ _ _ _ _ _ true (fN m ps l 0) 0 (.slice Z (byX m ps l 0).length 0) (byX m ps l 0).length _ _ 0);rw[Gb];rfl
 obtain⟨q0,q1,q2,q3,q4⟩:=HBx.out _ (qD _ _);generalize(AC m ps l).length=bn at *
 go_enter Tryz.func37,Tryz.ntmps37;go_wp2_with (go_at_call 64;refine HFi.mono ?_;rintro e w2 ⟨F,rfl,hb2,HF⟩;obtain⟨r0,r1,r2,r3,r4⟩:=HBx.out w2 hb2)
 go_ret2;exact⟨w2,F,rfl,ae hbA hb2,HEnd.out w2 F HF.out⟩
end
structure SxJ(w0 w:M)(ob:Obj)(dv:J)(dn:Nat)(bs:List UInt8)(lv rv:J)(lol:List Int)(rsl:List (List Int)):Prop where
 box:w.heap[w0.heap.size]? = U ob
 data:w.ownsRow (w0.heap.size+1) 5 1 dv dn (AG bs)
 lost:LoP w (fun b=>w0.heap.size+1<=b/\dv.ownBlock≠U b) lv rv lol rsl
section
variable{w0 w w':M}{ob ob':Obj}{dv dv' lv rv:J}{dn:Nat}{bs:List UInt8}{lol:List Int}{rsl:List (List Int)}
theorem SxJ.below(h:SxJ w0 w ob dv dn bs lv rv lol rsl)(hb:T w.heap.size w w'):SxJ w0 w' ob dv dn bs lv rv lol rsl:=
 ⟨(hb.block _ (qG.1 h.box).1).trans h.box,Ap h.data hb (qB _),h.lost.blocks hb.size fun b hlt hp=>⟨hb.block b hlt,hp⟩⟩
theorem SxJ.put(h:SxJ w0 w ob dv dn bs lv rv lol rsl){i:Nat}{v:J}(hb:(w.setCell ⟨w0.heap.size,i,Z⟩ v).heap[w0.heap.size]? = U ob'):SxJ w0 (w.setCell ⟨w0.heap.size,i,Z⟩ v) ob' dv dn bs lv rv lol rsl:=
 ⟨hb,BX h.data (Chg.setCell w _ _) (fun g e z=>by have:=(h.data.lt g e).1;have z':g=w0.heap.size:=z;omega),h.lost.blocks (by simp) fun b _ hp=>⟨RowKit.Below.heap_setCell _ _ _ _ (by show b≠w0.heap.size;omega),hp⟩⟩
theorem SxJ.grow(h:SxJ w0 w ob dv dn bs lv rv lol rsl){g cap dn':Nat}{bs':List UInt8}(hg:w.grownBy w' dv.ownBlock)(ho:w'.ownsRow (w0.heap.size+1) 5 1 (Y (U ⟨g,0,Z⟩) dn' cap) dn' (AG bs'))(hat:dv.ownBlock=U g\/g=w.heap.size):SxJ w0 w' ob (Y (U ⟨g,0,Z⟩) dn' cap) dn' bs' lv rv lol rsl:=by
 have hX:=(qG.1 h.box).1;refine⟨(hg.block _ hX fun e=>by have:=(h.data.lt _ e.symm).1;omega).trans h.box,ho,h.lost.blocks hg.size fun b hlt hp=>⟨hg.block b hlt fun e=>hp.2 e.symm,hp.1,fun e=>?_⟩⟩;have e':g=b:=by injection e with e
 subst e';rcases hat with h1|h1
 .exact hp.2 h1
 .omega
end
section
variable{m:Mo}{ps:List am}{l:am}{K:Nat}{st:Sr}
theorem SmallK.key_eq(h:SmallK m ps l K){p q:Nat}(hp:p<K)(hq:q<K)(e:kyX m ps l K p=kyX m ps l K q):p=q:=by
 have h1:=(h.one _ (h.at_mem hp)).2.2 _ (h.at_mem hq) e;have h2:=KQ h.done hp;rw[h1,KQ h.done hq]at h2;exact h2.symm
theorem SM(hK:SmallK m ps l K)(hst:SrOk K st){lol:List Int}{rsl:List (List Int)}(h1:∀x∈AR lol rsl,∃p,p<st.mx/\x=kyX m ps l K p)(h2:∀p,st.n<=p->p<st.mx->kyX m ps l K p∈AR lol rsl){p:Nat}(hp:st.n<=p)(hpK:p<K):kyX m ps l K p∈up (AR lol rsl)↔p<st.mx:=by
 rw[(DT _).mem_iff];constructor
 .intro h;obtain⟨q,hq,e⟩:=h1 _ h;have:=hst.c;rw[hK.key_eq hpK (by omega) e];exact hq
 .exact h2 p hp
theorem Wy(hst:SrOk K st){j:Nat}(hj:(wkS K st j).n<K):(wkS K st j).n=st.n+j/\(wkS K st (j+1)).n=st.n+j+1/\(wkS K st (j+1)).mx=max (wkS K st j).mx (st.n+j+1)/\(wkS K st (j+1)).ag=(wkS K st j).ag+(if st.n+j<st.mx then 1 else 0)/\(wkS K st (j+1)).s=(wkS K st j).s/\(wkS K st (j+1)).up=(wkS K st j).up:=by
 have h1:min (st.n+j) K<K:=hj;have:=hst.b;have:=hst.c;refine⟨by show min (st.n+j) K=_;omega,by show min (st.n+(j+1)) K=_;omega,by show max st.mx (min (st.n+(j+1)) K)=max (max st.mx (min (st.n+j) K)) _;omega,?_,rfl,rfl⟩;show st.ag+(min (min (st.n+(j+1)) K) st.mx-st.n)=st.ag+(min (min (st.n+j) K) st.mx-st.n)+_;split<;>omega
theorem Wz(hst:SrOk K st):wkS K st 0=st:=by
 have:=hst.b;have:=hst.c;obtain⟨u,n,s,mx,ag⟩:=st;simp only[wkS,Sr.mk.injEq,true_and]at *;exact⟨by omega,by omega,by omega⟩
theorem Wx{j k:Nat}(hj:j<=k)(h:¬(wkS K st j).n<K):wkS K st j=wkS K st k:=by
 have h1:¬min (st.n+j) K<K:=h;have e:min (st.n+j) K=min (st.n+k) K:=by omega
 simp only[wkS,Sr.mk.injEq,true_and];exact⟨e,by rw[e],by rw[e]⟩
end
def WkJ(m:Mo)(ps:List am)(l:am)(K:Nat)(w0 wS wA wr:M)(g0:J)(g1:Int)(g2 g3:J)(g4:Int)(fb:Nat)(st:Sr)(lol:List Int)(rsl:List (List Int))(lv:J)(ks:List Int):Prop:=
 T w0.heap.size w0 wr/\wA.heap.size<=wr.heap.size/\Cc wr (fun b=>wS.heap.size<=b/\b<wA.heap.size) lv ks/\∃(dso lo ro:Option Addr) (dc lc rc:Nat),SxI m ps l K w0 wr st g0 g1 g2 g3 g4 fb dso lo ro dc lc rc lol rsl/\∀g,(Value.slice dso (byX m ps l st.n).length dc).ownBlock=U g->g<wS.heap.size\/wA.heap.size<=g
theorem DV.below{m:Mo}{ps:List am}{l:am}{K fb:Nat}{w w':M}(h:DV w fb m ps l K)(hb:T w.heap.size w w'):DV w' fb m ps l K:=⟨qE h.1 hb.size,fun i hi=>by
 obtain⟨e1,e2,ro,rc,e3,e4⟩:=h.2 i hi;have hc:∀(p:Addr) (x:J),w.cell? p=U x->w'.cell? p=U x:=fun p x h=>(hb.cell (bW w p h)).trans h;exact⟨hc _ _ e1,hc _ _ e2,ro,rc,hc _ _ e3,e4.below hb⟩⟩
theorem May.szU{lo:List Int}{rs:List (List Int)}(h:May lo rs):StSzU lo rs/\(up (AR lo rs)).length<=100000:=by
 have h1:=h.size.many;refine⟨⟨by have:=h.size.loose;omega,by have:=h.size.runs;omega,fun i hi=>by have:=El (Dc hi []);omega⟩,?_⟩;rw[F6,AR,qF];omega
theorem UU{m:Mo}{ps:List am}{l:am}{K n fo th sy ag dc:Nat}{w0 w:M}{up:Bool}{dso:Option Addr}{g0 g2 g3 fv lv rv:J}{g4:Int}{lol:List Int}{rsl:List (List Int)}(hK:SmallK m ps l K)(hn:n<=K)(hsy:sy<=(byX m ps l n).length)
  (hj:SxJ w0 w (seB g0 ((AC m ps l).length:Nat) g2 g3 g4 fv up fo th (.slice dso (byX m ps l n).length dc) sy lv rv ag) (.slice dso (byX m ps l n).length dc) (byX m ps l n).length (byX m ps l n) lv rv lol rsl) :
  H qA 102 #[A (U ⟨w0.heap.size,0,Z⟩)] w fun e w'=>e=L (.int V 0)/\Chg (fun i=>i=w0.heap.size) w w'/\SxJ w0 w' (seB g0 ((AC m ps l).length:Nat) g2 g3 g4 fv up (fN m ps l n) n (.slice dso (byX m ps l n).length dc) sy lv rv ag) (.slice dso (byX m ps l n).length dc) (byX m ps l n).length (byX m ps l n) lv rv lol rsl:=by
 have hb5:=hK.bytes hn;have HRd:=Jo dso dc (byX m ps l n) (sy:Nat) w (by simp[BN];omega) (Eb hj.data);unfold GE at HRd;rw[show Ax (byX m ps l n)=(rcs m ps l n,(byX m ps l n).length)from Jn (hK.rcs hn)]at HRd;have HJ:O (SxJ w0 w (seB g0 ((AC m ps l).length:Nat) g2 g3 g4 fv up fo th (.slice dso (byX m ps l n).length dc) sy lv rv ag) (.slice dso (byX m ps l n).length dc) (byX m ps l n).length (byX m ps l n) lv rv lol rsl):=hj;have HRc:O (∀(w1:M) (ao:Option Addr) (cap:Nat),LisO w1 w.heap.size (Y ao n cap) (rcs m ps l n)->∀wr,Chg (fun i=>i=w0.heap.size) w1 wr->∀k,k<n->∃b uo uc,ao=U ⟨b,0,Z⟩/\wr.cell? ⟨b,k,Z⟩=U (.slice uo (fN m ps l (k+1)-fN m ps l k+1) uc)):=fun w1 ao cap ⟨us,h1,h2,h3⟩ wr hc k hk=>by
  rw[Dq]at h1 h2 h3;rcases h1.2 with⟨_,h0⟩|⟨g,cap',cur,e,hg,_⟩
  .rw[h0]at h2;simp at h2;omega
  .injection e with e1 _ _;obtain⟨uo,uc,e2⟩:=Au (h3 k hk);rw[UJ hk,Fy]at e2;subst e1;refine⟨g,uo,uc,rfl,?_⟩;rw[<-e2];have h5:=h1.cellAt k (by omega);rw[qC,qH (by omega),Option.getD_some];rw[qH (by omega)]at h5;exact hc.cell h5 (by have:=(qG.1 HJ.out.box).1;show g≠_;omega)
 have HFn:O (∀k,k<n->fN m ps l (k+1)=fN m ps l k+(fN m ps l (k+1)-fN m ps l k)/\fN m ps l (k+1)<=1000):=fun k hk=>by
  have:=E7 (m:=m) (ps:=ps) (l:=l) (xF k 1);have:=(DZ hK.done (j:=k+1) (by omega)).2;have:=hK.few;omega
 have HF0:O (fN m ps l 0=(AC m ps l).length):=Gb;have hnb:n<=1000:=by have:=hK.few;omega
 obtain⟨⟨_,c1,_,_,_⟩,_,_,c7,c8,c9,c10,_,_,_⟩:=BT hj.box;have hf7:=CG hj.box 7;have hf8:=CG hj.box 8;have hwl:w0.heap.size<w.heap.size:=(qG.1 hj.box).1;rw[show(rcs m ps l n,(byX m ps l n).length).1.length=n from Dq _]at HRd;generalize(AC m ps l).length=bn at *;generalize hdn:(byX m ps l n).length=dn at *;clear hj hb5 hdn
 go_enter Tryz.func102,Tryz.ntmps102;go_upto_region 4 with(go_at_call 104;refine HRd.mono ?_;rintro e w1 ⟨ao,cap,rfl,hb1,HL⟩)
 have HJ1:=(show O _ from HJ.out.below hb1);have HL1:=(show O _ from HRc.out w1 ao cap HL.out);clear c1 c7 c8 c9 c10 hf7 hf8;obtain⟨⟨_,c1,_,_,_⟩,_,_,c7,c8,_⟩:=BT HJ1.out.box;have hf7:=CG HJ1.out.box 7;have hf8:=CG HJ1.out.box 8;go_upto_region 5 with fail
 have h8:=HJ1.out.put (NY HJ1.out.box n);have h7:=h8.put (Ju h8.box bn);have hc7:Chg (fun i=>i=w0.heap.size) w1 ((w1.setCell ⟨w0.heap.size,8,Z⟩ (.int V (n:Nat))).setCell ⟨w0.heap.size,7,Z⟩ (.int V (bn:Nat))):=(Chg.setCell w1 ⟨w0.heap.size,8,Z⟩ _).trans (Chg.setCell _ ⟨w0.heap.size,7,Z⟩ _);have HP0:O (SxJ w0 ((w1.setCell ⟨w0.heap.size,8,Z⟩ (.int V (n:Nat))).setCell ⟨w0.heap.size,7,Z⟩ (.int V (bn:Nat))) (seB g0 (bn:Nat) g2 g3 g4 fv up (fN m ps l 0) n (Y dso dn dc) sy lv rv ag) (Y dso dn dc) dn (byX m ps l n) lv rv lol rsl/\Chg (fun i=>i=w0.heap.size) w1 ((w1.setCell ⟨w0.heap.size,8,Z⟩ (.int V (n:Nat))).setCell ⟨w0.heap.size,7,Z⟩ (.int V (bn:Nat)))):=by
  rw[HF0.out];exact⟨h7,hc7⟩
 clear h7 h8 hc7 c1 c7 c8 hf7 hf8;generalize(w1.setCell ⟨w0.heap.size,8,Z⟩ (.int V (n:Nat))).setCell ⟨w0.heap.size,7,Z⟩ (.int V (bn:Nat))=W5 at *
 go_wp2_with fail
 go_loopw [35] (fun i wr=>∃k:Nat,k<=n/\i=.int V k/\O (SxJ w0 wr (seB g0 (bn:Nat) g2 g3 g4 fv up (fN m ps l k) n (Y dso dn dc) sy lv rv ag) (Y dso dn dc) dn (byX m ps l n) lv rv lol rsl/\Chg (fun i=>i=w0.heap.size) w1 wr)) (fun i _=>n-(intOf i).toNat)
 case atStart=>exact⟨0,qJ _,rfl,HP0.out⟩
 case round=>
  obtain⟨k,hk,rfl,HP⟩:=hrel;obtain⟨_,_,_,c7,_⟩:=BT HP.out.1.box;have hf7:=CG HP.out.1.box 7;by_cases hlt:k<n
  .have hki:(k:Int)<(n:Int):=by omega
   obtain⟨b,uo,uc,rfl,hcl⟩:=HL1.out wr HP.out.2 k hlt;have hfn:=HFn.out k hlt;have HFn1:=(show O _ from hfn.1);have h9:=HP.out.1.put (Ju HP.out.1.box (fN m ps l (k+1)));have HP9:O (SxJ w0 (wr.setCell ⟨w0.heap.size,7,Z⟩ (.int V ((fN m ps l (k+1):Nat):Int))) (seB g0 (bn:Nat) g2 g3 g4 fv up (fN m ps l (k+1)) n (Y dso dn dc) sy lv rv ag) (Y dso dn dc) dn (byX m ps l n) lv rv lol rsl/\Chg (fun i=>i=w0.heap.size) w1 (wr.setCell ⟨w0.heap.size,7,Z⟩ (.int V ((fN m ps l (k+1):Nat):Int)))):=⟨h9,HP.out.2.trans (Chg.setCell wr ⟨w0.heap.size,7,Z⟩ _)⟩;have hfr:fN m ps l (k+1)-fN m ps l k<=1000:=by omega
   have hfo:fN m ps l k<=1000:=by omega
   clear h9 hfn;generalize fN m ps l (k+1)-fN m ps l k=fr at *;have hcast:((fN m ps l (k+1):Nat):Int)=(fN m ps l k:Int)+(fr:Int):=by have:=HFn1.out;omega
   rw[hcast]at HP9;clear hcast;generalize fN m ps l k=fo2 at *
   go_wp2_with fail
   go_roundw
   case rel=>exact⟨k+1,by omega,by go_num,HP9⟩
   case measure=>simp[intOf];omega
  .obtain rfl:n=k:=by omega
   clear c7 hf7;go_wp2_with fail
   go_ret;exact⟨rfl,(Chg.of hb1).trans HP.out.2,HP.out.1⟩
structure LsJ(m:Mo)(ps:List am)(l:am)(K:Nat)(lol:List Int)(rsl:List (List Int))(a b:Nat)(lol':List Int)(rsl':List (List Int)):Prop where
 may:May lol' rsl'
 iff:∀x,x∈AR lol' rsl'↔x∈AR lol rsl\/∃p,a<=p/\p<b/\x=kyX m ps l K p
section
variable{m:Mo}{ps:List am}{l:am}{K a b:Nat}{lol lol':List Int}{rsl rsl':List (List Int)}
theorem SmallK.few_keys(hK:SmallK m ps l K){ks:List Int}(hn:ks.Nodup)(h:∀x∈ks,∃p,p<K/\x=kyX m ps l K p):ks.length<=1000:=by
 have hsub:ks ⊆ (List.range K).map (kyX m ps l K):=fun x hx=>by
  obtain⟨p,hp,e⟩:=h x hx;exact vH.2 ⟨p,List.mem_range.2 hp,e.symm⟩
 have h1:=hn.length_le_of_subset hsub;rw[List.length_map,List.length_range]at h1;have:=hK.few;omega
theorem LsJ.same(h:LsJ m ps l K lol rsl a b lol' rsl')(ha:a<=b)(hm:kyX m ps l K b∈AR lol rsl):LsJ m ps l K lol rsl a (b+1) lol' rsl':=by
 refine⟨h.may,fun x=>?_⟩;rw[h.iff];constructor
 .rintro (h1|⟨p,h1,h2,h3⟩)
  .exact .inl h1
  .exact .inr ⟨p,h1,by omega,h3⟩
 .rintro (h1|⟨p,h1,h2,h3⟩)
  .exact .inl h1
  .by_cases e:p=b
   .subst e;subst h3;exact .inl hm
   .exact .inr ⟨p,h1,by omega,h3⟩
theorem LsJ.add(hK:SmallK m ps l K)(hold:∀x∈AR lol rsl,∃p,p<K/\x=kyX m ps l K p)(h:LsJ m ps l K lol rsl a b lol' rsl')(ha:a<=b)(hb:b<K):∃lo2 rs2 f,GI lol' rsl' (kyX m ps l K b)=(lo2,rs2,f,0)/\LsJ m ps l K lol rsl a (b+1) lo2 rs2:=by
 have hx:=hK.key (hK.spot hb);have hx':0<=kyX m ps l K b/\kyX m ps l K b<=2147483647:=⟨hx.1,by have:kyX m ps l K b<640000:=hx.2;omega⟩;have hin:∀x∈AR lol' rsl',∃p,p<K/\x=kyX m ps l K p:=fun x hx=>by
  rcases(h.iff x).1 hx with h1|⟨p,_,h2,h3⟩
  .exact hold x h1
  .exact ⟨p,by omega,h3⟩
 have hnext:∀x,(∃p,a<=p/\p<b+1/\x=kyX m ps l K p)↔(∃p,a<=p/\p<b/\x=kyX m ps l K p)\/x=kyX m ps l K b:=fun x=>by
  constructor
  .rintro ⟨p,h1,h2,h3⟩;by_cases e:p=b
   .subst e;exact .inr h3
   .exact .inl ⟨p,h1,by omega,h3⟩
  .rintro (⟨p,h1,h2,h3⟩|h3)
   .exact ⟨p,h1,by omega,h3⟩
   .exact ⟨b,ha,by omega,h3⟩
 unfold GI;rw[aj h.may,aj hx'];by_cases hm:kyX m ps l K b∈AR lol' rsl'
 .rw[aj hm];refine⟨lol',rsl',I,rfl,h.may,fun x=>?_⟩;rw[h.iff,hnext];constructor
  .rintro (h1|h1)
   .exact .inl h1
   .exact .inr (.inl h1)
  .rintro (h1|h1|h1)
   .exact .inl h1
   .exact .inr h1
   .subst h1;exact(h.iff _).1 hm
 .have hc:lol'.length+rsl'.flatten.length<=1000:=by
   have:=hK.few_keys h.may.nodup hin;rw[AR,qF]at this;omega
  rw[ak hm,ak (by omega)];refine⟨_,_,true,rfl,h.may.add hx'.1 hx'.2 hm (by omega),fun x=>?_⟩;rw[(Ke lol' rsl' _).mem_iff,List.mem_append,List.mem_singleton,h.iff,hnext,or_assoc]
end
theorem SxJ.lists{w0 w w':M}{g0 g2 g3 fv dv lv rv lv' rv':J}{g1 g4:Int}{up:Bool}{fo th sy ag dn:Nat}{bs:List UInt8}{lol lol':List Int}{rsl rsl':List (List Int)}(h:SxJ w0 w (seB g0 g1 g2 g3 g4 fv up fo th dv sy lv rv ag) dv dn bs lv rv lol rsl)(hb:T w.heap.size w w')(hl:LoP w' (fun b=>w.heap.size<=b) lv' rv' lol' rsl') :
    SxJ w0 ((w'.setCell ⟨w0.heap.size,11,Z⟩ lv').setCell ⟨w0.heap.size,12,Z⟩ rv') (seB g0 g1 g2 g3 g4 fv up fo th dv sy lv' rv' ag) dv dn bs lv' rv' lol' rsl':=by
  have h2:=h.below hb;have hX:=(qG.1 h.box).1;have hc:Chg (fun i=>i=w0.heap.size) w' ((w'.setCell ⟨w0.heap.size,11,Z⟩ lv').setCell ⟨w0.heap.size,12,Z⟩ rv'):=(Chg.setCell w' ⟨w0.heap.size,11,Z⟩ _).trans (Chg.setCell _ ⟨w0.heap.size,12,Z⟩ _);refine⟨U0 h2.box _ _,BX h2.data hc (fun g e z=>by have:=(h2.data.lt g e).1;omega),hl.blocks (by simp) fun b hlt hp=>⟨hc.block b hlt (by omega),by omega,fun e=>by have:=(h.data.lt b e).2;omega⟩⟩
theorem Qd{w:M}{X:Nat}{a b c:J}{t:TypeId}(h:w.heap[X]? = U (N #[a,b,c] t)):w.cell? ⟨X,0,Z⟩=U a:=by simp[br,h]
theorem SJ{m:Mo}{ps:List am}{l:am}{K n fo th sy ag dn fb cnt fcap:Nat}{w0 w:M}{upB:Bool}{pa lo ro:Option Addr}{lc rc:Nat}{g0 g2 g3 fv dv:J}{g1 g4:Int}{bs:List UInt8}{lol:List Int}{rsl:List (List Int)}(hK:SmallK m ps l K)(hn:n+cnt<=K)(hpa:0<cnt->pa=U ⟨fb,n*3,Z⟩)
  (hF:DV w0 fb m ps l K) (hb0:T w0.heap.size w0 w) (hmay:May lol rsl) (hold:∀x∈AR lol rsl,∃p,p<K/\x=kyX m ps l K p)
  (hj:SxJ w0 w (seB g0 g1 g2 g3 g4 fv upB fo th dv sy (.slice lo lol.length lc) (.slice ro rsl.length rc) ag) dv dn bs (.slice lo lol.length lc) (.slice ro rsl.length rc) lol rsl) :
  H qA 103 #[A (U ⟨w0.heap.size,0,Z⟩),Y pa cnt fcap] w fun e w'=>e=L (.int V 0)/\Chg (fun i=>i=w0.heap.size) w w'/\∃lo2 ro2 lc2 rc2 lol2 rsl2,LsJ m ps l K lol rsl n (n+cnt) lol2 rsl2/\SxJ w0 w' (seB g0 g1 g2 g3 g4 fv upB fo th dv sy (.slice lo2 lol2.length lc2) (.slice ro2 rsl2.length rc2) ag) dv dn bs (.slice lo2 lol2.length lc2) (.slice ro2 rsl2.length rc2) lol2 rsl2:=by
 obtain⟨hl1,hl2⟩:=hj.lost.two;have HAl:=Kh lol rsl lo ro lc rc w hmay.szU.1 hl1 hl2;rw[IU hmay,F1 hmay]at HAl;unfold FT at HAl;have HK:O (SmallK m ps l K):=hK;have HO:O (∀x∈AR lol rsl,∃p,p<K/\x=kyX m ps l K p):=hold;have HJ:O (SxJ w0 w (seB g0 g1 g2 g3 g4 fv upB fo th dv sy (.slice lo lol.length lc) (.slice ro rsl.length rc) ag) dv dn bs (.slice lo lol.length lc) (.slice ro rsl.length rc) lol rsl):=hj;have HFn:O (∀wr,T w0.heap.size w0 wr->DV wr fb m ps l K):=fun wr hb=>hF.below hb;have HKs:O ((up (AR lol rsl)).Pairwise (· <= ·)/\(up (AR lol rsl)).length<=100000/\∀x,x∈up (AR lol rsl)->x∈AR lol rsl):=⟨FR _,hmay.szU.2,fun x hx=>(DT _).mem_iff.1 hx⟩;have HL0:O (LsJ m ps l K lol rsl n (n+0) lol rsl):=⟨hmay,fun x=>⟨fun h=>.inl h,fun h=>by
  rcases h with h|⟨p,h1,h2,_⟩
  .exact h
  .omega⟩⟩
 obtain⟨_,_,_,_,_,_,_,c11,c12,_⟩:=BT hj.box;have hwl:w0.heap.size<w.heap.size:=(qG.1 hj.box).1;have hnb:cnt<=1000:=by have:=hK.few;omega
 clear hj hl1 hl2 hmay hold hF;generalize hkse:up (AR lol rsl)=ks at *
 go_enter Tryz.func103,Tryz.ntmps103;go_upto_region 2 with(go_at_call 97;refine HAl.mono ?_;rintro e wA ⟨ko,kc,rfl,hbA,HKl⟩)
 have HI0:O (Cc wA (fun b=>w.heap.size<=b) (.slice ko ks.length kc) ks):=HKl.out;have HJ0:O (SxJ w0 wA (seB g0 g1 g2 g3 g4 fv upB fo th dv sy (.slice lo lol.length lc) (.slice ro rsl.length rc) ag) dv dn bs (.slice lo lol.length lc) (.slice ro rsl.length rc) lol rsl):=HJ.out.below hbA;clear HKl c11 c12;go_wp2_with fail
 go_loopw [22] (fun i wr=>∃(k:Nat) (lo2 ro2:Option Addr) (lc2 rc2:Nat) (lol2:List Int) (rsl2:List (List Int)),k<=cnt/\i=.int V k/\O (LsJ m ps l K lol rsl n (n+k) lol2 rsl2/\SxJ w0 wr (seB g0 g1 g2 g3 g4 fv upB fo th dv sy (.slice lo2 lol2.length lc2) (.slice ro2 rsl2.length rc2) ag) dv dn bs (.slice lo2 lol2.length lc2) (.slice ro2 rsl2.length rc2) lol2 rsl2/\Chg (fun i=>i=w0.heap.size) wA wr)) (fun i _=>cnt-(intOf i).toNat)
 case atStart=>exact⟨0,lo,ro,lc,rc,lol,rsl,qJ _,rfl,HL0.out,HJ0.out,Chg.refl _ _⟩
 case round=>
  obtain⟨k,lo2,ro2,lc2,rc2,lol2,rsl2,hk,rfl,HP⟩:=hrel;by_cases hlt:k<cnt
  .have hki:(k:Int)<(cnt:Int):=by omega
   obtain rfl:=hpa (by omega);have hpK:n+k<K:=by omega
   have hb0r:T w0.heap.size w0 wr:=(ae hb0 hbA).trans (HP.out.2.2.below (fun i e=>by omega) (by have:=hbA.size;omega));obtain⟨d0,d1,ro9,rc9,d2,_⟩:=(HFn.out wr hb0r).2 _ hpK;rw[Nat.add_mul]at d0 d1 d2;have HLx:=(show O _ from HP.out.1);have HCx:O (Chg (fun i=>i=w0.heap.size) wA wr):=HP.out.2.2;have hkw:Cc wr (fun b=>w.heap.size<=b) (.slice ko ks.length kc) ks:=HI0.out.blocks HCx.out.size fun b hlt hp=>⟨HCx.out.block b hlt (by omega),hp⟩;have hkx:AP ((xpP m ps l K).getD (n+k) (0,0))=kyX m ps l K (n+k):=rfl;rw[hkx]at d0;clear hkx;obtain⟨lo3,rs3,fl,hadd,hls⟩:=HP.out.1.add HK.out HO.out (xF n k) hpK;have HAd:=(show O _ from hls);have HKy:O (kyX m ps l K (n+k)∈AR lol rsl->LsJ m ps l K lol rsl n (n+k+1) lol2 rsl2):=fun h=>HP.out.1.same (xF n k) h;have hal:T wr.heap.size wr (wr.alloc (N #[G V (kyX m ps l K (n+k)),.int V ((fN m ps l (n+k+1)-fN m ps l (n+k):Nat):Int),.slice ro9 (AD (rcX m ps l (n+k))).length rc9] 205)):=ai;have hin:=Lo (kyX m ps l K (n+k)) ko kc ks _ HKs.out.2.1 HKs.out.1 (hkw.1.below hal);have HJw:O (SxJ w0 wr (seB g0 g1 g2 g3 g4 fv upB fo th dv sy (.slice lo2 lol2.length lc2) (.slice ro2 rsl2.length rc2) ag) dv dn bs (.slice lo2 lol2.length lc2) (.slice ro2 rsl2.length rc2) lol2 rsl2):=HP.out.2.1;have HMay:O (May lol2 rsl2):=HP.out.1.may;have HAdd:O (∀W,T wr.heap.size wr W->H qA 133 #[E #[.slice lo2 lol2.length lc2,.slice ro2 rsl2.length rc2],.int V (kyX m ps l K (n+k))] W fun e w'=>∃xo xc yo yc,e=L (C #[E #[.slice xo lo3.length xc,.slice yo rs3.length yc],.bool fl,.int V 0])/\T W.heap.size W w'/\O (LoP w' (fun b=>W.heap.size<=b) (.slice xo lo3.length xc) (.slice yo rs3.length yc) lo3 rs3)):=fun W h=>by
    obtain⟨l1,l2⟩:=(HJw.out.below h).lost.two;have:=Ob lol2 rsl2 (kyX m ps l K (n+k)) lo2 ro2 lc2 rc2 W HMay.out.szU.1 l1 l2;rw[hadd]at this;exact this.mono fun e w' ⟨xo,xc,yo,yc,q1,q2,q3,q4⟩=>⟨xo,xc,yo,yc,q1,q2,LoP.of q3.out q4.out⟩
   clear hadd hls hkw HP;generalize kyX m ps l K (n+k)=ky at *;generalize fN m ps l (n+k+1)-fN m ps l (n+k)=fr at *;generalize(AD (rcX m ps l (n+k))).length=rn at *
   have HWd:O (∀q,T wr.heap.size wr ((wr.alloc (N #[G V ky,.int V ((fr:Nat):Int),Y ro9 rn rc9] 205)).drewN q)):=fun q=>hal.trans ⟨rfl,rfl,rfl,qB _,fun _ _=>rfl⟩;by_cases hmem:ky∈ks
   .rw[decide_eq_true hmem]at hin;have HLs:=(show O _ from HKy.out (HKs.out.2.2 _ hmem));go_wp2_with (go_at_call 98;refine hin.mono ?_;rintro e w7 ⟨rfl,q,rfl⟩)
    have hdr:=HWd.out q;go_roundw
    case rel=>exact⟨k+1,lo2,ro2,lc2,rc2,lol2,rsl2,by omega,by go_num,HLs.out,HJw.out.below hdr,HCx.out.trans (Chg.of hdr)⟩
    case measure=>
     simp[intOf];omega
   .rw[decide_eq_false hmem]at hin;go_upto_region 8 with(go_at_call 98;refine hin.mono ?_;rintro e w7 ⟨rfl,q,rfl⟩)
    have hdr:=HWd.out q;have f7:((wr.alloc (N #[G V ky,.int V ((fr:Nat):Int),Y ro9 rn rc9] 205)).drewN q).cell? ⟨wr.heap.size,0,Z⟩=U (.int V ky):=by
     exact Qd (show(wr.alloc (N #[G V ky,.int V ((fr:Nat):Int),Y ro9 rn rc9] 205)).heap[wr.heap.size]? = _ from(du wr _).1)
    have hwx:w0.heap.size<wr.heap.size:=(qG.1 HJw.out.box).1;clear hal hin;obtain⟨W7,hW7⟩:∃W7,W7=(wr.alloc (N #[G V ky,.int V ((fr:Nat):Int),Y ro9 rn rc9] 205)).drewN q:=⟨_,rfl⟩;rw[<-hW7]at hdr f7⊢;clear hW7;have HJ7:=(show O _ from HJw.out.below hdr);obtain⟨_,_,_,_,_,_,_,e11,e12,_⟩:=BT HJ7.out.box;have hdw:T W7.heap.size W7 W7.drew:=⟨rfl,rfl,rfl,qB _,fun _ _=>rfl⟩;have HA7:=HAdd.out W7.drew (hdr.trans ⟨rfl,rfl,rfl,qB _,fun _ _=>rfl⟩);have HL7:O (∀(W:M) (xv yv:J),T W7.heap.size W7 W->LoP W (fun b=>W7.heap.size<=b) xv yv lo3 rs3->((∃v,W.cell? ⟨w0.heap.size,11,Z⟩=U v)/\(∃v,W.cell? ⟨w0.heap.size,12,Z⟩=U v)/\W.frozen? ⟨w0.heap.size,11,Z⟩=I/\W.frozen? ⟨w0.heap.size,12,Z⟩=I/\w0.heap.size<W.heap.size)/\(SxJ w0 ((W.setCell ⟨w0.heap.size,11,Z⟩ xv).setCell ⟨w0.heap.size,12,Z⟩ yv) (seB g0 g1 g2 g3 g4 fv upB fo th dv sy xv yv ag) dv dn bs xv yv lo3 rs3/\Chg (fun i=>i=w0.heap.size) wA ((W.setCell ⟨w0.heap.size,11,Z⟩ xv).setCell ⟨w0.heap.size,12,Z⟩ yv))):=fun W xv yv hW hL=>by
     have hbx:=(HJ7.out.below hW).box;obtain⟨_,_,_,_,_,_,_,e11,e12,_⟩:=BT hbx;exact⟨⟨⟨_,e11⟩,⟨_,e12⟩,CG hbx 11,CG hbx 12,(qG.1 hbx).1⟩,HJ7.out.lists hW hL,((HCx.out.trans (Chg.of hdr)).trans (Chg.of hW)).trans ((Chg.setCell W ⟨w0.heap.size,11,Z⟩ _).trans (Chg.setCell _ ⟨w0.heap.size,12,Z⟩ _))⟩
    go_cut [6] (fun u wx=>u=.int V 0/\∃xo xc yo yc,O (SxJ w0 wx (seB g0 g1 g2 g3 g4 fv upB fo th dv sy (.slice xo lo3.length xc) (.slice yo rs3.length yc) ag) dv dn bs (.slice xo lo3.length xc) (.slice yo rs3.length yc) lo3 rs3/\Chg (fun i=>i=w0.heap.size) wA wx))
    case first=>
     go_region_law (first
      |(go_simp;go_at_call 133;refine HA7.mono ?_;rintro e w8 ⟨xo,xc,yo,yc,rfl,hb8,HLp⟩;obtain⟨⟨⟨v11,s11⟩,⟨v12,s12⟩,s13,s14,s15⟩,HX8⟩:=HL7.out w8 _ _ (hdw.trans hb8) HLp.out;have HX9:=(show O _ from HX8)))
     all_goals go_wp2_with fail
     all_goals go_meet
     all_goals exact⟨rfl,xo,xc,yo,yc,HX9.out⟩
    case rest=>
     obtain⟨rfl,xo,xc,yo,yc,HX⟩:=hcut;go_wp2_with fail
     go_roundw
     case rel=>exact⟨k+1,xo,yo,xc,yc,lo3,rs3,by omega,by go_num,HAd.out,HX.out.1,HX.out.2⟩
     case measure=>
      simp[intOf];omega
  .obtain rfl:cnt=k:=by omega
   go_wp2_with fail
   go_ret;exact⟨rfl,(Chg.of hbA).trans HP.out.2.2,lo2,ro2,lc2,rc2,lol2,rsl2,HP.out.1,HP.out.2.1⟩
section
variable{m:Mo}{ps:List am}{l:am}{K fb:Nat}{w0 w:M}{st:Sr}{g0 g2 g3:J}{g1 g4:Int}
theorem SxI.torn{dso lo ro:Option Addr}{dc lc rc:Nat}{lol:List Int}{rsl:List (List Int)}(h:SxI m ps l K w0 w st g0 g1 g2 g3 g4 fb dso lo ro dc lc rc lol rsl)(hb0:T w0.heap.size w0 w){w2:M}(hb:T w.heap.size w w2){no:Option Addr}{nc nn sy:Nat}{bs:List UInt8}(ho:w2.ownsRow w.heap.size 5 1 (Y no nn nc) nn (AG bs)) :
  SxJ w0 (((w2.setCell ⟨w0.heap.size,9,Z⟩ (Y no nn nc)).setCell ⟨w0.heap.size,10,Z⟩ (.int V (sy:Nat))).setCell ⟨w0.heap.size,6,Z⟩ (.bool I)) (seB g0 g1 g2 g3 g4 (Y (U ⟨fb,0,Z⟩) K K) I (fN m ps l st.n) st.n (Y no nn nc) sy (.slice lo lol.length lc) (.slice ro rsl.length rc) st.ag) (Y no nn nc) nn bs (.slice lo lol.length lc) (.slice ro rsl.length rc) lol rsl/\T w0.heap.size w0 (((w2.setCell ⟨w0.heap.size,9,Z⟩ (Y no nn nc)).setCell ⟨w0.heap.size,10,Z⟩ (.int V (sy:Nat))).setCell ⟨w0.heap.size,6,Z⟩ (.bool I)):=by
 obtain⟨b1,b2,b3⟩:=h.tape hb ho (sy:=sy);have hj:SxJ w0 ((w2.setCell ⟨w0.heap.size,9,Z⟩ (Y no nn nc)).setCell ⟨w0.heap.size,10,Z⟩ (.int V (sy:Nat))) _ (Y no nn nc) nn bs (.slice lo lol.length lc) (.slice ro rsl.length rc) lol rsl:=⟨b1,b2,b3⟩;exact⟨hj.put (NZ b1 I),(((ae hb0 hb).setCell (p:=⟨w0.heap.size,9,Z⟩) (qB _) _).setCell (p:=⟨w0.heap.size,10,Z⟩) (qB _) _).setCell (p:=⟨w0.heap.size,6,Z⟩) (qB _) _⟩
theorem H8{w:M}{X:Nat}{a b:J}{t:TypeId}(h:w.heap[X]? = U (N #[a,b] t)):w.cell? ⟨X,0,Z⟩=U a:=by simp[br,h]
theorem H9{w:M}{X:Nat}{a b:J}{t:TypeId}(h:w.heap[X]? = U (N #[a,b] t)):w.cell? ⟨X,1,Z⟩=U b:=by simp[br,h]
theorem Nx{w:M}{X:Nat}{a b:J}{t:TypeId}(h:w.heap[X]? = U (N #[a,b] t))(i:Nat):w.frozen? ⟨X,i,Z⟩=false:=by simp[fX,h]
theorem Ny{w:M}{X:Nat}{a b:J}{t:TypeId}(h:w.heap[X]? = U (N #[a,b] t))(x y:J):((w.setCell ⟨X,0,Z⟩ x).setCell ⟨X,1,Z⟩ y).heap[X]? = U (N #[x,y] t):=by simp[bu,qS,h]
theorem PT{w:M}{lo:Nat}{no:Option Addr}{nc c:Nat}{bs:List UInt8}(hc:bs.length=c)(ho:w.ownsRow lo 5 1 (Y no c nc) c (AG bs)):BV w (Y no c nc) bs:=by subst hc;exact Eb ho
theorem P6(hK:SmallK m ps l K)(h:SxV m ps l K w0 w g0 (AC m ps l).length g2 g3 g4 fb st)(keep:Nat) :
  H qA 67 #[A (U ⟨w0.heap.size,0,Z⟩),.int V keep] w fun e w'=>e=L (.int V 0)/\SxV m ps l K w0 w' g0 (AC m ps l).length g2 g3 g4 fb (crS m ps l st keep):=by
 obtain⟨dso,lo,ro,dc,lc,rc,lol,rsl,hI⟩:=h.lies;obtain⟨j,hjd⟩:∃j,j=Cu m ps l st.n st.s keep:=⟨_,rfl⟩;have hnK:st.n<=K:=qI h.ok.b h.ok.c;obtain⟨k1,k2,_,_,k5,k6⟩:=hK.cut hnK h.ok.a keep;have hcr:crS m ps l st keep=⟨I,j,j,st.mx,st.ag⟩:=by rw[hjd];rfl
 rw[<-hjd]at k1 k2 k5 k6;obtain⟨more,hmo⟩:=GO (m:=m) (ps:=ps) (l:=l) h.ok.a;have hle:(byX m ps l st.s).length<=(byX m ps l st.n).length:=by rw[hmo,qF];omega
 have HCr:=K9 dso dc (byX m ps l st.n) ((byX m ps l st.s).length:Nat) ((keep:Nat):Int) w (hK.may h.ok) (by omega) (Eb hI.data);rw[Ly hle]at HCr;have hb5:=hK.bytes hnK;obtain⟨c,hcd⟩:∃c,c=(byX m ps l st.s).length+min keep ((byX m ps l st.n).length-(byX m ps l st.s).length):=⟨_,rfl⟩;rw[<-hcd]at HCr k5 k6;have hcn:c<=(byX m ps l st.n).length:=by omega
 have hcl:((byX m ps l st.n).take c).length=c:=by rw[qP];omega
 have hjc:(byX m ps l j).length<=c:=by
  have:=congrArg List.length k6;rw[qP,hcl]at this;omega
 have HRp:O (∀w2 (no:Option Addr) (nc:Nat),w2.ownsRow w.heap.size 5 1 (Y no c nc) c (AG ((byX m ps l st.n).take c))->T w.heap.size w w2->H qA 101 #[E #[Y no c nc,.int V (c:Nat)]] (w2.alloc (N #[Y no c nc,.int V (c:Nat)] 159)) fun e w'=>∃yo yc,e=L (C #[E #[.slice yo (byX m ps l j).length yc,.int V ((byX m ps l j).length:Nat)],.int V 0])/\(∃v,w'.cell? ⟨w2.heap.size,0,Z⟩=U v)/\(∃v,w'.cell? ⟨w2.heap.size,1,Z⟩=U v)/\w'.frozen? ⟨w2.heap.size,0,Z⟩=I/\w'.frozen? ⟨w2.heap.size,1,Z⟩=I/\w2.heap.size<w'.heap.size/\((w'.setCell ⟨w2.heap.size,0,Z⟩ (.slice yo (byX m ps l j).length yc)).setCell ⟨w2.heap.size,1,Z⟩ (.int V ((byX m ps l j).length:Nat))).cell? ⟨w2.heap.size,0,Z⟩=U (.slice yo (byX m ps l j).length yc)/\((w'.setCell ⟨w2.heap.size,0,Z⟩ (.slice yo (byX m ps l j).length yc)).setCell ⟨w2.heap.size,1,Z⟩ (.int V ((byX m ps l j).length:Nat))).cell? ⟨w2.heap.size,1,Z⟩=U (.int V ((byX m ps l j).length:Nat))/\O (T w.heap.size w ((w'.setCell ⟨w2.heap.size,0,Z⟩ (.slice yo (byX m ps l j).length yc)).setCell ⟨w2.heap.size,1,Z⟩ (.int V ((byX m ps l j).length:Nat)))/\((w'.setCell ⟨w2.heap.size,0,Z⟩ (.slice yo (byX m ps l j).length yc)).setCell ⟨w2.heap.size,1,Z⟩ (.int V ((byX m ps l j).length:Nat))).ownsRow w.heap.size 5 1 (.slice yo (byX m ps l j).length yc) (byX m ps l j).length (AG (byX m ps l j)))):=fun w2 no nc ho hb=>by
  have hal:T w2.heap.size w2 (w2.alloc (N #[Y no c nc,.int V (c:Nat)] 159)):=ai;have hsz:(w2.alloc (N #[Y no c nc,.int V (c:Nat)] 159)).heap.size=w2.heap.size+1:=by simp
  have hblk:(w2.alloc (N #[Y no c nc,.int V (c:Nat)] 159)).heap[w2.heap.size]? = _:=(du w2 _).1;have:=UY no nc ((byX m ps l st.n).take c) (c:Nat) (w2.alloc (N #[Y no c nc,.int V (c:Nat)] 159)) (by simp[BN];omega) (by rw[hcl];exact(PT hcl ho).below hal);unfold CL at this;rw[k5,hcl]at this;simp only[k6]at this;rw[show min ((c:Nat):Int) ((((byX m ps l j).length:Nat)):Int)=((byX m ps l j).length:Nat) by omega]at this;refine this.mono fun e w' ⟨yo,yc,h1,h2,h3⟩=>?_;have hbk:=(h2.block _ (by omega)).trans hblk;refine⟨yo,yc,h1,⟨_,H8 hbk⟩,⟨_,H9 hbk⟩,Nx hbk 0,Nx hbk 1,by have:=h2.size;omega,H8 (Ny hbk _ _),H9 (Ny hbk _ _),((hb.trans ((hal.trans (h2.mono (by omega))).mono hb.size)).setCell (p:=⟨w2.heap.size,0,Z⟩) hb.size _).setCell (p:=⟨w2.heap.size,1,Z⟩) hb.size _,?_⟩;have hc:Chg (fun i=>i=w2.heap.size) w' ((w'.setCell ⟨w2.heap.size,0,Z⟩ (.slice yo (byX m ps l j).length yc)).setCell ⟨w2.heap.size,1,Z⟩ (.int V ((byX m ps l j).length:Nat))):=(Chg.setCell w' ⟨w2.heap.size,0,Z⟩ _).trans (Chg.setCell _ ⟨w2.heap.size,1,Z⟩ _);exact Az (BX h3.out hc (fun g e z=>by have:=(h3.out.lt g e).1;omega)) (by have:=hb.size;omega)
 obtain⟨_,c5,_,_,c8,c9,c10,_,_,_⟩:=BT hI.box;have HI:O (∀w2 (no:Option Addr) (nc:Nat),T w.heap.size w w2->w2.ownsRow w.heap.size 5 1 (.slice no (byX m ps l j).length nc) (byX m ps l j).length (AG (byX m ps l j))->((∃v,w2.cell? ⟨w0.heap.size,9,Z⟩=U v)/\(∃v,w2.cell? ⟨w0.heap.size,10,Z⟩=U v)/\(∃v,w2.cell? ⟨w0.heap.size,6,Z⟩=U v)/\w2.cell? ⟨w0.heap.size,8,Z⟩=U (.int V st.n)/\w2.frozen? ⟨w0.heap.size,9,Z⟩=I/\w2.frozen? ⟨w0.heap.size,10,Z⟩=I/\w2.frozen? ⟨w0.heap.size,6,Z⟩=I/\w0.heap.size<w2.heap.size)/\SxJ w0 (((w2.setCell ⟨w0.heap.size,9,Z⟩ (.slice no (byX m ps l j).length nc)).setCell ⟨w0.heap.size,10,Z⟩ (.int V ((byX m ps l j).length:Nat))).setCell ⟨w0.heap.size,6,Z⟩ (.bool I)) (seB g0 ((AC m ps l).length:Nat) g2 g3 g4 (Y (U ⟨fb,0,Z⟩) K K) I (fN m ps l st.n) st.n (.slice no (byX m ps l j).length nc) (byX m ps l j).length (.slice lo lol.length lc) (.slice ro rsl.length rc) st.ag) (.slice no (byX m ps l j).length nc) (byX m ps l j).length (byX m ps l j) (.slice lo lol.length lc) (.slice ro rsl.length rc) lol rsl/\T w0.heap.size w0 (((w2.setCell ⟨w0.heap.size,9,Z⟩ (.slice no (byX m ps l j).length nc)).setCell ⟨w0.heap.size,10,Z⟩ (.int V ((byX m ps l j).length:Nat))).setCell ⟨w0.heap.size,6,Z⟩ (.bool I))):=fun w2 no nc hb ho=>by
  have hbox:=(hI.below hb).box;obtain⟨_,_,d6,_,d8,d9,d10,_,_,_⟩:=BT hbox;exact⟨⟨⟨_,d9⟩,⟨_,d10⟩,⟨_,d6⟩,d8,CG hbox 9,CG hbox 10,CG hbox 6,(hI.below hb).lt⟩,hI.torn h.bel hb ho⟩
 have HRc:O (∀(W:M) (dso:Option Addr) (dc fo th:Nat),SxJ w0 W (seB g0 ((AC m ps l).length:Nat) g2 g3 g4 (Y (U ⟨fb,0,Z⟩) K K) I fo th (.slice dso (byX m ps l j).length dc) (byX m ps l j).length (.slice lo lol.length lc) (.slice ro rsl.length rc) st.ag) (.slice dso (byX m ps l j).length dc) (byX m ps l j).length (byX m ps l j) (.slice lo lol.length lc) (.slice ro rsl.length rc) lol rsl->H qA 102 #[A (U ⟨w0.heap.size,0,Z⟩)] W fun e w'=>e=L (.int V 0)/\Chg (fun i=>i=w0.heap.size) W w'/\SxJ w0 w' (seB g0 ((AC m ps l).length:Nat) g2 g3 g4 (Y (U ⟨fb,0,Z⟩) K K) I (fN m ps l j) j (.slice dso (byX m ps l j).length dc) (byX m ps l j).length (.slice lo lol.length lc) (.slice ro rsl.length rc) st.ag) (.slice dso (byX m ps l j).length dc) (byX m ps l j).length (byX m ps l j) (.slice lo lol.length lc) (.slice ro rsl.length rc) lol rsl):=fun W dso dc fo th hj=>UU hK (qI k2 hnK) (qB _) hj;have HLo:O (∀(W:M) (dso:Option Addr) (dc fcap:Nat) (pa:Option Addr),(0<st.n-j->pa=U ⟨fb,j*3,Z⟩)->T w0.heap.size w0 W->SxJ w0 W (seB g0 ((AC m ps l).length:Nat) g2 g3 g4 (Y (U ⟨fb,0,Z⟩) K K) I (fN m ps l j) j (.slice dso (byX m ps l j).length dc) (byX m ps l j).length (.slice lo lol.length lc) (.slice ro rsl.length rc) st.ag) (.slice dso (byX m ps l j).length dc) (byX m ps l j).length (byX m ps l j) (.slice lo lol.length lc) (.slice ro rsl.length rc) lol rsl->H qA 103 #[A (U ⟨w0.heap.size,0,Z⟩),.slice pa (st.n-j) fcap] W fun e w'=>e=L (.int V 0)/\w'.cell? ⟨w0.heap.size,5,Z⟩=U (Y (U ⟨fb,0,Z⟩) K K)/\w'.cell? ⟨w0.heap.size,8,Z⟩=U (.int V j)/\O (SxV m ps l K w0 w' g0 (AC m ps l).length g2 g3 g4 fb (crS m ps l st keep))):=fun W dso dc fcap pa hpa hb hj=>by
  have hold:∀x∈AR lol rsl,∃p,p<K/\x=kyX m ps l K p:=fun x hx=>by
   obtain⟨p,hp,e⟩:=hI.keys x hx;exact⟨p,qE hp h.ok.c,e⟩
  refine(SJ hK (n:=j) (cnt:=st.n-j) (by omega) hpa h.fnd hb hI.may hold hj).mono fun e w' ⟨h1,h2,lo2,ro2,lc2,rc2,lol2,rsl2,hls,hj2⟩=>⟨h1,(BT hj2.box).2.1,(BT hj2.box).2.2.2.2.1,?_⟩;rw[hcr];have hx:w0.heap.size<W.heap.size:=(qG.1 hj.box).1;refine⟨⟨qB _,qI k2 h.ok.b,h.ok.c⟩,fun _=>rfl,hb.trans (h2.below (fun i e=>by omega) hb.size),h.fnd,dso,lo2,ro2,dc,lc2,rc2,lol2,rsl2,⟨hj2.box,hj2.data,hj2.lost,hls.may,fun x hx=>?_,fun p hp1 hp2=>?_⟩⟩
  .rcases (hls.iff x).1 hx with h3|⟨p,_,h4,h5⟩
   .exact hI.keys x h3
   .exact ⟨p,by show p<st.mx;have:=h.ok.b;omega,h5⟩
  .refine (hls.iff _).2 ?_;by_cases e:p<st.n
   .exact .inr ⟨p,hp1,by omega,rfl⟩
   .exact .inl (hI.back p (by omega) hp2)
 have hnb:st.n<=1000/\K<=1000:=by have:=hK.few;omega
 have hwl:=hI.lt;unfold CL at HCr;rw[hcl]at HCr;generalize(byX m ps l st.n).length=dn at *;generalize(byX m ps l st.s).length=ds at *;generalize(AC m ps l).length=bn at *;clear hI h hmo k5 k6 hcr hjd hcd;generalize st.n=n at *
 go_enter Tryz.func67,Tryz.ntmps67;go_upto_region 4 with(go_at_call 100;refine HCr.mono ?_;rintro e w2 ⟨no,nc,rfl,hb2,HO⟩)
 have HR:=HRp.out w2 no nc HO.out hb2;have hq0:((w2.alloc (N #[Y no c nc,.int V (c:Nat)] 159))).cell? ⟨w2.heap.size,0,Z⟩=U (Y no c nc)/\((w2.alloc (N #[Y no c nc,.int V (c:Nat)] 159))).cell? ⟨w2.heap.size,1,Z⟩=U (.int V (c:Nat)):=⟨H8 (du w2 _).1,H9 (du w2 _).1⟩;obtain⟨q0,q1⟩:=hq0;have hq2:w2.heap.size<((w2.alloc (N #[Y no c nc,.int V (c:Nat)] 159))).heap.size:=by simp
 obtain⟨WB,hWB⟩:∃WB,WB=(w2.alloc (N #[Y no c nc,.int V (c:Nat)] 159)):=⟨_,rfl⟩;rw[<-hWB]at HR q0 q1 hq2⊢;have HW2:O (T w.heap.size w w2):=hb2;clear hWB c5 c8 c9 c10;generalize w2.heap.size=B at *
 go_cut [6] (fun u wx=>u=.int V 0/\∃yo yc,wx.cell? ⟨B,0,Z⟩=U (.slice yo (byX m ps l j).length yc)/\wx.cell? ⟨B,1,Z⟩=U (.int V ((byX m ps l j).length:Nat))/\O (T w.heap.size w wx/\wx.ownsRow w.heap.size 5 1 (.slice yo (byX m ps l j).length yc) (byX m ps l j).length (AG (byX m ps l j))))
 case first=>
  go_wp2_with (go_at_call 101;refine HR.mono ?_;rintro e w3 ⟨yo,yc,rfl,⟨v0,s0⟩,⟨v1,s1⟩,s2,s3,s4,s5,s6,HX⟩)
  go_meet
  exact⟨rfl,yo,yc,s5,s6,HX.out⟩
 case rest=>
  obtain⟨rfl,yo,yc,s5,s6,HX⟩:=hcut;obtain⟨⟨⟨v9,t9⟩,⟨v10,t10⟩,⟨v6,t6⟩,t8,t11,t12,t13,t14⟩,HJ⟩:=HI.out _ yo yc HX.out.1 HX.out.2;have HJJ:=(show O _ from HJ);clear HJ;go_upto_region 8 with fail
  obtain⟨WC,hWC⟩:∃WC,WC=((wc.setCell ⟨w0.heap.size,9,Z⟩ (.slice yo (byX m ps l j).length yc)).setCell ⟨w0.heap.size,10,Z⟩ (.int V ((byX m ps l j).length:Nat))).setCell ⟨w0.heap.size,6,Z⟩ (.bool I):=⟨_,rfl⟩;rw[<-hWC]at HJJ⊢;clear hWC t8 t9 t10 t6 t11 t12 t13 t14 s5 s6;have HR2:=HRc.out WC yo yc _ _ HJJ.out.1;have HB2:O (T w0.heap.size w0 WC):=HJJ.out.2;obtain⟨_,_,_,_,r8,_⟩:=BT HJJ.out.1.box;have hwC:w0.heap.size<WC.heap.size:=(qG.1 HJJ.out.1.box).1;go_upto_region 12 with(go_at_call 102;refine HR2.mono ?_;rintro e wD ⟨rfl,hcD,hjD⟩)
  have hbD:T w0.heap.size w0 wD:=HB2.out.trans (hcD.below (fun i e=>by omega) HB2.out.size);obtain⟨_,x5,_,_,x8,_⟩:=BT hjD.box;have hwD:w0.heap.size<wD.heap.size:=(qG.1 hjD.box).1;have HLL:O (∀(W:M),T wD.heap.size wD W->H qA 103 #[A (U ⟨w0.heap.size,0,Z⟩),.slice (if K=j then U ⟨fb,0,Z⟩else U ⟨fb,j*3,Z⟩) (n-j) (K-j)] W fun e w'=>e=L (.int V 0)/\w'.cell? ⟨w0.heap.size,5,Z⟩=U (Y (U ⟨fb,0,Z⟩) K K)/\w'.cell? ⟨w0.heap.size,8,Z⟩=U (.int V j)/\O (SxV m ps l K w0 w' g0 (bn:Nat) g2 g3 g4 fb (crS m ps l st keep))):=fun W hW=>HLo.out W yo yc (K-j) _ (fun h=>ak (by omega)) (ae hbD hW) (hjD.below hW);have hji:(j:Int)<=(n:Int):=by omega
  have hni:(n:Int)<=(K:Int):=by omega
  clear hjD hcD HR2 r8;go_region_law (first
   |(go_simp;go_at_call 103;refine(HLL.out _ (by first|exact(qD _ _).drew|exact qD _ _)).mono ?_;rintro e w9 ⟨rfl,y5,y8,HZ⟩))
  all_goals go_wp2_with fail
  all_goals go_ret
  all_goals first|exact⟨rfl,HZ.out⟩|exact⟨rfl,(show K=j by omega)▸HZ.out⟩
end
