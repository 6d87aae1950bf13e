import Derived.Test.YtehfhemidmfffaaGreatDoorGrownRules
import Derived.Test.YtehfhemidmfffaaGreatDoorNumber
import Derived.Deep.RegionHeld3
import Derived.Deep.RegionLaw
import Derived.Deep.DrawnRows
open Go.IntKind renaming i64→T
open Go.Obj renaming cells→Q
open Go.RowKit renaming Below→S,Hid→V
open Go.Value renaming slice→Z,int→U
open _root_.Option renaming none→Y,some→X
namespace Go.Proofs.YtehfhemidmfffaaGreatDoor
open Go.RowKit.Below renaming refl→qD
open _root_.Int renaming natCast_nonneg→jQ
open _root_.List renaming length_append→qF,map_take→yU,take_of_length_le→qN
open _root_.Nat renaming le_refl→qB,lt_succ_self→qZ
open Go.ChangeShapes Go.WideShapes Go.ChangeAt Go.RowKit Go.Deep
open Terms Tm
open Go.Proofs.Tryz renaming results13→bP,underlying29→bQ,underlying94→bR
open IntKind renaming i64→aY
open World renaming grownBy→bS,ownsRow_nil→aX
open Go.Addr renaming mk→P
set_option maxHeartbeats 6400000
set_option maxRecDepth 20000
attribute [local go_sem ↓] Go.wp_at_zero Go.wp_at_succ
def OX(w:World)(b o:Nat)(p:Pl):Prop:=
 (∃u,w.cell? (P b o Y)=X u/\Raws w w.heap.size u p.gr)/\w.cell? ⟨b,o+1,Y⟩=X (U T p.var)/\I64 p.var/\(∃u,w.cell? ⟨b,o+2,Y⟩=X u/\Raws w w.heap.size u p.vr)/\w.cell? ⟨b,o+3,Y⟩=X (.bool p.both)
def PlansV(w:World)(v:Value)(l:List Pl):Prop:=SlV w v l.length fun b off i=>OX w b (off+i*4) (l.getD i pl0)
theorem IE{x:Int}(h1:-9223372036854775808<=x)(h2:x<=9223372036854775807):aY.wrap x=x:=by
 rw[IntWalk.i64_left];exact IntWalk.wrap64_in x ⟨h1,h2⟩
theorem Wi{a b:World}{r:Option Nat}(h:a.drew.grownBy b r):a.grownBy b r:=⟨h.os,h.tape,h.output,h.size,h.block⟩
theorem Sv(sp0 sp1 lw0 lw1 iv0 iv1:Int)(pv:Value)(ps:List Pl)(w:World)(hI:I64 sp0/\I64 sp1/\I64 lw0/\I64 lw1/\I64 iv0/\I64 iv1)(hP:PlansV w pv ps) :
  Calls Tryz.prog 13 #[.agg #[U T sp0,U T sp1,U T lw0,U T lw1,U T iv0,U T iv1,pv]] w fun e w'=>∃va vr,e=.returned (.agg #[va,vr])/\S w.heap.size w w'/\Ey w' va vr (E9 sp0 sp1 lw0 lw1 iv0 iv1) ((ps.take 5).map C6):=by
 obtain⟨po,pc,rfl⟩:=hP.shape;have HP:V (PlansV w (Z po ps.length pc) ps):=hP;obtain⟨pn,hpn⟩:∃n,n=ps.length:=⟨_,rfl⟩;have HPN:V (pn=ps.length):=hpn;rw[<-hpn]at HP⊢;obtain⟨iv,hiv,hv0,hv1,hv2⟩:=info_parts RW;obtain⟨is,his,hsa0,hsa1,hsa2⟩:=info_parts RV;obtain⟨ir,hir,hr0,hr1,hr2⟩:=info_parts RU;obtain⟨w4,hw4⟩:∃w4,w4=(((w.alloc (Q #[U T sp0,U T sp1,U T lw0,U T lw1,U T iv0,U T iv1,Z po pn pc] 25)).alloc (Q #[Z Y 0 0,Z Y 0 0] 31)).alloc (Q #[Z Y 0 0,Z Y 0 0] 31)).alloc (Q #[.string bX,.string bY] 9):=⟨_,rfl⟩;have hs4:w4.heap.size=w.heap.size+4:=by rw[hw4];simp
 have hA4:S w.heap.size w w4:=by rw[hw4];exact(((ai).alloc (by simp) _).alloc (by simp;omega) _).alloc (by simp;omega) _
 have hcell4:∀k,k<2->w4.cell? ⟨w.heap.size,0+k,Y⟩=X (U T (CQ sp0 sp1 k))/\w4.cell? ⟨w.heap.size,2+k,Y⟩=X (U T (CQ lw0 lw1 k))/\w4.cell? ⟨w.heap.size,4+k,Y⟩=X (U T (CQ iv0 iv1 k))/\w4.cell? ⟨w.heap.size+3,k,Y⟩=X (.string (CQ bX bY k)):=fun k hk=>by
  have:k=0\/k=1:=by omega
  rw[hw4];rcases this with rfl|rfl<;>(refine⟨?_,?_,?_,?_⟩<;>simp[go_sem,CQ])
 have hrest4:w4.cell? (P w.heap.size 6 Y)=X (Z po pn pc)/\w4.cell? ⟨w.heap.size+1,0,Y⟩=X (Z Y 0 0)/\w4.cell? ⟨w.heap.size+1,1,Y⟩=X (Z Y 0 0)/\w4.frozen? ⟨w.heap.size+1,0,Y⟩=false/\w4.frozen? ⟨w.heap.size+1,1,Y⟩=false:=by
  rw[hw4];refine⟨?_,?_,?_,?_,?_⟩<;>simp[go_sem]
 have hst4:MVc (w.heap.size+2) w4 w4 (Z Y 0 0) []:=by
  refine⟨?_,?_,?_,?_,aX _ _ _ _,bS.refl _ _,by omega⟩;all_goals (rw[hw4];simp[go_sem])
 have HC4:=(show V _ from hcell4);have HR4:=(show V _ from hrest4);have HS4:=(show V _ from hst4);have HW4:=(show V (w4=_)from hw4);have HGV:V (∀k,k<2->(E9 sp0 sp1 lw0 lw1 iv0 iv1).take (k+1)=(E9 sp0 sp1 lw0 lw1 iv0 iv1).take k++[CX (CQ bX bY k) (CQ sp0 sp1 k) (CQ lw0 lw1 k) (CQ iv0 iv1 k)]):=fun k hk=>by
  have:k=0\/k=1:=by omega
  rcases this with rfl|rfl<;>rfl
 have HI:V (∀k,k<2->I64 (CQ sp0 sp1 k)/\I64 (CQ lw0 lw1 k)/\I64 (CQ iv0 iv1 k)):=fun k hk=>by
  have:k=0\/k=1:=by omega
  obtain⟨h1,h2,h3,h4,h5,h6⟩:=hI;rcases this with rfl|rfl
  .exact ⟨h1,h3,h5⟩
  .exact ⟨h2,h4,h6⟩
 obtain⟨gv,hgv⟩:∃gv,E9 sp0 sp1 lw0 lw1 iv0 iv1=gv:=⟨_,rfl⟩;have HGL:V (gv.length=2):=by show _=_;rw[<-hgv];rfl
 rw[hgv]at HGV⊢;clear hP hpn hcell4 hrest4 hst4 hw4 hI hgv;unfold bX bY at HW4;go_enter Tryz.func13,Tryz.ntmps13;go_wp2;rw[<-HW4.out];clear HW4;go_loopw [5] (fun i wr=>∃(k:Nat) (vV:Value),k<=2/\i=U T k/\V (MVc (w.heap.size+2) w4 wr vV (gv.take k))) (fun i _=>2-(intOf i).toNat)
 case atStart=>exact⟨0,Z Y 0 0,by omega,rfl,HS4.out⟩
 case round=>
  obtain⟨k,vV,hk,rfl,HM⟩:=hrel;obtain⟨m0,m1,mf0,mf1,hown,hgr,hBlt⟩:=HM.out;by_cases hlt:k<2
  .obtain ⟨a0,a1,a2,a3⟩:=HC4.out k hlt;have hfar:∀b o,b<w4.heap.size->b≠w.heap.size+2->wr.cell? (P b o Y)=w4.cell? (P b o Y):=fun b o h1 h2=>hgr.cell_far ⟨b,o,Y⟩ h1 (fun he=>h2 (by simpa using he));have c0:=(hfar w.heap.size (0+k) (by omega) (by omega)).trans a0;have c1:=(hfar w.heap.size (2+k) (by omega) (by omega)).trans a1;have c2:=(hfar w.heap.size (4+k) (by omega) (by omega)).trans a2;have c3:=(hfar (w.heap.size+3) k (by omega) (by omega)).trans a3;obtain⟨i1,i2,i3⟩:=HI.out k hlt;have HTk:=(show V _ from HGV.out k hlt);have hlk:(gv.take k).length=k:=by rw[List.length_take,HGL.out];omega
   have HLK:V ((gv.take k).length=k):=hlk;rw[hlk]at hown;unfold CX at HTk;generalize CQ bX bY k=nm at *;generalize CQ sp0 sp1 k=xs at *;generalize CQ lw0 lw1 k=xl at *;generalize CQ iv0 iv1 k=xi at *;have hp1:=fun w=>B9 xl 3 w i2 (by decide) (by decide)
   have hp2:=fun w=>B9 xs 4 w i1 (by decide) (by decide);have hr1':=BJ (n:=xl) (m:=3) (by decide);have hr2':=BJ (n:=xs) (m:=4) (by decide);generalize pk xl 3=p3 at *;generalize pk xs 4=p4 at *;rw[Nat.zero_add]at c0;have hk0:(0:Int)<=(k:Int):=jQ _;have hk2:(k:Int)<2:=by omega
   clear a0 a1 a2 a3 hlk HP HR4 HGV HI HC4 HS4 hfar;go_wp2_with (first|(go_at_call_of 21 (Value.int aY 3);refine(hp1 _).mono ?_;rintro e wz ⟨rfl,rfl⟩)|(go_at_call_of 21 (Value.int aY 4);refine(hp2 _).mono ?_;rintro e wz ⟨rfl,rfl⟩))
   obtain⟨lo,hlo⟩:∃lo:Int,lo=p3-1:=⟨_,rfl⟩;obtain⟨hi,hhi⟩:∃hi:Int,hi=lo+p4:=⟨_,rfl⟩;have hp3:=fun w=>B9 xi (hi-lo+1) w i3 (by omega) (by omega);have hr3':=BJ (n:=xi) (m:=hi-lo+1) (by omega);rw[<-hlo]at HTk⊢;rw[<-hhi]at HTk⊢;have hw1:aY.wrap (hi-lo)=hi-lo:=IE (by omega) (by omega);have hw2:aY.wrap (hi-lo+1)=hi-lo+1:=IE (by omega) (by omega);have hw3:aY.wrap (lo+pk xi (hi-lo+1))=lo+pk xi (hi-lo+1):=IE (by omega) (by omega);clear hlo hhi hp1 hp2 hr1' hr2' hr3';obtain⟨q,hq⟩:∃q:Int,q=pk xi (hi-lo+1):=⟨_,rfl⟩;rw[<-hq]at hp3 hw3 HTk;clear hq;have hBz:w.heap.size+2<wz.heap.size:=Nat.lt_of_lt_of_le hBlt hgr.size;have hm0A:∀o,(wz.alloc o).cell? ⟨w.heap.size+2,0,Y⟩=X vV:=fun o=>(((qD wz.heap.size wz).alloc (qB _) o).cell (p:=⟨w.heap.size+2,0,Y⟩) hBz).trans m0;have hbase:∀o,w4.heap.size<=(wz.alloc o).heap.size:=fun o=>by have:=hgr.size;simp;omega
   have hownA:∀o,(wz.alloc o).ownsRow w4.heap.size 90 4 vV k (Cb (gv.take k)):=fun o=>hown.alloc o;go_region_law (first
     |(refine step_append_lies _ (by rfl) (.tmp 31) (.tmp 50) 28 (by rfl) w4.heap.size 90 iv _ 4 40 Tryz.underlying28 hiv hv0 hv1 hv2 (by rfl) (by decide) vV k _ (by rfl) (hownA _) ⟨wz.heap.size,0,Y⟩ 1 1 [.string nm,U T lo,U T hi,U T (lo+q)] (by rfl) (by rfl) (Qx _ _ _ _ _ _) (by intro u hu;simp at hu;rcases hu with rfl|rfl|rfl|rfl<;>rfl) (by decide) (by unfold maxLen;omega) (by omega) (hbase _) (wz.heap.size+1) (by simp) ?_;intro g cp wy ho4 hg4' hat4 hl4;have hg4:(wz.alloc (Q #[.string nm,U T lo,U T hi,U T (lo+q)] 90)).grownBy wy vV.ownBlock:=(by first|exact hg4'|exact Wi hg4');clear hg4';obtain⟨g0,g1,gf0,gf1⟩:=HM.out.at4 hg4)
     |(go_simp;go_at_call 21;refine(hp3 _).mono ?_;rintro e w3 ⟨rfl,rfl⟩))
   all_goals
    have hst:MVc (w.heap.size+2) w4 (wy.setCell ⟨w.heap.size+2,0,Y⟩ (Z (X (P g 0 Y)) (k+1) cp)) (Z (X (P g 0 Y)) (k+1) cp) (gv.take (k+1)):=by
     rw[HTk.out];exact MVc.step (x:=⟨nm,lo,hi,lo+q⟩) HM.out hg4 (by rw[HLK.out];exact ho4)
    have HST:=(show V _ from hst);clear hst ho4 hg4 hown hgr HM HTk hp3 hbase hownA;go_wp2_with fail
    go_roundw
    case rel=>exact⟨k+1,_,by omega,by go_num,HST.out⟩
    case measure=>simp[intOf];omega
  .have hke:k=2:=by omega
   have hke2:¬(k:Int)<2:=by omega
   have HKE:V (k=2):=hke;clear HGV HI hke;rw[qN (by rw[HGL.out,HKE.out];omega)]at HM;have HGR:V (w4.grownBy wr (X (w.heap.size+2))):=hgr;have HOWN:V (wr.ownsRow w4.heap.size 90 4 vV 2 (Cb gv)):=by
    show wr.ownsRow _ _ _ _ _ _;have:=HM.out.2.2.2.2.1;rwa[HGL.out]at this
   have hfar:∀b o,b<w4.heap.size->b≠w.heap.size+2->wr.cell? (P b o Y)=w4.cell? (P b o Y):=fun b o h1 h2=>hgr.cell_far ⟨b,o,Y⟩ h1 (fun he=>h2 (by simpa using he));have hfarf:∀b o,b<w4.heap.size->b≠w.heap.size+2->wr.frozen? (P b o Y)=w4.frozen? (P b o Y):=fun b o h1 h2=>hgr.frozen_far ⟨b,o,Y⟩ h1 (fun he=>h2 (by simpa using he));obtain⟨r1,r2,r3,r4,r5⟩:=HR4.out;have d1:=(hfar w.heap.size 6 (by omega) (by omega)).trans r1;have d2:=(hfar (w.heap.size+1) 0 (by omega) (by omega)).trans r2;have d3:=(hfar (w.heap.size+1) 1 (by omega) (by omega)).trans r3;have d4:=(hfarf (w.heap.size+1) 0 (by omega) (by omega)).trans r4;have d5:=(hfarf (w.heap.size+1) 1 (by omega) (by omega)).trans r5;have hs5:w4.heap.size<=wr.heap.size:=hgr.size;have HMR:V (MRc (w.heap.size+2) wr wr vV (Z Y 0 0) []):=⟨m0,m1,mf1,Ce.nil _ _,bS.refl _ _,by omega⟩;have HBW:V (∀W,wr.grownBy W (X (w.heap.size+2))->S w.heap.size w W):=fun W hW=>by
    refine⟨hW.os.trans (hgr.os.trans hA4.os),hW.tape.trans (hgr.tape.trans hA4.tape),hW.output.trans (hgr.output.trans hA4.output),by have:=hA4.size;have:=hW.size;omega,fun i hi=>?_⟩;rw[hW.block i (by omega) (by simp;omega),hgr.block i (by omega) (by simp;omega),hA4.block i hi]
   clear r1 r2 r3 r4 r5 hfar hfarf hown hgr HC4 HS4 HM HR4 m0 m1 mf0 mf1;generalize wr=w5 at *
   have HDs:V (∀W,w5.grownBy W (X (w.heap.size+2))->W.cell? (P w.heap.size 6 Y)=X (Z po pn pc)/\W.cell? ⟨w.heap.size+1,0,Y⟩=X (Z Y 0 0)/\W.cell? ⟨w.heap.size+1,1,Y⟩=X (Z Y 0 0)/\W.frozen? ⟨w.heap.size+1,0,Y⟩=false/\W.frozen? ⟨w.heap.size+1,1,Y⟩=false):=fun W hW=>
    ⟨(hW.cell_far ⟨w.heap.size,6,Y⟩ (by simp only;omega) (by simp)).trans d1,(hW.cell_far ⟨w.heap.size+1,0,Y⟩ (by simp only;omega) (by simp)).trans d2,(hW.cell_far ⟨w.heap.size+1,1,Y⟩ (by simp only;omega) (by simp)).trans d3,(hW.frozen_far ⟨w.heap.size+1,0,Y⟩ (by simp only;omega) (by simp)).trans d4,(hW.frozen_far ⟨w.heap.size+1,1,Y⟩ (by simp only;omega) (by simp)).trans d5⟩
   clear d1 d2 d3 d4 d5;go_wp2;go_loopw [8] (fun i wr=>∃(k:Nat) (vR:Value),k<=pn/\k<=5/\i=U T k/\V (MRo (w.heap.size+2) w5 wr vV vR ps k)) (fun i _=>5-(intOf i).toNat)
   case atStart=>exact⟨0,_,by omega,by omega,rfl,[],rfl,(fun j hj=>by simp at hj),HMR.out,by show []=_;rw[List.take_zero];rfl⟩
   case round=>
    obtain⟨k,vR,hkp,hk5,rfl,HMo⟩:=hrel;obtain⟨rules,hlr,hrc0,hm0,HRl⟩:=HMo.out;have HLR:V (rules.length=k):=hlr;have HRC:V (∀j,j<rules.length->BH 2 (rules.getD j ru0)=0):=hrc0;have HM:V (MRc (w.heap.size+2) w5 wr vV vR rules):=hm0;clear hlr hrc0 hm0 HMo;obtain⟨e0,e1,ef,hro,hgr,hB5⟩:=HM.out;obtain⟨cB,cr0,cr1,fr0,fr1⟩:=HDs.out wr hgr;have hbw:=HBW.out wr hgr;by_cases hlt:k<pn/\k<5
    .obtain ⟨b,off,rfl,hblt,hat⟩:=SlV.at HP.out (i:=k) (by rw[<-HPN.out];exact hlt.1);obtain⟨⟨gu,c0',hG⟩,c1',hI,⟨vu,c2',hN⟩,c3'⟩:=hat;have hxp:k<ps.length:=by rw[<-HPN.out];exact hlt.1
     have HRx:V (∀x,x=C6 (ps.getD k pl0)->rules++[x]=(ps.take (k+1)).map C6):=fun x hx=>V4 hxp HRl.out hx;clear hxp;generalize ps.getD k pl0=p at *;obtain⟨gr,var,vr,both⟩:=p;simp only at c0' hG c1' hI c2' hN c3'
     have c0:=(hbw.cell (p:=⟨b,off+k*4,Y⟩) hblt).trans c0';have c1:=(hbw.cell (p:=⟨b,off+k*4+1,Y⟩) hblt).trans c1';have c2:=(hbw.cell (p:=⟨b,off+k*4+2,Y⟩) hblt).trans c2';have c3:=(hbw.cell (p:=⟨b,off+k*4+3,Y⟩) hblt).trans c3';obtain⟨ga,gn,gc,rfl⟩:∃a n c,gu=Z a n c:=by obtain⟨⟨a,c,h,_⟩,_,_⟩:=hG;exact⟨_,_,_,h⟩
     obtain⟨na,nn,nc,rfl⟩:∃a n c,vu=Z a n c:=by obtain⟨⟨a,c,h,_⟩,_,_⟩:=hN;exact⟨_,_,_,h⟩
     have hT:=WV _ gr 2 (wr.alloc (Q #[Z ga gn gc,U T var,Z na nn nc,.bool both] 92)) (by omega) (by omega) (hG.mv (hbw.alloc hbw.size _));have hp:=fun w=>B9 var 2 w hI (by omega) (by omega);have hpr:=BJ (n:=var) (m:=2) (by omega);have HRy:V (∀g n,g=A3 gr 2 3 0->n=BM vr 2 2 0->(both=false->rules++[⟨g,[⟨pk var 2,n⟩]⟩]=(ps.take (k+1)).map C6)/\(both=true->rules++[⟨g,[⟨pk var 2,n⟩,⟨1-pk var 2,[(2,pk var 2)]⟩]⟩]=(ps.take (k+1)).map C6)):=fun g n hg hn=>⟨fun hb=>HRx.out _ (by rw[hg,hn,hb];rfl),fun hb=>HRx.out _ (by rw[hg,hn,hb];rfl)⟩;clear HRx;generalize pk var 2=v at *;have HN:V (Raws w w.heap.size (Z na nn nc) vr):=hN;have HBw:V (S w.heap.size w wr):=hbw;have HRO:V (Ce wr w5.heap.size vR rules):=hro;have hk1:(k:Int)<pn:=by omega
     have hk4:(k:Int)<5:=by omega
     have hk0:(0:Int)<=(k:Int):=jQ _;clear c0' c1' c2' c3' hG hN hbw hro hgr;go_wp2_with (first|(go_at_call 24;refine hT.mono ?_;rintro e w2 ⟨gv',gt,rfl,hTT,hTl,ho2,hb2,HGt⟩;obtain⟨ga2,gc2,rfl⟩:=Au ho2;obtain⟨hs2,hbo2,q1,q2,q3⟩:=T3 hb2)|(go_at_call 21;refine(hp _).mono ?_;rintro e wz ⟨rfl,rfl⟩))
     obtain⟨wa,hwa⟩:∃wa,wa=w2.alloc (Q #[Z ga2 gt.length gc2,Z Y 0 0] 96):=⟨_,rfl⟩;have HGW:V (CU w2 wa (Z ga2 gt.length gc2) (Z Y 0 0) []):=by rw[hwa];exact CU.new _ _ _
     have hba:S w2.heap.size w2 wa:=by rw[hwa];exact ai
     have hbwa:S w.heap.size w wa:=(ae HBw.out hbo2).trans (hba.mono (by have:=HBw.out.size;omega));have qa2:=(hba.cell (p:=(P wr.heap.size 2 Y)) hs2).trans q2;obtain⟨i0,i1,if1,_,_,is1⟩:=HGW.out;have hNum:=TP _ vr 2 wa.drew (by omega) (by omega) (HN.out.mv hbwa.drew);rw[<-hwa];have hsw:w5.heap.size<=wr.heap.size:=HM.out.2.2.2.2.1.size;clear hwa hT hp hbwa HN q1 q2 hba;clear c0 c1 c2 c3 cB cr0 cr1 fr0 fr1;go_region_law (first
       |(refine step_append_lies _ (by rfl) (.tmp 77) (.tmp 83) 94 (by rfl) (w2.heap.size+1) 98 is _ 2 32 bR his hsa0 hsa1 hsa2 (by rfl) (by decide) (Z Y 0 0) 0 [] (by rfl) (aX _ _ _ _) ⟨w3.heap.size,0,Y⟩ 1 1 [U T v,Z a3 nt.length c3] (by rfl) (by rfl) (DS _ _ _ _) (by intro u hu;simp at hu;rcases hu with rfl|rfl<;>rfl) (by decide) (by decide) (by decide) (by simp;omega) (w3.heap.size+1) (by simp) ?_;intro g cp w4' ho4 hg4 hat4 hl4;obtain⟨g0,g1,gf,gs⟩:=HGW.out.at4 (aX _ _ _ _) hb3 hg4)
       |(go_simp;go_at_call 25;refine hNum.mono ?_;rintro e w3 ⟨v3,nt,rfl,hNT,hNl,ho3,hb3',HNt⟩;have hb3:=PE hb3';obtain⟨a3,c3,rfl⟩:=Au ho3;obtain⟨p0,p1,pf,psz⟩:=HGW.out.at3 hb3))
     all_goals
      have ho3b:w3.ownsRow (w2.heap.size+1) 100 2 (Z a3 nt.length c3) nt.length (flat nt):=Az ho3 (by simp;omega);have HGf:V (CU w2 (w4'.setCell (P w2.heap.size 1 Y) (Z (X (P g 0 Y)) 1 cp)) (Z ga2 gt.length gc2) (Z (X (P g 0 Y)) 1 cp) [⟨v,nt⟩]):=CU.step (x:=⟨v,nt⟩) (l:=[]) HGW.out (aX _ _ _ _) (fun j hj=>by simp at hj) hb3 ho3b hg4 ho4;have ho4b:=ho4;obtain⟨W4,hW4⟩:∃W4,W4=w4'.setCell (P w2.heap.size 1 Y) (Z (X (P g 0 Y)) 1 cp):=⟨_,rfl⟩;rw[<-hW4]at HGf⊢;have hus4:W4.ownsRow (w2.heap.size+1) 98 2 (Z (X (P g 0 Y)) 1 cp) 1 [U T v,Z a3 nt.length c3]:=by rw[hW4];exact Do ho4 (qZ _) _
      have hn4:W4.ownsRow (w2.heap.size+1) 100 2 (Z a3 nt.length c3) nt.length (flat nt):=by
       rw[hW4];have h1:=ho3b.alloc (Q #[U T v,Z a3 nt.length c3] 98);exact Do (h1.kept hg4 (Classical.em _)) (qZ _) _
      have qa3:=(HGf.out.2.2.2.2.1.cell (p:=(P wr.heap.size 3 Y)) hs2).trans q3;clear hW4 ho4 ho4b hg4 ho3 ho3b hb3' hb3 g0 g1 gf gs p0 p1 pf psz i0 i1 if1 HGW hNum qa2 hat4 hl4;have HRz:=(show V _ from HRy.out gt nt HGt.out HNt.out);clear HRy HGt HNt;cases both with
      |false=>
       obtain⟨k0,k1,kf,kso,kb,ksz⟩:=HGf.out;have hbo:S wr.heap.size wr W4:=hbo2.trans (kb.mono (by omega));have e1':=(hbo.cell (p:=⟨w.heap.size+2,1,Y⟩) (by simp only;omega)).trans e1;have ef':=(hbo.frozen (p:=⟨w.heap.size+2,1,Y⟩) (by simp only;omega)).trans ef;have hgu:W4.ownsRow w5.heap.size 100 2 (Z ga2 gt.length gc2) gt.length (flat gt):=Az (Ap ho2 kb (qB _)) (by simp;omega);have hsu:A8 W4 w5.heap.size (Z (X (P g 0 Y)) 1 cp) [⟨v,nt⟩]:=kso.mono (by omega);have hrc:BH 2 ⟨gt,[⟨v,nt⟩]⟩=0:=RF hTT hTl hpr.1 hpr.2 hNT hNl;obtain⟨us,hus,hts⟩:=HRO.out;have HUS:=(show V _ from hus);have HTS:=(show V _ from hts);rw[HLR.out]at hus;have hus2:=Ap hus hbo (qB _);have HGU:=(show V _ from hgu);have HSU:=(show V _ from hsu);have HBO:V (S wr.heap.size wr W4):=hbo;have HRX:=(show V _ from M8 HRC.out hrc);have h63:k+1<=maxLen:=by unfold maxLen;omega
       have hby:(k+1)*48<=140737488355328:=by omega
       have hbase:∀o,w5.heap.size<=(W4.alloc o).heap.size:=fun o=>by have:=hbo.size;simp;omega
       have hus3:=fun o=>hus2.alloc o;clear hgu hsu hrc hts hus hus2 kso kb hbo;go_wp2_with (at_builtin;refine wpList_append_lies _ rfl (.tmp 100) (.tmp 102) 29 rfl w5.heap.size 96 ir _ 2 48 bQ hir hr0 hr1 hr2 rfl (by decide) vR k us rfl (hus3 _) ⟨W4.heap.size,0,Y⟩ 1 1 [Z ga2 gt.length gc2,(Z (X (P g 0 Y)) 1 cp)] rfl rfl (DS _ _ _ _) (by intro u hu;simp at hu;rcases hu with rfl|rfl<;>rfl) (by decide) h63 hby (hbase _) (W4.heap.size+1) (by simp) ?_;intro g6 cp6 w6 ho6 hg6 hat6 hl6;obtain⟨g60,g61,g6f⟩:=HM.out.at4 HUS.out HBO.out hg6)
       have hst:MRc (w.heap.size+2) w5 (w6.setCell ⟨w.heap.size+2,1,Y⟩ (Z (X (P g6 0 Y)) (k+1) cp6)) vV (Z (X (P g6 0 Y)) (k+1) cp6) (rules++[⟨gt,[⟨v,nt⟩]⟩]):=
        MRc.step (x:=⟨gt,[⟨v,nt⟩]⟩) HM.out HUS.out HTS.out HBO.out HGU.out HSU.out hg6 (by rw[HLR.out];exact ho6)
       have HST:V (MRc (w.heap.size+2) w5 (w6.setCell ⟨w.heap.size+2,1,Y⟩ (Z (X (P g6 0 Y)) (k+1) cp6)) vV (Z (X (P g6 0 Y)) (k+1) cp6) (rules++[⟨gt,[⟨v,nt⟩]⟩])):=hst;clear hst;go_roundw
       case rel=>exact⟨k+1,_,by omega,by omega,by go_num,_,(by rw[qF,HLR.out];rfl),HRX.out,HST.out,HRz.out.1 rfl⟩
       case measure=>simp[intOf];omega
      |true=>
       have hw:aY.wrap (1-v)=1-v:=IE (by omega) (by omega);obtain⟨j0,j1,jf,_,jb,jsz⟩:=HGf.out;have HUS4:V (W4.ownsRow (w2.heap.size+1) 98 2 (Z (X (P g 0 Y)) 1 cp) 1 [U T v,Z a3 nt.length c3]):=hus4;have HTS4:V (∀j,j < [(⟨v,nt⟩:St)].length->[Value.int .i64 v,Z a3 nt.length c3].getD (j*2) .nilIface=U T ([(⟨v,nt⟩:St)].getD j st0).var/\W4.ownsRow (w2.heap.size+1) 100 2 ([Value.int .i64 v,Z a3 nt.length c3].getD (j*2+1) .nilIface) ([(⟨v,nt⟩:St)].getD j st0).val.length (flat ([(⟨v,nt⟩:St)].getD j st0).val)):=fun j hj=>by
        have hj0:j=0:=by simp at hj;omega
        subst hj0;exact⟨rfl,hn4⟩
       have hba4:∀o,S W4.heap.size W4 (W4.alloc o):=fun o=>(qD _ _).alloc (qB _) o;have HBA:=(show V _ from hba4);have hus5:=fun o o'=>(hus4.alloc o).alloc o';have hbase4:∀o o',w2.heap.size+1<=((W4.alloc o).alloc o').heap.size:=fun o o'=>by simp;omega
       clear hba4;go_wp2_with (first
        |(at_builtin;refine wpList_append_lies _ rfl (.tmp 89) (.tmp 96) 94 rfl (w2.heap.size+1) 98 is _ 2 32 bR his hsa0 hsa1 hsa2 rfl (by decide) (Z (X (P g 0 Y)) 1 cp) 1 _ rfl (hus5 _ _) ⟨W4.heap.size+1,0,Y⟩ 1 1 [U T (1-v),Z (X (P W4.heap.size 0 Y)) 1 1] rfl rfl (Wh _ _ _ _ _) (by intro u hu;simp at hu;rcases hu with rfl|rfl<;>rfl) (by decide) (by decide) (by decide) (hbase4 _ _) (W4.heap.size+1+1) (by simp) ?_;intro g5 cp5 w5' ho5 hg5 hat5 hl5;have HG5:V (CU w2 (w5'.setCell (P w2.heap.size 1 Y) (Z (X (P g5 0 Y)) 2 cp5)) (Z ga2 gt.length gc2) (Z (X (P g5 0 Y)) 2 cp5) [⟨v,nt⟩,⟨1-v,[(2,v)]⟩]):=CU.step (x:=⟨1-v,[(2,v)]⟩) (l:=[⟨v,nt⟩]) (W3:=W4.alloc (Q #[U T 2,U T v] 100)) HGf.out HUS4.out HTS4.out (HBA.out _) (Ti W4 _ v (by omega)) hg5 ho5;obtain⟨j50,j51,j5f,j5s⟩:=HGf.out.at4 HUS4.out (HBA.out _) hg5;(obtain⟨k0,k1,kf,kso,kb,ksz⟩:=HG5.out);(have hbo:S wr.heap.size wr (w5'.setCell (P w2.heap.size 1 Y) (Z (X (P g5 0 Y)) 2 cp5)):=hbo2.trans (kb.mono (by omega)));(have e1':=(hbo.cell (p:=⟨w.heap.size+2,1,Y⟩) (by simp only<;>omega)).trans e1);(have ef':=(hbo.frozen (p:=⟨w.heap.size+2,1,Y⟩) (by simp only<;>omega)).trans ef);(have hgu:(w5'.setCell (P w2.heap.size 1 Y) (Z (X (P g5 0 Y)) 2 cp5)).ownsRow w5.heap.size 100 2 (Z ga2 gt.length gc2) gt.length (flat gt):=Az (Ap ho2 kb (qB _)) (by simp<;>omega));(have hsu:A8 (w5'.setCell (P w2.heap.size 1 Y) (Z (X (P g5 0 Y)) 2 cp5)) w5.heap.size (Z (X (P g5 0 Y)) 2 cp5) [⟨v,nt⟩,⟨1-v,[(2,v)]⟩]:=kso.mono (by omega));(have hrc:BH 2 ⟨gt,[⟨v,nt⟩,⟨1-v,[(2,v)]⟩]⟩=0:=RG hTT hTl hpr.1 hpr.2 hNT hNl);(obtain⟨us,hus,hts⟩:=HRO.out);(have HUS:=(show V _ from hus));(have HTS:=(show V _ from hts));(rw[HLR.out]at hus);(have hus2:=Ap hus hbo (qB _));(have HGU:=(show V _ from hgu));(have HSU:=(show V _ from hsu));(have HBO:V (S wr.heap.size wr (w5'.setCell (P w2.heap.size 1 Y) (Z (X (P g5 0 Y)) 2 cp5))):=hbo);(have HRX:=(show V _ from M8 HRC.out hrc));(have h63:k+1<=maxLen:=by unfold maxLen;omega);(have hby:(k+1)*48<=140737488355328:=by omega);(have hbase:∀o,w5.heap.size<=((w5'.setCell (P w2.heap.size 1 Y) (Z (X (P g5 0 Y)) 2 cp5)).alloc o).heap.size:=fun o=>by have:=hbo.size;simp at this⊢<;>omega);(have hus3:=fun o=>hus2.alloc o);(have e15:=e1');(rw[World.cell?_setCell_other _ _ _ _ (by simp<;>omega)]at e15);(have ef5:=ef');(rw[World.frozen?_setCell]at ef5);clear hgu hsu hrc hts hus hus2 kso kb hbo)
        |(at_builtin;refine wpList_append_lies _ rfl (.tmp 100) (.tmp 102) 29 rfl w5.heap.size 96 ir _ 2 48 bQ hir hr0 hr1 hr2 rfl (by decide) vR k us rfl (hus3 _) ⟨w5'.heap.size,0,Y⟩ 1 1 [Z ga2 gt.length gc2,(Z (X (P g5 0 Y)) 2 cp5)] rfl rfl (by have h:=DS (w5'.setCell (P w2.heap.size 1 Y) (Z (X (P g5 0 Y)) 2 cp5)) (Z ga2 gt.length gc2) (Z (X (P g5 0 Y)) 2 cp5) 96;simpa using h) (by intro u hu;simp at hu;rcases hu with rfl|rfl<;>rfl) (by decide) h63 hby (hbase _) (w5'.heap.size+1) (by simp) ?_;intro g6 cp6 w6 ho6 hg6 hat6 hl6;obtain⟨g60,g61,g6f⟩:=HM.out.at4 HUS.out HBO.out hg6))
       have hst:MRc (w.heap.size+2) w5 (w6.setCell ⟨w.heap.size+2,1,Y⟩ (Z (X (P g6 0 Y)) (k+1) cp6)) vV (Z (X (P g6 0 Y)) (k+1) cp6) (rules++[⟨gt,[⟨v,nt⟩,⟨1-v,[(2,v)]⟩]⟩]):=
        MRc.step (x:=⟨gt,[⟨v,nt⟩,⟨1-v,[(2,v)]⟩]⟩) HM.out HUS.out HTS.out HBO.out HGU.out HSU.out hg6 (by rw[HLR.out];exact ho6)
       have HST:V (MRc (w.heap.size+2) w5 (w6.setCell ⟨w.heap.size+2,1,Y⟩ (Z (X (P g6 0 Y)) (k+1) cp6)) vV (Z (X (P g6 0 Y)) (k+1) cp6) (rules++[⟨gt,[⟨v,nt⟩,⟨1-v,[(2,v)]⟩]⟩])):=hst;clear hst;go_roundw
       case rel=>exact⟨k+1,_,by omega,by omega,by go_num,_,(by rw[qF,HLR.out];rfl),HRX.out,HST.out,HRz.out.2 rfl⟩
       case measure=>simp[intOf];omega
    .have hvs:=Au HOWN.out;obtain⟨va1,vc1,rfl⟩:=hvs;obtain⟨ra,rcap,rfl⟩:∃ra rcap,vR=Z ra rules.length rcap:=by
      obtain⟨us,h1,_⟩:=hro;exact Au h1
     have hfin:A1 ((wr.setCell ⟨w.heap.size+1,0,Y⟩ (Z va1 2 vc1)).setCell ⟨w.heap.size+1,1,Y⟩ (Z ra rules.length rcap)) (Z va1 2 vc1) (Z ra rules.length rcap) ⟨gv,rules⟩:=by
      have hvo:wr.ownsRow w4.heap.size 90 4 (Z va1 2 vc1) gv.length (Cb gv):=by
       have h:=HOWN.out.kept hgr (.inr (fun he=>by have:=(HOWN.out.lt _ he).1;omega));rw[HGL.out];exact h
      exact⟨Wl (Do (Do hvo (by omega) _) (by omega) _),((hro.setCell (b:=w.heap.size+1) (o:=0) (by omega) _).setCell (b:=w.heap.size+1) (o:=1) (by omega) _).rulesV⟩
     have hrl:rules=(ps.take 5).map C6:=by
      rw[HRl.out];congr 1
      have h5:k=5\/k=pn:=by omega
      rcases h5 with rfl|h5
      .rfl
      .rw[qN (by rw[<-HPN.out];omega),qN (by rw[<-HPN.out];omega)]
     have HFin:V (Ey ((wr.setCell ⟨w.heap.size+1,0,Y⟩ (Z va1 2 vc1)).setCell ⟨w.heap.size+1,1,Y⟩ (Z ra rules.length rcap)) (Z va1 2 vc1) (Z ra rules.length rcap) gv ((ps.take 5).map C6)):=by
      show Ey _ _ _ _ _;rw[<-hrl];exact⟨hfin,by rw[HLR.out];omega,HRC.out⟩
     clear hfin hro hrl HRl;generalize rules.length=rn at *
     by_cases h1:k<pn
     .have hk1:(k:Int)<pn:=by omega
      have hk4:¬(k:Int)<5:=by omega
      go_wp2;refine bodyPost_ret (v:=.agg #[Z va1 2 vc1,Z ra rn rcap]) (by simp[results,bP,go_sem,cr0,cr1]) rfl ⟨_,_,rfl,?_,by have h:=HFin.out;rw[yU]at h;exact h⟩;exact(hbw.setCell (by simp) _).setCell (by simp) _
     .have hk1:¬(k:Int)<pn:=by omega
      go_wp2;refine bodyPost_ret (v:=.agg #[Z va1 2 vc1,Z ra rn rcap]) (by simp[results,bP,go_sem,cr0,cr1]) rfl ⟨_,_,rfl,?_,by have h:=HFin.out;rw[yU]at h;exact h⟩;exact(hbw.setCell (by simp) _).setCell (by simp) _
