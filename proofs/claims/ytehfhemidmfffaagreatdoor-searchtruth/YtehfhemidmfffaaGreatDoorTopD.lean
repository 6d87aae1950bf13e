/- Joined texts. -/
import Derived.Test.YtehfhemidmfffaaGreatDoorTopC
import Derived.Test.YtehfhemidmfffaaGreatDoorLateE
import Derived.Test.YtehfhemidmfffaaGreatDoorSccC
open Go renaming World→C,Value→E,Calls→ZY
open Go.Ending renaming returned→F
open Go.IntKind renaming i64→V
open Go.Obj renaming cells→M
open Go.RowKit renaming Below→O,Hid→I
open Go.Value renaming slice→Z,bool→S,agg→r,tuple→ZZ,pointer→ZX,int→Y
open _root_.Bool renaming false→N
open _root_.Option renaming none→U,some→Q
namespace Go.Proofs.YtehfhemidmfffaaGreatDoor
open _root_.Array renaming getElem?_eq_some_iff→qG,getElem?_modify→qS
open Go.RowKit.Below renaming refl→qD
open _root_.Int renaming toNat_natCast→jM
open _root_.List renaming getD_eq_getElem?_getD→qC,getElem?_append_left→qX,getElem?_append_right→q7,getElem?_eq_getElem→qH,getElem_mem→qR,length_append→qF,length_map→qM,length_take→qP,mem_append→qL,take_of_length_le→qN,take_succ_eq_append_getElem→qT
open _root_.Nat renaming le_of_lt→qU,le_refl→qB,le_succ→vE,le_trans→qI,lt_irrefl→kV,lt_of_lt_of_le→qE,mod_self→kZ,sub_self→jR,zero_le→qJ
open _root_.Option renaming getD_some→vW
open Go.Proofs.Tryz renaming prog→qA
open Go.ChangeShapes Go.WideShapes Go.ChangeAt Go.RowKit Go.Deep Go.Maps
open Terms Tm Go.Proofs.YtehfhemidmfffaaGreatDoor.Terms
open Go.Proofs.Tryz renaming func12→jd,func38→je,ntmps12→jg,ntmps38→jh,results12→ji,results39→jj,underlying37→jk
open MapKept renaming heap_alloc→du
open World renaming block_lt_of_cell?→bW,cell?_of_block→eJ,cell?_setCell_other→bM,cell?_setCell_same→bO,cell?→br,setCell→bu
set_option maxHeartbeats 6400000
set_option maxRecDepth 20000
theorem W8{m:Mo}{ps:List am}{l:am}{K fb:Nat}{w0 w:C}{st:Sr}{g0 g2 g3:E}{g1 g4:Int}(many:Nat)(hm:many<=2147483647)(hag:st.ag<=1000000000000)(hK:SmallK m ps l K)(h:SxV m ps l K w0 w g0 g1 g2 g3 g4 fb st)(hup:st.up=true) :
  ZY qA 65 #[ZX (Q ⟨w0.heap.size,0,U⟩),Y V (many:Nat)] w fun e w'=>e=F (Y V 0)/\SxV m ps l K w0 w' g0 g1 g2 g3 g4 fb (wkS K st many):=by
 obtain⟨dso,lo,ro,dc,lc,rc,lol,rsl,hI⟩:=h.lies;obtain⟨hl1,hl2⟩:=hI.lost.two;have HAl:=Kh lol rsl lo ro lc rc w hI.may.szU.1 hl1 hl2;rw[IU hI.may,F1 hI.may]at HAl;have HK:I (SmallK m ps l K):=hK;have HSt:I (SrOk K st):=h.ok;have HFn:I (∀wr,O w0.heap.size w0 wr->DV wr fb m ps l K):=fun wr hb=>h.fnd.below hb;have HKs:I ((up (AR lol rsl)).Pairwise (· <= ·)/\(up (AR lol rsl)).length<=100000/\∀p,st.n<=p->p<K->(kyX m ps l K p∈up (AR lol rsl)↔p<st.mx)):=⟨FR _,hI.may.szU.2,fun p h1 h2=>SM hK h.ok hI.keys hI.back h1 h2⟩;have HI0:I (SxI m ps l K w0 w st g0 g1 g2 g3 g4 fb dso lo ro dc lc rc lol rsl):=hI;have HV0:I (SxV m ps l K w0 w g0 g1 g2 g3 g4 fb st):=h;obtain⟨_,_,_,_,_,_,_,c11,c12,_⟩:=BT hI.box;have hwl:=hI.lt;clear hI h hl1 hl2;generalize hkse:up (AR lol rsl)=ks at *;unfold FT at HAl
 go_enter Tryz.func65,Tryz.ntmps65;go_upto_region 2 with(go_at_call 97;refine HAl.mono ?_;rintro e wA ⟨ko,kc,rfl,hbA,HKl⟩)
 have hwA:=hbA.size;have HJ0:I (WkJ m ps l K w0 w wA wA g0 g1 g2 g3 g4 fb (wkS K st 0) lol rsl (Z ko ks.length kc) ks):=by
  rw[Wz HSt.out];exact⟨HV0.out.bel.trans (hbA.mono HV0.out.bel.size),qB _,⟨HKl.out.1,fun b off n c e hne=>⟨HKl.out.2 b off n c e hne,by
   obtain⟨ao,cap,e1,_,h3⟩:=HKl.out.1;obtain⟨b',off',e2,hlt,_⟩:=h3 hne;injection e with e3 _ _;injection e1 with e4 _ _;rw[<-e4,e3]at e2;injection e2 with e2;injection e2 with e2 _;omega⟩⟩,dso,lo,ro,dc,lc,rc,HI0.out.below hbA,fun g e=>.inl (HI0.out.data.lt g e).2⟩
 clear HKl;go_wp2_with fail
 go_loopw [1] (fun mv wr=>∃j:Nat,j<=many/\mv=Y V ((many-j:Nat):Int)/\I (WkJ m ps l K w0 w wA wr g0 g1 g2 g3 g4 fb (wkS K st j) lol rsl (Z ko ks.length kc) ks)) (fun mv _=>(intOf mv).toNat)
 case atStart=>exact⟨0,qJ _,rfl,HJ0⟩
 case round=>
  obtain⟨j,hj,rfl,HJ⟩:=hrel;obtain⟨hb0r,hAr,HKr,dso,lo,ro,dc,lc,rc,hI,hsep⟩:=HJ.out;have HIr:=(show I _ from hI);obtain⟨_,b5,b6,b7,b8,b9,b10,b11,b12,b13⟩:=BT hI.box;have hend:∀w',O wr.heap.size wr w'->(j=many\/¬(wkS K st j).n<K)->SxV m ps l K w0 w' g0 g1 g2 g3 g4 fb (wkS K st many):=fun w' hb hor=>by
   have e:wkS K st j=wkS K st many:=by
    rcases hor with e|h
    .rw[e]
    .exact Wx hj h
   rw[<-e];exact⟨HSt.out.wk j,fun e2=>absurd (hup.symm.trans e2) (by simp),ae hb0r hb,HV0.out.fnd,dso,lo,ro,dc,lc,rc,lol,rsl,hI.below hb⟩
  have HEnd:=(show I _ from hend);have hnK:(wkS K st j).n<=K:=by have:=(HSt.out.wk j).b;have:=(HSt.out.wk j).c;omega
  have HnK:=(show I _ from hnK);clear hend hI HJ;by_cases hjm:j<many
  .have hmj:(0:Int)<((many-j:Nat):Int):=by omega
   by_cases hnn:(wkS K st j).n<K
   .have hlf:((wkS K st j).n:Int)<(fN m ps l (wkS K st j).n:Int):=by have:=Ga HK.out.done hnn;omega
    obtain⟨hn1,hn2,hn3,hn4,hn5,hn6⟩:=Wy HSt.out hnn;have HN1:I ((wkS K st j).n=st.n+j/\(wkS K st (j+1)).n=st.n+j+1/\(wkS K st (j+1)).mx=max (wkS K st j).mx (st.n+j+1)/\(wkS K st (j+1)).ag=(wkS K st j).ag+(if st.n+j<st.mx then 1 else 0)/\(wkS K st (j+1)).s=(wkS K st j).s/\(wkS K st (j+1)).up=(wkS K st j).up):=⟨hn1,hn2,hn3,hn4,hn5,hn6⟩;clear hn1 hn2 hn3 hn4 hn5 hn6;obtain⟨d0,d1,ro9,rc9,d2,hrec⟩:=(HFn.out wr hb0r).2 _ hnn;obtain⟨rb,roff,rfl,hrbl,hrat⟩:∃rb roff,ro9=Q ⟨rb,roff,U⟩/\rb<wr.heap.size/\CK wr rb roff (AD (rcX m ps l (wkS K st j).n)):=by
     obtain⟨ao,cap,e1,_,h3⟩:=id hrec;injection e1 with e1 _ _;subst e1;exact h3 (by intro h;have:=Cz (rcX m ps l (wkS K st j).n);rw[h]at this;simp at this)
    have HRec:=(show I _ from hrec);have HDl:I ((byX m ps l (wkS K st j).n).length<=16000/\(AD (rcX m ps l (wkS K st j).n)).length<=16000/\0<(AD (rcX m ps l (wkS K st j).n)).length):=by
     have h1:=HK.out.bytes (n:=(wkS K st j).n) (qU hnn);have h2:=Cz (rcX m ps l (wkS K st j).n);have h3:=Fy (m:=m) (ps:=ps) (l:=l) (wkS K st j).n;have h4:=(DZ HK.out.done (j:=(wkS K st j).n+1) hnn).2;have h5:=HK.out.few;show _/\_/\_;omega
    have HRt:I (∀W,O wr.heap.size wr W->∀i u,(AG (AD (rcX m ps l (wkS K st j).n)))[i]? = Q u->W.cell? ((⟨rb,roff,U⟩:Addr).add i)=Q u):=fun W hb=>(hrat.below hb hrbl).cells;have HJr:I (SxJ w0 wr (seB g0 g1 g2 g3 g4 (Z (Q ⟨fb,0,U⟩) K K) st.up (fN m ps l (wkS K st j).n) (wkS K st j).n (Z dso (byX m ps l (wkS K st j).n).length dc) (byX m ps l (wkS K st j).s).length (Z lo lol.length lc) (Z ro rsl.length rc) (wkS K st j).ag) (Z dso (byX m ps l (wkS K st j).n).length dc) (byX m ps l (wkS K st j).n).length (byX m ps l (wkS K st j).n) (Z lo lol.length lc) (Z ro rsl.length rc) lol rsl):=⟨HIr.out.box,HIr.out.data,HIr.out.lost⟩;have HCl:I (∀W,O wr.heap.size wr W->(W.cell? ⟨w0.heap.size,5,U⟩=Q (Z (Q ⟨fb,0,U⟩) K K)/\W.cell? ⟨w0.heap.size,8,U⟩=Q (Y V ((wkS K st j).n:Nat)))/\W.cell? ⟨fb,(wkS K st j).n*3,U⟩=Q (Y V (AP ((xpP m ps l K).getD (wkS K st j).n (0,0))))/\W.cell? ⟨fb,(wkS K st j).n*3+1,U⟩=Q (Y V ((fN m ps l ((wkS K st j).n+1)-fN m ps l (wkS K st j).n:Nat):Int))/\W.cell? ⟨fb,(wkS K st j).n*3+2,U⟩=Q (Z (Q ⟨rb,roff,U⟩) (AD (rcX m ps l (wkS K st j).n)).length rc9)):=fun W hb=>by
     have hc:∀(p:Addr) (x:E),wr.cell? p=Q x->W.cell? p=Q x:=fun p x h=>(hb.cell (bW wr p h)).trans h;exact⟨⟨hc _ _ b5,hc _ _ b8⟩,hc _ _ d0,hc _ _ d1,hc _ _ d2⟩
    have HBy:I (byX m ps l ((wkS K st j).n+1)=byX m ps l (wkS K st j).n++AD (rcX m ps l (wkS K st j).n)):=Kr _;have HKy:I (AP ((xpP m ps l K).getD (wkS K st j).n (0,0))=kyX m ps l K (wkS K st j).n):=rfl;have hfoK:fN m ps l (wkS K st j).n<=K/\fN m ps l ((wkS K st j).n+1)<=K/\fN m ps l (wkS K st j).n<=fN m ps l ((wkS K st j).n+1):=⟨(DZ HK.out.done (qU hnn)).2,(DZ HK.out.done hnn).2,E7 (Nat.le_add_right _ 1)⟩;have hK1:=HK.out.few;have HFo:=(show I _ from hfoK);clear hrec hrat;generalize AP ((xpP m ps l K).getD (wkS K st j).n (0,0))=ky at *;generalize hfre:fN m ps l ((wkS K st j).n+1)-fN m ps l (wkS K st j).n=fr at *;have HFr:I (fN m ps l ((wkS K st j).n+1)=fN m ps l (wkS K st j).n+fr):=by show _=_;omega
    clear hfre hfoK;generalize hrl:AD (rcX m ps l (wkS K st j).n)=rec at *;generalize hbl:byX m ps l (wkS K st j).n=bs at *;have HBl:I (byX m ps l (wkS K st j).n=bs):=hbl;clear hrl hbl;generalize hdn:bs.length=dn at *;have HDn:I (bs.length=dn):=hdn;generalize hrn:rec.length=rn at *;have HRn:I (rec.length=rn):=hrn;clear hdn hrn
    have hagb:(wkS K st j).ag<=1000000001000:=by
     have h1:(wkS K st j).ag=st.ag+(min (min (st.n+j) K) st.mx-st.n):=rfl;have:=HK.out.few;omega
    generalize hag:(wkS K st j).ag=ag at *;generalize hne:(wkS K st j).n=n at *;have HNe:I ((wkS K st j).n=n):=hne;clear hag hne;generalize hfo:fN m ps l n=fo at *;have HFoe:I (fN m ps l n=fo):=hfo;clear hfo;generalize hmje:many-j=mj at *;have HMj:I (many-j=mj):=hmje;have hmjb:mj<=2147483647:=by omega
    clear hmje;obtain⟨hdl,hrl,hrp⟩:=HDl.out;clear HFn HIr;go_wp2_with fail
    have hd1:decide (0<mj)=true:=decide_eq_true (by omega);have hd2:decide (n<fo)=true:=decide_eq_true (by omega);go_quiet (fail)
    go_upto_region 6 with fail
    obtain⟨wq,hwq⟩:∃wq,wq=wr.drewN nq:=⟨_,rfl⟩;have hbq:O wr.heap.size wr wq:=by rw[hwq];exact⟨rfl,rfl,rfl,qB _,fun _ _=>rfl⟩
    rw[<-hwq];clear hwq;go_cut [7] (fun u wx=>∃B,u=ZX (Q ⟨B,0,U⟩)/\I (O wr.heap.size wr wx/\wx.heap[B]? = Q (M #[Y V ky,Y V (fr:Nat),Z (Q ⟨rb,roff,U⟩) rn rc9] 205 (0,0))/\wr.heap.size<=B))
    case first=>
     go_region_held3 (fun W=>(W.cell? ⟨w0.heap.size,5,U⟩=Q (Z (Q ⟨fb,0,U⟩) K K)/\W.cell? ⟨w0.heap.size,8,U⟩=Q (Y V (n:Nat)))/\W.cell? ⟨fb,n*3,U⟩=Q (Y V ky)/\W.cell? ⟨fb,n*3+1,U⟩=Q (Y V (fr:Nat))/\W.cell? ⟨fb,n*3+2,U⟩=Q (Z (Q ⟨rb,roff,U⟩) rn rc9))
      (first|exact HCl.out _ (hbq.drew)|exact HCl.out _ hbq|exact HCl.out _ (hbq.alloc hbq.size _)|exact HCl.out _ (hbq.drew.alloc hbq.size _)|exact HCl.out _ ((hbq.drew.alloc hbq.size _).setCell (by simp;have:=hbq.size;omega) _))
      (fail)
     all_goals go_wp2_with fail
     all_goals go_meet
     all_goals exact⟨_,rfl,(hbq.alloc hbq.size _).drew,(du wq _).1,hbq.size⟩
    case rest=>
     obtain⟨B,rfl,HF⟩:=hcut;obtain⟨w2,rfl⟩:∃w4,w4=wc:=⟨_,rfl⟩;have hb2:=HF.out.1;have HJ2:=(show I _ from HJr.out.below hb2);obtain⟨_,x5,x6,x7,x8,x9,x10,x11,x12,x13⟩:=BT HJ2.out.1;have hBc:=HF.out.2.1;have f0:w2.cell? ⟨B,0,U⟩=Q (Y V ky):=by simp[br,hBc]
     have f1:w2.cell? ⟨B,1,U⟩=Q (Y V (fr:Nat)):=by simp[br,hBc]
     have f2:w2.cell? ⟨B,2,U⟩=Q (Z (Q ⟨rb,roff,U⟩) rn rc9):=by simp[br,hBc]
     have hBl:B<w2.heap.size:=(qG.1 hBc).1;clear hBc;have hbig:¬(1048576:Int)<(dn:Int)+(rn:Int):=by omega
     go_wp2_with fail
     go_quiet (fail)
     go_upto_region 8 with fail
     obtain⟨w3,hw3⟩:∃w3,w3=w2.drewN nq:=⟨_,rfl⟩;have hb3:O w2.heap.size w2 w3:=by rw[hw3];exact⟨rfl,rfl,rfl,qB _,fun _ _=>rfl⟩
     rw[<-hw3];clear hw3;have HW:I (∀W,O w2.heap.size w2 W->(W.cell? ⟨w0.heap.size,9,U⟩=Q (Z dso dn dc)/\W.cell? ⟨B,2,U⟩=Q (Z (Q ⟨rb,roff,U⟩) rn rc9))/\W.ownsRow (w0.heap.size+1) 5 1 (Z dso dn dc) dn (AG bs)/\(∀i u,(AG rec)[i]? = Q u->W.cell? ((⟨rb,roff,U⟩:Addr).add i)=Q u)/\w0.heap.size+1<=W.heap.size):=fun W h=>by
      have h2:=HJ2.out.below h;obtain⟨_,_,_,_,_,y9,_⟩:=BT h2.1;exact⟨⟨y9,(h.cell (bW w2 _ f2)).trans f2⟩,h2.data,HRt.out W (ae hb2 h),(qG.1 h2.1).1⟩
     have HGr:I (∀W w4 (g cap:Nat),O w2.heap.size w2 W->W.grownBy w4 (Value.slice dso dn dc).ownBlock->w4.ownsRow (w0.heap.size+1) 5 1 (Z (Q ⟨g,0,U⟩) (dn+rn) cap) (dn+rn) (AG bs++AG rec)->((Value.slice dso dn dc).ownBlock=Q g\/g=W.heap.size)->((∃v,w4.cell? ⟨w0.heap.size,9,U⟩=Q v)/\w4.frozen? ⟨w0.heap.size,9,U⟩=N)/\SxJ w0 (w4.setCell ⟨w0.heap.size,9,U⟩ (Z (Q ⟨g,0,U⟩) (dn+rn) cap)) (seB g0 g1 g2 g3 g4 (Z (Q ⟨fb,0,U⟩) K K) st.up fo n (Z (Q ⟨g,0,U⟩) (dn+rn) cap) (byX m ps l (wkS K st j).s).length (Z lo lol.length lc) (Z ro rsl.length rc) ag) (Z (Q ⟨g,0,U⟩) (dn+rn) cap) (dn+rn) (bs++rec) (Z lo lol.length lc) (Z ro rsl.length rc) lol rsl/\O w0.heap.size w0 (w4.setCell ⟨w0.heap.size,9,U⟩ (Z (Q ⟨g,0,U⟩) (dn+rn) cap))/\wA.heap.size<=(w4.setCell ⟨w0.heap.size,9,U⟩ (Z (Q ⟨g,0,U⟩) (dn+rn) cap)).heap.size/\((w4.setCell ⟨w0.heap.size,9,U⟩ (Z (Q ⟨g,0,U⟩) (dn+rn) cap)).cell? ⟨B,0,U⟩=Q (Y V ky)/\(w4.setCell ⟨w0.heap.size,9,U⟩ (Z (Q ⟨g,0,U⟩) (dn+rn) cap)).cell? ⟨B,1,U⟩=Q (Y V (fr:Nat))/\B≠w0.heap.size)/\Cc (w4.setCell ⟨w0.heap.size,9,U⟩ (Z (Q ⟨g,0,U⟩) (dn+rn) cap)) (fun b=>w.heap.size<=b/\b<wA.heap.size) (Z ko ks.length kc) ks/\(g<w.heap.size\/wA.heap.size<=g)):=fun W w4 g cap hb hg ho hat=>by
      have h2:=HJ2.out.below hb;have hbW:=ae hb2 hb;have hoW:=HJr.out.data;have hX:w0.heap.size<wr.heap.size:=(qG.1 HJr.out.1).1;have hold:∀b,(Value.slice dso dn dc).ownBlock=Q b->b<wr.heap.size/\w0.heap.size+1<=b:=fun b e=>⟨(hoW.lt b e).2,(hoW.lt b e).1⟩;rw[show AG bs++AG rec=AG (bs++rec)from(GN bs rec).symm]at ho;have h4:=h2.grow hg ho hat;obtain⟨_,_,_,_,_,y9,_⟩:=BT h4.1;have h5:=h4.put (NX h4.1 (Z (Q ⟨g,0,U⟩) (dn+rn) cap));have hBX:B≠w0.heap.size:=by have:=HF.out.2.2;omega
      have hBW:∀i v,w2.cell? ⟨B,i,U⟩=Q v->(w4.setCell ⟨w0.heap.size,9,U⟩ (Z (Q ⟨g,0,U⟩) (dn+rn) cap)).cell? ⟨B,i,U⟩=Q v:=fun i v h=>by
       have h6:W.cell? ⟨B,i,U⟩=Q v:=(hb.cell (bW w2 _ h)).trans h;have h7:w4.heap[B]? = W.heap[B]?:=hg.block B (bW W _ h6) fun e=>by have:=(hold B e.symm).1;have:=HF.out.2.2;omega
       rw[eJ (a:=⟨B,i,U⟩) ((RowKit.Below.heap_setCell _ _ _ _ (by show B≠w0.heap.size;exact hBX)).trans h7)];exact h6
      refine⟨⟨⟨_,y9⟩,CG h4.1 9⟩,h5,?_,by simpa using qI (qI hAr hbW.size) hg.size,⟨hBW 0 _ f0,hBW 1 _ f1,hBX⟩,HKr.blocks (by simpa using qI hbW.size hg.size) (fun b hlt hp=>⟨?_,hp⟩),?_⟩
      .exact (Below.grown (ae hb0r hbW) hg (qI hb0r.size hbW.size) (fun z hz=>by have:=(hold z hz).2;omega)).setCell (p:=⟨w0.heap.size,9,U⟩) (qB _) _
      .refine (RowKit.Below.heap_setCell _ _ _ _ (by show b≠w0.heap.size;omega)).trans ((hg.block b (qE hlt hbW.size) fun e=>?_).trans (hbW.block b hlt));have:=hsep b e.symm;omega
      .rcases hat with e|e
       .exact hsep g e
       .right;have:=hbW.size;omega
     obtain⟨i0,hi,hz0,hz1,hz2⟩:=info_parts Fo;have HLm:I ((AG rec).length=rn*1):=by show _=_;rw[Ea,HRn.out];omega
     have h63:dn+rn<=maxLen:=by unfold maxLen;omega
     clear x5 x6 x7 x8 x9 x10 x11 x12 x13 f0 f1 f2;go_cut [] (fun wx=>∃g cap,I (SxJ w0 wx (seB g0 g1 g2 g3 g4 (Z (Q ⟨fb,0,U⟩) K K) st.up fo n (Z (Q ⟨g,0,U⟩) (dn+rn) cap) (byX m ps l (wkS K st j).s).length (Z lo lol.length lc) (Z ro rsl.length rc) ag) (Z (Q ⟨g,0,U⟩) (dn+rn) cap) (dn+rn) (bs++rec) (Z lo lol.length lc) (Z ro rsl.length rc) lol rsl/\O w0.heap.size w0 wx/\wA.heap.size<=wx.heap.size/\(wx.cell? ⟨B,0,U⟩=Q (Y V ky)/\wx.cell? ⟨B,1,U⟩=Q (Y V (fr:Nat))/\B≠w0.heap.size)/\Cc wx (fun b=>w.heap.size<=b/\b<wA.heap.size) (Z ko ks.length kc) ks/\(g<w.heap.size\/wA.heap.size<=g)))
     case first=>
      obtain⟨⟨z9,z2⟩,_⟩:=HW.out _ hb3;obtain⟨⟨z9',z2'⟩,_⟩:=HW.out _ hb3.drew;go_region_law (first
       |(refine step_append_lies _ (by rfl) (.tmp 60) (.tmp 62) 157 (by rfl) (w0.heap.size+1) 5 i0 _ 1 1 Tryz.underlying157 hi hz0 hz1 hz2 (by rfl) (by decide) (Z dso dn dc) dn (AG bs) (by rfl) (HW.out _ (by first|exact hb3.drew|exact hb3)).2.1 ⟨rb,roff,U⟩ rn rc9 (AG rec) (by rfl) HLm.out (HW.out _ (by first|exact hb3.drew|exact hb3)).2.2.1 (Ie rec) hrp h63 (by omega) (HW.out _ (by first|exact hb3.drew|exact hb3)).2.2.2 _ rfl ?_;intro gg gcap w4 ho4 hg4 hat4 hlt4;obtain⟨⟨⟨v9,y9⟩,yf⟩,hgr⟩:=HGr.out _ w4 gg gcap (by first|exact hb3.drew|exact hb3) hg4 ho4 hat4;have HGG:=(show I _ from hgr)))
      all_goals go_wp2_with fail
      all_goals go_meet
      all_goals exact⟨gg,gcap,HGG.out⟩
     case rest=>
      obtain⟨gg,gcap,HP⟩:=hcut;obtain⟨w4,rfl⟩:∃w4,w4=wc:=⟨_,rfl⟩;obtain⟨hj4,hb04,hA4,⟨f0,f1,hBX⟩,hks4,hgg⟩:=id HP.out;obtain⟨_,_,_,x7,x8,_,_,_,_,x13⟩:=BT hj4.box;have xf:=CG hj4.box;have xf7:=xf 7;have xf8:=xf 8;go_upto_region 10 with fail
      obtain⟨w5,hw5⟩:∃w5,w5=w4.setCell ⟨w0.heap.size,8,U⟩ (Y V ((n:Int)+1)):=⟨_,rfl⟩;rw[<-hw5];have hj5:SxJ w0 w5 (seB g0 g1 g2 g3 g4 (Z (Q ⟨fb,0,U⟩) K K) st.up fo (n+1) (Z (Q ⟨gg,0,U⟩) (dn+rn) gcap) (byX m ps l (wkS K st j).s).length (Z lo lol.length lc) (Z ro rsl.length rc) ag) (Z (Q ⟨gg,0,U⟩) (dn+rn) gcap) (dn+rn) (bs++rec) (Z lo lol.length lc) (Z ro rsl.length rc) lol rsl:=by
       rw[hw5];exact hj4.put (NY hj4.box (n+1))
      have hcX:∀i v,w4.cell? ⟨B,i,U⟩=Q v->w5.cell? ⟨B,i,U⟩=Q v:=fun i v h=>by
       rw[hw5,eJ (a:=⟨B,i,U⟩) (RowKit.Below.heap_setCell _ _ _ _ (by show B≠w0.heap.size;exact hBX))];exact h
      have f05:=hcX 0 _ f0;have f15:=hcX 1 _ f1;have hb05:O w0.heap.size w0 w5:=by rw[hw5];exact hb04.setCell (p:=⟨w0.heap.size,8,U⟩) (qB _) _
      have hA5:wA.heap.size<=w5.heap.size:=by rw[hw5];simpa using hA4
      have hk5:Cc w5 (fun b=>w.heap.size<=b/\b<wA.heap.size) (Z ko ks.length kc) ks:=by
       rw[hw5];exact hks4.blocks (by simp) fun b hlt hp=>⟨RowKit.Below.heap_setCell _ _ _ _ (by show b≠w0.heap.size;omega),hp⟩
      clear hw5 hcX f0 f1 x7 x8 x13 xf xf7 xf8 hj4 hb04 hA4 hks4;obtain⟨_,_,_,x7,x8,_,_,_,_,x13⟩:=BT hj5.box;have xf7:=CG hj5.box 7;have HP5:I ((SxJ w0 w5 (seB g0 g1 g2 g3 g4 (Z (Q ⟨fb,0,U⟩) K K) st.up fo (n+1) (Z (Q ⟨gg,0,U⟩) (dn+rn) gcap) (byX m ps l (wkS K st j).s).length (Z lo lol.length lc) (Z ro rsl.length rc) ag) (Z (Q ⟨gg,0,U⟩) (dn+rn) gcap) (dn+rn) (bs++rec) (Z lo lol.length lc) (Z ro rsl.length rc) lol rsl)/\O w0.heap.size w0 w5/\wA.heap.size<=w5.heap.size/\(w5.cell? ⟨B,0,U⟩=Q (Y V ky))/\Cc w5 (fun b=>w.heap.size<=b/\b<wA.heap.size) (Z ko ks.length kc) ks/\(gg<w.heap.size\/wA.heap.size<=gg)):=⟨hj5,hb05,hA5,f05,hk5,hgg⟩;clear hj5 hb05 hA5 hk5 hgg;have hsum:((fo:Int)+(fr:Int))=((fo+fr:Nat):Int):=by omega
      go_cut [] (fun wx=>∃wy,wx=wy.setCell ⟨w0.heap.size,7,U⟩ (Y V ((fo:Int)+(fr:Int)))/\O w5.heap.size w5 wy)
      case first=>
       have hfb:=HFo.out;have hfr1:fr<=1000:=by have:=HFr.out;omega
       clear hsum;go_region_law (fail)
       all_goals go_wp2_with fail
       all_goals go_meet
       all_goals exact⟨w5.drew,by rw[IntWalk.i64_left,IntWalk.wrap64_in _ (by omega)];rfl,(qD _ _).drew⟩
      case rest=>
       obtain⟨wy,rfl,hby⟩:=hcut;obtain⟨w6,hw6⟩:∃w6,w6=wy.setCell ⟨w0.heap.size,7,U⟩ (Y V ((fo:Int)+(fr:Int))):=⟨_,rfl⟩;rw[<-hw6];obtain⟨hj5,hb05,hA5,f05,hk5,hgg⟩:=HP5.out;have hjy:=hj5.below hby
       have HP6:I (SxJ w0 w6 (seB g0 g1 g2 g3 g4 (Z (Q ⟨fb,0,U⟩) K K) st.up (fo+fr) (n+1) (Z (Q ⟨gg,0,U⟩) (dn+rn) gcap) (byX m ps l (wkS K st j).s).length (Z lo lol.length lc) (Z ro rsl.length rc) ag) (Z (Q ⟨gg,0,U⟩) (dn+rn) gcap) (dn+rn) (bs++rec) (Z lo lol.length lc) (Z ro rsl.length rc) lol rsl/\O w0.heap.size w0 w6/\wA.heap.size<=w6.heap.size/\w6.cell? ⟨B,0,U⟩=Q (Y V ky)/\Cc w6 (fun b=>w.heap.size<=b/\b<wA.heap.size) (Z ko ks.length kc) ks):=by
        rw[hw6,hsum];refine⟨hjy.put (Ju hjy.box (fo+fr)),(ae hb05 hby).setCell (p:=⟨w0.heap.size,7,U⟩) (qB _) _,by simpa using qI hA5 hby.size,?_,(hk5.blocks hby.size fun b hlt hp=>⟨hby.block b hlt,hp⟩).blocks (by simp) fun b hlt hp=>⟨RowKit.Below.heap_setCell _ _ _ _ (by show b≠w0.heap.size;omega),hp⟩⟩;rw[eJ (a:=⟨B,0,U⟩) (RowKit.Below.heap_setCell _ _ _ _ (by show B≠w0.heap.size;exact hBX))];exact(hby.cell (bW w5 _ f05)).trans f05
       have hin:=Lo ky ko kc ks w6 HKs.out.2.1 HKs.out.1 HP6.out.2.2.2.2.1;have f06:=HP6.out.2.2.2.1;have HFin:I (∀(W:C) (ag':Nat),SxJ w0 W (seB g0 g1 g2 g3 g4 (Z (Q ⟨fb,0,U⟩) K K) st.up (fo+fr) (n+1) (Z (Q ⟨gg,0,U⟩) (dn+rn) gcap) (byX m ps l (wkS K st j).s).length (Z lo lol.length lc) (Z ro rsl.length rc) ag') (Z (Q ⟨gg,0,U⟩) (dn+rn) gcap) (dn+rn) (bs++rec) (Z lo lol.length lc) (Z ro rsl.length rc) lol rsl->O w0.heap.size w0 W->wA.heap.size<=W.heap.size->Cc W (fun b=>w.heap.size<=b/\b<wA.heap.size) (Z ko ks.length kc) ks->ag'=ag+(if n<st.mx then 1 else 0)->WkJ m ps l K w0 w wA W g0 g1 g2 g3 g4 fb (wkS K st (j+1)) lol rsl (Z ko ks.length kc) ks):=fun W ag' hj hb hA hk hag=>by
        obtain⟨e1,e2,e3,e4,e5,e6⟩:=HN1.out;rw[<-e1]at e2 e3 e4;have hlen:(byX m ps l (n+1)).length=dn+rn:=by rw[HBy.out,qF,HDn.out,HRn.out]
        refine⟨hb,hA,hk,Q ⟨gg,0,U⟩,lo,ro,gcap,lc,rc,⟨?_,?_,?_,HI0.out.may,fun x hx=>?_,fun p hp1 hp2=>?_⟩,?_⟩
        .rw[hj.box,e2,hlen,HFr.out,e5,e4,<-hag];rfl
        .rw[e2,hlen,HBy.out];exact hj.data
        .rw[e2,hlen];exact hj.lost
        .obtain ⟨p,hp,hx2⟩:=HI0.out.keys x hx;refine⟨p,?_,hx2⟩;rw[e3];have:st.mx<=(wkS K st j).mx:=Nat.le_max_left _ _;omega
        .rw[e2]at hp1;rw[e3]at hp2;have h9:(wkS K st j).mx=max st.mx (min (st.n+j) K):=rfl;exact HI0.out.back p (by omega) (by omega)
        .rw[e2,hlen];intro g e;injection e with e;subst e;exact hgg
       have hiff:=HKs.out.2.2 n (by have:=HN1.out.1;omega) hnn;rw[<-HKy.out]at hiff;obtain⟨_,_,_,_,x8,_,_,_,_,x13⟩:=BT HP6.out.1.box;have xf13:=CG HP6.out.1.box 13;clear hw6 hjy hj5 hb05 hA5 hk5 f05 hby
       by_cases hmem:ky∈ks
       .rw[decide_eq_true hmem]at hin;have hlt:=hiff.1 hmem;go_wp2_with (go_at_call 98;refine hin.mono ?_;rintro e w7 ⟨rfl,q,rfl⟩)
        have hdr:O w6.heap.size w6 (w6.drewN q):=⟨rfl,rfl,rfl,qB _,fun _ _=>rfl⟩;obtain⟨p1,p2,p3,_,p5⟩:=HP6.out;rw[show(ag:Int)+1=((ag+1:Nat):Int) by omega];have hj7:=(p1.below hdr).put (Uz (p1.below hdr).box (ag+1));have HK7:=(show I _ from HFin.out _ (ag+1) hj7 ((ae p2 hdr).setCell (p:=⟨w0.heap.size,13,U⟩) (qB _) _) (by simpa using p3) ((p5.blocks hdr.size fun b hlt hp=>⟨hdr.block b hlt,hp⟩).blocks (by simp) fun b hlt hp=>⟨RowKit.Below.heap_setCell _ _ _ _ (by show b≠w0.heap.size;omega),hp⟩) (by rw[aj hlt]));go_roundw
        case rel=>exact⟨j+1,by omega,by have:=HMj.out;congr 1;omega,HK7⟩
        case measure=>
         simp[intOf];omega
       .rw[decide_eq_false hmem]at hin;have hlt:¬n<st.mx:=fun h=>hmem (hiff.2 h);go_wp2_with (go_at_call 98;refine hin.mono ?_;rintro e w7 ⟨rfl,q,rfl⟩)
        have hdr:O w6.heap.size w6 (w6.drewN q):=⟨rfl,rfl,rfl,qB _,fun _ _=>rfl⟩;obtain⟨p1,p2,p3,_,p5⟩:=HP6.out;have HK7:=(show I _ from HFin.out _ ag (p1.below hdr) (ae p2 hdr) p3 (p5.blocks hdr.size fun b hlt hp=>⟨hdr.block b hlt,hp⟩) (by simp[hlt]));go_roundw
        case rel=>exact⟨j+1,by omega,by have:=HMj.out;congr 1;omega,HK7⟩
        case measure=>
         simp[intOf];omega
   .have hlf:¬((wkS K st j).n:Int)<(fN m ps l (wkS K st j).n:Int):=by
     have e:(wkS K st j).n=K:=by omega
     rw[e,Fg HK.out.done];omega
    generalize(wkS K st j).n=n at *;generalize fN m ps l n=fo at *;generalize many-j=mj at *
    go_wp2_with fail
    have hd1:decide (0<mj)=true:=decide_eq_true (by omega);have hd2:decide (n<fo)=false:=decide_eq_false (by omega);go_quiet (fail)
    all_goals go_wp2_with fail
    all_goals go_ret
    all_goals exact⟨by first|rfl|simp,HEnd.out _ ⟨rfl,rfl,rfl,qB _,fun _ _=>rfl⟩ (.inr hnn)⟩
  .have hmj:¬(0:Int)<((many-j:Nat):Int):=by omega
   generalize many-j=mj at *
   go_wp2_with fail
   have hd1:decide (0<mj)=false:=decide_eq_false (by omega);go_quiet (fail)
   all_goals go_wp2_with fail
   all_goals go_ret
   all_goals exact⟨by first|rfl|simp,HEnd.out _ ⟨rfl,rfl,rfl,qB _,fun _ _=>rfl⟩ (.inl (by omega))⟩
section
variable{m:Mo}{ps:List am}{l:am}{K fb:Nat}{w0 w:C}{st:Sr}{g0 g2 g3:E}{g1 g4:Int}
theorem SxV.start(h:SxV m ps l K w0 w g0 g1 g2 g3 g4 fb st):SxV m ps l K w0 (w.setCell ⟨w0.heap.size,6,U⟩ (S true)) g0 g1 g2 g3 g4 fb { st with up:=true}:=by
 obtain⟨dso,lo,ro,dc,lc,rc,lol,rsl,hI⟩:=h.lies;obtain⟨s1,s2⟩:=hI.setB 6 (S true);exact⟨⟨h.ok.a,h.ok.b,h.ok.c⟩,fun e=>(by cases e),h.bel_set 6 _,h.fnd,dso,lo,ro,dc,lc,rc,lol,rsl,⟨NZ hI.box true,s1,s2,hI.may,hI.keys,hI.back⟩⟩
theorem QB(hK:SmallK m ps l K)(h:SxV m ps l K w0 w g0 (AC m ps l).length g2 g3 g4 fb st)(hag:st.ag<=1000000000000)(v:Int×Int)(hv:v.1=1\/v.1=2\/v.1=3\/v.1=4)(h0:0<=v.2)(h1:v.2<=2147483647) :
  ZY qA 38 #[ZX (Q ⟨w0.heap.size,0,U⟩),r #[Y V v.1,Y V v.2]] w fun e w'=>e=F (Y V 0)/\SxV m ps l K w0 w' g0 (AC m ps l).length g2 g3 g4 fb (mvS m ps l K st v):=by
 obtain⟨kind,many⟩:=v;simp only at hv h0 h1;obtain⟨k,rfl⟩:=Int.eq_ofNat_of_zero_le h0;have hal:O w.heap.size w (w.alloc (M #[Y V kind,Y V (k:Nat)] 40)):=ai;have hA:=h.below hal;obtain⟨q0,q1⟩:=(show _/\_ from⟨H8 (du w (M #[Y V kind,Y V (k:Nat)] 40)).1,H9 (du w (M #[Y V kind,Y V (k:Nat)] 40)).1⟩);obtain⟨dso,lo,ro,dc,lc,rc,lol,rsl,hI⟩:=hA.lies;obtain⟨_,_,c6,_⟩:=BT hI.box;have f6:=CG hI.box 6;have hwl:=hI.lt;clear hI;by_cases h4:kind=4
 .subst h4;have hm:mvS m ps l K st (4,(k:Int))={ st with up:=true}:=aj rfl;rw[hm];have HS:=(show I _ from hA.start);clear hA h hv;go_enter je,jh;go_wp2_with fail
  go_ret;exact⟨rfl,HS.out⟩
 .cases hup:st.up with
  |false=>
   have hm:mvS m ps l K st (kind,(k:Int))=st:=by unfold mvS;rw[ak h4,aj hup]
   rw[hm];rw[hup]at c6;have HS:=(show I _ from hA);clear hA h hm hup;have hv':kind=1\/kind=2\/kind=3:=by omega
   clear hv h4;rcases hv' with rfl|rfl|rfl;all_goals go_enter je,jh
   all_goals go_wp2_with fail
   all_goals go_ret
   all_goals exact⟨rfl,HS.out⟩
  |true=>
   rw[hup]at c6;have hv':kind=1\/kind=2\/kind=3:=by omega
   clear hv h4;rcases hv' with rfl|rfl|rfl
   .have hm:mvS m ps l K st (1,(k:Int))=wkS K st k:=by
     unfold mvS;rw[ak (show¬(1:Int)=4 by decide),ak (by simp[hup]),aj rfl];rfl
    rw[hm];have HC:=W8 k (by omega) hag hK hA hup;clear hA h hm hup;go_enter je,jh;go_wp2_with (go_at_call 65;refine HC.mono ?_;rintro e w2 ⟨rfl,HV⟩;have HS:=(show I _ from HV))
    go_ret;exact⟨rfl,HS.out⟩
   .have hm:mvS m ps l K st (2,(k:Int))={ st with s:=st.n}:=by
     unfold mvS;rw[ak (show¬(2:Int)=4 by decide),ak (by simp[hup]),ak (show¬(2:Int)=1 by decide),aj rfl]
    rw[hm];have HC:=Ux hK hA hup;clear hA h hm hup;go_enter je,jh;go_wp2_with (go_at_call 66;refine HC.mono ?_;rintro e w2 ⟨rfl,HV⟩;have HS:=(show I _ from HV))
    go_ret;exact⟨rfl,HS.out⟩
   .have hm:mvS m ps l K st (3,(k:Int))=crS m ps l st k:=by
     unfold mvS;rw[ak (show¬(3:Int)=4 by decide),ak (by simp[hup]),ak (show¬(3:Int)=1 by decide),ak (show¬(3:Int)=2 by decide)];rfl
    rw[hm];have HC:=P6 hK hA k;clear hA h hm hup;go_enter je,jh;go_wp2_with (go_at_call 67;refine HC.mono ?_;rintro e w2 ⟨rfl,HV⟩;have HS:=(show I _ from HV))
    go_ret;exact⟨rfl,HS.out⟩
theorem Ck{w:C}{X:Nat}{a0 a1 a2 a3 a4 a5 a6:E}{t:TypeId}(h:w.heap[X]? = Q (M #[a0,a1,a2,a3,a4,a5,a6] t)):w.cell? ⟨X,0,U⟩=Q a0/\w.cell? ⟨X,1,U⟩=Q a1/\w.cell? ⟨X,2,U⟩=Q a2/\w.cell? ⟨X,3,U⟩=Q a3/\w.cell? ⟨X,4,U⟩=Q a4/\w.cell? ⟨X,5,U⟩=Q a5/\w.cell? ⟨X,6,U⟩=Q a6:=by
 refine⟨?_,?_,?_,?_,?_,?_,?_⟩<;>simp[br,h]
theorem As{w:C}{X:Nat}{a0 a1 a2 a3 a4 a5 a6:E}{t:TypeId}(h:w.heap[X]? = Q (M #[a0,a1,a2,a3,a4,a5,a6] t))(i:Nat):w.frozen? ⟨X,i,U⟩=false:=by simp[World.frozen?,h]
theorem TS{w:C}{X:Nat}{a0 a1 a2 a3 a4 a5 a6:E}{t:TypeId}(h:w.heap[X]? = Q (M #[a0,a1,a2,a3,a4,a5,a6] t))(x:E):(w.setCell ⟨X,5,U⟩ x).heap[X]? = Q (M #[a0,a1,a2,a3,a4,x,a6] t):=by simp[bu,qS,h]
theorem FG{w:C}{X:Nat}{a0 a1 a2 a3 a4 a5 a6:E}{t:TypeId}(h:w.heap[X]? = Q (M #[a0,a1,a2,a3,a4,a5,a6] t))(b0 b1 b2 b3 b4 b5 b6:E):(((((((w.setCell ⟨X,0,U⟩ b0).setCell ⟨X,1,U⟩ b1).setCell ⟨X,2,U⟩ b2).setCell ⟨X,3,U⟩ b3).setCell ⟨X,4,U⟩ b4).setCell ⟨X,5,U⟩ b5).setCell ⟨X,6,U⟩ b6).heap[X]? = Q (M #[b0,b1,b2,b3,b4,b5,b6] t):=by simp[bu,qS,h]
theorem JT{w W:C}(h:O w.heap.size w W)(b0 b1 b2 b3 b4 b5 b6:E):O w.heap.size w (((((((W.setCell ⟨w.heap.size,0,U⟩ b0).setCell ⟨w.heap.size,1,U⟩ b1).setCell ⟨w.heap.size,2,U⟩ b2).setCell ⟨w.heap.size,3,U⟩ b3).setCell ⟨w.heap.size,4,U⟩ b4).setCell ⟨w.heap.size,5,U⟩ b5).setCell ⟨w.heap.size,6,U⟩ b6):=
 ((((((h.setCell (p:=⟨w.heap.size,0,U⟩) (qB _) _).setCell (p:=⟨w.heap.size,1,U⟩) (qB _) _).setCell (p:=⟨w.heap.size,2,U⟩) (qB _) _).setCell (p:=⟨w.heap.size,3,U⟩) (qB _) _).setCell (p:=⟨w.heap.size,4,U⟩) (qB _) _).setCell (p:=⟨w.heap.size,5,U⟩) (qB _) _).setCell (p:=⟨w.heap.size,6,U⟩) (qB _) _
theorem Th (hK:SmallK m ps l K) (h:SxV m ps l K w0 w g0 g1 g2 g3 g4 fb st) (c:Int) (hc:c=0\/c=11) (hF:∀ w2,O w.heap.size w w2->ZY qA 105 #[r #[g0,Y V g1,g2,g3,Y V g4]] w2 fun e w3=>∃ x,e=F (ZZ #[Y V x,Y V c])/\O w2.heap.size w2 w3) :
    ZY qA 39 #[ZX (Q ⟨w0.heap.size,0,U⟩)] w fun e w'=>e=F (ZZ #[r #[S st.up,Y V (fN m ps l st.n:Nat),Y V (st.n:Nat),Y V (st.s:Nat),Y V (st.ag:Nat),S (dnS m ps l st),S (dnS m ps l st&&decide (c=11))],Y V 0])/\O w.heap.size w w':=by
  have hal:O w.heap.size w (w.alloc (M #[S N,Y V 0,Y V 0,Y V 0,Y V 0,S N,S N] 50)):=ai;have hbk:=(du w (M #[S N,Y V 0,Y V 0,Y V 0,Y V 0,S N,S N] 50)).1;have hsz:w.heap.size<(w.alloc (M #[S N,Y V 0,Y V 0,Y V 0,Y V 0,S N,S N] 50)).heap.size:=by simp
  have HSf:=Uw hK (h.below hal);obtain⟨dso,lo,ro,dc,lc,rc,lol,rsl,hI⟩:=h.lies;have HB:I (∀w2,O w.heap.size w w2->(w2.cell? ⟨w0.heap.size,0,U⟩=Q g0/\w2.cell? ⟨w0.heap.size,1,U⟩=Q (Y V g1)/\w2.cell? ⟨w0.heap.size,2,U⟩=Q g2/\w2.cell? ⟨w0.heap.size,3,U⟩=Q g3/\w2.cell? ⟨w0.heap.size,4,U⟩=Q (Y V g4))/\w2.cell? ⟨w0.heap.size,6,U⟩=Q (S st.up)/\w2.cell? ⟨w0.heap.size,7,U⟩=Q (Y V (fN m ps l st.n:Nat))/\w2.cell? ⟨w0.heap.size,8,U⟩=Q (Y V (st.n:Nat))/\w2.cell? ⟨w0.heap.size,13,U⟩=Q (Y V (st.ag:Nat))/\w0.heap.size<w2.heap.size):=fun w2 hb=>by
    obtain⟨a,_,b,c,d,_,_,_,_,e⟩:=BT (hI.below hb).box;exact⟨a,b,c,d,e,(hI.below hb).lt⟩
  have HH:I (∀w2,O w.heap.size w w2->ZY qA 69 #[r #[g0,Y V g1,g2,g3,Y V g4]] w2 fun e w'=>e=F (ZZ #[S (decide (c=11)),Y V 0])/\O w2.heap.size w2 w'):=fun w2 hb=>VQ g0 g2 g3 g1 g4 c w2 hc fun w3 hb3=>hF w3 (ae hb hb3);have hwl:=hI.lt;have hdn:dnS m ps l st=(st.up&&decide (fN m ps l st.n<=st.n)):=rfl;rw[hdn];have HBo:I (∀w2,O (w.alloc (M #[S N,Y V 0,Y V 0,Y V 0,Y V 0,S N,S N] 50)).heap.size (w.alloc (M #[S N,Y V 0,Y V 0,Y V 0,Y V 0,S N,S N] 50)) w2->w2.heap[w.heap.size]? = Q (M #[S N,Y V 0,Y V 0,Y V 0,Y V 0,S N,S N] 50)/\w.heap.size<w2.heap.size/\O w.heap.size w w2):=fun w2 hb=>⟨(hb.block _ hsz).trans hbk,qE hsz hb.size,hal.trans (hb.mono (qU hsz))⟩;obtain⟨up,n,s,mx,ag⟩:=st;simp only at *
  clear hI h hF hdn hal hbk hsz;generalize fN m ps l n=fo at *;generalize decide (c=11)=ho at *
  go_enter Tryz.func39,Tryz.ntmps39;go_upto_region 4 with(go_at_call 68;refine HSf.mono ?_;rintro e w2 ⟨rfl,hb2⟩;obtain⟨ho1,ho2,ho3⟩:=HBo.out w2 hb2)
  obtain⟨⟨d0,d1,d2,d3,d4⟩,d6,d7,d8,d13,dl⟩:=HB.out w2 ho3;have HO1:=(show I _ from ho1);clear ho1 d0 d1 d2 d3 d4;go_cut [6] (fun u wx=>u=ZX (Q ⟨w2.heap.size,0,U⟩)/\wx.heap[w2.heap.size]? = Q (M #[S up,Y V (fo:Nat),Y V (n:Nat),Y V (s:Nat),Y V (ag:Nat),S N,S N] 50)/\O w2.heap.size w2 wx)
  case first=>
    have HSX:I (∀W,O w2.heap.size w2 W->W.cell? ⟨w0.heap.size,6,U⟩=Q (S up)/\W.cell? ⟨w0.heap.size,7,U⟩=Q (Y V (fo:Nat))/\W.cell? ⟨w0.heap.size,8,U⟩=Q (Y V (n:Nat))/\W.cell? ⟨w0.heap.size,13,U⟩=Q (Y V (ag:Nat))):=fun W hb=>⟨(hb.cell dl).trans d6,(hb.cell dl).trans d7,(hb.cell dl).trans d8,(hb.cell dl).trans d13⟩;clear HH HB HBo d6 d7 d8 d13;go_region_held3 (fun W=>W.cell? ⟨w0.heap.size,6,U⟩=Q (S up)/\W.cell? ⟨w0.heap.size,7,U⟩=Q (Y V (fo:Nat))/\W.cell? ⟨w0.heap.size,8,U⟩=Q (Y V (n:Nat))/\W.cell? ⟨w0.heap.size,13,U⟩=Q (Y V (ag:Nat)))
      ((refine HSX.out _ ?_;repeat (first|exact(qD _ _).drew.alloc (qB _) _|exact(qD _ _).drew|exact ai|exact qD _ _|refine RowKit.Below.setCell ?_ (by first|exact qB _|(simp)) _)))
      (fail)
    all_goals go_wp2_with fail
    all_goals go_meet
    all_goals exact⟨rfl,(du w2 _).1,(ai).drew⟩
  case rest=>
    obtain⟨rfl,hox,hbx⟩:=hcut;have hbw:O w.heap.size w wc:=ho3.trans (hbx.mono (qU ho2));clear d6 d7 d8 d13 dl;obtain⟨⟨d0,d1,d2,d3,d4⟩,d6,d7,d8,_,dl⟩:=HB.out wc hbw;have hrr:=(hbx.block _ ho2).trans HO1.out;obtain⟨r0,r1,r2,r3,r4,r5,r6⟩:=Ck hrr;have rf0:=As hrr 0;have rf1:=As hrr 1;have rf2:=As hrr 2;have rf3:=As hrr 3;have rf4:=As hrr 4;have rf5:=As hrr 5;have rf6:=As hrr 6;obtain⟨x0,x1,x2,x3,x4,x5,x6⟩:=Ck hox;have HB9:I (O w.heap.size w wc):=hbw;have hx5:=As hox 5;have hx6:=As hox 6;have hol:w2.heap.size<wc.heap.size:=(qG.1 hox).1;have hrl:w.heap.size<wc.heap.size:=by have:=hbx.size;omega
    have HSt:up=true->I (∀q:Nat,ZY qA 69 #[r #[g0,Y V g1,g2,g3,Y V g4]] ((wc.drewN q).setCell ⟨w2.heap.size,5,U⟩ (S true)) fun e w8=>e=F (ZZ #[S ho,Y V 0])/\w8.heap[w2.heap.size]? = Q (M #[S true,Y V (fo:Nat),Y V (n:Nat),Y V (s:Nat),Y V (ag:Nat),S true,S N] 50)/\w8.heap[w.heap.size]? = Q (M #[S N,Y V 0,Y V 0,Y V 0,Y V 0,S N,S N] 50)/\I (O w.heap.size w w8)):=fun hu q=>by
      subst hu;have hwq:O w.heap.size w (wc.drewN q):=hbw.trans ⟨rfl,rfl,rfl,qB _,fun _ _=>rfl⟩;have hw1:O w.heap.size w ((wc.drewN q).setCell ⟨w2.heap.size,5,U⟩ (S true)):=hwq.setCell (p:=⟨w2.heap.size,5,U⟩) (qU ho2) (S true);refine(HH.out _ hw1).mono fun e w8 ⟨e1,e2⟩=>⟨e1,?_,?_,ae hw1 e2⟩
      . refine(e2.block _ (by simpa using hol)).trans ?_
        exact TS (show(wc.drewN q).heap[w2.heap.size]? = _ from hox) _
      . refine(e2.block _ (by simpa using hrl)).trans ?_
        exact(RowKit.Below.heap_setCell _ _ _ _ (by show w.heap.size≠w2.heap.size;omega)).trans hrr
    have hne:w2.heap.size≠w.heap.size:=by omega
    have HRR:=(show I _ from hrr);clear hox hbx hbw ho3 hrr HO1;generalize w2.heap.size=B at *
    cases up with
    |false=>
      go_wp2_with fail
      go_quiet (fail)
      rename_i nq;go_wp2_with fail
      have hfin:=Ck (FG (w:=(wc.drewN nq)) HRR.out (S N) (Y V (fo:Nat)) (Y V (n:Nat)) (Y V (s:Nat)) (Y V (ag:Nat)) (S N) (S N));have hbl:=JT (W:=(wc.drewN nq)) (HB9.out.trans ⟨rfl,rfl,rfl,qB _,fun _ _=>rfl⟩:O w.heap.size w (wc.drewN nq)) (S N) (Y V (fo:Nat)) (Y V (n:Nat)) (Y V (s:Nat)) (Y V (ag:Nat)) (S N) (S N);generalize((((((((wc.drewN nq).setCell ⟨w.heap.size,0,U⟩ (S N)).setCell ⟨w.heap.size,1,U⟩ (Y V (fo:Nat))).setCell ⟨w.heap.size,2,U⟩ (Y V (n:Nat))).setCell ⟨w.heap.size,3,U⟩ (Y V (s:Nat))).setCell ⟨w.heap.size,4,U⟩ (Y V (ag:Nat))).setCell ⟨w.heap.size,5,U⟩ (S N)).setCell ⟨w.heap.size,6,U⟩ (S N))=WF at hfin hbl⊢;obtain⟨z0,z1,z2,z3,z4,z5,z6⟩:=hfin;refine bodyPost_ret (v:=ZZ #[r #[S N,Y V (fo:Nat),Y V (n:Nat),Y V (s:Nat),Y V (ag:Nat),S N,S N],Y V 0]) ?_ rfl ⟨by simp,hbl⟩;simp[results,jj,go_sem,z0,z1,z2,z3,z4,z5,z6]
    |true=>
      by_cases hlt:n<fo
      . have hli:(n:Int)<(fo:Int):=by omega
        have hdd:decide (fo<=n)=false:=decide_eq_false (by omega);clear HSt;go_wp2_with fail
        have hd1:decide (n<fo)=true:=decide_eq_true hlt;go_quiet (fail)
        rename_i nq;go_wp2_with fail
        have hfin:=Ck (FG (w:=(wc.drewN nq)) HRR.out (S true) (Y V (fo:Nat)) (Y V (n:Nat)) (Y V (s:Nat)) (Y V (ag:Nat)) (S N) (S N));have hbl:=JT (W:=(wc.drewN nq)) (HB9.out.trans ⟨rfl,rfl,rfl,qB _,fun _ _=>rfl⟩:O w.heap.size w (wc.drewN nq)) (S true) (Y V (fo:Nat)) (Y V (n:Nat)) (Y V (s:Nat)) (Y V (ag:Nat)) (S N) (S N);generalize((((((((wc.drewN nq).setCell ⟨w.heap.size,0,U⟩ (S true)).setCell ⟨w.heap.size,1,U⟩ (Y V (fo:Nat))).setCell ⟨w.heap.size,2,U⟩ (Y V (n:Nat))).setCell ⟨w.heap.size,3,U⟩ (Y V (s:Nat))).setCell ⟨w.heap.size,4,U⟩ (Y V (ag:Nat))).setCell ⟨w.heap.size,5,U⟩ (S N)).setCell ⟨w.heap.size,6,U⟩ (S N))=WF at hfin hbl⊢;obtain⟨z0,z1,z2,z3,z4,z5,z6⟩:=hfin;refine bodyPost_ret (v:=ZZ #[r #[S true,Y V (fo:Nat),Y V (n:Nat),Y V (s:Nat),Y V (ag:Nat),S N,S N],Y V 0]) ?_ rfl ⟨by simp[hdd],hbl⟩;simp[results,jj,go_sem,z0,z1,z2,z3,z4,z5,z6]
      . have hli:¬(n:Int)<(fo:Int):=by omega
        have hdd:decide (fo<=n)=true:=decide_eq_true (by omega);have HS8:=HSt rfl;clear HSt;go_wp2_with fail
        have hd1:decide (n<fo)=false:=decide_eq_false hlt;go_quiet (fail)
        go_wp2_with (go_at_call 69;refine(HS8.out _).mono ?_;rintro e w8 ⟨rfl,hb8,hr8,HB8⟩;obtain⟨x0,x1,x2,x3,x4,x5,x6⟩:=Ck hb8;obtain⟨r0,r1,r2,r3,r4,r5,r6⟩:=Ck hr8;have HR8:=(show I _ from hr8);have rf0:=As hr8 0;have rf1:=As hr8 1;have rf2:=As hr8 2;have rf3:=As hr8 3;have rf4:=As hr8 4;have rf5:=As hr8 5;have rf6:=As hr8 6;have hx6:=As hb8 6;have h81:=(qG.1 hb8).1;have h82:=(qG.1 hr8).1;clear hb8 hr8)
        have hr9:(w8.setCell ⟨B,6,U⟩ (S ho)).heap[w.heap.size]? = _:=(RowKit.Below.heap_setCell _ _ _ _ (by show w.heap.size≠B;omega)).trans HR8.out;have hb9:O w.heap.size w (w8.setCell ⟨B,6,U⟩ (S ho)):=HB8.out.setCell (p:=⟨B,6,U⟩) (qU ho2) _;have hfin:=Ck (FG (w:=(w8.setCell ⟨B,6,U⟩ (S ho))) hr9 (S true) (Y V (fo:Nat)) (Y V (n:Nat)) (Y V (s:Nat)) (Y V (ag:Nat)) (S true) (S ho));have hbl:=JT (W:=(w8.setCell ⟨B,6,U⟩ (S ho))) hb9 (S true) (Y V (fo:Nat)) (Y V (n:Nat)) (Y V (s:Nat)) (Y V (ag:Nat)) (S true) (S ho);generalize((((((((w8.setCell ⟨B,6,U⟩ (S ho)).setCell ⟨w.heap.size,0,U⟩ (S true)).setCell ⟨w.heap.size,1,U⟩ (Y V (fo:Nat))).setCell ⟨w.heap.size,2,U⟩ (Y V (n:Nat))).setCell ⟨w.heap.size,3,U⟩ (Y V (s:Nat))).setCell ⟨w.heap.size,4,U⟩ (Y V (ag:Nat))).setCell ⟨w.heap.size,5,U⟩ (S true)).setCell ⟨w.heap.size,6,U⟩ (S ho))=WF at hfin hbl⊢;obtain⟨z0,z1,z2,z3,z4,z5,z6⟩:=hfin;refine bodyPost_ret (v:=ZZ #[r #[S true,Y V (fo:Nat),Y V (n:Nat),Y V (s:Nat),Y V (ag:Nat),S true,S ho],Y V 0]) ?_ rfl ⟨by simp[hdd],hbl⟩;simp[results,jj,go_sem,z0,z1,z2,z3,z4,z5,z6]
end
open Go.ChangeShapes Go.WideShapes Go.ChangeAt Go.RowKit Go.Deep
def Cp(l:am):Prop:=l.length<=5000/\∀k,k<l.length->1<=(l.getD k (0,0)).1/\(l.getD k (0,0)).1<=4/\0<=(l.getD k (0,0)).2/\(l.getD k (0,0)).2<=2147483647
theorem OpsV.atM{w:C}{ao:Option Addr}{cap n:Nat}{l:am}(h:OpsV w (Z ao n cap) l){i:Nat}(hi:i<l.length):∃b off,ao=Q ⟨b,off,U⟩/\b<w.heap.size/\w.cell? ⟨b,off+i*2,U⟩=Q (Y V (l.getD i (0,0)).1)/\w.cell? ⟨b,off+i*2+1,U⟩=Q (Y V (l.getD i (0,0)).2):=by
 obtain⟨ao',cap',hv,_,h⟩:=h;injection hv with e1 e2 e3;subst e1;obtain⟨b,off,e,hlt,hat⟩:=h (by rintro rfl;simp at hi);exact⟨b,off,e,hlt,(hat i hi).1,(hat i hi).2⟩
theorem Vf(ao:Option Addr)(cap:Nat)(l:am)(w:C)(hm:Cp l)(hV:OpsV w (Z ao l.length cap) l) :
  ZY qA 36 #[Z ao l.length cap] w fun e w'=>e=F (Y V 0)/\O w.heap.size w w':=by
 obtain⟨n,hn⟩:∃n,l.length=n:=⟨_,rfl⟩;have H:I (OpsV w (Z ao l.length cap) l):=hV;have HN:I (l.length=n):=hn;have HM:I (∀k,k<l.length->1<=(l.getD k (0,0)).1/\(l.getD k (0,0)).1<=4/\0<=(l.getD k (0,0)).2/\(l.getD k (0,0)).2<=2147483647):=hm.2;have hbi:¬(5000:Int)<(n:Int):=by have:=hm.1;omega
 rw[hn]at H⊢;clear hV hn hm;go_enter Tryz.func36,Tryz.ntmps36;go_wp2;go_loopw [10] (fun i wr=>∃k:Nat,k<=n/\i=Y V k/\O w.heap.size w wr) (fun i _=>n-(intOf i).toNat)
 case atStart=>exact⟨0,qJ _,rfl,qD _ _⟩
 case round=>
  obtain⟨k,hk,rfl,hbr⟩:=hrel;by_cases hlt:k<n
  .have hlt2:k<l.length:=by rw[HN.out];exact hlt
   obtain⟨b,off,rfl,hbl,c0,c1⟩:=(H.out.below hbr).atM hlt2;have HE:=HM.out k hlt2;have hki:(k:Int)<(n:Int):=by omega
   have hba:∀o,O w.heap.size w (wr.alloc o):=fun o=>hbr.alloc hbr.size o;generalize l.getD k (0,0)=p at *;obtain⟨x,y⟩:=p;simp only at c0 c1 HE
   obtain⟨h1,h2,h3,h4⟩:=HE;have hx1:¬x<1:=by omega
   have hx4:¬4<x:=by omega
   have hy1:¬y<0:=by omega
   have hy4:¬2147483647<y:=by omega
   clear h1 h2 h3 h4;go_wp2;go_roundw
   case rel=>exact⟨k+1,by omega,by go_num,hba _⟩
   case measure=>simp[intOf];omega
  .obtain rfl:k=n:=by omega
   go_wp2;go_ret;exact⟨rfl,hbr⟩
section
variable{m:Mo}{ps:List am}{l:am}{K K':Nat}
theorem QP(h:At m ps l K)(h':At m ps l K'):K=K':=by
 rcases Nat.lt_trichotomy K K' with hlt|h0|hlt
 .have:=h'.2.2.1 K hlt;rw[h.1]at this;omega
 .exact h0
 .have:=h.2.2.1 K' hlt;rw[h'.1]at this;omega
theorem Qa(g:Gr):Ao g=0\/Ao g=11:=by
 unfold Ao;split
 .exact .inl rfl
 .exact .inr rfl
theorem S0(hs:SmallK m ps l K){st:Sr}(v:Int×Int):(mvS m ps l K st v).ag<=st.ag+1000:=by
 have:=hs.few;unfold mvS;split
 .show st.ag<=_;omega
 split
 .omega
 split
 .show st.ag+(min (min (st.n+v.2.toNat) K) st.mx-st.n)<=_;omega
 split
 .show st.ag<=_;omega
 .show st.ag<=_;omega
theorem Uo(hs:SmallK m ps l K)(vs:am)(k:Nat):(Aw m ps l K (vs.take k)).ag<=1000*k:=by
 induction k with
 |zero=>simp[Aw,sr0]
 |succ k ih=>
  by_cases hk:k<vs.length
  .rw[qT hk,NQ];have:=S0 (st:=Aw m ps l K (vs.take k)) hs vs[k];omega
  .rw[qN (by omega)];rw[qN (by omega)]at ih;omega
theorem Up{vs:am}{k:Nat}(hk:k<vs.length):Aw m ps l K (vs.take (k+1))=mvS m ps l K (Aw m ps l K (vs.take k)) (vs.getD k (0,0)):=by
 rw[qT hk,NQ,qC,qH hk];rfl
end
def SxX(w2:C)(m:Mo)(ps:List am)(l:am)(K:Nat)(so no xo:Option Addr)(sc nc xc:Nat):Prop:=
 GfV w2 m ps l K so no sc/\∀w3,O w2.heap.size w2 w3->ZY qA 105 #[r #[Z so K sc,Y V ((AC m ps l).length:Nat),Z no K nc,Z xo K xc,Y V ((AA l).length:Nat)]] w3 fun e w4=>∃x,e=F (ZZ #[Y V x,Y V (Ao (AY m ps l K))])/\O w3.heap.size w3 w4
def FW(w:C)(m:Mo)(ps:List am)(l:am)(va vr pv fv:E):Prop:=
  ZY qA 9 #[r #[va,vr,pv,fv]] w fun e w2=>∃K so sc no nc xo xc,At m ps l K/\e=F (ZZ #[r #[Z so K sc,Y V ((AC m ps l).length:Nat),Z no K nc,Z xo K xc,Y V ((AA l).length:Nat)],Y V 0])/\O w.heap.size w w2/\I (SxX w2 m ps l K so no xo sc nc xc)
noncomputable def Fx(m:Mo)(ps:List am)(l:am)(st:Sr)(c:Int):Value:=r #[S st.up,Y V (fN m ps l st.n:Nat),Y V (st.n:Nat),Y V (st.s:Nat),Y V (st.ag:Nat),S (dnS m ps l st),S (dnS m ps l st&&decide (c=11))]
theorem Me{w W:C}(h:O w.heap.size w W)(b0 b1 b2 b3 b4 b5 b6:E):O w.heap.size w (((((((W.setCell ⟨w.heap.size+1,0,U⟩ b0).setCell ⟨w.heap.size+1,1,U⟩ b1).setCell ⟨w.heap.size+1,2,U⟩ b2).setCell ⟨w.heap.size+1,3,U⟩ b3).setCell ⟨w.heap.size+1,4,U⟩ b4).setCell ⟨w.heap.size+1,5,U⟩ b5).setCell ⟨w.heap.size+1,6,U⟩ b6):=
 ((((((h.setCell (p:=⟨w.heap.size+1,0,U⟩) (vE _) _).setCell (p:=⟨w.heap.size+1,1,U⟩) (vE _) _).setCell (p:=⟨w.heap.size+1,2,U⟩) (vE _) _).setCell (p:=⟨w.heap.size+1,3,U⟩) (vE _) _).setCell (p:=⟨w.heap.size+1,4,U⟩) (vE _) _).setCell (p:=⟨w.heap.size+1,5,U⟩) (vE _) _).setCell (p:=⟨w.heap.size+1,6,U⟩) (vE _) _
theorem Vh(m:Mo)(ps:List am)(l:am)(w:C)(va vr pv fv:E)(hEx:∀w2,O w.heap.size w w2->FW w2 m ps l va vr pv fv)(hS:∀K,At m ps l K->SmallK m ps l K)(vs:am)(ao:Option Addr)(cap:Nat)(hm:Cp vs)(hO:OpsV w (Z ao vs.length cap) vs) :
  ZY qA 20 #[r #[va,vr,pv,fv],Z ao vs.length cap] w fun e w'=>∃K,At m ps l K/\e=F (ZZ #[Fx m ps l (Aw m ps l K vs) (Ao (AY m ps l K)),Y V 0])/\O w.heap.size w w':=by
 have hal:O w.heap.size w (w.alloc (M #[va,vr,pv,fv] 35)):=ai;have hal2:O w.heap.size w ((w.alloc (M #[va,vr,pv,fv] 35)).alloc (M #[S N,Y V 0,Y V 0,Y V 0,Y V 0,S N,S N] 50)):=hal.alloc hal.size _;have hbk:((w.alloc (M #[va,vr,pv,fv] 35)).alloc (M #[S N,Y V 0,Y V 0,Y V 0,Y V 0,S N,S N] 50)).heap[w.heap.size+1]? = Q (M #[S N,Y V 0,Y V 0,Y V 0,Y V 0,S N,S N] 50):=by
  have:=(du (w.alloc (M #[va,vr,pv,fv] 35)) (M #[S N,Y V 0,Y V 0,Y V 0,Y V 0,S N,S N] 50)).1;simpa using this
 have HCk:I (∀w2,O w.heap.size w w2->ZY qA 36 #[Z ao vs.length cap] w2 fun e w'=>e=F (Y V 0)/\O w2.heap.size w2 w'):=fun w2 h=>Vf ao cap vs w2 hm (hO.below h);have HS:I (∀K,At m ps l K->SmallK m ps l K):=hS;have HMv:I (Cp vs):=hm;have HO:I (∀wr,O w.heap.size w wr->OpsV wr (Z ao vs.length cap) vs):=fun wr h=>hO.below h;obtain⟨WB,hWB⟩:∃WB,WB=((w.alloc (M #[va,vr,pv,fv] 35)).alloc (M #[S N,Y V 0,Y V 0,Y V 0,Y V 0,S N,S N] 50)):=⟨_,rfl⟩;have hex:=hEx _ hal2;unfold FW at hex;rw[<-hWB]at hex hal2 hbk;have hsz:w.heap.size+1<WB.heap.size:=(qG.1 hbk).1;have HOB:I (∀w2,O WB.heap.size WB w2->w2.heap[w.heap.size+1]? = Q (M #[S N,Y V 0,Y V 0,Y V 0,Y V 0,S N,S N] 50)/\w.heap.size+1<w2.heap.size/\O w.heap.size w w2):=fun w2 hb=>⟨(hb.block _ hsz).trans hbk,qE hsz hb.size,ae hal2 hb⟩;have hvl:vs.length<=5000:=hm.1;clear hEx hm hS hO hal hbk;generalize hvn:vs.length=nv at *;have HVn:I (vs.length=nv):=hvn;clear hvn
 go_enter Tryz.func20,Tryz.ntmps20;go_upto_region 2 with fail
 rw[<-hWB];clear hWB;go_upto_region 6 with(first
  |(go_at_call 9;refine hex.mono ?_;rintro e w3 ⟨K,so,sc,no,nc,xo,xc,hD,rfl,hb3,HX⟩;have hK:=HS.out K hD;have HD:=(show I _ from hD);have hbA:O w3.heap.size w3 (w3.alloc (M #[Z so K sc,Y V ((AC m ps l).length:Nat),Z no K nc,Z xo K xc,Y V ((AA l).length:Nat)] 45)):=ai;have hck:=HCk.out (w3.alloc (M #[Z so K sc,Y V ((AC m ps l).length:Nat),Z no K nc,Z xo K xc,Y V ((AA l).length:Nat)] 45)) ((ae hal2 hb3).trans (hbA.mono (ae hal2 hb3).size));have HGb:I (∀w4,O (w3.alloc (M #[Z so K sc,Y V ((AC m ps l).length:Nat),Z no K nc,Z xo K xc,Y V ((AA l).length:Nat)] 45)).heap.size (w3.alloc (M #[Z so K sc,Y V ((AC m ps l).length:Nat),Z no K nc,Z xo K xc,Y V ((AA l).length:Nat)] 45)) w4->(w4.cell? ⟨w3.heap.size,0,U⟩=Q (Z so K sc)/\w4.cell? ⟨w3.heap.size,1,U⟩=Q (Y V ((AC m ps l).length:Nat))/\w4.cell? ⟨w3.heap.size,2,U⟩=Q (Z no K nc)/\w4.cell? ⟨w3.heap.size,3,U⟩=Q (Z xo K xc)/\w4.cell? ⟨w3.heap.size,4,U⟩=Q (Y V ((AA l).length:Nat)))/\O w3.heap.size w3 w4):=fun w4 hb=>⟨Dn ((hb.block _ (by simp)).trans (show(w3.alloc (M #[Z so K sc,Y V ((AC m ps l).length:Nat),Z no K nc,Z xo K xc,Y V ((AA l).length:Nat)] 45)).heap[w3.heap.size]? = Q (grB (Z so K sc) (Z no K nc) (Z xo K xc) ((AC m ps l).length:Nat) ((AA l).length:Nat))from(du w3 _).1)),ae hbA hb⟩;clear hD)
  |(go_at_call 36;refine hck.mono ?_;rintro e w4 ⟨rfl,hb4⟩;obtain⟨⟨q0,q1,q2,q3,q4⟩,hb34⟩:=HGb.out w4 hb4;have hso:=U2 hK so no xo sc nc xc ((AA l).length:Nat) (HX.out.1.below hb34))
  |(go_at_call 37;refine hso.mono ?_;rintro e w6 ⟨w5,fb,rfl,hb5,HV⟩;have HVV:=(show I _ from HV)))
 have hb35:O w3.heap.size w3 w5:=ae hb34 hb5;have hbB5:O WB.heap.size WB w5:=ae hb3 hb35;have HB5:=(show I _ from hbB5);have HF5:I (∀w7,O w5.heap.size w5 w7->ZY qA 105 #[r #[Z so K sc,Y V ((AC m ps l).length:Nat),Z no K nc,Z xo K xc,Y V ((AA l).length:Nat)]] w7 fun e w4=>∃x,e=F (ZZ #[Y V x,Y V (Ao (AY m ps l K))])/\O w7.heap.size w7 w4):=fun w7 h=>HX.out.2 w7 (ae hb35 h);have HV0:I (SxV m ps l K w5 w6 (Z so K sc) ((AC m ps l).length:Nat) (Z no K nc) (Z xo K xc) ((AA l).length:Nat) fb (Aw m ps l K (vs.take 0))):=by
  rw[List.take_zero];exact HVV.out
 have HK:I (SmallK m ps l K):=hK;clear hex hck hso HGb HVV HX hK hb35 hbB5 q0 q1 q2 q3 q4;go_loopw [39] (fun i wr=>∃k:Nat,k<=nv/\i=Y V k/\I (SxV m ps l K w5 wr (Z so K sc) ((AC m ps l).length:Nat) (Z no K nc) (Z xo K xc) ((AA l).length:Nat) fb (Aw m ps l K (vs.take k)))) (fun i _=>nv-(intOf i).toNat)
 case atStart=>exact⟨0,qJ _,rfl,HV0.out⟩
 case round=>
  obtain⟨k,hk,rfl,HP⟩:=hrel;have hw5:O WB.heap.size WB wr:=HB5.out.trans (HP.out.bel.mono HB5.out.size);obtain⟨hob1,hob2,hob3⟩:=HOB.out wr hw5;by_cases hlt:k<nv
  .have hki:(k:Int)<(nv:Int):=by omega
   have hlt2:k<vs.length:=by rw[HVn.out];exact hlt
   have hO2:=HO.out wr hob3;rw[<-HVn.out]at hO2;obtain⟨b,off,rfl,hbl,c0,c1⟩:=hO2.atM hlt2;have hE:=HMv.out.2 k hlt2;have hag:=Uo HK.out vs k;have hal:O wr.heap.size wr (wr.alloc (M #[Y V (vs.getD k (0,0)).1,Y V (vs.getD k (0,0)).2] 40)):=ai;have hdo:=QB HK.out (HP.out.below hal) (by omega) (vs.getD k (0,0)) (by omega) hE.2.2.1 hE.2.2.2;rw[<-Up hlt2]at hdo;clear hob1 hO2 hE hag hbl;generalize(vs.getD k (0,0)).1=x at *;generalize(vs.getD k (0,0)).2=y at *
   go_wp2_with (go_at_call 38;refine hdo.mono ?_;rintro e w8 ⟨rfl,hV8⟩;have HV8:=(show I _ from hV8))
   go_roundw
   case rel=>exact⟨k+1,by omega,by go_num,HV8.out⟩
   case measure=>simp[intOf];omega
  .obtain rfl:k=nv:=by omega
   have HV9:=HP.out;rw[<-HVn.out,List.take_length]at HV9;have hoc:=Th HK.out HV9 (Ao (AY m ps l K)) (Qa _) fun w7 h=>HF5.out w7 (HV9.bel.trans (h.mono HV9.bel.size));have hoc2:ZY qA 39 #[ZX (Q ⟨w5.heap.size,0,U⟩)] wr fun e w'=>e=F (ZZ #[(Fx m ps l (Aw m ps l K vs) (Ao (AY m ps l K))),Y V 0])/\O wr.heap.size wr w':=hoc;clear hoc hob1;obtain⟨b0,i1,i2,i3,i4,b5,b6,hout⟩:∃(b0:Bool) (i1 i2 i3 i4:Int) (b5 b6:Bool),(Fx m ps l (Aw m ps l K vs) (Ao (AY m ps l K)))=r #[S b0,Y V i1,Y V i2,Y V i3,Y V i4,S b5,S b6]:=⟨_,_,_,_,_,_,_,rfl⟩;rw[hout]at hoc2;have HOut:=(show I _ from hout);have HB9:I (∀w9,O wr.heap.size wr w9->(w9.heap[w.heap.size+1]? = Q (M #[S N,Y V 0,Y V 0,Y V 0,Y V 0,S N,S N] 50)/\w.heap.size+1<w9.heap.size)/\O w.heap.size w w9):=fun w9 h=>by
    obtain⟨a1,a2,a3⟩:=HOB.out w9 (ae hw5 h);exact⟨⟨a1,a2⟩,a3⟩
   clear hout HV9;go_wp2_with (go_at_call 39;refine hoc2.mono ?_;rintro e w9 ⟨rfl,hb9⟩;obtain⟨⟨hr9,hl9⟩,hbw9⟩:=HB9.out w9 hb9;obtain⟨r0,r1,r2,r3,r4,r5,r6⟩:=Ck hr9;have HR9:=(show I _ from hr9);have rf0:=As hr9 0;have rf1:=As hr9 1;have rf2:=As hr9 2;have rf3:=As hr9 3;have rf4:=As hr9 4;have rf5:=As hr9 5;have rf6:=As hr9 6;clear hr9)
   have hfin:=Ck (FG (w:=w9) HR9.out (S b0) (Y V i1) (Y V i2) (Y V i3) (Y V i4) (S b5) (S b6));have hbl:=Me hbw9 (S b0) (Y V i1) (Y V i2) (Y V i3) (Y V i4) (S b5) (S b6);generalize(((((((w9.setCell ⟨w.heap.size+1,0,U⟩ (S b0)).setCell ⟨w.heap.size+1,1,U⟩ (Y V i1)).setCell ⟨w.heap.size+1,2,U⟩ (Y V i2)).setCell ⟨w.heap.size+1,3,U⟩ (Y V i3)).setCell ⟨w.heap.size+1,4,U⟩ (Y V i4)).setCell ⟨w.heap.size+1,5,U⟩ (S b5)).setCell ⟨w.heap.size+1,6,U⟩ (S b6))=WF at hfin hbl⊢;obtain⟨z0,z1,z2,z3,z4,z5,z6⟩:=hfin;try simp only[Exit.inBlock,Exit.then]
   refine bodyPost_ret (v:=ZZ #[r #[S b0,Y V i1,Y V i2,Y V i3,Y V i4,S b5,S b6],Y V 0]) ?_ rfl ⟨K,HD.out,by rw[HOut.out],hbl⟩;simp[results,Tryz.results20,go_sem,z0,z1,z2,z3,z4,z5,z6]
theorem WI{w:C}{X:Nat}{a b c d:E}{t:TypeId}(h:w.heap[X]? = Q (M #[a,b,c,d] t)):w.cell? ⟨X,0,U⟩=Q a/\w.cell? ⟨X,1,U⟩=Q b/\w.cell? ⟨X,2,U⟩=Q c/\w.cell? ⟨X,3,U⟩=Q d:=by
 refine⟨?_,?_,?_,?_⟩<;>simp[br,h]
theorem Va(m:Mo)(ps:List am)(l:am)(w:C)(va vr pv fv:E)(hEx:∀w2,O w.heap.size w w2->FW w2 m ps l va vr pv fv)(hS:∀K,At m ps l K->SmallK m ps l K)(vs:am)(ao:Option Addr)(cap:Nat)(hm:Cp vs)(hO:OpsV w (Z ao vs.length cap) vs) :
  ZY qA 10 #[r #[va,vr,pv,fv],Z ao vs.length cap] w fun e w'=>∃K,At m ps l K/\e=F (ZZ #[Fx m ps l (Aw m ps l K vs) (Ao (AY m ps l K)),S true])/\O w.heap.size w w':=by
 have HR:I (∀w2,O w.heap.size w w2->ZY qA 20 #[r #[va,vr,pv,fv],Z ao vs.length cap] w2 fun e w'=>∃K,At m ps l K/\∃(b0:Bool) (i1 i2 i3 i4:Int) (b5 b6:Bool),I (Fx m ps l (Aw m ps l K vs) (Ao (AY m ps l K))=r #[S b0,Y V i1,Y V i2,Y V i3,Y V i4,S b5,S b6])/\e=F (ZZ #[r #[S b0,Y V i1,Y V i2,Y V i3,Y V i4,S b5,S b6],Y V 0])/\O w2.heap.size w2 w'):=fun w2 h=>
  (Vh m ps l w2 va vr pv fv (fun w3 h3=>hEx w3 (ae h h3)) hS vs ao cap hm (hO.below h)).mono fun e w' ⟨K,hD,e1,hb⟩=>⟨K,hD,_,_,_,_,_,_,_,rfl,e1,hb⟩
 generalize vs.length=nv at *;clear hEx hS hm hO;have hal:O w.heap.size w (w.alloc (M #[va,vr,pv,fv] 35)):=ai;have hal2:O w.heap.size w ((w.alloc (M #[va,vr,pv,fv] 35)).alloc (M #[S N,Y V 0,Y V 0,Y V 0,Y V 0,S N,S N] 50)):=hal.alloc hal.size _
 have hbk:((w.alloc (M #[va,vr,pv,fv] 35)).alloc (M #[S N,Y V 0,Y V 0,Y V 0,Y V 0,S N,S N] 50)).heap[w.heap.size+1]? = Q (M #[S N,Y V 0,Y V 0,Y V 0,Y V 0,S N,S N] 50):=by
  have:=(du (w.alloc (M #[va,vr,pv,fv] 35)) (M #[S N,Y V 0,Y V 0,Y V 0,Y V 0,S N,S N] 50)).1;simpa using this
 have htk:=WI (((qD _ _).alloc (qB _) (M #[S N,Y V 0,Y V 0,Y V 0,Y V 0,S N,S N] 50):O (w.alloc (M #[va,vr,pv,fv] 35)).heap.size (w.alloc (M #[va,vr,pv,fv] 35)) ((w.alloc (M #[va,vr,pv,fv] 35)).alloc (M #[S N,Y V 0,Y V 0,Y V 0,Y V 0,S N,S N] 50))).block w.heap.size (by simp) |>.trans (du w (M #[va,vr,pv,fv] 35)).1);obtain⟨WB,hWB⟩:∃WB,WB=((w.alloc (M #[va,vr,pv,fv] 35)).alloc (M #[S N,Y V 0,Y V 0,Y V 0,Y V 0,S N,S N] 50)):=⟨_,rfl⟩;rw[<-hWB]at hal2 hbk htk;obtain⟨k0,k1,k2,k3⟩:=htk;have hr:=HR.out WB hal2;have hsz:w.heap.size+1<WB.heap.size:=(qG.1 hbk).1;have HOB:I (∀w2,O WB.heap.size WB w2->(w2.heap[w.heap.size+1]? = Q (M #[S N,Y V 0,Y V 0,Y V 0,Y V 0,S N,S N] 50)/\w.heap.size+1<w2.heap.size)/\O w.heap.size w w2):=fun w2 hb=>⟨⟨(hb.block _ hsz).trans hbk,qE hsz hb.size⟩,ae hal2 hb⟩;clear hbk hal;go_enter Tryz.func10,Tryz.ntmps10;go_upto_region 1 with fail
 rw[<-hWB];clear hWB;go_upto_region 2 with(go_at_call 20;refine hr.mono ?_;rintro e w3 ⟨K,hD,b0,i1,i2,i3,i4,b5,b6,HOut,rfl,hb3⟩)
 have hb34:O w3.heap.size w3 (w3.alloc (M #[S b0,Y V i1,Y V i2,Y V i3,Y V i4,S b5,S b6] 50)):=ai;have ho4:(w3.alloc (M #[S b0,Y V i1,Y V i2,Y V i3,Y V i4,S b5,S b6] 50)).heap[w3.heap.size]? = Q (M #[S b0,Y V i1,Y V i2,Y V i3,Y V i4,S b5,S b6] 50):=(du w3 _).1;generalize w3.alloc (M #[S b0,Y V i1,Y V i2,Y V i3,Y V i4,S b5,S b6] 50)=w4 at *;obtain⟨⟨hr9,hl9⟩,hbw9⟩:=HOB.out w4 (ae hb3 hb34);obtain⟨r0,r1,r2,r3,r4,r5,r6⟩:=Ck hr9;have HR9:=(show I _ from hr9)
 have rf0:=As hr9 0;have rf1:=As hr9 1;have rf2:=As hr9 2;have rf3:=As hr9 3;have rf4:=As hr9 4;have rf5:=As hr9 5;have rf6:=As hr9 6;obtain⟨x0,x1,x2,x3,x4,x5,x6⟩:=Ck ho4;have HD:=(show I _ from hD);clear hr9 ho4 hb34 hb3 hr k0 k1 k2 k3 hal2 hD;generalize w3.heap.size=B at *
 go_wp2_with fail
 have hfin:=Ck (FG (w:=w4) HR9.out (S b0) (Y V i1) (Y V i2) (Y V i3) (Y V i4) (S b5) (S b6));have hbl:=Me hbw9 (S b0) (Y V i1) (Y V i2) (Y V i3) (Y V i4) (S b5) (S b6);generalize(((((((w4.setCell ⟨w.heap.size+1,0,U⟩ (S b0)).setCell ⟨w.heap.size+1,1,U⟩ (Y V i1)).setCell ⟨w.heap.size+1,2,U⟩ (Y V i2)).setCell ⟨w.heap.size+1,3,U⟩ (Y V i3)).setCell ⟨w.heap.size+1,4,U⟩ (Y V i4)).setCell ⟨w.heap.size+1,5,U⟩ (S b5)).setCell ⟨w.heap.size+1,6,U⟩ (S b6))=WF at hfin hbl⊢;obtain⟨z0,z1,z2,z3,z4,z5,z6⟩:=hfin;refine bodyPost_ret (v:=ZZ #[r #[S b0,Y V i1,Y V i2,Y V i3,Y V i4,S b5,S b6],S true]) ?_ rfl ⟨K,HD.out,by rw[HOut.out],hbl⟩;simp[results,Tryz.results10,go_sem,z0,z1,z2,z3,z4,z5,z6]
theorem QR{m:Mo}{ps:List am}{l:am}{K:Nat}(hk:AX m ps l=0)(h:At m ps l K):GrLe (AY m ps l K):=by
 have e1:(AY m ps l K).spots.length=K:=h.1;have e2:(AY m ps l K).next.length=K:=C1 K;have e3:(AY m ps l K).sets.length=K:=DB K;have hm0:=(Ca (BU hk).1).1;have h6:=(B6 (BU hk).2).2.2.2.2;refine⟨by rw[e1];have:=h.2.1;omega,by rw[e2];have:=h.2.1;omega,by rw[e3];have:=h.2.1;omega,fun i hi=>?_⟩;rw[e2]at hi;show((xpN m ps l K).getD i []).length<=_;rw[(IG h hi).1];have hin:(xpP m ps l K).getD i (0,0)∈xpP m ps l K:=by
  have hl:i<(xpP m ps l K).length:=by rw[h.1];exact hi
  rw[qC,qH hl];exact qR _
 have:=GM (ps:=ps) (l:=l) (c:=((xpP m ps l K).getD i (0,0)).2) hm0 (h.2.2.2 _ hin).1 h6;show(Aa _ _ _ _ _).length<=_;omega
theorem QY(m:Mo)(ps:List am)(l:am)(w:C)(hB:0<w.heap.size)(hT:AF w)(hk:AX m ps l=0)(hnf:¬DU m ps l)(va vr pv fv:E)(hV:TaskV w va vr pv fv m ps l) :
  FW w m ps l va vr pv fv:=by
 refine(GZ va vr pv fv m ps l w hB hT hV).mono fun e w2 hx=>?_;rcases hx with⟨_,K,hD,sv,nv,tv,e1,h2,HG⟩|⟨_,hf,_,_⟩|⟨h1,_,_⟩
 .have hGr:=HG.out.graph;obtain⟨so,sc,rfl⟩:=HG.out.1.shape;have hsp:=HG.out.1;obtain⟨us,n1,n2,n3⟩:=HG.out.2.1;have n1':=n1;obtain⟨no,nc,rfl⟩:=Au n1;obtain⟨xo,xc,rfl⟩:=Au HG.out.2.2;rw[hD.1,C1,DB]at e1 hGr;have hok:=LG hk hD;have hc0:CM (AY m ps l K)=0:=Ix hok.head hok.row;have e4:(AY m ps l K).spots.length=K:=hD.1;have e2:(AY m ps l K).next.length=K:=C1 K;have e3:(AY m ps l K).sets.length=K:=DB K;refine⟨K,so,sc,no,nc,xo,xc,hD,e1,h2,⟨?_,?_,fun i hi=>?_⟩,fun w3 h3=>?_⟩
  .have h9:=hsp.v;rw[hD.1]at h9;exact h9
  .obtain ⟨ao,cap,e9,⟨h8,_⟩,_⟩:=hsp.ops;injection e9 with _ _ a;have:=hD.1;omega
  .have hlK:(xpN m ps l K).length=K:=C1 K;obtain⟨ao,c,q1,q2,_,_⟩:=n3 i (by omega);rcases n1.2 with⟨e9,h0⟩|⟨g,cap',cur,e9,hg⟩
   .rw[h0]at n2;simp at n2;omega
   .injection e9 with e1 _ _;subst e1;refine⟨g,ao,c,rfl,?_,q2⟩;have h5:=n1.cellAt i (by omega);rw[qC,qH (by omega),vW]at q1;rw[qH (by omega),q1]at h5;exact h5
  .have h:=VF so no xo sc nc xc (AY m ps l K) w3 (QR hk hD) (by rw[e4,e2,e3];exact hGr.below h3) hc0;rw[e4,e2,e3]at h;exact h.mono fun e w4 ⟨g1,g2⟩=>⟨_,g1,g2⟩
 .exact absurd hf hnf
 .exact absurd hk h1
theorem VW{m:Mo}{ps:List am}{l:am}{P:Nat}(hk:AX m ps l=0)(hP:AL m.vars m.vars.length=(P:Nat))(hP2:P<=16)(ha:(AA l).length<=2):(∀K,At m ps l K->SmallK m ps l K)/\¬DU m ps l:=by
 have h4:2^(AA l).length<=2^2:=Nat.pow_le_pow_right (by decide) ha;have h5:P*2^(AA l).length<=16*4:=Nat.mul_le_mul hP2 h4;refine⟨fun K hD=>⟨hk,hD,?_,by rw[hP];omega⟩,XJ hk hP (by omega)⟩;have:=OS hP hD.2.2.2;rw[hD.1]at this;omega
def Db(g:Int×Int):Int×Int:=(1+pk g.1 4,if 1+pk g.1 4=1 then pk g.2 12 else if 1+pk g.1 4=3 then pk g.2 120 else 0)
def Ar(rs:am)(most:Nat):am:=(rs.take most).map Db
theorem Lb(g:Int×Int):1<=(Db g).1/\(Db g).1<=4/\0<=(Db g).2/\(Db g).2<=119:=by
 have h1:=BJ (n:=g.1) (m:=4) (by decide);have h2:=BJ (n:=g.2) (m:=12) (by decide);have h3:=BJ (n:=g.2) (m:=120) (by decide);unfold Db;refine⟨by omega,by omega,?_,?_⟩;all_goals
  simp only;split
  .omega
  .split<;>omega
theorem MQ(rs:am){most:Nat}(h:most<=4000):Cp (Ar rs most)/\(Ar rs most).length<=most:=by
 have hl:(Ar rs most).length<=most:=by unfold Ar;rw[qM,qP];omega
 refine⟨⟨by omega,fun k hk=>?_⟩,hl⟩;have hk':=hk;unfold Ar at hk⊢;rw[qC,qH hk,vW,List.getElem_map];have:=Lb ((rs.take most)[k]'(by rwa[qM]at hk));omega
theorem MP{rs:am}{k:Nat}(h:k<=rs.length):(Ar rs k).length=k:=by unfold Ar;rw[qM,qP];omega
theorem Sx{rs:am}{k:Nat}(h:k<rs.length):Ar rs (k+1)=Ar rs k++[Db (rs.getD k (0,0))]:=by
 unfold Ar;rw[qT h,List.map_append,qC,qH h];rfl
theorem MO{rs:am}{k most:Nat}(h1:k<=rs.length)(h2:k<=most)(h:¬(k<rs.length/\k<most)):Ar rs most=Ar rs k:=by
 unfold Ar;by_cases e:k=most
 .rw[e]
 .rw[qN (by omega),qN (by omega)]
theorem IM(n many:Int)(w:C)(hn:I64 n)(hm:0<many)(hm2:many<=10000) :
  ZY qA 11 #[Y V n,Y V many] w fun e w'=>e=F (Y V (pk n many))/\w'=w:=by
 have h:=B9 n many w hn hm hm2;go_enter Tryz.func11,Tryz.ntmps11;go_wp2_with (go_at_call 21;refine h.mono ?_;rintro e w1 ⟨rfl,rfl⟩)
 go_ret;exact⟨rfl,rfl⟩
theorem Lk:(qA.info? 40).map (fun i=>(i.zero,i.size,i.bytes))=Q (Q (r #[Y V 0,Y V 0]),2,16):=by kernel_rfl
theorem G1{w w2 w9:C}{rs:am}{k g9 cap9 vc:Nat}{vo:Option Addr}{a b:Int}(hbr:O w.heap.size w w2)(hW:w2.ownsRow w.heap.size 40 2 (Z vo k vc) k (flat (Ar rs k)))(hml:Ar rs (k+1)=Ar rs k++[(a,b)])(ho:w9.ownsRow w.heap.size 40 2 (Z (Q ⟨g9,0,U⟩) (k+1) cap9) (k+1) (flat (Ar rs k)++[Y V a,Y V b]))(hg:(w2.alloc (M #[Y V a,Y V b] 40)).grownBy w9 (Value.slice vo k vc).ownBlock) :
  O w.heap.size w w9/\w9.ownsRow w.heap.size 40 2 (Z (Q ⟨g9,0,U⟩) (k+1) cap9) (k+1) (flat (Ar rs (k+1))):=
 ⟨Below.grown (hbr.alloc hbr.size _) hg (hbr.alloc hbr.size _).size (fun z hz=>(hW.lt z hz).1),by rw[hml,Fi];exact ho⟩
theorem Sw(rawv:E)(rs:am)(most:Nat)(w:C)(hm:most<=4000)(hR:Raws w w.heap.size rawv rs) :
  ZY qA 8 #[rawv,Y V (most:Nat)] w fun e w'=>∃ao cap,e=F (Z ao (Ar rs most).length cap)/\O w.heap.size w w'/\I (w'.ownsRow w.heap.size 40 2 (Z ao (Ar rs most).length cap) (Ar rs most).length (flat (Ar rs most))):=by
 obtain⟨ao,cap,rfl,hsh⟩:=hR.shape;obtain⟨i0,hi,hz0,hz1,hz2⟩:=info_parts Lk;have HRd:I (∀wr,O w.heap.size w wr->∀k,k<rs.length->∃b off,ao=Q ⟨b,off,U⟩/\wr.cell? ⟨b,off+k*2,U⟩=Q (Y V (rs.getD k (0,0)).1)/\wr.cell? ⟨b,off+k*2+1,U⟩=Q (Y V (rs.getD k (0,0)).2)):=fun wr hb k hk=>by
  obtain⟨b,off,e,hlt,hat⟩:=hsh (by rintro rfl;simp at hk);have h9:=hat.below hb hlt k hk;exact⟨b,off,e,h9.1,h9.2⟩
 have HI:I (∀k,k<rs.length->I64 (rs.getD k (0,0)).1/\I64 (rs.getD k (0,0)).2):=hR.range;obtain⟨n,hn⟩:∃n,n=rs.length:=⟨_,rfl⟩;have HN:I (n=rs.length):=hn;have hnb:n<=140737488355328:=by have:=hR.len;omega
 rw[<-hn];have HS0:I (w.ownsRow w.heap.size 40 2 (Z U 0 0) 0 (flat (Ar rs 0))):=World.ownsRow_nil _ _ _ _;clear hR hsh hn;go_enter Tryz.func8,Tryz.ntmps8;go_wp2_with fail
 go_loopw [5,6] (fun o i wr=>∃(k:Nat) (vo:Option Addr) (vc:Nat),k<=n/\k<=most/\i=Y V k/\o=Z vo k vc/\O w.heap.size w wr/\I (wr.ownsRow w.heap.size 40 2 (Z vo k vc) k (flat (Ar rs k)))) (fun _ i _=>n-(intOf i).toNat)
 case atStart=>exact⟨0,U,0,qJ _,qJ _,rfl,rfl,qD _ _,HS0.out⟩
 case round=>
  obtain⟨k,vo,vc,hk1,hk2,rfl,rfl,hbr,HW⟩:=hrel;by_cases h1:k<n
  .have hi1:(k:Int)<(n:Int):=by omega
   by_cases h2:k<most
   .have hi2:(k:Int)<(most:Int):=by omega
    obtain⟨b,off,rfl,c0,c1⟩:=HRd.out wr hbr k (by rw[<-HN.out];exact h1);obtain⟨j1,j2⟩:=HI.out k (by rw[<-HN.out];exact h1);have hnx:=Sx (rs:=rs) (k:=k) (by rw[<-HN.out];exact h1);have HNx:=(show I _ from hnx);have HML:I (Ar rs (k+1)=Ar rs k++[Db (rs.getD k (0,0))]):=hnx;have hgm:Db (rs.getD k (0,0))=(1+pk (rs.getD k (0,0)).1 4,if 1+pk (rs.getD k (0,0)).1 4=1 then pk (rs.getD k (0,0)).2 12 else if 1+pk (rs.getD k (0,0)).1 4=3 then pk (rs.getD k (0,0)).2 120 else 0):=rfl;have hp4:=IM (rs.getD k (0,0)).1 4 wr j1 (by decide) (by decide);have hp12:=IM (rs.getD k (0,0)).2 12 wr j2 (by decide) (by decide);have hp120:=IM (rs.getD k (0,0)).2 120 wr j2 (by decide) (by decide);have hr4:=BJ (n:=(rs.getD k (0,0)).1) (m:=4) (by decide);clear hnx HNx j1 j2;generalize(rs.getD k (0,0)).1=x at *;generalize(rs.getD k (0,0)).2=y at *;generalize hp:pk x 4=p at *;generalize pk y 12=y12 at *;generalize pk y 120=y120 at *;generalize Db (rs.getD k (0,0))=gm at *;have hcase:p=0\/p=2\/p=1\/p=3:=by omega
    clear hp hr4;rcases hcase with rfl|rfl|rfl|rfl;all_goals simp at hgm
    all_goals subst hgm
    all_goals go_upto_region 11 with(first
     |(go_at_call 11;refine hp4.mono ?_;rintro e w2 ⟨rfl,rfl⟩)
     |(go_at_call 11;refine hp12.mono ?_;rintro e w2 ⟨rfl,rfl⟩)
     |(go_at_call 11;refine hp120.mono ?_;rintro e w2 ⟨rfl,rfl⟩))
    .have hown:=Ap HW.out ((qD _ _).alloc (qB _) (M #[Y V 1,Y V y12] 40)) (qB _);have hbase:=(hbr.alloc hbr.size (M #[Y V 1,Y V y12] 40)).size;go_wp2_with (at_builtin;refine wpList_append_lies _ rfl (.tmp 43) (.tmp 47) 37 (by rfl) w.heap.size 40 i0 _ 2 16 jk hi hz0 hz1 hz2 rfl (by decide) (Z vo k vc) k (flat (Ar rs k)) rfl hown ⟨w2.heap.size,0,U⟩ 1 1 [Y V 1,Y V y12] rfl rfl (DS _ _ _ _) (by intro u hu;simp at hu;rcases hu with rfl|rfl<;>rfl) (by decide) (by unfold maxLen;omega) (by omega) hbase (w2.heap.size+1) (by simp) ?_;intro g9 cap9 w9 ho9 hg9 hat9 hl9;obtain⟨hb9,hw9⟩:=G1 hbr HW.out HML.out ho9 hg9;have HW9:=(show I _ from hw9))
     go_roundw
     case rel=>exact⟨k+1,Q ⟨g9,0,U⟩,cap9,by omega,by omega,by go_num,rfl,hb9,HW9.out⟩
     case measure=>simp[intOf];omega
    .have hown:=Ap HW.out ((qD _ _).alloc (qB _) (M #[Y V 3,Y V y120] 40)) (qB _);have hbase:=(hbr.alloc hbr.size (M #[Y V 3,Y V y120] 40)).size;go_wp2_with (at_builtin;refine wpList_append_lies _ rfl (.tmp 43) (.tmp 47) 37 (by rfl) w.heap.size 40 i0 _ 2 16 jk hi hz0 hz1 hz2 rfl (by decide) (Z vo k vc) k (flat (Ar rs k)) rfl hown ⟨w2.heap.size,0,U⟩ 1 1 [Y V 3,Y V y120] rfl rfl (DS _ _ _ _) (by intro u hu;simp at hu;rcases hu with rfl|rfl<;>rfl) (by decide) (by unfold maxLen;omega) (by omega) hbase (w2.heap.size+1) (by simp) ?_;intro g9 cap9 w9 ho9 hg9 hat9 hl9;obtain⟨hb9,hw9⟩:=G1 hbr HW.out HML.out ho9 hg9;have HW9:=(show I _ from hw9))
     go_roundw
     case rel=>exact⟨k+1,Q ⟨g9,0,U⟩,cap9,by omega,by omega,by go_num,rfl,hb9,HW9.out⟩
     case measure=>simp[intOf];omega
    .have hown:=Ap HW.out ((qD _ _).alloc (qB _) (M #[Y V 2,Y V 0] 40)) (qB _);have hbase:=(hbr.alloc hbr.size (M #[Y V 2,Y V 0] 40)).size;go_wp2_with (at_builtin;refine wpList_append_lies _ rfl (.tmp 43) (.tmp 47) 37 (by rfl) w.heap.size 40 i0 _ 2 16 jk hi hz0 hz1 hz2 rfl (by decide) (Z vo k vc) k (flat (Ar rs k)) rfl hown ⟨w2.heap.size,0,U⟩ 1 1 [Y V 2,Y V 0] rfl rfl (DS _ _ _ _) (by intro u hu;simp at hu;rcases hu with rfl|rfl<;>rfl) (by decide) (by unfold maxLen;omega) (by omega) hbase (w2.heap.size+1) (by simp) ?_;intro g9 cap9 w9 ho9 hg9 hat9 hl9;obtain⟨hb9,hw9⟩:=G1 hbr HW.out HML.out ho9 hg9;have HW9:=(show I _ from hw9))
     go_roundw
     case rel=>exact⟨k+1,Q ⟨g9,0,U⟩,cap9,by omega,by omega,by go_num,rfl,hb9,HW9.out⟩
     case measure=>simp[intOf];omega
    .have hown:=Ap HW.out ((qD _ _).alloc (qB _) (M #[Y V 4,Y V 0] 40)) (qB _);have hbase:=(hbr.alloc hbr.size (M #[Y V 4,Y V 0] 40)).size;go_wp2_with (at_builtin;refine wpList_append_lies _ rfl (.tmp 43) (.tmp 47) 37 (by rfl) w.heap.size 40 i0 _ 2 16 jk hi hz0 hz1 hz2 rfl (by decide) (Z vo k vc) k (flat (Ar rs k)) rfl hown ⟨w2.heap.size,0,U⟩ 1 1 [Y V 4,Y V 0] rfl rfl (DS _ _ _ _) (by intro u hu;simp at hu;rcases hu with rfl|rfl<;>rfl) (by decide) (by unfold maxLen;omega) (by omega) hbase (w2.heap.size+1) (by simp) ?_;intro g9 cap9 w9 ho9 hg9 hat9 hl9;obtain⟨hb9,hw9⟩:=G1 hbr HW.out HML.out ho9 hg9;have HW9:=(show I _ from hw9))
     go_roundw
     case rel=>exact⟨k+1,Q ⟨g9,0,U⟩,cap9,by omega,by omega,by go_num,rfl,hb9,HW9.out⟩
     case measure=>simp[intOf];omega
   .have hi2:¬(k:Int)<(most:Int):=by omega
    have he:=MO (rs:=rs) (k:=k) (most:=most) (by rw[<-HN.out];exact hk1) hk2 (fun h=>h2 h.2);have hl:=MP (rs:=rs) (k:=k) (by rw[<-HN.out];exact hk1);have HE:I (Ar rs most=Ar rs k):=he;have HLn:I ((Ar rs k).length=k):=hl;clear he hl;go_wp2_with fail
    go_ret;exact⟨vo,vc,by rw[HE.out,HLn.out];rfl,hbr,by rw[HE.out,HLn.out];exact HW.out⟩
  .have hi1:¬(k:Int)<(n:Int):=by omega
   have he:=MO (rs:=rs) (k:=k) (most:=most) (by rw[<-HN.out];exact hk1) hk2 (fun h=>h1 (by rw[HN.out];exact h.1));have hl:=MP (rs:=rs) (k:=k) (by rw[<-HN.out];exact hk1);have HE:I (Ar rs most=Ar rs k):=he;have HLn:I ((Ar rs k).length=k):=hl;clear he hl;go_wp2_with fail
   go_ret;exact⟨vo,vc,by rw[HE.out,HLn.out];rfl,hbr,by rw[HE.out,HLn.out];exact HW.out⟩
section
variable{m:Mo}{ps:List am}{l:am}{K:Nat}
theorem Ko(hs:SmallK m ps l K)(vs:am):(Aw m ps l K vs).s<=(Aw m ps l K vs).n/\(Aw m ps l K vs).n<=fN m ps l (Aw m ps l K vs).n/\fN m ps l (Aw m ps l K vs).n<=K/\(AC m ps l).length<=fN m ps l (Aw m ps l K vs).n:=by
 have h:=SrOk.all hs vs;have hn:(Aw m ps l K vs).n<=K:=qI h.b h.c;refine⟨h.a,?_,(DZ hs.done hn).2,?_⟩
 .by_cases e:(Aw m ps l K vs).n=K
  .rw[e,Fg hs.done];exact qB _
  .exact qU (Ga hs.done (by omega))
 .rw[<-Gb];exact E7 (qJ _)
theorem P9(hs:SmallK m ps l K)(vs:am):dnS m ps l (Aw m ps l K vs)=((Aw m ps l K vs).up&&decide ((Aw m ps l K vs).n=fN m ps l (Aw m ps l K vs).n)):=by
 obtain⟨_,h2,_,_⟩:=Ko hs vs;unfold dnS;congr 1
 exact decide_eq_decide.2 ⟨fun h=>Nat.le_antisymm h2 h,fun h=>by omega⟩
end
section
variable{m:Mo}{ps:List am}{l:am}{K:Nat}
theorem S2{st:Sr}(h:st.up=true)(x:Int):mvS m ps l K st (1,x)=wkS K st x.toNat:=by
 unfold mvS;rw[ak (show¬(1:Int)=4 by decide),ak (by simp[h]),aj rfl]
theorem S1(st:Sr)(x:Int):mvS m ps l K st (4,x)={ st with up:=true}:=by
 unfold mvS;rw[aj rfl]
theorem WX(hs:SmallK m ps l K)(vs:am):(Aw m ps l K (vs++[(4,0),(1,1000)])).up=true/\(Aw m ps l K (vs++[(4,0),(1,1000)])).n=K:=by
 rw[NP];show(mvS m ps l K (mvS m ps l K (Aw m ps l K vs) (4,0)) (1,1000)).up=true/\(mvS m ps l K (mvS m ps l K (Aw m ps l K vs) (4,0)) (1,1000)).n=K;rw[S1,S2 rfl];refine⟨rfl,?_⟩;show min ((Aw m ps l K vs).n+1000) K=K;have:=hs.few;omega
end
noncomputable def kOf(m:Mo)(l:am):Nat:=open Classical in if h:∃K,At m Aj l K then h.choose else 0
theorem Gs{m:Mo}{l:am}{K:Nat}(h:At m Aj l K):K=kOf m l:=by
 have hx:∃K,At m Aj l K:=⟨K,h⟩;have e:kOf m l=hx.choose:=dif_pos hx;rw[e];exact QP h hx.choose_spec
noncomputable def stO(m:Mo)(l:am)(vs:am):Sr:=Aw m Aj l (kOf m l) vs
def SgK(m:Mo)(l:am):Prop:=SmallK m Aj l (kOf m l)
structure OutIs(m:Mo)(l vs:am)(b0:Bool)(f n s ag:Nat)(d h:Bool):Prop where
 small:SgK m l
 up:b0=(stO m l vs).up
 fo:f=fN m Aj l (stO m l vs).n
 th:n=(stO m l vs).n
 sa:s=(stO m l vs).s
 ag:ag=(stO m l vs).ag
 dn:d=dnS m Aj l (stO m l vs)
 ho:h=(dnS m Aj l (stO m l vs)&&decide (Ao (AY m Aj l (kOf m l))=11))
structure SgC(w:C)(va vr pv fv:E)(m:Mo)(l:am):Prop where
 so:∀w',O w.heap.size w w'->∀(ao:Option Addr) (nn cap:Nat) (vs:am),vs.length=nn->Cp vs->OpsV w' (Z ao nn cap) vs->ZY qA 10 #[r #[va,vr,pv,fv],Z ao nn cap] w' fun e w2=>∃(b0:Bool) (f n s ag:Nat) (d h:Bool),e=F (ZZ #[r #[S b0,Y V (f:Nat),Y V (n:Nat),Y V (s:Nat),Y V (ag:Nat),S d,S h],S true])/\O w'.heap.size w' w2/\I (OutIs m l vs b0 f n s ag d h)
 ex:∀w',O w.heap.size w w'->ZY qA 9 #[r #[va,vr,pv,fv]] w' fun e w2=>∃(so no xo:Option Addr) (K bn an sc nc xc:Nat),e=F (ZZ #[r #[Z so K sc,Y V (bn:Nat),Z no K nc,Z xo K xc,Y V (an:Nat)],Y V 0])/\O w'.heap.size w' w2/\K<=1000/\I (K=kOf m l/\bn=(AC m Aj l).length/\SgK m l)
theorem SgC.below{w w':C}{va vr pv fv:E}{m:Mo}{l:am}(h:SgC w va vr pv fv m l)(hb:O w.heap.size w w'):SgC w' va vr pv fv m l:=
 ⟨fun w2 h2=>h.so w2 (ae hb h2),fun w2 h2=>h.ex w2 (ae hb h2)⟩
theorem Nc{m:Mo}{a b:Vr}{l:am}{mm:Nat}(hG:GV a b)(hk:KTaskOk m l mm)(hvars:m.vars=[a,b])(hmm:mm<=2):(∀K,At m Aj l K->SmallK m Aj l K)/\¬DU m Aj l:=by
 have hspan:1<=AN a*AN b/\AN a*AN b<=16:=by
  have h1:1<=AN a/\AN a<=4:=by have:=hG.a2;have:=hG.a3;unfold AN;omega
  have h2:1<=AN b/\AN b<=4:=by have:=hG.b2;have:=hG.b3;unfold AN;omega
  obtain⟨x1,x2⟩:=h1;obtain⟨y1,y2⟩:=h2;generalize AN a=x at *;generalize AN b=y at *
  rcases(show x=1\/x=2\/x=3\/x=4 by omega)with rfl|rfl|rfl|rfl<;>omega
 have hah:(AA l).length=mm:=by obtain⟨T,hT⟩:=hk.fo;exact hT.ahead
 refine VW (P:=(AN a*AN b).toNat) hk.code ?_ (by omega) (by omega);rw[hvars];show AL [a,b] 2=_;rw[T7];omega
theorem VL{m:Mo}{a b:Vr}{l:am}{mm:Nat}{w:C}{va vr pv fv:E}(hB:0<w.heap.size)(hT:AF w)(hG:GV a b)(hk:KTaskOk m l mm)(hvars:m.vars=[a,b])(hmm:mm<=2)(hV:TaskV w va vr pv fv m Aj l):SgC w va vr pv fv m l:=by
 obtain⟨hS,hF⟩:=Nc hG hk hvars hmm;have hE:∀w',O w.heap.size w w'->FW w' m Aj l va vr pv fv:=fun w' h=>QY m Aj l w' (qE hB h.size) (hT.below h hB) hk.code hF va vr pv fv (hV.below h);refine⟨fun w' h ao nn cap vs e hm hO=>?_,fun w' h=>?_⟩
 .subst e;refine(Va m Aj l w' va vr pv fv (fun w2 h2=>hE w2 (ae h h2)) hS vs ao cap hm hO).mono fun e w2 ⟨K,hD,e1,hb⟩=>?_;obtain rfl:=Gs hD;exact⟨_,_,_,_,_,_,_,e1,hb,⟨hS _ hD,rfl,rfl,rfl,rfl,rfl,rfl,rfl⟩⟩
 .refine (hE w' h).mono fun e w2 ⟨K,so,sc,no,nc,xo,xc,hD,e1,hb,_⟩=>?_;have e2:=Gs hD;have hS2:=hS K hD;exact⟨so,no,xo,K,_,_,sc,nc,xc,e1,hb,hS2.few,e2,rfl,by unfold SgK;rw[<-e2];exact hS2⟩
theorem TZ{w:C}{base:Nat}{ao:Option Addr}{n cap:Nat}{l:am}(hn:l.length=n)(h:w.ownsRow base 40 2 (Z ao n cap) n (flat l)):OpsV w (Z ao n cap) l:=by
 subst hn;rcases h.2 with⟨e,h0⟩|⟨g,cap,cur,e,hb,hg,hnc,hcm,hcs,htake⟩
 .have:l=[]:=by simpa using h0
  subst this;cases e
  exact⟨U,0,rfl,⟨by simp,fun _=>⟨rfl,rfl⟩⟩,fun h=>absurd rfl h⟩
 .cases e
  refine⟨_,cap,rfl,⟨hnc,fun h=>by simp at h⟩,fun _=>⟨g,0,rfl,?_,fun i hi=>?_⟩⟩
  .exact (qG.1 hg).1
  .obtain ⟨f0,f1⟩:=Fj l i hi;rw[h.cellAt _ (by omega),h.cellAt _ (by omega)];simpa using⟨f0,f1⟩
theorem Cp.app{l x:am}(h:Cp l)(hx:∀v∈x,1<=v.1/\v.1<=4/\0<=v.2/\v.2<=2147483647)(hl:l.length+x.length<=5000):Cp (l++x):=by
 refine⟨by rw[qF];exact hl,fun i hi=>?_⟩;rw[qF]at hi;by_cases h1:i<l.length
 .rw[qC,qX h1,<-qC];exact h.2 i h1
 .rw[qC,q7 (by omega),qH (by omega),vW];exact hx _ (qR _)
section
variable{m:Mo}{l vs us:am}{b0 b0':Bool}{f n s ag f' n' s' ag':Nat}{d h d' h':Bool}
theorem OutIs.facts(H:OutIs m l vs b0 f n s ag d h):s<=n/\n<=f/\f<=kOf m l/\(AC m Aj l).length<=f/\d=(b0&&decide (n=f))/\kOf m l<=1000:=by
 obtain⟨a1,a2,a3,a4⟩:=Ko H.small vs;have a5:=P9 H.small vs;obtain⟨hs,rfl,rfl,rfl,rfl,rfl,rfl,rfl⟩:=H;exact⟨a1,a2,a3,a4,a5,hs.few⟩
end
theorem EZ{w W:C}(h:O w.heap.size w W)(o:Obj):O w.heap.size w (W.alloc o):=h.alloc h.size o
theorem DG{w W W2:C}(h:O w.heap.size w W)(h2:O W.heap.size W W2):O w.heap.size w W2:=ae h h2
def ocB(b0:Bool)(f n s ag:Nat)(d h:Bool):Obj:=M #[S b0,Y V (f:Nat),Y V (n:Nat),Y V (s:Nat),Y V (ag:Nat),S d,S h] 50 (0,0)
structure OcAt(w wz:C)(X:Nat)(m:Mo)(l vs:am)(b0:Bool)(f n s ag:Nat)(d h:Bool):Prop where
 bel:O w.heap.size w wz
 box:wz.heap[X]? = Q (ocB b0 f n s ag d h)
 out:OutIs m l vs b0 f n s ag d h
section
variable{w wz wy:C}{X:Nat}{m:Mo}{l vs:am}{b0:Bool}{f n s ag:Nat}{d h:Bool}
theorem OcAt.cells(H:OcAt w wz X m l vs b0 f n s ag d h):wz.cell? ⟨X,0,U⟩=Q (S b0)/\wz.cell? ⟨X,1,U⟩=Q (Y V (f:Nat))/\wz.cell? ⟨X,2,U⟩=Q (Y V (n:Nat))/\wz.cell? ⟨X,3,U⟩=Q (Y V (s:Nat))/\wz.cell? ⟨X,4,U⟩=Q (Y V (ag:Nat))/\wz.cell? ⟨X,5,U⟩=Q (S d)/\wz.cell? ⟨X,6,U⟩=Q (S h):=Ck H.box
theorem PD{x:Nat}{a0 a1 a2 a3 a4 a5 a6:E}(hb:O w.heap.size w wz)(hx:w.heap.size<=x):O w.heap.size w (((((((wz.setCell ⟨x,0,U⟩ a0).setCell ⟨x,1,U⟩ a1).setCell ⟨x,2,U⟩ a2).setCell ⟨x,3,U⟩ a3).setCell ⟨x,4,U⟩ a4).setCell ⟨x,5,U⟩ a5).setCell ⟨x,6,U⟩ a6):=
 ((((((hb.setCell (p:=⟨x,0,U⟩) hx _).setCell (p:=⟨x,1,U⟩) hx _).setCell (p:=⟨x,2,U⟩) hx _).setCell (p:=⟨x,3,U⟩) hx _).setCell (p:=⟨x,4,U⟩) hx _).setCell (p:=⟨x,5,U⟩) hx _).setCell (p:=⟨x,6,U⟩) hx _
end
theorem VK(gv:E)(gs:am)(most:Nat)(mi:Int)(w:C)(hmi:mi=(most:Nat))(hm:most<=30)(hR:Raws w w.heap.size gv gs):∃vs:am,Cp vs/\vs.length<=most/\(∀v∈vs,1<=v.1/\v.1<=4/\0<=v.2/\v.2<=119)/\∀w',O w.heap.size w w'->ZY qA 8 #[gv,Y V mi] w' fun e w2=>∃ao cap,e=F (Z ao vs.length cap)/\O w'.heap.size w' w2/\I (w2.ownsRow w'.heap.size 40 2 (Z ao vs.length cap) vs.length (flat vs)):=by
 subst hmi;refine⟨Ar gs most,(MQ gs (by omega)).1,(MQ gs (by omega)).2,fun v hv=>?_,fun w' h=>?_⟩
 .unfold Ar at hv;obtain⟨g,_,rfl⟩:=List.mem_map.1 hv;exact Lb g
 .exact Sw gv gs most w' (by omega) (hR.up h)
theorem Gy(w:C)(o:Obj):(w.alloc o).heap[w.heap.size]? = Q o:=(du w o).1
theorem Ta{w:C}{base g n k cap:Nat}{vs us:am}(h:w.ownsRow base 40 2 (Z (Q ⟨g,0,U⟩) (n+k) cap) (n+k) (flat vs++flat us))(hv:vs.length=n)(hu:us.length=k):OpsV w (Z (Q ⟨g,0,U⟩) (n+k) cap) (vs++us):=by
 rw[<-Fi]at h;exact TZ (by rw[qF,hv,hu]) h
noncomputable def ocV(m:Mo)(l vs:am):Value:=r #[S (stO m l vs).up,Y V (fN m Aj l (stO m l vs).n:Nat),Y V ((stO m l vs).n:Nat),Y V ((stO m l vs).s:Nat),Y V ((stO m l vs).ag:Nat),S (dnS m Aj l (stO m l vs)),S (dnS m Aj l (stO m l vs)&&decide (Ao (AY m Aj l (kOf m l))=11))]
theorem Ve{w0 w:C}{va vr pv fv:E}{m:Mo}{l:am}(HC:SgC w0 va vr pv fv m l)(hb:O w0.heap.size w0 w){ao:Option Addr}{nn cap:Nat}{vs:am}(hn:vs.length=nn)(hm:Cp vs)(hO:OpsV w (Z ao nn cap) vs):ZY qA 10 #[r #[va,vr,pv,fv],Z ao nn cap] w fun e w2=>e=F (ZZ #[ocV m l vs,S true])/\O w.heap.size w w2/\I (SgK m l):=by
 refine(HC.so w hb ao nn cap vs hn hm hO).mono fun e w2 ⟨b0,f,n,s,ag,d,h,e1,h2,h3⟩=>⟨?_,h2,h3.out.small⟩;obtain⟨_,h4,h5,h6,h7,h8,h9,h10⟩:=h3.out;rw[e1];unfold ocV;rw[h4,h5,h6,h7,h8,h9,h10]
noncomputable def ocO(m:Mo)(l vs:am):Obj:=ocB (stO m l vs).up (fN m Aj l (stO m l vs).n) (stO m l vs).n (stO m l vs).s (stO m l vs).ag (dnS m Aj l (stO m l vs)) (dnS m Aj l (stO m l vs)&&decide (Ao (AY m Aj l (kOf m l))=11))
inductive SqD where
 |val (x:E)
 |lit (cs:Array E) (k:Nat)
 |app (l:am) (n:Nat)
 |tup (oc:E) (Sm:Prop)
def OW(cs:Array E)(k:Nat)(v:E)(w:C):Prop:=∃g,v=Z (Q ⟨g,0,U⟩) k k/\w.heap[g]? = Q (M cs 40 (0,0))
def OT(l:am)(n:Nat)(v:E)(w:C):Prop:=∃g cap,v=Z (Q ⟨g,0,U⟩) n cap/\OpsV w (Z (Q ⟨g,0,U⟩) n cap) l
def GA(base:Nat)(fo:Obj)(c:Bool)(v:E)(w:C):Prop:=∃g,v=ZX (Q ⟨g,0,U⟩)/\base<=g/\w.heap[g]? = Q (if c=true then fo else M #[S N,Y V 0,Y V 0,Y V 0,Y V 0,S N,S N] 50 (0,0))
theorem orF{p:Prop}(h:N=true\/p):p:=h.resolve_left (fun h=>by cases h)
section
variable{fs:List SqD}{bx base:Nat}{fo:Obj}{b:Bool}{w w':C}
end
theorem Uh{w:C}{base base':Nat}{e:TypeId}{s n:Nat}{v:E}{xs:List E}(h:w.ownsRow base e s v n xs)(hb:base'<=base):w.ownsRow base' e s v n xs:=by
 obtain⟨h1,h2⟩:=h;refine⟨h1,?_⟩;rcases h2 with h2|⟨g,cap,cur,e1,e2,rest⟩
 .exact .inl h2
 .exact .inr ⟨g,cap,cur,e1,qI hb e2,rest⟩
def sgR(tk gv:E)(base gq:Nat)(vs us:am)(cs:Array E)(l0 l1 oc:E)(Sm:Prop)(fo:Obj):Nat->Bool->Bool->E->C->Prop
 |0,_,_,v,_=>v=tk
 |1,_,_,v,_=>v=gv
 |2,b,_,v,w=>b=true\/((∃mo mc,v=Z mo gq mc)/\w.ownsRow base 40 2 v gq (flat vs))
 |3,_,_,v,_=>v=l0
 |4,_,_,v,_=>v=l1
 |5,b,_,v,w=>b=true\/OW cs us.length v w
 |6,_,c,v,w=>c=true\/OT (vs++us) (gq+us.length) v w
 |7,_,_,v,_=>v=ZZ #[oc,S true]/\Sm
 |8,_,_,v,_=>v=ZZ #[oc,S true]
 |9,_,_,v,_=>v=oc
 |10,_,_,v,_=>v=S true
 |11,_,c,v,w=>GA base fo c v w
 |_,_,_,_,_=>True
theorem J0:∀i,i<12->i=0\/i=1\/i=2\/i=3\/i=4\/i=5\/i=6\/i=7\/i=8\/i=9\/i=10\/i=11:=by intro i hi;omega
section
variable{tk gv:E}{base gq:Nat}{vs us:am}{cs:Array E}{l0 l1 oc:E}{Sm:Prop}{fo:Obj}
theorem VI(i:Nat)(b c:Bool)(v:E)(w w':C)(hi:i<12)(h:sgR tk gv base gq vs us cs l0 l1 oc Sm fo i b c v w)(hb:O w.heap.size w w'):sgR tk gv base gq vs us cs l0 l1 oc Sm fo i b c v w':=by
 rcases J0 i hi with rfl|rfl|rfl|rfl|rfl|rfl|rfl|rfl|rfl|rfl|rfl|rfl;case inr.inr.inl=>exact h.imp id fun h=>⟨h.1,Ap h.2 hb (qB _)⟩
 case inr.inr.inr.inr.inr.inl=>exact h.imp id fun⟨g,h1,h2⟩=>⟨g,h1,(hb.block g (qG.1 h2).1).trans h2⟩
 case inr.inr.inr.inr.inr.inr.inl=>exact h.imp id fun⟨g,k,h1,h2⟩=>⟨g,k,h1,h2.below hb⟩
 case inr.inr.inr.inr.inr.inr.inr.inr.inr.inr.inr=>
  obtain⟨g,h1,h0,h2⟩:=h;exact⟨g,h1,h0,(hb.block g (qG.1 h2).1).trans h2⟩
 all_goals exact h
theorem VH{w w2:C}{x:E}{xs:List E}{n:Nat}(ho:w.ownsRow base 40 2 x n xs)(hg:w.grownBy w2 x.ownBlock)(hfo:∃ks,fo=M ks 50 (0,0))(i:Nat)(c:Bool)(v:E)(hi:i<12)(h6:i≠6)(h:sgR tk gv base gq vs us cs l0 l1 oc Sm fo i N c v w):sgR tk gv base gq vs us cs l0 l1 oc Sm fo i true c v w2:=by
 rcases J0 i hi with rfl|rfl|rfl|rfl|rfl|rfl|rfl|rfl|rfl|rfl|rfl|rfl;case inr.inr.inl=>exact .inl rfl
 case inr.inr.inr.inr.inr.inl=>exact .inl rfl
 case inr.inr.inr.inr.inr.inr.inl=>exact absurd rfl h6
 case inr.inr.inr.inr.inr.inr.inr.inr.inr.inr.inr=>
  obtain⟨g,h1,h0,h2⟩:=h;refine⟨g,h1,h0,(hg.block g (qG.1 h2).1 fun e=>?_).trans h2⟩;obtain⟨ks,hks⟩:=hfo;rcases ho.2 with⟨rfl,_⟩|⟨z,cap,cur,rfl,hb,hz,_⟩
  .cases e
  .have:z=g:=by simpa[Value.ownBlock]using e.symm
   subst this;rw[hz]at h2;have e2:=Option.some.inj h2;split at e2
   .rw[hks]at e2;injection e2 with _ e3 _;exact absurd e3 (by decide)
   .injection e2 with _ e3 _;exact absurd e3 (by decide)
 all_goals exact h
theorem VJ{w w2:C}(i:Nat)(v:E)(hi:i<12)(hbox:i=11->GA base fo true v w2)(h:sgR tk gv base gq vs us cs l0 l1 oc Sm fo i true N v w):sgR tk gv base gq vs us cs l0 l1 oc Sm fo i true true v w2:=by
 rcases J0 i hi with rfl|rfl|rfl|rfl|rfl|rfl|rfl|rfl|rfl|rfl|rfl|rfl;case inr.inr.inl=>exact .inl rfl
 case inr.inr.inr.inr.inr.inl=>exact .inl rfl
 case inr.inr.inr.inr.inr.inr.inl=>exact .inl rfl
 case inr.inr.inr.inr.inr.inr.inr.inr.inr.inr.inr=>exact hbox rfl
 all_goals exact h
end
section
variable{m:Mo}{ps:List am}{l:am}{K:Nat}
theorem QQ(hk:AX m ps l=0)(h:At m ps l K):GrLe (AY m ps l K):=by
 have e1:(AY m ps l K).spots.length=K:=h.1;have e2:(AY m ps l K).next.length=K:=C1 K;have e3:(AY m ps l K).sets.length=K:=DB K;have hm0:=(Ca (BU hk).1).1;have h6:=(B6 (BU hk).2).2.2.2.2;refine⟨by rw[e1];have:=h.2.1;omega,by rw[e2];have:=h.2.1;omega,by rw[e3];have:=h.2.1;omega,fun i hi=>?_⟩;rw[e2]at hi;show((xpN m ps l K).getD i []).length<=_;rw[(IG h hi).1];have hin:(xpP m ps l K).getD i (0,0)∈xpP m ps l K:=by
  have hl:i<(xpP m ps l K).length:=by rw[h.1];exact hi
  rw[qC,qH hl];exact qR _
 have:=GM (ps:=ps) (l:=l) (c:=((xpP m ps l K).getD i (0,0)).2) hm0 (h.2.2.2 _ hin).1 h6;show(Aa _ _ _ _ _).length<=_;omega
noncomputable def stL(m:Mo)(ps:List am)(l:am)(K:Nat)(x:List Nat):List Int:=(List.range x.length).map fun(j:Nat)=>((xpP m ps l K).getD (x.getD j 0) (0,0)).1
def IR(w:C)(m:Mo)(ps:List am)(l:am)(e:Ending)(w':C):Prop:=
 (AX m ps l=0/\(∃K,At m ps l K/\Ao (AY m ps l K)=11)/\e=F (ZZ #[r #[S true,Z U 0 0,Z U 0 0],Y V 0])/\O w.heap.size w w')\/
 (AX m ps l=0/\∃K st lp A B,At m ps l K/\LassoOk (AY m ps l K) st lp/\st.length<=20000/\lp.length<=2000000/\e=F (ZZ #[r #[S N,Z (Q ⟨A,0,U⟩) st.length st.length,Z (Q ⟨B,0,U⟩) lp.length lp.length],Y V 0])/\O w.heap.size w w'/\I (IntsV w' (Z (Q ⟨A,0,U⟩) st.length st.length) (stL m ps l K st)/\IntsV w' (Z (Q ⟨B,0,U⟩) lp.length lp.length) (stL m ps l K lp)))\/
 (AX m ps l=0/\DU m ps l/\e=F (ZZ #[r #[S N,Z U 0 0,Z U 0 0],Y V 12])/\O w.heap.size w w')\/
 (AX m ps l≠0/\e=F (ZZ #[r #[S N,Z U 0 0,Z U 0 0],Y V (AX m ps l)])/\O w.heap.size w w')
end
def vcP(g f0 f1:E)(G:Nat)(st lp:List Int)(ns np:Nat):Nat->E->C->Prop
 |0,v,_=>v=g
 |1,v,_=>v=ZX (Q ⟨G,0,U⟩)
 |2,v,_=>v=f0
 |3,v,w=>∃R,v=Z (Q ⟨R,0,U⟩) ns ns/\IntsV w v st
 |4,v,_=>v=g
 |5,v,_=>v=ZX (Q ⟨G,1,U⟩)
 |6,v,_=>v=f1
 |7,v,w=>∃R,v=Z (Q ⟨R,0,U⟩) np np/\IntsV w v lp
 |8,v,w=>∃A B,v=r #[Z (Q ⟨A,0,U⟩) ns ns,Z (Q ⟨B,0,U⟩) np np]/\IntsV w (Z (Q ⟨A,0,U⟩) ns ns) st/\IntsV w (Z (Q ⟨B,0,U⟩) np np) lp
 |9,v,w=>∃A B,v=r #[S N,Z (Q ⟨A,0,U⟩) ns ns,Z (Q ⟨B,0,U⟩) np np]/\IntsV w (Z (Q ⟨A,0,U⟩) ns ns) st/\IntsV w (Z (Q ⟨B,0,U⟩) np np) lp
 |_,_,_=>True
theorem N6:∀i,i<10->i=0\/i=1\/i=2\/i=3\/i=4\/i=5\/i=6\/i=7\/i=8\/i=9:=by intro i hi;omega
theorem Wm(g f0 f1:E)(G:Nat)(st lp:List Int)(ns np:Nat)(i:Nat)(v:E)(w w':C)(hi:i<10)(h:vcP g f0 f1 G st lp ns np i v w)(hb:O w.heap.size w w'):vcP g f0 f1 G st lp ns np i v w':=by
 rcases N6 i hi with rfl|rfl|rfl|rfl|rfl|rfl|rfl|rfl|rfl|rfl
 .exact h
 .exact h
 .exact h
 .obtain ⟨R,h1,h2⟩:=h;exact⟨R,h1,h2.below hb⟩
 .exact h
 .exact h
 .exact h
 .obtain ⟨R,h1,h2⟩:=h;exact⟨R,h1,h2.below hb⟩
 .obtain ⟨A,B,h1,h2,h3⟩:=h;exact⟨A,B,h1,h2.below hb,h3.below hb⟩
 .obtain ⟨A,B,h1,h2,h3⟩:=h;exact⟨A,B,h1,h2.below hb,h3.below hb⟩
theorem IntsV.setBool{w:C}{v:E}{l:List Int}{p:Addr}{b:Bool}(h:IntsV w v l)(hc:w.cell? p=Q (S b))(u:E):IntsV (w.setCell p u) v l:=by
 obtain⟨ao,cap,rfl,h⟩:=h;refine⟨ao,cap,rfl,fun hne=>?_⟩;obtain⟨c,off,rfl,hlt,hat⟩:=h hne;refine⟨c,off,rfl,by simpa using hlt,fun j hj=>?_⟩;have h1:=hat j hj;have hne2:(⟨c,off+j,U⟩:Addr)≠p:=by
  intro e;rw[e,hc]at h1;simp at h1
 rw[bM _ _ _ _ hne2.symm];exact h1
theorem Kp{w:C}{v:E}{x:List Int}{R:Nat}{b:Bool}{a1 a2:Option Addr}{n1 n2 c1 c2:Nat}(h:IntsV w v x)(k0:w.cell? ⟨R,0,U⟩=Q (S b))(k1:w.cell? ⟨R,1,U⟩=Q (Z a1 n1 c1))(k2:w.cell? ⟨R,2,U⟩=Q (Z a2 n2 c2))(u0 u1 u2:E):IntsV (((w.setCell ⟨R,0,U⟩ u0).setCell ⟨R,1,U⟩ u1).setCell ⟨R,2,U⟩ u2) v x:=by
 have h0:=h.setBool k0 u0;have h1:=h0.setBox (p:=⟨R,1,U⟩) ((bM _ _ _ _ (by simp)).trans k1) u1;exact h1.setBox (p:=⟨R,2,U⟩) ((bM _ _ _ _ (by simp)).trans ((bM _ _ _ _ (by simp)).trans k2)) u2
def laB(sv lv:E):Obj:=M #[sv,lv] 58 (0,0)
theorem Rs{w:C}{X:Nat}{sv lv:E}(hb:w.heap[X]? = Q (laB sv lv)):w.cell? ⟨X,0,U⟩=Q sv/\w.cell? ⟨X,1,U⟩=Q lv:=by
 unfold laB at hb;refine⟨?_,?_⟩<;>simp[br,hb]
theorem N7(va vr pv fv:E)(m:Mo)(ps:List am)(l:am)(w:C)(hV:TaskV w va vr pv fv m ps l)(c:Int)(hc:c≠0)(hex:∀w',O w.heap.size w w'->ZY qA 9 #[r #[va,vr,pv,fv]] w' fun e w2=>e=F (ZZ #[r #[Z U 0 0,Y V 0,Z U 0 0,Z U 0 0,Y V 0],Y V c])/\O w'.heap.size w' w2) :
    ZY qA 12 #[r #[va,vr,pv,fv]] w fun e w'=>e=F (ZZ #[r #[S N,Z U 0 0,Z U 0 0],Y V c])/\O w.heap.size w w':=by
  obtain⟨ao,ac,rfl⟩:=hV.mo.1.shape;obtain⟨ro,rc,rfl⟩:=hV.mo.2.shape;obtain⟨po,pc,rfl⟩:=hV.ps.shape;obtain⟨fo,fc,rfl,_⟩:=id hV.fo;clear hV;generalize m.vars.length=vn at *;generalize m.rules.length=rn at *;generalize ps.length=pn at *;generalize l.length=fn at *
  obtain⟨W1,hW1⟩:∃W1,W1=(w.alloc (M #[Z ao vn ac,Z ro rn rc,Z po pn pc,Z fo fn fc] 35)).alloc (M #[S N,Z U 0 0,Z U 0 0] 60):=⟨_,rfl⟩;have hb1:O w.heap.size w W1:=by rw[hW1];exact(ai).alloc (by simp) _
  have hz1:W1.heap.size=w.heap.size+2:=by rw[hW1];simp
  have he:=hex W1 hb1;have HBx:I (∀w',O W1.heap.size W1 w'->(w'.cell? ⟨w.heap.size+1,0,U⟩=Q (S N)/\w'.cell? ⟨w.heap.size+1,1,U⟩=Q (Z U 0 0)/\w'.cell? ⟨w.heap.size+1,2,U⟩=Q (Z U 0 0))/\(w'.frozen? ⟨w.heap.size+1,0,U⟩=N/\w'.frozen? ⟨w.heap.size+1,1,U⟩=N/\w'.frozen? ⟨w.heap.size+1,2,U⟩=N)):=fun w' h=>by
    have hlt:w.heap.size+1<W1.heap.size:=by omega
    refine⟨⟨?_,?_,?_⟩,?_,?_,?_⟩
    . exact(h.cell (p:=⟨w.heap.size+1,0,U⟩) hlt).trans (by rw[hW1];simp[go_sem])
    . exact(h.cell (p:=⟨w.heap.size+1,1,U⟩) hlt).trans (by rw[hW1];simp[go_sem])
    . exact(h.cell (p:=⟨w.heap.size+1,2,U⟩) hlt).trans (by rw[hW1];simp[go_sem])
    . exact(h.frozen (p:=⟨w.heap.size+1,0,U⟩) hlt).trans (by rw[hW1];simp[go_sem])
    . exact(h.frozen (p:=⟨w.heap.size+1,1,U⟩) hlt).trans (by rw[hW1];simp[go_sem])
    . exact(h.frozen (p:=⟨w.heap.size+1,2,U⟩) hlt).trans (by rw[hW1];simp[go_sem])
  have HW1:=(show I (W1=_)from hW1);clear hW1 hex;go_enter jd,jg;go_upto_region 2 with(go_at_call 9;rw[<-HW1.out];refine he.mono ?_;rintro e w2 ⟨rfl,hb2⟩)
  have hbA:O w2.heap.size w2 (w2.alloc (M #[Z U 0 0,Y V 0,Z U 0 0,Z U 0 0,Y V 0] 45)):=ai;have hb3:=ae hb2 hbA;generalize w2.alloc (M #[Z U 0 0,Y V 0,Z U 0 0,Z U 0 0,Y V 0] 45)=W3 at *;obtain⟨⟨r0,r1,r2⟩,f0,f1,f2⟩:=HBx.out W3 hb3
  have hbw3:=ae hb1 hb3;have hcb:¬c=0:=hc;clear HBx HW1 he;go_wp2_with fail
  refine bodyPost_ret (v:=ZZ #[r #[S N,Z U 0 0,Z U 0 0],Y V c]) ?_ rfl ⟨rfl,?_⟩
  . simp only[results,ji]
    simp[go_sem,r0,r1,r2]
  . exact((hbw3.setCell (p:=⟨w.heap.size+1,0,U⟩) (by show w.heap.size<=w.heap.size+1;omega) _).setCell (p:=⟨w.heap.size+1,1,U⟩) (by show w.heap.size<=w.heap.size+1;omega) _).setCell (p:=⟨w.heap.size+1,2,U⟩) (by show w.heap.size<=w.heap.size+1;omega) _
theorem Wo(va vr pv fv:E)(m:Mo)(ps:List am)(l:am)(w:C)(hB:0<w.heap.size)(hT:AF w)(hV:TaskV w va vr pv fv m ps l)(hk:AX m ps l=0)(hnf:¬DU m ps l) :
  ZY qA 12 #[r #[va,vr,pv,fv]] w (IR w m ps l):=by
 obtain⟨ao,ac,rfl⟩:=hV.mo.1.shape;obtain⟨ro,rc,rfl⟩:=hV.mo.2.shape;obtain⟨po,pc,rfl⟩:=hV.ps.shape;obtain⟨fo,fc,rfl,_⟩:=id hV.fo;obtain⟨W1,hW1⟩:∃W1,W1=(w.alloc (M #[Z ao m.vars.length ac,Z ro m.rules.length rc,Z po ps.length pc,Z fo l.length fc] 35)).alloc (M #[S N,Z U 0 0,Z U 0 0] 60):=⟨_,rfl⟩;have hb1:O w.heap.size w W1:=by rw[hW1];exact(ai).alloc (by simp) _
 have hz1:W1.heap.size=w.heap.size+2:=by rw[hW1];simp
 have hex:ZY qA 9 #[r #[Z ao m.vars.length ac,Z ro m.rules.length rc,Z po ps.length pc,Z fo l.length fc]] W1 fun e w2=>∃K so sc no nc xo xc,e=F (ZZ #[r #[Z so K sc,Y V ((AC m ps l).length:Nat),Z no K nc,Z xo K xc,Y V ((AA l).length:Nat)],Y V 0])/\O W1.heap.size W1 w2/\K<=20000/\I (At m ps l K/\GraphV w2 (Z so K sc) (Z no K nc) (Z xo K xc) (AY m ps l K)):=by
  refine(GZ _ _ _ _ m ps l W1 (qE hB hb1.size) (hT.below hb1 hB) (hV.below hb1)).mono fun e w2 hx=>?_;rcases hx with⟨_,K,hD,sv,nv,tv,e1,h2,HG⟩|⟨_,hf,_,_⟩|⟨h1,_,_⟩
  .have hGr:=HG.out.graph;obtain⟨so,sc,rfl⟩:=HG.out.1.shape;obtain⟨us,n1,_⟩:=HG.out.2.1;obtain⟨no,nc,rfl⟩:=Au n1;obtain⟨xo,xc,rfl⟩:=Au HG.out.2.2;rw[hD.1,C1,DB]at e1 hGr;exact⟨K,so,sc,no,nc,xo,xc,e1,h2,hD.2.1,hD,hGr⟩
  .exact absurd hf hnf
  .exact absurd hk h1
 have HBx:I (∀w',O W1.heap.size W1 w'->(w'.cell? ⟨w.heap.size+1,0,U⟩=Q (S N)/\w'.cell? ⟨w.heap.size+1,1,U⟩=Q (Z U 0 0)/\w'.cell? ⟨w.heap.size+1,2,U⟩=Q (Z U 0 0))/\(w'.frozen? ⟨w.heap.size+1,0,U⟩=N/\w'.frozen? ⟨w.heap.size+1,1,U⟩=N/\w'.frozen? ⟨w.heap.size+1,2,U⟩=N)):=fun w' h=>by
  have hlt:w.heap.size+1<W1.heap.size:=by omega
  refine⟨⟨?_,?_,?_⟩,?_,?_,?_⟩
  .exact (h.cell (p:=⟨w.heap.size+1,0,U⟩) hlt).trans (by rw[hW1];simp[go_sem])
  .exact (h.cell (p:=⟨w.heap.size+1,1,U⟩) hlt).trans (by rw[hW1];simp[go_sem])
  .exact (h.cell (p:=⟨w.heap.size+1,2,U⟩) hlt).trans (by rw[hW1];simp[go_sem])
  .exact (h.frozen (p:=⟨w.heap.size+1,0,U⟩) hlt).trans (by rw[hW1];simp[go_sem])
  .exact (h.frozen (p:=⟨w.heap.size+1,1,U⟩) hlt).trans (by rw[hW1];simp[go_sem])
  .exact (h.frozen (p:=⟨w.heap.size+1,2,U⟩) hlt).trans (by rw[hW1];simp[go_sem])
 have HLa:I (∀(w':C) (so no xo:Option Addr) (sc nc xc K:Nat),At m ps l K->GraphV w' (Z so K sc) (Z no K nc) (Z xo K xc) (AY m ps l K)->ZY qA 22 #[r #[Z so K sc,Y V ((AC m ps l).length:Nat),Z no K nc,Z xo K xc,Y V ((AA l).length:Nat)]] w' fun e w2=>∃t0 tn tc uo un uc c,e=F (ZZ #[r #[Z t0 tn tc,Z uo un uc],Y V c])/\O w'.heap.size w' w2/\I (KZ (AY m ps l K) w2 (r #[Z t0 tn tc,Z uo un uc]) c)):=fun w' so no xo sc nc xc K hD hGr=>by
  have hok:=LG hk hD;have hc0:CM (AY m ps l K)=0:=Ix hok.head hok.row;have e1:(AY m ps l K).spots.length=K:=hD.1;have e2:(AY m ps l K).next.length=K:=C1 K;have e3:(AY m ps l K).sets.length=K:=DB K;have h:=VV so no xo sc nc xc (AY m ps l K) w' (QQ hk hD) (by rw[e1,e2,e3];exact hGr) hc0;rw[e1,e2,e3]at h;refine h.mono fun e w2 ⟨v,c,g1,g2,g3⟩=>?_;rcases id g3.out with⟨_,_,rfl⟩|⟨_,_,t0,tc,uo,uc,st,lp,rfl,_⟩
  .exact ⟨_,_,_,_,_,_,c,g1,g2,g3⟩
  .exact ⟨_,_,_,_,_,_,c,g1,g2,g3⟩
 have HSt:I (∀(w':C) (so no xo po:Option Addr) (sc nc xc pc K:Nat) (x:List Nat),At m ps l K->OpsV w' (Z so K sc) (xpP m ps l K)->Ay w' (Z po x.length pc) x->(∀y∈x,y<K)->x.length<=2000000->ZY qA 23 #[r #[Z so K sc,Y V ((AC m ps l).length:Nat),Z no K nc,Z xo K xc,Y V ((AA l).length:Nat)],Z po x.length pc] w' fun e w2=>∃R,e=F (Z (Q ⟨R,0,U⟩) x.length x.length)/\O w'.heap.size w' w2/\I (IntsV w2 (Z (Q ⟨R,0,U⟩) x.length x.length) (stL m ps l K x))):=fun w' so no xo po sc nc xc pc K x hD hO hN hlt hz=>by
  have h:=Vn so no xo po sc K nc K xc pc ((AC m ps l).length:Nat) ((AA l).length:Nat) (xpP m ps l K) x w' (by rw[hD.1];exact hO) hN (fun i hi=>by
   rw[hD.1];refine hlt _ ?_;rw[qC,qH hi];exact qR _) hz (by rw[hD.1];exact hD.2.1)
  rw[hD.1]at h;exact h
 have HTk:I (AX m ps l=0):=hk;have HW1:=(show I (W1=_)from hW1);clear hW1 hV hT hk hnf;unfold IR;generalize hbl:(AC m ps l).length=bn at *;generalize hal:(AA l).length=an at *;generalize m.vars.length=vn at *;generalize m.rules.length=rn at *;generalize ps.length=pn at *;generalize l.length=fn at *;clear hbl hal
 go_enter jd,jg;go_upto_region 2 with(go_at_call 9;rw[<-HW1.out];refine hex.mono ?_;rintro e w2 ⟨K,so,sc,no,nc,xo,xc,rfl,hb2,hK,HD⟩)
 have hbA:O w2.heap.size w2 (w2.alloc (M #[Z so K sc,Y V (bn:Nat),Z no K nc,Z xo K xc,Y V (an:Nat)] 45)):=ai;have hbg:(w2.alloc (M #[Z so K sc,Y V (bn:Nat),Z no K nc,Z xo K xc,Y V (an:Nat)] 45)).heap[w2.heap.size]? = Q (grB (Z so K sc) (Z no K nc) (Z xo K xc) (bn:Nat) (an:Nat)):=(du w2 _).1;have hb3:=ae hb2 hbA;have HG3:I (GraphV (w2.alloc (M #[Z so K sc,Y V (bn:Nat),Z no K nc,Z xo K xc,Y V (an:Nat)] 45)) (Z so K sc) (Z no K nc) (Z xo K xc) (AY m ps l K)):=HD.out.2.below hbA;have HDn:I (At m ps l K):=HD.out.1;have hXw:W1.heap.size<=w2.heap.size:=hb2.size;generalize w2.alloc (M #[Z so K sc,Y V (bn:Nat),Z no K nc,Z xo K xc,Y V (an:Nat)] 45)=W3 at *;generalize w2.heap.size=X at *;have hla:=HLa.out W3 so no xo sc nc xc K HDn.out HG3.out;obtain⟨g0,g1,g2,g3,g4⟩:=Dn hbg
 have HGb:I (W3.heap[X]? = Q (grB (Z so K sc) (Z no K nc) (Z xo K xc) (bn:Nat) (an:Nat))):=hbg;clear HD hex HLa hbA hbg HW1;go_upto_region 5 with(go_at_call 22;refine hla.mono ?_;rintro e w4 ⟨t0,tn,tc,uo,un,uc,c,rfl,hb4,HL⟩)
 have hbB:O w4.heap.size w4 (w4.alloc (M #[Z t0 tn tc,Z uo un uc] 58)):=ai;have hbl5:(w4.alloc (M #[Z t0 tn tc,Z uo un uc] 58)).heap[w4.heap.size]? = Q (laB (Z t0 tn tc) (Z uo un uc)):=(du w4 _).1;have hb35:=ae hb4 hbB;have hb5:=ae hb3 hb35;have hbw5:=ae hb1 hb5;obtain⟨⟨r0,r1,r2⟩,f0,f1,f2⟩:=HBx.out _ hb5;clear hla g0 g1 g2 g3 g4;rcases HL.out with⟨rfl,hfc,hv⟩|⟨rfl,hfc,t0',tc',uo',uc',st,lp,hv,hst,hlp,hLo,hN1,hN2⟩
 .generalize w4.alloc (M #[Z t0 tn tc,Z uo un uc] 58)=W5 at *
  have HR:I (∃K,At m ps l K/\Ao (AY m ps l K)=11):=⟨K,HDn.out,hfc⟩;clear hfc hv HL HBx HSt HDn HG3 HGb hbl5;go_wp2_with fail
  refine bodyPost_ret (v:=ZZ #[r #[S true,Z U 0 0,Z U 0 0],Y V 0]) ?_ rfl (.inl ⟨HTk.out,HR.out,rfl,?_⟩)
  .simp only[results,ji];simp[go_sem,r0,r1,r2]
  .exact ((hbw5.setCell (p:=⟨w.heap.size+1,0,U⟩) (by show w.heap.size<=w.heap.size+1;omega) _).setCell (p:=⟨w.heap.size+1,1,U⟩) (by show w.heap.size<=w.heap.size+1;omega) _).setCell (p:=⟨w.heap.size+1,2,U⟩) (by show w.heap.size<=w.heap.size+1;omega) _
 .simp only[Value.agg.injEq,Array.mk.injEq,List.cons.injEq,Value.slice.injEq,and_true]at hv;obtain⟨⟨rfl,rfl,rfl⟩,rfl,rfl,rfl⟩:=hv;have hlo1:∀y∈st,y<K:=fun y hy=>by
   have:=hLo.lt y (qL.2 (.inl hy));rw[show(AY m ps l K).spots.length=K from HDn.out.1]at this;exact this
  have hlo2:∀y∈lp,y<K:=fun y hy=>by
   have:=hLo.lt y (qL.2 (.inr hy));rw[show(AY m ps l K).spots.length=K from HDn.out.1]at this;exact this
  have hN1b:=hN1.below hbB;have hN2b:=hN2.below hbB;have HRw:I (∀w',O (w4.alloc (M #[Z t0 st.length tc,Z uo lp.length uc] 58)).heap.size (w4.alloc (M #[Z t0 st.length tc,Z uo lp.length uc] 58)) w'->((w'.cell? ⟨X,0,U⟩=Q (Z so K sc)/\w'.cell? ⟨X,1,U⟩=Q (Y V (bn:Nat))/\w'.cell? ⟨X,2,U⟩=Q (Z no K nc)/\w'.cell? ⟨X,3,U⟩=Q (Z xo K xc)/\w'.cell? ⟨X,4,U⟩=Q (Y V (an:Nat)))/\(w'.cell? ⟨w4.heap.size,0,U⟩=Q (Z t0 st.length tc)/\w'.cell? ⟨w4.heap.size,1,U⟩=Q (Z uo lp.length uc)))/\(ZY qA 23 #[r #[Z so K sc,Y V (bn:Nat),Z no K nc,Z xo K xc,Y V (an:Nat)],Z t0 st.length tc] w' fun e w2=>∃R,e=F (Z (Q ⟨R,0,U⟩) st.length st.length)/\O w'.heap.size w' w2/\I (IntsV w2 (Z (Q ⟨R,0,U⟩) st.length st.length) (stL m ps l K st)))/\(ZY qA 23 #[r #[Z so K sc,Y V (bn:Nat),Z no K nc,Z xo K xc,Y V (an:Nat)],Z uo lp.length uc] w' fun e w2=>∃R,e=F (Z (Q ⟨R,0,U⟩) lp.length lp.length)/\O w'.heap.size w' w2/\I (IntsV w2 (Z (Q ⟨R,0,U⟩) lp.length lp.length) (stL m ps l K lp)))/\O W1.heap.size W1 w'):=fun w' h=>by
   have h3:=ae hb35 h;have hbx:=(h3.block X (qG.1 HGb.out).1).trans HGb.out;have hbl:=(h.block w4.heap.size (qG.1 hbl5).1).trans hbl5;have hsp:=HG3.out.spots.below h3;exact⟨⟨Dn hbx,Rs hbl⟩,HSt.out w' so no xo t0 sc nc xc tc K st HDn.out hsp (hN1b.below h) hlo1 (by omega),HSt.out w' so no xo uo sc nc xc uc K lp HDn.out hsp (hN2b.below h) hlo2 (by omega),ae hb5 h⟩
  have HLo:I (LassoOk (AY m ps l K) st lp):=hLo;have HSz:I (st.length<=20000/\lp.length<=2000000):=⟨hst,hlp⟩;clear hN1 hN2 hN1b hN2b hlo1 hlo2 HL hbl5 HG3 HGb HSt hb35 hbB hLo hfc hst hlp;generalize w4.alloc (M #[Z t0 st.length tc,Z uo lp.length uc] 58)=W5 at *;generalize w4.heap.size=L5 at *;obtain⟨ns,hns⟩:∃n,st.length=n:=⟨_,rfl⟩
  obtain⟨np,hnp⟩:∃n,lp.length=n:=⟨_,rfl⟩;obtain⟨xs,hxs⟩:∃x,stL m ps l K st=x:=⟨_,rfl⟩;obtain⟨xp,hxp⟩:∃x,stL m ps l K lp=x:=⟨_,rfl⟩;have HN:I ((st.length=ns/\lp.length=np)/\stL m ps l K st=xs/\stL m ps l K lp=xp):=⟨⟨hns,hnp⟩,hxs,hxp⟩;rw[hns,hnp,hxs,hxp]at HRw;rw[hns,hnp];clear hns hnp hxs hxp;go_upto_region 9 with fail
  go_cut [3] (fun u wx=>u=Y V 0/\∃A B,I (IntsV wx (Z (Q ⟨A,0,U⟩) ns ns) xs/\IntsV wx (Z (Q ⟨B,0,U⟩) np np) xp/\O w.heap.size w wx)/\wx.cell? ⟨w.heap.size+1,0,U⟩=Q (S N)/\wx.cell? ⟨w.heap.size+1,1,U⟩=Q (Z (Q ⟨A,0,U⟩) ns ns)/\wx.cell? ⟨w.heap.size+1,2,U⟩=Q (Z (Q ⟨B,0,U⟩) np np))
  case first=>
   rename_i J K' hJ hK';generalize ha0:Act.mk _ _=a0;have hsz:a0.tmps.size=38:=by rw[<-ha0];rfl
   have a4:a0.eval (.tmp 4)=ZX (Q ⟨X,0,U⟩):=by rw[<-ha0];rfl
   have a6:a0.eval (.tmp 6)=ZX (Q ⟨L5,0,U⟩):=by rw[<-ha0];rfl
   have a2:a0.eval (.tmp 2)=ZX (Q ⟨w.heap.size+1,0,U⟩):=by rw[<-ha0];rfl
   refine XC (by rfl) [28,29,30,31,32,33,34,35,36,37,3] 10 (vcP (r #[Z so K sc,Y V (bn:Nat),Z no K nc,Z xo K xc,Y V (an:Nat)]) (Z t0 ns tc) (Z uo np uc) L5 xs xp ns np) (by rw[hsz];rfl) (Wm _ _ _ _ _ _ _ _) ?_ ?_
   .intro i o hi ho q w' hb hq;have f:∀t,[28,29,30,31,32,33,34,35,36,37,3].contains t=true->t<38->(frm a0 [28,29,30,31,32,33,34,35,36,37,3] q).eval (.tmp t)=q t:=fun t h1 h2=>D4 h1 (by rw[hsz];exact h2);have e4:(frm a0 [28,29,30,31,32,33,34,35,36,37,3] q).eval (.tmp 4)=ZX (Q ⟨X,0,U⟩):=(Ef rfl).trans a4;have e6:(frm a0 [28,29,30,31,32,33,34,35,36,37,3] q).eval (.tmp 6)=ZX (Q ⟨L5,0,U⟩):=(Ef rfl).trans a6;obtain⟨⟨⟨x0,x1,x2,x3,x4⟩,y0,y1⟩,hs1,hs2,_⟩:=HRw.out w' hb;obtain⟨ev,hev⟩:∃ev,ev=(frm a0 [28,29,30,31,32,33,34,35,36,37,3] q).eval:=⟨_,rfl⟩;have evf:∀n,ev (.func n)=.func (.func n) #[] #[]:=fun n=>by rw[hev];rfl
    rw[<-hev]at f e4 e6;rcases N6 i hi with rfl|rfl|rfl|rfl|rfl|rfl|rfl|rfl|rfl|rfl;all_goals obtain rfl:=Option.some.inj ho
    .refine Bh (w':=w') ?_ (qD _ _) rfl;rw[<-hev];simp[execOp,e4,go_sem,x0,x1,x2,x3,x4]
    .refine Bh (w':=w') ?_ (qD _ _) rfl;rw[<-hev];simp[execOp,e6,go_sem]
    .have e29:=(f 29 rfl (by decide)).trans (hq 1 29 rfl rfl);refine Bh (w':=w') ?_ (qD _ _) rfl;rw[<-hev];simp[execOp,e29,go_sem,y0]
    .have e28:=(f 28 rfl (by decide)).trans (hq 0 28 rfl rfl);have e30:=(f 30 rfl (by decide)).trans (hq 2 30 rfl rfl);refine G6 (f:=23) (args:=#[r #[Z so K sc,Y V (bn:Nat),Z no K nc,Z xo K xc,Y V (an:Nat)],Z t0 ns tc]) ?_ (hs1.mono ?_)
     .rw[<-hev];simp[execOp,e28,e30,evf,go_sem]
     .rintro e w2 ⟨R,rfl,h2,h3⟩;exact⟨_,rfl,h2,R,rfl,h3.out⟩
    .refine Bh (w':=w') ?_ (qD _ _) rfl;rw[<-hev];simp[execOp,e4,go_sem,x0,x1,x2,x3,x4]
    .refine Bh (w':=w') ?_ (qD _ _) rfl;rw[<-hev];simp[execOp,e6,go_sem]
    .have e33:=(f 33 rfl (by decide)).trans (hq 5 33 rfl rfl);refine Bh (w':=w') ?_ (qD _ _) rfl;rw[<-hev];simp[execOp,e33,go_sem,y1]
    .have e32:=(f 32 rfl (by decide)).trans (hq 4 32 rfl rfl);have e34:=(f 34 rfl (by decide)).trans (hq 6 34 rfl rfl);refine G6 (f:=23) (args:=#[r #[Z so K sc,Y V (bn:Nat),Z no K nc,Z xo K xc,Y V (an:Nat)],Z uo np uc]) ?_ (hs2.mono ?_)
     .rw[<-hev];simp[execOp,e32,e34,evf,go_sem]
     .rintro e w2 ⟨R,rfl,h2,h3⟩;exact⟨_,rfl,h2,R,rfl,h3.out⟩
    .obtain ⟨A,hA,hA2⟩:=hq 3 31 rfl rfl;obtain⟨B,hB',hB2⟩:=hq 7 35 rfl rfl;have e31:=(f 31 rfl (by decide)).trans hA;have e35:=(f 35 rfl (by decide)).trans hB';refine Bh (w':=w') (v:=r #[Z (Q ⟨A,0,U⟩) ns ns,Z (Q ⟨B,0,U⟩) np np]) ?_ (qD _ _) ⟨A,B,rfl,by rw[<-hA];exact hA2,by rw[<-hB'];exact hB2⟩;rw[<-hev];simp[execOp,e31,e35,go_sem]
    .obtain ⟨A,B,hA,hA2,hB2⟩:=hq 8 36 rfl rfl;have e36:=(f 36 rfl (by decide)).trans hA;refine Bh (w':=w') (v:=r #[S N,Z (Q ⟨A,0,U⟩) ns ns,Z (Q ⟨B,0,U⟩) np np]) ?_ (qD _ _) ⟨A,B,rfl,hA2,hB2⟩;rw[<-hev];simp[execOp,e36,go_sem]
   .intro q w' hb hq;have f:∀q t,[28,29,30,31,32,33,34,35,36,37,3].contains t=true->t<38->(frm a0 [28,29,30,31,32,33,34,35,36,37,3] q).eval (.tmp t)=q t:=fun q t h1 h2=>D4 h1 (by rw[hsz];exact h2);obtain⟨A,B,h37,hA2,hB2⟩:=hq 9 37 (by decide) rfl;have e37:=(f q 37 rfl (by decide)).trans h37;have e2:(frm a0 [28,29,30,31,32,33,34,35,36,37,3] q).eval (.tmp 2)=ZX (Q ⟨w.heap.size+1,0,U⟩):=(Ef rfl).trans a2;obtain⟨_,_,_,hbW⟩:=HRw.out w' hb;obtain⟨⟨k0,k1,k2⟩,l0,l1,l2⟩:=HBx.out w' hbW;show wpOps qA _ _ [10,11] _ _;rw[wpOps_cons];refine G5 rfl rfl ?_;refine JV (w':=((w'.setCell ⟨w.heap.size+1,0,U⟩ (S N)).setCell ⟨w.heap.size+1,1,U⟩ (Z (Q ⟨A,0,U⟩) ns ns)).setCell ⟨w.heap.size+1,2,U⟩ (Z (Q ⟨B,0,U⟩) np np)) rfl ?_ ?_
    .generalize (frm a0 [28,29,30,31,32,33,34,35,36,37,3] q).eval=ev at e37 e2⊢;simp[execOp,e2,e37,go_sem,k0,k1,k2,l0,l1,l2]
    rw[wpOps_cons];refine G5 rfl rfl ?_;refine Mf (w':=((w'.setCell ⟨w.heap.size+1,0,U⟩ (S N)).setCell ⟨w.heap.size+1,1,U⟩ (Z (Q ⟨A,0,U⟩) ns ns)).setCell ⟨w.heap.size+1,2,U⟩ (Z (Q ⟨B,0,U⟩) np np)) (v:=Y V 0) ?_ ?_
    .have evc:∀v,(frm a0 [28,29,30,31,32,33,34,35,36,37,3] q).eval (.const v)=v:=fun v=>rfl;generalize(frm a0 [28,29,30,31,32,33,34,35,36,37,3] q).eval=ev at evc⊢;simp[execOp,evc,go_sem]
    rw[Lt 3 rfl rfl];show K' _ _;refine hK' _ _ ?_;rw[<-ha0];go_meet
    have hbF:=ae hb1 hbW;have n0:∀A',IntsV w' A' xs->IntsV (((w'.setCell ⟨w.heap.size+1,0,U⟩ (S N)).setCell ⟨w.heap.size+1,1,U⟩ (Z (Q ⟨A,0,U⟩) ns ns)).setCell ⟨w.heap.size+1,2,U⟩ (Z (Q ⟨B,0,U⟩) np np)) A' xs:=fun A' h=>Kp h k0 k1 k2 _ _ _;have n1:∀A',IntsV w' A' xp->IntsV (((w'.setCell ⟨w.heap.size+1,0,U⟩ (S N)).setCell ⟨w.heap.size+1,1,U⟩ (Z (Q ⟨A,0,U⟩) ns ns)).setCell ⟨w.heap.size+1,2,U⟩ (Z (Q ⟨B,0,U⟩) np np)) A' xp:=fun A' h=>Kp h k0 k1 k2 _ _ _;refine⟨Dt q 3 _,A,B,⟨n0 _ hA2,n1 _ hB2,((hbF.setCell (p:=⟨w.heap.size+1,0,U⟩) (by show w.heap.size<=w.heap.size+1;omega) _).setCell (p:=⟨w.heap.size+1,1,U⟩) (by show w.heap.size<=w.heap.size+1;omega) _).setCell (p:=⟨w.heap.size+1,2,U⟩) (by show w.heap.size<=w.heap.size+1;omega) _⟩,?_,?_,?_⟩
    .rw[bM _ _ _ _ (by simp),bM _ _ _ _ (by simp)];exact bO _ _ _ k0
    .rw[bM _ _ _ _ (by simp)];refine bO _ _ _ (u:=Z U 0 0) ?_;rw[bM _ _ _ _ (by simp)];exact k1
    .refine bO _ _ _ (u:=Z U 0 0) ?_;rw[bM _ _ _ _ (by simp),bM _ _ _ _ (by simp)];exact k2
  case rest=>
   obtain⟨rfl,A,B,HE,z0,z1,z2⟩:=hcut;go_wp2_with fail
   obtain⟨⟨hn1,hn2⟩,hx1,hx2⟩:=HN.out;refine bodyPost_ret (v:=ZZ #[r #[S N,Z (Q ⟨A,0,U⟩) ns ns,Z (Q ⟨B,0,U⟩) np np],Y V 0]) ?_ rfl (.inr (.inl ⟨HTk.out,K,st,lp,A,B,HDn.out,HLo.out,HSz.out.1,HSz.out.2,by rw[hn1,hn2],HE.out.2.2,by rw[hn1,hn2,hx1,hx2];exact⟨HE.out.1,HE.out.2.1⟩⟩));simp only[results,ji];simp[go_sem,z0,z1,z2]
theorem Wn(va vr pv fv:E)(m:Mo)(ps:List am)(l:am)(w:C)(hB:0<w.heap.size)(hT:AF w)(hV:TaskV w va vr pv fv m ps l) :
  ZY qA 12 #[r #[va,vr,pv,fv]] w (IR w m ps l):=by
 by_cases hk:AX m ps l=0
 .by_cases hf:DU m ps l
  .refine (N7 va vr pv fv m ps l w hV 12 (by decide) fun w' h=>(GZ va vr pv fv m ps l w' (qE hB h.size) (hT.below h hB) (hV.below h)).mono fun e w2 hx=>?_).mono fun e w2 ⟨h1,h2⟩=>.inr (.inr (.inl ⟨hk,hf,h1,h2⟩));rcases hx with⟨_,K,hD,_⟩|⟨_,_,h1,h2⟩|⟨h1,_,_⟩
   .exact absurd hf (QT hD)
   .exact ⟨h1,h2⟩
   .exact absurd hk h1
  .exact Wo va vr pv fv m ps l w hB hT hV hk hf
 .refine (N7 va vr pv fv m ps l w hV (AX m ps l) hk fun w' h=>(GZ va vr pv fv m ps l w' (qE hB h.size) (hT.below h hB) (hV.below h)).mono fun e w2 hx=>?_).mono fun e w2 ⟨h1,h2⟩=>.inr (.inr (.inr ⟨hk,h1,h2⟩));rcases hx with⟨h0,_⟩|⟨h0,_⟩|⟨_,h1,h2⟩
  .exact absurd h0 hk
  .exact absurd h0 hk
  .exact ⟨h1,h2⟩
structure PWay(m:Mo)(ps:List am)(l:am)(K:Nat)(x:List Nat)(s:Nat):Prop where
 lt:s<x.length
 all:∀i,i<x.length->x.getD i 0<K
 first:x.getD 0 0<(AC m ps l).length
 step:∀i,i<x.length->x.getD (Em s x.length (i+1)) 0∈nxt (AY m ps l K) (x.getD i 0)
 met:∀k,k<(AA l).length->∃i,s<=i/\i<x.length/\DH ((xpT m ps l K).getD (x.getD i 0) 0) k=true
section
variable{m:Mo}{ps:List am}{l:am}{K:Nat}
end
section
variable{m:Mo}{ps:List am}{l:am}{K:Nat}
theorem sub_zero(T:Tm):T.sub 0=T:=by cases T<;>rfl
end
theorem PG(n i:Nat):DH (n:Int) i=n.testBit i:=by
 unfold DH;rw[Nat.testBit_eq_decide_div_mod_eq];have e:((n / 2^i % 2:Nat):Int)=(n:Int) / 2^i % 2:=by push_cast;rfl
 rw[<-e];apply decide_eq_decide.2;omega
theorem Trail.at{nx:Nat->List Nat}:∀{L:List Nat},Trail nx L->∀i,i+1<L.length->L.getD (i+1) 0∈nx (L.getD i 0)
 |[],_,i,h=>by simp at h
 |[_],_,i,h=>by simp at h
 |a::b::L,h,0,_=>by simpa using h.1
 |a::b::L,h,i+1,hi=>by
  have:=Trail.at (L:=b::L) h.2 i (by simpa using hi);simpa using this
section
variable{m:Mo}{ps:List am}{l:am}{K:Nat}
theorem LF{i k:Nat}:(sN (AY m ps l K) i).testBit k=DH ((xpT m ps l K).getD i 0) k\/(xpT m ps l K).getD i 0<0:=by
 by_cases h:(xpT m ps l K).getD i 0<0
 .exact .inr h
 .refine .inl ?_;obtain⟨n,hn⟩:∃n:Nat,(xpT m ps l K).getD i 0=(n:Int):=⟨((xpT m ps l K).getD i 0).toNat,by omega⟩;show((xpT m ps l K).getD i 0).toNat.testBit k=_;rw[hn,PG,jM]
theorem OR{i:Nat}(hi:i<K):¬(xpT m ps l K).getD i 0<0:=by
 rw[OQ hi];have:=(MI l (AJ m ps (Br m ps l i).1) (Br m ps l i).2).1;omega
theorem Ry(h:At m ps l K){st lp:List Nat}(hL:LassoOk (AY m ps l K) st lp):PWay m ps l K (st++lp) st.length:=by
 have hK:(AY m ps l K).spots.length=K:=h.1;have hlp:0<lp.length:=List.length_pos_iff.2 hL.ne;have hn:(st++lp).length=st.length+lp.length:=qF;have hall:∀i,i<(st++lp).length->(st++lp).getD i 0<K:=fun i hi=>by
  have:=hL.lt ((st++lp).getD i 0) (by rw[qC,qH hi];exact qR _);rw[hK]at this;exact this
 have hg:∀i,i<(st++lp).length->(st++lp++[lp.getD 0 0]).getD i 0=(st++lp).getD i 0:=fun i hi=>by
  simp only[qC];rw[qX hi]
 have hlast:(st++lp++[lp.getD 0 0]).getD (st++lp).length 0=(st++lp).getD st.length 0:=by
  simp only[qC];rw[q7 (qB _),jR,q7 (qB _),jR];rfl
 refine⟨by omega,hall,?_,fun i hi=>?_,fun k hk=>?_⟩
 .have:=hL.head;have e:(AY m ps l K).init=((AC m ps l).length:Nat):=rfl;rw[e]at this;omega
 .have htr:=hL.trail.at i (by simp at hi⊢;omega);rw[hg i hi]at htr;by_cases hi2:i+1<(st++lp).length
  .rw[MN hi2];rw[hg _ hi2]at htr;exact htr
  .have e:i+1=(st++lp).length:=by omega
   have hm:Em st.length (st++lp).length (i+1)=st.length:=by
    rw[e];unfold Em;rw[ak (kV _),kZ];rfl
   rw[hm];rw[e,hlast]at htr;exact htr
 .have hk':k<mN (AY m ps l K):=by
   show k<(((AA l).length:Nat):Int).toNat;rw[jM];exact hk
  obtain⟨x,hx,hb⟩:=hL.bits k hk';obtain⟨q,hq,rfl⟩:=List.getElem_of_mem hx;have hi:st.length+q<(st++lp).length:=by omega
  have hge:(st++lp).getD (st.length+q) 0=lp[q]:=by
   simp only[qC];rw[q7 (by omega),show st.length+q-st.length=q by omega,qH hq];rfl
  refine⟨st.length+q,by omega,hi,?_⟩;rw[hge];have hlt:lp[q]<K:=by rw[<-hge];exact hall _ hi
  rcases LF (m:=m) (ps:=ps) (l:=l) (K:=K) (i:=lp[q]) (k:=k)with e|e
  .rw[<-e];exact hb
  .exact absurd e (OR hlt)
theorem Ws(h:At m ps l K){x:List Nat}{s:Nat}(hx:PWay m ps l K x s):Ao (AY m ps l K)=0:=by
 have hK:(AY m ps l K).spots.length=K:=h.1;have hfw:∀i j,i<=j->j<x.length->Way (nxt (AY m ps l K)) (x.getD i 0) (x.getD j 0):=fun i j hij=>by
  induction hij with
  |refl=>intro _;exact .stay
  | @step j hj ih=>
   intro hlt;have h1:=ih (by omega);have h2:=hx.step j (by omega);rw[MN hlt]at h2;exact h1.step h2
 have hback:x.getD s 0∈nxt (AY m ps l K) (x.getD (x.length-1) 0):=by
  have h1:=hx.step (x.length-1) (by have:=hx.lt;omega);have e:x.length-1+1=x.length:=by have:=hx.lt;omega
  have hm:Em s x.length x.length=s:=by
   unfold Em;rw[ak (kV _),kZ];rfl
  rw[e,hm]at h1;exact h1
 have hlt:=hx.lt;have hmut:∀i,s<=i->i<x.length->Mut (AY m ps l K) (x.getD s 0) (x.getD i 0):=fun i h1 h2=>⟨hfw s i h1 h2,(hfw i (x.length-1) (by omega) (by omega)).step hback⟩;refine LN (x:=x.getD s 0) (by rw[hK];exact hx.all s hlt) ⟨⟨x.getD 0 0,?_,hfw 0 s (qJ _) hlt⟩,⟨x.getD (x.length-1) 0,x.getD s 0,hmut _ (by omega) (by omega),⟨.stay,.stay⟩,hback⟩,fun k hk=>?_⟩
 .rw[List.mem_range];show x.getD 0 0<(((AC m ps l).length:Nat):Int).toNat;rw[jM];exact hx.first
 .have hk':k<(AA l).length:=by
   have:k<(((AA l).length:Nat):Int).toNat:=hk;rw[jM]at this;exact this
  obtain⟨i,i1,i2,i3⟩:=hx.met k hk';refine⟨x.getD i 0,hmut i i1 i2,?_⟩;rcases LF (m:=m) (ps:=ps) (l:=l) (K:=K) (i:=x.getD i 0) (k:=k)with e|e
  .rw[e];exact i3
  .exact absurd e (OR (hx.all i i2))
end
def E3(w:C)(va vr pv fv:E)(m:Mo)(l:am):Prop:=∀w',O w.heap.size w w'->ZY qA 12 #[r #[va,vr,pv,fv]] w' fun e w2=>∃(vb:Bool) (so:Option Addr) (sn sc:Nat) (lo:Option Addr) (ln lc:Nat),e=F (ZZ #[r #[S vb,Z so sn sc,Z lo ln lc],Y V 0])/\O w'.heap.size w' w2/\I (vb=decide (Ao (AY m Aj l (kOf m l))=11))
theorem E3.below{w w':C}{va vr pv fv:E}{m:Mo}{l:am}(h:E3 w va vr pv fv m l)(hb:O w.heap.size w w'):E3 w' va vr pv fv m l:=fun w2 h2=>h w2 (ae hb h2)
theorem VN{m:Mo}{a b:Vr}{l:am}{mm:Nat}{w:C}{va vr pv fv:E}(hB:0<w.heap.size)(hT:AF w)(hG:GV a b)(hk:KTaskOk m l mm)(hvars:m.vars=[a,b])(hmm:mm<=2)(hV:TaskV w va vr pv fv m Aj l):E3 w va vr pv fv m l:=by
 obtain⟨_,hF⟩:=Nc hG hk hvars hmm;intro w' h;refine(Wn va vr pv fv m Aj l w' (qE hB h.size) (hT.below h hB) (hV.below h)).mono fun e w2 hx=>?_;rcases hx with⟨_,⟨K,hD,hfc⟩,h1,h2⟩|⟨_,K,st,lp,A,B,hD,hL,_,_,h1,h2,_⟩|⟨_,hf,_,_⟩|⟨h0,_,_⟩
 .refine ⟨true,_,_,_,_,_,_,h1,h2,?_⟩;show true=decide (Ao (AY m Aj l (kOf m l))=11);rw[<-Gs hD,hfc];rfl
 .refine ⟨N,_,_,_,_,_,_,h1,h2,?_⟩;show N=decide (Ao (AY m Aj l (kOf m l))=11);rw[<-Gs hD,Ws hD (Ry hD hL)];rfl
 .exact absurd hf hF
 .exact absurd hk.code h0
theorem VM(c0 c1 c2 c3 c4 c5 c6:E)(a b:Vr)(rawv:E)(rs:am)(w:C)(hB:0<w.heap.size)(hT:AF w)(hG:GV a b)(hR:Raws w w.heap.size rawv rs)
  (hmd:∀w',O w.heap.size w w'->ZY qA 13 #[r #[c0,c1,c2,c3,c4,c5,c6]] w' fun e w2=>∃va vr,e=F (r #[va,vr])/\O w'.heap.size w' w2/\GModel w2 va vr [a,b]) :
  ZY qA 7 #[r #[c0,c1,c2,c3,c4,c5,c6],rawv,Y V 2] w fun e w'=>∃(ao ro po fo:Option Addr) (rn fn ac rc fc:Nat) (m:Mo) (l:am),e=F (r #[Z ao 2 ac,Z ro rn rc,Z po 3 3,Z fo fn fc])/\O w.heap.size w w'/\I (SgC w' (Z ao 2 ac) (Z ro rn rc) (Z po 3 3) (Z fo fn fc) m l/\E3 w' (Z ao 2 ac) (Z ro rn rc) (Z po 3 3) (Z fo fn fc) m l):=by
 refine(V6 c0 c1 c2 c3 c4 c5 c6 a b rawv rs 2 w hG (by decide) hR hmd).mono fun e w' ⟨ao,ac,ro,rn,rc,pb,fo,fn,fc,m,l,mm,e1,hb,HV,HK,hmm,_⟩=>?_;obtain⟨hok,hvars,_,_⟩:=HK.out;have hB':=qE hB hb.size;have hT':=hT.below hb hB;exact⟨ao,ro,_,fo,rn,fn,ac,rc,fc,m,l,e1,hb,VL hB' hT' hG hok hvars hmm HV.out,VN hB' hT' hG hok hvars hmm HV.out⟩
section
variable{m:Mo}{l vs:am}{b0:Bool}{f n s ag:Nat}{d h:Bool}
theorem WZ(H:OutIs m l (vs++[(4,0),(1,1000)]) b0 f n s ag d h):b0=true/\n=kOf m l/\f=kOf m l/\d=true/\h=decide (Ao (AY m Aj l (kOf m l))=11):=by
 obtain⟨t1,t2⟩:=WX (m:=m) (ps:=Aj) (l:=l) (K:=kOf m l) H.small vs;have e2:n=kOf m l:=H.th.trans t2;have e3:f=kOf m l:=by
  rw[H.fo,show(stO m l (vs++[(4,0),(1,1000)])).n=kOf m l from t2];exact Fg H.small.done
 have e1:b0=true:=H.up.trans t1;have e4:d=true:=by
  rw[H.facts.2.2.2.2.1,e1,e2,e3];simp
 refine⟨e1,e2,e3,e4,?_⟩;rw[H.ho,<-H.dn,e4,Bool.true_and]
end
