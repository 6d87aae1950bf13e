/- Joined texts. -/
import Derived.Test.YtjldkfiabgagiaaGreatDoorTopC
import Derived.Test.YtjldkfiabgagiaaGreatDoorLateE
import Derived.Test.YtjldkfiabgagiaaGreatDoorSccB
import Derived.ArgAppend
open Go renaming World→J,Value→E,Calls→r
open Go.Ending renaming returned→G
open Go.IntKind renaming i64→Z
open Go.Obj renaming cells→N
open Go.RowKit renaming Below→S,Hid→M
open Go.Value renaming slice→U,bool→I,agg→C,tuple→A,pointer→ZY,int→ZZ
open _root_.Bool renaming false→O
open _root_.Option renaming none→Y,some→V
namespace Go.Proofs.YtjldkfiabgagiaaGreatDoor
open _root_.Array renaming getElem?_eq_some_iff→qG,getElem?_modify→qR
open Go.RowKit.Below renaming refl→qD
open _root_.Int renaming toNat_natCast→jJ
open _root_.List renaming getD_eq_getElem?_getD→qC,getElem?_eq_getElem→qH,getElem_mem→qT,length_append→qF,length_map→qL,length_take→qP,take_of_length_le→qQ,take_succ_eq_append_getElem→qZ
open _root_.Nat renaming le_of_lt→qS,le_refl→qB,le_succ→vD,le_trans→qI,lt_of_lt_of_le→qE,zero_le→qJ
open _root_.Option renaming getD_some→vQ
open Go.Proofs.Tryz renaming prog→qA
open Go.ChangeShapes Go.WideShapes Go.ChangeAt Go.RowKit Go.Deep Go.Maps
open Terms Tm
set_option maxHeartbeats 6400000
set_option maxRecDepth 20000
theorem Vs{m:Mo}{ps:List (List (Int×Int))}{l:List (Int×Int)}{K fb:Nat}{w0 w:J}{st:Sr}{g0 g2 g3:E}{g1 g4:Int}(many:Nat)(hm:many<=2147483647)(hag:st.ag<=1000000000000)(hK:SmallK m ps l K)(h:SxV m ps l K w0 w g0 g1 g2 g3 g4 fb st)(hup:st.up=true) :
  r qA 56 #[ZY (V ⟨w0.heap.size,0,Y⟩),.int Z (many:Nat)] w fun e w'=>e=G (.int Z 0)/\SxV m ps l K w0 w' g0 g1 g2 g3 g4 fb (wkS K st many):=by
 obtain⟨dso,lo,ro,dc,lc,rc,lol,rsl,hI⟩:=h.lies;obtain⟨hl1,hl2⟩:=hI.lost.two;have HAl:=KZ lol rsl lo ro lc rc w hI.may.szU.1 hl1 hl2;rw[ID hI.may,Fv hI.may]at HAl;have HK:M (SmallK m ps l K):=hK;have HSt:M (SrOk K st):=h.ok;have HFn:M (∀wr,S w0.heap.size w0 wr->DO wr fb m ps l K):=fun wr hb=>h.fnd.below hb;have HKs:M ((up (AQ lol rsl)).Pairwise (· <= ·)/\(up (AQ lol rsl)).length<=100000/\∀p,st.n<=p->p<K->(kyX m ps l K p∈up (AQ lol rsl)↔p<st.mx)):=⟨FL _,hI.may.szU.2,fun p h1 h2=>Rj hK h.ok hI.keys hI.back h1 h2⟩;have HI0:M (SxI m ps l K w0 w st g0 g1 g2 g3 g4 fb dso lo ro dc lc rc lol rsl):=hI;have HV0:M (SxV m ps l K w0 w g0 g1 g2 g3 g4 fb st):=h;obtain⟨_,_,_,_,_,_,_,c11,c12,_⟩:=BQ hI.box;have hwl:=hI.lt;clear hI h hl1 hl2;generalize hkse:up (AQ lol rsl)=ks at *;unfold FN at HAl
 go_enter Tryz.func56,Tryz.ntmps56;go_upto_region 2 with(go_at_call 81;refine HAl.mono ?_;rintro e wA ⟨ko,kc,rfl,hbA,HKl⟩)
 have hwA:=hbA.size;have HJ0:M (WkJ m ps l K w0 w wA wA g0 g1 g2 g3 g4 fb (wkS K st 0) lol rsl (.slice ko ks.length kc) ks):=by
  rw[Vo HSt.out];exact⟨HV0.out.bel.trans (hbA.mono HV0.out.bel.size),qB _,⟨HKl.out.1,fun b off n c e hne=>⟨HKl.out.2 b off n c e hne,by
   obtain⟨ao,cap,e1,_,h3⟩:=HKl.out.1;obtain⟨b',off',e2,hlt,_⟩:=h3 hne;injection e with e3 _ _;injection e1 with e4 _ _;rw[<-e4,e3]at e2;injection e2 with e2;injection e2 with e2 _;omega⟩⟩,dso,lo,ro,dc,lc,rc,HI0.out.below hbA,fun g e=>.inl (HI0.out.data.lt g e).2⟩
 clear HKl;go_wp2_with fail
 go_loopw [1] (fun mv wr=>∃j:Nat,j<=many/\mv=.int Z ((many-j:Nat):Int)/\M (WkJ m ps l K w0 w wA wr g0 g1 g2 g3 g4 fb (wkS K st j) lol rsl (.slice ko ks.length kc) ks)) (fun mv _=>(intOf mv).toNat)
 case atStart=>exact⟨0,qJ _,rfl,HJ0⟩
 case round=>
  obtain⟨j,hj,rfl,HJ⟩:=hrel;obtain⟨hb0r,hAr,HKr,dso,lo,ro,dc,lc,rc,hI,hsep⟩:=HJ.out;have HIr:=(show M _ from hI);obtain⟨_,b5,b6,b7,b8,b9,b10,b11,b12,b13⟩:=BQ hI.box;have hend:∀w',S wr.heap.size wr w'->(j=many\/¬(wkS K st j).n<K)->SxV m ps l K w0 w' g0 g1 g2 g3 g4 fb (wkS K st many):=fun w' hb hor=>by
   have e:wkS K st j=wkS K st many:=by
    rcases hor with e|h
    .rw[e]
    .exact Vl hj h
   rw[<-e];exact⟨HSt.out.wk j,fun e2=>absurd (hup.symm.trans e2) (by simp),hb0r.trans (hb.mono hb0r.size),HV0.out.fnd,dso,lo,ro,dc,lc,rc,lol,rsl,hI.below hb⟩
  have HEnd:=(show M _ from hend);have hnK:(wkS K st j).n<=K:=by have:=(HSt.out.wk j).b;have:=(HSt.out.wk j).c;omega
  have HnK:=(show M _ from hnK);clear hend hI HJ;by_cases hjm:j<many
  .have hmj:(0:Int)<((many-j:Nat):Int):=by omega
   by_cases hnn:(wkS K st j).n<K
   .have hlf:((wkS K st j).n:Int)<(fN m ps l (wkS K st j).n:Int):=by have:=GP HK.out.done hnn;omega
    obtain⟨hn1,hn2,hn3,hn4,hn5,hn6⟩:=Vm HSt.out hnn;have HN1:M ((wkS K st j).n=st.n+j/\(wkS K st (j+1)).n=st.n+j+1/\(wkS K st (j+1)).mx=max (wkS K st j).mx (st.n+j+1)/\(wkS K st (j+1)).ag=(wkS K st j).ag+(if st.n+j<st.mx then 1 else 0)/\(wkS K st (j+1)).s=(wkS K st j).s/\(wkS K st (j+1)).up=(wkS K st j).up):=⟨hn1,hn2,hn3,hn4,hn5,hn6⟩;clear hn1 hn2 hn3 hn4 hn5 hn6;obtain⟨d0,d1,ro9,rc9,d2,hrec⟩:=(HFn.out wr hb0r).2 _ hnn;obtain⟨rb,roff,rfl,hrbl,hrat⟩:∃rb roff,ro9=V ⟨rb,roff,Y⟩/\rb<wr.heap.size/\CI wr rb roff (AD (rcX m ps l (wkS K st j).n)):=by
     obtain⟨ao,cap,e1,_,h3⟩:=id hrec;injection e1 with e1 _ _;subst e1;exact h3 (by intro h;have:=Cy (rcX m ps l (wkS K st j).n);rw[h]at this;simp at this)
    have HRec:=(show M _ from hrec);have HDl:M ((byX m ps l (wkS K st j).n).length<=16000/\(AD (rcX m ps l (wkS K st j).n)).length<=16000/\0<(AD (rcX m ps l (wkS K st j).n)).length):=by
     have h1:=HK.out.bytes (n:=(wkS K st j).n) (qS hnn);have h2:=Cy (rcX m ps l (wkS K st j).n);have h3:=Fs (m:=m) (ps:=ps) (l:=l) (wkS K st j).n;have h4:=(DR HK.out.done (j:=(wkS K st j).n+1) hnn).2;have h5:=HK.out.few;show _/\_/\_;omega
    have HRt:M (∀W,S wr.heap.size wr W->∀i u,(AF (AD (rcX m ps l (wkS K st j).n)))[i]? = V u->W.cell? ((⟨rb,roff,Y⟩:Addr).add i)=V u):=fun W hb=>(hrat.below hb hrbl).cells;have HJr:M (SxJ w0 wr (seB g0 g1 g2 g3 g4 (U (V ⟨fb,0,Y⟩) K K) st.up (fN m ps l (wkS K st j).n) (wkS K st j).n (.slice dso (byX m ps l (wkS K st j).n).length dc) (byX m ps l (wkS K st j).s).length (.slice lo lol.length lc) (.slice ro rsl.length rc) (wkS K st j).ag) (.slice dso (byX m ps l (wkS K st j).n).length dc) (byX m ps l (wkS K st j).n).length (byX m ps l (wkS K st j).n) (.slice lo lol.length lc) (.slice ro rsl.length rc) lol rsl):=⟨HIr.out.box,HIr.out.data,HIr.out.lost⟩;have HCl:M (∀W,S wr.heap.size wr W->(W.cell? ⟨w0.heap.size,5,Y⟩=V (U (V ⟨fb,0,Y⟩) K K)/\W.cell? ⟨w0.heap.size,8,Y⟩=V (.int Z ((wkS K st j).n:Nat)))/\W.cell? ⟨fb,(wkS K st j).n*3,Y⟩=V (.int Z (AO ((xpP m ps l K).getD (wkS K st j).n (0,0))))/\W.cell? ⟨fb,(wkS K st j).n*3+1,Y⟩=V (.int Z ((fN m ps l ((wkS K st j).n+1)-fN m ps l (wkS K st j).n:Nat):Int))/\W.cell? ⟨fb,(wkS K st j).n*3+2,Y⟩=V (U (V ⟨rb,roff,Y⟩) (AD (rcX m ps l (wkS K st j).n)).length rc9)):=fun W hb=>by
     have hc:∀(p:Addr) (x:E),wr.cell? p=V x->W.cell? p=V x:=fun p x h=>(hb.cell (World.block_lt_of_cell? wr p h)).trans h;exact⟨⟨hc _ _ b5,hc _ _ b8⟩,hc _ _ d0,hc _ _ d1,hc _ _ d2⟩
    have HBy:M (byX m ps l ((wkS K st j).n+1)=byX m ps l (wkS K st j).n++AD (rcX m ps l (wkS K st j).n)):=Kh _;have HKy:M (AO ((xpP m ps l K).getD (wkS K st j).n (0,0))=kyX m ps l K (wkS K st j).n):=rfl;have hfoK:fN m ps l (wkS K st j).n<=K/\fN m ps l ((wkS K st j).n+1)<=K/\fN m ps l (wkS K st j).n<=fN m ps l ((wkS K st j).n+1):=⟨(DR HK.out.done (qS hnn)).2,(DR HK.out.done hnn).2,ET (Nat.le_add_right _ 1)⟩;have hK1:=HK.out.few;have HFo:=(show M _ from hfoK);clear hrec hrat;generalize AO ((xpP m ps l K).getD (wkS K st j).n (0,0))=ky at *;generalize hfre:fN m ps l ((wkS K st j).n+1)-fN m ps l (wkS K st j).n=fr at *;have HFr:M (fN m ps l ((wkS K st j).n+1)=fN m ps l (wkS K st j).n+fr):=by show _=_;omega
    clear hfre hfoK;generalize hrl:AD (rcX m ps l (wkS K st j).n)=rec at *;generalize hbl:byX m ps l (wkS K st j).n=bs at *;have HBl:M (byX m ps l (wkS K st j).n=bs):=hbl;clear hrl hbl;generalize hdn:bs.length=dn at *;have HDn:M (bs.length=dn):=hdn;generalize hrn:rec.length=rn at *;have HRn:M (rec.length=rn):=hrn;clear hdn hrn
    have hagb:(wkS K st j).ag<=1000000001000:=by
     have h1:(wkS K st j).ag=st.ag+(min (min (st.n+j) K) st.mx-st.n):=rfl;have:=HK.out.few;omega
    generalize hag:(wkS K st j).ag=ag at *;generalize hne:(wkS K st j).n=n at *;have HNe:M ((wkS K st j).n=n):=hne;clear hag hne;generalize hfo:fN m ps l n=fo at *;have HFoe:M (fN m ps l n=fo):=hfo;clear hfo;generalize hmje:many-j=mj at *;have HMj:M (many-j=mj):=hmje;have hmjb:mj<=2147483647:=by omega
    clear hmje;obtain⟨hdl,hrl,hrp⟩:=HDl.out;clear HFn HIr;go_wp2_with fail
    have hd1:decide (0<mj)=true:=decide_eq_true (by omega);have hd2:decide (n<fo)=true:=decide_eq_true (by omega);go_quiet (fail)
    go_upto_region 6 with fail
    obtain⟨wq,hwq⟩:∃wq,wq=wr.drewN nq:=⟨_,rfl⟩;have hbq:S wr.heap.size wr wq:=by rw[hwq];exact⟨rfl,rfl,rfl,qB _,fun _ _=>rfl⟩
    rw[<-hwq];clear hwq;go_cut [7] (fun u wx=>∃B,u=ZY (V ⟨B,0,Y⟩)/\M (S wr.heap.size wr wx/\wx.heap[B]? = V (N #[ZZ Z ky,.int Z (fr:Nat),U (V ⟨rb,roff,Y⟩) rn rc9] 186 (0,0))/\wr.heap.size<=B))
    case first=>
     go_region_held3 (fun W=>(W.cell? ⟨w0.heap.size,5,Y⟩=V (U (V ⟨fb,0,Y⟩) K K)/\W.cell? ⟨w0.heap.size,8,Y⟩=V (.int Z (n:Nat)))/\W.cell? ⟨fb,n*3,Y⟩=V (.int Z ky)/\W.cell? ⟨fb,n*3+1,Y⟩=V (.int Z (fr:Nat))/\W.cell? ⟨fb,n*3+2,Y⟩=V (U (V ⟨rb,roff,Y⟩) rn rc9))
      (first|exact HCl.out _ (hbq.drew)|exact HCl.out _ hbq|exact HCl.out _ (hbq.alloc hbq.size _)|exact HCl.out _ (hbq.drew.alloc hbq.size _)|exact HCl.out _ ((hbq.drew.alloc hbq.size _).setCell (by simp;have:=hbq.size;omega) _))
      (fail)
     all_goals go_wp2_with fail
     all_goals go_meet
     all_goals exact⟨_,rfl,(hbq.alloc hbq.size _).drew,(MapKept.heap_alloc wq _).1,hbq.size⟩
    case rest=>
     obtain⟨B,rfl,HF⟩:=hcut;obtain⟨w2,rfl⟩:∃w4,w4=wc:=⟨_,rfl⟩;have hb2:=HF.out.1;have HJ2:=(show M _ from HJr.out.below hb2);obtain⟨_,x5,x6,x7,x8,x9,x10,x11,x12,x13⟩:=BQ HJ2.out.1;have hBc:=HF.out.2.1;have f0:w2.cell? ⟨B,0,Y⟩=V (.int Z ky):=by simp[World.cell?,hBc]
     have f1:w2.cell? ⟨B,1,Y⟩=V (.int Z (fr:Nat)):=by simp[World.cell?,hBc]
     have f2:w2.cell? ⟨B,2,Y⟩=V (U (V ⟨rb,roff,Y⟩) rn rc9):=by simp[World.cell?,hBc]
     have hBl:B<w2.heap.size:=(qG.1 hBc).1;clear hBc;have hbig:¬(1048576:Int)<(dn:Int)+(rn:Int):=by omega
     go_wp2_with fail
     go_quiet (fail)
     go_upto_region 8 with fail
     obtain⟨w3,hw3⟩:∃w3,w3=w2.drewN nq:=⟨_,rfl⟩;have hb3:S w2.heap.size w2 w3:=by rw[hw3];exact⟨rfl,rfl,rfl,qB _,fun _ _=>rfl⟩
     rw[<-hw3];clear hw3;have HW:M (∀W,S w2.heap.size w2 W->(W.cell? ⟨w0.heap.size,9,Y⟩=V (U dso dn dc)/\W.cell? ⟨B,2,Y⟩=V (U (V ⟨rb,roff,Y⟩) rn rc9))/\W.ownsRow (w0.heap.size+1) 5 1 (U dso dn dc) dn (AF bs)/\(∀i u,(AF rec)[i]? = V u->W.cell? ((⟨rb,roff,Y⟩:Addr).add i)=V u)/\w0.heap.size+1<=W.heap.size):=fun W h=>by
      have h2:=HJ2.out.below h;obtain⟨_,_,_,_,_,y9,_⟩:=BQ h2.1;exact⟨⟨y9,(h.cell (World.block_lt_of_cell? w2 _ f2)).trans f2⟩,h2.data,HRt.out W (hb2.trans (h.mono hb2.size)),(qG.1 h2.1).1⟩
     have HGr:M (∀W w4 (g cap:Nat),S w2.heap.size w2 W->W.grownBy w4 (Value.slice dso dn dc).ownBlock->w4.ownsRow (w0.heap.size+1) 5 1 (U (V ⟨g,0,Y⟩) (dn+rn) cap) (dn+rn) (AF bs++AF rec)->((Value.slice dso dn dc).ownBlock=V g\/g=W.heap.size)->((∃v,w4.cell? ⟨w0.heap.size,9,Y⟩=V v)/\w4.frozen? ⟨w0.heap.size,9,Y⟩=O)/\SxJ w0 (w4.setCell ⟨w0.heap.size,9,Y⟩ (U (V ⟨g,0,Y⟩) (dn+rn) cap)) (seB g0 g1 g2 g3 g4 (U (V ⟨fb,0,Y⟩) K K) st.up fo n (U (V ⟨g,0,Y⟩) (dn+rn) cap) (byX m ps l (wkS K st j).s).length (.slice lo lol.length lc) (.slice ro rsl.length rc) ag) (U (V ⟨g,0,Y⟩) (dn+rn) cap) (dn+rn) (bs++rec) (.slice lo lol.length lc) (.slice ro rsl.length rc) lol rsl/\S w0.heap.size w0 (w4.setCell ⟨w0.heap.size,9,Y⟩ (U (V ⟨g,0,Y⟩) (dn+rn) cap))/\wA.heap.size<=(w4.setCell ⟨w0.heap.size,9,Y⟩ (U (V ⟨g,0,Y⟩) (dn+rn) cap)).heap.size/\((w4.setCell ⟨w0.heap.size,9,Y⟩ (U (V ⟨g,0,Y⟩) (dn+rn) cap)).cell? ⟨B,0,Y⟩=V (.int Z ky)/\(w4.setCell ⟨w0.heap.size,9,Y⟩ (U (V ⟨g,0,Y⟩) (dn+rn) cap)).cell? ⟨B,1,Y⟩=V (.int Z (fr:Nat))/\B≠w0.heap.size)/\Ca (w4.setCell ⟨w0.heap.size,9,Y⟩ (U (V ⟨g,0,Y⟩) (dn+rn) cap)) (fun b=>w.heap.size<=b/\b<wA.heap.size) (.slice ko ks.length kc) ks/\(g<w.heap.size\/wA.heap.size<=g)):=fun W w4 g cap hb hg ho hat=>by
      have h2:=HJ2.out.below hb;have hbW:=hb2.trans (hb.mono hb2.size);have hoW:=HJr.out.data;have hX:w0.heap.size<wr.heap.size:=(qG.1 HJr.out.1).1;have hold:∀b,(Value.slice dso dn dc).ownBlock=V b->b<wr.heap.size/\w0.heap.size+1<=b:=fun b e=>⟨(hoW.lt b e).2,(hoW.lt b e).1⟩;rw[show AF bs++AF rec=AF (bs++rec)from(GE bs rec).symm]at ho;have h4:=h2.grow hg ho hat;obtain⟨_,_,_,_,_,y9,_⟩:=BQ h4.1;have h5:=h4.put (M7 h4.1 (U (V ⟨g,0,Y⟩) (dn+rn) cap));have hBX:B≠w0.heap.size:=by have:=HF.out.2.2;omega
      have hBW:∀i v,w2.cell? ⟨B,i,Y⟩=V v->(w4.setCell ⟨w0.heap.size,9,Y⟩ (U (V ⟨g,0,Y⟩) (dn+rn) cap)).cell? ⟨B,i,Y⟩=V v:=fun i v h=>by
       have h6:W.cell? ⟨B,i,Y⟩=V v:=(hb.cell (World.block_lt_of_cell? w2 _ h)).trans h;have h7:w4.heap[B]? = W.heap[B]?:=hg.block B (World.block_lt_of_cell? W _ h6) fun e=>by have:=(hold B e.symm).1;have:=HF.out.2.2;omega
       rw[World.cell?_of_block (a:=⟨B,i,Y⟩) ((RowKit.Below.heap_setCell _ _ _ _ (by show B≠w0.heap.size;exact hBX)).trans h7)];exact h6
      refine⟨⟨⟨_,y9⟩,CE h4.1 9⟩,h5,?_,by simpa using qI (qI hAr hbW.size) hg.size,⟨hBW 0 _ f0,hBW 1 _ f1,hBX⟩,HKr.blocks (by simpa using qI hbW.size hg.size) (fun b hlt hp=>⟨?_,hp⟩),?_⟩
      .exact (Below.grown (hb0r.trans (hbW.mono hb0r.size)) hg (qI hb0r.size hbW.size) (fun z hz=>by have:=(hold z hz).2;omega)).setCell (p:=⟨w0.heap.size,9,Y⟩) (qB _) _
      .refine (RowKit.Below.heap_setCell _ _ _ _ (by show b≠w0.heap.size;omega)).trans ((hg.block b (qE hlt hbW.size) fun e=>?_).trans (hbW.block b hlt));have:=hsep b e.symm;omega
      .rcases hat with e|e
       .exact hsep g e
       .right;have:=hbW.size;omega
     obtain⟨i0,hi,hz0,hz1,hz2⟩:=info_parts Ff;have HLm:M ((AF rec).length=rn*1):=by show _=_;rw[EQ,HRn.out];omega
     have h63:dn+rn<=maxLen:=by unfold maxLen;omega
     clear x5 x6 x7 x8 x9 x10 x11 x12 x13 f0 f1 f2;go_cut [] (fun wx=>∃g cap,M (SxJ w0 wx (seB g0 g1 g2 g3 g4 (U (V ⟨fb,0,Y⟩) K K) st.up fo n (U (V ⟨g,0,Y⟩) (dn+rn) cap) (byX m ps l (wkS K st j).s).length (.slice lo lol.length lc) (.slice ro rsl.length rc) ag) (U (V ⟨g,0,Y⟩) (dn+rn) cap) (dn+rn) (bs++rec) (.slice lo lol.length lc) (.slice ro rsl.length rc) lol rsl/\S w0.heap.size w0 wx/\wA.heap.size<=wx.heap.size/\(wx.cell? ⟨B,0,Y⟩=V (.int Z ky)/\wx.cell? ⟨B,1,Y⟩=V (.int Z (fr:Nat))/\B≠w0.heap.size)/\Ca wx (fun b=>w.heap.size<=b/\b<wA.heap.size) (.slice ko ks.length kc) ks/\(g<w.heap.size\/wA.heap.size<=g)))
     case first=>
      obtain⟨⟨z9,z2⟩,_⟩:=HW.out _ hb3;obtain⟨⟨z9',z2'⟩,_⟩:=HW.out _ hb3.drew;go_region_law (first
       |(refine step_append_lies _ (by rfl) (.tmp 60) (.tmp 62) 142 (by rfl) (w0.heap.size+1) 5 i0 _ 1 1 Tryz.underlying142 hi hz0 hz1 hz2 (by rfl) (by decide) (U dso dn dc) dn (AF bs) (by rfl) (HW.out _ (by first|exact hb3.drew|exact hb3)).2.1 ⟨rb,roff,Y⟩ rn rc9 (AF rec) (by rfl) HLm.out (HW.out _ (by first|exact hb3.drew|exact hb3)).2.2.1 (IM rec) hrp h63 (by omega) (HW.out _ (by first|exact hb3.drew|exact hb3)).2.2.2 _ rfl ?_;intro gg gcap w4 ho4 hg4 hat4 hlt4;obtain⟨⟨⟨v9,y9⟩,yf⟩,hgr⟩:=HGr.out _ w4 gg gcap (by first|exact hb3.drew|exact hb3) hg4 ho4 hat4;have HGG:=(show M _ from hgr)))
      all_goals go_wp2_with fail
      all_goals go_meet
      all_goals exact⟨gg,gcap,HGG.out⟩
     case rest=>
      obtain⟨gg,gcap,HP⟩:=hcut;obtain⟨w4,rfl⟩:∃w4,w4=wc:=⟨_,rfl⟩;obtain⟨hj4,hb04,hA4,⟨f0,f1,hBX⟩,hks4,hgg⟩:=id HP.out;obtain⟨_,_,_,x7,x8,_,_,_,_,x13⟩:=BQ hj4.box;have xf:=CE hj4.box;have xf7:=xf 7;have xf8:=xf 8;go_upto_region 10 with fail
      obtain⟨w5,hw5⟩:∃w5,w5=w4.setCell ⟨w0.heap.size,8,Y⟩ (.int Z ((n:Int)+1)):=⟨_,rfl⟩;rw[<-hw5];have hj5:SxJ w0 w5 (seB g0 g1 g2 g3 g4 (U (V ⟨fb,0,Y⟩) K K) st.up fo (n+1) (U (V ⟨gg,0,Y⟩) (dn+rn) gcap) (byX m ps l (wkS K st j).s).length (.slice lo lol.length lc) (.slice ro rsl.length rc) ag) (U (V ⟨gg,0,Y⟩) (dn+rn) gcap) (dn+rn) (bs++rec) (.slice lo lol.length lc) (.slice ro rsl.length rc) lol rsl:=by
       rw[hw5];exact hj4.put (M8 hj4.box (n+1))
      have hcX:∀i v,w4.cell? ⟨B,i,Y⟩=V v->w5.cell? ⟨B,i,Y⟩=V v:=fun i v h=>by
       rw[hw5,World.cell?_of_block (a:=⟨B,i,Y⟩) (RowKit.Below.heap_setCell _ _ _ _ (by show B≠w0.heap.size;exact hBX))];exact h
      have f05:=hcX 0 _ f0;have f15:=hcX 1 _ f1;have hb05:S w0.heap.size w0 w5:=by rw[hw5];exact hb04.setCell (p:=⟨w0.heap.size,8,Y⟩) (qB _) _
      have hA5:wA.heap.size<=w5.heap.size:=by rw[hw5];simpa using hA4
      have hk5:Ca w5 (fun b=>w.heap.size<=b/\b<wA.heap.size) (.slice ko ks.length kc) ks:=by
       rw[hw5];exact hks4.blocks (by simp) fun b hlt hp=>⟨RowKit.Below.heap_setCell _ _ _ _ (by show b≠w0.heap.size;omega),hp⟩
      clear hw5 hcX f0 f1 x7 x8 x13 xf xf7 xf8 hj4 hb04 hA4 hks4;obtain⟨_,_,_,x7,x8,_,_,_,_,x13⟩:=BQ hj5.box;have xf7:=CE hj5.box 7;have HP5:M ((SxJ w0 w5 (seB g0 g1 g2 g3 g4 (U (V ⟨fb,0,Y⟩) K K) st.up fo (n+1) (U (V ⟨gg,0,Y⟩) (dn+rn) gcap) (byX m ps l (wkS K st j).s).length (.slice lo lol.length lc) (.slice ro rsl.length rc) ag) (U (V ⟨gg,0,Y⟩) (dn+rn) gcap) (dn+rn) (bs++rec) (.slice lo lol.length lc) (.slice ro rsl.length rc) lol rsl)/\S w0.heap.size w0 w5/\wA.heap.size<=w5.heap.size/\(w5.cell? ⟨B,0,Y⟩=V (.int Z ky))/\Ca w5 (fun b=>w.heap.size<=b/\b<wA.heap.size) (.slice ko ks.length kc) ks/\(gg<w.heap.size\/wA.heap.size<=gg)):=⟨hj5,hb05,hA5,f05,hk5,hgg⟩;clear hj5 hb05 hA5 hk5 hgg;have hsum:((fo:Int)+(fr:Int))=((fo+fr:Nat):Int):=by omega
      go_cut [] (fun wx=>∃wy,wx=wy.setCell ⟨w0.heap.size,7,Y⟩ (.int Z ((fo:Int)+(fr:Int)))/\S w5.heap.size w5 wy)
      case first=>
       have hfb:=HFo.out;have hfr1:fr<=1000:=by have:=HFr.out;omega
       clear hsum;go_region_law (fail)
       all_goals go_wp2_with fail
       all_goals go_meet
       all_goals exact⟨w5.drew,by rw[IntWalk.i64_left,IntWalk.wrap64_in _ (by omega)];rfl,(qD _ _).drew⟩
      case rest=>
       obtain⟨wy,rfl,hby⟩:=hcut;obtain⟨w6,hw6⟩:∃w6,w6=wy.setCell ⟨w0.heap.size,7,Y⟩ (.int Z ((fo:Int)+(fr:Int))):=⟨_,rfl⟩;rw[<-hw6];obtain⟨hj5,hb05,hA5,f05,hk5,hgg⟩:=HP5.out;have hjy:=hj5.below hby
       have HP6:M (SxJ w0 w6 (seB g0 g1 g2 g3 g4 (U (V ⟨fb,0,Y⟩) K K) st.up (fo+fr) (n+1) (U (V ⟨gg,0,Y⟩) (dn+rn) gcap) (byX m ps l (wkS K st j).s).length (.slice lo lol.length lc) (.slice ro rsl.length rc) ag) (U (V ⟨gg,0,Y⟩) (dn+rn) gcap) (dn+rn) (bs++rec) (.slice lo lol.length lc) (.slice ro rsl.length rc) lol rsl/\S w0.heap.size w0 w6/\wA.heap.size<=w6.heap.size/\w6.cell? ⟨B,0,Y⟩=V (.int Z ky)/\Ca w6 (fun b=>w.heap.size<=b/\b<wA.heap.size) (.slice ko ks.length kc) ks):=by
        rw[hw6,hsum];refine⟨hjy.put (Jc hjy.box (fo+fr)),(hb05.trans (hby.mono hb05.size)).setCell (p:=⟨w0.heap.size,7,Y⟩) (qB _) _,by simpa using qI hA5 hby.size,?_,(hk5.blocks hby.size fun b hlt hp=>⟨hby.block b hlt,hp⟩).blocks (by simp) fun b hlt hp=>⟨RowKit.Below.heap_setCell _ _ _ _ (by show b≠w0.heap.size;omega),hp⟩⟩;rw[World.cell?_of_block (a:=⟨B,0,Y⟩) (RowKit.Below.heap_setCell _ _ _ _ (by show B≠w0.heap.size;exact hBX))];exact(hby.cell (World.block_lt_of_cell? w5 _ f05)).trans f05
       have hin:=LX ky ko kc ks w6 HKs.out.2.1 HKs.out.1 HP6.out.2.2.2.2.1;have f06:=HP6.out.2.2.2.1;have HFin:M (∀(W:J) (ag':Nat),SxJ w0 W (seB g0 g1 g2 g3 g4 (U (V ⟨fb,0,Y⟩) K K) st.up (fo+fr) (n+1) (U (V ⟨gg,0,Y⟩) (dn+rn) gcap) (byX m ps l (wkS K st j).s).length (.slice lo lol.length lc) (.slice ro rsl.length rc) ag') (U (V ⟨gg,0,Y⟩) (dn+rn) gcap) (dn+rn) (bs++rec) (.slice lo lol.length lc) (.slice ro rsl.length rc) lol rsl->S w0.heap.size w0 W->wA.heap.size<=W.heap.size->Ca W (fun b=>w.heap.size<=b/\b<wA.heap.size) (.slice ko ks.length kc) ks->ag'=ag+(if n<st.mx then 1 else 0)->WkJ m ps l K w0 w wA W g0 g1 g2 g3 g4 fb (wkS K st (j+1)) lol rsl (.slice ko ks.length kc) ks):=fun W ag' hj hb hA hk hag=>by
        obtain⟨e1,e2,e3,e4,e5,e6⟩:=HN1.out;rw[<-e1]at e2 e3 e4;have hlen:(byX m ps l (n+1)).length=dn+rn:=by rw[HBy.out,qF,HDn.out,HRn.out]
        refine⟨hb,hA,hk,V ⟨gg,0,Y⟩,lo,ro,gcap,lc,rc,⟨?_,?_,?_,HI0.out.may,fun x hx=>?_,fun p hp1 hp2=>?_⟩,?_⟩
        .rw[hj.box,e2,hlen,HFr.out,e5,e4,<-hag];rfl
        .rw[e2,hlen,HBy.out];exact hj.data
        .rw[e2,hlen];exact hj.lost
        .obtain ⟨p,hp,hx2⟩:=HI0.out.keys x hx;refine⟨p,?_,hx2⟩;rw[e3];have:st.mx<=(wkS K st j).mx:=Nat.le_max_left _ _;omega
        .rw[e2]at hp1;rw[e3]at hp2;have h9:(wkS K st j).mx=max st.mx (min (st.n+j) K):=rfl;exact HI0.out.back p (by omega) (by omega)
        .rw[e2,hlen];intro g e;injection e with e;subst e;exact hgg
       have hiff:=HKs.out.2.2 n (by have:=HN1.out.1;omega) hnn;rw[<-HKy.out]at hiff;obtain⟨_,_,_,_,x8,_,_,_,_,x13⟩:=BQ HP6.out.1.box;have xf13:=CE HP6.out.1.box 13;clear hw6 hjy hj5 hb05 hA5 hk5 f05 hby
       by_cases hmem:ky∈ks
       .rw[decide_eq_true hmem]at hin;have hlt:=hiff.1 hmem;go_wp2_with (go_at_call 82;refine hin.mono ?_;rintro e w7 ⟨rfl,q,rfl⟩)
        have hdr:S w6.heap.size w6 (w6.drewN q):=⟨rfl,rfl,rfl,qB _,fun _ _=>rfl⟩;obtain⟨p1,p2,p3,_,p5⟩:=HP6.out;rw[show(ag:Int)+1=((ag+1:Nat):Int) by omega];have hj7:=(p1.below hdr).put (UJ (p1.below hdr).box (ag+1));have HK7:=(show M _ from HFin.out _ (ag+1) hj7 ((p2.trans (hdr.mono p2.size)).setCell (p:=⟨w0.heap.size,13,Y⟩) (qB _) _) (by simpa using p3) ((p5.blocks hdr.size fun b hlt hp=>⟨hdr.block b hlt,hp⟩).blocks (by simp) fun b hlt hp=>⟨RowKit.Below.heap_setCell _ _ _ _ (by show b≠w0.heap.size;omega),hp⟩) (by rw[if_pos hlt]));go_roundw
        case rel=>exact⟨j+1,by omega,by have:=HMj.out;congr 1;omega,HK7⟩
        case measure=>
         simp[intOf];omega
       .rw[decide_eq_false hmem]at hin;have hlt:¬n<st.mx:=fun h=>hmem (hiff.2 h);go_wp2_with (go_at_call 82;refine hin.mono ?_;rintro e w7 ⟨rfl,q,rfl⟩)
        have hdr:S w6.heap.size w6 (w6.drewN q):=⟨rfl,rfl,rfl,qB _,fun _ _=>rfl⟩;obtain⟨p1,p2,p3,_,p5⟩:=HP6.out;have HK7:=(show M _ from HFin.out _ ag (p1.below hdr) (p2.trans (hdr.mono p2.size)) p3 (p5.blocks hdr.size fun b hlt hp=>⟨hdr.block b hlt,hp⟩) (by simp[hlt]));go_roundw
        case rel=>exact⟨j+1,by omega,by have:=HMj.out;congr 1;omega,HK7⟩
        case measure=>
         simp[intOf];omega
   .have hlf:¬((wkS K st j).n:Int)<(fN m ps l (wkS K st j).n:Int):=by
     have e:(wkS K st j).n=K:=by omega
     rw[e,GQ HK.out.done];omega
    generalize(wkS K st j).n=n at *;generalize fN m ps l n=fo at *;generalize many-j=mj at *
    go_wp2_with fail
    have hd1:decide (0<mj)=true:=decide_eq_true (by omega);have hd2:decide (n<fo)=false:=decide_eq_false (by omega);go_quiet (fail)
    all_goals go_wp2_with fail
    all_goals go_ret
    all_goals exact⟨by first|rfl|simp,HEnd.out _ ⟨rfl,rfl,rfl,qB _,fun _ _=>rfl⟩ (.inr hnn)⟩
  .have hmj:¬(0:Int)<((many-j:Nat):Int):=by omega
   generalize many-j=mj at *
   go_wp2_with fail
   have hd1:decide (0<mj)=false:=decide_eq_false (by omega);go_quiet (fail)
   all_goals go_wp2_with fail
   all_goals go_ret
   all_goals exact⟨by first|rfl|simp,HEnd.out _ ⟨rfl,rfl,rfl,qB _,fun _ _=>rfl⟩ (.inl (by omega))⟩
section
variable{m:Mo}{ps:List (List (Int×Int))}{l:List (Int×Int)}{K fb:Nat}{w0 w:J}{st:Sr}{g0 g2 g3:E}{g1 g4:Int}
theorem SxV.start(h:SxV m ps l K w0 w g0 g1 g2 g3 g4 fb st):SxV m ps l K w0 (w.setCell ⟨w0.heap.size,6,Y⟩ (.bool true)) g0 g1 g2 g3 g4 fb { st with up:=true}:=by
 obtain⟨dso,lo,ro,dc,lc,rc,lol,rsl,hI⟩:=h.lies;obtain⟨s1,s2⟩:=hI.setB 6 (.bool true);exact⟨⟨h.ok.a,h.ok.b,h.ok.c⟩,fun e=>(by cases e),h.bel_set 6 _,h.fnd,dso,lo,ro,dc,lc,rc,lol,rsl,⟨M9 hI.box true,s1,s2,hI.may,hI.keys,hI.back⟩⟩
theorem PZ(hK:SmallK m ps l K)(h:SxV m ps l K w0 w g0 (AC m ps l).length g2 g3 g4 fb st)(hag:st.ag<=1000000000000)(v:Int×Int)(hv:v.1=1\/v.1=2\/v.1=3\/v.1=4)(h0:0<=v.2)(h1:v.2<=2147483647) :
  r qA 37 #[ZY (V ⟨w0.heap.size,0,Y⟩),C #[ZZ Z v.1,.int Z v.2]] w fun e w'=>e=G (.int Z 0)/\SxV m ps l K w0 w' g0 (AC m ps l).length g2 g3 g4 fb (mvS m ps l K st v):=by
 obtain⟨kind,many⟩:=v;simp only at hv h0 h1;obtain⟨k,rfl⟩:=Int.eq_ofNat_of_zero_le h0;have hal:S w.heap.size w (w.alloc (N #[ZZ Z kind,.int Z (k:Nat)] 53)):=(qD _ _).alloc (qB _) _;have hA:=h.below hal;obtain⟨q0,q1⟩:=(show _/\_ from⟨Hm (MapKept.heap_alloc w (N #[ZZ Z kind,.int Z (k:Nat)] 53)).1,Hn (MapKept.heap_alloc w (N #[ZZ Z kind,.int Z (k:Nat)] 53)).1⟩);obtain⟨dso,lo,ro,dc,lc,rc,lol,rsl,hI⟩:=hA.lies;obtain⟨_,_,c6,_⟩:=BQ hI.box;have f6:=CE hI.box 6;have hwl:=hI.lt;clear hI;by_cases h4:kind=4
 .subst h4;have hm:mvS m ps l K st (4,(k:Int))={ st with up:=true}:=if_pos rfl;rw[hm];have HS:=(show M _ from hA.start);clear hA h hv;go_enter Tryz.func37,Tryz.ntmps37;go_wp2_with fail
  go_ret;exact⟨rfl,HS.out⟩
 .cases hup:st.up with
  |false=>
   have hm:mvS m ps l K st (kind,(k:Int))=st:=by unfold mvS;rw[if_neg h4,if_pos hup]
   rw[hm];rw[hup]at c6;have HS:=(show M _ from hA);clear hA h hm hup;have hv':kind=1\/kind=2\/kind=3:=by omega
   clear hv h4;rcases hv' with rfl|rfl|rfl;all_goals go_enter Tryz.func37,Tryz.ntmps37
   all_goals go_wp2_with fail
   all_goals go_ret
   all_goals exact⟨rfl,HS.out⟩
  |true=>
   rw[hup]at c6;have hv':kind=1\/kind=2\/kind=3:=by omega
   clear hv h4;rcases hv' with rfl|rfl|rfl
   .have hm:mvS m ps l K st (1,(k:Int))=wkS K st k:=by
     unfold mvS;rw[if_neg (show¬(1:Int)=4 by decide),if_neg (by simp[hup]),if_pos rfl];rfl
    rw[hm];have HC:=Vs k (by omega) hag hK hA hup;clear hA h hm hup;go_enter Tryz.func37,Tryz.ntmps37;go_wp2_with (go_at_call 56;refine HC.mono ?_;rintro e w2 ⟨rfl,HV⟩;have HS:=(show M _ from HV))
    go_ret;exact⟨rfl,HS.out⟩
   .have hm:mvS m ps l K st (2,(k:Int))={ st with s:=st.n}:=by
     unfold mvS;rw[if_neg (show¬(2:Int)=4 by decide),if_neg (by simp[hup]),if_neg (show¬(2:Int)=1 by decide),if_pos rfl]
    rw[hm];have HC:=UG hK hA hup;clear hA h hm hup;go_enter Tryz.func37,Tryz.ntmps37;go_wp2_with (go_at_call 57;refine HC.mono ?_;rintro e w2 ⟨rfl,HV⟩;have HS:=(show M _ from HV))
    go_ret;exact⟨rfl,HS.out⟩
   .have hm:mvS m ps l K st (3,(k:Int))=crS m ps l st k:=by
     unfold mvS;rw[if_neg (show¬(3:Int)=4 by decide),if_neg (by simp[hup]),if_neg (show¬(3:Int)=1 by decide),if_neg (show¬(3:Int)=2 by decide)];rfl
    rw[hm];have HC:=PU hK hA k;clear hA h hm hup;go_enter Tryz.func37,Tryz.ntmps37;go_wp2_with (go_at_call 58;refine HC.mono ?_;rintro e w2 ⟨rfl,HV⟩;have HS:=(show M _ from HV))
    go_ret;exact⟨rfl,HS.out⟩
theorem CR{w:J}{X:Nat}{a0 a1 a2 a3 a4 a5 a6:E}{t:TypeId}(h:w.heap[X]? = V (N #[a0,a1,a2,a3,a4,a5,a6] t)):w.cell? ⟨X,0,Y⟩=V a0/\w.cell? ⟨X,1,Y⟩=V a1/\w.cell? ⟨X,2,Y⟩=V a2/\w.cell? ⟨X,3,Y⟩=V a3/\w.cell? ⟨X,4,Y⟩=V a4/\w.cell? ⟨X,5,Y⟩=V a5/\w.cell? ⟨X,6,Y⟩=V a6:=by
 refine⟨?_,?_,?_,?_,?_,?_,?_⟩<;>simp[World.cell?,h]
theorem Ab{w:J}{X:Nat}{a0 a1 a2 a3 a4 a5 a6:E}{t:TypeId}(h:w.heap[X]? = V (N #[a0,a1,a2,a3,a4,a5,a6] t))(i:Nat):w.frozen? ⟨X,i,Y⟩=false:=by simp[World.frozen?,h]
theorem Sj{w:J}{X:Nat}{a0 a1 a2 a3 a4 a5 a6:E}{t:TypeId}(h:w.heap[X]? = V (N #[a0,a1,a2,a3,a4,a5,a6] t))(x:E):(w.setCell ⟨X,5,Y⟩ x).heap[X]? = V (N #[a0,a1,a2,a3,a4,x,a6] t):=by simp[World.setCell,qR,h]
theorem EF{w:J}{X:Nat}{a0 a1 a2 a3 a4 a5 a6:E}{t:TypeId}(h:w.heap[X]? = V (N #[a0,a1,a2,a3,a4,a5,a6] t))(b0 b1 b2 b3 b4 b5 b6:E):(((((((w.setCell ⟨X,0,Y⟩ b0).setCell ⟨X,1,Y⟩ b1).setCell ⟨X,2,Y⟩ b2).setCell ⟨X,3,Y⟩ b3).setCell ⟨X,4,Y⟩ b4).setCell ⟨X,5,Y⟩ b5).setCell ⟨X,6,Y⟩ b6).heap[X]? = V (N #[b0,b1,b2,b3,b4,b5,b6] t):=by simp[World.setCell,qR,h]
theorem JB{w W:J}(h:S w.heap.size w W)(b0 b1 b2 b3 b4 b5 b6:E):S w.heap.size w (((((((W.setCell ⟨w.heap.size,0,Y⟩ b0).setCell ⟨w.heap.size,1,Y⟩ b1).setCell ⟨w.heap.size,2,Y⟩ b2).setCell ⟨w.heap.size,3,Y⟩ b3).setCell ⟨w.heap.size,4,Y⟩ b4).setCell ⟨w.heap.size,5,Y⟩ b5).setCell ⟨w.heap.size,6,Y⟩ b6):=
 ((((((h.setCell (p:=⟨w.heap.size,0,Y⟩) (qB _) _).setCell (p:=⟨w.heap.size,1,Y⟩) (qB _) _).setCell (p:=⟨w.heap.size,2,Y⟩) (qB _) _).setCell (p:=⟨w.heap.size,3,Y⟩) (qB _) _).setCell (p:=⟨w.heap.size,4,Y⟩) (qB _) _).setCell (p:=⟨w.heap.size,5,Y⟩) (qB _) _).setCell (p:=⟨w.heap.size,6,Y⟩) (qB _) _
theorem Sz (hK:SmallK m ps l K) (h:SxV m ps l K w0 w g0 g1 g2 g3 g4 fb st) (c:Int) (hc:c=0\/c=11) (hF:∀ w2,S w.heap.size w w2->r qA 89 #[C #[g0,.int Z g1,g2,g3,.int Z g4]] w2 fun e w3=>∃ x,e=G (A #[ZZ Z x,.int Z c])/\S w2.heap.size w2 w3) :
    r qA 38 #[ZY (V ⟨w0.heap.size,0,Y⟩)] w fun e w'=>e=G (A #[C #[I st.up,.int Z (fN m ps l st.n:Nat),.int Z (st.n:Nat),.int Z (st.s:Nat),.int Z (st.ag:Nat),.bool (dnS m ps l st),.bool (dnS m ps l st&&decide (c=11))],.int Z 0])/\S w.heap.size w w':=by
  have hal:S w.heap.size w (w.alloc (N #[I O,.int Z 0,.int Z 0,.int Z 0,.int Z 0,.bool O,.bool O] 48)):=(qD _ _).alloc (qB _) _;have hbk:=(MapKept.heap_alloc w (N #[I O,.int Z 0,.int Z 0,.int Z 0,.int Z 0,.bool O,.bool O] 48)).1;have hsz:w.heap.size<(w.alloc (N #[I O,.int Z 0,.int Z 0,.int Z 0,.int Z 0,.bool O,.bool O] 48)).heap.size:=by simp
  have HSf:=UF hK (h.below hal);obtain⟨dso,lo,ro,dc,lc,rc,lol,rsl,hI⟩:=h.lies;have HB:M (∀w2,S w.heap.size w w2->(w2.cell? ⟨w0.heap.size,0,Y⟩=V g0/\w2.cell? ⟨w0.heap.size,1,Y⟩=V (.int Z g1)/\w2.cell? ⟨w0.heap.size,2,Y⟩=V g2/\w2.cell? ⟨w0.heap.size,3,Y⟩=V g3/\w2.cell? ⟨w0.heap.size,4,Y⟩=V (.int Z g4))/\w2.cell? ⟨w0.heap.size,6,Y⟩=V (.bool st.up)/\w2.cell? ⟨w0.heap.size,7,Y⟩=V (.int Z (fN m ps l st.n:Nat))/\w2.cell? ⟨w0.heap.size,8,Y⟩=V (.int Z (st.n:Nat))/\w2.cell? ⟨w0.heap.size,13,Y⟩=V (.int Z (st.ag:Nat))/\w0.heap.size<w2.heap.size):=fun w2 hb=>by
    obtain⟨a,_,b,c,d,_,_,_,_,e⟩:=BQ (hI.below hb).box;exact⟨a,b,c,d,e,(hI.below hb).lt⟩
  have HH:M (∀w2,S w.heap.size w w2->r qA 60 #[C #[g0,.int Z g1,g2,g3,.int Z g4]] w2 fun e w'=>e=G (A #[I (decide (c=11)),.int Z 0])/\S w2.heap.size w2 w'):=fun w2 hb=>Ua g0 g2 g3 g1 g4 c w2 hc fun w3 hb3=>hF w3 (hb.trans (hb3.mono hb.size));have hwl:=hI.lt;have hdn:dnS m ps l st=(st.up&&decide (fN m ps l st.n<=st.n)):=rfl;rw[hdn];have HBo:M (∀w2,S (w.alloc (N #[I O,.int Z 0,.int Z 0,.int Z 0,.int Z 0,.bool O,.bool O] 48)).heap.size (w.alloc (N #[I O,.int Z 0,.int Z 0,.int Z 0,.int Z 0,.bool O,.bool O] 48)) w2->w2.heap[w.heap.size]? = V (N #[I O,.int Z 0,.int Z 0,.int Z 0,.int Z 0,.bool O,.bool O] 48)/\w.heap.size<w2.heap.size/\S w.heap.size w w2):=fun w2 hb=>⟨(hb.block _ hsz).trans hbk,qE hsz hb.size,hal.trans (hb.mono (qS hsz))⟩;obtain⟨up,n,s,mx,ag⟩:=st;simp only at *
  clear hI h hF hdn hal hbk hsz;generalize fN m ps l n=fo at *;generalize decide (c=11)=ho at *
  go_enter Tryz.func38,Tryz.ntmps38;go_upto_region 4 with(go_at_call 59;refine HSf.mono ?_;rintro e w2 ⟨rfl,hb2⟩;obtain⟨ho1,ho2,ho3⟩:=HBo.out w2 hb2)
  obtain⟨⟨d0,d1,d2,d3,d4⟩,d6,d7,d8,d13,dl⟩:=HB.out w2 ho3;have HO1:=(show M _ from ho1);clear ho1 d0 d1 d2 d3 d4;go_cut [6] (fun u wx=>u=ZY (V ⟨w2.heap.size,0,Y⟩)/\wx.heap[w2.heap.size]? = V (N #[I up,.int Z (fo:Nat),.int Z (n:Nat),.int Z (s:Nat),.int Z (ag:Nat),.bool O,.bool O] 48)/\S w2.heap.size w2 wx)
  case first=>
    have HSX:M (∀W,S w2.heap.size w2 W->W.cell? ⟨w0.heap.size,6,Y⟩=V (.bool up)/\W.cell? ⟨w0.heap.size,7,Y⟩=V (.int Z (fo:Nat))/\W.cell? ⟨w0.heap.size,8,Y⟩=V (.int Z (n:Nat))/\W.cell? ⟨w0.heap.size,13,Y⟩=V (.int Z (ag:Nat))):=fun W hb=>⟨(hb.cell dl).trans d6,(hb.cell dl).trans d7,(hb.cell dl).trans d8,(hb.cell dl).trans d13⟩;clear HH HB HBo d6 d7 d8 d13;go_region_held3 (fun W=>W.cell? ⟨w0.heap.size,6,Y⟩=V (.bool up)/\W.cell? ⟨w0.heap.size,7,Y⟩=V (.int Z (fo:Nat))/\W.cell? ⟨w0.heap.size,8,Y⟩=V (.int Z (n:Nat))/\W.cell? ⟨w0.heap.size,13,Y⟩=V (.int Z (ag:Nat)))
      ((refine HSX.out _ ?_;repeat (first|exact(qD _ _).drew.alloc (qB _) _|exact(qD _ _).drew|exact(qD _ _).alloc (qB _) _|exact qD _ _|refine RowKit.Below.setCell ?_ (by first|exact qB _|(simp)) _)))
      (fail)
    all_goals go_wp2_with fail
    all_goals go_meet
    all_goals exact⟨rfl,(MapKept.heap_alloc w2 _).1,((qD _ _).alloc (qB _) _).drew⟩
  case rest=>
    obtain⟨rfl,hox,hbx⟩:=hcut;have hbw:S w.heap.size w wc:=ho3.trans (hbx.mono (qS ho2));clear d6 d7 d8 d13 dl;obtain⟨⟨d0,d1,d2,d3,d4⟩,d6,d7,d8,_,dl⟩:=HB.out wc hbw;have hrr:=(hbx.block _ ho2).trans HO1.out;obtain⟨r0,r1,r2,r3,r4,r5,r6⟩:=CR hrr;have rf0:=Ab hrr 0;have rf1:=Ab hrr 1;have rf2:=Ab hrr 2;have rf3:=Ab hrr 3;have rf4:=Ab hrr 4;have rf5:=Ab hrr 5;have rf6:=Ab hrr 6;obtain⟨x0,x1,x2,x3,x4,x5,x6⟩:=CR hox;have HB9:M (S w.heap.size w wc):=hbw;have hx5:=Ab hox 5;have hx6:=Ab hox 6;have hol:w2.heap.size<wc.heap.size:=(qG.1 hox).1;have hrl:w.heap.size<wc.heap.size:=by have:=hbx.size;omega
    have HSt:up=true->M (∀q:Nat,r qA 60 #[C #[g0,.int Z g1,g2,g3,.int Z g4]] ((wc.drewN q).setCell ⟨w2.heap.size,5,Y⟩ (.bool true)) fun e w8=>e=G (A #[I ho,.int Z 0])/\w8.heap[w2.heap.size]? = V (N #[I true,.int Z (fo:Nat),.int Z (n:Nat),.int Z (s:Nat),.int Z (ag:Nat),.bool true,.bool O] 48)/\w8.heap[w.heap.size]? = V (N #[I O,.int Z 0,.int Z 0,.int Z 0,.int Z 0,.bool O,.bool O] 48)/\M (S w.heap.size w w8)):=fun hu q=>by
      subst hu;have hwq:S w.heap.size w (wc.drewN q):=hbw.trans ⟨rfl,rfl,rfl,qB _,fun _ _=>rfl⟩;have hw1:S w.heap.size w ((wc.drewN q).setCell ⟨w2.heap.size,5,Y⟩ (.bool true)):=hwq.setCell (p:=⟨w2.heap.size,5,Y⟩) (qS ho2) (.bool true);refine(HH.out _ hw1).mono fun e w8 ⟨e1,e2⟩=>⟨e1,?_,?_,hw1.trans (e2.mono hw1.size)⟩
      . refine(e2.block _ (by simpa using hol)).trans ?_
        exact Sj (show(wc.drewN q).heap[w2.heap.size]? = _ from hox) _
      . refine(e2.block _ (by simpa using hrl)).trans ?_
        exact(RowKit.Below.heap_setCell _ _ _ _ (by show w.heap.size≠w2.heap.size;omega)).trans hrr
    have hne:w2.heap.size≠w.heap.size:=by omega
    have HRR:=(show M _ from hrr);clear hox hbx hbw ho3 hrr HO1;generalize w2.heap.size=B at *
    cases up with
    |false=>
      go_wp2_with fail
      go_quiet (fail)
      rename_i nq;go_wp2_with fail
      have hfin:=CR (EF (w:=(wc.drewN nq)) HRR.out (.bool O) (.int Z (fo:Nat)) (.int Z (n:Nat)) (.int Z (s:Nat)) (.int Z (ag:Nat)) (.bool O) (.bool O));have hbl:=JB (W:=(wc.drewN nq)) (HB9.out.trans ⟨rfl,rfl,rfl,qB _,fun _ _=>rfl⟩:S w.heap.size w (wc.drewN nq)) (.bool O) (.int Z (fo:Nat)) (.int Z (n:Nat)) (.int Z (s:Nat)) (.int Z (ag:Nat)) (.bool O) (.bool O);generalize((((((((wc.drewN nq).setCell ⟨w.heap.size,0,Y⟩ (.bool O)).setCell ⟨w.heap.size,1,Y⟩ (.int Z (fo:Nat))).setCell ⟨w.heap.size,2,Y⟩ (.int Z (n:Nat))).setCell ⟨w.heap.size,3,Y⟩ (.int Z (s:Nat))).setCell ⟨w.heap.size,4,Y⟩ (.int Z (ag:Nat))).setCell ⟨w.heap.size,5,Y⟩ (.bool O)).setCell ⟨w.heap.size,6,Y⟩ (.bool O))=WF at hfin hbl⊢;obtain⟨z0,z1,z2,z3,z4,z5,z6⟩:=hfin;refine bodyPost_ret (v:=A #[C #[I O,.int Z (fo:Nat),.int Z (n:Nat),.int Z (s:Nat),.int Z (ag:Nat),.bool O,.bool O],.int Z 0]) ?_ rfl ⟨by simp,hbl⟩;simp[results,Tryz.results38,go_sem,z0,z1,z2,z3,z4,z5,z6]
    |true=>
      by_cases hlt:n<fo
      . have hli:(n:Int)<(fo:Int):=by omega
        have hdd:decide (fo<=n)=false:=decide_eq_false (by omega);clear HSt;go_wp2_with fail
        have hd1:decide (n<fo)=true:=decide_eq_true hlt;go_quiet (fail)
        rename_i nq;go_wp2_with fail
        have hfin:=CR (EF (w:=(wc.drewN nq)) HRR.out (.bool true) (.int Z (fo:Nat)) (.int Z (n:Nat)) (.int Z (s:Nat)) (.int Z (ag:Nat)) (.bool O) (.bool O));have hbl:=JB (W:=(wc.drewN nq)) (HB9.out.trans ⟨rfl,rfl,rfl,qB _,fun _ _=>rfl⟩:S w.heap.size w (wc.drewN nq)) (.bool true) (.int Z (fo:Nat)) (.int Z (n:Nat)) (.int Z (s:Nat)) (.int Z (ag:Nat)) (.bool O) (.bool O);generalize((((((((wc.drewN nq).setCell ⟨w.heap.size,0,Y⟩ (.bool true)).setCell ⟨w.heap.size,1,Y⟩ (.int Z (fo:Nat))).setCell ⟨w.heap.size,2,Y⟩ (.int Z (n:Nat))).setCell ⟨w.heap.size,3,Y⟩ (.int Z (s:Nat))).setCell ⟨w.heap.size,4,Y⟩ (.int Z (ag:Nat))).setCell ⟨w.heap.size,5,Y⟩ (.bool O)).setCell ⟨w.heap.size,6,Y⟩ (.bool O))=WF at hfin hbl⊢;obtain⟨z0,z1,z2,z3,z4,z5,z6⟩:=hfin;refine bodyPost_ret (v:=A #[C #[I true,.int Z (fo:Nat),.int Z (n:Nat),.int Z (s:Nat),.int Z (ag:Nat),.bool O,.bool O],.int Z 0]) ?_ rfl ⟨by simp[hdd],hbl⟩;simp[results,Tryz.results38,go_sem,z0,z1,z2,z3,z4,z5,z6]
      . have hli:¬(n:Int)<(fo:Int):=by omega
        have hdd:decide (fo<=n)=true:=decide_eq_true (by omega);have HS8:=HSt rfl;clear HSt;go_wp2_with fail
        have hd1:decide (n<fo)=false:=decide_eq_false hlt;go_quiet (fail)
        go_wp2_with (go_at_call 60;refine(HS8.out _).mono ?_;rintro e w8 ⟨rfl,hb8,hr8,HB8⟩;obtain⟨x0,x1,x2,x3,x4,x5,x6⟩:=CR hb8;obtain⟨r0,r1,r2,r3,r4,r5,r6⟩:=CR hr8;have HR8:=(show M _ from hr8);have rf0:=Ab hr8 0;have rf1:=Ab hr8 1;have rf2:=Ab hr8 2;have rf3:=Ab hr8 3;have rf4:=Ab hr8 4;have rf5:=Ab hr8 5;have rf6:=Ab hr8 6;have hx6:=Ab hb8 6;have h81:=(qG.1 hb8).1;have h82:=(qG.1 hr8).1;clear hb8 hr8)
        have hr9:(w8.setCell ⟨B,6,Y⟩ (.bool ho)).heap[w.heap.size]? = _:=(RowKit.Below.heap_setCell _ _ _ _ (by show w.heap.size≠B;omega)).trans HR8.out;have hb9:S w.heap.size w (w8.setCell ⟨B,6,Y⟩ (.bool ho)):=HB8.out.setCell (p:=⟨B,6,Y⟩) (qS ho2) _;have hfin:=CR (EF (w:=(w8.setCell ⟨B,6,Y⟩ (.bool ho))) hr9 (.bool true) (.int Z (fo:Nat)) (.int Z (n:Nat)) (.int Z (s:Nat)) (.int Z (ag:Nat)) (.bool true) (.bool ho));have hbl:=JB (W:=(w8.setCell ⟨B,6,Y⟩ (.bool ho))) hb9 (.bool true) (.int Z (fo:Nat)) (.int Z (n:Nat)) (.int Z (s:Nat)) (.int Z (ag:Nat)) (.bool true) (.bool ho);generalize((((((((w8.setCell ⟨B,6,Y⟩ (.bool ho)).setCell ⟨w.heap.size,0,Y⟩ (.bool true)).setCell ⟨w.heap.size,1,Y⟩ (.int Z (fo:Nat))).setCell ⟨w.heap.size,2,Y⟩ (.int Z (n:Nat))).setCell ⟨w.heap.size,3,Y⟩ (.int Z (s:Nat))).setCell ⟨w.heap.size,4,Y⟩ (.int Z (ag:Nat))).setCell ⟨w.heap.size,5,Y⟩ (.bool true)).setCell ⟨w.heap.size,6,Y⟩ (.bool ho))=WF at hfin hbl⊢;obtain⟨z0,z1,z2,z3,z4,z5,z6⟩:=hfin;refine bodyPost_ret (v:=A #[C #[I true,.int Z (fo:Nat),.int Z (n:Nat),.int Z (s:Nat),.int Z (ag:Nat),.bool true,.bool ho],.int Z 0]) ?_ rfl ⟨by simp[hdd],hbl⟩;simp[results,Tryz.results38,go_sem,z0,z1,z2,z3,z4,z5,z6]
end
open Go.ChangeShapes Go.WideShapes Go.ChangeAt Go.RowKit Go.Deep
def Bh(l:List (Int×Int)):Prop:=l.length<=5000/\∀k,k<l.length->1<=(l.getD k (0,0)).1/\(l.getD k (0,0)).1<=4/\0<=(l.getD k (0,0)).2/\(l.getD k (0,0)).2<=2147483647
theorem OpsV.atM{w:J}{ao:Option Addr}{cap n:Nat}{l:List (Int×Int)}(h:OpsV w (U ao n cap) l){i:Nat}(hi:i<l.length):∃b off,ao=V ⟨b,off,Y⟩/\b<w.heap.size/\w.cell? ⟨b,off+i*2,Y⟩=V (.int Z (l.getD i (0,0)).1)/\w.cell? ⟨b,off+i*2+1,Y⟩=V (.int Z (l.getD i (0,0)).2):=by
 obtain⟨ao',cap',hv,_,h⟩:=h;injection hv with e1 e2 e3;subst e1;obtain⟨b,off,e,hlt,hat⟩:=h (by rintro rfl;simp at hi);exact⟨b,off,e,hlt,(hat i hi).1,(hat i hi).2⟩
theorem Um(ao:Option Addr)(cap:Nat)(l:List (Int×Int))(w:J)(hm:Bh l)(hV:OpsV w (.slice ao l.length cap) l) :
  r qA 35 #[.slice ao l.length cap] w fun e w'=>e=G (.int Z 0)/\S w.heap.size w w':=by
 obtain⟨n,hn⟩:∃n,l.length=n:=⟨_,rfl⟩;have H:M (OpsV w (.slice ao l.length cap) l):=hV;have HN:M (l.length=n):=hn;have HM:M (∀k,k<l.length->1<=(l.getD k (0,0)).1/\(l.getD k (0,0)).1<=4/\0<=(l.getD k (0,0)).2/\(l.getD k (0,0)).2<=2147483647):=hm.2;have hbi:¬(5000:Int)<(n:Int):=by have:=hm.1;omega
 rw[hn]at H⊢;clear hV hn hm;go_enter Tryz.func35,Tryz.ntmps35;go_wp2;go_loopw [10] (fun i wr=>∃k:Nat,k<=n/\i=.int Z k/\S w.heap.size w wr) (fun i _=>n-(intOf i).toNat)
 case atStart=>exact⟨0,qJ _,rfl,qD _ _⟩
 case round=>
  obtain⟨k,hk,rfl,hbr⟩:=hrel;by_cases hlt:k<n
  .have hlt2:k<l.length:=by rw[HN.out];exact hlt
   obtain⟨b,off,rfl,hbl,c0,c1⟩:=(H.out.below hbr).atM hlt2;have HE:=HM.out k hlt2;have hki:(k:Int)<(n:Int):=by omega
   have hba:∀o,S w.heap.size w (wr.alloc o):=fun o=>hbr.alloc hbr.size o;generalize l.getD k (0,0)=p at *;obtain⟨x,y⟩:=p;simp only at c0 c1 HE
   obtain⟨h1,h2,h3,h4⟩:=HE;have hx1:¬x<1:=by omega
   have hx4:¬4<x:=by omega
   have hy1:¬y<0:=by omega
   have hy4:¬2147483647<y:=by omega
   clear h1 h2 h3 h4;go_wp2;go_roundw
   case rel=>exact⟨k+1,by omega,by go_num,hba _⟩
   case measure=>simp[intOf];omega
  .obtain rfl:k=n:=by omega
   go_wp2;go_ret;exact⟨rfl,hbr⟩
section
variable{m:Mo}{ps:List (List (Int×Int))}{l:List (Int×Int)}{K K':Nat}
theorem Po(h:BI m ps l K)(h':BI m ps l K'):K=K':=by
 rcases Nat.lt_trichotomy K K' with hlt|h0|hlt
 .have:=h'.2.2.1 K hlt;rw[h.1]at this;omega
 .exact h0
 .have:=h.2.2.1 K' hlt;rw[h'.1]at this;omega
theorem P4(g:Gr):BS g=0\/BS g=11:=by
 unfold BS;split
 .exact .inl rfl
 .exact .inr rfl
theorem SM(hs:SmallK m ps l K){st:Sr}(v:Int×Int):(mvS m ps l K st v).ag<=st.ag+1000:=by
 have:=hs.few;unfold mvS;split
 .show st.ag<=_;omega
 split
 .omega
 split
 .show st.ag+(min (min (st.n+v.2.toNat) K) st.mx-st.n)<=_;omega
 split
 .show st.ag<=_;omega
 .show st.ag<=_;omega
theorem T6(hs:SmallK m ps l K)(vs:List (Int×Int))(k:Nat):(AX m ps l K (vs.take k)).ag<=1000*k:=by
 induction k with
 |zero=>simp[AX,sr0]
 |succ k ih=>
  by_cases hk:k<vs.length
  .rw[qZ hk,Ja];have:=SM (st:=AX m ps l K (vs.take k)) hs vs[k];omega
  .rw[qQ (by omega)];rw[qQ (by omega)]at ih;omega
theorem T8{vs:List (Int×Int)}{k:Nat}(hk:k<vs.length):AX m ps l K (vs.take (k+1))=mvS m ps l K (AX m ps l K (vs.take k)) (vs.getD k (0,0)):=by
 rw[qZ hk,Ja,qC,qH hk];rfl
end
def SxX(w2:J)(m:Mo)(ps:List (List (Int×Int)))(l:List (Int×Int))(K:Nat)(so no xo:Option Addr)(sc nc xc:Nat):Prop:=
 GfV w2 m ps l K so no sc/\∀w3,S w2.heap.size w2 w3->r qA 89 #[C #[U so K sc,.int Z ((AC m ps l).length:Nat),U no K nc,U xo K xc,.int Z ((AA l).length:Nat)]] w3 fun e w4=>∃x,e=G (A #[ZZ Z x,.int Z (BS (BR m ps l K))])/\S w3.heap.size w3 w4
def FR(w:J)(m:Mo)(ps:List (List (Int×Int)))(l:List (Int×Int))(va vr pv fv:E):Prop:=
  r qA 10 #[C #[va,vr,pv,fv]] w fun e w2=>∃K so sc no nc xo xc,BI m ps l K/\e=G (A #[C #[U so K sc,.int Z ((AC m ps l).length:Nat),U no K nc,U xo K xc,.int Z ((AA l).length:Nat)],.int Z 0])/\S w.heap.size w w2/\M (SxX w2 m ps l K so no xo sc nc xc)
noncomputable def Fr(m:Mo)(ps:List (List (Int×Int)))(l:List (Int×Int))(st:Sr)(c:Int):Value:=C #[I st.up,.int Z (fN m ps l st.n:Nat),.int Z (st.n:Nat),.int Z (st.s:Nat),.int Z (st.ag:Nat),.bool (dnS m ps l st),.bool (dnS m ps l st&&decide (c=11))]
theorem MJ{w W:J}(h:S w.heap.size w W)(b0 b1 b2 b3 b4 b5 b6:E):S w.heap.size w (((((((W.setCell ⟨w.heap.size+1,0,Y⟩ b0).setCell ⟨w.heap.size+1,1,Y⟩ b1).setCell ⟨w.heap.size+1,2,Y⟩ b2).setCell ⟨w.heap.size+1,3,Y⟩ b3).setCell ⟨w.heap.size+1,4,Y⟩ b4).setCell ⟨w.heap.size+1,5,Y⟩ b5).setCell ⟨w.heap.size+1,6,Y⟩ b6):=
 ((((((h.setCell (p:=⟨w.heap.size+1,0,Y⟩) (vD _) _).setCell (p:=⟨w.heap.size+1,1,Y⟩) (vD _) _).setCell (p:=⟨w.heap.size+1,2,Y⟩) (vD _) _).setCell (p:=⟨w.heap.size+1,3,Y⟩) (vD _) _).setCell (p:=⟨w.heap.size+1,4,Y⟩) (vD _) _).setCell (p:=⟨w.heap.size+1,5,Y⟩) (vD _) _).setCell (p:=⟨w.heap.size+1,6,Y⟩) (vD _) _
theorem Uo(m:Mo)(ps:List (List (Int×Int)))(l:List (Int×Int))(w:J)(va vr pv fv:E)(hEx:∀w2,S w.heap.size w w2->FR w2 m ps l va vr pv fv)(hS:∀K,BI m ps l K->SmallK m ps l K)(vs:List (Int×Int))(ao:Option Addr)(cap:Nat)(hm:Bh vs)(hO:OpsV w (.slice ao vs.length cap) vs) :
  r qA 21 #[C #[va,vr,pv,fv],.slice ao vs.length cap] w fun e w'=>∃K,BI m ps l K/\e=G (A #[Fr m ps l (AX m ps l K vs) (BS (BR m ps l K)),.int Z 0])/\S w.heap.size w w':=by
 have hal:S w.heap.size w (w.alloc (N #[va,vr,pv,fv] 35)):=(qD _ _).alloc (qB _) _;have hal2:S w.heap.size w ((w.alloc (N #[va,vr,pv,fv] 35)).alloc (N #[I O,.int Z 0,.int Z 0,.int Z 0,.int Z 0,.bool O,.bool O] 48)):=hal.alloc hal.size _;have hbk:((w.alloc (N #[va,vr,pv,fv] 35)).alloc (N #[I O,.int Z 0,.int Z 0,.int Z 0,.int Z 0,.bool O,.bool O] 48)).heap[w.heap.size+1]? = V (N #[I O,.int Z 0,.int Z 0,.int Z 0,.int Z 0,.bool O,.bool O] 48):=by
  have:=(MapKept.heap_alloc (w.alloc (N #[va,vr,pv,fv] 35)) (N #[I O,.int Z 0,.int Z 0,.int Z 0,.int Z 0,.bool O,.bool O] 48)).1;simpa using this
 have HCk:M (∀w2,S w.heap.size w w2->r qA 35 #[.slice ao vs.length cap] w2 fun e w'=>e=G (.int Z 0)/\S w2.heap.size w2 w'):=fun w2 h=>Um ao cap vs w2 hm (hO.below h);have HS:M (∀K,BI m ps l K->SmallK m ps l K):=hS;have HMv:M (Bh vs):=hm;have HO:M (∀wr,S w.heap.size w wr->OpsV wr (.slice ao vs.length cap) vs):=fun wr h=>hO.below h;obtain⟨WB,hWB⟩:∃WB,WB=((w.alloc (N #[va,vr,pv,fv] 35)).alloc (N #[I O,.int Z 0,.int Z 0,.int Z 0,.int Z 0,.bool O,.bool O] 48)):=⟨_,rfl⟩;have hex:=hEx _ hal2;unfold FR at hex;rw[<-hWB]at hex hal2 hbk;have hsz:w.heap.size+1<WB.heap.size:=(qG.1 hbk).1;have HOB:M (∀w2,S WB.heap.size WB w2->w2.heap[w.heap.size+1]? = V (N #[I O,.int Z 0,.int Z 0,.int Z 0,.int Z 0,.bool O,.bool O] 48)/\w.heap.size+1<w2.heap.size/\S w.heap.size w w2):=fun w2 hb=>⟨(hb.block _ hsz).trans hbk,qE hsz hb.size,hal2.trans (hb.mono hal2.size)⟩;have hvl:vs.length<=5000:=hm.1;clear hEx hm hS hO hal hbk;generalize hvn:vs.length=nv at *;have HVn:M (vs.length=nv):=hvn;clear hvn
 go_enter Tryz.func21,Tryz.ntmps21;go_upto_region 2 with fail
 rw[<-hWB];clear hWB;go_upto_region 6 with(first
  |(go_at_call 10;refine hex.mono ?_;rintro e w3 ⟨K,so,sc,no,nc,xo,xc,hD,rfl,hb3,HX⟩;have hK:=HS.out K hD;have HD:=(show M _ from hD);have hbA:S w3.heap.size w3 (w3.alloc (N #[U so K sc,.int Z ((AC m ps l).length:Nat),U no K nc,U xo K xc,.int Z ((AA l).length:Nat)] 41)):=(qD _ _).alloc (qB _) _;have hck:=HCk.out (w3.alloc (N #[U so K sc,.int Z ((AC m ps l).length:Nat),U no K nc,U xo K xc,.int Z ((AA l).length:Nat)] 41)) ((hal2.trans (hb3.mono hal2.size)).trans (hbA.mono (hal2.trans (hb3.mono hal2.size)).size));have HGb:M (∀w4,S (w3.alloc (N #[U so K sc,.int Z ((AC m ps l).length:Nat),U no K nc,U xo K xc,.int Z ((AA l).length:Nat)] 41)).heap.size (w3.alloc (N #[U so K sc,.int Z ((AC m ps l).length:Nat),U no K nc,U xo K xc,.int Z ((AA l).length:Nat)] 41)) w4->(w4.cell? ⟨w3.heap.size,0,Y⟩=V (U so K sc)/\w4.cell? ⟨w3.heap.size,1,Y⟩=V (.int Z ((AC m ps l).length:Nat))/\w4.cell? ⟨w3.heap.size,2,Y⟩=V (U no K nc)/\w4.cell? ⟨w3.heap.size,3,Y⟩=V (U xo K xc)/\w4.cell? ⟨w3.heap.size,4,Y⟩=V (.int Z ((AA l).length:Nat)))/\S w3.heap.size w3 w4):=fun w4 hb=>⟨El ((hb.block _ (by simp)).trans (show(w3.alloc (N #[U so K sc,.int Z ((AC m ps l).length:Nat),U no K nc,U xo K xc,.int Z ((AA l).length:Nat)] 41)).heap[w3.heap.size]? = V (grB (U so K sc) (U no K nc) (U xo K xc) ((AC m ps l).length:Nat) ((AA l).length:Nat))from(MapKept.heap_alloc w3 _).1)),hbA.trans (hb.mono hbA.size)⟩;clear hD)
  |(go_at_call 35;refine hck.mono ?_;rintro e w4 ⟨rfl,hb4⟩;obtain⟨⟨q0,q1,q2,q3,q4⟩,hb34⟩:=HGb.out w4 hb4;have hso:=UM hK so no xo sc nc xc ((AA l).length:Nat) (HX.out.1.below hb34))
  |(go_at_call 36;refine hso.mono ?_;rintro e w6 ⟨w5,fb,rfl,hb5,HV⟩;have HVV:=(show M _ from HV)))
 have hb35:S w3.heap.size w3 w5:=hb34.trans (hb5.mono hb34.size);have hbB5:S WB.heap.size WB w5:=hb3.trans (hb35.mono hb3.size);have HB5:=(show M _ from hbB5);have HF5:M (∀w7,S w5.heap.size w5 w7->r qA 89 #[C #[U so K sc,.int Z ((AC m ps l).length:Nat),U no K nc,U xo K xc,.int Z ((AA l).length:Nat)]] w7 fun e w4=>∃x,e=G (A #[ZZ Z x,.int Z (BS (BR m ps l K))])/\S w7.heap.size w7 w4):=fun w7 h=>HX.out.2 w7 (hb35.trans (h.mono hb35.size));have HV0:M (SxV m ps l K w5 w6 (U so K sc) ((AC m ps l).length:Nat) (U no K nc) (U xo K xc) ((AA l).length:Nat) fb (AX m ps l K (vs.take 0))):=by
  rw[List.take_zero];exact HVV.out
 have HK:M (SmallK m ps l K):=hK;clear hex hck hso HGb HVV HX hK hb35 hbB5 q0 q1 q2 q3 q4;go_loopw [39] (fun i wr=>∃k:Nat,k<=nv/\i=.int Z k/\M (SxV m ps l K w5 wr (U so K sc) ((AC m ps l).length:Nat) (U no K nc) (U xo K xc) ((AA l).length:Nat) fb (AX m ps l K (vs.take k)))) (fun i _=>nv-(intOf i).toNat)
 case atStart=>exact⟨0,qJ _,rfl,HV0.out⟩
 case round=>
  obtain⟨k,hk,rfl,HP⟩:=hrel;have hw5:S WB.heap.size WB wr:=HB5.out.trans (HP.out.bel.mono HB5.out.size);obtain⟨hob1,hob2,hob3⟩:=HOB.out wr hw5;by_cases hlt:k<nv
  .have hki:(k:Int)<(nv:Int):=by omega
   have hlt2:k<vs.length:=by rw[HVn.out];exact hlt
   have hO2:=HO.out wr hob3;rw[<-HVn.out]at hO2;obtain⟨b,off,rfl,hbl,c0,c1⟩:=hO2.atM hlt2;have hE:=HMv.out.2 k hlt2;have hag:=T6 HK.out vs k;have hal:S wr.heap.size wr (wr.alloc (N #[ZZ Z (vs.getD k (0,0)).1,.int Z (vs.getD k (0,0)).2] 53)):=(qD _ _).alloc (qB _) _;have hdo:=PZ HK.out (HP.out.below hal) (by omega) (vs.getD k (0,0)) (by omega) hE.2.2.1 hE.2.2.2;rw[<-T8 hlt2]at hdo;clear hob1 hO2 hE hag hbl;generalize(vs.getD k (0,0)).1=x at *;generalize(vs.getD k (0,0)).2=y at *
   go_wp2_with (go_at_call 37;refine hdo.mono ?_;rintro e w8 ⟨rfl,hV8⟩;have HV8:=(show M _ from hV8))
   go_roundw
   case rel=>exact⟨k+1,by omega,by go_num,HV8.out⟩
   case measure=>simp[intOf];omega
  .obtain rfl:k=nv:=by omega
   have HV9:=HP.out;rw[<-HVn.out,List.take_length]at HV9;have hoc:=Sz HK.out HV9 (BS (BR m ps l K)) (P4 _) fun w7 h=>HF5.out w7 (HV9.bel.trans (h.mono HV9.bel.size));have hoc2:r qA 38 #[ZY (V ⟨w5.heap.size,0,Y⟩)] wr fun e w'=>e=G (A #[(Fr m ps l (AX m ps l K vs) (BS (BR m ps l K))),.int Z 0])/\S wr.heap.size wr w':=hoc;clear hoc hob1;obtain⟨b0,i1,i2,i3,i4,b5,b6,hout⟩:∃(b0:Bool) (i1 i2 i3 i4:Int) (b5 b6:Bool),(Fr m ps l (AX m ps l K vs) (BS (BR m ps l K)))=C #[I b0,.int Z i1,.int Z i2,.int Z i3,.int Z i4,.bool b5,.bool b6]:=⟨_,_,_,_,_,_,_,rfl⟩;rw[hout]at hoc2;have HOut:=(show M _ from hout);have HB9:M (∀w9,S wr.heap.size wr w9->(w9.heap[w.heap.size+1]? = V (N #[I O,.int Z 0,.int Z 0,.int Z 0,.int Z 0,.bool O,.bool O] 48)/\w.heap.size+1<w9.heap.size)/\S w.heap.size w w9):=fun w9 h=>by
    obtain⟨a1,a2,a3⟩:=HOB.out w9 (hw5.trans (h.mono hw5.size));exact⟨⟨a1,a2⟩,a3⟩
   clear hout HV9;go_wp2_with (go_at_call 38;refine hoc2.mono ?_;rintro e w9 ⟨rfl,hb9⟩;obtain⟨⟨hr9,hl9⟩,hbw9⟩:=HB9.out w9 hb9;obtain⟨r0,r1,r2,r3,r4,r5,r6⟩:=CR hr9;have HR9:=(show M _ from hr9);have rf0:=Ab hr9 0;have rf1:=Ab hr9 1;have rf2:=Ab hr9 2;have rf3:=Ab hr9 3;have rf4:=Ab hr9 4;have rf5:=Ab hr9 5;have rf6:=Ab hr9 6;clear hr9)
   have hfin:=CR (EF (w:=w9) HR9.out (.bool b0) (.int Z i1) (.int Z i2) (.int Z i3) (.int Z i4) (.bool b5) (.bool b6));have hbl:=MJ hbw9 (.bool b0) (.int Z i1) (.int Z i2) (.int Z i3) (.int Z i4) (.bool b5) (.bool b6);generalize(((((((w9.setCell ⟨w.heap.size+1,0,Y⟩ (.bool b0)).setCell ⟨w.heap.size+1,1,Y⟩ (.int Z i1)).setCell ⟨w.heap.size+1,2,Y⟩ (.int Z i2)).setCell ⟨w.heap.size+1,3,Y⟩ (.int Z i3)).setCell ⟨w.heap.size+1,4,Y⟩ (.int Z i4)).setCell ⟨w.heap.size+1,5,Y⟩ (.bool b5)).setCell ⟨w.heap.size+1,6,Y⟩ (.bool b6))=WF at hfin hbl⊢;obtain⟨z0,z1,z2,z3,z4,z5,z6⟩:=hfin;try simp only[Exit.inBlock,Exit.then]
   refine bodyPost_ret (v:=A #[C #[I b0,.int Z i1,.int Z i2,.int Z i3,.int Z i4,.bool b5,.bool b6],.int Z 0]) ?_ rfl ⟨K,HD.out,by rw[HOut.out],hbl⟩;simp[results,Tryz.results21,go_sem,z0,z1,z2,z3,z4,z5,z6]
theorem VG{w:J}{X:Nat}{a b c d:E}{t:TypeId}(h:w.heap[X]? = V (N #[a,b,c,d] t)):w.cell? ⟨X,0,Y⟩=V a/\w.cell? ⟨X,1,Y⟩=V b/\w.cell? ⟨X,2,Y⟩=V c/\w.cell? ⟨X,3,Y⟩=V d:=by
 refine⟨?_,?_,?_,?_⟩<;>simp[World.cell?,h]
theorem Uj(m:Mo)(ps:List (List (Int×Int)))(l:List (Int×Int))(w:J)(va vr pv fv:E)(hEx:∀w2,S w.heap.size w w2->FR w2 m ps l va vr pv fv)(hS:∀K,BI m ps l K->SmallK m ps l K)(vs:List (Int×Int))(ao:Option Addr)(cap:Nat)(hm:Bh vs)(hO:OpsV w (.slice ao vs.length cap) vs) :
  r qA 12 #[C #[va,vr,pv,fv],.slice ao vs.length cap] w fun e w'=>∃K,BI m ps l K/\e=G (A #[Fr m ps l (AX m ps l K vs) (BS (BR m ps l K)),.bool true])/\S w.heap.size w w':=by
 have HR:M (∀w2,S w.heap.size w w2->r qA 21 #[C #[va,vr,pv,fv],.slice ao vs.length cap] w2 fun e w'=>∃K,BI m ps l K/\∃(b0:Bool) (i1 i2 i3 i4:Int) (b5 b6:Bool),M (Fr m ps l (AX m ps l K vs) (BS (BR m ps l K))=C #[I b0,.int Z i1,.int Z i2,.int Z i3,.int Z i4,.bool b5,.bool b6])/\e=G (A #[C #[I b0,.int Z i1,.int Z i2,.int Z i3,.int Z i4,.bool b5,.bool b6],.int Z 0])/\S w2.heap.size w2 w'):=fun w2 h=>
  (Uo m ps l w2 va vr pv fv (fun w3 h3=>hEx w3 (h.trans (h3.mono h.size))) hS vs ao cap hm (hO.below h)).mono fun e w' ⟨K,hD,e1,hb⟩=>⟨K,hD,_,_,_,_,_,_,_,rfl,e1,hb⟩
 generalize vs.length=nv at *;clear hEx hS hm hO;have hal:S w.heap.size w (w.alloc (N #[va,vr,pv,fv] 35)):=(qD _ _).alloc (qB _) _;have hal2:S w.heap.size w ((w.alloc (N #[va,vr,pv,fv] 35)).alloc (N #[I O,.int Z 0,.int Z 0,.int Z 0,.int Z 0,.bool O,.bool O] 48)):=hal.alloc hal.size _
 have hbk:((w.alloc (N #[va,vr,pv,fv] 35)).alloc (N #[I O,.int Z 0,.int Z 0,.int Z 0,.int Z 0,.bool O,.bool O] 48)).heap[w.heap.size+1]? = V (N #[I O,.int Z 0,.int Z 0,.int Z 0,.int Z 0,.bool O,.bool O] 48):=by
  have:=(MapKept.heap_alloc (w.alloc (N #[va,vr,pv,fv] 35)) (N #[I O,.int Z 0,.int Z 0,.int Z 0,.int Z 0,.bool O,.bool O] 48)).1;simpa using this
 have htk:=VG (((qD _ _).alloc (qB _) (N #[I O,.int Z 0,.int Z 0,.int Z 0,.int Z 0,.bool O,.bool O] 48):S (w.alloc (N #[va,vr,pv,fv] 35)).heap.size (w.alloc (N #[va,vr,pv,fv] 35)) ((w.alloc (N #[va,vr,pv,fv] 35)).alloc (N #[I O,.int Z 0,.int Z 0,.int Z 0,.int Z 0,.bool O,.bool O] 48))).block w.heap.size (by simp) |>.trans (MapKept.heap_alloc w (N #[va,vr,pv,fv] 35)).1);obtain⟨WB,hWB⟩:∃WB,WB=((w.alloc (N #[va,vr,pv,fv] 35)).alloc (N #[I O,.int Z 0,.int Z 0,.int Z 0,.int Z 0,.bool O,.bool O] 48)):=⟨_,rfl⟩;rw[<-hWB]at hal2 hbk htk;obtain⟨k0,k1,k2,k3⟩:=htk;have hr:=HR.out WB hal2;have hsz:w.heap.size+1<WB.heap.size:=(qG.1 hbk).1;have HOB:M (∀w2,S WB.heap.size WB w2->(w2.heap[w.heap.size+1]? = V (N #[I O,.int Z 0,.int Z 0,.int Z 0,.int Z 0,.bool O,.bool O] 48)/\w.heap.size+1<w2.heap.size)/\S w.heap.size w w2):=fun w2 hb=>⟨⟨(hb.block _ hsz).trans hbk,qE hsz hb.size⟩,hal2.trans (hb.mono hal2.size)⟩;clear hbk hal;go_enter Tryz.func12,Tryz.ntmps12;go_upto_region 1 with fail
 rw[<-hWB];clear hWB;go_upto_region 2 with(go_at_call 21;refine hr.mono ?_;rintro e w3 ⟨K,hD,b0,i1,i2,i3,i4,b5,b6,HOut,rfl,hb3⟩)
 have hb34:S w3.heap.size w3 (w3.alloc (N #[I b0,.int Z i1,.int Z i2,.int Z i3,.int Z i4,.bool b5,.bool b6] 48)):=(qD _ _).alloc (qB _) _;have ho4:(w3.alloc (N #[I b0,.int Z i1,.int Z i2,.int Z i3,.int Z i4,.bool b5,.bool b6] 48)).heap[w3.heap.size]? = V (N #[I b0,.int Z i1,.int Z i2,.int Z i3,.int Z i4,.bool b5,.bool b6] 48):=(MapKept.heap_alloc w3 _).1;generalize w3.alloc (N #[I b0,.int Z i1,.int Z i2,.int Z i3,.int Z i4,.bool b5,.bool b6] 48)=w4 at *;obtain⟨⟨hr9,hl9⟩,hbw9⟩:=HOB.out w4 (hb3.trans (hb34.mono hb3.size));obtain⟨r0,r1,r2,r3,r4,r5,r6⟩:=CR hr9;have HR9:=(show M _ from hr9)
 have rf0:=Ab hr9 0;have rf1:=Ab hr9 1;have rf2:=Ab hr9 2;have rf3:=Ab hr9 3;have rf4:=Ab hr9 4;have rf5:=Ab hr9 5;have rf6:=Ab hr9 6;obtain⟨x0,x1,x2,x3,x4,x5,x6⟩:=CR ho4;have HD:=(show M _ from hD);clear hr9 ho4 hb34 hb3 hr k0 k1 k2 k3 hal2 hD;generalize w3.heap.size=B at *
 go_wp2_with fail
 have hfin:=CR (EF (w:=w4) HR9.out (.bool b0) (.int Z i1) (.int Z i2) (.int Z i3) (.int Z i4) (.bool b5) (.bool b6));have hbl:=MJ hbw9 (.bool b0) (.int Z i1) (.int Z i2) (.int Z i3) (.int Z i4) (.bool b5) (.bool b6);generalize(((((((w4.setCell ⟨w.heap.size+1,0,Y⟩ (.bool b0)).setCell ⟨w.heap.size+1,1,Y⟩ (.int Z i1)).setCell ⟨w.heap.size+1,2,Y⟩ (.int Z i2)).setCell ⟨w.heap.size+1,3,Y⟩ (.int Z i3)).setCell ⟨w.heap.size+1,4,Y⟩ (.int Z i4)).setCell ⟨w.heap.size+1,5,Y⟩ (.bool b5)).setCell ⟨w.heap.size+1,6,Y⟩ (.bool b6))=WF at hfin hbl⊢;obtain⟨z0,z1,z2,z3,z4,z5,z6⟩:=hfin;refine bodyPost_ret (v:=A #[C #[I b0,.int Z i1,.int Z i2,.int Z i3,.int Z i4,.bool b5,.bool b6],.bool true]) ?_ rfl ⟨K,HD.out,by rw[HOut.out],hbl⟩;simp[results,Tryz.results12,go_sem,z0,z1,z2,z3,z4,z5,z6]
theorem Pp{m:Mo}{ps:List (List (Int×Int))}{l:List (Int×Int)}{K:Nat}(hk:Af m ps l=0)(h:BI m ps l K):GrLe (BR m ps l K):=by
 have e1:(BR m ps l K).spots.length=K:=h.1;have e2:(BR m ps l K).next.length=K:=DW K;have e3:(BR m ps l K).sets.length=K:=Dm K;have hm0:=(Cj (Ba hk).1).1;have h6:=(CC (Ba hk).2).2.2.2.2;refine⟨by rw[e1];have:=h.2.1;omega,by rw[e2];have:=h.2.1;omega,by rw[e3];have:=h.2.1;omega,fun i hi=>?_⟩;rw[e2]at hi;show((xpN m ps l K).getD i []).length<=_;rw[(J7 h hi).1];have hin:(xpP m ps l K).getD i (0,0)∈xpP m ps l K:=by
  have hl:i<(xpP m ps l K).length:=by rw[h.1];exact hi
  rw[qC,qH hl];exact qT _
 have:=IJ (ps:=ps) (l:=l) (c:=((xpP m ps l K).getD i (0,0)).2) hm0 (h.2.2.2 _ hin).1 h6;show(AZ _ _ _ _ _).length<=_;omega
theorem Py(m:Mo)(ps:List (List (Int×Int)))(l:List (Int×Int))(w:J)(hB:0<w.heap.size)(hT:AH w)(hk:Af m ps l=0)(hnf:¬Ep m ps l)(va vr pv fv:E)(hV:TaskV w va vr pv fv m ps l) :
  FR w m ps l va vr pv fv:=by
 refine(Pv va vr pv fv m ps l w hB hT hV).mono fun e w2 hx=>?_;rcases hx with⟨_,K,hD,sv,nv,tv,e1,h2,HG⟩|⟨_,hf,_,_⟩|⟨h1,_,_⟩
 .have hGr:=HG.out.graph;obtain⟨so,sc,rfl⟩:=HG.out.1.shape;have hsp:=HG.out.1;obtain⟨us,n1,n2,n3⟩:=HG.out.2.1;have n1':=n1;obtain⟨no,nc,rfl⟩:=A3 n1;obtain⟨xo,xc,rfl⟩:=A3 HG.out.2.2;rw[hD.1,DW,Dm]at e1 hGr;have hok:=Pr hk hD;have hc0:Cu (BR m ps l K)=0:=LJ hok.head hok.row;have e4:(BR m ps l K).spots.length=K:=hD.1;have e2:(BR m ps l K).next.length=K:=DW K;have e3:(BR m ps l K).sets.length=K:=Dm K;refine⟨K,so,sc,no,nc,xo,xc,hD,e1,h2,⟨?_,?_,fun i hi=>?_⟩,fun w3 h3=>?_⟩
  .have h9:=hsp.v;rw[hD.1]at h9;exact h9
  .obtain ⟨ao,cap,e9,⟨h8,_⟩,_⟩:=hsp.ops;injection e9 with _ _ a;have:=hD.1;omega
  .have hlK:(xpN m ps l K).length=K:=DW K;obtain⟨ao,c,q1,q2,_,_⟩:=n3 i (by omega);rcases n1.2 with⟨e9,h0⟩|⟨g,cap',cur,e9,hg⟩
   .rw[h0]at n2;simp at n2;omega
   .injection e9 with e1 _ _;subst e1;refine⟨g,ao,c,rfl,?_,q2⟩;have h5:=n1.cellAt i (by omega);rw[qC,qH (by omega),vQ]at q1;rw[qH (by omega),q1]at h5;exact h5
  .have h:=US so no xo sc nc xc (BR m ps l K) w3 (Pp hk hD) (by rw[e4,e2,e3];exact hGr.below h3) hc0;rw[e4,e2,e3]at h;exact h.mono fun e w4 ⟨g1,g2⟩=>⟨_,g1,g2⟩
 .exact absurd hf hnf
 .exact absurd hk h1
theorem Uf{m:Mo}{ps:List (List (Int×Int))}{l:List (Int×Int)}{P:Nat}(hk:Af m ps l=0)(hP:AK m.vars m.vars.length=(P:Nat))(hP2:P<=16)(ha:(AA l).length<=2):(∀K,BI m ps l K->SmallK m ps l K)/\¬Ep m ps l:=by
 have h4:2^(AA l).length<=2^2:=Nat.pow_le_pow_right (by decide) ha;have h5:P*2^(AA l).length<=16*4:=Nat.mul_le_mul hP2 h4;refine⟨fun K hD=>⟨hk,hD,?_,by rw[hP];omega⟩,V5 hk hP (by omega)⟩;have:=Nu hP hD.2.2.2;rw[hD.1]at this;omega
def DU(g:Int×Int):Int×Int:=(1+pk g.1 4,if 1+pk g.1 4=1 then pk g.2 12 else if 1+pk g.1 4=3 then pk g.2 120 else 0)
def Aq(rs:List (Int×Int))(most:Nat):List (Int×Int):=(rs.take most).map DU
theorem LI(g:Int×Int):1<=(DU g).1/\(DU g).1<=4/\0<=(DU g).2/\(DU g).2<=119:=by
 have h1:=BE (n:=g.1) (m:=4) (by decide);have h2:=BE (n:=g.2) (m:=12) (by decide);have h3:=BE (n:=g.2) (m:=120) (by decide);unfold DU;refine⟨by omega,by omega,?_,?_⟩;all_goals
  simp only;split
  .omega
  .split<;>omega
theorem L6(rs:List (Int×Int)){most:Nat}(h:most<=4000):Bh (Aq rs most)/\(Aq rs most).length<=most:=by
 have hl:(Aq rs most).length<=most:=by unfold Aq;rw[qL,qP];omega
 refine⟨⟨by omega,fun k hk=>?_⟩,hl⟩;have hk':=hk;unfold Aq at hk⊢;rw[qC,qH hk,vQ,List.getElem_map];have:=LI ((rs.take most)[k]'(by rwa[qL]at hk));omega
theorem L5{rs:List (Int×Int)}{k:Nat}(h:k<=rs.length):(Aq rs k).length=k:=by unfold Aq;rw[qL,qP];omega
theorem SH{rs:List (Int×Int)}{k:Nat}(h:k<rs.length):Aq rs (k+1)=Aq rs k++[DU (rs.getD k (0,0))]:=by
 unfold Aq;rw[qZ h,List.map_append,qC,qH h];rfl
theorem L4{rs:List (Int×Int)}{k most:Nat}(h1:k<=rs.length)(h2:k<=most)(h:¬(k<rs.length/\k<most)):Aq rs most=Aq rs k:=by
 unfold Aq;by_cases e:k=most
 .rw[e]
 .rw[qQ (by omega),qQ (by omega)]
theorem F3(n many:Int)(w:J)(hn:I64 n)(hm:0<many)(hm2:many<=10000) :
  r qA 13 #[ZZ Z n,.int Z many] w fun e w'=>e=G (.int Z (pk n many))/\w'=w:=by
 have h:=B5 n many w hn hm hm2;go_enter Tryz.func13,Tryz.ntmps13;go_wp2_with (go_at_call 22;refine h.mono ?_;rintro e w1 ⟨rfl,rfl⟩)
 go_ret;exact⟨rfl,rfl⟩
theorem KI:(qA.info? 53).map (fun i=>(i.zero,i.size,i.bytes))=V (V (C #[ZZ Z 0,.int Z 0]),2,16):=by kernel_rfl
theorem Gp{w w2 w9:J}{rs:List (Int×Int)}{k g9 cap9 vc:Nat}{vo:Option Addr}{a b:Int}(hbr:S w.heap.size w w2)(hW:w2.ownsRow w.heap.size 53 2 (U vo k vc) k (flat (Aq rs k)))(hml:Aq rs (k+1)=Aq rs k++[(a,b)])(ho:w9.ownsRow w.heap.size 53 2 (U (V ⟨g9,0,Y⟩) (k+1) cap9) (k+1) (flat (Aq rs k)++[.int Z a,.int Z b]))(hg:(w2.alloc (N #[ZZ Z a,.int Z b] 53)).grownBy w9 (Value.slice vo k vc).ownBlock) :
  S w.heap.size w w9/\w9.ownsRow w.heap.size 53 2 (U (V ⟨g9,0,Y⟩) (k+1) cap9) (k+1) (flat (Aq rs (k+1))):=
 ⟨Below.grown (hbr.alloc hbr.size _) hg (hbr.alloc hbr.size _).size (fun z hz=>(hW.lt z hz).1),by rw[hml,Fb];exact ho⟩
theorem SG(rawv:E)(rs:List (Int×Int))(most:Nat)(w:J)(hm:most<=4000)(hR:Raws w w.heap.size rawv rs) :
  r qA 11 #[rawv,.int Z (most:Nat)] w fun e w'=>∃ao cap,e=G (.slice ao (Aq rs most).length cap)/\S w.heap.size w w'/\M (w'.ownsRow w.heap.size 53 2 (.slice ao (Aq rs most).length cap) (Aq rs most).length (flat (Aq rs most))):=by
 obtain⟨ao,cap,rfl,hsh⟩:=hR.shape;obtain⟨i0,hi,hz0,hz1,hz2⟩:=info_parts KI;have HRd:M (∀wr,S w.heap.size w wr->∀k,k<rs.length->∃b off,ao=V ⟨b,off,Y⟩/\wr.cell? ⟨b,off+k*2,Y⟩=V (.int Z (rs.getD k (0,0)).1)/\wr.cell? ⟨b,off+k*2+1,Y⟩=V (.int Z (rs.getD k (0,0)).2)):=fun wr hb k hk=>by
  obtain⟨b,off,e,hlt,hat⟩:=hsh (by rintro rfl;simp at hk);have h9:=hat.below hb hlt k hk;exact⟨b,off,e,h9.1,h9.2⟩
 have HI:M (∀k,k<rs.length->I64 (rs.getD k (0,0)).1/\I64 (rs.getD k (0,0)).2):=hR.range;obtain⟨n,hn⟩:∃n,n=rs.length:=⟨_,rfl⟩;have HN:M (n=rs.length):=hn;have hnb:n<=140737488355328:=by have:=hR.len;omega
 rw[<-hn];have HS0:M (w.ownsRow w.heap.size 53 2 (U Y 0 0) 0 (flat (Aq rs 0))):=World.ownsRow_nil _ _ _ _;clear hR hsh hn;go_enter Tryz.func11,Tryz.ntmps11;go_wp2_with fail
 go_loopw [5,6] (fun o i wr=>∃(k:Nat) (vo:Option Addr) (vc:Nat),k<=n/\k<=most/\i=.int Z k/\o=U vo k vc/\S w.heap.size w wr/\M (wr.ownsRow w.heap.size 53 2 (U vo k vc) k (flat (Aq rs k)))) (fun _ i _=>n-(intOf i).toNat)
 case atStart=>exact⟨0,Y,0,qJ _,qJ _,rfl,rfl,qD _ _,HS0.out⟩
 case round=>
  obtain⟨k,vo,vc,hk1,hk2,rfl,rfl,hbr,HW⟩:=hrel;by_cases h1:k<n
  .have hi1:(k:Int)<(n:Int):=by omega
   by_cases h2:k<most
   .have hi2:(k:Int)<(most:Int):=by omega
    obtain⟨b,off,rfl,c0,c1⟩:=HRd.out wr hbr k (by rw[<-HN.out];exact h1);obtain⟨j1,j2⟩:=HI.out k (by rw[<-HN.out];exact h1);have hnx:=SH (rs:=rs) (k:=k) (by rw[<-HN.out];exact h1);have HNx:=(show M _ from hnx);have HML:M (Aq rs (k+1)=Aq rs k++[DU (rs.getD k (0,0))]):=hnx;have hgm:DU (rs.getD k (0,0))=(1+pk (rs.getD k (0,0)).1 4,if 1+pk (rs.getD k (0,0)).1 4=1 then pk (rs.getD k (0,0)).2 12 else if 1+pk (rs.getD k (0,0)).1 4=3 then pk (rs.getD k (0,0)).2 120 else 0):=rfl;have hp4:=F3 (rs.getD k (0,0)).1 4 wr j1 (by decide) (by decide);have hp12:=F3 (rs.getD k (0,0)).2 12 wr j2 (by decide) (by decide);have hp120:=F3 (rs.getD k (0,0)).2 120 wr j2 (by decide) (by decide);have hr4:=BE (n:=(rs.getD k (0,0)).1) (m:=4) (by decide);clear hnx HNx j1 j2;generalize(rs.getD k (0,0)).1=x at *;generalize(rs.getD k (0,0)).2=y at *;generalize hp:pk x 4=p at *;generalize pk y 12=y12 at *;generalize pk y 120=y120 at *;generalize DU (rs.getD k (0,0))=gm at *;have hcase:p=0\/p=2\/p=1\/p=3:=by omega
    clear hp hr4;rcases hcase with rfl|rfl|rfl|rfl;all_goals simp at hgm
    all_goals subst hgm
    all_goals go_upto_region 11 with(first
     |(go_at_call 13;refine hp4.mono ?_;rintro e w2 ⟨rfl,rfl⟩)
     |(go_at_call 13;refine hp12.mono ?_;rintro e w2 ⟨rfl,rfl⟩)
     |(go_at_call 13;refine hp120.mono ?_;rintro e w2 ⟨rfl,rfl⟩))
    .have hown:=Ar HW.out ((qD _ _).alloc (qB _) (N #[ZZ Z 1,.int Z y12] 53)) (qB _);have hbase:=(hbr.alloc hbr.size (N #[ZZ Z 1,.int Z y12] 53)).size;go_wp2_with (at_builtin;refine wpList_append_lies _ rfl (.tmp 43) (.tmp 47) 45 (by rfl) w.heap.size 53 i0 _ 2 16 Tryz.underlying45 hi hz0 hz1 hz2 rfl (by decide) (U vo k vc) k (flat (Aq rs k)) rfl hown ⟨w2.heap.size,0,Y⟩ 1 1 [.int Z 1,.int Z y12] rfl rfl (C9 _ _ _ _) (by intro u hu;simp at hu;rcases hu with rfl|rfl<;>rfl) (by decide) (by unfold maxLen;omega) (by omega) hbase (w2.heap.size+1) (by simp) ?_;intro g9 cap9 w9 ho9 hg9 hat9 hl9;obtain⟨hb9,hw9⟩:=Gp hbr HW.out HML.out ho9 hg9;have HW9:=(show M _ from hw9))
     go_roundw
     case rel=>exact⟨k+1,V ⟨g9,0,Y⟩,cap9,by omega,by omega,by go_num,rfl,hb9,HW9.out⟩
     case measure=>simp[intOf];omega
    .have hown:=Ar HW.out ((qD _ _).alloc (qB _) (N #[ZZ Z 3,.int Z y120] 53)) (qB _);have hbase:=(hbr.alloc hbr.size (N #[ZZ Z 3,.int Z y120] 53)).size;go_wp2_with (at_builtin;refine wpList_append_lies _ rfl (.tmp 43) (.tmp 47) 45 (by rfl) w.heap.size 53 i0 _ 2 16 Tryz.underlying45 hi hz0 hz1 hz2 rfl (by decide) (U vo k vc) k (flat (Aq rs k)) rfl hown ⟨w2.heap.size,0,Y⟩ 1 1 [.int Z 3,.int Z y120] rfl rfl (C9 _ _ _ _) (by intro u hu;simp at hu;rcases hu with rfl|rfl<;>rfl) (by decide) (by unfold maxLen;omega) (by omega) hbase (w2.heap.size+1) (by simp) ?_;intro g9 cap9 w9 ho9 hg9 hat9 hl9;obtain⟨hb9,hw9⟩:=Gp hbr HW.out HML.out ho9 hg9;have HW9:=(show M _ from hw9))
     go_roundw
     case rel=>exact⟨k+1,V ⟨g9,0,Y⟩,cap9,by omega,by omega,by go_num,rfl,hb9,HW9.out⟩
     case measure=>simp[intOf];omega
    .have hown:=Ar HW.out ((qD _ _).alloc (qB _) (N #[ZZ Z 2,.int Z 0] 53)) (qB _);have hbase:=(hbr.alloc hbr.size (N #[ZZ Z 2,.int Z 0] 53)).size;go_wp2_with (at_builtin;refine wpList_append_lies _ rfl (.tmp 43) (.tmp 47) 45 (by rfl) w.heap.size 53 i0 _ 2 16 Tryz.underlying45 hi hz0 hz1 hz2 rfl (by decide) (U vo k vc) k (flat (Aq rs k)) rfl hown ⟨w2.heap.size,0,Y⟩ 1 1 [.int Z 2,.int Z 0] rfl rfl (C9 _ _ _ _) (by intro u hu;simp at hu;rcases hu with rfl|rfl<;>rfl) (by decide) (by unfold maxLen;omega) (by omega) hbase (w2.heap.size+1) (by simp) ?_;intro g9 cap9 w9 ho9 hg9 hat9 hl9;obtain⟨hb9,hw9⟩:=Gp hbr HW.out HML.out ho9 hg9;have HW9:=(show M _ from hw9))
     go_roundw
     case rel=>exact⟨k+1,V ⟨g9,0,Y⟩,cap9,by omega,by omega,by go_num,rfl,hb9,HW9.out⟩
     case measure=>simp[intOf];omega
    .have hown:=Ar HW.out ((qD _ _).alloc (qB _) (N #[ZZ Z 4,.int Z 0] 53)) (qB _);have hbase:=(hbr.alloc hbr.size (N #[ZZ Z 4,.int Z 0] 53)).size;go_wp2_with (at_builtin;refine wpList_append_lies _ rfl (.tmp 43) (.tmp 47) 45 (by rfl) w.heap.size 53 i0 _ 2 16 Tryz.underlying45 hi hz0 hz1 hz2 rfl (by decide) (U vo k vc) k (flat (Aq rs k)) rfl hown ⟨w2.heap.size,0,Y⟩ 1 1 [.int Z 4,.int Z 0] rfl rfl (C9 _ _ _ _) (by intro u hu;simp at hu;rcases hu with rfl|rfl<;>rfl) (by decide) (by unfold maxLen;omega) (by omega) hbase (w2.heap.size+1) (by simp) ?_;intro g9 cap9 w9 ho9 hg9 hat9 hl9;obtain⟨hb9,hw9⟩:=Gp hbr HW.out HML.out ho9 hg9;have HW9:=(show M _ from hw9))
     go_roundw
     case rel=>exact⟨k+1,V ⟨g9,0,Y⟩,cap9,by omega,by omega,by go_num,rfl,hb9,HW9.out⟩
     case measure=>simp[intOf];omega
   .have hi2:¬(k:Int)<(most:Int):=by omega
    have he:=L4 (rs:=rs) (k:=k) (most:=most) (by rw[<-HN.out];exact hk1) hk2 (fun h=>h2 h.2);have hl:=L5 (rs:=rs) (k:=k) (by rw[<-HN.out];exact hk1);have HE:M (Aq rs most=Aq rs k):=he;have HLn:M ((Aq rs k).length=k):=hl;clear he hl;go_wp2_with fail
    go_ret;exact⟨vo,vc,by rw[HE.out,HLn.out];rfl,hbr,by rw[HE.out,HLn.out];exact HW.out⟩
  .have hi1:¬(k:Int)<(n:Int):=by omega
   have he:=L4 (rs:=rs) (k:=k) (most:=most) (by rw[<-HN.out];exact hk1) hk2 (fun h=>h1 (by rw[HN.out];exact h.1));have hl:=L5 (rs:=rs) (k:=k) (by rw[<-HN.out];exact hk1);have HE:M (Aq rs most=Aq rs k):=he;have HLn:M ((Aq rs k).length=k):=hl;clear he hl;go_wp2_with fail
   go_ret;exact⟨vo,vc,by rw[HE.out,HLn.out];rfl,hbr,by rw[HE.out,HLn.out];exact HW.out⟩
section
variable{m:Mo}{ps:List (List (Int×Int))}{l:List (Int×Int)}{K:Nat}
theorem SN{st:Sr}(h:st.up=O->st.s=st.n)(v:Int×Int):(mvS m ps l K st v).up=O->(mvS m ps l K st v).s=(mvS m ps l K st v).n:=by
 unfold mvS;split
 .intro e;cases e
 split
 .exact h
 split
 .rename_i h2 _;intro e;exact absurd e h2
 split
 .intro _;rfl
 .intro _;rfl
theorem T7(vs:List (Int×Int)):∀{st:Sr},(st.up=O->st.s=st.n)->(vs.foldl (mvS m ps l K) st).up=O->(vs.foldl (mvS m ps l K) st).s=(vs.foldl (mvS m ps l K) st).n:=by
 induction vs with
 |nil=>exact fun h=>h
 |cons v vs ih=>exact fun h=>ih (SN h v)
theorem Kf(hs:SmallK m ps l K)(vs:List (Int×Int)):(AX m ps l K vs).s<=(AX m ps l K vs).n/\(AX m ps l K vs).n<=fN m ps l (AX m ps l K vs).n/\fN m ps l (AX m ps l K vs).n<=K/\(AC m ps l).length<=fN m ps l (AX m ps l K vs).n:=by
 have h:=SrOk.all hs vs;have hn:(AX m ps l K vs).n<=K:=qI h.b h.c;refine⟨h.a,?_,(DR hs.done hn).2,?_⟩
 .by_cases e:(AX m ps l K vs).n=K
  .rw[e,GQ hs.done];exact qB _
  .exact qS (GP hs.done (by omega))
 .rw[<-GR];exact ET (qJ _)
theorem PX(hs:SmallK m ps l K)(vs:List (Int×Int)):dnS m ps l (AX m ps l K vs)=((AX m ps l K vs).up&&decide ((AX m ps l K vs).n=fN m ps l (AX m ps l K vs).n)):=by
 obtain⟨_,h2,_,_⟩:=Kf hs vs;unfold dnS;congr 1
 exact decide_eq_decide.2 ⟨fun h=>Nat.le_antisymm h2 h,fun h=>by omega⟩
end
section
variable{m:Mo}{ps:List (List (Int×Int))}{l:List (Int×Int)}{K:Nat}
theorem Gs{st:Sr}(h:st.up=true)(x:Int):mvS m ps l K st (1,x)=wkS K st x.toNat:=by
 unfold mvS;rw[if_neg (show¬(1:Int)=4 by decide),if_neg (by simp[h]),if_pos rfl]
theorem L8{st:Sr}(h:st.up=true)(x:Int):mvS m ps l K st (3,x)=crS m ps l st x.toNat:=by
 unfold mvS;rw[if_neg (show¬(3:Int)=4 by decide),if_neg (by simp[h]),if_neg (show¬(3:Int)=1 by decide),if_neg (show¬(3:Int)=2 by decide)]
theorem Gq(st:Sr)(x:Int):mvS m ps l K st (4,x)={ st with up:=true}:=by
 unfold mvS;rw[if_pos rfl]
theorem D7{st:Sr}(h:st.up=O){v:Int×Int}(hv:v.1≠4):mvS m ps l K st v=st:=by
 unfold mvS;rw[if_neg hv,if_pos h]
theorem PT(hs:SmallK m ps l K)(vs:List (Int×Int))(x:Nat):(mvS m ps l K (AX m ps l K vs) (3,(x:Int))).up=O/\(AX m ps l K vs).s<=(mvS m ps l K (AX m ps l K vs) (3,(x:Int))).n/\(mvS m ps l K (AX m ps l K vs) (3,(x:Int))).n<=(AX m ps l K vs).n/\(mvS m ps l K (AX m ps l K vs) (3,(x:Int))).s=(mvS m ps l K (AX m ps l K vs) (3,(x:Int))).n/\(x=0->(mvS m ps l K (AX m ps l K vs) (3,(x:Int))).n=(AX m ps l K vs).s)/\(16000<=x->(mvS m ps l K (AX m ps l K vs) (3,(x:Int))).n=(AX m ps l K vs).n):=by
 have h:=SrOk.all hs vs;have hd:(AX m ps l K vs).up=O->(AX m ps l K vs).s=(AX m ps l K vs).n:=T7 vs (st:=sr0) (by intro e;cases e);generalize AX m ps l K vs=st at *
 cases hup:st.up with
 |false=>
  rw[D7 hup (show(3:Int)≠4 by decide)];have:=hd hup;exact⟨hup,by omega,qB _,this,fun _=>this.symm,fun _=>rfl⟩
 |true=>
  rw[L8 hup];obtain⟨c1,c2,c3,c4,_⟩:=hs.cut (qI h.b h.c) h.a x;exact⟨rfl,c1,c2,rfl,c3,c4⟩
theorem TD(hs:SmallK m ps l K)(vs:List (Int×Int))(x y:Nat):mvS m ps l K (mvS m ps l K (AX m ps l K vs) (1,(x:Int))) (1,(y:Int))=mvS m ps l K (AX m ps l K vs) (1,((x+y:Nat):Int)):=by
 have h:=SrOk.all hs vs;generalize AX m ps l K vs=st at *
 cases hup:st.up with
 |false=>rw[D7 hup (v:=(1,(x:Int))) (show(1:Int)≠4 by decide),D7 hup (v:=(1,(y:Int))) (show(1:Int)≠4 by decide),D7 hup (show(1:Int)≠4 by decide)]
 |true=>
  rw[Gs hup,Gs (by exact hup),Gs hup,jJ,jJ,jJ];exact Vn h x y
theorem Vq(x:Nat):(AX m ps l K [(1,(x:Int))]).up=true/\(AX m ps l K [(1,(x:Int))]).n=min x K/\(AX m ps l K [(1,(x:Int))]).s=0:=by
 have e:AX m ps l K [(1,(x:Int))]=mvS m ps l K sr0 (1,(x:Int)):=rfl;rw[e,Gs rfl,jJ];refine⟨rfl,?_,rfl⟩;show min (0+x) K=_;rw[Nat.zero_add]
end
noncomputable def kOf(m:Mo)(l:List (Int×Int)):Nat:=open Classical in if h:∃K,BI m AW l K then h.choose else 0
theorem LZ{m:Mo}{l:List (Int×Int)}{K:Nat}(h:BI m AW l K):K=kOf m l:=by
 have hx:∃K,BI m AW l K:=⟨K,h⟩;have e:kOf m l=hx.choose:=dif_pos hx;rw[e];exact Po h hx.choose_spec
noncomputable def stO(m:Mo)(l:List (Int×Int))(vs:List (Int×Int)):Sr:=AX m AW l (kOf m l) vs
def SgK(m:Mo)(l:List (Int×Int)):Prop:=SmallK m AW l (kOf m l)
structure OutIs(m:Mo)(l vs:List (Int×Int))(b0:Bool)(f n s ag:Nat)(d h:Bool):Prop where
 small:SgK m l
 up:b0=(stO m l vs).up
 fo:f=fN m AW l (stO m l vs).n
 th:n=(stO m l vs).n
 sa:s=(stO m l vs).s
 ag:ag=(stO m l vs).ag
 dn:d=dnS m AW l (stO m l vs)
 ho:h=(dnS m AW l (stO m l vs)&&decide (BS (BR m AW l (kOf m l))=11))
structure SgC(w:J)(va vr pv fv:E)(m:Mo)(l:List (Int×Int)):Prop where
 so:∀w',S w.heap.size w w'->∀(ao:Option Addr) (nn cap:Nat) (vs:List (Int×Int)),vs.length=nn->Bh vs->OpsV w' (U ao nn cap) vs->r qA 12 #[C #[va,vr,pv,fv],U ao nn cap] w' fun e w2=>∃(b0:Bool) (f n s ag:Nat) (d h:Bool),e=G (A #[C #[I b0,.int Z (f:Nat),.int Z (n:Nat),.int Z (s:Nat),.int Z (ag:Nat),.bool d,.bool h],.bool true])/\S w'.heap.size w' w2/\M (OutIs m l vs b0 f n s ag d h)
 ex:∀w',S w.heap.size w w'->r qA 10 #[C #[va,vr,pv,fv]] w' fun e w2=>∃(so no xo:Option Addr) (K bn an sc nc xc:Nat),e=G (A #[C #[U so K sc,.int Z (bn:Nat),U no K nc,U xo K xc,.int Z (an:Nat)],.int Z 0])/\S w'.heap.size w' w2/\K<=1000/\M (K=kOf m l/\bn=(AC m AW l).length/\SgK m l)
theorem SgC.below{w w':J}{va vr pv fv:E}{m:Mo}{l:List (Int×Int)}(h:SgC w va vr pv fv m l)(hb:S w.heap.size w w'):SgC w' va vr pv fv m l:=
 ⟨fun w2 h2=>h.so w2 (hb.trans (h2.mono hb.size)),fun w2 h2=>h.ex w2 (hb.trans (h2.mono hb.size))⟩
theorem UV{m:Mo}{a b:Vr}{l:List (Int×Int)}{mm:Nat}(hG:GV a b)(hk:KTaskOk m l mm)(hvars:m.vars=[a,b])(hmm:mm<=2):(∀K,BI m AW l K->SmallK m AW l K)/\¬Ep m AW l:=by
 have hspan:1<=AM a*AM b/\AM a*AM b<=16:=by
  have h1:1<=AM a/\AM a<=4:=by have:=hG.a2;have:=hG.a3;unfold AM;omega
  have h2:1<=AM b/\AM b<=4:=by have:=hG.b2;have:=hG.b3;unfold AM;omega
  obtain⟨x1,x2⟩:=h1;obtain⟨y1,y2⟩:=h2;generalize AM a=x at *;generalize AM b=y at *
  rcases(show x=1\/x=2\/x=3\/x=4 by omega)with rfl|rfl|rfl|rfl<;>omega
 have hah:(AA l).length=mm:=by obtain⟨T,hT⟩:=hk.fo;exact hT.ahead
 refine Uf (P:=(AM a*AM b).toNat) hk.code ?_ (by omega) (by omega);rw[hvars];show AK [a,b] 2=_;rw[TQ];omega
theorem UW{m:Mo}{a b:Vr}{l:List (Int×Int)}{mm:Nat}{w:J}{va vr pv fv:E}(hB:0<w.heap.size)(hT:AH w)(hG:GV a b)(hk:KTaskOk m l mm)(hvars:m.vars=[a,b])(hmm:mm<=2)(hV:TaskV w va vr pv fv m AW l):SgC w va vr pv fv m l:=by
 obtain⟨hS,hF⟩:=UV hG hk hvars hmm;have hE:∀w',S w.heap.size w w'->FR w' m AW l va vr pv fv:=fun w' h=>Py m AW l w' (qE hB h.size) (hT.below h hB) hk.code hF va vr pv fv (hV.below h);refine⟨fun w' h ao nn cap vs e hm hO=>?_,fun w' h=>?_⟩
 .subst e;refine(Uj m AW l w' va vr pv fv (fun w2 h2=>hE w2 (h.trans (h2.mono h.size))) hS vs ao cap hm hO).mono fun e w2 ⟨K,hD,e1,hb⟩=>?_;obtain rfl:=LZ hD;exact⟨_,_,_,_,_,_,_,e1,hb,⟨hS _ hD,rfl,rfl,rfl,rfl,rfl,rfl,rfl⟩⟩
 .refine (hE w' h).mono fun e w2 ⟨K,so,sc,no,nc,xo,xc,hD,e1,hb,_⟩=>?_;have e2:=LZ hD;have hS2:=hS K hD;exact⟨so,no,xo,K,_,_,sc,nc,xc,e1,hb,hS2.few,e2,rfl,by unfold SgK;rw[<-e2];exact hS2⟩
theorem UX(c0 c1 c2 c3 c4 c5 c6:E)(a b:Vr)(rawv:E)(rs:List (Int×Int))(w:J)(hB:0<w.heap.size)(hT:AH w)(hG:GV a b)(hR:Raws w w.heap.size rawv rs)
  (hmd:∀w',S w.heap.size w w'->r qA 14 #[C #[c0,c1,c2,c3,c4,c5,c6]] w' fun e w2=>∃va vr,e=G (C #[va,vr])/\S w'.heap.size w' w2/\GModel w2 va vr [a,b]) :
  r qA 9 #[C #[c0,c1,c2,c3,c4,c5,c6],rawv,.int Z 2] w fun e w'=>∃(ao ro po fo:Option Addr) (rn fn ac rc fc:Nat) (m:Mo) (l:List (Int×Int)),e=G (C #[U ao 2 ac,U ro rn rc,U po 3 3,U fo fn fc])/\S w.heap.size w w'/\M (SgC w' (U ao 2 ac) (U ro rn rc) (U po 3 3) (U fo fn fc) m l):=by
 refine(U8 c0 c1 c2 c3 c4 c5 c6 a b rawv rs 2 w hG (by decide) hR hmd).mono fun e w' ⟨ao,ac,ro,rn,rc,pb,fo,fn,fc,m,l,mm,e1,hb,HV,HK,hmm,_⟩=>?_;obtain⟨hok,hvars,_,_⟩:=HK.out;exact⟨ao,ro,_,fo,rn,fn,ac,rc,fc,m,l,e1,hb,UW (qE hB hb.size) (hT.below hb hB) hG hok hvars hmm HV.out⟩
theorem Nv{w:J}{base:Nat}{ao:Option Addr}{n cap:Nat}{l:List (Int×Int)}(hn:l.length=n)(h:w.ownsRow base 53 2 (U ao n cap) n (flat l)):OpsV w (U ao n cap) l:=by
 subst hn;rcases h.2 with⟨e,h0⟩|⟨g,cap,cur,e,hb,hg,hnc,hcm,hcs,htake⟩
 .have:l=[]:=by simpa using h0
  subst this;cases e
  exact⟨Y,0,rfl,⟨by simp,fun _=>⟨rfl,rfl⟩⟩,fun h=>absurd rfl h⟩
 .cases e
  refine⟨_,cap,rfl,⟨hnc,fun h=>by simp at h⟩,fun _=>⟨g,0,rfl,?_,fun i hi=>?_⟩⟩
  .exact (qG.1 hg).1
  .obtain ⟨f0,f1⟩:=E2 l i hi;rw[h.cellAt _ (by omega),h.cellAt _ (by omega)];simpa using⟨f0,f1⟩
theorem OpsV.cut{w:J}{ao:Option Addr}{n cap k:Nat}{l:List (Int×Int)}(h:OpsV w (U ao n cap) l)(hn:l.length=n)(hk:k<=n):OpsV w (U ao k k) (l.take k):=by
 obtain⟨ao',cap',e,⟨h1,h2⟩,h3⟩:=h;cases e
 have hl:(l.take k).length=k:=by rw[qP];omega
 refine⟨ao,k,by rw[hl],⟨by omega,fun h=>?_⟩,fun hne=>?_⟩
 .obtain ⟨_,h5⟩:=h2 h;subst h5;simp at hn hl;exact⟨by omega,by simp⟩
 .have hl0:l≠[]:=by rintro rfl;simp at hne
  obtain⟨b,off,e,hlt,hat⟩:=h3 hl0;refine⟨b,off,e,hlt,fun i hi=>?_⟩;rw[hl]at hi;have:=hat i (by omega);rw[qC,List.getElem?_take_of_lt hi,<-qC];exact this
theorem Bh.app{l x:List (Int×Int)}(h:Bh l)(hx:∀v∈x,1<=v.1/\v.1<=4/\0<=v.2/\v.2<=2147483647)(hl:l.length+x.length<=5000):Bh (l++x):=by
 refine⟨by rw[qF];exact hl,fun i hi=>?_⟩;rw[qF]at hi;by_cases h1:i<l.length
 .rw[qC,List.getElem?_append_left h1,<-qC];exact h.2 i h1
 .rw[qC,List.getElem?_append_right (by omega),qH (by omega),vQ];exact hx _ (qT _)
theorem Bh.nil:Bh []:=⟨by simp,fun i hi=>by simp at hi⟩
theorem EB(m:Mo)(l a b:List (Int×Int)):stO m l (a++b)=b.foldl (mvS m AW l (kOf m l)) (stO m l a):=M1 a b
section
variable{m:Mo}{l vs us:List (Int×Int)}{b0 b0':Bool}{f n s ag f' n' s' ag':Nat}{d h d' h':Bool}
theorem OutIs.facts(H:OutIs m l vs b0 f n s ag d h):s<=n/\n<=f/\f<=kOf m l/\(AC m AW l).length<=f/\d=(b0&&decide (n=f))/\kOf m l<=1000:=by
 obtain⟨a1,a2,a3,a4⟩:=Kf H.small vs;have a5:=PX H.small vs;obtain⟨hs,rfl,rfl,rfl,rfl,rfl,rfl,rfl⟩:=H;exact⟨a1,a2,a3,a4,a5,hs.few⟩
theorem OutIs.first(H:OutIs m l [] b0 f n s ag d h):b0=true/\n=0/\s=0/\ag=0:=by
 obtain⟨hs,rfl,rfl,rfl,rfl,rfl,rfl,rfl⟩:=H;exact⟨rfl,rfl,rfl,rfl⟩
theorem OutIs.same(H:OutIs m l vs b0 f n s ag d h)(H':OutIs m l us b0' f' n' s' ag' d' h')(e:stO m l vs=stO m l us):b0=b0'/\f=f'/\n=n'/\s=s'/\ag=ag'/\d=d'/\h=h':=by
 obtain⟨hs,rfl,rfl,rfl,rfl,rfl,rfl,rfl⟩:=H;obtain⟨_,rfl,rfl,rfl,rfl,rfl,rfl,rfl⟩:=H';rw[e];exact⟨rfl,rfl,rfl,rfl,rfl,rfl,rfl⟩
theorem Nw{x:Nat}(H:OutIs m l vs b0 f n s ag d h)(H':OutIs m l (vs++[(3,(x:Int))]) b0' f' n' s' ag' d' h'):b0'=O/\s<=n'/\n'<=n/\s'=n'/\f'<=f/\(x=0->n'=s)/\(16000<=x->n'=n/\f'=f):=by
 obtain⟨a1,a2,a3,a4,a5,a6⟩:=PT (K:=kOf m l) H.small vs x;have e:stO m l (vs++[(3,(x:Int))])=mvS m AW l (kOf m l) (AX m AW l (kOf m l) vs) (3,(x:Int)):=Ja vs _;rw[<-e]at a1 a2 a3 a4 a5 a6;obtain⟨_,rfl,rfl,rfl,rfl,rfl,rfl,rfl⟩:=H;obtain⟨_,rfl,rfl,rfl,rfl,rfl,rfl,rfl⟩:=H';exact⟨a1,a2,a3,a4,ET a3,a5,fun hx=>⟨a6 hx,by rw[a6 hx];rfl⟩⟩
theorem V9{x y:Nat}(hs:SgK m l)(vs:List (Int×Int)):stO m l (vs++[(1,(x:Int)),(1,(y:Int))])=stO m l (vs++[(1,((x+y:Nat):Int))]):=by
 rw[EB,EB];exact TD hs vs x y
theorem WH{x:Nat}(H:OutIs m l [(1,(x:Int))] b0 f n s ag d h):b0=true/\n=min x (kOf m l):=by
 obtain⟨h1,h2,_⟩:=Vq (m:=m) (ps:=AW) (l:=l) (K:=kOf m l) x;exact⟨H.up.trans h1,H.th.trans h2⟩
theorem V8(vs:List (Int×Int))(z x:Int):(stO m l (vs++[(3,z)])).up=O/\stO m l ((vs++[(3,z)])++[(1,x),(2,0),(3,0)])=stO m l (vs++[(3,z)])/\stO m l ((vs++[(3,z)])++[(4,0),(4,0)])=stO m l ((vs++[(3,z)])++[(4,0)])/\(stO m l ((vs++[(3,z)])++[(4,0)])).up=true/\(stO m l ((vs++[(3,z)])++[(4,0)])).n=(stO m l (vs++[(3,z)])).n:=by
 have hup:(stO m l (vs++[(3,z)])).up=false:=by
  rw[EB];show(mvS m AW l (kOf m l) (stO m l vs) (3,z)).up=O;cases hu:(stO m l vs).up with
  |false=>rw[D7 hu (show(3:Int)≠4 by decide)];exact hu
  |true=>rw[L8 hu];rfl
 refine⟨hup,?_,?_,?_,?_⟩
 .rw[EB _ _ (vs++[(3,z)])];show mvS m AW l (kOf m l) (mvS m AW l (kOf m l) (mvS m AW l (kOf m l) (stO m l (vs++[(3,z)])) (1,x)) (2,0)) (3,0)=_;rw[D7 hup (show(1:Int)≠4 by decide),D7 hup (show(2:Int)≠4 by decide),D7 hup (show(3:Int)≠4 by decide)]
 .rw[EB _ _ (vs++[(3,z)]),EB _ _ (vs++[(3,z)])];show mvS m AW l (kOf m l) (mvS m AW l (kOf m l) (stO m l (vs++[(3,z)])) (4,0)) (4,0)=mvS m AW l (kOf m l) (stO m l (vs++[(3,z)])) (4,0);rw[Gq,Gq]
 .rw[EB _ _ (vs++[(3,z)])];show(mvS m AW l (kOf m l) (stO m l (vs++[(3,z)])) (4,0)).up=true;rw[Gq]
 .rw[EB _ _ (vs++[(3,z)])];show(mvS m AW l (kOf m l) (stO m l (vs++[(3,z)])) (4,0)).n=_;rw[Gq]
end
theorem Cq{w W:J}(h:S w.heap.size w W)(o:Obj):S w.heap.size w (W.alloc o):=h.alloc h.size o
theorem BT{w W W2:J}(h:S w.heap.size w W)(h2:S W.heap.size W W2):S w.heap.size w W2:=h.trans (h2.mono h.size)
def ocB(b0:Bool)(f n s ag:Nat)(d h:Bool):Obj:=N #[I b0,.int Z (f:Nat),.int Z (n:Nat),.int Z (s:Nat),.int Z (ag:Nat),.bool d,.bool h] 48 (0,0)
structure OcAt(w wz:J)(X:Nat)(m:Mo)(l vs:List (Int×Int))(b0:Bool)(f n s ag:Nat)(d h:Bool):Prop where
 bel:S w.heap.size w wz
 box:wz.heap[X]? = V (ocB b0 f n s ag d h)
 out:OutIs m l vs b0 f n s ag d h
section
variable{w wz wy:J}{X:Nat}{m:Mo}{l vs:List (Int×Int)}{b0:Bool}{f n s ag:Nat}{d h:Bool}
theorem OcAt.on(H:OcAt w wz X m l vs b0 f n s ag d h)(hb:S wz.heap.size wz wy):OcAt w wy X m l vs b0 f n s ag d h:=
 ⟨BT H.bel hb,(hb.block X (qG.1 H.box).1).trans H.box,H.out⟩
theorem OcAt.cells(H:OcAt w wz X m l vs b0 f n s ag d h):wz.cell? ⟨X,0,Y⟩=V (.bool b0)/\wz.cell? ⟨X,1,Y⟩=V (.int Z (f:Nat))/\wz.cell? ⟨X,2,Y⟩=V (.int Z (n:Nat))/\wz.cell? ⟨X,3,Y⟩=V (.int Z (s:Nat))/\wz.cell? ⟨X,4,Y⟩=V (.int Z (ag:Nat))/\wz.cell? ⟨X,5,Y⟩=V (.bool d)/\wz.cell? ⟨X,6,Y⟩=V (.bool h):=CR H.box
theorem KC{x:Nat}{a0 a1 a2 a3 a4 a5 a6:E}(hb:S w.heap.size w wz)(hx:w.heap.size<=x):S w.heap.size w (((((((wz.setCell ⟨x,0,Y⟩ a0).setCell ⟨x,1,Y⟩ a1).setCell ⟨x,2,Y⟩ a2).setCell ⟨x,3,Y⟩ a3).setCell ⟨x,4,Y⟩ a4).setCell ⟨x,5,Y⟩ a5).setCell ⟨x,6,Y⟩ a6):=
 ((((((hb.setCell (p:=⟨x,0,Y⟩) hx _).setCell (p:=⟨x,1,Y⟩) hx _).setCell (p:=⟨x,2,Y⟩) hx _).setCell (p:=⟨x,3,Y⟩) hx _).setCell (p:=⟨x,4,Y⟩) hx _).setCell (p:=⟨x,5,Y⟩) hx _).setCell (p:=⟨x,6,Y⟩) hx _
end
theorem UU(gv:E)(gs:List (Int×Int))(most:Nat)(mi:Int)(w:J)(hmi:mi=(most:Nat))(hm:most<=30)(hR:Raws w w.heap.size gv gs):∃vs:List (Int×Int),Bh vs/\vs.length<=most/\(∀v∈vs,1<=v.1/\v.1<=4/\0<=v.2/\v.2<=119)/\∀w',S w.heap.size w w'->r qA 11 #[gv,.int Z mi] w' fun e w2=>∃ao cap,e=G (.slice ao vs.length cap)/\S w'.heap.size w' w2/\M (w2.ownsRow w'.heap.size 53 2 (.slice ao vs.length cap) vs.length (flat vs)):=by
 subst hmi;refine⟨Aq gs most,(L6 gs (by omega)).1,(L6 gs (by omega)).2,fun v hv=>?_,fun w' h=>?_⟩
 .unfold Aq at hv;obtain⟨g,_,rfl⟩:=List.mem_map.1 hv;exact LI g
 .exact SG gv gs most w' (by omega) (hR.up h)
theorem Dg(w:J)(o:Obj):(w.alloc o).heap[w.heap.size]? = V o:=(MapKept.heap_alloc w o).1
theorem WI{x:Int}(h1:0<=x)(h2:x<=1000000):IntKind.i64.wrap x=x:=by
 simp[IntKind.wrap,IntKind.bits,IntKind.signed];omega
theorem V7{w:J}{L:Nat}{cs:Array E}{t:TypeId}{us:List (Int×Int)}(hL:w.heap[L]? = V (N cs t (0,0)))(hc:cs.toList=flat us){n c:Nat}(hn:us.length=n)(hnc:n<=c):OpsV w (U (V ⟨L,0,Y⟩) n c) us:=by
 subst hn;refine⟨_,c,rfl,⟨hnc,fun h=>by simp at h⟩,fun _=>⟨L,0,rfl,(qG.1 hL).1,fun i hi=>?_⟩⟩;obtain⟨f0,f1⟩:=E2 us i hi;rw[<-hc]at f0 f1;rw[Array.getElem?_toList]at f0 f1;constructor
 .simp[World.cell?,hL,f0]
 .simp[World.cell?,hL,f1]
theorem Nx{w:J}{base g n k cap:Nat}{vs us:List (Int×Int)}(h:w.ownsRow base 53 2 (U (V ⟨g,0,Y⟩) (n+k) cap) (n+k) (flat vs++flat us))(hv:vs.length=n)(hu:us.length=k):OpsV w (U (V ⟨g,0,Y⟩) (n+k) cap) (vs++us):=by
 rw[<-Fb]at h;exact Nv (by rw[qF,hv,hu]) h
theorem Su{w:J}{ao:Option Addr}{n cap:Nat}{vs:List (Int×Int)}(h:OpsV w (U ao n cap) vs)(hn:vs.length=n):(ao=Y->n=0/\cap=0)/\∀b,ao=V b->∀j u,(flat vs)[j]? = V u->w.cell? (b.add j)=V u:=by
 obtain⟨ao',cap',e,⟨h1,h2⟩,h3⟩:=h;cases e
 refine⟨fun e=>?_,fun b e j u hj=>?_⟩
 .obtain ⟨h4,h5⟩:=h2 e;subst h5;exact⟨hn.symm,h4⟩
 .have hne:vs≠[]:=by rintro rfl;simp[flat]at hj
  obtain⟨b',off,e2,hlt,hat⟩:=h3 hne;rw[e]at e2;cases e2
  exact hat.cells j u hj
theorem Bh.lit{x:List (Int×Int)}(hx:∀v∈x,1<=v.1/\v.1<=4/\0<=v.2/\v.2<=2147483647)(hl:x.length<=5000):Bh x:=Bh.nil.app hx (by simpa using hl)
noncomputable def ocV(m:Mo)(l vs:List (Int×Int)):Value:=C #[I (stO m l vs).up,.int Z (fN m AW l (stO m l vs).n:Nat),.int Z ((stO m l vs).n:Nat),.int Z ((stO m l vs).s:Nat),.int Z ((stO m l vs).ag:Nat),.bool (dnS m AW l (stO m l vs)),.bool (dnS m AW l (stO m l vs)&&decide (BS (BR m AW l (kOf m l))=11))]
theorem KG{w0 w:J}{va vr pv fv:E}{m:Mo}{l:List (Int×Int)}(HC:SgC w0 va vr pv fv m l)(hb:S w0.heap.size w0 w){ao:Option Addr}{nn cap:Nat}{vs:List (Int×Int)}(hn:vs.length=nn)(hm:Bh vs)(hO:OpsV w (U ao nn cap) vs):r qA 12 #[C #[va,vr,pv,fv],U ao nn cap] w fun e w2=>e=G (A #[ocV m l vs,.bool true])/\S w.heap.size w w2/\M (SgK m l):=by
 refine(HC.so w hb ao nn cap vs hn hm hO).mono fun e w2 ⟨b0,f,n,s,ag,d,h,e1,h2,h3⟩=>⟨?_,h2,h3.out.small⟩;obtain⟨_,h4,h5,h6,h7,h8,h9,h10⟩:=h3.out;rw[e1];unfold ocV;rw[h4,h5,h6,h7,h8,h9,h10]
noncomputable def ocO(m:Mo)(l vs:List (Int×Int)):Obj:=ocB (stO m l vs).up (fN m AW l (stO m l vs).n) (stO m l vs).n (stO m l vs).s (stO m l vs).ag (dnS m AW l (stO m l vs)) (dnS m AW l (stO m l vs)&&decide (BS (BR m AW l (kOf m l))=11))
inductive SqD where
 |val (x:E)
 |lit (cs:Array E) (k:Nat)
 |app (l:List (Int×Int)) (n:Nat)
 |tup (oc:E) (Sm:Prop)
def KR(cs:Array E)(k:Nat)(v:E)(w:J):Prop:=∃g,v=U (V ⟨g,0,Y⟩) k k/\w.heap[g]? = V (N cs 53 (0,0))
def KJ(l:List (Int×Int))(n:Nat)(v:E)(w:J):Prop:=∃g cap,v=U (V ⟨g,0,Y⟩) n cap/\OpsV w (U (V ⟨g,0,Y⟩) n cap) l
def SqD.At:SqD->Bool->E->J->Prop
 | .val x,_,v,_=>v=x
 | .lit cs k,c,v,w=>c=true\/KR cs k v w
 | .app l n,c,v,w=>c=true\/KJ l n v w
 | .tup oc Sm,_,v,_=>v=A #[oc,.bool true]/\Sm
def Ek(base:Nat)(fo:Obj)(c:Bool)(v:E)(w:J):Prop:=∃g,v=ZY (V ⟨g,0,Y⟩)/\base<=g/\w.heap[g]? = V (if c=true then fo else N #[I O,.int Z 0,.int Z 0,.int Z 0,.int Z 0,.bool O,.bool O] 48 (0,0))
def SqP(fs:List SqD)(bx base:Nat)(fo:Obj)(i:Nat)(_ c:Bool)(v:E)(w:J):Prop:=if i=bx then Ek base fo c v w else(fs.getD i (.val .nilIface)).At c v w
theorem orF{p:Prop}(h:O=true\/p):p:=h.resolve_left (fun h=>by cases h)
section
variable{fs:List SqD}{bx base:Nat}{fo:Obj}{b:Bool}{w w':J}
theorem KB(i:Nat)(b c:Bool)(v:E)(w w':J)(h:SqP fs bx base fo i b c v w)(hb:S w.heap.size w w'):SqP fs bx base fo i b c v w':=by
 unfold SqP at *
 by_cases hi:i=bx
 .rw[if_pos hi]at *
  obtain⟨g,h1,h0,h2⟩:=h;exact⟨g,h1,h0,(hb.block g (qG.1 h2).1).trans h2⟩
 .rw[if_neg hi]at *
  generalize fs.getD i (.val .nilIface)=F at *
  cases F with
  |val x=>exact h
  |lit cs k=>exact h.imp id fun⟨g,h1,h2⟩=>⟨g,h1,(hb.block g (qG.1 h2).1).trans h2⟩
  |app l n=>exact h.imp id fun⟨g,c,h1,h2⟩=>⟨g,c,h1,h2.below hb⟩
  |tup oc Sm=>exact h
theorem KA{ops:Array Oper}{tb g:Nat}{q:Nat->E}(hd:Ap ops bx=V tb)(hq:q tb=ZY (V ⟨g,0,Y⟩))(hf:w'.heap[g]? = V fo)(j t:Nat)(ht:Ap ops j=V t)(h:SqP fs bx base fo j b O (q t) w):SqP fs bx base fo j b true (q t) w':=by
 unfold SqP at *
 by_cases hi:j=bx
 .subst hi;rw[if_pos rfl]at *;rw[hd]at ht;obtain rfl:=Option.some.inj ht;obtain⟨g',h1,h0,_⟩:=h;rw[hq]at h1
  injection h1 with h1;injection h1 with h1;injection h1 with h1;subst h1;exact⟨g,hq,h0,hf⟩
 .rw[if_neg hi]at *
  generalize fs.getD j (.val .nilIface)=F at *
  cases F with
  |val x=>exact h
  |lit cs k=>exact .inl rfl
  |app l n=>exact .inl rfl
  |tup oc Sm=>exact h
end
theorem KE{o:Oper}{a:Act}{w:J}{K:Act->J->Prop}{Q:Exit->Act->J->Prop}(s x:Operand)(ho:o.op=.call { callee:=.builtin .append,args:=#[s,x],argTypes:=#[45,45]})
  (ao:Option Addr) (n:Nat) (vs us:List (Int×Int)) (hs:a.eval s=U ao n n) (hV:OpsV w (U ao n n) vs) (hn:vs.length=n) (cs:Array E) (k:Nat) (hx:KR cs k (a.eval x) w) (hc:cs.toList=flat us) (hk:us.length=k) (h0:0<k) (hb:n+k<=100000)
  (hK:∀v w',S w.heap.size w w'->KJ (vs++us) (n+k) v w'->K (a.put o.dst v) w'):Oper.wp qA o a w K Q:=by
 obtain⟨L,hx,hL⟩:=hx;obtain⟨i0,hi,hz0,hz1,hz2⟩:=info_parts KI;obtain⟨f1,f2⟩:=Su hV hn;have hnews:∀j u,(flat us)[j]? = V u->w.cell? ((⟨L,0,Y⟩:Addr).add j)=V u:=fun j u hj=>World.news_of_block hL j u (by rw[hc];exact hj);have hfin:∀v' w',w'.ownsRow w.heap.size 53 2 v' (n+k) (flat vs++flat us)->w.grownBy w' Y->K (a.put o.dst v') w':=fun v' w' h1 h2=>by
  obtain⟨g,cap,rfl,_,_⟩:=h1.form (by omega);exact hK _ w' (Below.grown (qD _ _) h2 (qB _) (fun z hz=>by cases hz)) ⟨g,cap,rfl,Nx h1 hn hk⟩
 have hl1:(flat vs).length=n*2:=by rw[GW,hn]
 have hl2:(flat us).length=k*2:=by rw[GW,hk]
 cases ao with
 |some b=>
  obtain⟨v',w',hrun,r1,r2⟩:=run_append_arg_grows (P:=qA) w 45 o.type 53 i0 _ 2 16 Tryz.underlying45 hi hz0 hz1 hz2 rfl (by decide) b n n (flat vs) hl1 (f2 b rfl) ⟨L,0,Y⟩ k k (flat us) hl2 hnews (by omega) (by unfold maxLen;omega) (by omega);unfold Oper.wp;simp[execOp,ho,resolve,invoke,builtin,hs,hx,hrun,Result.andThen];exact hfin v' w' r1 r2
 |none=>
  obtain⟨rfl,_⟩:=f1 rfl;obtain rfl:vs=[]:=List.length_eq_zero_iff.1 hn;obtain⟨v',w',hrun,r1,r2,_⟩:=run_append_own (P:=qA) w w.heap.size 45 o.type 53 i0 _ 2 16 Tryz.underlying45 hi hz0 hz1 hz2 rfl (by decide) (U Y 0 0) 0 [] (World.ownsRow_nil w _ _ _) ⟨L,0,Y⟩ k k (flat us) hl2 hnews (K9 us) (by unfold maxLen;omega) (by omega) (qB _);unfold Oper.wp;simp[execOp,ho,resolve,invoke,builtin,hs,hx,hrun,Result.andThen];exact hfin v' w' r1 r2
