/- Joined texts. -/
import Derived.Test.YtjldkfiabgagiaaGreatDoorTopC
import Derived.Test.YtjldkfiabgagiaaGreatDoorSccB
import Derived.Test.YtjldkfiabgagiaaGreatDoorLateE
import Derived.ArgAppend
namespace Go.Proofs.YtjldkfiabgagiaaGreatDoor
open _root_.Array renaming getElem?_eq_some_iff→qG,getElem?_modify→qR
open Go.RowKit.Below renaming refl→qD
open _root_.Int renaming toNat_natCast→jF
open _root_.List renaming getD_eq_getElem?_getD→qC,getElem?_eq_getElem→qH,getElem?_take_of_lt→zV,getElem_mem→qS,length_append→qF,length_map→qL,length_take→qM,take_of_length_le→qQ,take_succ_eq_append_getElem→qZ
open _root_.Nat renaming le_of_lt→qT,le_refl→qB,le_succ→vC,le_trans→qI,lt_of_lt_of_le→qE,zero_add→qU,zero_le→qJ
open _root_.Option renaming getD_some→vQ
open Go.Proofs.Tryz renaming prog→qA
open Go.ChangeShapes Go.WideShapes Go.ChangeAt Go.RowKit Go.Deep Go.Maps
open Terms Tm
set_option maxHeartbeats 6400000
set_option maxRecDepth 20000
theorem V2{m:Mo}{ps:List (List (Int×Int))}{l:List (Int×Int)}{K fb:Nat}{w0 w:World}{st:Sr}{g0 g2 g3:Value}{g1 g4:Int}(many:Nat)(hm:many<=2147483647)(hag:st.ag<=1000000000000)(hK:SmallK m ps l K)(h:SxV m ps l K w0 w g0 g1 g2 g3 g4 fb st)(hup:st.up=true) :
  Calls qA 56 #[.pointer (some ⟨w0.heap.size,0,none⟩),.int .i64 (many:Nat)] w fun e w'=>e=.returned (.int .i64 0)/\SxV m ps l K w0 w' g0 g1 g2 g3 g4 fb (wkS K st many):=by
 obtain⟨dso,lo,ro,dc,lc,rc,lol,rsl,hI⟩:=h.lies;obtain⟨hl1,hl2⟩:=hI.lost.two;have HAl:=KP lol rsl lo ro lc rc w hI.may.szU.1 hl1 hl2;rw[ID hI.may,Fw hI.may]at HAl;have HK:Hid (SmallK m ps l K):=hK;have HSt:Hid (SrOk K st):=h.ok;have HFn:Hid (∀wr,Below w0.heap.size w0 wr->DL wr fb m ps l K):=fun wr hb=>h.fnd.below hb;have HKs:Hid ((up (AQ lol rsl)).Pairwise (· <= ·)/\(up (AQ lol rsl)).length<=100000/\∀p,st.n<=p->p<K->(kyX m ps l K p∈up (AQ lol rsl)↔p<st.mx)):=⟨FJ _,hI.may.szU.2,fun p h1 h2=>Rk hK h.ok hI.keys hI.back h1 h2⟩;have HI0:Hid (SxI m ps l K w0 w st g0 g1 g2 g3 g4 fb dso lo ro dc lc rc lol rsl):=hI;have HV0:Hid (SxV m ps l K w0 w g0 g1 g2 g3 g4 fb st):=h;obtain⟨_,_,_,_,_,_,_,c11,c12,_⟩:=BP hI.box;have hwl:=hI.lt;clear hI h hl1 hl2;generalize hkse:up (AQ lol rsl)=ks at *;unfold FL at HAl
 go_enter Tryz.func56,Tryz.ntmps56;go_upto_region 2 with(go_at_call 81;refine HAl.mono ?_;rintro e wA ⟨ko,kc,rfl,hbA,HKl⟩)
 have hwA:=hbA.size;have HJ0:Hid (WkJ m ps l K w0 w wA wA g0 g1 g2 g3 g4 fb (wkS K st 0) lol rsl (.slice ko ks.length kc) ks):=by
  rw[Vx HSt.out];exact⟨HV0.out.bel.trans (hbA.mono HV0.out.bel.size),qB _,⟨HKl.out.1,fun b off n c e hne=>⟨HKl.out.2 b off n c e hne,by
   obtain⟨ao,cap,e1,_,h3⟩:=HKl.out.1;obtain⟨b',off',e2,hlt,_⟩:=h3 hne;injection e with e3 _ _;injection e1 with e4 _ _;rw[<-e4,e3]at e2;injection e2 with e2;injection e2 with e2 _;omega⟩⟩,dso,lo,ro,dc,lc,rc,HI0.out.below hbA,fun g e=>.inl (HI0.out.data.lt g e).2⟩
 clear HKl;go_wp2_with fail
 go_loopw [1] (fun mv wr=>∃j:Nat,j<=many/\mv=.int .i64 ((many-j:Nat):Int)/\Hid (WkJ m ps l K w0 w wA wr g0 g1 g2 g3 g4 fb (wkS K st j) lol rsl (.slice ko ks.length kc) ks)) (fun mv _=>(intOf mv).toNat)
 case atStart=>exact⟨0,qJ _,rfl,HJ0⟩
 case round=>
  obtain⟨j,hj,rfl,HJ⟩:=hrel;obtain⟨hb0r,hAr,HKr,dso,lo,ro,dc,lc,rc,hI,hsep⟩:=HJ.out;have HIr:=(show Hid _ from hI);obtain⟨_,b5,b6,b7,b8,b9,b10,b11,b12,b13⟩:=BP hI.box;have hend:∀w',Below wr.heap.size wr w'->(j=many\/¬(wkS K st j).n<K)->SxV m ps l K w0 w' g0 g1 g2 g3 g4 fb (wkS K st many):=fun w' hb hor=>by
   have e:wkS K st j=wkS K st many:=by
    rcases hor with e|h
    .rw[e]
    .exact Vu hj h
   rw[<-e];exact⟨HSt.out.wk j,fun e2=>absurd (hup.symm.trans e2) (by simp),hb0r.trans (hb.mono hb0r.size),HV0.out.fnd,dso,lo,ro,dc,lc,rc,lol,rsl,hI.below hb⟩
  have HEnd:=(show Hid _ from hend);have hnK:(wkS K st j).n<=K:=by have:=(HSt.out.wk j).b;have:=(HSt.out.wk j).c;omega
  have HnK:=(show Hid _ from hnK);clear hend hI HJ;by_cases hjm:j<many
  .have hmj:(0:Int)<((many-j:Nat):Int):=by omega
   by_cases hnn:(wkS K st j).n<K
   .have hlf:((wkS K st j).n:Int)<(fN m ps l (wkS K st j).n:Int):=by have:=GR HK.out.done hnn;omega
    obtain⟨hn1,hn2,hn3,hn4,hn5,hn6⟩:=Vv HSt.out hnn;have HN1:Hid ((wkS K st j).n=st.n+j/\(wkS K st (j+1)).n=st.n+j+1/\(wkS K st (j+1)).mx=max (wkS K st j).mx (st.n+j+1)/\(wkS K st (j+1)).ag=(wkS K st j).ag+(if st.n+j<st.mx then 1 else 0)/\(wkS K st (j+1)).s=(wkS K st j).s/\(wkS K st (j+1)).up=(wkS K st j).up):=⟨hn1,hn2,hn3,hn4,hn5,hn6⟩;clear hn1 hn2 hn3 hn4 hn5 hn6;obtain⟨d0,d1,ro9,rc9,d2,hrec⟩:=(HFn.out wr hb0r).2 _ hnn;obtain⟨rb,roff,rfl,hrbl,hrat⟩:∃rb roff,ro9=some ⟨rb,roff,none⟩/\rb<wr.heap.size/\CH wr rb roff (AD (rcX m ps l (wkS K st j).n)):=by
     obtain⟨ao,cap,e1,_,h3⟩:=id hrec;injection e1 with e1 _ _;subst e1;exact h3 (by intro h;have:=Cx (rcX m ps l (wkS K st j).n);rw[h]at this;simp at this)
    have HRec:=(show Hid _ from hrec);have HDl:Hid ((byX m ps l (wkS K st j).n).length<=16000/\(AD (rcX m ps l (wkS K st j).n)).length<=16000/\0<(AD (rcX m ps l (wkS K st j).n)).length):=by
     have h1:=HK.out.bytes (n:=(wkS K st j).n) (qT hnn);have h2:=Cx (rcX m ps l (wkS K st j).n);have h3:=Ft (m:=m) (ps:=ps) (l:=l) (wkS K st j).n;have h4:=(DO HK.out.done (j:=(wkS K st j).n+1) hnn).2;have h5:=HK.out.few;show _/\_/\_;omega
    have HRt:Hid (∀W,Below wr.heap.size wr W->∀i u,(AF (AD (rcX m ps l (wkS K st j).n)))[i]? = some u->W.cell? ((⟨rb,roff,none⟩:Addr).add i)=some u):=fun W hb=>(hrat.below hb hrbl).cells;have HJr:Hid (SxJ w0 wr (seB g0 g1 g2 g3 g4 (.slice (some ⟨fb,0,none⟩) K K) st.up (fN m ps l (wkS K st j).n) (wkS K st j).n (.slice dso (byX m ps l (wkS K st j).n).length dc) (byX m ps l (wkS K st j).s).length (.slice lo lol.length lc) (.slice ro rsl.length rc) (wkS K st j).ag) (.slice dso (byX m ps l (wkS K st j).n).length dc) (byX m ps l (wkS K st j).n).length (byX m ps l (wkS K st j).n) (.slice lo lol.length lc) (.slice ro rsl.length rc) lol rsl):=⟨HIr.out.box,HIr.out.data,HIr.out.lost⟩;have HCl:Hid (∀W,Below wr.heap.size wr W->(W.cell? ⟨w0.heap.size,5,none⟩=some (.slice (some ⟨fb,0,none⟩) K K)/\W.cell? ⟨w0.heap.size,8,none⟩=some (.int .i64 ((wkS K st j).n:Nat)))/\W.cell? ⟨fb,(wkS K st j).n*3,none⟩=some (.int .i64 (AO ((xpP m ps l K).getD (wkS K st j).n (0,0))))/\W.cell? ⟨fb,(wkS K st j).n*3+1,none⟩=some (.int .i64 ((fN m ps l ((wkS K st j).n+1)-fN m ps l (wkS K st j).n:Nat):Int))/\W.cell? ⟨fb,(wkS K st j).n*3+2,none⟩=some (.slice (some ⟨rb,roff,none⟩) (AD (rcX m ps l (wkS K st j).n)).length rc9)):=fun W hb=>by
     have hc:∀(p:Addr) (x:Value),wr.cell? p=some x->W.cell? p=some x:=fun p x h=>(hb.cell (World.block_lt_of_cell? wr p h)).trans h;exact⟨⟨hc _ _ b5,hc _ _ b8⟩,hc _ _ d0,hc _ _ d1,hc _ _ d2⟩
    have HBy:Hid (byX m ps l ((wkS K st j).n+1)=byX m ps l (wkS K st j).n++AD (rcX m ps l (wkS K st j).n)):=KX _;have HKy:Hid (AO ((xpP m ps l K).getD (wkS K st j).n (0,0))=kyX m ps l K (wkS K st j).n):=rfl;have hfoK:fN m ps l (wkS K st j).n<=K/\fN m ps l ((wkS K st j).n+1)<=K/\fN m ps l (wkS K st j).n<=fN m ps l ((wkS K st j).n+1):=⟨(DO HK.out.done (qT hnn)).2,(DO HK.out.done hnn).2,Ew (Nat.le_add_right _ 1)⟩;have hK1:=HK.out.few;have HFo:=(show Hid _ from hfoK);clear hrec hrat;generalize AO ((xpP m ps l K).getD (wkS K st j).n (0,0))=ky at *;generalize hfre:fN m ps l ((wkS K st j).n+1)-fN m ps l (wkS K st j).n=fr at *;have HFr:Hid (fN m ps l ((wkS K st j).n+1)=fN m ps l (wkS K st j).n+fr):=by show _=_;omega
    clear hfre hfoK;generalize hrl:AD (rcX m ps l (wkS K st j).n)=rec at *;generalize hbl:byX m ps l (wkS K st j).n=bs at *;have HBl:Hid (byX m ps l (wkS K st j).n=bs):=hbl;clear hrl hbl;generalize hdn:bs.length=dn at *;have HDn:Hid (bs.length=dn):=hdn;generalize hrn:rec.length=rn at *;have HRn:Hid (rec.length=rn):=hrn;clear hdn hrn
    have hagb:(wkS K st j).ag<=1000000001000:=by
     have h1:(wkS K st j).ag=st.ag+(min (min (st.n+j) K) st.mx-st.n):=rfl;have:=HK.out.few;omega
    generalize hag:(wkS K st j).ag=ag at *;generalize hne:(wkS K st j).n=n at *;have HNe:Hid ((wkS K st j).n=n):=hne;clear hag hne;generalize hfo:fN m ps l n=fo at *;have HFoe:Hid (fN m ps l n=fo):=hfo;clear hfo;generalize hmje:many-j=mj at *;have HMj:Hid (many-j=mj):=hmje;have hmjb:mj<=2147483647:=by omega
    clear hmje;obtain⟨hdl,hrl,hrp⟩:=HDl.out;clear HFn HIr;go_wp2_with fail
    have hd1:decide (0<mj)=true:=decide_eq_true (by omega);have hd2:decide (n<fo)=true:=decide_eq_true (by omega);go_quiet (fail)
    go_upto_region 6 with fail
    obtain⟨wq,hwq⟩:∃wq,wq=wr.drewN nq:=⟨_,rfl⟩;have hbq:Below wr.heap.size wr wq:=by rw[hwq];exact⟨rfl,rfl,rfl,qB _,fun _ _=>rfl⟩
    rw[<-hwq];clear hwq;go_cut [7] (fun u wx=>∃B,u=.pointer (some ⟨B,0,none⟩)/\Hid (Below wr.heap.size wr wx/\wx.heap[B]? = some (.cells #[.int .i64 ky,.int .i64 (fr:Nat),.slice (some ⟨rb,roff,none⟩) rn rc9] 186 (0,0))/\wr.heap.size<=B))
    case first=>
     go_region_held3 (fun W=>(W.cell? ⟨w0.heap.size,5,none⟩=some (.slice (some ⟨fb,0,none⟩) K K)/\W.cell? ⟨w0.heap.size,8,none⟩=some (.int .i64 (n:Nat)))/\W.cell? ⟨fb,n*3,none⟩=some (.int .i64 ky)/\W.cell? ⟨fb,n*3+1,none⟩=some (.int .i64 (fr:Nat))/\W.cell? ⟨fb,n*3+2,none⟩=some (.slice (some ⟨rb,roff,none⟩) rn rc9))
      (first|exact HCl.out _ (hbq.drew)|exact HCl.out _ hbq|exact HCl.out _ (hbq.alloc hbq.size _)|exact HCl.out _ (hbq.drew.alloc hbq.size _)|exact HCl.out _ ((hbq.drew.alloc hbq.size _).setCell (by simp;have:=hbq.size;omega) _))
      (fail)
     all_goals go_wp2_with fail
     all_goals go_meet
     all_goals exact⟨_,rfl,(hbq.alloc hbq.size _).drew,(MapKept.heap_alloc wq _).1,hbq.size⟩
    case rest=>
     obtain⟨B,rfl,HF⟩:=hcut;obtain⟨w2,rfl⟩:∃w4,w4=wc:=⟨_,rfl⟩;have hb2:=HF.out.1;have HJ2:=(show Hid _ from HJr.out.below hb2);obtain⟨_,x5,x6,x7,x8,x9,x10,x11,x12,x13⟩:=BP HJ2.out.1;have hBc:=HF.out.2.1;have f0:w2.cell? ⟨B,0,none⟩=some (.int .i64 ky):=by simp[World.cell?,hBc]
     have f1:w2.cell? ⟨B,1,none⟩=some (.int .i64 (fr:Nat)):=by simp[World.cell?,hBc]
     have f2:w2.cell? ⟨B,2,none⟩=some (.slice (some ⟨rb,roff,none⟩) rn rc9):=by simp[World.cell?,hBc]
     have hBl:B<w2.heap.size:=(qG.1 hBc).1;clear hBc;have hbig:¬(1048576:Int)<(dn:Int)+(rn:Int):=by omega
     go_wp2_with fail
     go_quiet (fail)
     go_upto_region 8 with fail
     obtain⟨w3,hw3⟩:∃w3,w3=w2.drewN nq:=⟨_,rfl⟩;have hb3:Below w2.heap.size w2 w3:=by rw[hw3];exact⟨rfl,rfl,rfl,qB _,fun _ _=>rfl⟩
     rw[<-hw3];clear hw3;have HW:Hid (∀W,Below w2.heap.size w2 W->(W.cell? ⟨w0.heap.size,9,none⟩=some (.slice dso dn dc)/\W.cell? ⟨B,2,none⟩=some (.slice (some ⟨rb,roff,none⟩) rn rc9))/\W.ownsRow (w0.heap.size+1) 5 1 (.slice dso dn dc) dn (AF bs)/\(∀i u,(AF rec)[i]? = some u->W.cell? ((⟨rb,roff,none⟩:Addr).add i)=some u)/\w0.heap.size+1<=W.heap.size):=fun W h=>by
      have h2:=HJ2.out.below h;obtain⟨_,_,_,_,_,y9,_⟩:=BP h2.1;exact⟨⟨y9,(h.cell (World.block_lt_of_cell? w2 _ f2)).trans f2⟩,h2.data,HRt.out W (hb2.trans (h.mono hb2.size)),(qG.1 h2.1).1⟩
     have HGr:Hid (∀W w4 (g cap:Nat),Below w2.heap.size w2 W->W.grownBy w4 (Value.slice dso dn dc).ownBlock->w4.ownsRow (w0.heap.size+1) 5 1 (.slice (some ⟨g,0,none⟩) (dn+rn) cap) (dn+rn) (AF bs++AF rec)->((Value.slice dso dn dc).ownBlock=some g\/g=W.heap.size)->((∃v,w4.cell? ⟨w0.heap.size,9,none⟩=some v)/\w4.frozen? ⟨w0.heap.size,9,none⟩=false)/\SxJ w0 (w4.setCell ⟨w0.heap.size,9,none⟩ (.slice (some ⟨g,0,none⟩) (dn+rn) cap)) (seB g0 g1 g2 g3 g4 (.slice (some ⟨fb,0,none⟩) K K) st.up fo n (.slice (some ⟨g,0,none⟩) (dn+rn) cap) (byX m ps l (wkS K st j).s).length (.slice lo lol.length lc) (.slice ro rsl.length rc) ag) (.slice (some ⟨g,0,none⟩) (dn+rn) cap) (dn+rn) (bs++rec) (.slice lo lol.length lc) (.slice ro rsl.length rc) lol rsl/\Below w0.heap.size w0 (w4.setCell ⟨w0.heap.size,9,none⟩ (.slice (some ⟨g,0,none⟩) (dn+rn) cap))/\wA.heap.size<=(w4.setCell ⟨w0.heap.size,9,none⟩ (.slice (some ⟨g,0,none⟩) (dn+rn) cap)).heap.size/\((w4.setCell ⟨w0.heap.size,9,none⟩ (.slice (some ⟨g,0,none⟩) (dn+rn) cap)).cell? ⟨B,0,none⟩=some (.int .i64 ky)/\(w4.setCell ⟨w0.heap.size,9,none⟩ (.slice (some ⟨g,0,none⟩) (dn+rn) cap)).cell? ⟨B,1,none⟩=some (.int .i64 (fr:Nat))/\B≠w0.heap.size)/\CZ (w4.setCell ⟨w0.heap.size,9,none⟩ (.slice (some ⟨g,0,none⟩) (dn+rn) cap)) (fun b=>w.heap.size<=b/\b<wA.heap.size) (.slice ko ks.length kc) ks/\(g<w.heap.size\/wA.heap.size<=g)):=fun W w4 g cap hb hg ho hat=>by
      have h2:=HJ2.out.below hb;have hbW:=hb2.trans (hb.mono hb2.size);have hoW:=HJr.out.data;have hX:w0.heap.size<wr.heap.size:=(qG.1 HJr.out.1).1;have hold:∀b,(Value.slice dso dn dc).ownBlock=some b->b<wr.heap.size/\w0.heap.size+1<=b:=fun b e=>⟨(hoW.lt b e).2,(hoW.lt b e).1⟩;rw[show AF bs++AF rec=AF (bs++rec)from(GG bs rec).symm]at ho;have h4:=h2.grow hg ho hat;obtain⟨_,_,_,_,_,y9,_⟩:=BP h4.1;have h5:=h4.put (M2 h4.1 (.slice (some ⟨g,0,none⟩) (dn+rn) cap));have hBX:B≠w0.heap.size:=by have:=HF.out.2.2;omega
      have hBW:∀i v,w2.cell? ⟨B,i,none⟩=some v->(w4.setCell ⟨w0.heap.size,9,none⟩ (.slice (some ⟨g,0,none⟩) (dn+rn) cap)).cell? ⟨B,i,none⟩=some v:=fun i v h=>by
       have h6:W.cell? ⟨B,i,none⟩=some v:=(hb.cell (World.block_lt_of_cell? w2 _ h)).trans h;have h7:w4.heap[B]? = W.heap[B]?:=hg.block B (World.block_lt_of_cell? W _ h6) fun e=>by have:=(hold B e.symm).1;have:=HF.out.2.2;omega
       rw[World.cell?_of_block (a:=⟨B,i,none⟩) ((RowKit.Below.heap_setCell _ _ _ _ (by show B≠w0.heap.size;exact hBX)).trans h7)];exact h6
      refine⟨⟨⟨_,y9⟩,CD h4.1 9⟩,h5,?_,by simpa using qI (qI hAr hbW.size) hg.size,⟨hBW 0 _ f0,hBW 1 _ f1,hBX⟩,HKr.blocks (by simpa using qI hbW.size hg.size) (fun b hlt hp=>⟨?_,hp⟩),?_⟩
      .exact (Below.grown (hb0r.trans (hbW.mono hb0r.size)) hg (qI hb0r.size hbW.size) (fun z hz=>by have:=(hold z hz).2;omega)).setCell (p:=⟨w0.heap.size,9,none⟩) (qB _) _
      .refine (RowKit.Below.heap_setCell _ _ _ _ (by show b≠w0.heap.size;omega)).trans ((hg.block b (qE hlt hbW.size) fun e=>?_).trans (hbW.block b hlt));have:=hsep b e.symm;omega
      .rcases hat with e|e
       .exact hsep g e
       .right;have:=hbW.size;omega
     obtain⟨i0,hi,hz0,hz1,hz2⟩:=info_parts Ff;have HLm:Hid ((AF rec).length=rn*1):=by show _=_;rw[EN,HRn.out];omega
     have h63:dn+rn<=maxLen:=by unfold maxLen;omega
     clear x5 x6 x7 x8 x9 x10 x11 x12 x13 f0 f1 f2;go_cut [] (fun wx=>∃g cap,Hid (SxJ w0 wx (seB g0 g1 g2 g3 g4 (.slice (some ⟨fb,0,none⟩) K K) st.up fo n (.slice (some ⟨g,0,none⟩) (dn+rn) cap) (byX m ps l (wkS K st j).s).length (.slice lo lol.length lc) (.slice ro rsl.length rc) ag) (.slice (some ⟨g,0,none⟩) (dn+rn) cap) (dn+rn) (bs++rec) (.slice lo lol.length lc) (.slice ro rsl.length rc) lol rsl/\Below w0.heap.size w0 wx/\wA.heap.size<=wx.heap.size/\(wx.cell? ⟨B,0,none⟩=some (.int .i64 ky)/\wx.cell? ⟨B,1,none⟩=some (.int .i64 (fr:Nat))/\B≠w0.heap.size)/\CZ wx (fun b=>w.heap.size<=b/\b<wA.heap.size) (.slice ko ks.length kc) ks/\(g<w.heap.size\/wA.heap.size<=g)))
     case first=>
      obtain⟨⟨z9,z2⟩,_⟩:=HW.out _ hb3;obtain⟨⟨z9',z2'⟩,_⟩:=HW.out _ hb3.drew;go_region_law (first
       |(refine step_append_lies _ (by rfl) (.tmp 60) (.tmp 62) 142 (by rfl) (w0.heap.size+1) 5 i0 _ 1 1 Tryz.underlying142 hi hz0 hz1 hz2 (by rfl) (by decide) (.slice dso dn dc) dn (AF bs) (by rfl) (HW.out _ (by first|exact hb3.drew|exact hb3)).2.1 ⟨rb,roff,none⟩ rn rc9 (AF rec) (by rfl) HLm.out (HW.out _ (by first|exact hb3.drew|exact hb3)).2.2.1 (IM rec) hrp h63 (by omega) (HW.out _ (by first|exact hb3.drew|exact hb3)).2.2.2 _ rfl ?_;intro gg gcap w4 ho4 hg4 hat4 hlt4;obtain⟨⟨⟨v9,y9⟩,yf⟩,hgr⟩:=HGr.out _ w4 gg gcap (by first|exact hb3.drew|exact hb3) hg4 ho4 hat4;have HGG:=(show Hid _ from hgr)))
      all_goals go_wp2_with fail
      all_goals go_meet
      all_goals exact⟨gg,gcap,HGG.out⟩
     case rest=>
      obtain⟨gg,gcap,HP⟩:=hcut;obtain⟨w4,rfl⟩:∃w4,w4=wc:=⟨_,rfl⟩;obtain⟨hj4,hb04,hA4,⟨f0,f1,hBX⟩,hks4,hgg⟩:=id HP.out;obtain⟨_,_,_,x7,x8,_,_,_,_,x13⟩:=BP hj4.box;have xf:=CD hj4.box;have xf7:=xf 7;have xf8:=xf 8;go_upto_region 10 with fail
      obtain⟨w5,hw5⟩:∃w5,w5=w4.setCell ⟨w0.heap.size,8,none⟩ (.int .i64 ((n:Int)+1)):=⟨_,rfl⟩;rw[<-hw5];have hj5:SxJ w0 w5 (seB g0 g1 g2 g3 g4 (.slice (some ⟨fb,0,none⟩) K K) st.up fo (n+1) (.slice (some ⟨gg,0,none⟩) (dn+rn) gcap) (byX m ps l (wkS K st j).s).length (.slice lo lol.length lc) (.slice ro rsl.length rc) ag) (.slice (some ⟨gg,0,none⟩) (dn+rn) gcap) (dn+rn) (bs++rec) (.slice lo lol.length lc) (.slice ro rsl.length rc) lol rsl:=by
       rw[hw5];exact hj4.put (M3 hj4.box (n+1))
      have hcX:∀i v,w4.cell? ⟨B,i,none⟩=some v->w5.cell? ⟨B,i,none⟩=some v:=fun i v h=>by
       rw[hw5,World.cell?_of_block (a:=⟨B,i,none⟩) (RowKit.Below.heap_setCell _ _ _ _ (by show B≠w0.heap.size;exact hBX))];exact h
      have f05:=hcX 0 _ f0;have f15:=hcX 1 _ f1;have hb05:Below w0.heap.size w0 w5:=by rw[hw5];exact hb04.setCell (p:=⟨w0.heap.size,8,none⟩) (qB _) _
      have hA5:wA.heap.size<=w5.heap.size:=by rw[hw5];simpa using hA4
      have hk5:CZ w5 (fun b=>w.heap.size<=b/\b<wA.heap.size) (.slice ko ks.length kc) ks:=by
       rw[hw5];exact hks4.blocks (by simp) fun b hlt hp=>⟨RowKit.Below.heap_setCell _ _ _ _ (by show b≠w0.heap.size;omega),hp⟩
      clear hw5 hcX f0 f1 x7 x8 x13 xf xf7 xf8 hj4 hb04 hA4 hks4;obtain⟨_,_,_,x7,x8,_,_,_,_,x13⟩:=BP hj5.box;have xf7:=CD hj5.box 7;have HP5:Hid ((SxJ w0 w5 (seB g0 g1 g2 g3 g4 (.slice (some ⟨fb,0,none⟩) K K) st.up fo (n+1) (.slice (some ⟨gg,0,none⟩) (dn+rn) gcap) (byX m ps l (wkS K st j).s).length (.slice lo lol.length lc) (.slice ro rsl.length rc) ag) (.slice (some ⟨gg,0,none⟩) (dn+rn) gcap) (dn+rn) (bs++rec) (.slice lo lol.length lc) (.slice ro rsl.length rc) lol rsl)/\Below w0.heap.size w0 w5/\wA.heap.size<=w5.heap.size/\(w5.cell? ⟨B,0,none⟩=some (.int .i64 ky))/\CZ w5 (fun b=>w.heap.size<=b/\b<wA.heap.size) (.slice ko ks.length kc) ks/\(gg<w.heap.size\/wA.heap.size<=gg)):=⟨hj5,hb05,hA5,f05,hk5,hgg⟩;clear hj5 hb05 hA5 hk5 hgg;have hsum:((fo:Int)+(fr:Int))=((fo+fr:Nat):Int):=by omega
      go_cut [] (fun wx=>∃wy,wx=wy.setCell ⟨w0.heap.size,7,none⟩ (.int .i64 ((fo:Int)+(fr:Int)))/\Below w5.heap.size w5 wy)
      case first=>
       have hfb:=HFo.out;have hfr1:fr<=1000:=by have:=HFr.out;omega
       clear hsum;go_region_law (fail)
       all_goals go_wp2_with fail
       all_goals go_meet
       all_goals exact⟨w5.drew,by rw[IntWalk.i64_left,IntWalk.wrap64_in _ (by omega)];rfl,(qD _ _).drew⟩
      case rest=>
       obtain⟨wy,rfl,hby⟩:=hcut;obtain⟨w6,hw6⟩:∃w6,w6=wy.setCell ⟨w0.heap.size,7,none⟩ (.int .i64 ((fo:Int)+(fr:Int))):=⟨_,rfl⟩;rw[<-hw6];obtain⟨hj5,hb05,hA5,f05,hk5,hgg⟩:=HP5.out;have hjy:=hj5.below hby
       have HP6:Hid (SxJ w0 w6 (seB g0 g1 g2 g3 g4 (.slice (some ⟨fb,0,none⟩) K K) st.up (fo+fr) (n+1) (.slice (some ⟨gg,0,none⟩) (dn+rn) gcap) (byX m ps l (wkS K st j).s).length (.slice lo lol.length lc) (.slice ro rsl.length rc) ag) (.slice (some ⟨gg,0,none⟩) (dn+rn) gcap) (dn+rn) (bs++rec) (.slice lo lol.length lc) (.slice ro rsl.length rc) lol rsl/\Below w0.heap.size w0 w6/\wA.heap.size<=w6.heap.size/\w6.cell? ⟨B,0,none⟩=some (.int .i64 ky)/\CZ w6 (fun b=>w.heap.size<=b/\b<wA.heap.size) (.slice ko ks.length kc) ks):=by
        rw[hw6,hsum];refine⟨hjy.put (Jb hjy.box (fo+fr)),(hb05.trans (hby.mono hb05.size)).setCell (p:=⟨w0.heap.size,7,none⟩) (qB _) _,by simpa using qI hA5 hby.size,?_,(hk5.blocks hby.size fun b hlt hp=>⟨hby.block b hlt,hp⟩).blocks (by simp) fun b hlt hp=>⟨RowKit.Below.heap_setCell _ _ _ _ (by show b≠w0.heap.size;omega),hp⟩⟩;rw[World.cell?_of_block (a:=⟨B,0,none⟩) (RowKit.Below.heap_setCell _ _ _ _ (by show B≠w0.heap.size;exact hBX))];exact(hby.cell (World.block_lt_of_cell? w5 _ f05)).trans f05
       have hin:=LN ky ko kc ks w6 HKs.out.2.1 HKs.out.1 HP6.out.2.2.2.2.1;have f06:=HP6.out.2.2.2.1;have HFin:Hid (∀(W:World) (ag':Nat),SxJ w0 W (seB g0 g1 g2 g3 g4 (.slice (some ⟨fb,0,none⟩) K K) st.up (fo+fr) (n+1) (.slice (some ⟨gg,0,none⟩) (dn+rn) gcap) (byX m ps l (wkS K st j).s).length (.slice lo lol.length lc) (.slice ro rsl.length rc) ag') (.slice (some ⟨gg,0,none⟩) (dn+rn) gcap) (dn+rn) (bs++rec) (.slice lo lol.length lc) (.slice ro rsl.length rc) lol rsl->Below w0.heap.size w0 W->wA.heap.size<=W.heap.size->CZ W (fun b=>w.heap.size<=b/\b<wA.heap.size) (.slice ko ks.length kc) ks->ag'=ag+(if n<st.mx then 1 else 0)->WkJ m ps l K w0 w wA W g0 g1 g2 g3 g4 fb (wkS K st (j+1)) lol rsl (.slice ko ks.length kc) ks):=fun W ag' hj hb hA hk hag=>by
        obtain⟨e1,e2,e3,e4,e5,e6⟩:=HN1.out;rw[<-e1]at e2 e3 e4;have hlen:(byX m ps l (n+1)).length=dn+rn:=by rw[HBy.out,qF,HDn.out,HRn.out]
        refine⟨hb,hA,hk,some ⟨gg,0,none⟩,lo,ro,gcap,lc,rc,⟨?_,?_,?_,HI0.out.may,fun x hx=>?_,fun p hp1 hp2=>?_⟩,?_⟩
        .rw[hj.box,e2,hlen,HFr.out,e5,e4,<-hag];rfl
        .rw[e2,hlen,HBy.out];exact hj.data
        .rw[e2,hlen];exact hj.lost
        .obtain ⟨p,hp,hx2⟩:=HI0.out.keys x hx;refine⟨p,?_,hx2⟩;rw[e3];have:st.mx<=(wkS K st j).mx:=Nat.le_max_left _ _;omega
        .rw[e2]at hp1;rw[e3]at hp2;have h9:(wkS K st j).mx=max st.mx (min (st.n+j) K):=rfl;exact HI0.out.back p (by omega) (by omega)
        .rw[e2,hlen];intro g e;injection e with e;subst e;exact hgg
       have hiff:=HKs.out.2.2 n (by have:=HN1.out.1;omega) hnn;rw[<-HKy.out]at hiff;obtain⟨_,_,_,_,x8,_,_,_,_,x13⟩:=BP HP6.out.1.box;have xf13:=CD HP6.out.1.box 13;clear hw6 hjy hj5 hb05 hA5 hk5 f05 hby
       by_cases hmem:ky∈ks
       .rw[decide_eq_true hmem]at hin;have hlt:=hiff.1 hmem;go_wp2_with (go_at_call 82;refine hin.mono ?_;rintro e w7 ⟨rfl,q,rfl⟩)
        have hdr:Below w6.heap.size w6 (w6.drewN q):=⟨rfl,rfl,rfl,qB _,fun _ _=>rfl⟩;obtain⟨p1,p2,p3,_,p5⟩:=HP6.out;rw[show(ag:Int)+1=((ag+1:Nat):Int) by omega];have hj7:=(p1.below hdr).put (UQ (p1.below hdr).box (ag+1));have HK7:=(show Hid _ from HFin.out _ (ag+1) hj7 ((p2.trans (hdr.mono p2.size)).setCell (p:=⟨w0.heap.size,13,none⟩) (qB _) _) (by simpa using p3) ((p5.blocks hdr.size fun b hlt hp=>⟨hdr.block b hlt,hp⟩).blocks (by simp) fun b hlt hp=>⟨RowKit.Below.heap_setCell _ _ _ _ (by show b≠w0.heap.size;omega),hp⟩) (by rw[if_pos hlt]));go_roundw
        case rel=>exact⟨j+1,by omega,by have:=HMj.out;congr 1;omega,HK7⟩
        case measure=>
         simp[intOf];omega
       .rw[decide_eq_false hmem]at hin;have hlt:¬n<st.mx:=fun h=>hmem (hiff.2 h);go_wp2_with (go_at_call 82;refine hin.mono ?_;rintro e w7 ⟨rfl,q,rfl⟩)
        have hdr:Below w6.heap.size w6 (w6.drewN q):=⟨rfl,rfl,rfl,qB _,fun _ _=>rfl⟩;obtain⟨p1,p2,p3,_,p5⟩:=HP6.out;have HK7:=(show Hid _ from HFin.out _ ag (p1.below hdr) (p2.trans (hdr.mono p2.size)) p3 (p5.blocks hdr.size fun b hlt hp=>⟨hdr.block b hlt,hp⟩) (by simp[hlt]));go_roundw
        case rel=>exact⟨j+1,by omega,by have:=HMj.out;congr 1;omega,HK7⟩
        case measure=>
         simp[intOf];omega
   .have hlf:¬((wkS K st j).n:Int)<(fN m ps l (wkS K st j).n:Int):=by
     have e:(wkS K st j).n=K:=by omega
     rw[e,GS HK.out.done];omega
    generalize(wkS K st j).n=n at *;generalize fN m ps l n=fo at *;generalize many-j=mj at *
    go_wp2_with fail
    have hd1:decide (0<mj)=true:=decide_eq_true (by omega);have hd2:decide (n<fo)=false:=decide_eq_false (by omega);go_quiet (fail)
    all_goals go_wp2_with fail
    all_goals go_ret
    all_goals exact⟨by first|rfl|simp,HEnd.out _ ⟨rfl,rfl,rfl,qB _,fun _ _=>rfl⟩ (.inr hnn)⟩
  .have hmj:¬(0:Int)<((many-j:Nat):Int):=by omega
   generalize many-j=mj at *
   go_wp2_with fail
   have hd1:decide (0<mj)=false:=decide_eq_false (by omega);go_quiet (fail)
   all_goals go_wp2_with fail
   all_goals go_ret
   all_goals exact⟨by first|rfl|simp,HEnd.out _ ⟨rfl,rfl,rfl,qB _,fun _ _=>rfl⟩ (.inl (by omega))⟩
section
variable{m:Mo}{ps:List (List (Int×Int))}{l:List (Int×Int)}{K fb:Nat}{w0 w:World}{st:Sr}{g0 g2 g3:Value}{g1 g4:Int}
theorem SxV.start(h:SxV m ps l K w0 w g0 g1 g2 g3 g4 fb st):SxV m ps l K w0 (w.setCell ⟨w0.heap.size,6,none⟩ (.bool true)) g0 g1 g2 g3 g4 fb { st with up:=true}:=by
 obtain⟨dso,lo,ro,dc,lc,rc,lol,rsl,hI⟩:=h.lies;obtain⟨s1,s2⟩:=hI.setB 6 (.bool true);exact⟨⟨h.ok.a,h.ok.b,h.ok.c⟩,fun e=>(by cases e),h.bel_set 6 _,h.fnd,dso,lo,ro,dc,lc,rc,lol,rsl,⟨M4 hI.box true,s1,s2,hI.may,hI.keys,hI.back⟩⟩
theorem PY(hK:SmallK m ps l K)(h:SxV m ps l K w0 w g0 (AC m ps l).length g2 g3 g4 fb st)(hag:st.ag<=1000000000000)(v:Int×Int)(hv:v.1=1\/v.1=2\/v.1=3\/v.1=4)(h0:0<=v.2)(h1:v.2<=2147483647) :
  Calls qA 37 #[.pointer (some ⟨w0.heap.size,0,none⟩),.agg #[.int .i64 v.1,.int .i64 v.2]] w fun e w'=>e=.returned (.int .i64 0)/\SxV m ps l K w0 w' g0 (AC m ps l).length g2 g3 g4 fb (mvS m ps l K st v):=by
 obtain⟨kind,many⟩:=v;simp only at hv h0 h1;obtain⟨k,rfl⟩:=Int.eq_ofNat_of_zero_le h0;have hal:Below w.heap.size w (w.alloc (.cells #[.int .i64 kind,.int .i64 (k:Nat)] 53)):=(qD _ _).alloc (qB _) _;have hA:=h.below hal;obtain⟨q0,q1⟩:=(show _/\_ from⟨Hn (MapKept.heap_alloc w (.cells #[.int .i64 kind,.int .i64 (k:Nat)] 53)).1,Ho (MapKept.heap_alloc w (.cells #[.int .i64 kind,.int .i64 (k:Nat)] 53)).1⟩);obtain⟨dso,lo,ro,dc,lc,rc,lol,rsl,hI⟩:=hA.lies;obtain⟨_,_,c6,_⟩:=BP hI.box;have f6:=CD hI.box 6;have hwl:=hI.lt;clear hI;by_cases h4:kind=4
 .subst h4;have hm:mvS m ps l K st (4,(k:Int))={ st with up:=true}:=if_pos rfl;rw[hm];have HS:=(show Hid _ from hA.start);clear hA h hv;go_enter Tryz.func37,Tryz.ntmps37;go_wp2_with fail
  go_ret;exact⟨rfl,HS.out⟩
 .cases hup:st.up with
  |false=>
   have hm:mvS m ps l K st (kind,(k:Int))=st:=by unfold mvS;rw[if_neg h4,if_pos hup]
   rw[hm];rw[hup]at c6;have HS:=(show Hid _ from hA);clear hA h hm hup;have hv':kind=1\/kind=2\/kind=3:=by omega
   clear hv h4;rcases hv' with rfl|rfl|rfl;all_goals go_enter Tryz.func37,Tryz.ntmps37
   all_goals go_wp2_with fail
   all_goals go_ret
   all_goals exact⟨rfl,HS.out⟩
  |true=>
   rw[hup]at c6;have hv':kind=1\/kind=2\/kind=3:=by omega
   clear hv h4;rcases hv' with rfl|rfl|rfl
   .have hm:mvS m ps l K st (1,(k:Int))=wkS K st k:=by
     unfold mvS;rw[if_neg (show¬(1:Int)=4 by decide),if_neg (by simp[hup]),if_pos rfl];rfl
    rw[hm];have HC:=V2 k (by omega) hag hK hA hup;clear hA h hm hup;go_enter Tryz.func37,Tryz.ntmps37;go_wp2_with (go_at_call 56;refine HC.mono ?_;rintro e w2 ⟨rfl,HV⟩;have HS:=(show Hid _ from HV))
    go_ret;exact⟨rfl,HS.out⟩
   .have hm:mvS m ps l K st (2,(k:Int))={ st with s:=st.n}:=by
     unfold mvS;rw[if_neg (show¬(2:Int)=4 by decide),if_neg (by simp[hup]),if_neg (show¬(2:Int)=1 by decide),if_pos rfl]
    rw[hm];have HC:=UM hK hA hup;clear hA h hm hup;go_enter Tryz.func37,Tryz.ntmps37;go_wp2_with (go_at_call 57;refine HC.mono ?_;rintro e w2 ⟨rfl,HV⟩;have HS:=(show Hid _ from HV))
    go_ret;exact⟨rfl,HS.out⟩
   .have hm:mvS m ps l K st (3,(k:Int))=crS m ps l st k:=by
     unfold mvS;rw[if_neg (show¬(3:Int)=4 by decide),if_neg (by simp[hup]),if_neg (show¬(3:Int)=1 by decide),if_neg (show¬(3:Int)=2 by decide)];rfl
    rw[hm];have HC:=PT hK hA k;clear hA h hm hup;go_enter Tryz.func37,Tryz.ntmps37;go_wp2_with (go_at_call 58;refine HC.mono ?_;rintro e w2 ⟨rfl,HV⟩;have HS:=(show Hid _ from HV))
    go_ret;exact⟨rfl,HS.out⟩
theorem Ci{w:World}{X:Nat}{a0 a1 a2 a3 a4 a5 a6:Value}{t:TypeId}(h:w.heap[X]? = some (.cells #[a0,a1,a2,a3,a4,a5,a6] t)):w.cell? ⟨X,0,none⟩=some a0/\w.cell? ⟨X,1,none⟩=some a1/\w.cell? ⟨X,2,none⟩=some a2/\w.cell? ⟨X,3,none⟩=some a3/\w.cell? ⟨X,4,none⟩=some a4/\w.cell? ⟨X,5,none⟩=some a5/\w.cell? ⟨X,6,none⟩=some a6:=by
 refine⟨?_,?_,?_,?_,?_,?_,?_⟩<;>simp[World.cell?,h]
theorem Ao{w:World}{X:Nat}{a0 a1 a2 a3 a4 a5 a6:Value}{t:TypeId}(h:w.heap[X]? = some (.cells #[a0,a1,a2,a3,a4,a5,a6] t))(i:Nat):w.frozen? ⟨X,i,none⟩=false:=by simp[World.frozen?,h]
theorem Sq{w:World}{X:Nat}{a0 a1 a2 a3 a4 a5 a6:Value}{t:TypeId}(h:w.heap[X]? = some (.cells #[a0,a1,a2,a3,a4,a5,a6] t))(x:Value):(w.setCell ⟨X,5,none⟩ x).heap[X]? = some (.cells #[a0,a1,a2,a3,a4,x,a6] t):=by simp[World.setCell,qR,h]
theorem E8{w:World}{X:Nat}{a0 a1 a2 a3 a4 a5 a6:Value}{t:TypeId}(h:w.heap[X]? = some (.cells #[a0,a1,a2,a3,a4,a5,a6] t))(b0 b1 b2 b3 b4 b5 b6:Value):(((((((w.setCell ⟨X,0,none⟩ b0).setCell ⟨X,1,none⟩ b1).setCell ⟨X,2,none⟩ b2).setCell ⟨X,3,none⟩ b3).setCell ⟨X,4,none⟩ b4).setCell ⟨X,5,none⟩ b5).setCell ⟨X,6,none⟩ b6).heap[X]? = some (.cells #[b0,b1,b2,b3,b4,b5,b6] t):=by simp[World.setCell,qR,h]
theorem JB{w W:World}(h:Below w.heap.size w W)(b0 b1 b2 b3 b4 b5 b6:Value):Below w.heap.size w (((((((W.setCell ⟨w.heap.size,0,none⟩ b0).setCell ⟨w.heap.size,1,none⟩ b1).setCell ⟨w.heap.size,2,none⟩ b2).setCell ⟨w.heap.size,3,none⟩ b3).setCell ⟨w.heap.size,4,none⟩ b4).setCell ⟨w.heap.size,5,none⟩ b5).setCell ⟨w.heap.size,6,none⟩ b6):=
 ((((((h.setCell (p:=⟨w.heap.size,0,none⟩) (qB _) _).setCell (p:=⟨w.heap.size,1,none⟩) (qB _) _).setCell (p:=⟨w.heap.size,2,none⟩) (qB _) _).setCell (p:=⟨w.heap.size,3,none⟩) (qB _) _).setCell (p:=⟨w.heap.size,4,none⟩) (qB _) _).setCell (p:=⟨w.heap.size,5,none⟩) (qB _) _).setCell (p:=⟨w.heap.size,6,none⟩) (qB _) _
theorem S7 (hK:SmallK m ps l K) (h:SxV m ps l K w0 w g0 g1 g2 g3 g4 fb st) (c:Int) (hc:c=0\/c=11) (hF:∀ w2,Below w.heap.size w w2->Calls qA 89 #[.agg #[g0,.int .i64 g1,g2,g3,.int .i64 g4]] w2 fun e w3=>∃ x,e=.returned (.tuple #[.int .i64 x,.int .i64 c])/\Below w2.heap.size w2 w3) :
    Calls qA 38 #[.pointer (some ⟨w0.heap.size,0,none⟩)] w fun e w'=>e=.returned (.tuple #[.agg #[.bool st.up,.int .i64 (fN m ps l st.n:Nat),.int .i64 (st.n:Nat),.int .i64 (st.s:Nat),.int .i64 (st.ag:Nat),.bool (dnS m ps l st),.bool (dnS m ps l st&&decide (c=11))],.int .i64 0])/\Below w.heap.size w w':=by
  have hal:Below w.heap.size w (w.alloc (.cells #[.bool false,.int .i64 0,.int .i64 0,.int .i64 0,.int .i64 0,.bool false,.bool false] 48)):=(qD _ _).alloc (qB _) _;have hbk:=(MapKept.heap_alloc w (.cells #[.bool false,.int .i64 0,.int .i64 0,.int .i64 0,.int .i64 0,.bool false,.bool false] 48)).1;have hsz:w.heap.size<(w.alloc (.cells #[.bool false,.int .i64 0,.int .i64 0,.int .i64 0,.int .i64 0,.bool false,.bool false] 48)).heap.size:=by simp
  have HSf:=UL hK (h.below hal);obtain⟨dso,lo,ro,dc,lc,rc,lol,rsl,hI⟩:=h.lies;have HB:Hid (∀w2,Below w.heap.size w w2->(w2.cell? ⟨w0.heap.size,0,none⟩=some g0/\w2.cell? ⟨w0.heap.size,1,none⟩=some (.int .i64 g1)/\w2.cell? ⟨w0.heap.size,2,none⟩=some g2/\w2.cell? ⟨w0.heap.size,3,none⟩=some g3/\w2.cell? ⟨w0.heap.size,4,none⟩=some (.int .i64 g4))/\w2.cell? ⟨w0.heap.size,6,none⟩=some (.bool st.up)/\w2.cell? ⟨w0.heap.size,7,none⟩=some (.int .i64 (fN m ps l st.n:Nat))/\w2.cell? ⟨w0.heap.size,8,none⟩=some (.int .i64 (st.n:Nat))/\w2.cell? ⟨w0.heap.size,13,none⟩=some (.int .i64 (st.ag:Nat))/\w0.heap.size<w2.heap.size):=fun w2 hb=>by
    obtain⟨a,_,b,c,d,_,_,_,_,e⟩:=BP (hI.below hb).box;exact⟨a,b,c,d,e,(hI.below hb).lt⟩
  have HH:Hid (∀w2,Below w.heap.size w w2->Calls qA 60 #[.agg #[g0,.int .i64 g1,g2,g3,.int .i64 g4]] w2 fun e w'=>e=.returned (.tuple #[.bool (decide (c=11)),.int .i64 0])/\Below w2.heap.size w2 w'):=fun w2 hb=>Uh g0 g2 g3 g1 g4 c w2 hc fun w3 hb3=>hF w3 (hb.trans (hb3.mono hb.size));have hwl:=hI.lt;have hdn:dnS m ps l st=(st.up&&decide (fN m ps l st.n<=st.n)):=rfl;rw[hdn];have HBo:Hid (∀w2,Below (w.alloc (.cells #[.bool false,.int .i64 0,.int .i64 0,.int .i64 0,.int .i64 0,.bool false,.bool false] 48)).heap.size (w.alloc (.cells #[.bool false,.int .i64 0,.int .i64 0,.int .i64 0,.int .i64 0,.bool false,.bool false] 48)) w2->w2.heap[w.heap.size]? = some (.cells #[.bool false,.int .i64 0,.int .i64 0,.int .i64 0,.int .i64 0,.bool false,.bool false] 48)/\w.heap.size<w2.heap.size/\Below w.heap.size w w2):=fun w2 hb=>⟨(hb.block _ hsz).trans hbk,qE hsz hb.size,hal.trans (hb.mono (qT hsz))⟩;obtain⟨up,n,s,mx,ag⟩:=st;simp only at *
  clear hI h hF hdn hal hbk hsz;generalize fN m ps l n=fo at *;generalize decide (c=11)=ho at *
  go_enter Tryz.func38,Tryz.ntmps38;go_upto_region 4 with(go_at_call 59;refine HSf.mono ?_;rintro e w2 ⟨rfl,hb2⟩;obtain⟨ho1,ho2,ho3⟩:=HBo.out w2 hb2)
  obtain⟨⟨d0,d1,d2,d3,d4⟩,d6,d7,d8,d13,dl⟩:=HB.out w2 ho3;have HO1:=(show Hid _ from ho1);clear ho1 d0 d1 d2 d3 d4;go_cut [6] (fun u wx=>u=.pointer (some ⟨w2.heap.size,0,none⟩)/\wx.heap[w2.heap.size]? = some (.cells #[.bool up,.int .i64 (fo:Nat),.int .i64 (n:Nat),.int .i64 (s:Nat),.int .i64 (ag:Nat),.bool false,.bool false] 48)/\Below w2.heap.size w2 wx)
  case first=>
    have HSX:Hid (∀W,Below w2.heap.size w2 W->W.cell? ⟨w0.heap.size,6,none⟩=some (.bool up)/\W.cell? ⟨w0.heap.size,7,none⟩=some (.int .i64 (fo:Nat))/\W.cell? ⟨w0.heap.size,8,none⟩=some (.int .i64 (n:Nat))/\W.cell? ⟨w0.heap.size,13,none⟩=some (.int .i64 (ag:Nat))):=fun W hb=>⟨(hb.cell dl).trans d6,(hb.cell dl).trans d7,(hb.cell dl).trans d8,(hb.cell dl).trans d13⟩;clear HH HB HBo d6 d7 d8 d13;go_region_held3 (fun W=>W.cell? ⟨w0.heap.size,6,none⟩=some (.bool up)/\W.cell? ⟨w0.heap.size,7,none⟩=some (.int .i64 (fo:Nat))/\W.cell? ⟨w0.heap.size,8,none⟩=some (.int .i64 (n:Nat))/\W.cell? ⟨w0.heap.size,13,none⟩=some (.int .i64 (ag:Nat)))
      ((refine HSX.out _ ?_;repeat (first|exact(qD _ _).drew.alloc (qB _) _|exact(qD _ _).drew|exact(qD _ _).alloc (qB _) _|exact qD _ _|refine RowKit.Below.setCell ?_ (by first|exact qB _|(simp)) _)))
      (fail)
    all_goals go_wp2_with fail
    all_goals go_meet
    all_goals exact⟨rfl,(MapKept.heap_alloc w2 _).1,((qD _ _).alloc (qB _) _).drew⟩
  case rest=>
    obtain⟨rfl,hox,hbx⟩:=hcut;have hbw:Below w.heap.size w wc:=ho3.trans (hbx.mono (qT ho2));clear d6 d7 d8 d13 dl;obtain⟨⟨d0,d1,d2,d3,d4⟩,d6,d7,d8,_,dl⟩:=HB.out wc hbw;have hrr:=(hbx.block _ ho2).trans HO1.out;obtain⟨r0,r1,r2,r3,r4,r5,r6⟩:=Ci hrr;have rf0:=Ao hrr 0;have rf1:=Ao hrr 1;have rf2:=Ao hrr 2;have rf3:=Ao hrr 3;have rf4:=Ao hrr 4;have rf5:=Ao hrr 5;have rf6:=Ao hrr 6;obtain⟨x0,x1,x2,x3,x4,x5,x6⟩:=Ci hox;have HB9:Hid (Below w.heap.size w wc):=hbw;have hx5:=Ao hox 5;have hx6:=Ao hox 6;have hol:w2.heap.size<wc.heap.size:=(qG.1 hox).1;have hrl:w.heap.size<wc.heap.size:=by have:=hbx.size;omega
    have HSt:up=true->Hid (∀q:Nat,Calls qA 60 #[.agg #[g0,.int .i64 g1,g2,g3,.int .i64 g4]] ((wc.drewN q).setCell ⟨w2.heap.size,5,none⟩ (.bool true)) fun e w8=>e=.returned (.tuple #[.bool ho,.int .i64 0])/\w8.heap[w2.heap.size]? = some (.cells #[.bool true,.int .i64 (fo:Nat),.int .i64 (n:Nat),.int .i64 (s:Nat),.int .i64 (ag:Nat),.bool true,.bool false] 48)/\w8.heap[w.heap.size]? = some (.cells #[.bool false,.int .i64 0,.int .i64 0,.int .i64 0,.int .i64 0,.bool false,.bool false] 48)/\Hid (Below w.heap.size w w8)):=fun hu q=>by
      subst hu;have hwq:Below w.heap.size w (wc.drewN q):=hbw.trans ⟨rfl,rfl,rfl,qB _,fun _ _=>rfl⟩;have hw1:Below w.heap.size w ((wc.drewN q).setCell ⟨w2.heap.size,5,none⟩ (.bool true)):=hwq.setCell (p:=⟨w2.heap.size,5,none⟩) (qT ho2) (.bool true);refine(HH.out _ hw1).mono fun e w8 ⟨e1,e2⟩=>⟨e1,?_,?_,hw1.trans (e2.mono hw1.size)⟩
      . refine(e2.block _ (by simpa using hol)).trans ?_
        exact Sq (show(wc.drewN q).heap[w2.heap.size]? = _ from hox) _
      . refine(e2.block _ (by simpa using hrl)).trans ?_
        exact(RowKit.Below.heap_setCell _ _ _ _ (by show w.heap.size≠w2.heap.size;omega)).trans hrr
    have hne:w2.heap.size≠w.heap.size:=by omega
    have HRR:=(show Hid _ from hrr);clear hox hbx hbw ho3 hrr HO1;generalize w2.heap.size=B at *
    cases up with
    |false=>
      go_wp2_with fail
      go_quiet (fail)
      rename_i nq;go_wp2_with fail
      have hfin:=Ci (E8 (w:=(wc.drewN nq)) HRR.out (.bool false) (.int .i64 (fo:Nat)) (.int .i64 (n:Nat)) (.int .i64 (s:Nat)) (.int .i64 (ag:Nat)) (.bool false) (.bool false));have hbl:=JB (W:=(wc.drewN nq)) (HB9.out.trans ⟨rfl,rfl,rfl,qB _,fun _ _=>rfl⟩:Below w.heap.size w (wc.drewN nq)) (.bool false) (.int .i64 (fo:Nat)) (.int .i64 (n:Nat)) (.int .i64 (s:Nat)) (.int .i64 (ag:Nat)) (.bool false) (.bool false);generalize((((((((wc.drewN nq).setCell ⟨w.heap.size,0,none⟩ (.bool false)).setCell ⟨w.heap.size,1,none⟩ (.int .i64 (fo:Nat))).setCell ⟨w.heap.size,2,none⟩ (.int .i64 (n:Nat))).setCell ⟨w.heap.size,3,none⟩ (.int .i64 (s:Nat))).setCell ⟨w.heap.size,4,none⟩ (.int .i64 (ag:Nat))).setCell ⟨w.heap.size,5,none⟩ (.bool false)).setCell ⟨w.heap.size,6,none⟩ (.bool false))=WF at hfin hbl⊢;obtain⟨z0,z1,z2,z3,z4,z5,z6⟩:=hfin;refine bodyPost_ret (v:=.tuple #[.agg #[.bool false,.int .i64 (fo:Nat),.int .i64 (n:Nat),.int .i64 (s:Nat),.int .i64 (ag:Nat),.bool false,.bool false],.int .i64 0]) ?_ rfl ⟨by simp,hbl⟩;simp[results,Tryz.results38,go_sem,z0,z1,z2,z3,z4,z5,z6]
    |true=>
      by_cases hlt:n<fo
      . have hli:(n:Int)<(fo:Int):=by omega
        have hdd:decide (fo<=n)=false:=decide_eq_false (by omega);clear HSt;go_wp2_with fail
        have hd1:decide (n<fo)=true:=decide_eq_true hlt;go_quiet (fail)
        rename_i nq;go_wp2_with fail
        have hfin:=Ci (E8 (w:=(wc.drewN nq)) HRR.out (.bool true) (.int .i64 (fo:Nat)) (.int .i64 (n:Nat)) (.int .i64 (s:Nat)) (.int .i64 (ag:Nat)) (.bool false) (.bool false));have hbl:=JB (W:=(wc.drewN nq)) (HB9.out.trans ⟨rfl,rfl,rfl,qB _,fun _ _=>rfl⟩:Below w.heap.size w (wc.drewN nq)) (.bool true) (.int .i64 (fo:Nat)) (.int .i64 (n:Nat)) (.int .i64 (s:Nat)) (.int .i64 (ag:Nat)) (.bool false) (.bool false);generalize((((((((wc.drewN nq).setCell ⟨w.heap.size,0,none⟩ (.bool true)).setCell ⟨w.heap.size,1,none⟩ (.int .i64 (fo:Nat))).setCell ⟨w.heap.size,2,none⟩ (.int .i64 (n:Nat))).setCell ⟨w.heap.size,3,none⟩ (.int .i64 (s:Nat))).setCell ⟨w.heap.size,4,none⟩ (.int .i64 (ag:Nat))).setCell ⟨w.heap.size,5,none⟩ (.bool false)).setCell ⟨w.heap.size,6,none⟩ (.bool false))=WF at hfin hbl⊢;obtain⟨z0,z1,z2,z3,z4,z5,z6⟩:=hfin;refine bodyPost_ret (v:=.tuple #[.agg #[.bool true,.int .i64 (fo:Nat),.int .i64 (n:Nat),.int .i64 (s:Nat),.int .i64 (ag:Nat),.bool false,.bool false],.int .i64 0]) ?_ rfl ⟨by simp[hdd],hbl⟩;simp[results,Tryz.results38,go_sem,z0,z1,z2,z3,z4,z5,z6]
      . have hli:¬(n:Int)<(fo:Int):=by omega
        have hdd:decide (fo<=n)=true:=decide_eq_true (by omega);have HS8:=HSt rfl;clear HSt;go_wp2_with fail
        have hd1:decide (n<fo)=false:=decide_eq_false hlt;go_quiet (fail)
        go_wp2_with (go_at_call 60;refine(HS8.out _).mono ?_;rintro e w8 ⟨rfl,hb8,hr8,HB8⟩;obtain⟨x0,x1,x2,x3,x4,x5,x6⟩:=Ci hb8;obtain⟨r0,r1,r2,r3,r4,r5,r6⟩:=Ci hr8;have HR8:=(show Hid _ from hr8);have rf0:=Ao hr8 0;have rf1:=Ao hr8 1;have rf2:=Ao hr8 2;have rf3:=Ao hr8 3;have rf4:=Ao hr8 4;have rf5:=Ao hr8 5;have rf6:=Ao hr8 6;have hx6:=Ao hb8 6;have h81:=(qG.1 hb8).1;have h82:=(qG.1 hr8).1;clear hb8 hr8)
        have hr9:(w8.setCell ⟨B,6,none⟩ (.bool ho)).heap[w.heap.size]? = _:=(RowKit.Below.heap_setCell _ _ _ _ (by show w.heap.size≠B;omega)).trans HR8.out;have hb9:Below w.heap.size w (w8.setCell ⟨B,6,none⟩ (.bool ho)):=HB8.out.setCell (p:=⟨B,6,none⟩) (qT ho2) _;have hfin:=Ci (E8 (w:=(w8.setCell ⟨B,6,none⟩ (.bool ho))) hr9 (.bool true) (.int .i64 (fo:Nat)) (.int .i64 (n:Nat)) (.int .i64 (s:Nat)) (.int .i64 (ag:Nat)) (.bool true) (.bool ho));have hbl:=JB (W:=(w8.setCell ⟨B,6,none⟩ (.bool ho))) hb9 (.bool true) (.int .i64 (fo:Nat)) (.int .i64 (n:Nat)) (.int .i64 (s:Nat)) (.int .i64 (ag:Nat)) (.bool true) (.bool ho);generalize((((((((w8.setCell ⟨B,6,none⟩ (.bool ho)).setCell ⟨w.heap.size,0,none⟩ (.bool true)).setCell ⟨w.heap.size,1,none⟩ (.int .i64 (fo:Nat))).setCell ⟨w.heap.size,2,none⟩ (.int .i64 (n:Nat))).setCell ⟨w.heap.size,3,none⟩ (.int .i64 (s:Nat))).setCell ⟨w.heap.size,4,none⟩ (.int .i64 (ag:Nat))).setCell ⟨w.heap.size,5,none⟩ (.bool true)).setCell ⟨w.heap.size,6,none⟩ (.bool ho))=WF at hfin hbl⊢;obtain⟨z0,z1,z2,z3,z4,z5,z6⟩:=hfin;refine bodyPost_ret (v:=.tuple #[.agg #[.bool true,.int .i64 (fo:Nat),.int .i64 (n:Nat),.int .i64 (s:Nat),.int .i64 (ag:Nat),.bool true,.bool ho],.int .i64 0]) ?_ rfl ⟨by simp[hdd],hbl⟩;simp[results,Tryz.results38,go_sem,z0,z1,z2,z3,z4,z5,z6]
end
open Go.ChangeShapes Go.WideShapes Go.ChangeAt Go.RowKit Go.Deep
def Be(l:List (Int×Int)):Prop:=l.length<=5000/\∀k,k<l.length->1<=(l.getD k (0,0)).1/\(l.getD k (0,0)).1<=4/\0<=(l.getD k (0,0)).2/\(l.getD k (0,0)).2<=2147483647
theorem OpsV.atM{w:World}{ao:Option Addr}{cap n:Nat}{l:List (Int×Int)}(h:OpsV w (.slice ao n cap) l){i:Nat}(hi:i<l.length):∃b off,ao=some ⟨b,off,none⟩/\b<w.heap.size/\w.cell? ⟨b,off+i*2,none⟩=some (.int .i64 (l.getD i (0,0)).1)/\w.cell? ⟨b,off+i*2+1,none⟩=some (.int .i64 (l.getD i (0,0)).2):=by
 obtain⟨ao',cap',hv,_,h⟩:=h;injection hv with e1 e2 e3;subst e1;obtain⟨b,off,e,hlt,hat⟩:=h (by rintro rfl;simp at hi);exact⟨b,off,e,hlt,(hat i hi).1,(hat i hi).2⟩
theorem Uu(ao:Option Addr)(cap:Nat)(l:List (Int×Int))(w:World)(hm:Be l)(hV:OpsV w (.slice ao l.length cap) l) :
  Calls qA 35 #[.slice ao l.length cap] w fun e w'=>e=.returned (.int .i64 0)/\Below w.heap.size w w':=by
 obtain⟨n,hn⟩:∃n,l.length=n:=⟨_,rfl⟩;have H:Hid (OpsV w (.slice ao l.length cap) l):=hV;have HN:Hid (l.length=n):=hn;have HM:Hid (∀k,k<l.length->1<=(l.getD k (0,0)).1/\(l.getD k (0,0)).1<=4/\0<=(l.getD k (0,0)).2/\(l.getD k (0,0)).2<=2147483647):=hm.2;have hbi:¬(5000:Int)<(n:Int):=by have:=hm.1;omega
 rw[hn]at H⊢;clear hV hn hm;go_enter Tryz.func35,Tryz.ntmps35;go_wp2;go_loopw [10] (fun i wr=>∃k:Nat,k<=n/\i=.int .i64 k/\Below w.heap.size w wr) (fun i _=>n-(intOf i).toNat)
 case atStart=>exact⟨0,qJ _,rfl,qD _ _⟩
 case round=>
  obtain⟨k,hk,rfl,hbr⟩:=hrel;by_cases hlt:k<n
  .have hlt2:k<l.length:=by rw[HN.out];exact hlt
   obtain⟨b,off,rfl,hbl,c0,c1⟩:=(H.out.below hbr).atM hlt2;have HE:=HM.out k hlt2;have hki:(k:Int)<(n:Int):=by omega
   have hba:∀o,Below w.heap.size w (wr.alloc o):=fun o=>hbr.alloc hbr.size o;generalize l.getD k (0,0)=p at *;obtain⟨x,y⟩:=p;simp only at c0 c1 HE
   obtain⟨h1,h2,h3,h4⟩:=HE;have hx1:¬x<1:=by omega
   have hx4:¬4<x:=by omega
   have hy1:¬y<0:=by omega
   have hy4:¬2147483647<y:=by omega
   clear h1 h2 h3 h4;go_wp2;go_roundw
   case rel=>exact⟨k+1,by omega,by go_num,hba _⟩
   case measure=>simp[intOf];omega
  .obtain rfl:k=n:=by omega
   go_wp2;go_ret;exact⟨rfl,hbr⟩
section
variable{m:Mo}{ps:List (List (Int×Int))}{l:List (Int×Int)}{K K':Nat}
theorem Po(h:BH m ps l K)(h':BH m ps l K'):K=K':=by
 rcases Nat.lt_trichotomy K K' with hlt|h0|hlt
 .have:=h'.2.2.1 K hlt;rw[h.1]at this;omega
 .exact h0
 .have:=h.2.2.1 K' hlt;rw[h'.1]at this;omega
theorem P4(g:Gr):BW g=0\/BW g=11:=by
 unfold BW;split
 .exact .inl rfl
 .exact .inr rfl
theorem SN(hs:SmallK m ps l K){st:Sr}(v:Int×Int):(mvS m ps l K st v).ag<=st.ag+1000:=by
 have:=hs.few;unfold mvS;split
 .show st.ag<=_;omega
 split
 .omega
 split
 .show st.ag+(min (min (st.n+v.2.toNat) K) st.mx-st.n)<=_;omega
 split
 .show st.ag<=_;omega
 .show st.ag<=_;omega
theorem UE(hs:SmallK m ps l K)(vs:List (Int×Int))(k:Nat):(Ap m ps l K (vs.take k)).ag<=1000*k:=by
 induction k with
 |zero=>simp[Ap,sr0]
 |succ k ih=>
  by_cases hk:k<vs.length
  .rw[qZ hk,Mw];have:=SN (st:=Ap m ps l K (vs.take k)) hs vs[k];omega
  .rw[qQ (by omega)];rw[qQ (by omega)]at ih;omega
theorem Mv{vs:List (Int×Int)}{k:Nat}(hk:k<vs.length):Ap m ps l K (vs.take (k+1))=mvS m ps l K (Ap m ps l K (vs.take k)) (vs.getD k (0,0)):=by
 rw[qZ hk,Mw,qC,qH hk];rfl
end
def SxX(w2:World)(m:Mo)(ps:List (List (Int×Int)))(l:List (Int×Int))(K:Nat)(so no xo:Option Addr)(sc nc xc:Nat):Prop:=
 GfV w2 m ps l K so no sc/\∀w3,Below w2.heap.size w2 w3->Calls qA 89 #[.agg #[.slice so K sc,.int .i64 ((AC m ps l).length:Nat),.slice no K nc,.slice xo K xc,.int .i64 ((AA l).length:Nat)]] w3 fun e w4=>∃x,e=.returned (.tuple #[.int .i64 x,.int .i64 (BW (BV m ps l K))])/\Below w3.heap.size w3 w4
def FO(w:World)(m:Mo)(ps:List (List (Int×Int)))(l:List (Int×Int))(va vr pv fv:Value):Prop:=
  Calls qA 10 #[.agg #[va,vr,pv,fv]] w fun e w2=>∃K so sc no nc xo xc,BH m ps l K/\e=.returned (.tuple #[.agg #[.slice so K sc,.int .i64 ((AC m ps l).length:Nat),.slice no K nc,.slice xo K xc,.int .i64 ((AA l).length:Nat)],.int .i64 0])/\Below w.heap.size w w2/\Hid (SxX w2 m ps l K so no xo sc nc xc)
noncomputable def Fs(m:Mo)(ps:List (List (Int×Int)))(l:List (Int×Int))(st:Sr)(c:Int):Value:=.agg #[.bool st.up,.int .i64 (fN m ps l st.n:Nat),.int .i64 (st.n:Nat),.int .i64 (st.s:Nat),.int .i64 (st.ag:Nat),.bool (dnS m ps l st),.bool (dnS m ps l st&&decide (c=11))]
theorem L9{w W:World}(h:Below w.heap.size w W)(b0 b1 b2 b3 b4 b5 b6:Value):Below w.heap.size w (((((((W.setCell ⟨w.heap.size+1,0,none⟩ b0).setCell ⟨w.heap.size+1,1,none⟩ b1).setCell ⟨w.heap.size+1,2,none⟩ b2).setCell ⟨w.heap.size+1,3,none⟩ b3).setCell ⟨w.heap.size+1,4,none⟩ b4).setCell ⟨w.heap.size+1,5,none⟩ b5).setCell ⟨w.heap.size+1,6,none⟩ b6):=
 ((((((h.setCell (p:=⟨w.heap.size+1,0,none⟩) (vC _) _).setCell (p:=⟨w.heap.size+1,1,none⟩) (vC _) _).setCell (p:=⟨w.heap.size+1,2,none⟩) (vC _) _).setCell (p:=⟨w.heap.size+1,3,none⟩) (vC _) _).setCell (p:=⟨w.heap.size+1,4,none⟩) (vC _) _).setCell (p:=⟨w.heap.size+1,5,none⟩) (vC _) _).setCell (p:=⟨w.heap.size+1,6,none⟩) (vC _) _
theorem Uw(m:Mo)(ps:List (List (Int×Int)))(l:List (Int×Int))(w:World)(va vr pv fv:Value)(hEx:∀w2,Below w.heap.size w w2->FO w2 m ps l va vr pv fv)(hS:∀K,BH m ps l K->SmallK m ps l K)(vs:List (Int×Int))(ao:Option Addr)(cap:Nat)(hm:Be vs)(hO:OpsV w (.slice ao vs.length cap) vs) :
  Calls qA 21 #[.agg #[va,vr,pv,fv],.slice ao vs.length cap] w fun e w'=>∃K,BH m ps l K/\e=.returned (.tuple #[Fs m ps l (Ap m ps l K vs) (BW (BV m ps l K)),.int .i64 0])/\Below w.heap.size w w':=by
 have hal:Below w.heap.size w (w.alloc (.cells #[va,vr,pv,fv] 35)):=(qD _ _).alloc (qB _) _;have hal2:Below w.heap.size w ((w.alloc (.cells #[va,vr,pv,fv] 35)).alloc (.cells #[.bool false,.int .i64 0,.int .i64 0,.int .i64 0,.int .i64 0,.bool false,.bool false] 48)):=hal.alloc hal.size _;have hbk:((w.alloc (.cells #[va,vr,pv,fv] 35)).alloc (.cells #[.bool false,.int .i64 0,.int .i64 0,.int .i64 0,.int .i64 0,.bool false,.bool false] 48)).heap[w.heap.size+1]? = some (.cells #[.bool false,.int .i64 0,.int .i64 0,.int .i64 0,.int .i64 0,.bool false,.bool false] 48):=by
  have:=(MapKept.heap_alloc (w.alloc (.cells #[va,vr,pv,fv] 35)) (.cells #[.bool false,.int .i64 0,.int .i64 0,.int .i64 0,.int .i64 0,.bool false,.bool false] 48)).1;simpa using this
 have HCk:Hid (∀w2,Below w.heap.size w w2->Calls qA 35 #[.slice ao vs.length cap] w2 fun e w'=>e=.returned (.int .i64 0)/\Below w2.heap.size w2 w'):=fun w2 h=>Uu ao cap vs w2 hm (hO.below h);have HS:Hid (∀K,BH m ps l K->SmallK m ps l K):=hS;have HMv:Hid (Be vs):=hm;have HO:Hid (∀wr,Below w.heap.size w wr->OpsV wr (.slice ao vs.length cap) vs):=fun wr h=>hO.below h;obtain⟨WB,hWB⟩:∃WB,WB=((w.alloc (.cells #[va,vr,pv,fv] 35)).alloc (.cells #[.bool false,.int .i64 0,.int .i64 0,.int .i64 0,.int .i64 0,.bool false,.bool false] 48)):=⟨_,rfl⟩;have hex:=hEx _ hal2;unfold FO at hex;rw[<-hWB]at hex hal2 hbk;have hsz:w.heap.size+1<WB.heap.size:=(qG.1 hbk).1;have HOB:Hid (∀w2,Below WB.heap.size WB w2->w2.heap[w.heap.size+1]? = some (.cells #[.bool false,.int .i64 0,.int .i64 0,.int .i64 0,.int .i64 0,.bool false,.bool false] 48)/\w.heap.size+1<w2.heap.size/\Below w.heap.size w w2):=fun w2 hb=>⟨(hb.block _ hsz).trans hbk,qE hsz hb.size,hal2.trans (hb.mono hal2.size)⟩;have hvl:vs.length<=5000:=hm.1;clear hEx hm hS hO hal hbk;generalize hvn:vs.length=nv at *;have HVn:Hid (vs.length=nv):=hvn;clear hvn
 go_enter Tryz.func21,Tryz.ntmps21;go_upto_region 2 with fail
 rw[<-hWB];clear hWB;go_upto_region 6 with(first
  |(go_at_call 10;refine hex.mono ?_;rintro e w3 ⟨K,so,sc,no,nc,xo,xc,hD,rfl,hb3,HX⟩;have hK:=HS.out K hD;have HD:=(show Hid _ from hD);have hbA:Below w3.heap.size w3 (w3.alloc (.cells #[.slice so K sc,.int .i64 ((AC m ps l).length:Nat),.slice no K nc,.slice xo K xc,.int .i64 ((AA l).length:Nat)] 41)):=(qD _ _).alloc (qB _) _;have hck:=HCk.out (w3.alloc (.cells #[.slice so K sc,.int .i64 ((AC m ps l).length:Nat),.slice no K nc,.slice xo K xc,.int .i64 ((AA l).length:Nat)] 41)) ((hal2.trans (hb3.mono hal2.size)).trans (hbA.mono (hal2.trans (hb3.mono hal2.size)).size));have HGb:Hid (∀w4,Below (w3.alloc (.cells #[.slice so K sc,.int .i64 ((AC m ps l).length:Nat),.slice no K nc,.slice xo K xc,.int .i64 ((AA l).length:Nat)] 41)).heap.size (w3.alloc (.cells #[.slice so K sc,.int .i64 ((AC m ps l).length:Nat),.slice no K nc,.slice xo K xc,.int .i64 ((AA l).length:Nat)] 41)) w4->(w4.cell? ⟨w3.heap.size,0,none⟩=some (.slice so K sc)/\w4.cell? ⟨w3.heap.size,1,none⟩=some (.int .i64 ((AC m ps l).length:Nat))/\w4.cell? ⟨w3.heap.size,2,none⟩=some (.slice no K nc)/\w4.cell? ⟨w3.heap.size,3,none⟩=some (.slice xo K xc)/\w4.cell? ⟨w3.heap.size,4,none⟩=some (.int .i64 ((AA l).length:Nat)))/\Below w3.heap.size w3 w4):=fun w4 hb=>⟨ES ((hb.block _ (by simp)).trans (show(w3.alloc (.cells #[.slice so K sc,.int .i64 ((AC m ps l).length:Nat),.slice no K nc,.slice xo K xc,.int .i64 ((AA l).length:Nat)] 41)).heap[w3.heap.size]? = some (grB (.slice so K sc) (.slice no K nc) (.slice xo K xc) ((AC m ps l).length:Nat) ((AA l).length:Nat))from(MapKept.heap_alloc w3 _).1)),hbA.trans (hb.mono hbA.size)⟩;clear hD)
  |(go_at_call 35;refine hck.mono ?_;rintro e w4 ⟨rfl,hb4⟩;obtain⟨⟨q0,q1,q2,q3,q4⟩,hb34⟩:=HGb.out w4 hb4;have hso:=UT hK so no xo sc nc xc ((AA l).length:Nat) (HX.out.1.below hb34))
  |(go_at_call 36;refine hso.mono ?_;rintro e w6 ⟨w5,fb,rfl,hb5,HV⟩;have HVV:=(show Hid _ from HV)))
 have hb35:Below w3.heap.size w3 w5:=hb34.trans (hb5.mono hb34.size);have hbB5:Below WB.heap.size WB w5:=hb3.trans (hb35.mono hb3.size);have HB5:=(show Hid _ from hbB5);have HF5:Hid (∀w7,Below w5.heap.size w5 w7->Calls qA 89 #[.agg #[.slice so K sc,.int .i64 ((AC m ps l).length:Nat),.slice no K nc,.slice xo K xc,.int .i64 ((AA l).length:Nat)]] w7 fun e w4=>∃x,e=.returned (.tuple #[.int .i64 x,.int .i64 (BW (BV m ps l K))])/\Below w7.heap.size w7 w4):=fun w7 h=>HX.out.2 w7 (hb35.trans (h.mono hb35.size));have HV0:Hid (SxV m ps l K w5 w6 (.slice so K sc) ((AC m ps l).length:Nat) (.slice no K nc) (.slice xo K xc) ((AA l).length:Nat) fb (Ap m ps l K (vs.take 0))):=by
  rw[List.take_zero];exact HVV.out
 have HK:Hid (SmallK m ps l K):=hK;clear hex hck hso HGb HVV HX hK hb35 hbB5 q0 q1 q2 q3 q4;go_loopw [39] (fun i wr=>∃k:Nat,k<=nv/\i=.int .i64 k/\Hid (SxV m ps l K w5 wr (.slice so K sc) ((AC m ps l).length:Nat) (.slice no K nc) (.slice xo K xc) ((AA l).length:Nat) fb (Ap m ps l K (vs.take k)))) (fun i _=>nv-(intOf i).toNat)
 case atStart=>exact⟨0,qJ _,rfl,HV0.out⟩
 case round=>
  obtain⟨k,hk,rfl,HP⟩:=hrel;have hw5:Below WB.heap.size WB wr:=HB5.out.trans (HP.out.bel.mono HB5.out.size);obtain⟨hob1,hob2,hob3⟩:=HOB.out wr hw5;by_cases hlt:k<nv
  .have hki:(k:Int)<(nv:Int):=by omega
   have hlt2:k<vs.length:=by rw[HVn.out];exact hlt
   have hO2:=HO.out wr hob3;rw[<-HVn.out]at hO2;obtain⟨b,off,rfl,hbl,c0,c1⟩:=hO2.atM hlt2;have hE:=HMv.out.2 k hlt2;have hag:=UE HK.out vs k;have hal:Below wr.heap.size wr (wr.alloc (.cells #[.int .i64 (vs.getD k (0,0)).1,.int .i64 (vs.getD k (0,0)).2] 53)):=(qD _ _).alloc (qB _) _;have hdo:=PY HK.out (HP.out.below hal) (by omega) (vs.getD k (0,0)) (by omega) hE.2.2.1 hE.2.2.2;rw[<-Mv hlt2]at hdo;clear hob1 hO2 hE hag hbl;generalize(vs.getD k (0,0)).1=x at *;generalize(vs.getD k (0,0)).2=y at *
   go_wp2_with (go_at_call 37;refine hdo.mono ?_;rintro e w8 ⟨rfl,hV8⟩;have HV8:=(show Hid _ from hV8))
   go_roundw
   case rel=>exact⟨k+1,by omega,by go_num,HV8.out⟩
   case measure=>simp[intOf];omega
  .obtain rfl:k=nv:=by omega
   have HV9:=HP.out;rw[<-HVn.out,List.take_length]at HV9;have hoc:=S7 HK.out HV9 (BW (BV m ps l K)) (P4 _) fun w7 h=>HF5.out w7 (HV9.bel.trans (h.mono HV9.bel.size));have hoc2:Calls qA 38 #[.pointer (some ⟨w5.heap.size,0,none⟩)] wr fun e w'=>e=.returned (.tuple #[(Fs m ps l (Ap m ps l K vs) (BW (BV m ps l K))),.int .i64 0])/\Below wr.heap.size wr w':=hoc;clear hoc hob1;obtain⟨b0,i1,i2,i3,i4,b5,b6,hout⟩:∃(b0:Bool) (i1 i2 i3 i4:Int) (b5 b6:Bool),(Fs m ps l (Ap m ps l K vs) (BW (BV m ps l K)))=.agg #[.bool b0,.int .i64 i1,.int .i64 i2,.int .i64 i3,.int .i64 i4,.bool b5,.bool b6]:=⟨_,_,_,_,_,_,_,rfl⟩;rw[hout]at hoc2;have HOut:=(show Hid _ from hout);have HB9:Hid (∀w9,Below wr.heap.size wr w9->(w9.heap[w.heap.size+1]? = some (.cells #[.bool false,.int .i64 0,.int .i64 0,.int .i64 0,.int .i64 0,.bool false,.bool false] 48)/\w.heap.size+1<w9.heap.size)/\Below w.heap.size w w9):=fun w9 h=>by
    obtain⟨a1,a2,a3⟩:=HOB.out w9 (hw5.trans (h.mono hw5.size));exact⟨⟨a1,a2⟩,a3⟩
   clear hout HV9;go_wp2_with (go_at_call 38;refine hoc2.mono ?_;rintro e w9 ⟨rfl,hb9⟩;obtain⟨⟨hr9,hl9⟩,hbw9⟩:=HB9.out w9 hb9;obtain⟨r0,r1,r2,r3,r4,r5,r6⟩:=Ci hr9;have HR9:=(show Hid _ from hr9);have rf0:=Ao hr9 0;have rf1:=Ao hr9 1;have rf2:=Ao hr9 2;have rf3:=Ao hr9 3;have rf4:=Ao hr9 4;have rf5:=Ao hr9 5;have rf6:=Ao hr9 6;clear hr9)
   have hfin:=Ci (E8 (w:=w9) HR9.out (.bool b0) (.int .i64 i1) (.int .i64 i2) (.int .i64 i3) (.int .i64 i4) (.bool b5) (.bool b6));have hbl:=L9 hbw9 (.bool b0) (.int .i64 i1) (.int .i64 i2) (.int .i64 i3) (.int .i64 i4) (.bool b5) (.bool b6);generalize(((((((w9.setCell ⟨w.heap.size+1,0,none⟩ (.bool b0)).setCell ⟨w.heap.size+1,1,none⟩ (.int .i64 i1)).setCell ⟨w.heap.size+1,2,none⟩ (.int .i64 i2)).setCell ⟨w.heap.size+1,3,none⟩ (.int .i64 i3)).setCell ⟨w.heap.size+1,4,none⟩ (.int .i64 i4)).setCell ⟨w.heap.size+1,5,none⟩ (.bool b5)).setCell ⟨w.heap.size+1,6,none⟩ (.bool b6))=WF at hfin hbl⊢;obtain⟨z0,z1,z2,z3,z4,z5,z6⟩:=hfin;try simp only[Exit.inBlock,Exit.then]
   refine bodyPost_ret (v:=.tuple #[.agg #[.bool b0,.int .i64 i1,.int .i64 i2,.int .i64 i3,.int .i64 i4,.bool b5,.bool b6],.int .i64 0]) ?_ rfl ⟨K,HD.out,by rw[HOut.out],hbl⟩;simp[results,Tryz.results21,go_sem,z0,z1,z2,z3,z4,z5,z6]
theorem VO{w:World}{X:Nat}{a b c d:Value}{t:TypeId}(h:w.heap[X]? = some (.cells #[a,b,c,d] t)):w.cell? ⟨X,0,none⟩=some a/\w.cell? ⟨X,1,none⟩=some b/\w.cell? ⟨X,2,none⟩=some c/\w.cell? ⟨X,3,none⟩=some d:=by
 refine⟨?_,?_,?_,?_⟩<;>simp[World.cell?,h]
theorem Uq(m:Mo)(ps:List (List (Int×Int)))(l:List (Int×Int))(w:World)(va vr pv fv:Value)(hEx:∀w2,Below w.heap.size w w2->FO w2 m ps l va vr pv fv)(hS:∀K,BH m ps l K->SmallK m ps l K)(vs:List (Int×Int))(ao:Option Addr)(cap:Nat)(hm:Be vs)(hO:OpsV w (.slice ao vs.length cap) vs) :
  Calls qA 12 #[.agg #[va,vr,pv,fv],.slice ao vs.length cap] w fun e w'=>∃K,BH m ps l K/\e=.returned (.tuple #[Fs m ps l (Ap m ps l K vs) (BW (BV m ps l K)),.bool true])/\Below w.heap.size w w':=by
 have HR:Hid (∀w2,Below w.heap.size w w2->Calls qA 21 #[.agg #[va,vr,pv,fv],.slice ao vs.length cap] w2 fun e w'=>∃K,BH m ps l K/\∃(b0:Bool) (i1 i2 i3 i4:Int) (b5 b6:Bool),Hid (Fs m ps l (Ap m ps l K vs) (BW (BV m ps l K))=.agg #[.bool b0,.int .i64 i1,.int .i64 i2,.int .i64 i3,.int .i64 i4,.bool b5,.bool b6])/\e=.returned (.tuple #[.agg #[.bool b0,.int .i64 i1,.int .i64 i2,.int .i64 i3,.int .i64 i4,.bool b5,.bool b6],.int .i64 0])/\Below w2.heap.size w2 w'):=fun w2 h=>
  (Uw m ps l w2 va vr pv fv (fun w3 h3=>hEx w3 (h.trans (h3.mono h.size))) hS vs ao cap hm (hO.below h)).mono fun e w' ⟨K,hD,e1,hb⟩=>⟨K,hD,_,_,_,_,_,_,_,rfl,e1,hb⟩
 generalize vs.length=nv at *;clear hEx hS hm hO;have hal:Below w.heap.size w (w.alloc (.cells #[va,vr,pv,fv] 35)):=(qD _ _).alloc (qB _) _;have hal2:Below w.heap.size w ((w.alloc (.cells #[va,vr,pv,fv] 35)).alloc (.cells #[.bool false,.int .i64 0,.int .i64 0,.int .i64 0,.int .i64 0,.bool false,.bool false] 48)):=hal.alloc hal.size _
 have hbk:((w.alloc (.cells #[va,vr,pv,fv] 35)).alloc (.cells #[.bool false,.int .i64 0,.int .i64 0,.int .i64 0,.int .i64 0,.bool false,.bool false] 48)).heap[w.heap.size+1]? = some (.cells #[.bool false,.int .i64 0,.int .i64 0,.int .i64 0,.int .i64 0,.bool false,.bool false] 48):=by
  have:=(MapKept.heap_alloc (w.alloc (.cells #[va,vr,pv,fv] 35)) (.cells #[.bool false,.int .i64 0,.int .i64 0,.int .i64 0,.int .i64 0,.bool false,.bool false] 48)).1;simpa using this
 have htk:=VO (((qD _ _).alloc (qB _) (.cells #[.bool false,.int .i64 0,.int .i64 0,.int .i64 0,.int .i64 0,.bool false,.bool false] 48):Below (w.alloc (.cells #[va,vr,pv,fv] 35)).heap.size (w.alloc (.cells #[va,vr,pv,fv] 35)) ((w.alloc (.cells #[va,vr,pv,fv] 35)).alloc (.cells #[.bool false,.int .i64 0,.int .i64 0,.int .i64 0,.int .i64 0,.bool false,.bool false] 48))).block w.heap.size (by simp) |>.trans (MapKept.heap_alloc w (.cells #[va,vr,pv,fv] 35)).1);obtain⟨WB,hWB⟩:∃WB,WB=((w.alloc (.cells #[va,vr,pv,fv] 35)).alloc (.cells #[.bool false,.int .i64 0,.int .i64 0,.int .i64 0,.int .i64 0,.bool false,.bool false] 48)):=⟨_,rfl⟩;rw[<-hWB]at hal2 hbk htk;obtain⟨k0,k1,k2,k3⟩:=htk;have hr:=HR.out WB hal2;have hsz:w.heap.size+1<WB.heap.size:=(qG.1 hbk).1;have HOB:Hid (∀w2,Below WB.heap.size WB w2->(w2.heap[w.heap.size+1]? = some (.cells #[.bool false,.int .i64 0,.int .i64 0,.int .i64 0,.int .i64 0,.bool false,.bool false] 48)/\w.heap.size+1<w2.heap.size)/\Below w.heap.size w w2):=fun w2 hb=>⟨⟨(hb.block _ hsz).trans hbk,qE hsz hb.size⟩,hal2.trans (hb.mono hal2.size)⟩;clear hbk hal;go_enter Tryz.func12,Tryz.ntmps12;go_upto_region 1 with fail
 rw[<-hWB];clear hWB;go_upto_region 2 with(go_at_call 21;refine hr.mono ?_;rintro e w3 ⟨K,hD,b0,i1,i2,i3,i4,b5,b6,HOut,rfl,hb3⟩)
 have hb34:Below w3.heap.size w3 (w3.alloc (.cells #[.bool b0,.int .i64 i1,.int .i64 i2,.int .i64 i3,.int .i64 i4,.bool b5,.bool b6] 48)):=(qD _ _).alloc (qB _) _;have ho4:(w3.alloc (.cells #[.bool b0,.int .i64 i1,.int .i64 i2,.int .i64 i3,.int .i64 i4,.bool b5,.bool b6] 48)).heap[w3.heap.size]? = some (.cells #[.bool b0,.int .i64 i1,.int .i64 i2,.int .i64 i3,.int .i64 i4,.bool b5,.bool b6] 48):=(MapKept.heap_alloc w3 _).1;generalize w3.alloc (.cells #[.bool b0,.int .i64 i1,.int .i64 i2,.int .i64 i3,.int .i64 i4,.bool b5,.bool b6] 48)=w4 at *;obtain⟨⟨hr9,hl9⟩,hbw9⟩:=HOB.out w4 (hb3.trans (hb34.mono hb3.size));obtain⟨r0,r1,r2,r3,r4,r5,r6⟩:=Ci hr9;have HR9:=(show Hid _ from hr9)
 have rf0:=Ao hr9 0;have rf1:=Ao hr9 1;have rf2:=Ao hr9 2;have rf3:=Ao hr9 3;have rf4:=Ao hr9 4;have rf5:=Ao hr9 5;have rf6:=Ao hr9 6;obtain⟨x0,x1,x2,x3,x4,x5,x6⟩:=Ci ho4;have HD:=(show Hid _ from hD);clear hr9 ho4 hb34 hb3 hr k0 k1 k2 k3 hal2 hD;generalize w3.heap.size=B at *
 go_wp2_with fail
 have hfin:=Ci (E8 (w:=w4) HR9.out (.bool b0) (.int .i64 i1) (.int .i64 i2) (.int .i64 i3) (.int .i64 i4) (.bool b5) (.bool b6));have hbl:=L9 hbw9 (.bool b0) (.int .i64 i1) (.int .i64 i2) (.int .i64 i3) (.int .i64 i4) (.bool b5) (.bool b6);generalize(((((((w4.setCell ⟨w.heap.size+1,0,none⟩ (.bool b0)).setCell ⟨w.heap.size+1,1,none⟩ (.int .i64 i1)).setCell ⟨w.heap.size+1,2,none⟩ (.int .i64 i2)).setCell ⟨w.heap.size+1,3,none⟩ (.int .i64 i3)).setCell ⟨w.heap.size+1,4,none⟩ (.int .i64 i4)).setCell ⟨w.heap.size+1,5,none⟩ (.bool b5)).setCell ⟨w.heap.size+1,6,none⟩ (.bool b6))=WF at hfin hbl⊢;obtain⟨z0,z1,z2,z3,z4,z5,z6⟩:=hfin;refine bodyPost_ret (v:=.tuple #[.agg #[.bool b0,.int .i64 i1,.int .i64 i2,.int .i64 i3,.int .i64 i4,.bool b5,.bool b6],.bool true]) ?_ rfl ⟨K,HD.out,by rw[HOut.out],hbl⟩;simp[results,Tryz.results12,go_sem,z0,z1,z2,z3,z4,z5,z6]
theorem Pp{m:Mo}{ps:List (List (Int×Int))}{l:List (Int×Int)}{K:Nat}(hk:Ad m ps l=0)(h:BH m ps l K):GrLe (BV m ps l K):=by
 have e1:(BV m ps l K).spots.length=K:=h.1;have e2:(BV m ps l K).next.length=K:=DT K;have e3:(BV m ps l K).sets.length=K:=Di K;have hm0:=(Ck (BX hk).1).1;have h6:=(CB (BX hk).2).2.2.2.2;refine⟨by rw[e1];have:=h.2.1;omega,by rw[e2];have:=h.2.1;omega,by rw[e3];have:=h.2.1;omega,fun i hi=>?_⟩;rw[e2]at hi;show((xpN m ps l K).getD i []).length<=_;rw[(J6 h hi).1];have hin:(xpP m ps l K).getD i (0,0)∈xpP m ps l K:=by
  have hl:i<(xpP m ps l K).length:=by rw[h.1];exact hi
  rw[qC,qH hl];exact qS _
 have:=IJ (ps:=ps) (l:=l) (c:=((xpP m ps l K).getD i (0,0)).2) hm0 (h.2.2.2 _ hin).1 h6;show(AY _ _ _ _ _).length<=_;omega
theorem Py(m:Mo)(ps:List (List (Int×Int)))(l:List (Int×Int))(w:World)(hB:0<w.heap.size)(hT:AH w)(hk:Ad m ps l=0)(hnf:¬Ek m ps l)(va vr pv fv:Value)(hV:TaskV w va vr pv fv m ps l) :
  FO w m ps l va vr pv fv:=by
 refine(Pv va vr pv fv m ps l w hB hT hV).mono fun e w2 hx=>?_;rcases hx with⟨_,K,hD,sv,nv,tv,e1,h2,HG⟩|⟨_,hf,_,_⟩|⟨h1,_,_⟩
 .have hGr:=HG.out.graph;obtain⟨so,sc,rfl⟩:=HG.out.1.shape;have hsp:=HG.out.1;obtain⟨us,n1,n2,n3⟩:=HG.out.2.1;have n1':=n1;obtain⟨no,nc,rfl⟩:=A2 n1;obtain⟨xo,xc,rfl⟩:=A2 HG.out.2.2;rw[hD.1,DT,Di]at e1 hGr;have hok:=Pr hk hD;have hc0:Ct (BV m ps l K)=0:=K9 hok.head hok.row;have e4:(BV m ps l K).spots.length=K:=hD.1;have e2:(BV m ps l K).next.length=K:=DT K;have e3:(BV m ps l K).sets.length=K:=Di K;refine⟨K,so,sc,no,nc,xo,xc,hD,e1,h2,⟨?_,?_,fun i hi=>?_⟩,fun w3 h3=>?_⟩
  .have h9:=hsp.v;rw[hD.1]at h9;exact h9
  .obtain ⟨ao,cap,e9,⟨h8,_⟩,_⟩:=hsp.ops;injection e9 with _ _ a;have:=hD.1;omega
  .have hlK:(xpN m ps l K).length=K:=DT K;obtain⟨ao,c,q1,q2,_,_⟩:=n3 i (by omega);rcases n1.2 with⟨e9,h0⟩|⟨g,cap',cur,e9,hg⟩
   .rw[h0]at n2;simp at n2;omega
   .injection e9 with e1 _ _;subst e1;refine⟨g,ao,c,rfl,?_,q2⟩;have h5:=n1.cellAt i (by omega);rw[qC,qH (by omega),vQ]at q1;rw[qH (by omega),q1]at h5;exact h5
  .have h:=UZ so no xo sc nc xc (BV m ps l K) w3 (Pp hk hD) (by rw[e4,e2,e3];exact hGr.below h3) hc0;rw[e4,e2,e3]at h;exact h.mono fun e w4 ⟨g1,g2⟩=>⟨_,g1,g2⟩
 .exact absurd hf hnf
 .exact absurd hk h1
theorem Um{m:Mo}{ps:List (List (Int×Int))}{l:List (Int×Int)}{P:Nat}(hk:Ad m ps l=0)(hP:AK m.vars m.vars.length=(P:Nat))(hP2:P<=16)(ha:(AA l).length<=2):(∀K,BH m ps l K->SmallK m ps l K)/\¬Ek m ps l:=by
 have h4:2^(AA l).length<=2^2:=Nat.pow_le_pow_right (by decide) ha;have h5:P*2^(AA l).length<=16*4:=Nat.mul_le_mul hP2 h4;refine⟨fun K hD=>⟨hk,hD,?_,by rw[hP];omega⟩,WI hk hP (by omega)⟩;have:=Nr hP hD.2.2.2;rw[hD.1]at this;omega
def DQ(g:Int×Int):Int×Int:=(1+pk g.1 4,if 1+pk g.1 4=1 then pk g.2 12 else if 1+pk g.1 4=3 then pk g.2 120 else 0)
def An(rs:List (Int×Int))(most:Nat):List (Int×Int):=(rs.take most).map DQ
theorem K8(g:Int×Int):1<=(DQ g).1/\(DQ g).1<=4/\0<=(DQ g).2/\(DQ g).2<=119:=by
 have h1:=BG (n:=g.1) (m:=4) (by decide);have h2:=BG (n:=g.2) (m:=12) (by decide);have h3:=BG (n:=g.2) (m:=120) (by decide);unfold DQ;refine⟨by omega,by omega,?_,?_⟩;all_goals
  simp only;split
  .omega
  .split<;>omega
theorem Lv(rs:List (Int×Int)){most:Nat}(h:most<=4000):Be (An rs most)/\(An rs most).length<=most:=by
 have hl:(An rs most).length<=most:=by unfold An;rw[qL,qM];omega
 refine⟨⟨by omega,fun k hk=>?_⟩,hl⟩;have hk':=hk;unfold An at hk⊢;rw[qC,qH hk,vQ,List.getElem_map];have:=K8 ((rs.take most)[k]'(by rwa[qL]at hk));omega
theorem Lu{rs:List (Int×Int)}{k:Nat}(h:k<=rs.length):(An rs k).length=k:=by unfold An;rw[qL,qM];omega
theorem SI{rs:List (Int×Int)}{k:Nat}(h:k<rs.length):An rs (k+1)=An rs k++[DQ (rs.getD k (0,0))]:=by
 unfold An;rw[qZ h,List.map_append,qC,qH h];rfl
theorem Lt{rs:List (Int×Int)}{k most:Nat}(h1:k<=rs.length)(h2:k<=most)(h:¬(k<rs.length/\k<most)):An rs most=An rs k:=by
 unfold An;by_cases e:k=most
 .rw[e]
 .rw[qQ (by omega),qQ (by omega)]
theorem IA(n many:Int)(w:World)(hn:I64 n)(hm:0<many)(hm2:many<=10000) :
  Calls qA 13 #[.int .i64 n,.int .i64 many] w fun e w'=>e=.returned (.int .i64 (pk n many))/\w'=w:=by
 have h:=B1 n many w hn hm hm2;go_enter Tryz.func13,Tryz.ntmps13;go_wp2_with (go_at_call 22;refine h.mono ?_;rintro e w1 ⟨rfl,rfl⟩)
 go_ret;exact⟨rfl,rfl⟩
theorem LJ:(qA.info? 53).map (fun i=>(i.zero,i.size,i.bytes))=some (some (.agg #[.int .i64 0,.int .i64 0]),2,16):=by kernel_rfl
theorem Gs{w w2 w9:World}{rs:List (Int×Int)}{k g9 cap9 vc:Nat}{vo:Option Addr}{a b:Int}(hbr:Below w.heap.size w w2)(hW:w2.ownsRow w.heap.size 53 2 (.slice vo k vc) k (flat (An rs k)))(hml:An rs (k+1)=An rs k++[(a,b)])(ho:w9.ownsRow w.heap.size 53 2 (.slice (some ⟨g9,0,none⟩) (k+1) cap9) (k+1) (flat (An rs k)++[.int .i64 a,.int .i64 b]))(hg:(w2.alloc (.cells #[.int .i64 a,.int .i64 b] 53)).grownBy w9 (Value.slice vo k vc).ownBlock) :
  Below w.heap.size w w9/\w9.ownsRow w.heap.size 53 2 (.slice (some ⟨g9,0,none⟩) (k+1) cap9) (k+1) (flat (An rs (k+1))):=
 ⟨Below.grown (hbr.alloc hbr.size _) hg (hbr.alloc hbr.size _).size (fun z hz=>(hW.lt z hz).1),by rw[hml,FZ];exact ho⟩
theorem SH(rawv:Value)(rs:List (Int×Int))(most:Nat)(w:World)(hm:most<=4000)(hR:Raws w w.heap.size rawv rs) :
  Calls qA 11 #[rawv,.int .i64 (most:Nat)] w fun e w'=>∃ao cap,e=.returned (.slice ao (An rs most).length cap)/\Below w.heap.size w w'/\Hid (w'.ownsRow w.heap.size 53 2 (.slice ao (An rs most).length cap) (An rs most).length (flat (An rs most))):=by
 obtain⟨ao,cap,rfl,hsh⟩:=hR.shape;obtain⟨i0,hi,hz0,hz1,hz2⟩:=info_parts LJ;have HRd:Hid (∀wr,Below w.heap.size w wr->∀k,k<rs.length->∃b off,ao=some ⟨b,off,none⟩/\wr.cell? ⟨b,off+k*2,none⟩=some (.int .i64 (rs.getD k (0,0)).1)/\wr.cell? ⟨b,off+k*2+1,none⟩=some (.int .i64 (rs.getD k (0,0)).2)):=fun wr hb k hk=>by
  obtain⟨b,off,e,hlt,hat⟩:=hsh (by rintro rfl;simp at hk);have h9:=hat.below hb hlt k hk;exact⟨b,off,e,h9.1,h9.2⟩
 have HI:Hid (∀k,k<rs.length->I64 (rs.getD k (0,0)).1/\I64 (rs.getD k (0,0)).2):=hR.range;obtain⟨n,hn⟩:∃n,n=rs.length:=⟨_,rfl⟩;have HN:Hid (n=rs.length):=hn;have hnb:n<=140737488355328:=by have:=hR.len;omega
 rw[<-hn];have HS0:Hid (w.ownsRow w.heap.size 53 2 (.slice none 0 0) 0 (flat (An rs 0))):=World.ownsRow_nil _ _ _ _;clear hR hsh hn;go_enter Tryz.func11,Tryz.ntmps11;go_wp2_with fail
 go_loopw [5,6] (fun o i wr=>∃(k:Nat) (vo:Option Addr) (vc:Nat),k<=n/\k<=most/\i=.int .i64 k/\o=.slice vo k vc/\Below w.heap.size w wr/\Hid (wr.ownsRow w.heap.size 53 2 (.slice vo k vc) k (flat (An rs k)))) (fun _ i _=>n-(intOf i).toNat)
 case atStart=>exact⟨0,none,0,qJ _,qJ _,rfl,rfl,qD _ _,HS0.out⟩
 case round=>
  obtain⟨k,vo,vc,hk1,hk2,rfl,rfl,hbr,HW⟩:=hrel;by_cases h1:k<n
  .have hi1:(k:Int)<(n:Int):=by omega
   by_cases h2:k<most
   .have hi2:(k:Int)<(most:Int):=by omega
    obtain⟨b,off,rfl,c0,c1⟩:=HRd.out wr hbr k (by rw[<-HN.out];exact h1);obtain⟨j1,j2⟩:=HI.out k (by rw[<-HN.out];exact h1);have hnx:=SI (rs:=rs) (k:=k) (by rw[<-HN.out];exact h1);have HNx:=(show Hid _ from hnx);have HML:Hid (An rs (k+1)=An rs k++[DQ (rs.getD k (0,0))]):=hnx;have hgm:DQ (rs.getD k (0,0))=(1+pk (rs.getD k (0,0)).1 4,if 1+pk (rs.getD k (0,0)).1 4=1 then pk (rs.getD k (0,0)).2 12 else if 1+pk (rs.getD k (0,0)).1 4=3 then pk (rs.getD k (0,0)).2 120 else 0):=rfl;have hp4:=IA (rs.getD k (0,0)).1 4 wr j1 (by decide) (by decide);have hp12:=IA (rs.getD k (0,0)).2 12 wr j2 (by decide) (by decide);have hp120:=IA (rs.getD k (0,0)).2 120 wr j2 (by decide) (by decide);have hr4:=BG (n:=(rs.getD k (0,0)).1) (m:=4) (by decide);clear hnx HNx j1 j2;generalize(rs.getD k (0,0)).1=x at *;generalize(rs.getD k (0,0)).2=y at *;generalize hp:pk x 4=p at *;generalize pk y 12=y12 at *;generalize pk y 120=y120 at *;generalize DQ (rs.getD k (0,0))=gm at *;have hcase:p=0\/p=2\/p=1\/p=3:=by omega
    clear hp hr4;rcases hcase with rfl|rfl|rfl|rfl;all_goals simp at hgm
    all_goals subst hgm
    all_goals go_upto_region 11 with(first
     |(go_at_call 13;refine hp4.mono ?_;rintro e w2 ⟨rfl,rfl⟩)
     |(go_at_call 13;refine hp12.mono ?_;rintro e w2 ⟨rfl,rfl⟩)
     |(go_at_call 13;refine hp120.mono ?_;rintro e w2 ⟨rfl,rfl⟩))
    .have hown:=Aq HW.out ((qD _ _).alloc (qB _) (.cells #[.int .i64 1,.int .i64 y12] 53)) (qB _);have hbase:=(hbr.alloc hbr.size (.cells #[.int .i64 1,.int .i64 y12] 53)).size;go_wp2_with (at_builtin;refine wpList_append_lies _ rfl (.tmp 43) (.tmp 47) 45 (by rfl) w.heap.size 53 i0 _ 2 16 Tryz.underlying45 hi hz0 hz1 hz2 rfl (by decide) (.slice vo k vc) k (flat (An rs k)) rfl hown ⟨w2.heap.size,0,none⟩ 1 1 [.int .i64 1,.int .i64 y12] rfl rfl (DI _ _ _ _) (by intro u hu;simp at hu;rcases hu with rfl|rfl<;>rfl) (by decide) (by unfold maxLen;omega) (by omega) hbase (w2.heap.size+1) (by simp) ?_;intro g9 cap9 w9 ho9 hg9 hat9 hl9;obtain⟨hb9,hw9⟩:=Gs hbr HW.out HML.out ho9 hg9;have HW9:=(show Hid _ from hw9))
     go_roundw
     case rel=>exact⟨k+1,some ⟨g9,0,none⟩,cap9,by omega,by omega,by go_num,rfl,hb9,HW9.out⟩
     case measure=>simp[intOf];omega
    .have hown:=Aq HW.out ((qD _ _).alloc (qB _) (.cells #[.int .i64 3,.int .i64 y120] 53)) (qB _);have hbase:=(hbr.alloc hbr.size (.cells #[.int .i64 3,.int .i64 y120] 53)).size;go_wp2_with (at_builtin;refine wpList_append_lies _ rfl (.tmp 43) (.tmp 47) 45 (by rfl) w.heap.size 53 i0 _ 2 16 Tryz.underlying45 hi hz0 hz1 hz2 rfl (by decide) (.slice vo k vc) k (flat (An rs k)) rfl hown ⟨w2.heap.size,0,none⟩ 1 1 [.int .i64 3,.int .i64 y120] rfl rfl (DI _ _ _ _) (by intro u hu;simp at hu;rcases hu with rfl|rfl<;>rfl) (by decide) (by unfold maxLen;omega) (by omega) hbase (w2.heap.size+1) (by simp) ?_;intro g9 cap9 w9 ho9 hg9 hat9 hl9;obtain⟨hb9,hw9⟩:=Gs hbr HW.out HML.out ho9 hg9;have HW9:=(show Hid _ from hw9))
     go_roundw
     case rel=>exact⟨k+1,some ⟨g9,0,none⟩,cap9,by omega,by omega,by go_num,rfl,hb9,HW9.out⟩
     case measure=>simp[intOf];omega
    .have hown:=Aq HW.out ((qD _ _).alloc (qB _) (.cells #[.int .i64 2,.int .i64 0] 53)) (qB _);have hbase:=(hbr.alloc hbr.size (.cells #[.int .i64 2,.int .i64 0] 53)).size;go_wp2_with (at_builtin;refine wpList_append_lies _ rfl (.tmp 43) (.tmp 47) 45 (by rfl) w.heap.size 53 i0 _ 2 16 Tryz.underlying45 hi hz0 hz1 hz2 rfl (by decide) (.slice vo k vc) k (flat (An rs k)) rfl hown ⟨w2.heap.size,0,none⟩ 1 1 [.int .i64 2,.int .i64 0] rfl rfl (DI _ _ _ _) (by intro u hu;simp at hu;rcases hu with rfl|rfl<;>rfl) (by decide) (by unfold maxLen;omega) (by omega) hbase (w2.heap.size+1) (by simp) ?_;intro g9 cap9 w9 ho9 hg9 hat9 hl9;obtain⟨hb9,hw9⟩:=Gs hbr HW.out HML.out ho9 hg9;have HW9:=(show Hid _ from hw9))
     go_roundw
     case rel=>exact⟨k+1,some ⟨g9,0,none⟩,cap9,by omega,by omega,by go_num,rfl,hb9,HW9.out⟩
     case measure=>simp[intOf];omega
    .have hown:=Aq HW.out ((qD _ _).alloc (qB _) (.cells #[.int .i64 4,.int .i64 0] 53)) (qB _);have hbase:=(hbr.alloc hbr.size (.cells #[.int .i64 4,.int .i64 0] 53)).size;go_wp2_with (at_builtin;refine wpList_append_lies _ rfl (.tmp 43) (.tmp 47) 45 (by rfl) w.heap.size 53 i0 _ 2 16 Tryz.underlying45 hi hz0 hz1 hz2 rfl (by decide) (.slice vo k vc) k (flat (An rs k)) rfl hown ⟨w2.heap.size,0,none⟩ 1 1 [.int .i64 4,.int .i64 0] rfl rfl (DI _ _ _ _) (by intro u hu;simp at hu;rcases hu with rfl|rfl<;>rfl) (by decide) (by unfold maxLen;omega) (by omega) hbase (w2.heap.size+1) (by simp) ?_;intro g9 cap9 w9 ho9 hg9 hat9 hl9;obtain⟨hb9,hw9⟩:=Gs hbr HW.out HML.out ho9 hg9;have HW9:=(show Hid _ from hw9))
     go_roundw
     case rel=>exact⟨k+1,some ⟨g9,0,none⟩,cap9,by omega,by omega,by go_num,rfl,hb9,HW9.out⟩
     case measure=>simp[intOf];omega
   .have hi2:¬(k:Int)<(most:Int):=by omega
    have he:=Lt (rs:=rs) (k:=k) (most:=most) (by rw[<-HN.out];exact hk1) hk2 (fun h=>h2 h.2);have hl:=Lu (rs:=rs) (k:=k) (by rw[<-HN.out];exact hk1);have HE:Hid (An rs most=An rs k):=he;have HLn:Hid ((An rs k).length=k):=hl;clear he hl;go_wp2_with fail
    go_ret;exact⟨vo,vc,by rw[HE.out,HLn.out];rfl,hbr,by rw[HE.out,HLn.out];exact HW.out⟩
  .have hi1:¬(k:Int)<(n:Int):=by omega
   have he:=Lt (rs:=rs) (k:=k) (most:=most) (by rw[<-HN.out];exact hk1) hk2 (fun h=>h1 (by rw[HN.out];exact h.1));have hl:=Lu (rs:=rs) (k:=k) (by rw[<-HN.out];exact hk1);have HE:Hid (An rs most=An rs k):=he;have HLn:Hid ((An rs k).length=k):=hl;clear he hl;go_wp2_with fail
   go_ret;exact⟨vo,vc,by rw[HE.out,HLn.out];rfl,hbr,by rw[HE.out,HLn.out];exact HW.out⟩
section
variable{m:Mo}{ps:List (List (Int×Int))}{l:List (Int×Int)}{K:Nat}
theorem KV(hs:SmallK m ps l K)(vs:List (Int×Int)):(Ap m ps l K vs).s<=(Ap m ps l K vs).n/\(Ap m ps l K vs).n<=fN m ps l (Ap m ps l K vs).n/\fN m ps l (Ap m ps l K vs).n<=K/\(AC m ps l).length<=fN m ps l (Ap m ps l K vs).n:=by
 have h:=SrOk.all hs vs;have hn:(Ap m ps l K vs).n<=K:=qI h.b h.c;refine⟨h.a,?_,(DO hs.done hn).2,?_⟩
 .by_cases e:(Ap m ps l K vs).n=K
  .rw[e,GS hs.done];exact qB _
  .exact qT (GR hs.done (by omega))
 .rw[<-GT];exact Ew (qJ _)
theorem PW(hs:SmallK m ps l K)(vs:List (Int×Int)):dnS m ps l (Ap m ps l K vs)=((Ap m ps l K vs).up&&decide ((Ap m ps l K vs).n=fN m ps l (Ap m ps l K vs).n)):=by
 obtain⟨_,h2,_,_⟩:=KV hs vs;unfold dnS;congr 1
 exact decide_eq_decide.2 ⟨fun h=>Nat.le_antisymm h2 h,fun h=>by omega⟩
theorem SQ(hs:SmallK m ps l K){st:Sr}(h:SrOk K st)(v:Int×Int):st.s<=(mvS m ps l K st v).s:=by
 unfold mvS;split
 .exact qB _
 split
 .exact qB _
 split
 .exact qB _
 split
 .exact h.a
 .exact (hs.cut (qI h.b h.c) h.a v.2.toNat).1
theorem ST{st:Sr}{v:Int×Int}(hv:v.1=2)(hup:(mvS m ps l K st v).up=true):(mvS m ps l K st v).s=(mvS m ps l K st v).n:=by
 unfold mvS at *;rw[if_neg (by omega)]at *
 split at hup
 .rename_i h;rw[h]at hup;cases hup
 .rename_i h;rw[if_neg h,if_neg (by omega),if_pos hv]
theorem SO(hs:SmallK m ps l K){st:Sr}(h:SrOk K st)(v:Int×Int):(mvS m ps l K st v).ag+((mvS m ps l K st v).mx-(mvS m ps l K st v).n)=st.ag+(st.mx-st.n)+(st.n-(mvS m ps l K st v).n):=by
 obtain⟨a,b,c⟩:=h;unfold mvS;split
 .simp
 split
 .simp
 split
 .simp only[wkS];omega
 split
 .simp
 .have:=(hs.cut (qI b c) a v.2.toNat).2.1;simp only[crS];omega
theorem SP{st:Sr}(h:SrOk K st){v:Int×Int}(hv:v.1=1\/v.1=2\/v.1=4):st.n<=(mvS m ps l K st v).n:=by
 obtain⟨a,b,c⟩:=h;unfold mvS;split
 .exact qB _
 split
 .exact qB _
 split
 .show st.n<=min (st.n+v.2.toNat) K;omega
 split
 .exact qB _
 .omega
end
section
variable{m:Mo}{ps:List (List (Int×Int))}{l:List (Int×Int)}{K:Nat}
theorem Db{st:Sr}(h:st.up=true)(x:Int):mvS m ps l K st (1,x)=wkS K st x.toNat:=by
 unfold mvS;rw[if_neg (show¬(1:Int)=4 by decide),if_neg (by simp[h]),if_pos rfl]
theorem SR{st:Sr}(h:st.up=true)(x:Int):mvS m ps l K st (2,x)={ st with s:=st.n}:=by
 unfold mvS;rw[if_neg (show¬(2:Int)=4 by decide),if_neg (by simp[h]),if_neg (show¬(2:Int)=1 by decide),if_pos rfl]
theorem Gt{st:Sr}(h:st.up=true)(x:Int):mvS m ps l K st (3,x)=crS m ps l st x.toNat:=by
 unfold mvS;rw[if_neg (show¬(3:Int)=4 by decide),if_neg (by simp[h]),if_neg (show¬(3:Int)=1 by decide),if_neg (show¬(3:Int)=2 by decide)]
theorem E6(st:Sr)(x:Int):mvS m ps l K st (4,x)={ st with up:=true}:=by
 unfold mvS;rw[if_pos rfl]
theorem D4{st:Sr}(h:st.up=false){v:Int×Int}(hv:v.1≠4):mvS m ps l K st v=st:=by
 unfold mvS;rw[if_neg hv,if_pos h]
theorem TL(hs:SmallK m ps l K)(vs:List (Int×Int))(x y:Nat):mvS m ps l K (mvS m ps l K (Ap m ps l K vs) (1,(x:Int))) (1,(y:Int))=mvS m ps l K (Ap m ps l K vs) (1,((x+y:Nat):Int)):=by
 have h:=SrOk.all hs vs;generalize Ap m ps l K vs=st at *
 cases hup:st.up with
 |false=>rw[D4 hup (v:=(1,(x:Int))) (show(1:Int)≠4 by decide),D4 hup (v:=(1,(y:Int))) (show(1:Int)≠4 by decide),D4 hup (show(1:Int)≠4 by decide)]
 |true=>
  rw[Db hup,Db (by exact hup),Db hup,jF,jF,jF];exact Vw h x y
theorem Vz(x:Nat):(Ap m ps l K [(1,(x:Int))]).up=true/\(Ap m ps l K [(1,(x:Int))]).n=min x K/\(Ap m ps l K [(1,(x:Int))]).s=0:=by
 have e:Ap m ps l K [(1,(x:Int))]=mvS m ps l K sr0 (1,(x:Int)):=rfl;rw[e,Db rfl,jF];refine⟨rfl,?_,rfl⟩;show min (0+x) K=_;rw[qU]
theorem Pd(hs:SmallK m ps l K){st:Sr}{wk:Nat}(h:SrOk K st)(hup:st.up=true)(h0:st.n=0)(ha:st.ag+(st.mx-st.n)<=wk)(k:Nat):(mvS m ps l K (mvS m ps l K (mvS m ps l K st (1,(k:Int))) (3,0)) (4,0)).up=true/\(mvS m ps l K (mvS m ps l K (mvS m ps l K st (1,(k:Int))) (3,0)) (4,0)).n=0/\(mvS m ps l K (mvS m ps l K (mvS m ps l K st (1,(k:Int))) (3,0)) (4,0)).ag+((mvS m ps l K (mvS m ps l K (mvS m ps l K st (1,(k:Int))) (3,0)) (4,0)).mx-(mvS m ps l K (mvS m ps l K (mvS m ps l K st (1,(k:Int))) (3,0)) (4,0)).n)<=wk+k:=by
 have hw:=h.wk k;rw[Db hup,E6,Gt (by exact hup),jF];have hcut:=(hs.cut (qI hw.b hw.c) hw.a 0).2.2.1 rfl;have hsn:(wkS K st k).s=0:=by have:=h.a;show st.s=0;omega
 have hz:B9 m ps l (wkS K st k).n (wkS K st k).s 0=0:=by rw[hcut,hsn]
 refine⟨rfl,hz,?_⟩;show(wkS K st k).ag+((wkS K st k).mx-B9 m ps l (wkS K st k).n (wkS K st k).s 0)<=wk+k;rw[hz];show st.ag+(min (min (st.n+k) K) st.mx-st.n)+(max st.mx (min (st.n+k) K)-0)<=wk+k;omega
end
noncomputable def kOf(m:Mo)(l:List (Int×Int)):Nat:=open Classical in if h:∃K,BH m AU l K then h.choose else 0
theorem LQ{m:Mo}{l:List (Int×Int)}{K:Nat}(h:BH m AU l K):K=kOf m l:=by
 have hx:∃K,BH m AU l K:=⟨K,h⟩;have e:kOf m l=hx.choose:=dif_pos hx;rw[e];exact Po h hx.choose_spec
noncomputable def stO(m:Mo)(l:List (Int×Int))(vs:List (Int×Int)):Sr:=Ap m AU l (kOf m l) vs
def SgK(m:Mo)(l:List (Int×Int)):Prop:=SmallK m AU l (kOf m l)
structure OutIs(m:Mo)(l vs:List (Int×Int))(b0:Bool)(f n s ag:Nat)(d h:Bool):Prop where
 small:SgK m l
 up:b0=(stO m l vs).up
 fo:f=fN m AU l (stO m l vs).n
 th:n=(stO m l vs).n
 sa:s=(stO m l vs).s
 ag:ag=(stO m l vs).ag
 dn:d=dnS m AU l (stO m l vs)
 ho:h=(dnS m AU l (stO m l vs)&&decide (BW (BV m AU l (kOf m l))=11))
structure SgC(w:World)(va vr pv fv:Value)(m:Mo)(l:List (Int×Int)):Prop where
 so:∀w',Below w.heap.size w w'->∀(ao:Option Addr) (nn cap:Nat) (vs:List (Int×Int)),vs.length=nn->Be vs->OpsV w' (.slice ao nn cap) vs->Calls qA 12 #[.agg #[va,vr,pv,fv],.slice ao nn cap] w' fun e w2=>∃(b0:Bool) (f n s ag:Nat) (d h:Bool),e=.returned (.tuple #[.agg #[.bool b0,.int .i64 (f:Nat),.int .i64 (n:Nat),.int .i64 (s:Nat),.int .i64 (ag:Nat),.bool d,.bool h],.bool true])/\Below w'.heap.size w' w2/\Hid (OutIs m l vs b0 f n s ag d h)
 ex:∀w',Below w.heap.size w w'->Calls qA 10 #[.agg #[va,vr,pv,fv]] w' fun e w2=>∃(so no xo:Option Addr) (K bn an sc nc xc:Nat),e=.returned (.tuple #[.agg #[.slice so K sc,.int .i64 (bn:Nat),.slice no K nc,.slice xo K xc,.int .i64 (an:Nat)],.int .i64 0])/\Below w'.heap.size w' w2/\K<=1000/\Hid (K=kOf m l/\bn=(AC m AU l).length/\SgK m l)
theorem SgC.below{w w':World}{va vr pv fv:Value}{m:Mo}{l:List (Int×Int)}(h:SgC w va vr pv fv m l)(hb:Below w.heap.size w w'):SgC w' va vr pv fv m l:=
 ⟨fun w2 h2=>h.so w2 (hb.trans (h2.mono hb.size)),fun w2 h2=>h.ex w2 (hb.trans (h2.mono hb.size))⟩
theorem Uc{m:Mo}{a b:Vr}{l:List (Int×Int)}{mm:Nat}(hG:GV a b)(hk:KTaskOk m l mm)(hvars:m.vars=[a,b])(hmm:mm<=2):(∀K,BH m AU l K->SmallK m AU l K)/\¬Ek m AU l:=by
 have hspan:1<=AM a*AM b/\AM a*AM b<=16:=by
  have h1:1<=AM a/\AM a<=4:=by have:=hG.a2;have:=hG.a3;unfold AM;omega
  have h2:1<=AM b/\AM b<=4:=by have:=hG.b2;have:=hG.b3;unfold AM;omega
  obtain⟨x1,x2⟩:=h1;obtain⟨y1,y2⟩:=h2;generalize AM a=x at *;generalize AM b=y at *
  rcases(show x=1\/x=2\/x=3\/x=4 by omega)with rfl|rfl|rfl|rfl<;>omega
 have hah:(AA l).length=mm:=by obtain⟨T,hT⟩:=hk.fo;exact hT.ahead
 refine Um (P:=(AM a*AM b).toNat) hk.code ?_ (by omega) (by omega);rw[hvars];show AK [a,b] 2=_;rw[TY];omega
theorem Ud{m:Mo}{a b:Vr}{l:List (Int×Int)}{mm:Nat}{w:World}{va vr pv fv:Value}(hB:0<w.heap.size)(hT:AH w)(hG:GV a b)(hk:KTaskOk m l mm)(hvars:m.vars=[a,b])(hmm:mm<=2)(hV:TaskV w va vr pv fv m AU l):SgC w va vr pv fv m l:=by
 obtain⟨hS,hF⟩:=Uc hG hk hvars hmm;have hE:∀w',Below w.heap.size w w'->FO w' m AU l va vr pv fv:=fun w' h=>Py m AU l w' (qE hB h.size) (hT.below h hB) hk.code hF va vr pv fv (hV.below h);refine⟨fun w' h ao nn cap vs e hm hO=>?_,fun w' h=>?_⟩
 .subst e;refine(Uq m AU l w' va vr pv fv (fun w2 h2=>hE w2 (h.trans (h2.mono h.size))) hS vs ao cap hm hO).mono fun e w2 ⟨K,hD,e1,hb⟩=>?_;obtain rfl:=LQ hD;exact⟨_,_,_,_,_,_,_,e1,hb,⟨hS _ hD,rfl,rfl,rfl,rfl,rfl,rfl,rfl⟩⟩
 .refine (hE w' h).mono fun e w2 ⟨K,so,sc,no,nc,xo,xc,hD,e1,hb,_⟩=>?_;have e2:=LQ hD;have hS2:=hS K hD;exact⟨so,no,xo,K,_,_,sc,nc,xc,e1,hb,hS2.few,e2,rfl,by unfold SgK;rw[<-e2];exact hS2⟩
theorem Ue(c0 c1 c2 c3 c4 c5 c6:Value)(a b:Vr)(rawv:Value)(rs:List (Int×Int))(w:World)(hB:0<w.heap.size)(hT:AH w)(hG:GV a b)(hR:Raws w w.heap.size rawv rs)
  (hmd:∀w',Below w.heap.size w w'->Calls qA 14 #[.agg #[c0,c1,c2,c3,c4,c5,c6]] w' fun e w2=>∃va vr,e=.returned (.agg #[va,vr])/\Below w'.heap.size w' w2/\GModel w2 va vr [a,b]) :
  Calls qA 9 #[.agg #[c0,c1,c2,c3,c4,c5,c6],rawv,.int .i64 2] w fun e w'=>∃(ao ro po fo:Option Addr) (rn fn ac rc fc:Nat) (m:Mo) (l:List (Int×Int)),e=.returned (.agg #[.slice ao 2 ac,.slice ro rn rc,.slice po 3 3,.slice fo fn fc])/\Below w.heap.size w w'/\Hid (SgC w' (.slice ao 2 ac) (.slice ro rn rc) (.slice po 3 3) (.slice fo fn fc) m l):=by
 refine(VG c0 c1 c2 c3 c4 c5 c6 a b rawv rs 2 w hG (by decide) hR hmd).mono fun e w' ⟨ao,ac,ro,rn,rc,pb,fo,fn,fc,m,l,mm,e1,hb,HV,HK,hmm,_⟩=>?_;obtain⟨hok,hvars,_,_⟩:=HK.out;exact⟨ao,ro,_,fo,rn,fn,ac,rc,fc,m,l,e1,hb,Ud (qE hB hb.size) (hT.below hb hB) hG hok hvars hmm HV.out⟩
theorem MD{w:World}{base:Nat}{ao:Option Addr}{n cap:Nat}{l:List (Int×Int)}(hn:l.length=n)(h:w.ownsRow base 53 2 (.slice ao n cap) n (flat l)):OpsV w (.slice ao n cap) l:=by
 subst hn;rcases h.2 with⟨e,h0⟩|⟨g,cap,cur,e,hb,hg,hnc,hcm,hcs,htake⟩
 .have:l=[]:=by simpa using h0
  subst this;cases e
  exact⟨none,0,rfl,⟨by simp,fun _=>⟨rfl,rfl⟩⟩,fun h=>absurd rfl h⟩
 .cases e
  refine⟨_,cap,rfl,⟨hnc,fun h=>by simp at h⟩,fun _=>⟨g,0,rfl,?_,fun i hi=>?_⟩⟩
  .exact (qG.1 hg).1
  .obtain ⟨f0,f1⟩:=Ex l i hi;rw[h.cellAt _ (by omega),h.cellAt _ (by omega)];simpa using⟨f0,f1⟩
theorem OpsV.cut{w:World}{ao:Option Addr}{n cap k:Nat}{l:List (Int×Int)}(h:OpsV w (.slice ao n cap) l)(hn:l.length=n)(hk:k<=n):OpsV w (.slice ao k k) (l.take k):=by
 obtain⟨ao',cap',e,⟨h1,h2⟩,h3⟩:=h;cases e
 have hl:(l.take k).length=k:=by rw[qM];omega
 refine⟨ao,k,by rw[hl],⟨by omega,fun h=>?_⟩,fun hne=>?_⟩
 .obtain ⟨_,h5⟩:=h2 h;subst h5;simp at hn hl;exact⟨by omega,by simp⟩
 .have hl0:l≠[]:=by rintro rfl;simp at hne
  obtain⟨b,off,e,hlt,hat⟩:=h3 hl0;refine⟨b,off,e,hlt,fun i hi=>?_⟩;rw[hl]at hi;have:=hat i (by omega);rw[qC,zV hi,<-qC];exact this
theorem Be.take{l:List (Int×Int)}(h:Be l)(k:Nat):Be (l.take k):=by
 refine⟨by rw[qM];have:=h.1;omega,fun i hi=>?_⟩;rw[qM]at hi;rw[qC,zV (by omega),<-qC];exact h.2 i (by omega)
theorem Be.app{l x:List (Int×Int)}(h:Be l)(hx:∀v∈x,1<=v.1/\v.1<=4/\0<=v.2/\v.2<=2147483647)(hl:l.length+x.length<=5000):Be (l++x):=by
 refine⟨by rw[qF];exact hl,fun i hi=>?_⟩;rw[qF]at hi;by_cases h1:i<l.length
 .rw[qC,List.getElem?_append_left h1,<-qC];exact h.2 i h1
 .rw[qC,List.getElem?_append_right (by omega),qH (by omega),vQ];exact hx _ (qS _)
theorem Be.nil:Be []:=⟨by simp,fun i hi=>by simp at hi⟩
theorem ND{m:Mo}{l vs:List (Int×Int)}{k:Nat}(hk:k<vs.length):stO m l (vs.take (k+1))=mvS m AU l (kOf m l) (stO m l (vs.take k)) (vs.getD k (0,0)):=Mv hk
theorem D9(m:Mo)(l a b:List (Int×Int)):stO m l (a++b)=b.foldl (mvS m AU l (kOf m l)) (stO m l a):=Mu a b
section
variable{m:Mo}{l vs us:List (Int×Int)}{b0 b0':Bool}{f n s ag f' n' s' ag':Nat}{d h d' h':Bool}
theorem OutIs.facts(H:OutIs m l vs b0 f n s ag d h):s<=n/\n<=f/\f<=kOf m l/\(AC m AU l).length<=f/\d=(b0&&decide (n=f))/\kOf m l<=1000:=by
 obtain⟨a1,a2,a3,a4⟩:=KV H.small vs;have a5:=PW H.small vs;obtain⟨hs,rfl,rfl,rfl,rfl,rfl,rfl,rfl⟩:=H;exact⟨a1,a2,a3,a4,a5,hs.few⟩
theorem OutIs.first(H:OutIs m l [] b0 f n s ag d h):b0=true/\n=0/\s=0/\ag=0:=by
 obtain⟨hs,rfl,rfl,rfl,rfl,rfl,rfl,rfl⟩:=H;exact⟨rfl,rfl,rfl,rfl⟩
theorem OutIs.same(H:OutIs m l vs b0 f n s ag d h)(H':OutIs m l us b0' f' n' s' ag' d' h')(e:stO m l vs=stO m l us):b0=b0'/\f=f'/\n=n'/\s=s'/\ag=ag'/\d=d'/\h=h':=by
 obtain⟨hs,rfl,rfl,rfl,rfl,rfl,rfl,rfl⟩:=H;obtain⟨_,rfl,rfl,rfl,rfl,rfl,rfl,rfl⟩:=H';rw[e];exact⟨rfl,rfl,rfl,rfl,rfl,rfl,rfl⟩
theorem NE(hs:SgK m l)(vs:List (Int×Int)):SrOk (kOf m l) (stO m l vs):=SrOk.all hs vs
theorem UN{k:Nat}(H:OutIs m l (vs.take k) b0 f n s ag d h)(H':OutIs m l (vs.take (k+1)) b0' f' n' s' ag' d' h')(hk:k<vs.length):s<=s'/\((vs.getD k (0,0)).1=2->b0'=true->s'=n'):=by
 have e:=ND (m:=m) (l:=l) hk;have h1:=SQ H.small (NE H.small (vs.take k)) (vs.getD k (0,0));rw[<-e]at h1;rw[H.sa,H'.sa,H'.th,H'.up];exact⟨h1,fun hv hup=>by rw[e]at hup⊢;exact ST hv hup⟩
theorem WO(H:OutIs m l [(1,3),(2,0)] b0 f n s ag d h):b0=true/\s=min 3 (kOf m l):=by
 obtain⟨hs,rfl,rfl,rfl,rfl,rfl,rfl,rfl⟩:=H;have e:stO m l [(1,3),(2,0)]=mvS m AU l (kOf m l) (mvS m AU l (kOf m l) sr0 (1,3)) (2,0):=rfl;rw[e,Db rfl,SR rfl];exact⟨rfl,by show min (0+3) _=_;rw[qU]⟩
noncomputable def Fk(m:Mo)(l vs:List (Int×Int)):Nat:=(stO m l vs).ag+((stO m l vs).mx-(stO m l vs).n)
theorem N7{k:Nat}(hs:SgK m l)(hk:k<vs.length)(hv:1<=(vs.getD k (0,0)).1/\(vs.getD k (0,0)).1<=4):Fk m l (vs.take (k+1))=Fk m l (vs.take k)+((stO m l (vs.take k)).n-(stO m l (vs.take (k+1))).n)/\((vs.getD k (0,0)).1≠3->(stO m l (vs.take k)).n<=(stO m l (vs.take (k+1))).n)/\((vs.getD k (0,0)).1=3->(stO m l (vs.take (k+1))).n<=(stO m l (vs.take k)).n)/\(stO m l (vs.take k)).n<=1000:=by
 have e:=ND (m:=m) (l:=l) hk;have hok:=NE hs (vs.take k);unfold Fk;rw[e];generalize stO m l (vs.take k)=st at *;generalize vs.getD k (0,0)=v at *;refine⟨SO hs hok v,fun h3=>SP hok (by omega),fun h3=>?_,qI (qI hok.b hok.c) hs.few⟩
 obtain⟨v1,v2⟩:=v;simp only at h3;subst h3;cases hup:st.up with
 |false=>rw[D4 hup (show(3:Int)≠4 by decide)];exact qB _
 |true=>
  rw[Gt hup];exact(hs.cut (qI hok.b hok.c) hok.a v2.toNat).2.1
theorem WM(H:OutIs m l [(1,2),(3,0),(4,0),(1,2)] b0 f n s ag d h):b0=true/\ag=min 2 (kOf m l):=by
 obtain⟨hs,rfl,rfl,rfl,rfl,rfl,rfl,rfl⟩:=H;have e:stO m l [(1,2),(3,0),(4,0),(1,2)]=mvS m AU l (kOf m l) (mvS m AU l (kOf m l) (mvS m AU l (kOf m l) (mvS m AU l (kOf m l) sr0 (1,2)) (3,0)) (4,0)) (1,2):=rfl;have h0:=SrOk.start (K:=kOf m l);obtain⟨r1,r2,r3⟩:=Pd (K:=kOf m l) hs (wk:=0) h0 rfl rfl (qB _) 2;have e1:mvS m AU l (kOf m l) sr0 (1,((2:Nat):Int))=wkS (kOf m l) sr0 2:=Db rfl _;rw[e];have hok:SrOk (kOf m l) (wkS (kOf m l) sr0 2):=h0.wk 2;have hcut:=(hs.cut (qI hok.b hok.c) hok.a 0).2.2.1 rfl;rw[Db (st:=sr0) rfl,Gt (by rfl),E6,Db (by rfl)];refine⟨rfl,?_⟩;show(0+(min (min (0+2) (kOf m l)) 0-0))+(min (min (B9 m AU l (wkS (kOf m l) sr0 2).n (wkS (kOf m l) sr0 2).s 0+2) (kOf m l)) (max 0 (min (0+2) (kOf m l)))-B9 m AU l (wkS (kOf m l) sr0 2).n (wkS (kOf m l) sr0 2).s 0)=_;rw[hcut];show(0+(min (min (0+2) (kOf m l)) 0-0))+(min (min (0+2) (kOf m l)) (max 0 (min (0+2) (kOf m l)))-0)=_;omega
theorem WU{x y:Nat}(hs:SgK m l)(vs:List (Int×Int)):stO m l (vs++[(1,(x:Int)),(1,(y:Int))])=stO m l (vs++[(1,((x+y:Nat):Int))]):=by
 rw[D9,D9];exact TL hs vs x y
theorem WV{x:Nat}(H:OutIs m l [(1,(x:Int))] b0 f n s ag d h):b0=true/\n=min x (kOf m l):=by
 obtain⟨h1,h2,_⟩:=Vz (m:=m) (ps:=AU) (l:=l) (K:=kOf m l) x;exact⟨H.up.trans h1,H.th.trans h2⟩
theorem WS(vs:List (Int×Int))(z x:Int):(stO m l (vs++[(3,z)])).up=false/\stO m l ((vs++[(3,z)])++[(1,x),(2,0),(3,0)])=stO m l (vs++[(3,z)])/\stO m l ((vs++[(3,z)])++[(4,0),(4,0)])=stO m l ((vs++[(3,z)])++[(4,0)])/\(stO m l ((vs++[(3,z)])++[(4,0)])).up=true/\(stO m l ((vs++[(3,z)])++[(4,0)])).n=(stO m l (vs++[(3,z)])).n:=by
 have hup:(stO m l (vs++[(3,z)])).up=false:=by
  rw[D9];show(mvS m AU l (kOf m l) (stO m l vs) (3,z)).up=false;cases hu:(stO m l vs).up with
  |false=>rw[D4 hu (show(3:Int)≠4 by decide)];exact hu
  |true=>rw[Gt hu];rfl
 refine⟨hup,?_,?_,?_,?_⟩
 .rw[D9 _ _ (vs++[(3,z)])];show mvS m AU l (kOf m l) (mvS m AU l (kOf m l) (mvS m AU l (kOf m l) (stO m l (vs++[(3,z)])) (1,x)) (2,0)) (3,0)=_;rw[D4 hup (show(1:Int)≠4 by decide),D4 hup (show(2:Int)≠4 by decide),D4 hup (show(3:Int)≠4 by decide)]
 .rw[D9 _ _ (vs++[(3,z)]),D9 _ _ (vs++[(3,z)])];show mvS m AU l (kOf m l) (mvS m AU l (kOf m l) (stO m l (vs++[(3,z)])) (4,0)) (4,0)=mvS m AU l (kOf m l) (stO m l (vs++[(3,z)])) (4,0);rw[E6,E6]
 .rw[D9 _ _ (vs++[(3,z)])];show(mvS m AU l (kOf m l) (stO m l (vs++[(3,z)])) (4,0)).up=true;rw[E6]
 .rw[D9 _ _ (vs++[(3,z)])];show(mvS m AU l (kOf m l) (stO m l (vs++[(3,z)])) (4,0)).n=_;rw[E6]
end
theorem Dj{w W:World}(h:Below w.heap.size w W)(o:Obj):Below w.heap.size w (W.alloc o):=h.alloc h.size o
theorem CQ{w W W2:World}(h:Below w.heap.size w W)(h2:Below W.heap.size W W2):Below w.heap.size w W2:=h.trans (h2.mono h.size)
def ocB(b0:Bool)(f n s ag:Nat)(d h:Bool):Obj:=.cells #[.bool b0,.int .i64 (f:Nat),.int .i64 (n:Nat),.int .i64 (s:Nat),.int .i64 (ag:Nat),.bool d,.bool h] 48 (0,0)
structure OcAt(w wz:World)(X:Nat)(m:Mo)(l vs:List (Int×Int))(b0:Bool)(f n s ag:Nat)(d h:Bool):Prop where
 bel:Below w.heap.size w wz
 box:wz.heap[X]? = some (ocB b0 f n s ag d h)
 out:OutIs m l vs b0 f n s ag d h
section
variable{w wz wy:World}{X:Nat}{m:Mo}{l vs:List (Int×Int)}{b0:Bool}{f n s ag:Nat}{d h:Bool}
theorem OcAt.on(H:OcAt w wz X m l vs b0 f n s ag d h)(hb:Below wz.heap.size wz wy):OcAt w wy X m l vs b0 f n s ag d h:=
 ⟨CQ H.bel hb,(hb.block X (qG.1 H.box).1).trans H.box,H.out⟩
theorem OcAt.cells(H:OcAt w wz X m l vs b0 f n s ag d h):wz.cell? ⟨X,0,none⟩=some (.bool b0)/\wz.cell? ⟨X,1,none⟩=some (.int .i64 (f:Nat))/\wz.cell? ⟨X,2,none⟩=some (.int .i64 (n:Nat))/\wz.cell? ⟨X,3,none⟩=some (.int .i64 (s:Nat))/\wz.cell? ⟨X,4,none⟩=some (.int .i64 (ag:Nat))/\wz.cell? ⟨X,5,none⟩=some (.bool d)/\wz.cell? ⟨X,6,none⟩=some (.bool h):=Ci H.box
theorem Od{x:Nat}{a0 a1 a2 a3 a4 a5 a6:Value}(hb:Below w.heap.size w wz)(hx:w.heap.size<=x):Below w.heap.size w (((((((wz.setCell ⟨x,0,none⟩ a0).setCell ⟨x,1,none⟩ a1).setCell ⟨x,2,none⟩ a2).setCell ⟨x,3,none⟩ a3).setCell ⟨x,4,none⟩ a4).setCell ⟨x,5,none⟩ a5).setCell ⟨x,6,none⟩ a6):=
 ((((((hb.setCell (p:=⟨x,0,none⟩) hx _).setCell (p:=⟨x,1,none⟩) hx _).setCell (p:=⟨x,2,none⟩) hx _).setCell (p:=⟨x,3,none⟩) hx _).setCell (p:=⟨x,4,none⟩) hx _).setCell (p:=⟨x,5,none⟩) hx _).setCell (p:=⟨x,6,none⟩) hx _
end
theorem Ub(gv:Value)(gs:List (Int×Int))(most:Nat)(mi:Int)(w:World)(hmi:mi=(most:Nat))(hm:most<=30)(hR:Raws w w.heap.size gv gs):∃vs:List (Int×Int),Be vs/\vs.length<=most/\(∀v∈vs,1<=v.1/\v.1<=4/\0<=v.2/\v.2<=119)/\∀w',Below w.heap.size w w'->Calls qA 11 #[gv,.int .i64 mi] w' fun e w2=>∃ao cap,e=.returned (.slice ao vs.length cap)/\Below w'.heap.size w' w2/\Hid (w2.ownsRow w'.heap.size 53 2 (.slice ao vs.length cap) vs.length (flat vs)):=by
 subst hmi;refine⟨An gs most,(Lv gs (by omega)).1,(Lv gs (by omega)).2,fun v hv=>?_,fun w' h=>?_⟩
 .unfold An at hv;obtain⟨g,_,rfl⟩:=List.mem_map.1 hv;exact K8 g
 .exact SH gv gs most w' (by omega) (hR.up h)
theorem F5(w:World)(o:Obj):(w.alloc o).heap[w.heap.size]? = some o:=(MapKept.heap_alloc w o).1
theorem Nt{x:Int}(h1:0<=x)(h2:x<=1000000):IntKind.i64.wrap x=x:=by
 simp[IntKind.wrap,IntKind.bits,IntKind.signed];omega
theorem WK{w:World}{L:Nat}{cs:Array Value}{t:TypeId}{us:List (Int×Int)}(hL:w.heap[L]? = some (.cells cs t (0,0)))(hc:cs.toList=flat us){n c:Nat}(hn:us.length=n)(hnc:n<=c):OpsV w (.slice (some ⟨L,0,none⟩) n c) us:=by
 subst hn;refine⟨_,c,rfl,⟨hnc,fun h=>by simp at h⟩,fun _=>⟨L,0,rfl,(qG.1 hL).1,fun i hi=>?_⟩⟩;obtain⟨f0,f1⟩:=Ex us i hi;rw[<-hc]at f0 f1;rw[Array.getElem?_toList]at f0 f1;constructor
 .simp[World.cell?,hL,f0]
 .simp[World.cell?,hL,f1]
theorem S1{w:World}{base g n k cap:Nat}{vs us:List (Int×Int)}(h:w.ownsRow base 53 2 (.slice (some ⟨g,0,none⟩) (n+k) cap) (n+k) (flat vs++flat us))(hv:vs.length=n)(hu:us.length=k):OpsV w (.slice (some ⟨g,0,none⟩) (n+k) cap) (vs++us):=by
 rw[<-FZ]at h;exact MD (by rw[qF,hv,hu]) h
theorem S2{w:World}{ao:Option Addr}{n cap:Nat}{vs:List (Int×Int)}(h:OpsV w (.slice ao n cap) vs)(hn:vs.length=n):(ao=none->n=0/\cap=0)/\∀b,ao=some b->∀j u,(flat vs)[j]? = some u->w.cell? (b.add j)=some u:=by
 obtain⟨ao',cap',e,⟨h1,h2⟩,h3⟩:=h;cases e
 refine⟨fun e=>?_,fun b e j u hj=>?_⟩
 .obtain ⟨h4,h5⟩:=h2 e;subst h5;exact⟨hn.symm,h4⟩
 .have hne:vs≠[]:=by rintro rfl;simp[flat]at hj
  obtain⟨b',off,e2,hlt,hat⟩:=h3 hne;rw[e]at e2;cases e2
  exact hat.cells j u hj
theorem Be.lit{x:List (Int×Int)}(hx:∀v∈x,1<=v.1/\v.1<=4/\0<=v.2/\v.2<=2147483647)(hl:x.length<=5000):Be x:=Be.nil.app hx (by simpa using hl)
def Ns(m:Mo)(l vs:List (Int×Int))(k s0:Nat):Prop:=(k=0/\s0=0)\/∃j,k=j+1/\∃(b0:Bool) (f n ag:Nat) (d h:Bool),OutIs m l (vs.take j) b0 f n s0 ag d h
theorem WN{m:Mo}{l vs:List (Int×Int)}{k s0:Nat}{b0:Bool}{f n s ag:Nat}{d h:Bool}(H0:Ns m l vs k s0)(H:OutIs m l (vs.take k) b0 f n s ag d h)(hk:k<=vs.length):(k=0/\s0=0)\/∃j,k=j+1/\j<vs.length/\s0<=s/\(¬(vs.getD j (0,0)).1=2\/((vs.getD j (0,0)).1=2/\b0=false)\/((vs.getD j (0,0)).1=2/\b0=true/\n=s)):=by
 rcases H0 with h0|⟨j,rfl,b1,f1,n1,a1,d1,h1,H1⟩
 .exact .inl h0
 .obtain ⟨s1,s2⟩:=UN H1 H (by omega);refine .inr ⟨j,rfl,by omega,s1,?_⟩;by_cases hx:(vs.getD j (0,0)).1=2
  .cases b0
   .exact .inr (.inl ⟨hx,rfl⟩)
   .exact .inr (.inr ⟨hx,rfl,(s2 hx rfl).symm⟩)
  .exact .inl hx
def F4(m:Mo)(l vs:List (Int×Int))(k lo wa:Nat):Prop:=(k=0/\lo=0/\wa=0)\/∃j,k=j+1/\lo=Fk m l (vs.take j)/\wa=(stO m l (vs.take j)).n/\SgK m l
theorem WL{m:Mo}{l vs:List (Int×Int)}{k lo wa:Nat}{b0:Bool}{f n s ag:Nat}{d h:Bool}(H0:F4 m l vs k lo wa)(H:OutIs m l (vs.take k) b0 f n s ag d h)(hk:k<=vs.length)(hv:∀v∈vs,1<=v.1/\v.1<=4/\0<=v.2/\v.2<=119) :
  (k=0/\lo=0/\wa=0/\ag=0/\F4 m l vs (0+1) 0 n)\/∃j,k=j+1/\j<vs.length/\((¬(vs.getD j (0,0)).1=3/\ag<=lo/\F4 m l vs (j+1+1) lo n)\/((vs.getD j (0,0)).1=3/\∃q,wa=n+q/\ag<=lo+q/\F4 m l vs (j+1+1) (lo+q) n/\n+q<=1000)):=by
 rcases H0 with⟨rfl,rfl,rfl⟩|⟨j,rfl,h1,h2,hs⟩
 .have h0:OutIs m l [] b0 f n s ag d h:=H;obtain⟨_,e1,_,e2⟩:=h0.first;exact .inl ⟨rfl,rfl,rfl,e2,.inr ⟨0,rfl,rfl,by rw[H.th],H.small⟩⟩
 .have hj:j<vs.length:=by omega
  have hvj:(vs.getD j (0,0))∈vs:=by
   rw[qC,qH hj];exact qS _
  obtain⟨a1,a2,a3,a4⟩:=N7 hs hj ⟨(hv _ hvj).1,(hv _ hvj).2.1⟩;have hlo:Fk m l (vs.take (j+1))=ag+((stO m l (vs.take (j+1))).mx-n):=by rw[H.ag,H.th];rfl
  have hth:=H.th;refine .inr ⟨j,rfl,hj,?_⟩;by_cases hx:(vs.getD j (0,0)).1=3
  .have:=a3 hx;refine .inr ⟨hx,wa-n,by omega,by omega,.inr ⟨j+1,rfl,by omega,hth,hs⟩,by omega⟩
  .have:=a2 hx;exact .inl ⟨hx,by omega,.inr ⟨j+1,rfl,by omega,hth,hs⟩⟩
noncomputable def ocV(m:Mo)(l vs:List (Int×Int)):Value:=.agg #[.bool (stO m l vs).up,.int .i64 (fN m AU l (stO m l vs).n:Nat),.int .i64 ((stO m l vs).n:Nat),.int .i64 ((stO m l vs).s:Nat),.int .i64 ((stO m l vs).ag:Nat),.bool (dnS m AU l (stO m l vs)),.bool (dnS m AU l (stO m l vs)&&decide (BW (BV m AU l (kOf m l))=11))]
theorem Ut{w0 w:World}{va vr pv fv:Value}{m:Mo}{l:List (Int×Int)}(HC:SgC w0 va vr pv fv m l)(hb:Below w0.heap.size w0 w){ao:Option Addr}{nn cap:Nat}{vs:List (Int×Int)}(hn:vs.length=nn)(hm:Be vs)(hO:OpsV w (.slice ao nn cap) vs):Calls qA 12 #[.agg #[va,vr,pv,fv],.slice ao nn cap] w fun e w2=>e=.returned (.tuple #[ocV m l vs,.bool true])/\Below w.heap.size w w2/\Hid (SgK m l):=by
 refine(HC.so w hb ao nn cap vs hn hm hO).mono fun e w2 ⟨b0,f,n,s,ag,d,h,e1,h2,h3⟩=>⟨?_,h2,h3.out.small⟩;obtain⟨_,h4,h5,h6,h7,h8,h9,h10⟩:=h3.out;rw[e1];unfold ocV;rw[h4,h5,h6,h7,h8,h9,h10]
noncomputable def ocO(m:Mo)(l vs:List (Int×Int)):Obj:=ocB (stO m l vs).up (fN m AU l (stO m l vs).n) (stO m l vs).n (stO m l vs).s (stO m l vs).ag (dnS m AU l (stO m l vs)) (dnS m AU l (stO m l vs)&&decide (BW (BV m AU l (kOf m l))=11))
inductive SqD where
 |val (x:Value)
 |lit (cs:Array Value) (k:Nat)
 |app (l:List (Int×Int)) (n:Nat)
 |tup (oc:Value) (Sm:Prop)
def KH(cs:Array Value)(k:Nat)(v:Value)(w:World):Prop:=∃g,v=.slice (some ⟨g,0,none⟩) k k/\w.heap[g]? = some (.cells cs 53 (0,0))
def J9(l:List (Int×Int))(n:Nat)(v:Value)(w:World):Prop:=∃g cap,v=.slice (some ⟨g,0,none⟩) n cap/\OpsV w (.slice (some ⟨g,0,none⟩) n cap) l
def SqD.At:SqD->Bool->Value->World->Prop
 | .val x,_,v,_=>v=x
 | .lit cs k,c,v,w=>c=true\/KH cs k v w
 | .app l n,c,v,w=>c=true\/J9 l n v w
 | .tup oc Sm,_,v,_=>v=.tuple #[oc,.bool true]/\Sm
def Hx(base:Nat)(fo:Obj)(c:Bool)(v:Value)(w:World):Prop:=∃g,v=.pointer (some ⟨g,0,none⟩)/\base<=g/\w.heap[g]? = some (if c=true then fo else .cells #[.bool false,.int .i64 0,.int .i64 0,.int .i64 0,.int .i64 0,.bool false,.bool false] 48 (0,0))
def SqP(fs:List SqD)(bx base:Nat)(fo:Obj)(i:Nat)(_ c:Bool)(v:Value)(w:World):Prop:=if i=bx then Hx base fo c v w else(fs.getD i (.val .nilIface)).At c v w
theorem orF{p:Prop}(h:false=true\/p):p:=h.resolve_left (fun h=>by cases h)
section
variable{fs:List SqD}{bx base:Nat}{fo:Obj}{b:Bool}{w w':World}
theorem Nz(i:Nat)(b c:Bool)(v:Value)(w w':World)(h:SqP fs bx base fo i b c v w)(hb:Below w.heap.size w w'):SqP fs bx base fo i b c v w':=by
 unfold SqP at *
 by_cases hi:i=bx
 .rw[if_pos hi]at *
  obtain⟨g,h1,h0,h2⟩:=h;exact⟨g,h1,h0,(hb.block g (qG.1 h2).1).trans h2⟩
 .rw[if_neg hi]at *
  generalize fs.getD i (.val .nilIface)=F at *
  cases F with
  |val x=>exact h
  |lit cs k=>exact h.imp id fun⟨g,h1,h2⟩=>⟨g,h1,(hb.block g (qG.1 h2).1).trans h2⟩
  |app l n=>exact h.imp id fun⟨g,c,h1,h2⟩=>⟨g,c,h1,h2.below hb⟩
  |tup oc Sm=>exact h
theorem Ny{ops:Array Oper}{tb g:Nat}{q:Nat->Value}(hd:Am ops bx=some tb)(hq:q tb=.pointer (some ⟨g,0,none⟩))(hf:w'.heap[g]? = some fo)(j t:Nat)(ht:Am ops j=some t)(h:SqP fs bx base fo j b false (q t) w):SqP fs bx base fo j b true (q t) w':=by
 unfold SqP at *
 by_cases hi:j=bx
 .subst hi;rw[if_pos rfl]at *;rw[hd]at ht;obtain rfl:=Option.some.inj ht;obtain⟨g',h1,h0,_⟩:=h;rw[hq]at h1
  injection h1 with h1;injection h1 with h1;injection h1 with h1;subst h1;exact⟨g,hq,h0,hf⟩
 .rw[if_neg hi]at *
  generalize fs.getD j (.val .nilIface)=F at *
  cases F with
  |val x=>exact h
  |lit cs k=>exact .inl rfl
  |app l n=>exact .inl rfl
  |tup oc Sm=>exact h
end
theorem WT{o:Oper}{a:Act}{w:World}{K:Act->World->Prop}{Q:Exit->Act->World->Prop}(s x:Operand)(ho:o.op=.call { callee:=.builtin .append,args:=#[s,x],argTypes:=#[45,45]})
  (ao:Option Addr) (n:Nat) (vs us:List (Int×Int)) (hs:a.eval s=.slice ao n n) (hV:OpsV w (.slice ao n n) vs) (hn:vs.length=n) (cs:Array Value) (k:Nat) (hx:KH cs k (a.eval x) w) (hc:cs.toList=flat us) (hk:us.length=k) (h0:0<k) (hb:n+k<=100000)
  (hK:∀v w',Below w.heap.size w w'->J9 (vs++us) (n+k) v w'->K (a.put o.dst v) w'):Oper.wp qA o a w K Q:=by
 obtain⟨L,hx,hL⟩:=hx;obtain⟨i0,hi,hz0,hz1,hz2⟩:=info_parts LJ;obtain⟨f1,f2⟩:=S2 hV hn;have hnews:∀j u,(flat us)[j]? = some u->w.cell? ((⟨L,0,none⟩:Addr).add j)=some u:=fun j u hj=>World.news_of_block hL j u (by rw[hc];exact hj);have hfin:∀v' w',w'.ownsRow w.heap.size 53 2 v' (n+k) (flat vs++flat us)->w.grownBy w' none->K (a.put o.dst v') w':=fun v' w' h1 h2=>by
  obtain⟨g,cap,rfl,_,_⟩:=h1.form (by omega);exact hK _ w' (Below.grown (qD _ _) h2 (qB _) (fun z hz=>by cases hz)) ⟨g,cap,rfl,S1 h1 hn hk⟩
 have hl1:(flat vs).length=n*2:=by rw[GY,hn]
 have hl2:(flat us).length=k*2:=by rw[GY,hk]
 cases ao with
 |some b=>
  obtain⟨v',w',hrun,r1,r2⟩:=run_append_arg_grows (P:=qA) w 45 o.type 53 i0 _ 2 16 Tryz.underlying45 hi hz0 hz1 hz2 rfl (by decide) b n n (flat vs) hl1 (f2 b rfl) ⟨L,0,none⟩ k k (flat us) hl2 hnews (by omega) (by unfold maxLen;omega) (by omega);unfold Oper.wp;simp[execOp,ho,resolve,invoke,builtin,hs,hx,hrun,Result.andThen];exact hfin v' w' r1 r2
 |none=>
  obtain⟨rfl,_⟩:=f1 rfl;obtain rfl:vs=[]:=List.length_eq_zero_iff.1 hn;obtain⟨v',w',hrun,r1,r2,_⟩:=run_append_own (P:=qA) w w.heap.size 45 o.type 53 i0 _ 2 16 Tryz.underlying45 hi hz0 hz1 hz2 rfl (by decide) (.slice none 0 0) 0 [] (World.ownsRow_nil w _ _ _) ⟨L,0,none⟩ k k (flat us) hl2 hnews (Kz us) (by unfold maxLen;omega) (by omega) (qB _);unfold Oper.wp;simp[execOp,ho,resolve,invoke,builtin,hs,hx,hrun,Result.andThen];exact hfin v' w' r1 r2
theorem Wh(c0 c1 c2 c3 c4 c5 c6:Value)(a b:Vr)(rawv:Value)(rs:List (Int×Int))(gv:Value)(gs:List (Int×Int))(w:World)(hB:0<w.heap.size)(hT:AH w)(hG:GV a b)(hR:Raws w w.heap.size rawv rs)(hg:Raws w w.heap.size gv gs)
  (hmd:∀w',Below w.heap.size w w'->Calls qA 14 #[.agg #[c0,c1,c2,c3,c4,c5,c6]] w' fun e w2=>∃va vr,e=.returned (.agg #[va,vr])/\Below w'.heap.size w' w2/\GModel w2 va vr [a,b]) :
  Calls qA 6 #[.agg #[c0,c1,c2,c3,c4,c5,c6],rawv,gv] w fun e w'=>e=.returned (.bool true)/\Below w.heap.size w w':=by
 have hA1:Below w.heap.size w (w.alloc (.cells #[c0,c1,c2,c3,c4,c5,c6] 25)):=Dj (qD _ _) _;have htk:=Ue c0 c1 c2 c3 c4 c5 c6 a b rawv rs _ (qE hB hA1.size) (hT.below hA1 hB) hG (hR.up hA1) (fun w' h=>hmd w' (CQ hA1 h));obtain⟨ra,rn0,rc0,hra⟩:∃a n c,rawv=.slice a n c:=by obtain⟨⟨a,c,h,_⟩,_,_⟩:=hR;exact⟨_,_,_,h⟩
 subst hra;obtain⟨go,gn,gc,hga⟩:∃a n c,gv=.slice a n c:=by obtain⟨⟨a,c,h,_⟩,_,_⟩:=hg;exact⟨_,_,_,h⟩
 subst hga;obtain⟨gvs,hg1,hg2,hg3,hg4⟩:=Ub _ gs 30 30 w rfl (by decide) hg;have Hgk:Hid (Be gvs/\∀v∈gvs,1<=v.1/\v.1<=4/\0<=v.2/\v.2<=119):=⟨hg1,hg3⟩;have Hgm:=(show Hid _ from hg4);obtain⟨gq,hgq⟩:∃n,n=gvs.length:=⟨_,rfl⟩;have Hgq:Hid (gq=gvs.length):=hgq;rw[<-hgq]at hg2 Hgm;clear hg1 hg3 hg4 hg hgq;clear hmd hR hT hG;go_enter Tryz.func6,Tryz.ntmps6;go_upto_region 2 with(go_at_call 9;refine htk.mono ?_;rintro e w1 ⟨ao,ro,po,fo,rn,fn,ac,rc,fc,m,l,rfl,hb1,HC1⟩)
 have hbw1:=CQ hA1 hb1;have hbA:Below w1.heap.size w1 (w1.alloc (.cells #[.slice ao 2 ac,.slice ro rn rc,.slice po 3 3,.slice fo fn fc] 35)):=Dj (qD _ _) _;have hbw2:=CQ hbw1 hbA;have hbx:(w1.alloc (.cells #[.slice ao 2 ac,.slice ro rn rc,.slice po 3 3,.slice fo fn fc] 35)).heap[w1.heap.size]? = some (tkB (.slice ao 2 ac) (.slice ro rn rc) (.slice po 3 3) (.slice fo fn fc)):=F5 w1 _;have HC:Hid (SgC (w1.alloc (.cells #[.slice ao 2 ac,.slice ro rn rc,.slice po 3 3,.slice fo fn fc] 35)) (.slice ao 2 ac) (.slice ro rn rc) (.slice po 3 3) (.slice fo fn fc) m l):=HC1.out.below hbA;generalize w1.alloc (.cells #[.slice ao 2 ac,.slice ro rn rc,.slice po 3 3,.slice fo fn fc] 35)=W2 at *;generalize w1.heap.size=X at *
 have hXl:X<W2.heap.size:=(qG.1 hbx).1;have HT2:Hid (∀W,Below W2.heap.size W2 W->W.cell? ⟨X,0,none⟩=some (.slice ao 2 ac)/\W.cell? ⟨X,1,none⟩=some (.slice ro rn rc)/\W.cell? ⟨X,2,none⟩=some (.slice po 3 3)/\W.cell? ⟨X,3,none⟩=some (.slice fo fn fc)):=fun W h=>VN ((h.block X hXl).trans hbx);have HW2:Hid (Below w.heap.size w W2):=hbw2;clear hbw1 hbA hbw2 hbx hA1 hb1 htk HC1 hB;have hmv:=Hgm.out W2 (CQ HW2.out (qD _ _));go_upto_region 3 with(go_at_call 11;refine hmv.mono ?_;rintro e w5 ⟨mo,mc,rfl,hb5,HMo⟩)
 have HB5:Hid (Below W2.heap.size W2 w5):=CQ (qD _ _) hb5;have HMs:Hid (∀W,Below w5.heap.size w5 W->OpsV W (.slice mo gq mc) gvs):=fun W h=>(MD Hgq.out.symm HMo.out).below h;have hqc:gq<=mc:=by
  obtain⟨ao',cap',e,⟨h1,_⟩,_⟩:=HMs.out w5 (qD _ _);cases e
  have:=Hgq.out;omega
 clear hmv hb5 HMo;go_wp2_with fail
 go_loopw [9,10,11] (fun u v i wr=>∃k lo wa:Nat,k<=gq+1/\lo<=1000*k/\u=.int .i64 (lo:Int)/\v=.int .i64 (wa:Int)/\i=.int .i64 (k:Int)/\Hid (Below w5.heap.size w5 wr/\F4 m l gvs k lo wa)) (fun _ _ i _=>gq+1-(intOf i).toNat)
 case atStart=>exact⟨0,0,0,by omega,by omega,rfl,rfl,rfl,qD _ _,.inl ⟨rfl,rfl,rfl⟩⟩
 case round=>
  obtain⟨k,lo,wa,hk1,hlo,rfl,rfl,rfl,HBr⟩:=hrel;by_cases hk:k<=gq
  .have hki:(k:Int)<=(gq:Int):=by omega
   have hkc:(k:Int)<=(mc:Int):=by omega
   have hk0:(0:Int)<=(k:Int):=by omega
   go_upto_region 8 with fail
   go_cut [12,13] (fun u v wz=>∃(Xo:Nat) (b0:Bool) (f n s ag:Nat) (d h:Bool),u=.pointer (some ⟨Xo,0,none⟩)/\v=.bool true/\Hid (OcAt w5 wz Xo m l (gvs.take k) b0 f n s ag d h))
   case first=>
    rename_i J K' hJ hK';generalize ha0:Act.mk _ _=a0;have hsz:a0.tmps.size=101:=by rw[<-ha0];rfl
    have a7_:a0.eval (.tmp 7)=(.pointer (some ⟨X,0,none⟩)):=by rw[<-ha0];rfl
    have a8_:a0.eval (.tmp 8)=(.slice mo gq mc):=by rw[<-ha0];rfl
    have a11_:a0.eval (.tmp 11)=(.int .i64 (k:Nat)):=by rw[<-ha0];rfl
    have hbW0:Below W2.heap.size W2 wr:=CQ HB5.out HBr.out.1;have hbB0:Below w5.heap.size w5 wr:=HBr.out.1;have hmvE:Be (gvs.take k):=(Hgk.out.1.take k);have hlnE:(gvs.take k).length=k:=(by rw[qM];have:=Hgq.out;omega);refine V6 (by rfl) [30,31,32,33,34,35,29,36,37,12,13] 11 100 10 (by decide) (by decide) (SqP [.val (.agg #[.slice ao 2 ac,.slice ro rn rc,.slice po 3 3,.slice fo fn fc]),.val (.slice mo gq mc),.val (.int .i64 (k:Nat)),.val (.int .i64 (k:Nat)),.val (.slice mo k k),.tup (ocV m l (gvs.take k)) (SgK m l),.tup (ocV m l (gvs.take k)) (SgK m l),.val (ocV m l (gvs.take k)),.val (.bool true),.val .nilIface] 9 wr.heap.size (ocO m l (gvs.take k))) (by rw[hsz];rfl) (fun i b c v w w' _ h hb=>Nz i b c v w w' h hb) ?_ (fun o h=>absurd h (by decide)) ?_ ?_
    .intro i o hlt _ hn2 ho q w' b c _ hcf hb hq;have f:∀t,[30,31,32,33,34,35,29,36,37,12,13].contains t=true->t<101->(frm a0 [30,31,32,33,34,35,29,36,37,12,13] q).eval (.tmp t)=q t:=fun t h1 h2=>Fa h1 (by rw[hsz];exact h2);have e7_:(frm a0 [30,31,32,33,34,35,29,36,37,12,13] q).eval (.tmp 7)=(.pointer (some ⟨X,0,none⟩)):=(Fb rfl).trans a7_;have e8_:(frm a0 [30,31,32,33,34,35,29,36,37,12,13] q).eval (.tmp 8)=(.slice mo gq mc):=(Fb rfl).trans a8_;have e11_:(frm a0 [30,31,32,33,34,35,29,36,37,12,13] q).eval (.tmp 11)=(.int .i64 (k:Nat)):=(Fb rfl).trans a11_;obtain⟨m0,m1,m2,m3⟩:=HT2.out w' (CQ hbW0 hb);have hsw:=hb.size;obtain⟨ev,hev⟩:∃ev,ev=(frm a0 [30,31,32,33,34,35,29,36,37,12,13] q).eval:=⟨_,rfl⟩;have evc:∀v,ev (.const v)=v:=fun v=>by rw[hev];rfl
     have evf:∀n,ev (.func n)=.func (.func n) #[] #[]:=fun n=>by rw[hev];rfl
     rw[<-hev]at f e7_ e8_ e11_;have hc:i=0\/i=1\/i=2\/i=3\/i=4\/i=5\/i=6\/i=7\/i=8\/i=9:=by omega
     rcases hc with rfl|rfl|rfl|rfl|rfl|rfl|rfl|rfl|rfl|rfl;all_goals obtain rfl:=Option.some.inj ho
     .refine Cj (w':=w') (v:=(.agg #[.slice ao 2 ac,.slice ro rn rc,.slice po 3 3,.slice fo fn fc])) ?_ (qD _ _) rfl;rw[<-hev];simp[execOp,e7_,m0,m1,m2,m3,go_sem]
     .refine Cj (w':=w') (v:=(.slice mo gq mc)) ?_ (qD _ _) rfl;rw[<-hev];simp[execOp,e8_,go_sem]
     .refine Cj (w':=w') (v:=(.int .i64 (k:Nat))) ?_ (qD _ _) rfl;rw[<-hev];simp[execOp,e11_,go_sem]
     .refine Cj (w':=w') (v:=(.int .i64 (k:Nat))) ?_ (qD _ _) rfl;rw[<-hev];simp[execOp,e11_,go_sem]
     .have g31:=(f 31 rfl (by decide)).trans (hq 1 31 rfl rfl);have g32:=(f 32 rfl (by decide)).trans (hq 2 32 rfl rfl);have g33:=(f 33 rfl (by decide)).trans (hq 3 33 rfl rfl);refine Cj (w':=w') (v:=(.slice mo k k)) ?_ (qD _ _) rfl;rw[<-hev];simp[execOp,g31,g32,g33,go_sem,hk0,hkc]
     .have g30:=(f 30 rfl (by decide)).trans (hq 0 30 rfl rfl);have g34:=(f 34 rfl (by decide)).trans (hq 4 34 rfl rfl);refine Su (f:=12) (args:=#[(.agg #[.slice ao 2 ac,.slice ro rn rc,.slice po 3 3,.slice fo fn fc]),.slice mo k k]) (by rw[<-hev];simp[execOp,g30,g34,evf,go_sem]) ((Ut HC.out (CQ hbW0 hb) hlnE hmvE (((HMs.out w' (CQ HBr.out.1 hb)).cut Hgq.out.symm hk))).mono fun e w3 ⟨h1,h2,h3⟩=>⟨_,h1,h2,rfl,h3.out⟩)
     .have g35:=(f 35 rfl (by decide)).trans (hq 5 35 rfl rfl).1;refine Cj (w':=w') (v:=(.tuple #[(ocV m l (gvs.take k)),.bool true])) ?_ (qD _ _) ⟨rfl,(hq 5 35 rfl rfl).2⟩;rw[<-hev];simp[execOp,g35,go_sem]
     .have g29:=(f 29 rfl (by decide)).trans (hq 6 29 rfl rfl).1;refine Cj (w':=w') (v:=(ocV m l (gvs.take k))) ?_ (qD _ _) rfl;rw[<-hev];simp[execOp,g29,go_sem]
     .have g29:=(f 29 rfl (by decide)).trans (hq 6 29 rfl rfl).1;refine Cj (w':=w') (v:=(.bool true)) ?_ (qD _ _) rfl;rw[<-hev];simp[execOp,g29,go_sem]
     .obtain rfl:=hcf rfl;refine Cj (w':=w'.alloc (.cells #[.bool false,.int .i64 0,.int .i64 0,.int .i64 0,.int .i64 0,.bool false,.bool false] 48)) (v:=.pointer (some ⟨w'.heap.size,0,none⟩)) ?_ (Dj (qD _ _) _) ⟨_,rfl,hsw,F5 _ _⟩;rw[<-hev];simp[execOp,go_sem]
    .intro o ho q w' b _ hb hq;have f:∀t,[30,31,32,33,34,35,29,36,37,12,13].contains t=true->t<101->(frm a0 [30,31,32,33,34,35,29,36,37,12,13] q).eval (.tmp t)=q t:=fun t h1 h2=>Fa h1 (by rw[hsz];exact h2);obtain rfl:=Option.some.inj ho;have hv9:q 36=(ocV m l (gvs.take k)):=hq 7 36 rfl rfl;obtain⟨b1,hv11,hbb,hbx⟩:Hx _ _ false _ _:=hq 9 12 rfl rfl;rw[if_neg (by decide)]at hbx;obtain⟨y0,y1,y2,y3,y4,y5,y6⟩:=Ci hbx;have rf0:=Ao hbx 0;have rf1:=Ao hbx 1;have rf2:=Ao hbx 2;have rf3:=Ao hbx 3;have rf4:=Ao hbx 4;have rf5:=Ao hbx 5;have rf6:=Ao hbx 6;have e9:=(f 36 rfl (by decide)).trans hv9;have e11:=(f 12 rfl (by decide)).trans hv11;refine MB (w':=(((((((w'.setCell ⟨b1,0,none⟩ (.bool (stO m l (gvs.take k)).up)).setCell ⟨b1,1,none⟩ (.int .i64 (fN m AU l (stO m l (gvs.take k)).n:Nat))).setCell ⟨b1,2,none⟩ (.int .i64 ((stO m l (gvs.take k)).n:Nat))).setCell ⟨b1,3,none⟩ (.int .i64 ((stO m l (gvs.take k)).s:Nat))).setCell ⟨b1,4,none⟩ (.int .i64 ((stO m l (gvs.take k)).ag:Nat))).setCell ⟨b1,5,none⟩ (.bool (dnS m AU l (stO m l (gvs.take k))))).setCell ⟨b1,6,none⟩ (.bool (dnS m AU l (stO m l (gvs.take k))&&decide (BW (BV m AU l (kOf m l))=11))))) rfl ?_ ⟨rfl,Od hb hbb,fun j t _ _ ht h=>Ny (tb:=12) rfl hv11 (E8 hbx _ _ _ _ _ _ _) j t ht h⟩;generalize(frm a0 [30,31,32,33,34,35,29,36,37,12,13] q).eval=ev at e9 e11⊢;unfold ocV at e9;simp[execOp,e9,e11,go_sem,y0,y1,y2,y3,y4,y5,y6,rf0,rf1,rf2,rf3,rf4,rf5,rf6]
    .intro q w' hb hq;have f:∀q t,[30,31,32,33,34,35,29,36,37,12,13].contains t=true->t<101->(frm a0 [30,31,32,33,34,35,29,36,37,12,13] q).eval (.tmp t)=q t:=fun q t h1 h2=>Fa h1 (by rw[hsz];exact h2);have hv10:q 37=.bool true:=hq 8 37 (by decide) rfl;obtain⟨b1,hv11,hbb,hbx⟩:Hx _ _ true _ _:=hq 9 12 (by decide) rfl;rw[if_pos rfl]at hbx;have hv7:=hq 5 35 (by decide) rfl;show wpOps qA _ _ [11] _ _;rw[wpOps_cons];refine MA rfl rfl ?_;have e10:=(f q 37 rfl (by decide)).trans hv10;refine Sv (w':=w') (v:=.bool true) ?_ ?_
     .generalize (frm a0 [30,31,32,33,34,35,29,36,37,12,13] q).eval=ev at e10⊢;simp[execOp,e10,go_sem]
     rw[RP 13 rfl rfl];show K' _ _;refine hK' _ _ ?_;rw[<-ha0];go_meet
     refine⟨b1,_,_,_,_,_,_,_,(show Dg q 13 (.bool true) 12=_ from(DS (by decide)).trans hv11),D8 q 13 _,⟨CQ hbB0 hb,hbx,⟨hv7.2,rfl,rfl,rfl,rfl,rfl,rfl,rfl⟩⟩⟩
   case rest=>
    obtain⟨Xo,b0,f,n,s,ag,d,h,rfl,rfl,HO⟩:=hcut;obtain⟨o0,o1,o2,o3,o4,o5,o6⟩:=HO.out.cells;have HF:Hid (Below w5.heap.size w5 wc):=HO.out.bel;have hcase:=WL HBr.out.2 HO.out.out (by rw[<-Hgq.out];exact hk) Hgk.out.2;have HM9:=HMs.out wc HO.out.bel;have hn1:n<=1000:=by have:=HO.out.out.facts;omega
    have i0:¬(ag:Int)<0:=by omega
    clear HO HBr;rcases hcase with⟨rfl,rfl,rfl,rfl,hA⟩|⟨j,rfl,hj,hx⟩
    .have HA:=(show Hid _ from hA);clear hA;go_wp2_with fail
     go_roundw
     case rel=>exact⟨0+1,0,n,by omega,by omega,rfl,rfl,by go_num,HF.out,HA.out⟩
     case measure=>simp[intOf]<;>omega
    .rw[Hgq.out]at HM9;obtain⟨b,off,rfl,hbl,z0,z1⟩:=HM9.atM hj;have hjq:j<gq:=by rw[Hgq.out];exact hj
     have i2:(0:Int)<(j:Int)+1:=by omega
     have i3:(j:Int)<(gq:Int):=by omega
     have hlen:gvs.length<=30:=by rw[<-Hgq.out];exact hg2
     have i4:IntKind.i64.wrap (j:Int)=(j:Int):=Nt (by omega) (by omega);clear HM9 z1;generalize(gvs.getD j (0,0)).1=x at *
     rcases hx with⟨hx,hag,hA⟩|⟨rfl,δ,rfl,hag,hA⟩
     .have HA:=(show Hid _ from hA);have i5:¬(lo:Int)<(ag:Int):=by omega
      have i5n:¬lo<ag:=by omega
      clear hA;go_wp2_with fail
      go_roundw
      case rel=>exact⟨j+1+1,lo,n,by omega,by omega,rfl,rfl,by go_num,HF.out,HA.out⟩
      case measure=>simp[intOf]<;>omega
     .obtain ⟨hA,hd⟩:=hA;have HA:=(show Hid _ from hA);have i5:¬(lo:Int)+(δ:Int)<(ag:Int):=by omega
      have i6:IntKind.i64.wrap (δ:Int)=(δ:Int):=Nt (by omega) (by omega);have i7:IntKind.i64.wrap ((lo:Int)+(δ:Int))=(lo:Int)+(δ:Int):=Nt (by omega) (by omega);clear hA;go_wp2_with fail
      go_roundw
      case rel=>exact⟨j+1+1,lo+δ,n,by omega,by omega,by go_num,rfl,by go_num,HF.out,HA.out⟩
      case measure=>simp[intOf]<;>omega
  .have hki:¬(k:Int)<=(gq:Int):=by omega
   have hb6:Below W2.heap.size W2 wr:=CQ HB5.out HBr.out.1;have HB6:=(show Hid _ from hb6);clear HBr;go_upto_region 16 with fail
   obtain⟨p0,p1,p2,p3⟩:=HT2.out wr HB6.out;have hex:=HC.out.ex wr HB6.out;go_upto_region 17 with(go_at_call 10;refine hex.mono ?_;rintro e w3 ⟨so,no,xo,K,bn,an,sc,nc,xc,rfl,hb3,hK,HK⟩)
   have hbG:Below W2.heap.size W2 (w3.alloc (.cells #[.slice so K sc,.int .i64 (bn:Nat),.slice no K nc,.slice xo K xc,.int .i64 (an:Nat)] 41)):=Dj (CQ HB6.out hb3) _;have hbG9:Below wr.heap.size wr (w3.alloc (.cells #[.slice so K sc,.int .i64 (bn:Nat),.slice no K nc,.slice xo K xc,.int .i64 (an:Nat)] 41)):=Dj hb3 _;have hbg:(w3.alloc (.cells #[.slice so K sc,.int .i64 (bn:Nat),.slice no K nc,.slice xo K xc,.int .i64 (an:Nat)] 41)).heap[w3.heap.size]? = some (grB (.slice so K sc) (.slice no K nc) (.slice xo K xc) (bn:Nat) (an:Nat)):=F5 w3 _;generalize w3.alloc (.cells #[.slice so K sc,.int .i64 (bn:Nat),.slice no K nc,.slice xo K xc,.int .i64 (an:Nat)] 41)=w7 at *
   generalize w3.heap.size=G at *;have hGl:G<w7.heap.size:=(qG.1 hbg).1
   have HG:Hid (∀W,Below w7.heap.size w7 W->W.cell? ⟨G,0,none⟩=some (.slice so K sc)/\W.cell? ⟨G,1,none⟩=some (.int .i64 (bn:Nat))):=fun W h=>by
    have h9:=ES ((h.block G hGl).trans hbg);exact⟨h9.1,h9.2.1⟩
   have HB7:Hid (Below W2.heap.size W2 w7):=hbG;have HB7r:Hid (Below wr.heap.size wr w7):=hbG9;clear hex p0 p1 p2 p3 hb3 hbG hbG9 hbg;obtain⟨p0,p1,p2,p3⟩:=HT2.out w7 HB7.out;have hso:=HC.out.so (w7.alloc (.cells #[.int .i64 1,.int .i64 2,.int .i64 3,.int .i64 0,.int .i64 4,.int .i64 0,.int .i64 1,.int .i64 2] 53)) (Dj HB7.out _) (some ⟨w7.heap.size,0,none⟩) 4 4 [(1,2),(3,0),(4,0),(1,2)] rfl (Be.lit (by decide) (by simp)) (WK (F5 _ _) rfl rfl (qB _));go_upto_region 18 with(go_at_call 12;refine hso.mono ?_;rintro e w8 ⟨b0z,fz,nz,sz,agz,dz,hz,rfl,hb8,HO8⟩)
   have HO9:Hid (OcAt W2 (w8.alloc (.cells #[.bool b0z,.int .i64 (fz:Nat),.int .i64 (nz:Nat),.int .i64 (sz:Nat),.int .i64 (agz:Nat),.bool dz,.bool hz] 48)) w8.heap.size m l [(1,2),(3,0),(4,0),(1,2)] b0z fz nz sz agz dz hz):=⟨Dj (CQ (Dj HB7.out _) hb8) _,F5 _ _,HO8.out⟩;have hbw9:Below w7.heap.size w7 (w8.alloc (.cells #[.bool b0z,.int .i64 (fz:Nat),.int .i64 (nz:Nat),.int .i64 (sz:Nat),.int .i64 (agz:Nat),.bool dz,.bool hz] 48)):=Dj (CQ (Dj (qD _ _) _) hb8) _;clear hso p0 p1 p2 p3 hb8 HO8;generalize w8.alloc (.cells #[.bool b0z,.int .i64 (fz:Nat),.int .i64 (nz:Nat),.int .i64 (sz:Nat),.int .i64 (agz:Nat),.bool dz,.bool hz] 48)=w9 at *;generalize w8.heap.size=Xw9 at *;obtain⟨e1,e2⟩:=WM HO9.out.out;rw[<-HK.out.1]at e2;obtain⟨o0,o1,o2,o3,o4,o5,o6⟩:=HO9.out.cells;obtain⟨g0,g1⟩:=HG.out w9 hbw9;subst e1
   have hmn:min (2:Int) (K:Int)=(agz:Int):=by omega
   clear e2;go_wp2_with fail
   go_ret;exact⟨rfl,CQ HW2.out HO9.out.bel⟩
