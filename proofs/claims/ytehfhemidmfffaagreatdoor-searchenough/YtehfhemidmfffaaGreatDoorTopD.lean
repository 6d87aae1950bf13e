/- Joined texts. -/
import Derived.Test.YtehfhemidmfffaaGreatDoorTopC
import Derived.Test.YtehfhemidmfffaaGreatDoorSccB
import Derived.ArgAppend
open Go renaming World→E,Value→A,Calls→ZX
open Go.Ending renaming returned→C
open Go.IntKind renaming i64→Z
open Go.Obj renaming cells→N
open Go.RowKit renaming Below→S,Hid→M
open Go.Value renaming slice→Y,bool→I,agg→r,tuple→ZZ,pointer→ZY,int→ZW
open _root_.Bool renaming false→O
open _root_.Option renaming none→V,some→U
namespace Go.Proofs.YtehfhemidmfffaaGreatDoor
open _root_.Array renaming getElem?_eq_some_iff→qG,getElem?_modify→qR
open Go.RowKit.Below renaming refl→qD
open _root_.Int renaming toNat_natCast→jQ
open _root_.List renaming forall_mem_cons→yK,getD_eq_getElem?_getD→qC,getElem?_eq_getElem→qH,getElem_mem→qT,length_append→qF,length_cons→qV,length_nil→vC,not_mem_nil→jU,take_of_length_le→qQ,take_succ_eq_append_getElem→q7
open _root_.Nat renaming le_of_lt→qS,le_refl→qB,le_succ→vD,le_trans→qI,lt_of_lt_of_le→qE,zero_le→qJ
open _root_.Option renaming getD_some→v7
open Go.Proofs.Tryz renaming prog→qA
open Go.ChangeShapes Go.WideShapes Go.ChangeAt Go.RowKit Go.Deep Go.Maps
open Terms Tm
set_option maxHeartbeats 6400000
set_option maxRecDepth 20000
theorem Vt{m:Mo}{ps:List (List (Int×Int))}{l:List (Int×Int)}{K fb:Nat}{w0 w:E}{st:Sr}{g0 g2 g3:A}{g1 g4:Int}(many:Nat)(hm:many<=2147483647)(hag:st.ag<=1000000000000)(hK:SmallK m ps l K)(h:SxV m ps l K w0 w g0 g1 g2 g3 g4 fb st)(hup:st.up=true) :
  ZX qA 65 #[ZY (U ⟨w0.heap.size,0,V⟩),.int Z (many:Nat)] w fun e w'=>e=C (.int Z 0)/\SxV m ps l K w0 w' g0 g1 g2 g3 g4 fb (wkS K st many):=by
 obtain⟨dso,lo,ro,dc,lc,rc,lol,rsl,hI⟩:=h.lies;obtain⟨hl1,hl2⟩:=hI.lost.two;have HAl:=KP lol rsl lo ro lc rc w hI.may.szU.1 hl1 hl2;rw[Hw hI.may,Fv hI.may]at HAl;have HK:M (SmallK m ps l K):=hK;have HSt:M (SrOk K st):=h.ok;have HFn:M (∀wr,S w0.heap.size w0 wr->DL wr fb m ps l K):=fun wr hb=>h.fnd.below hb;have HKs:M ((up (AQ lol rsl)).Pairwise (· <= ·)/\(up (AQ lol rsl)).length<=100000/\∀p,st.n<=p->p<K->(kyX m ps l K p∈up (AQ lol rsl)↔p<st.mx)):=⟨FG _,hI.may.szU.2,fun p h1 h2=>Rg hK h.ok hI.keys hI.back h1 h2⟩;have HI0:M (SxI m ps l K w0 w st g0 g1 g2 g3 g4 fb dso lo ro dc lc rc lol rsl):=hI;have HV0:M (SxV m ps l K w0 w g0 g1 g2 g3 g4 fb st):=h;obtain⟨_,_,_,_,_,_,_,c11,c12,_⟩:=BO hI.box;have hwl:=hI.lt;clear hI h hl1 hl2;generalize hkse:up (AQ lol rsl)=ks at *;unfold FJ at HAl
 go_enter Tryz.func65,Tryz.ntmps65;go_upto_region 2 with(go_at_call 97;refine HAl.mono ?_;rintro e wA ⟨ko,kc,rfl,hbA,HKl⟩)
 have hwA:=hbA.size;have HJ0:M (WkJ m ps l K w0 w wA wA g0 g1 g2 g3 g4 fb (wkS K st 0) lol rsl (.slice ko ks.length kc) ks):=by
  rw[Vq HSt.out];exact⟨HV0.out.bel.trans (hbA.mono HV0.out.bel.size),qB _,⟨HKl.out.1,fun b off n c e hne=>⟨HKl.out.2 b off n c e hne,by
   obtain⟨ao,cap,e1,_,h3⟩:=HKl.out.1;obtain⟨b',off',e2,hlt,_⟩:=h3 hne;injection e with e3 _ _;injection e1 with e4 _ _;rw[<-e4,e3]at e2;injection e2 with e2;injection e2 with e2 _;omega⟩⟩,dso,lo,ro,dc,lc,rc,HI0.out.below hbA,fun g e=>.inl (HI0.out.data.lt g e).2⟩
 clear HKl;go_wp2_with fail
 go_loopw [1] (fun mv wr=>∃j:Nat,j<=many/\mv=.int Z ((many-j:Nat):Int)/\M (WkJ m ps l K w0 w wA wr g0 g1 g2 g3 g4 fb (wkS K st j) lol rsl (.slice ko ks.length kc) ks)) (fun mv _=>(intOf mv).toNat)
 case atStart=>exact⟨0,qJ _,rfl,HJ0⟩
 case round=>
  obtain⟨j,hj,rfl,HJ⟩:=hrel;obtain⟨hb0r,hAr,HKr,dso,lo,ro,dc,lc,rc,hI,hsep⟩:=HJ.out;have HIr:=(show M _ from hI);obtain⟨_,b5,b6,b7,b8,b9,b10,b11,b12,b13⟩:=BO hI.box;have hend:∀w',S wr.heap.size wr w'->(j=many\/¬(wkS K st j).n<K)->SxV m ps l K w0 w' g0 g1 g2 g3 g4 fb (wkS K st many):=fun w' hb hor=>by
   have e:wkS K st j=wkS K st many:=by
    rcases hor with e|h
    .rw[e]
    .exact Vo hj h
   rw[<-e];exact⟨HSt.out.wk j,fun e2=>absurd (hup.symm.trans e2) (by simp),hb0r.trans (hb.mono hb0r.size),HV0.out.fnd,dso,lo,ro,dc,lc,rc,lol,rsl,hI.below hb⟩
  have HEnd:=(show M _ from hend);have hnK:(wkS K st j).n<=K:=by have:=(HSt.out.wk j).b;have:=(HSt.out.wk j).c;omega
  have HnK:=(show M _ from hnK);clear hend hI HJ;by_cases hjm:j<many
  .have hmj:(0:Int)<((many-j:Nat):Int):=by omega
   by_cases hnn:(wkS K st j).n<K
   .have hlf:((wkS K st j).n:Int)<(fN m ps l (wkS K st j).n:Int):=by have:=FZ HK.out.done hnn;omega
    obtain⟨hn1,hn2,hn3,hn4,hn5,hn6⟩:=Vp HSt.out hnn;have HN1:M ((wkS K st j).n=st.n+j/\(wkS K st (j+1)).n=st.n+j+1/\(wkS K st (j+1)).mx=max (wkS K st j).mx (st.n+j+1)/\(wkS K st (j+1)).ag=(wkS K st j).ag+(if st.n+j<st.mx then 1 else 0)/\(wkS K st (j+1)).s=(wkS K st j).s/\(wkS K st (j+1)).up=(wkS K st j).up):=⟨hn1,hn2,hn3,hn4,hn5,hn6⟩;clear hn1 hn2 hn3 hn4 hn5 hn6;obtain⟨d0,d1,ro9,rc9,d2,hrec⟩:=(HFn.out wr hb0r).2 _ hnn;obtain⟨rb,roff,rfl,hrbl,hrat⟩:∃rb roff,ro9=U ⟨rb,roff,V⟩/\rb<wr.heap.size/\CI wr rb roff (AD (rcX m ps l (wkS K st j).n)):=by
     obtain⟨ao,cap,e1,_,h3⟩:=id hrec;injection e1 with e1 _ _;subst e1;exact h3 (by intro h;have:=Cx (rcX m ps l (wkS K st j).n);rw[h]at this;simp at this)
    have HRec:=(show M _ from hrec);have HDl:M ((byX m ps l (wkS K st j).n).length<=16000/\(AD (rcX m ps l (wkS K st j).n)).length<=16000/\0<(AD (rcX m ps l (wkS K st j).n)).length):=by
     have h1:=HK.out.bytes (n:=(wkS K st j).n) (qS hnn);have h2:=Cx (rcX m ps l (wkS K st j).n);have h3:=Fs (m:=m) (ps:=ps) (l:=l) (wkS K st j).n;have h4:=(DP HK.out.done (j:=(wkS K st j).n+1) hnn).2;have h5:=HK.out.few;show _/\_/\_;omega
    have HRt:M (∀W,S wr.heap.size wr W->∀i u,(AF (AD (rcX m ps l (wkS K st j).n)))[i]? = U u->W.cell? ((⟨rb,roff,V⟩:Addr).add i)=U u):=fun W hb=>(hrat.below hb hrbl).cells;have HJr:M (SxJ w0 wr (seB g0 g1 g2 g3 g4 (Y (U ⟨fb,0,V⟩) K K) st.up (fN m ps l (wkS K st j).n) (wkS K st j).n (.slice dso (byX m ps l (wkS K st j).n).length dc) (byX m ps l (wkS K st j).s).length (.slice lo lol.length lc) (.slice ro rsl.length rc) (wkS K st j).ag) (.slice dso (byX m ps l (wkS K st j).n).length dc) (byX m ps l (wkS K st j).n).length (byX m ps l (wkS K st j).n) (.slice lo lol.length lc) (.slice ro rsl.length rc) lol rsl):=⟨HIr.out.box,HIr.out.data,HIr.out.lost⟩;have HCl:M (∀W,S wr.heap.size wr W->(W.cell? ⟨w0.heap.size,5,V⟩=U (Y (U ⟨fb,0,V⟩) K K)/\W.cell? ⟨w0.heap.size,8,V⟩=U (.int Z ((wkS K st j).n:Nat)))/\W.cell? ⟨fb,(wkS K st j).n*3,V⟩=U (.int Z (AO ((xpP m ps l K).getD (wkS K st j).n (0,0))))/\W.cell? ⟨fb,(wkS K st j).n*3+1,V⟩=U (.int Z ((fN m ps l ((wkS K st j).n+1)-fN m ps l (wkS K st j).n:Nat):Int))/\W.cell? ⟨fb,(wkS K st j).n*3+2,V⟩=U (Y (U ⟨rb,roff,V⟩) (AD (rcX m ps l (wkS K st j).n)).length rc9)):=fun W hb=>by
     have hc:∀(p:Addr) (x:A),wr.cell? p=U x->W.cell? p=U x:=fun p x h=>(hb.cell (World.block_lt_of_cell? wr p h)).trans h;exact⟨⟨hc _ _ b5,hc _ _ b8⟩,hc _ _ d0,hc _ _ d1,hc _ _ d2⟩
    have HBy:M (byX m ps l ((wkS K st j).n+1)=byX m ps l (wkS K st j).n++AD (rcX m ps l (wkS K st j).n)):=KY _;have HKy:M (AO ((xpP m ps l K).getD (wkS K st j).n (0,0))=kyX m ps l K (wkS K st j).n):=rfl;have hfoK:fN m ps l (wkS K st j).n<=K/\fN m ps l ((wkS K st j).n+1)<=K/\fN m ps l (wkS K st j).n<=fN m ps l ((wkS K st j).n+1):=⟨(DP HK.out.done (qS hnn)).2,(DP HK.out.done hnn).2,Ev (Nat.le_add_right _ 1)⟩;have hK1:=HK.out.few;have HFo:=(show M _ from hfoK);clear hrec hrat;generalize AO ((xpP m ps l K).getD (wkS K st j).n (0,0))=ky at *;generalize hfre:fN m ps l ((wkS K st j).n+1)-fN m ps l (wkS K st j).n=fr at *;have HFr:M (fN m ps l ((wkS K st j).n+1)=fN m ps l (wkS K st j).n+fr):=by show _=_;omega
    clear hfre hfoK;generalize hrl:AD (rcX m ps l (wkS K st j).n)=rec at *;generalize hbl:byX m ps l (wkS K st j).n=bs at *;have HBl:M (byX m ps l (wkS K st j).n=bs):=hbl;clear hrl hbl;generalize hdn:bs.length=dn at *;have HDn:M (bs.length=dn):=hdn;generalize hrn:rec.length=rn at *;have HRn:M (rec.length=rn):=hrn;clear hdn hrn
    have hagb:(wkS K st j).ag<=1000000001000:=by
     have h1:(wkS K st j).ag=st.ag+(min (min (st.n+j) K) st.mx-st.n):=rfl;have:=HK.out.few;omega
    generalize hag:(wkS K st j).ag=ag at *;generalize hne:(wkS K st j).n=n at *;have HNe:M ((wkS K st j).n=n):=hne;clear hag hne;generalize hfo:fN m ps l n=fo at *;have HFoe:M (fN m ps l n=fo):=hfo;clear hfo;generalize hmje:many-j=mj at *;have HMj:M (many-j=mj):=hmje;have hmjb:mj<=2147483647:=by omega
    clear hmje;obtain⟨hdl,hrl,hrp⟩:=HDl.out;clear HFn HIr;go_wp2_with fail
    have hd1:decide (0<mj)=true:=decide_eq_true (by omega);have hd2:decide (n<fo)=true:=decide_eq_true (by omega);go_quiet (fail)
    go_upto_region 6 with fail
    obtain⟨wq,hwq⟩:∃wq,wq=wr.drewN nq:=⟨_,rfl⟩;have hbq:S wr.heap.size wr wq:=by rw[hwq];exact⟨rfl,rfl,rfl,qB _,fun _ _=>rfl⟩
    rw[<-hwq];clear hwq;go_cut [7] (fun u wx=>∃B,u=ZY (U ⟨B,0,V⟩)/\M (S wr.heap.size wr wx/\wx.heap[B]? = U (N #[ZW Z ky,.int Z (fr:Nat),Y (U ⟨rb,roff,V⟩) rn rc9] 205 (0,0))/\wr.heap.size<=B))
    case first=>
     go_region_held3 (fun W=>(W.cell? ⟨w0.heap.size,5,V⟩=U (Y (U ⟨fb,0,V⟩) K K)/\W.cell? ⟨w0.heap.size,8,V⟩=U (.int Z (n:Nat)))/\W.cell? ⟨fb,n*3,V⟩=U (.int Z ky)/\W.cell? ⟨fb,n*3+1,V⟩=U (.int Z (fr:Nat))/\W.cell? ⟨fb,n*3+2,V⟩=U (Y (U ⟨rb,roff,V⟩) rn rc9))
      (first|exact HCl.out _ (hbq.drew)|exact HCl.out _ hbq|exact HCl.out _ (hbq.alloc hbq.size _)|exact HCl.out _ (hbq.drew.alloc hbq.size _)|exact HCl.out _ ((hbq.drew.alloc hbq.size _).setCell (by simp;have:=hbq.size;omega) _))
      (fail)
     all_goals go_wp2_with fail
     all_goals go_meet
     all_goals exact⟨_,rfl,(hbq.alloc hbq.size _).drew,(MapKept.heap_alloc wq _).1,hbq.size⟩
    case rest=>
     obtain⟨B,rfl,HF⟩:=hcut;obtain⟨w2,rfl⟩:∃w4,w4=wc:=⟨_,rfl⟩;have hb2:=HF.out.1;have HJ2:=(show M _ from HJr.out.below hb2);obtain⟨_,x5,x6,x7,x8,x9,x10,x11,x12,x13⟩:=BO HJ2.out.1;have hBc:=HF.out.2.1;have f0:w2.cell? ⟨B,0,V⟩=U (.int Z ky):=by simp[World.cell?,hBc]
     have f1:w2.cell? ⟨B,1,V⟩=U (.int Z (fr:Nat)):=by simp[World.cell?,hBc]
     have f2:w2.cell? ⟨B,2,V⟩=U (Y (U ⟨rb,roff,V⟩) rn rc9):=by simp[World.cell?,hBc]
     have hBl:B<w2.heap.size:=(qG.1 hBc).1;clear hBc;have hbig:¬(1048576:Int)<(dn:Int)+(rn:Int):=by omega
     go_wp2_with fail
     go_quiet (fail)
     go_upto_region 8 with fail
     obtain⟨w3,hw3⟩:∃w3,w3=w2.drewN nq:=⟨_,rfl⟩;have hb3:S w2.heap.size w2 w3:=by rw[hw3];exact⟨rfl,rfl,rfl,qB _,fun _ _=>rfl⟩
     rw[<-hw3];clear hw3;have HW:M (∀W,S w2.heap.size w2 W->(W.cell? ⟨w0.heap.size,9,V⟩=U (Y dso dn dc)/\W.cell? ⟨B,2,V⟩=U (Y (U ⟨rb,roff,V⟩) rn rc9))/\W.ownsRow (w0.heap.size+1) 5 1 (Y dso dn dc) dn (AF bs)/\(∀i u,(AF rec)[i]? = U u->W.cell? ((⟨rb,roff,V⟩:Addr).add i)=U u)/\w0.heap.size+1<=W.heap.size):=fun W h=>by
      have h2:=HJ2.out.below h;obtain⟨_,_,_,_,_,y9,_⟩:=BO h2.1;exact⟨⟨y9,(h.cell (World.block_lt_of_cell? w2 _ f2)).trans f2⟩,h2.data,HRt.out W (hb2.trans (h.mono hb2.size)),(qG.1 h2.1).1⟩
     have HGr:M (∀W w4 (g cap:Nat),S w2.heap.size w2 W->W.grownBy w4 (Value.slice dso dn dc).ownBlock->w4.ownsRow (w0.heap.size+1) 5 1 (Y (U ⟨g,0,V⟩) (dn+rn) cap) (dn+rn) (AF bs++AF rec)->((Value.slice dso dn dc).ownBlock=U g\/g=W.heap.size)->((∃v,w4.cell? ⟨w0.heap.size,9,V⟩=U v)/\w4.frozen? ⟨w0.heap.size,9,V⟩=O)/\SxJ w0 (w4.setCell ⟨w0.heap.size,9,V⟩ (Y (U ⟨g,0,V⟩) (dn+rn) cap)) (seB g0 g1 g2 g3 g4 (Y (U ⟨fb,0,V⟩) K K) st.up fo n (Y (U ⟨g,0,V⟩) (dn+rn) cap) (byX m ps l (wkS K st j).s).length (.slice lo lol.length lc) (.slice ro rsl.length rc) ag) (Y (U ⟨g,0,V⟩) (dn+rn) cap) (dn+rn) (bs++rec) (.slice lo lol.length lc) (.slice ro rsl.length rc) lol rsl/\S w0.heap.size w0 (w4.setCell ⟨w0.heap.size,9,V⟩ (Y (U ⟨g,0,V⟩) (dn+rn) cap))/\wA.heap.size<=(w4.setCell ⟨w0.heap.size,9,V⟩ (Y (U ⟨g,0,V⟩) (dn+rn) cap)).heap.size/\((w4.setCell ⟨w0.heap.size,9,V⟩ (Y (U ⟨g,0,V⟩) (dn+rn) cap)).cell? ⟨B,0,V⟩=U (.int Z ky)/\(w4.setCell ⟨w0.heap.size,9,V⟩ (Y (U ⟨g,0,V⟩) (dn+rn) cap)).cell? ⟨B,1,V⟩=U (.int Z (fr:Nat))/\B≠w0.heap.size)/\Cb (w4.setCell ⟨w0.heap.size,9,V⟩ (Y (U ⟨g,0,V⟩) (dn+rn) cap)) (fun b=>w.heap.size<=b/\b<wA.heap.size) (.slice ko ks.length kc) ks/\(g<w.heap.size\/wA.heap.size<=g)):=fun W w4 g cap hb hg ho hat=>by
      have h2:=HJ2.out.below hb;have hbW:=hb2.trans (hb.mono hb2.size);have hoW:=HJr.out.data;have hX:w0.heap.size<wr.heap.size:=(qG.1 HJr.out.1).1;have hold:∀b,(Value.slice dso dn dc).ownBlock=U b->b<wr.heap.size/\w0.heap.size+1<=b:=fun b e=>⟨(hoW.lt b e).2,(hoW.lt b e).1⟩;rw[show AF bs++AF rec=AF (bs++rec)from(GC bs rec).symm]at ho;have h4:=h2.grow hg ho hat;obtain⟨_,_,_,_,_,y9,_⟩:=BO h4.1;have h5:=h4.put (M3 h4.1 (Y (U ⟨g,0,V⟩) (dn+rn) cap));have hBX:B≠w0.heap.size:=by have:=HF.out.2.2;omega
      have hBW:∀i v,w2.cell? ⟨B,i,V⟩=U v->(w4.setCell ⟨w0.heap.size,9,V⟩ (Y (U ⟨g,0,V⟩) (dn+rn) cap)).cell? ⟨B,i,V⟩=U v:=fun i v h=>by
       have h6:W.cell? ⟨B,i,V⟩=U v:=(hb.cell (World.block_lt_of_cell? w2 _ h)).trans h;have h7:w4.heap[B]? = W.heap[B]?:=hg.block B (World.block_lt_of_cell? W _ h6) fun e=>by have:=(hold B e.symm).1;have:=HF.out.2.2;omega
       rw[World.cell?_of_block (a:=⟨B,i,V⟩) ((RowKit.Below.heap_setCell _ _ _ _ (by show B≠w0.heap.size;exact hBX)).trans h7)];exact h6
      refine⟨⟨⟨_,y9⟩,CE h4.1 9⟩,h5,?_,by simpa using qI (qI hAr hbW.size) hg.size,⟨hBW 0 _ f0,hBW 1 _ f1,hBX⟩,HKr.blocks (by simpa using qI hbW.size hg.size) (fun b hlt hp=>⟨?_,hp⟩),?_⟩
      .exact (Below.grown (hb0r.trans (hbW.mono hb0r.size)) hg (qI hb0r.size hbW.size) (fun z hz=>by have:=(hold z hz).2;omega)).setCell (p:=⟨w0.heap.size,9,V⟩) (qB _) _
      .refine (RowKit.Below.heap_setCell _ _ _ _ (by show b≠w0.heap.size;omega)).trans ((hg.block b (qE hlt hbW.size) fun e=>?_).trans (hbW.block b hlt));have:=hsep b e.symm;omega
      .rcases hat with e|e
       .exact hsep g e
       .right;have:=hbW.size;omega
     obtain⟨i0,hi,hz0,hz1,hz2⟩:=info_parts Ff;have HLm:M ((AF rec).length=rn*1):=by show _=_;rw[EJ,HRn.out];omega
     have h63:dn+rn<=maxLen:=by unfold maxLen;omega
     clear x5 x6 x7 x8 x9 x10 x11 x12 x13 f0 f1 f2;go_cut [] (fun wx=>∃g cap,M (SxJ w0 wx (seB g0 g1 g2 g3 g4 (Y (U ⟨fb,0,V⟩) K K) st.up fo n (Y (U ⟨g,0,V⟩) (dn+rn) cap) (byX m ps l (wkS K st j).s).length (.slice lo lol.length lc) (.slice ro rsl.length rc) ag) (Y (U ⟨g,0,V⟩) (dn+rn) cap) (dn+rn) (bs++rec) (.slice lo lol.length lc) (.slice ro rsl.length rc) lol rsl/\S w0.heap.size w0 wx/\wA.heap.size<=wx.heap.size/\(wx.cell? ⟨B,0,V⟩=U (.int Z ky)/\wx.cell? ⟨B,1,V⟩=U (.int Z (fr:Nat))/\B≠w0.heap.size)/\Cb wx (fun b=>w.heap.size<=b/\b<wA.heap.size) (.slice ko ks.length kc) ks/\(g<w.heap.size\/wA.heap.size<=g)))
     case first=>
      obtain⟨⟨z9,z2⟩,_⟩:=HW.out _ hb3;obtain⟨⟨z9',z2'⟩,_⟩:=HW.out _ hb3.drew;go_region_law (first
       |(refine step_append_lies _ (by rfl) (.tmp 60) (.tmp 62) 157 (by rfl) (w0.heap.size+1) 5 i0 _ 1 1 Tryz.underlying157 hi hz0 hz1 hz2 (by rfl) (by decide) (Y dso dn dc) dn (AF bs) (by rfl) (HW.out _ (by first|exact hb3.drew|exact hb3)).2.1 ⟨rb,roff,V⟩ rn rc9 (AF rec) (by rfl) HLm.out (HW.out _ (by first|exact hb3.drew|exact hb3)).2.2.1 (IC rec) hrp h63 (by omega) (HW.out _ (by first|exact hb3.drew|exact hb3)).2.2.2 _ rfl ?_;intro gg gcap w4 ho4 hg4 hat4 hlt4;obtain⟨⟨⟨v9,y9⟩,yf⟩,hgr⟩:=HGr.out _ w4 gg gcap (by first|exact hb3.drew|exact hb3) hg4 ho4 hat4;have HGG:=(show M _ from hgr)))
      all_goals go_wp2_with fail
      all_goals go_meet
      all_goals exact⟨gg,gcap,HGG.out⟩
     case rest=>
      obtain⟨gg,gcap,HP⟩:=hcut;obtain⟨w4,rfl⟩:∃w4,w4=wc:=⟨_,rfl⟩;obtain⟨hj4,hb04,hA4,⟨f0,f1,hBX⟩,hks4,hgg⟩:=id HP.out;obtain⟨_,_,_,x7,x8,_,_,_,_,x13⟩:=BO hj4.box;have xf:=CE hj4.box;have xf7:=xf 7;have xf8:=xf 8;go_upto_region 10 with fail
      obtain⟨w5,hw5⟩:∃w5,w5=w4.setCell ⟨w0.heap.size,8,V⟩ (.int Z ((n:Int)+1)):=⟨_,rfl⟩;rw[<-hw5];have hj5:SxJ w0 w5 (seB g0 g1 g2 g3 g4 (Y (U ⟨fb,0,V⟩) K K) st.up fo (n+1) (Y (U ⟨gg,0,V⟩) (dn+rn) gcap) (byX m ps l (wkS K st j).s).length (.slice lo lol.length lc) (.slice ro rsl.length rc) ag) (Y (U ⟨gg,0,V⟩) (dn+rn) gcap) (dn+rn) (bs++rec) (.slice lo lol.length lc) (.slice ro rsl.length rc) lol rsl:=by
       rw[hw5];exact hj4.put (M4 hj4.box (n+1))
      have hcX:∀i v,w4.cell? ⟨B,i,V⟩=U v->w5.cell? ⟨B,i,V⟩=U v:=fun i v h=>by
       rw[hw5,World.cell?_of_block (a:=⟨B,i,V⟩) (RowKit.Below.heap_setCell _ _ _ _ (by show B≠w0.heap.size;exact hBX))];exact h
      have f05:=hcX 0 _ f0;have f15:=hcX 1 _ f1;have hb05:S w0.heap.size w0 w5:=by rw[hw5];exact hb04.setCell (p:=⟨w0.heap.size,8,V⟩) (qB _) _
      have hA5:wA.heap.size<=w5.heap.size:=by rw[hw5];simpa using hA4
      have hk5:Cb w5 (fun b=>w.heap.size<=b/\b<wA.heap.size) (.slice ko ks.length kc) ks:=by
       rw[hw5];exact hks4.blocks (by simp) fun b hlt hp=>⟨RowKit.Below.heap_setCell _ _ _ _ (by show b≠w0.heap.size;omega),hp⟩
      clear hw5 hcX f0 f1 x7 x8 x13 xf xf7 xf8 hj4 hb04 hA4 hks4;obtain⟨_,_,_,x7,x8,_,_,_,_,x13⟩:=BO hj5.box;have xf7:=CE hj5.box 7;have HP5:M ((SxJ w0 w5 (seB g0 g1 g2 g3 g4 (Y (U ⟨fb,0,V⟩) K K) st.up fo (n+1) (Y (U ⟨gg,0,V⟩) (dn+rn) gcap) (byX m ps l (wkS K st j).s).length (.slice lo lol.length lc) (.slice ro rsl.length rc) ag) (Y (U ⟨gg,0,V⟩) (dn+rn) gcap) (dn+rn) (bs++rec) (.slice lo lol.length lc) (.slice ro rsl.length rc) lol rsl)/\S w0.heap.size w0 w5/\wA.heap.size<=w5.heap.size/\(w5.cell? ⟨B,0,V⟩=U (.int Z ky))/\Cb w5 (fun b=>w.heap.size<=b/\b<wA.heap.size) (.slice ko ks.length kc) ks/\(gg<w.heap.size\/wA.heap.size<=gg)):=⟨hj5,hb05,hA5,f05,hk5,hgg⟩;clear hj5 hb05 hA5 hk5 hgg;have hsum:((fo:Int)+(fr:Int))=((fo+fr:Nat):Int):=by omega
      go_cut [] (fun wx=>∃wy,wx=wy.setCell ⟨w0.heap.size,7,V⟩ (.int Z ((fo:Int)+(fr:Int)))/\S w5.heap.size w5 wy)
      case first=>
       have hfb:=HFo.out;have hfr1:fr<=1000:=by have:=HFr.out;omega
       clear hsum;go_region_law (fail)
       all_goals go_wp2_with fail
       all_goals go_meet
       all_goals exact⟨w5.drew,by rw[IntWalk.i64_left,IntWalk.wrap64_in _ (by omega)];rfl,(qD _ _).drew⟩
      case rest=>
       obtain⟨wy,rfl,hby⟩:=hcut;obtain⟨w6,hw6⟩:∃w6,w6=wy.setCell ⟨w0.heap.size,7,V⟩ (.int Z ((fo:Int)+(fr:Int))):=⟨_,rfl⟩;rw[<-hw6];obtain⟨hj5,hb05,hA5,f05,hk5,hgg⟩:=HP5.out;have hjy:=hj5.below hby
       have HP6:M (SxJ w0 w6 (seB g0 g1 g2 g3 g4 (Y (U ⟨fb,0,V⟩) K K) st.up (fo+fr) (n+1) (Y (U ⟨gg,0,V⟩) (dn+rn) gcap) (byX m ps l (wkS K st j).s).length (.slice lo lol.length lc) (.slice ro rsl.length rc) ag) (Y (U ⟨gg,0,V⟩) (dn+rn) gcap) (dn+rn) (bs++rec) (.slice lo lol.length lc) (.slice ro rsl.length rc) lol rsl/\S w0.heap.size w0 w6/\wA.heap.size<=w6.heap.size/\w6.cell? ⟨B,0,V⟩=U (.int Z ky)/\Cb w6 (fun b=>w.heap.size<=b/\b<wA.heap.size) (.slice ko ks.length kc) ks):=by
        rw[hw6,hsum];refine⟨hjy.put (JX hjy.box (fo+fr)),(hb05.trans (hby.mono hb05.size)).setCell (p:=⟨w0.heap.size,7,V⟩) (qB _) _,by simpa using qI hA5 hby.size,?_,(hk5.blocks hby.size fun b hlt hp=>⟨hby.block b hlt,hp⟩).blocks (by simp) fun b hlt hp=>⟨RowKit.Below.heap_setCell _ _ _ _ (by show b≠w0.heap.size;omega),hp⟩⟩;rw[World.cell?_of_block (a:=⟨B,0,V⟩) (RowKit.Below.heap_setCell _ _ _ _ (by show B≠w0.heap.size;exact hBX))];exact(hby.cell (World.block_lt_of_cell? w5 _ f05)).trans f05
       have hin:=LO ky ko kc ks w6 HKs.out.2.1 HKs.out.1 HP6.out.2.2.2.2.1;have f06:=HP6.out.2.2.2.1;have HFin:M (∀(W:E) (ag':Nat),SxJ w0 W (seB g0 g1 g2 g3 g4 (Y (U ⟨fb,0,V⟩) K K) st.up (fo+fr) (n+1) (Y (U ⟨gg,0,V⟩) (dn+rn) gcap) (byX m ps l (wkS K st j).s).length (.slice lo lol.length lc) (.slice ro rsl.length rc) ag') (Y (U ⟨gg,0,V⟩) (dn+rn) gcap) (dn+rn) (bs++rec) (.slice lo lol.length lc) (.slice ro rsl.length rc) lol rsl->S w0.heap.size w0 W->wA.heap.size<=W.heap.size->Cb W (fun b=>w.heap.size<=b/\b<wA.heap.size) (.slice ko ks.length kc) ks->ag'=ag+(if n<st.mx then 1 else 0)->WkJ m ps l K w0 w wA W g0 g1 g2 g3 g4 fb (wkS K st (j+1)) lol rsl (.slice ko ks.length kc) ks):=fun W ag' hj hb hA hk hag=>by
        obtain⟨e1,e2,e3,e4,e5,e6⟩:=HN1.out;rw[<-e1]at e2 e3 e4;have hlen:(byX m ps l (n+1)).length=dn+rn:=by rw[HBy.out,qF,HDn.out,HRn.out]
        refine⟨hb,hA,hk,U ⟨gg,0,V⟩,lo,ro,gcap,lc,rc,⟨?_,?_,?_,HI0.out.may,fun x hx=>?_,fun p hp1 hp2=>?_⟩,?_⟩
        .rw[hj.box,e2,hlen,HFr.out,e5,e4,<-hag];rfl
        .rw[e2,hlen,HBy.out];exact hj.data
        .rw[e2,hlen];exact hj.lost
        .obtain ⟨p,hp,hx2⟩:=HI0.out.keys x hx;refine⟨p,?_,hx2⟩;rw[e3];have:st.mx<=(wkS K st j).mx:=Nat.le_max_left _ _;omega
        .rw[e2]at hp1;rw[e3]at hp2;have h9:(wkS K st j).mx=max st.mx (min (st.n+j) K):=rfl;exact HI0.out.back p (by omega) (by omega)
        .rw[e2,hlen];intro g e;injection e with e;subst e;exact hgg
       have hiff:=HKs.out.2.2 n (by have:=HN1.out.1;omega) hnn;rw[<-HKy.out]at hiff;obtain⟨_,_,_,_,x8,_,_,_,_,x13⟩:=BO HP6.out.1.box;have xf13:=CE HP6.out.1.box 13;clear hw6 hjy hj5 hb05 hA5 hk5 f05 hby
       by_cases hmem:ky∈ks
       .rw[decide_eq_true hmem]at hin;have hlt:=hiff.1 hmem;go_wp2_with (go_at_call 98;refine hin.mono ?_;rintro e w7 ⟨rfl,q,rfl⟩)
        have hdr:S w6.heap.size w6 (w6.drewN q):=⟨rfl,rfl,rfl,qB _,fun _ _=>rfl⟩;obtain⟨p1,p2,p3,_,p5⟩:=HP6.out;rw[show(ag:Int)+1=((ag+1:Nat):Int) by omega];have hj7:=(p1.below hdr).put (UF (p1.below hdr).box (ag+1));have HK7:=(show M _ from HFin.out _ (ag+1) hj7 ((p2.trans (hdr.mono p2.size)).setCell (p:=⟨w0.heap.size,13,V⟩) (qB _) _) (by simpa using p3) ((p5.blocks hdr.size fun b hlt hp=>⟨hdr.block b hlt,hp⟩).blocks (by simp) fun b hlt hp=>⟨RowKit.Below.heap_setCell _ _ _ _ (by show b≠w0.heap.size;omega),hp⟩) (by rw[if_pos hlt]));go_roundw
        case rel=>exact⟨j+1,by omega,by have:=HMj.out;congr 1;omega,HK7⟩
        case measure=>
         simp[intOf];omega
       .rw[decide_eq_false hmem]at hin;have hlt:¬n<st.mx:=fun h=>hmem (hiff.2 h);go_wp2_with (go_at_call 98;refine hin.mono ?_;rintro e w7 ⟨rfl,q,rfl⟩)
        have hdr:S w6.heap.size w6 (w6.drewN q):=⟨rfl,rfl,rfl,qB _,fun _ _=>rfl⟩;obtain⟨p1,p2,p3,_,p5⟩:=HP6.out;have HK7:=(show M _ from HFin.out _ ag (p1.below hdr) (p2.trans (hdr.mono p2.size)) p3 (p5.blocks hdr.size fun b hlt hp=>⟨hdr.block b hlt,hp⟩) (by simp[hlt]));go_roundw
        case rel=>exact⟨j+1,by omega,by have:=HMj.out;congr 1;omega,HK7⟩
        case measure=>
         simp[intOf];omega
   .have hlf:¬((wkS K st j).n:Int)<(fN m ps l (wkS K st j).n:Int):=by
     have e:(wkS K st j).n=K:=by omega
     rw[e,Ew HK.out.done];omega
    generalize(wkS K st j).n=n at *;generalize fN m ps l n=fo at *;generalize many-j=mj at *
    go_wp2_with fail
    have hd1:decide (0<mj)=true:=decide_eq_true (by omega);have hd2:decide (n<fo)=false:=decide_eq_false (by omega);go_quiet (fail)
    all_goals go_wp2_with fail
    all_goals go_ret
    all_goals exact⟨by first|rfl|simp,HEnd.out _ ⟨rfl,rfl,rfl,qB _,fun _ _=>rfl⟩ (.inr hnn)⟩
  .have hmj:¬(0:Int)<((many-j:Nat):Int):=by omega
   generalize many-j=mj at *
   go_wp2_with fail
   have hd1:decide (0<mj)=false:=decide_eq_false (by omega);go_quiet (fail)
   all_goals go_wp2_with fail
   all_goals go_ret
   all_goals exact⟨by first|rfl|simp,HEnd.out _ ⟨rfl,rfl,rfl,qB _,fun _ _=>rfl⟩ (.inl (by omega))⟩
section
variable{m:Mo}{ps:List (List (Int×Int))}{l:List (Int×Int)}{K fb:Nat}{w0 w:E}{st:Sr}{g0 g2 g3:A}{g1 g4:Int}
theorem SxV.start(h:SxV m ps l K w0 w g0 g1 g2 g3 g4 fb st):SxV m ps l K w0 (w.setCell ⟨w0.heap.size,6,V⟩ (.bool true)) g0 g1 g2 g3 g4 fb { st with up:=true}:=by
 obtain⟨dso,lo,ro,dc,lc,rc,lol,rsl,hI⟩:=h.lies;obtain⟨s1,s2⟩:=hI.setB 6 (.bool true);exact⟨⟨h.ok.a,h.ok.b,h.ok.c⟩,fun e=>(by cases e),h.bel_set 6 _,h.fnd,dso,lo,ro,dc,lc,rc,lol,rsl,⟨M5 hI.box true,s1,s2,hI.may,hI.keys,hI.back⟩⟩
theorem PT(hK:SmallK m ps l K)(h:SxV m ps l K w0 w g0 (AC m ps l).length g2 g3 g4 fb st)(hag:st.ag<=1000000000000)(v:Int×Int)(hv:v.1=1\/v.1=2\/v.1=3\/v.1=4)(h0:0<=v.2)(h1:v.2<=2147483647) :
  ZX qA 38 #[ZY (U ⟨w0.heap.size,0,V⟩),r #[ZW Z v.1,.int Z v.2]] w fun e w'=>e=C (.int Z 0)/\SxV m ps l K w0 w' g0 (AC m ps l).length g2 g3 g4 fb (mvS m ps l K st v):=by
 obtain⟨kind,many⟩:=v;simp only at hv h0 h1;obtain⟨k,rfl⟩:=Int.eq_ofNat_of_zero_le h0;have hal:S w.heap.size w (w.alloc (N #[ZW Z kind,.int Z (k:Nat)] 40)):=(qD _ _).alloc (qB _) _;have hA:=h.below hal;obtain⟨q0,q1⟩:=(show _/\_ from⟨Hf (MapKept.heap_alloc w (N #[ZW Z kind,.int Z (k:Nat)] 40)).1,Hg (MapKept.heap_alloc w (N #[ZW Z kind,.int Z (k:Nat)] 40)).1⟩);obtain⟨dso,lo,ro,dc,lc,rc,lol,rsl,hI⟩:=hA.lies;obtain⟨_,_,c6,_⟩:=BO hI.box;have f6:=CE hI.box 6;have hwl:=hI.lt;clear hI;by_cases h4:kind=4
 .subst h4;have hm:mvS m ps l K st (4,(k:Int))={ st with up:=true}:=if_pos rfl;rw[hm];have HS:=(show M _ from hA.start);clear hA h hv;go_enter Tryz.func38,Tryz.ntmps38;go_wp2_with fail
  go_ret;exact⟨rfl,HS.out⟩
 .cases hup:st.up with
  |false=>
   have hm:mvS m ps l K st (kind,(k:Int))=st:=by unfold mvS;rw[if_neg h4,if_pos hup]
   rw[hm];rw[hup]at c6;have HS:=(show M _ from hA);clear hA h hm hup;have hv':kind=1\/kind=2\/kind=3:=by omega
   clear hv h4;rcases hv' with rfl|rfl|rfl;all_goals go_enter Tryz.func38,Tryz.ntmps38
   all_goals go_wp2_with fail
   all_goals go_ret
   all_goals exact⟨rfl,HS.out⟩
  |true=>
   rw[hup]at c6;have hv':kind=1\/kind=2\/kind=3:=by omega
   clear hv h4;rcases hv' with rfl|rfl|rfl
   .have hm:mvS m ps l K st (1,(k:Int))=wkS K st k:=by
     unfold mvS;rw[if_neg (show¬(1:Int)=4 by decide),if_neg (by simp[hup]),if_pos rfl];rfl
    rw[hm];have HC:=Vt k (by omega) hag hK hA hup;clear hA h hm hup;go_enter Tryz.func38,Tryz.ntmps38;go_wp2_with (go_at_call 65;refine HC.mono ?_;rintro e w2 ⟨rfl,HV⟩;have HS:=(show M _ from HV))
    go_ret;exact⟨rfl,HS.out⟩
   .have hm:mvS m ps l K st (2,(k:Int))={ st with s:=st.n}:=by
     unfold mvS;rw[if_neg (show¬(2:Int)=4 by decide),if_neg (by simp[hup]),if_neg (show¬(2:Int)=1 by decide),if_pos rfl]
    rw[hm];have HC:=UC hK hA hup;clear hA h hm hup;go_enter Tryz.func38,Tryz.ntmps38;go_wp2_with (go_at_call 66;refine HC.mono ?_;rintro e w2 ⟨rfl,HV⟩;have HS:=(show M _ from HV))
    go_ret;exact⟨rfl,HS.out⟩
   .have hm:mvS m ps l K st (3,(k:Int))=crS m ps l st k:=by
     unfold mvS;rw[if_neg (show¬(3:Int)=4 by decide),if_neg (by simp[hup]),if_neg (show¬(3:Int)=1 by decide),if_neg (show¬(3:Int)=2 by decide)];rfl
    rw[hm];have HC:=PM hK hA k;clear hA h hm hup;go_enter Tryz.func38,Tryz.ntmps38;go_wp2_with (go_at_call 67;refine HC.mono ?_;rintro e w2 ⟨rfl,HV⟩;have HS:=(show M _ from HV))
    go_ret;exact⟨rfl,HS.out⟩
theorem CZ{w:E}{X:Nat}{a0 a1 a2 a3 a4 a5 a6:A}{t:TypeId}(h:w.heap[X]? = U (N #[a0,a1,a2,a3,a4,a5,a6] t)):w.cell? ⟨X,0,V⟩=U a0/\w.cell? ⟨X,1,V⟩=U a1/\w.cell? ⟨X,2,V⟩=U a2/\w.cell? ⟨X,3,V⟩=U a3/\w.cell? ⟨X,4,V⟩=U a4/\w.cell? ⟨X,5,V⟩=U a5/\w.cell? ⟨X,6,V⟩=U a6:=by
 refine⟨?_,?_,?_,?_,?_,?_,?_⟩<;>simp[World.cell?,h]
theorem Ai{w:E}{X:Nat}{a0 a1 a2 a3 a4 a5 a6:A}{t:TypeId}(h:w.heap[X]? = U (N #[a0,a1,a2,a3,a4,a5,a6] t))(i:Nat):w.frozen? ⟨X,i,V⟩=false:=by simp[World.frozen?,h]
theorem Sf{w:E}{X:Nat}{a0 a1 a2 a3 a4 a5 a6:A}{t:TypeId}(h:w.heap[X]? = U (N #[a0,a1,a2,a3,a4,a5,a6] t))(x:A):(w.setCell ⟨X,5,V⟩ x).heap[X]? = U (N #[a0,a1,a2,a3,a4,x,a6] t):=by simp[World.setCell,qR,h]
theorem EV{w:E}{X:Nat}{a0 a1 a2 a3 a4 a5 a6:A}{t:TypeId}(h:w.heap[X]? = U (N #[a0,a1,a2,a3,a4,a5,a6] t))(b0 b1 b2 b3 b4 b5 b6:A):(((((((w.setCell ⟨X,0,V⟩ b0).setCell ⟨X,1,V⟩ b1).setCell ⟨X,2,V⟩ b2).setCell ⟨X,3,V⟩ b3).setCell ⟨X,4,V⟩ b4).setCell ⟨X,5,V⟩ b5).setCell ⟨X,6,V⟩ b6).heap[X]? = U (N #[b0,b1,b2,b3,b4,b5,b6] t):=by simp[World.setCell,qR,h]
theorem I4{w W:E}(h:S w.heap.size w W)(b0 b1 b2 b3 b4 b5 b6:A):S w.heap.size w (((((((W.setCell ⟨w.heap.size,0,V⟩ b0).setCell ⟨w.heap.size,1,V⟩ b1).setCell ⟨w.heap.size,2,V⟩ b2).setCell ⟨w.heap.size,3,V⟩ b3).setCell ⟨w.heap.size,4,V⟩ b4).setCell ⟨w.heap.size,5,V⟩ b5).setCell ⟨w.heap.size,6,V⟩ b6):=
 ((((((h.setCell (p:=⟨w.heap.size,0,V⟩) (qB _) _).setCell (p:=⟨w.heap.size,1,V⟩) (qB _) _).setCell (p:=⟨w.heap.size,2,V⟩) (qB _) _).setCell (p:=⟨w.heap.size,3,V⟩) (qB _) _).setCell (p:=⟨w.heap.size,4,V⟩) (qB _) _).setCell (p:=⟨w.heap.size,5,V⟩) (qB _) _).setCell (p:=⟨w.heap.size,6,V⟩) (qB _) _
theorem Sx (hK:SmallK m ps l K) (h:SxV m ps l K w0 w g0 g1 g2 g3 g4 fb st) (c:Int) (hc:c=0\/c=11) (hF:∀ w2,S w.heap.size w w2->ZX qA 105 #[r #[g0,.int Z g1,g2,g3,.int Z g4]] w2 fun e w3=>∃ x,e=C (ZZ #[ZW Z x,.int Z c])/\S w2.heap.size w2 w3) :
    ZX qA 39 #[ZY (U ⟨w0.heap.size,0,V⟩)] w fun e w'=>e=C (ZZ #[r #[I st.up,.int Z (fN m ps l st.n:Nat),.int Z (st.n:Nat),.int Z (st.s:Nat),.int Z (st.ag:Nat),.bool (dnS m ps l st),.bool (dnS m ps l st&&decide (c=11))],.int Z 0])/\S w.heap.size w w':=by
  have hal:S w.heap.size w (w.alloc (N #[I O,.int Z 0,.int Z 0,.int Z 0,.int Z 0,.bool O,.bool O] 50)):=(qD _ _).alloc (qB _) _;have hbk:=(MapKept.heap_alloc w (N #[I O,.int Z 0,.int Z 0,.int Z 0,.int Z 0,.bool O,.bool O] 50)).1;have hsz:w.heap.size<(w.alloc (N #[I O,.int Z 0,.int Z 0,.int Z 0,.int Z 0,.bool O,.bool O] 50)).heap.size:=by simp
  have HSf:=UB hK (h.below hal);obtain⟨dso,lo,ro,dc,lc,rc,lol,rsl,hI⟩:=h.lies;have HB:M (∀w2,S w.heap.size w w2->(w2.cell? ⟨w0.heap.size,0,V⟩=U g0/\w2.cell? ⟨w0.heap.size,1,V⟩=U (.int Z g1)/\w2.cell? ⟨w0.heap.size,2,V⟩=U g2/\w2.cell? ⟨w0.heap.size,3,V⟩=U g3/\w2.cell? ⟨w0.heap.size,4,V⟩=U (.int Z g4))/\w2.cell? ⟨w0.heap.size,6,V⟩=U (.bool st.up)/\w2.cell? ⟨w0.heap.size,7,V⟩=U (.int Z (fN m ps l st.n:Nat))/\w2.cell? ⟨w0.heap.size,8,V⟩=U (.int Z (st.n:Nat))/\w2.cell? ⟨w0.heap.size,13,V⟩=U (.int Z (st.ag:Nat))/\w0.heap.size<w2.heap.size):=fun w2 hb=>by
    obtain⟨a,_,b,c,d,_,_,_,_,e⟩:=BO (hI.below hb).box;exact⟨a,b,c,d,e,(hI.below hb).lt⟩
  have HH:M (∀w2,S w.heap.size w w2->ZX qA 69 #[r #[g0,.int Z g1,g2,g3,.int Z g4]] w2 fun e w'=>e=C (ZZ #[I (decide (c=11)),.int Z 0])/\S w2.heap.size w2 w'):=fun w2 hb=>Uc g0 g2 g3 g1 g4 c w2 hc fun w3 hb3=>hF w3 (hb.trans (hb3.mono hb.size));have hwl:=hI.lt;have hdn:dnS m ps l st=(st.up&&decide (fN m ps l st.n<=st.n)):=rfl;rw[hdn];have HBo:M (∀w2,S (w.alloc (N #[I O,.int Z 0,.int Z 0,.int Z 0,.int Z 0,.bool O,.bool O] 50)).heap.size (w.alloc (N #[I O,.int Z 0,.int Z 0,.int Z 0,.int Z 0,.bool O,.bool O] 50)) w2->w2.heap[w.heap.size]? = U (N #[I O,.int Z 0,.int Z 0,.int Z 0,.int Z 0,.bool O,.bool O] 50)/\w.heap.size<w2.heap.size/\S w.heap.size w w2):=fun w2 hb=>⟨(hb.block _ hsz).trans hbk,qE hsz hb.size,hal.trans (hb.mono (qS hsz))⟩;obtain⟨up,n,s,mx,ag⟩:=st;simp only at *
  clear hI h hF hdn hal hbk hsz;generalize fN m ps l n=fo at *;generalize decide (c=11)=ho at *
  go_enter Tryz.func39,Tryz.ntmps39;go_upto_region 4 with(go_at_call 68;refine HSf.mono ?_;rintro e w2 ⟨rfl,hb2⟩;obtain⟨ho1,ho2,ho3⟩:=HBo.out w2 hb2)
  obtain⟨⟨d0,d1,d2,d3,d4⟩,d6,d7,d8,d13,dl⟩:=HB.out w2 ho3;have HO1:=(show M _ from ho1);clear ho1 d0 d1 d2 d3 d4;go_cut [6] (fun u wx=>u=ZY (U ⟨w2.heap.size,0,V⟩)/\wx.heap[w2.heap.size]? = U (N #[I up,.int Z (fo:Nat),.int Z (n:Nat),.int Z (s:Nat),.int Z (ag:Nat),.bool O,.bool O] 50)/\S w2.heap.size w2 wx)
  case first=>
    have HSX:M (∀W,S w2.heap.size w2 W->W.cell? ⟨w0.heap.size,6,V⟩=U (.bool up)/\W.cell? ⟨w0.heap.size,7,V⟩=U (.int Z (fo:Nat))/\W.cell? ⟨w0.heap.size,8,V⟩=U (.int Z (n:Nat))/\W.cell? ⟨w0.heap.size,13,V⟩=U (.int Z (ag:Nat))):=fun W hb=>⟨(hb.cell dl).trans d6,(hb.cell dl).trans d7,(hb.cell dl).trans d8,(hb.cell dl).trans d13⟩;clear HH HB HBo d6 d7 d8 d13;go_region_held3 (fun W=>W.cell? ⟨w0.heap.size,6,V⟩=U (.bool up)/\W.cell? ⟨w0.heap.size,7,V⟩=U (.int Z (fo:Nat))/\W.cell? ⟨w0.heap.size,8,V⟩=U (.int Z (n:Nat))/\W.cell? ⟨w0.heap.size,13,V⟩=U (.int Z (ag:Nat)))
      ((refine HSX.out _ ?_;repeat (first|exact(qD _ _).drew.alloc (qB _) _|exact(qD _ _).drew|exact(qD _ _).alloc (qB _) _|exact qD _ _|refine RowKit.Below.setCell ?_ (by first|exact qB _|(simp)) _)))
      (fail)
    all_goals go_wp2_with fail
    all_goals go_meet
    all_goals exact⟨rfl,(MapKept.heap_alloc w2 _).1,((qD _ _).alloc (qB _) _).drew⟩
  case rest=>
    obtain⟨rfl,hox,hbx⟩:=hcut;have hbw:S w.heap.size w wc:=ho3.trans (hbx.mono (qS ho2));clear d6 d7 d8 d13 dl;obtain⟨⟨d0,d1,d2,d3,d4⟩,d6,d7,d8,_,dl⟩:=HB.out wc hbw;have hrr:=(hbx.block _ ho2).trans HO1.out;obtain⟨r0,r1,r2,r3,r4,r5,r6⟩:=CZ hrr;have rf0:=Ai hrr 0;have rf1:=Ai hrr 1;have rf2:=Ai hrr 2;have rf3:=Ai hrr 3;have rf4:=Ai hrr 4;have rf5:=Ai hrr 5;have rf6:=Ai hrr 6;obtain⟨x0,x1,x2,x3,x4,x5,x6⟩:=CZ hox;have HB9:M (S w.heap.size w wc):=hbw;have hx5:=Ai hox 5;have hx6:=Ai hox 6;have hol:w2.heap.size<wc.heap.size:=(qG.1 hox).1;have hrl:w.heap.size<wc.heap.size:=by have:=hbx.size;omega
    have HSt:up=true->M (∀q:Nat,ZX qA 69 #[r #[g0,.int Z g1,g2,g3,.int Z g4]] ((wc.drewN q).setCell ⟨w2.heap.size,5,V⟩ (.bool true)) fun e w8=>e=C (ZZ #[I ho,.int Z 0])/\w8.heap[w2.heap.size]? = U (N #[I true,.int Z (fo:Nat),.int Z (n:Nat),.int Z (s:Nat),.int Z (ag:Nat),.bool true,.bool O] 50)/\w8.heap[w.heap.size]? = U (N #[I O,.int Z 0,.int Z 0,.int Z 0,.int Z 0,.bool O,.bool O] 50)/\M (S w.heap.size w w8)):=fun hu q=>by
      subst hu;have hwq:S w.heap.size w (wc.drewN q):=hbw.trans ⟨rfl,rfl,rfl,qB _,fun _ _=>rfl⟩;have hw1:S w.heap.size w ((wc.drewN q).setCell ⟨w2.heap.size,5,V⟩ (.bool true)):=hwq.setCell (p:=⟨w2.heap.size,5,V⟩) (qS ho2) (.bool true);refine(HH.out _ hw1).mono fun e w8 ⟨e1,e2⟩=>⟨e1,?_,?_,hw1.trans (e2.mono hw1.size)⟩
      . refine(e2.block _ (by simpa using hol)).trans ?_
        exact Sf (show(wc.drewN q).heap[w2.heap.size]? = _ from hox) _
      . refine(e2.block _ (by simpa using hrl)).trans ?_
        exact(RowKit.Below.heap_setCell _ _ _ _ (by show w.heap.size≠w2.heap.size;omega)).trans hrr
    have hne:w2.heap.size≠w.heap.size:=by omega
    have HRR:=(show M _ from hrr);clear hox hbx hbw ho3 hrr HO1;generalize w2.heap.size=B at *
    cases up with
    |false=>
      go_wp2_with fail
      go_quiet (fail)
      rename_i nq;go_wp2_with fail
      have hfin:=CZ (EV (w:=(wc.drewN nq)) HRR.out (.bool O) (.int Z (fo:Nat)) (.int Z (n:Nat)) (.int Z (s:Nat)) (.int Z (ag:Nat)) (.bool O) (.bool O));have hbl:=I4 (W:=(wc.drewN nq)) (HB9.out.trans ⟨rfl,rfl,rfl,qB _,fun _ _=>rfl⟩:S w.heap.size w (wc.drewN nq)) (.bool O) (.int Z (fo:Nat)) (.int Z (n:Nat)) (.int Z (s:Nat)) (.int Z (ag:Nat)) (.bool O) (.bool O);generalize((((((((wc.drewN nq).setCell ⟨w.heap.size,0,V⟩ (.bool O)).setCell ⟨w.heap.size,1,V⟩ (.int Z (fo:Nat))).setCell ⟨w.heap.size,2,V⟩ (.int Z (n:Nat))).setCell ⟨w.heap.size,3,V⟩ (.int Z (s:Nat))).setCell ⟨w.heap.size,4,V⟩ (.int Z (ag:Nat))).setCell ⟨w.heap.size,5,V⟩ (.bool O)).setCell ⟨w.heap.size,6,V⟩ (.bool O))=WF at hfin hbl⊢;obtain⟨z0,z1,z2,z3,z4,z5,z6⟩:=hfin;refine bodyPost_ret (v:=ZZ #[r #[I O,.int Z (fo:Nat),.int Z (n:Nat),.int Z (s:Nat),.int Z (ag:Nat),.bool O,.bool O],.int Z 0]) ?_ rfl ⟨by simp,hbl⟩;simp[results,Tryz.results39,go_sem,z0,z1,z2,z3,z4,z5,z6]
    |true=>
      by_cases hlt:n<fo
      . have hli:(n:Int)<(fo:Int):=by omega
        have hdd:decide (fo<=n)=false:=decide_eq_false (by omega);clear HSt;go_wp2_with fail
        have hd1:decide (n<fo)=true:=decide_eq_true hlt;go_quiet (fail)
        rename_i nq;go_wp2_with fail
        have hfin:=CZ (EV (w:=(wc.drewN nq)) HRR.out (.bool true) (.int Z (fo:Nat)) (.int Z (n:Nat)) (.int Z (s:Nat)) (.int Z (ag:Nat)) (.bool O) (.bool O));have hbl:=I4 (W:=(wc.drewN nq)) (HB9.out.trans ⟨rfl,rfl,rfl,qB _,fun _ _=>rfl⟩:S w.heap.size w (wc.drewN nq)) (.bool true) (.int Z (fo:Nat)) (.int Z (n:Nat)) (.int Z (s:Nat)) (.int Z (ag:Nat)) (.bool O) (.bool O);generalize((((((((wc.drewN nq).setCell ⟨w.heap.size,0,V⟩ (.bool true)).setCell ⟨w.heap.size,1,V⟩ (.int Z (fo:Nat))).setCell ⟨w.heap.size,2,V⟩ (.int Z (n:Nat))).setCell ⟨w.heap.size,3,V⟩ (.int Z (s:Nat))).setCell ⟨w.heap.size,4,V⟩ (.int Z (ag:Nat))).setCell ⟨w.heap.size,5,V⟩ (.bool O)).setCell ⟨w.heap.size,6,V⟩ (.bool O))=WF at hfin hbl⊢;obtain⟨z0,z1,z2,z3,z4,z5,z6⟩:=hfin;refine bodyPost_ret (v:=ZZ #[r #[I true,.int Z (fo:Nat),.int Z (n:Nat),.int Z (s:Nat),.int Z (ag:Nat),.bool O,.bool O],.int Z 0]) ?_ rfl ⟨by simp[hdd],hbl⟩;simp[results,Tryz.results39,go_sem,z0,z1,z2,z3,z4,z5,z6]
      . have hli:¬(n:Int)<(fo:Int):=by omega
        have hdd:decide (fo<=n)=true:=decide_eq_true (by omega);have HS8:=HSt rfl;clear HSt;go_wp2_with fail
        have hd1:decide (n<fo)=false:=decide_eq_false hlt;go_quiet (fail)
        go_wp2_with (go_at_call 69;refine(HS8.out _).mono ?_;rintro e w8 ⟨rfl,hb8,hr8,HB8⟩;obtain⟨x0,x1,x2,x3,x4,x5,x6⟩:=CZ hb8;obtain⟨r0,r1,r2,r3,r4,r5,r6⟩:=CZ hr8;have HR8:=(show M _ from hr8);have rf0:=Ai hr8 0;have rf1:=Ai hr8 1;have rf2:=Ai hr8 2;have rf3:=Ai hr8 3;have rf4:=Ai hr8 4;have rf5:=Ai hr8 5;have rf6:=Ai hr8 6;have hx6:=Ai hb8 6;have h81:=(qG.1 hb8).1;have h82:=(qG.1 hr8).1;clear hb8 hr8)
        have hr9:(w8.setCell ⟨B,6,V⟩ (.bool ho)).heap[w.heap.size]? = _:=(RowKit.Below.heap_setCell _ _ _ _ (by show w.heap.size≠B;omega)).trans HR8.out;have hb9:S w.heap.size w (w8.setCell ⟨B,6,V⟩ (.bool ho)):=HB8.out.setCell (p:=⟨B,6,V⟩) (qS ho2) _;have hfin:=CZ (EV (w:=(w8.setCell ⟨B,6,V⟩ (.bool ho))) hr9 (.bool true) (.int Z (fo:Nat)) (.int Z (n:Nat)) (.int Z (s:Nat)) (.int Z (ag:Nat)) (.bool true) (.bool ho));have hbl:=I4 (W:=(w8.setCell ⟨B,6,V⟩ (.bool ho))) hb9 (.bool true) (.int Z (fo:Nat)) (.int Z (n:Nat)) (.int Z (s:Nat)) (.int Z (ag:Nat)) (.bool true) (.bool ho);generalize((((((((w8.setCell ⟨B,6,V⟩ (.bool ho)).setCell ⟨w.heap.size,0,V⟩ (.bool true)).setCell ⟨w.heap.size,1,V⟩ (.int Z (fo:Nat))).setCell ⟨w.heap.size,2,V⟩ (.int Z (n:Nat))).setCell ⟨w.heap.size,3,V⟩ (.int Z (s:Nat))).setCell ⟨w.heap.size,4,V⟩ (.int Z (ag:Nat))).setCell ⟨w.heap.size,5,V⟩ (.bool true)).setCell ⟨w.heap.size,6,V⟩ (.bool ho))=WF at hfin hbl⊢;obtain⟨z0,z1,z2,z3,z4,z5,z6⟩:=hfin;refine bodyPost_ret (v:=ZZ #[r #[I true,.int Z (fo:Nat),.int Z (n:Nat),.int Z (s:Nat),.int Z (ag:Nat),.bool true,.bool ho],.int Z 0]) ?_ rfl ⟨by simp[hdd],hbl⟩;simp[results,Tryz.results39,go_sem,z0,z1,z2,z3,z4,z5,z6]
end
open Go.ChangeShapes Go.WideShapes Go.ChangeAt Go.RowKit Go.Deep
def Bv(l:List (Int×Int)):Prop:=l.length<=5000/\∀k,k<l.length->1<=(l.getD k (0,0)).1/\(l.getD k (0,0)).1<=4/\0<=(l.getD k (0,0)).2/\(l.getD k (0,0)).2<=2147483647
theorem OpsV.atM{w:E}{ao:Option Addr}{cap n:Nat}{l:List (Int×Int)}(h:OpsV w (Y ao n cap) l){i:Nat}(hi:i<l.length):∃b off,ao=U ⟨b,off,V⟩/\b<w.heap.size/\w.cell? ⟨b,off+i*2,V⟩=U (.int Z (l.getD i (0,0)).1)/\w.cell? ⟨b,off+i*2+1,V⟩=U (.int Z (l.getD i (0,0)).2):=by
 obtain⟨ao',cap',hv,_,h⟩:=h;injection hv with e1 e2 e3;subst e1;obtain⟨b,off,e,hlt,hat⟩:=h (by rintro rfl;simp at hi);exact⟨b,off,e,hlt,(hat i hi).1,(hat i hi).2⟩
theorem Uo(ao:Option Addr)(cap:Nat)(l:List (Int×Int))(w:E)(hm:Bv l)(hV:OpsV w (.slice ao l.length cap) l) :
  ZX qA 36 #[.slice ao l.length cap] w fun e w'=>e=C (.int Z 0)/\S w.heap.size w w':=by
 obtain⟨n,hn⟩:∃n,l.length=n:=⟨_,rfl⟩;have H:M (OpsV w (.slice ao l.length cap) l):=hV;have HN:M (l.length=n):=hn;have HM:M (∀k,k<l.length->1<=(l.getD k (0,0)).1/\(l.getD k (0,0)).1<=4/\0<=(l.getD k (0,0)).2/\(l.getD k (0,0)).2<=2147483647):=hm.2;have hbi:¬(5000:Int)<(n:Int):=by have:=hm.1;omega
 rw[hn]at H⊢;clear hV hn hm;go_enter Tryz.func36,Tryz.ntmps36;go_wp2;go_loopw [10] (fun i wr=>∃k:Nat,k<=n/\i=.int Z k/\S w.heap.size w wr) (fun i _=>n-(intOf i).toNat)
 case atStart=>exact⟨0,qJ _,rfl,qD _ _⟩
 case round=>
  obtain⟨k,hk,rfl,hbr⟩:=hrel;by_cases hlt:k<n
  .have hlt2:k<l.length:=by rw[HN.out];exact hlt
   obtain⟨b,off,rfl,hbl,c0,c1⟩:=(H.out.below hbr).atM hlt2;have HE:=HM.out k hlt2;have hki:(k:Int)<(n:Int):=by omega
   have hba:∀o,S w.heap.size w (wr.alloc o):=fun o=>hbr.alloc hbr.size o;generalize l.getD k (0,0)=p at *;obtain⟨x,y⟩:=p;simp only at c0 c1 HE
   obtain⟨h1,h2,h3,h4⟩:=HE;have hx1:¬x<1:=by omega
   have hx4:¬4<x:=by omega
   have hy1:¬y<0:=by omega
   have hy4:¬2147483647<y:=by omega
   clear h1 h2 h3 h4;go_wp2;go_roundw
   case rel=>exact⟨k+1,by omega,by go_num,hba _⟩
   case measure=>simp[intOf];omega
  .obtain rfl:k=n:=by omega
   go_wp2;go_ret;exact⟨rfl,hbr⟩
section
variable{m:Mo}{ps:List (List (Int×Int))}{l:List (Int×Int)}{K K':Nat}
theorem Pk(h:BG m ps l K)(h':BG m ps l K'):K=K':=by
 rcases Nat.lt_trichotomy K K' with hlt|h0|hlt
 .have:=h'.2.2.1 K hlt;rw[h.1]at this;omega
 .exact h0
 .have:=h.2.2.1 K' hlt;rw[h'.1]at this;omega
theorem Py(g:Gr):BS g=0\/BS g=11:=by
 unfold BS;split
 .exact .inl rfl
 .exact .inr rfl
theorem SF(hs:SmallK m ps l K){st:Sr}(v:Int×Int):(mvS m ps l K st v).ag<=st.ag+1000:=by
 have:=hs.few;unfold mvS;split
 .show st.ag<=_;omega
 split
 .omega
 split
 .show st.ag+(min (min (st.n+v.2.toNat) K) st.mx-st.n)<=_;omega
 split
 .show st.ag<=_;omega
 .show st.ag<=_;omega
theorem T3(hs:SmallK m ps l K)(vs:List (Int×Int))(k:Nat):(A5 m ps l K (vs.take k)).ag<=1000*k:=by
 induction k with
 |zero=>simp[A5,sr0]
 |succ k ih=>
  by_cases hk:k<vs.length
  .rw[q7 hk,Mx];have:=SF (st:=A5 m ps l K (vs.take k)) hs vs[k];omega
  .rw[qQ (by omega)];rw[qQ (by omega)]at ih;omega
theorem T4{vs:List (Int×Int)}{k:Nat}(hk:k<vs.length):A5 m ps l K (vs.take (k+1))=mvS m ps l K (A5 m ps l K (vs.take k)) (vs.getD k (0,0)):=by
 rw[q7 hk,Mx,qC,qH hk];rfl
end
def SxX(w2:E)(m:Mo)(ps:List (List (Int×Int)))(l:List (Int×Int))(K:Nat)(so no xo:Option Addr)(sc nc xc:Nat):Prop:=
 GfV w2 m ps l K so no sc/\∀w3,S w2.heap.size w2 w3->ZX qA 105 #[r #[Y so K sc,.int Z ((AC m ps l).length:Nat),Y no K nc,Y xo K xc,.int Z ((AA l).length:Nat)]] w3 fun e w4=>∃x,e=C (ZZ #[ZW Z x,.int Z (BS (BR m ps l K))])/\S w3.heap.size w3 w4
def FN(w:E)(m:Mo)(ps:List (List (Int×Int)))(l:List (Int×Int))(va vr pv fv:A):Prop:=
  ZX qA 9 #[r #[va,vr,pv,fv]] w fun e w2=>∃K so sc no nc xo xc,BG m ps l K/\e=C (ZZ #[r #[Y so K sc,.int Z ((AC m ps l).length:Nat),Y no K nc,Y xo K xc,.int Z ((AA l).length:Nat)],.int Z 0])/\S w.heap.size w w2/\M (SxX w2 m ps l K so no xo sc nc xc)
noncomputable def Fr(m:Mo)(ps:List (List (Int×Int)))(l:List (Int×Int))(st:Sr)(c:Int):Value:=r #[I st.up,.int Z (fN m ps l st.n:Nat),.int Z (st.n:Nat),.int Z (st.s:Nat),.int Z (st.ag:Nat),.bool (dnS m ps l st),.bool (dnS m ps l st&&decide (c=11))]
theorem L9{w W:E}(h:S w.heap.size w W)(b0 b1 b2 b3 b4 b5 b6:A):S w.heap.size w (((((((W.setCell ⟨w.heap.size+1,0,V⟩ b0).setCell ⟨w.heap.size+1,1,V⟩ b1).setCell ⟨w.heap.size+1,2,V⟩ b2).setCell ⟨w.heap.size+1,3,V⟩ b3).setCell ⟨w.heap.size+1,4,V⟩ b4).setCell ⟨w.heap.size+1,5,V⟩ b5).setCell ⟨w.heap.size+1,6,V⟩ b6):=
 ((((((h.setCell (p:=⟨w.heap.size+1,0,V⟩) (vD _) _).setCell (p:=⟨w.heap.size+1,1,V⟩) (vD _) _).setCell (p:=⟨w.heap.size+1,2,V⟩) (vD _) _).setCell (p:=⟨w.heap.size+1,3,V⟩) (vD _) _).setCell (p:=⟨w.heap.size+1,4,V⟩) (vD _) _).setCell (p:=⟨w.heap.size+1,5,V⟩) (vD _) _).setCell (p:=⟨w.heap.size+1,6,V⟩) (vD _) _
theorem Uq(m:Mo)(ps:List (List (Int×Int)))(l:List (Int×Int))(w:E)(va vr pv fv:A)(hEx:∀w2,S w.heap.size w w2->FN w2 m ps l va vr pv fv)(hS:∀K,BG m ps l K->SmallK m ps l K)(vs:List (Int×Int))(ao:Option Addr)(cap:Nat)(hm:Bv vs)(hO:OpsV w (.slice ao vs.length cap) vs) :
  ZX qA 20 #[r #[va,vr,pv,fv],.slice ao vs.length cap] w fun e w'=>∃K,BG m ps l K/\e=C (ZZ #[Fr m ps l (A5 m ps l K vs) (BS (BR m ps l K)),.int Z 0])/\S w.heap.size w w':=by
 have hal:S w.heap.size w (w.alloc (N #[va,vr,pv,fv] 35)):=(qD _ _).alloc (qB _) _;have hal2:S w.heap.size w ((w.alloc (N #[va,vr,pv,fv] 35)).alloc (N #[I O,.int Z 0,.int Z 0,.int Z 0,.int Z 0,.bool O,.bool O] 50)):=hal.alloc hal.size _;have hbk:((w.alloc (N #[va,vr,pv,fv] 35)).alloc (N #[I O,.int Z 0,.int Z 0,.int Z 0,.int Z 0,.bool O,.bool O] 50)).heap[w.heap.size+1]? = U (N #[I O,.int Z 0,.int Z 0,.int Z 0,.int Z 0,.bool O,.bool O] 50):=by
  have:=(MapKept.heap_alloc (w.alloc (N #[va,vr,pv,fv] 35)) (N #[I O,.int Z 0,.int Z 0,.int Z 0,.int Z 0,.bool O,.bool O] 50)).1;simpa using this
 have HCk:M (∀w2,S w.heap.size w w2->ZX qA 36 #[.slice ao vs.length cap] w2 fun e w'=>e=C (.int Z 0)/\S w2.heap.size w2 w'):=fun w2 h=>Uo ao cap vs w2 hm (hO.below h);have HS:M (∀K,BG m ps l K->SmallK m ps l K):=hS;have HMv:M (Bv vs):=hm;have HO:M (∀wr,S w.heap.size w wr->OpsV wr (.slice ao vs.length cap) vs):=fun wr h=>hO.below h;obtain⟨WB,hWB⟩:∃WB,WB=((w.alloc (N #[va,vr,pv,fv] 35)).alloc (N #[I O,.int Z 0,.int Z 0,.int Z 0,.int Z 0,.bool O,.bool O] 50)):=⟨_,rfl⟩;have hex:=hEx _ hal2;unfold FN at hex;rw[<-hWB]at hex hal2 hbk;have hsz:w.heap.size+1<WB.heap.size:=(qG.1 hbk).1;have HOB:M (∀w2,S WB.heap.size WB w2->w2.heap[w.heap.size+1]? = U (N #[I O,.int Z 0,.int Z 0,.int Z 0,.int Z 0,.bool O,.bool O] 50)/\w.heap.size+1<w2.heap.size/\S w.heap.size w w2):=fun w2 hb=>⟨(hb.block _ hsz).trans hbk,qE hsz hb.size,hal2.trans (hb.mono hal2.size)⟩;have hvl:vs.length<=5000:=hm.1;clear hEx hm hS hO hal hbk;generalize hvn:vs.length=nv at *;have HVn:M (vs.length=nv):=hvn;clear hvn
 go_enter Tryz.func20,Tryz.ntmps20;go_upto_region 2 with fail
 rw[<-hWB];clear hWB;go_upto_region 6 with(first
  |(go_at_call 9;refine hex.mono ?_;rintro e w3 ⟨K,so,sc,no,nc,xo,xc,hD,rfl,hb3,HX⟩;have hK:=HS.out K hD;have HD:=(show M _ from hD);have hbA:S w3.heap.size w3 (w3.alloc (N #[Y so K sc,.int Z ((AC m ps l).length:Nat),Y no K nc,Y xo K xc,.int Z ((AA l).length:Nat)] 45)):=(qD _ _).alloc (qB _) _;have hck:=HCk.out (w3.alloc (N #[Y so K sc,.int Z ((AC m ps l).length:Nat),Y no K nc,Y xo K xc,.int Z ((AA l).length:Nat)] 45)) ((hal2.trans (hb3.mono hal2.size)).trans (hbA.mono (hal2.trans (hb3.mono hal2.size)).size));have HGb:M (∀w4,S (w3.alloc (N #[Y so K sc,.int Z ((AC m ps l).length:Nat),Y no K nc,Y xo K xc,.int Z ((AA l).length:Nat)] 45)).heap.size (w3.alloc (N #[Y so K sc,.int Z ((AC m ps l).length:Nat),Y no K nc,Y xo K xc,.int Z ((AA l).length:Nat)] 45)) w4->(w4.cell? ⟨w3.heap.size,0,V⟩=U (Y so K sc)/\w4.cell? ⟨w3.heap.size,1,V⟩=U (.int Z ((AC m ps l).length:Nat))/\w4.cell? ⟨w3.heap.size,2,V⟩=U (Y no K nc)/\w4.cell? ⟨w3.heap.size,3,V⟩=U (Y xo K xc)/\w4.cell? ⟨w3.heap.size,4,V⟩=U (.int Z ((AA l).length:Nat)))/\S w3.heap.size w3 w4):=fun w4 hb=>⟨EO ((hb.block _ (by simp)).trans (show(w3.alloc (N #[Y so K sc,.int Z ((AC m ps l).length:Nat),Y no K nc,Y xo K xc,.int Z ((AA l).length:Nat)] 45)).heap[w3.heap.size]? = U (grB (Y so K sc) (Y no K nc) (Y xo K xc) ((AC m ps l).length:Nat) ((AA l).length:Nat))from(MapKept.heap_alloc w3 _).1)),hbA.trans (hb.mono hbA.size)⟩;clear hD)
  |(go_at_call 36;refine hck.mono ?_;rintro e w4 ⟨rfl,hb4⟩;obtain⟨⟨q0,q1,q2,q3,q4⟩,hb34⟩:=HGb.out w4 hb4;have hso:=UP hK so no xo sc nc xc ((AA l).length:Nat) (HX.out.1.below hb34))
  |(go_at_call 37;refine hso.mono ?_;rintro e w6 ⟨w5,fb,rfl,hb5,HV⟩;have HVV:=(show M _ from HV)))
 have hb35:S w3.heap.size w3 w5:=hb34.trans (hb5.mono hb34.size);have hbB5:S WB.heap.size WB w5:=hb3.trans (hb35.mono hb3.size);have HB5:=(show M _ from hbB5);have HF5:M (∀w7,S w5.heap.size w5 w7->ZX qA 105 #[r #[Y so K sc,.int Z ((AC m ps l).length:Nat),Y no K nc,Y xo K xc,.int Z ((AA l).length:Nat)]] w7 fun e w4=>∃x,e=C (ZZ #[ZW Z x,.int Z (BS (BR m ps l K))])/\S w7.heap.size w7 w4):=fun w7 h=>HX.out.2 w7 (hb35.trans (h.mono hb35.size));have HV0:M (SxV m ps l K w5 w6 (Y so K sc) ((AC m ps l).length:Nat) (Y no K nc) (Y xo K xc) ((AA l).length:Nat) fb (A5 m ps l K (vs.take 0))):=by
  rw[List.take_zero];exact HVV.out
 have HK:M (SmallK m ps l K):=hK;clear hex hck hso HGb HVV HX hK hb35 hbB5 q0 q1 q2 q3 q4;go_loopw [39] (fun i wr=>∃k:Nat,k<=nv/\i=.int Z k/\M (SxV m ps l K w5 wr (Y so K sc) ((AC m ps l).length:Nat) (Y no K nc) (Y xo K xc) ((AA l).length:Nat) fb (A5 m ps l K (vs.take k)))) (fun i _=>nv-(intOf i).toNat)
 case atStart=>exact⟨0,qJ _,rfl,HV0.out⟩
 case round=>
  obtain⟨k,hk,rfl,HP⟩:=hrel;have hw5:S WB.heap.size WB wr:=HB5.out.trans (HP.out.bel.mono HB5.out.size);obtain⟨hob1,hob2,hob3⟩:=HOB.out wr hw5;by_cases hlt:k<nv
  .have hki:(k:Int)<(nv:Int):=by omega
   have hlt2:k<vs.length:=by rw[HVn.out];exact hlt
   have hO2:=HO.out wr hob3;rw[<-HVn.out]at hO2;obtain⟨b,off,rfl,hbl,c0,c1⟩:=hO2.atM hlt2;have hE:=HMv.out.2 k hlt2;have hag:=T3 HK.out vs k;have hal:S wr.heap.size wr (wr.alloc (N #[ZW Z (vs.getD k (0,0)).1,.int Z (vs.getD k (0,0)).2] 40)):=(qD _ _).alloc (qB _) _;have hdo:=PT HK.out (HP.out.below hal) (by omega) (vs.getD k (0,0)) (by omega) hE.2.2.1 hE.2.2.2;rw[<-T4 hlt2]at hdo;clear hob1 hO2 hE hag hbl;generalize(vs.getD k (0,0)).1=x at *;generalize(vs.getD k (0,0)).2=y at *
   go_wp2_with (go_at_call 38;refine hdo.mono ?_;rintro e w8 ⟨rfl,hV8⟩;have HV8:=(show M _ from hV8))
   go_roundw
   case rel=>exact⟨k+1,by omega,by go_num,HV8.out⟩
   case measure=>simp[intOf];omega
  .obtain rfl:k=nv:=by omega
   have HV9:=HP.out;rw[<-HVn.out,List.take_length]at HV9;have hoc:=Sx HK.out HV9 (BS (BR m ps l K)) (Py _) fun w7 h=>HF5.out w7 (HV9.bel.trans (h.mono HV9.bel.size));have hoc2:ZX qA 39 #[ZY (U ⟨w5.heap.size,0,V⟩)] wr fun e w'=>e=C (ZZ #[(Fr m ps l (A5 m ps l K vs) (BS (BR m ps l K))),.int Z 0])/\S wr.heap.size wr w':=hoc;clear hoc hob1;obtain⟨b0,i1,i2,i3,i4,b5,b6,hout⟩:∃(b0:Bool) (i1 i2 i3 i4:Int) (b5 b6:Bool),(Fr m ps l (A5 m ps l K vs) (BS (BR m ps l K)))=r #[I b0,.int Z i1,.int Z i2,.int Z i3,.int Z i4,.bool b5,.bool b6]:=⟨_,_,_,_,_,_,_,rfl⟩;rw[hout]at hoc2;have HOut:=(show M _ from hout);have HB9:M (∀w9,S wr.heap.size wr w9->(w9.heap[w.heap.size+1]? = U (N #[I O,.int Z 0,.int Z 0,.int Z 0,.int Z 0,.bool O,.bool O] 50)/\w.heap.size+1<w9.heap.size)/\S w.heap.size w w9):=fun w9 h=>by
    obtain⟨a1,a2,a3⟩:=HOB.out w9 (hw5.trans (h.mono hw5.size));exact⟨⟨a1,a2⟩,a3⟩
   clear hout HV9;go_wp2_with (go_at_call 39;refine hoc2.mono ?_;rintro e w9 ⟨rfl,hb9⟩;obtain⟨⟨hr9,hl9⟩,hbw9⟩:=HB9.out w9 hb9;obtain⟨r0,r1,r2,r3,r4,r5,r6⟩:=CZ hr9;have HR9:=(show M _ from hr9);have rf0:=Ai hr9 0;have rf1:=Ai hr9 1;have rf2:=Ai hr9 2;have rf3:=Ai hr9 3;have rf4:=Ai hr9 4;have rf5:=Ai hr9 5;have rf6:=Ai hr9 6;clear hr9)
   have hfin:=CZ (EV (w:=w9) HR9.out (.bool b0) (.int Z i1) (.int Z i2) (.int Z i3) (.int Z i4) (.bool b5) (.bool b6));have hbl:=L9 hbw9 (.bool b0) (.int Z i1) (.int Z i2) (.int Z i3) (.int Z i4) (.bool b5) (.bool b6);generalize(((((((w9.setCell ⟨w.heap.size+1,0,V⟩ (.bool b0)).setCell ⟨w.heap.size+1,1,V⟩ (.int Z i1)).setCell ⟨w.heap.size+1,2,V⟩ (.int Z i2)).setCell ⟨w.heap.size+1,3,V⟩ (.int Z i3)).setCell ⟨w.heap.size+1,4,V⟩ (.int Z i4)).setCell ⟨w.heap.size+1,5,V⟩ (.bool b5)).setCell ⟨w.heap.size+1,6,V⟩ (.bool b6))=WF at hfin hbl⊢;obtain⟨z0,z1,z2,z3,z4,z5,z6⟩:=hfin;try simp only[Exit.inBlock,Exit.then]
   refine bodyPost_ret (v:=ZZ #[r #[I b0,.int Z i1,.int Z i2,.int Z i3,.int Z i4,.bool b5,.bool b6],.int Z 0]) ?_ rfl ⟨K,HD.out,by rw[HOut.out],hbl⟩;simp[results,Tryz.results20,go_sem,z0,z1,z2,z3,z4,z5,z6]
theorem VJ{w:E}{X:Nat}{a b c d:A}{t:TypeId}(h:w.heap[X]? = U (N #[a,b,c,d] t)):w.cell? ⟨X,0,V⟩=U a/\w.cell? ⟨X,1,V⟩=U b/\w.cell? ⟨X,2,V⟩=U c/\w.cell? ⟨X,3,V⟩=U d:=by
 refine⟨?_,?_,?_,?_⟩<;>simp[World.cell?,h]
theorem Ul(m:Mo)(ps:List (List (Int×Int)))(l:List (Int×Int))(w:E)(va vr pv fv:A)(hEx:∀w2,S w.heap.size w w2->FN w2 m ps l va vr pv fv)(hS:∀K,BG m ps l K->SmallK m ps l K)(vs:List (Int×Int))(ao:Option Addr)(cap:Nat)(hm:Bv vs)(hO:OpsV w (.slice ao vs.length cap) vs) :
  ZX qA 10 #[r #[va,vr,pv,fv],.slice ao vs.length cap] w fun e w'=>∃K,BG m ps l K/\e=C (ZZ #[Fr m ps l (A5 m ps l K vs) (BS (BR m ps l K)),.bool true])/\S w.heap.size w w':=by
 have HR:M (∀w2,S w.heap.size w w2->ZX qA 20 #[r #[va,vr,pv,fv],.slice ao vs.length cap] w2 fun e w'=>∃K,BG m ps l K/\∃(b0:Bool) (i1 i2 i3 i4:Int) (b5 b6:Bool),M (Fr m ps l (A5 m ps l K vs) (BS (BR m ps l K))=r #[I b0,.int Z i1,.int Z i2,.int Z i3,.int Z i4,.bool b5,.bool b6])/\e=C (ZZ #[r #[I b0,.int Z i1,.int Z i2,.int Z i3,.int Z i4,.bool b5,.bool b6],.int Z 0])/\S w2.heap.size w2 w'):=fun w2 h=>
  (Uq m ps l w2 va vr pv fv (fun w3 h3=>hEx w3 (h.trans (h3.mono h.size))) hS vs ao cap hm (hO.below h)).mono fun e w' ⟨K,hD,e1,hb⟩=>⟨K,hD,_,_,_,_,_,_,_,rfl,e1,hb⟩
 generalize vs.length=nv at *;clear hEx hS hm hO;have hal:S w.heap.size w (w.alloc (N #[va,vr,pv,fv] 35)):=(qD _ _).alloc (qB _) _;have hal2:S w.heap.size w ((w.alloc (N #[va,vr,pv,fv] 35)).alloc (N #[I O,.int Z 0,.int Z 0,.int Z 0,.int Z 0,.bool O,.bool O] 50)):=hal.alloc hal.size _
 have hbk:((w.alloc (N #[va,vr,pv,fv] 35)).alloc (N #[I O,.int Z 0,.int Z 0,.int Z 0,.int Z 0,.bool O,.bool O] 50)).heap[w.heap.size+1]? = U (N #[I O,.int Z 0,.int Z 0,.int Z 0,.int Z 0,.bool O,.bool O] 50):=by
  have:=(MapKept.heap_alloc (w.alloc (N #[va,vr,pv,fv] 35)) (N #[I O,.int Z 0,.int Z 0,.int Z 0,.int Z 0,.bool O,.bool O] 50)).1;simpa using this
 have htk:=VJ (((qD _ _).alloc (qB _) (N #[I O,.int Z 0,.int Z 0,.int Z 0,.int Z 0,.bool O,.bool O] 50):S (w.alloc (N #[va,vr,pv,fv] 35)).heap.size (w.alloc (N #[va,vr,pv,fv] 35)) ((w.alloc (N #[va,vr,pv,fv] 35)).alloc (N #[I O,.int Z 0,.int Z 0,.int Z 0,.int Z 0,.bool O,.bool O] 50))).block w.heap.size (by simp) |>.trans (MapKept.heap_alloc w (N #[va,vr,pv,fv] 35)).1);obtain⟨WB,hWB⟩:∃WB,WB=((w.alloc (N #[va,vr,pv,fv] 35)).alloc (N #[I O,.int Z 0,.int Z 0,.int Z 0,.int Z 0,.bool O,.bool O] 50)):=⟨_,rfl⟩;rw[<-hWB]at hal2 hbk htk;obtain⟨k0,k1,k2,k3⟩:=htk;have hr:=HR.out WB hal2;have hsz:w.heap.size+1<WB.heap.size:=(qG.1 hbk).1;have HOB:M (∀w2,S WB.heap.size WB w2->(w2.heap[w.heap.size+1]? = U (N #[I O,.int Z 0,.int Z 0,.int Z 0,.int Z 0,.bool O,.bool O] 50)/\w.heap.size+1<w2.heap.size)/\S w.heap.size w w2):=fun w2 hb=>⟨⟨(hb.block _ hsz).trans hbk,qE hsz hb.size⟩,hal2.trans (hb.mono hal2.size)⟩;clear hbk hal;go_enter Tryz.func10,Tryz.ntmps10;go_upto_region 1 with fail
 rw[<-hWB];clear hWB;go_upto_region 2 with(go_at_call 20;refine hr.mono ?_;rintro e w3 ⟨K,hD,b0,i1,i2,i3,i4,b5,b6,HOut,rfl,hb3⟩)
 have hb34:S w3.heap.size w3 (w3.alloc (N #[I b0,.int Z i1,.int Z i2,.int Z i3,.int Z i4,.bool b5,.bool b6] 50)):=(qD _ _).alloc (qB _) _;have ho4:(w3.alloc (N #[I b0,.int Z i1,.int Z i2,.int Z i3,.int Z i4,.bool b5,.bool b6] 50)).heap[w3.heap.size]? = U (N #[I b0,.int Z i1,.int Z i2,.int Z i3,.int Z i4,.bool b5,.bool b6] 50):=(MapKept.heap_alloc w3 _).1;generalize w3.alloc (N #[I b0,.int Z i1,.int Z i2,.int Z i3,.int Z i4,.bool b5,.bool b6] 50)=w4 at *;obtain⟨⟨hr9,hl9⟩,hbw9⟩:=HOB.out w4 (hb3.trans (hb34.mono hb3.size));obtain⟨r0,r1,r2,r3,r4,r5,r6⟩:=CZ hr9;have HR9:=(show M _ from hr9)
 have rf0:=Ai hr9 0;have rf1:=Ai hr9 1;have rf2:=Ai hr9 2;have rf3:=Ai hr9 3;have rf4:=Ai hr9 4;have rf5:=Ai hr9 5;have rf6:=Ai hr9 6;obtain⟨x0,x1,x2,x3,x4,x5,x6⟩:=CZ ho4;have HD:=(show M _ from hD);clear hr9 ho4 hb34 hb3 hr k0 k1 k2 k3 hal2 hD;generalize w3.heap.size=B at *
 go_wp2_with fail
 have hfin:=CZ (EV (w:=w4) HR9.out (.bool b0) (.int Z i1) (.int Z i2) (.int Z i3) (.int Z i4) (.bool b5) (.bool b6));have hbl:=L9 hbw9 (.bool b0) (.int Z i1) (.int Z i2) (.int Z i3) (.int Z i4) (.bool b5) (.bool b6);generalize(((((((w4.setCell ⟨w.heap.size+1,0,V⟩ (.bool b0)).setCell ⟨w.heap.size+1,1,V⟩ (.int Z i1)).setCell ⟨w.heap.size+1,2,V⟩ (.int Z i2)).setCell ⟨w.heap.size+1,3,V⟩ (.int Z i3)).setCell ⟨w.heap.size+1,4,V⟩ (.int Z i4)).setCell ⟨w.heap.size+1,5,V⟩ (.bool b5)).setCell ⟨w.heap.size+1,6,V⟩ (.bool b6))=WF at hfin hbl⊢;obtain⟨z0,z1,z2,z3,z4,z5,z6⟩:=hfin;refine bodyPost_ret (v:=ZZ #[r #[I b0,.int Z i1,.int Z i2,.int Z i3,.int Z i4,.bool b5,.bool b6],.bool true]) ?_ rfl ⟨K,HD.out,by rw[HOut.out],hbl⟩;simp[results,Tryz.results10,go_sem,z0,z1,z2,z3,z4,z5,z6]
theorem Pm{m:Mo}{ps:List (List (Int×Int))}{l:List (Int×Int)}{K:Nat}(hk:Ad m ps l=0)(h:BG m ps l K):GrLe (BR m ps l K):=by
 have e1:(BR m ps l K).spots.length=K:=h.1;have e2:(BR m ps l K).next.length=K:=DT K;have e3:(BR m ps l K).sets.length=K:=Dg K;have hm0:=(Ck (BX hk).1).1;have h6:=(CC (BX hk).2).2.2.2.2;refine⟨by rw[e1];have:=h.2.1;omega,by rw[e2];have:=h.2.1;omega,by rw[e3];have:=h.2.1;omega,fun i hi=>?_⟩;rw[e2]at hi;show((xpN m ps l K).getD i []).length<=_;rw[(J4 h hi).1];have hin:(xpP m ps l K).getD i (0,0)∈xpP m ps l K:=by
  have hl:i<(xpP m ps l K).length:=by rw[h.1];exact hi
  rw[qC,qH hl];exact qT _
 have:=H9 (ps:=ps) (l:=l) (c:=((xpP m ps l K).getD i (0,0)).2) hm0 (h.2.2.2 _ hin).1 h6;show(AX _ _ _ _ _).length<=_;omega
theorem Pv(m:Mo)(ps:List (List (Int×Int)))(l:List (Int×Int))(w:E)(hB:0<w.heap.size)(hT:AH w)(hk:Ad m ps l=0)(hnf:¬Ej m ps l)(va vr pv fv:A)(hV:TaskV w va vr pv fv m ps l) :
  FN w m ps l va vr pv fv:=by
 refine(Ps va vr pv fv m ps l w hB hT hV).mono fun e w2 hx=>?_;rcases hx with⟨_,K,hD,sv,nv,tv,e1,h2,HG⟩|⟨_,hf,_,_⟩|⟨h1,_,_⟩
 .have hGr:=HG.out.graph;obtain⟨so,sc,rfl⟩:=HG.out.1.shape;have hsp:=HG.out.1;obtain⟨us,n1,n2,n3⟩:=HG.out.2.1;have n1':=n1;obtain⟨no,nc,rfl⟩:=A1 n1;obtain⟨xo,xc,rfl⟩:=A1 HG.out.2.2;rw[hD.1,DT,Dg]at e1 hGr;have hok:=Pn hk hD;have hc0:Ct (BR m ps l K)=0:=LA hok.head hok.row;have e4:(BR m ps l K).spots.length=K:=hD.1;have e2:(BR m ps l K).next.length=K:=DT K;have e3:(BR m ps l K).sets.length=K:=Dg K;refine⟨K,so,sc,no,nc,xo,xc,hD,e1,h2,⟨?_,?_,fun i hi=>?_⟩,fun w3 h3=>?_⟩
  .have h9:=hsp.v;rw[hD.1]at h9;exact h9
  .obtain ⟨ao,cap,e9,⟨h8,_⟩,_⟩:=hsp.ops;injection e9 with _ _ a;have:=hD.1;omega
  .have hlK:(xpN m ps l K).length=K:=DT K;obtain⟨ao,c,q1,q2,_,_⟩:=n3 i (by omega);rcases n1.2 with⟨e9,h0⟩|⟨g,cap',cur,e9,hg⟩
   .rw[h0]at n2;simp at n2;omega
   .injection e9 with e1 _ _;subst e1;refine⟨g,ao,c,rfl,?_,q2⟩;have h5:=n1.cellAt i (by omega);rw[qC,qH (by omega),v7]at q1;rw[qH (by omega),q1]at h5;exact h5
  .have h:=UV so no xo sc nc xc (BR m ps l K) w3 (Pm hk hD) (by rw[e4,e2,e3];exact hGr.below h3) hc0;rw[e4,e2,e3]at h;exact h.mono fun e w4 ⟨g1,g2⟩=>⟨_,g1,g2⟩
 .exact absurd hf hnf
 .exact absurd hk h1
theorem Uh{m:Mo}{ps:List (List (Int×Int))}{l:List (Int×Int)}{P:Nat}(hk:Ad m ps l=0)(hP:AK m.vars m.vars.length=(P:Nat))(hP2:P<=16)(ha:(AA l).length<=2):(∀K,BG m ps l K->SmallK m ps l K)/\¬Ej m ps l:=by
 have h4:2^(AA l).length<=2^2:=Nat.pow_le_pow_right (by decide) ha;have h5:P*2^(AA l).length<=16*4:=Nat.mul_le_mul hP2 h4;refine⟨fun K hD=>⟨hk,hD,?_,by rw[hP];omega⟩,V7 hk hP (by omega)⟩;have:=Ns hP hD.2.2.2;rw[hD.1]at this;omega
theorem Nv(n many:Int)(w:E)(hn:I64 n)(hm:0<many)(hm2:many<=10000) :
  ZX qA 11 #[ZW Z n,.int Z many] w fun e w'=>e=C (.int Z (pk n many))/\w'=w:=by
 have h:=B5 n many w hn hm hm2;go_enter Tryz.func11,Tryz.ntmps11;go_wp2_with (go_at_call 21;refine h.mono ?_;rintro e w1 ⟨rfl,rfl⟩)
 go_ret;exact⟨rfl,rfl⟩
theorem LK:(qA.info? 40).map (fun i=>(i.zero,i.size,i.bytes))=U (U (r #[ZW Z 0,.int Z 0]),2,16):=by kernel_rfl
section
variable{m:Mo}{ps:List (List (Int×Int))}{l:List (Int×Int)}{K:Nat}
theorem KW(hs:SmallK m ps l K)(vs:List (Int×Int)):(A5 m ps l K vs).s<=(A5 m ps l K vs).n/\(A5 m ps l K vs).n<=fN m ps l (A5 m ps l K vs).n/\fN m ps l (A5 m ps l K vs).n<=K/\(AC m ps l).length<=fN m ps l (A5 m ps l K vs).n:=by
 have h:=SrOk.all hs vs;have hn:(A5 m ps l K vs).n<=K:=qI h.b h.c;refine⟨h.a,?_,(DP hs.done hn).2,?_⟩
 .by_cases e:(A5 m ps l K vs).n=K
  .rw[e,Ew hs.done];exact qB _
  .exact qS (FZ hs.done (by omega))
 .rw[<-GN];exact Ev (qJ _)
theorem PQ(hs:SmallK m ps l K)(vs:List (Int×Int)):dnS m ps l (A5 m ps l K vs)=((A5 m ps l K vs).up&&decide ((A5 m ps l K vs).n=fN m ps l (A5 m ps l K vs).n)):=by
 obtain⟨_,h2,_,_⟩:=KW hs vs;unfold dnS;congr 1
 exact decide_eq_decide.2 ⟨fun h=>Nat.le_antisymm h2 h,fun h=>by omega⟩
end
section
variable{m:Mo}{ps:List (List (Int×Int))}{l:List (Int×Int)}{K:Nat}
theorem Iv{st:Sr}(h:st.up=true)(x:Int):mvS m ps l K st (1,x)=wkS K st x.toNat:=by
 unfold mvS;rw[if_neg (show¬(1:Int)=4 by decide),if_neg (by simp[h]),if_pos rfl]
theorem SG{st:Sr}(h:st.up=true)(x:Int):mvS m ps l K st (3,x)=crS m ps l st x.toNat:=by
 unfold mvS;rw[if_neg (show¬(3:Int)=4 by decide),if_neg (by simp[h]),if_neg (show¬(3:Int)=1 by decide),if_neg (show¬(3:Int)=2 by decide)]
theorem SH(st:Sr)(x:Int):mvS m ps l K st (4,x)={ st with up:=true}:=by
 unfold mvS;rw[if_pos rfl]
theorem Pa(hs:SmallK m ps l K){st:Sr}{wk:Nat}(h:SrOk K st)(hup:st.up=true)(h0:st.n=0)(ha:st.ag+(st.mx-st.n)<=wk)(k:Nat):(mvS m ps l K (mvS m ps l K (mvS m ps l K st (1,(k:Int))) (3,0)) (4,0)).up=true/\(mvS m ps l K (mvS m ps l K (mvS m ps l K st (1,(k:Int))) (3,0)) (4,0)).n=0/\(mvS m ps l K (mvS m ps l K (mvS m ps l K st (1,(k:Int))) (3,0)) (4,0)).ag+((mvS m ps l K (mvS m ps l K (mvS m ps l K st (1,(k:Int))) (3,0)) (4,0)).mx-(mvS m ps l K (mvS m ps l K (mvS m ps l K st (1,(k:Int))) (3,0)) (4,0)).n)<=wk+k:=by
 have hw:=h.wk k;rw[Iv hup,SH,SG (by exact hup),jQ];have hcut:=(hs.cut (qI hw.b hw.c) hw.a 0).2.2.1 rfl;have hsn:(wkS K st k).s=0:=by have:=h.a;show st.s=0;omega
 have hz:CT m ps l (wkS K st k).n (wkS K st k).s 0=0:=by rw[hcut,hsn]
 refine⟨rfl,hz,?_⟩;show(wkS K st k).ag+((wkS K st k).mx-CT m ps l (wkS K st k).n (wkS K st k).s 0)<=wk+k;rw[hz];show st.ag+(min (min (st.n+k) K) st.mx-st.n)+(max st.mx (min (st.n+k) K)-0)<=wk+k;omega
end
noncomputable def kOf(m:Mo)(l:List (Int×Int)):Nat:=open Classical in if h:∃K,BG m Ac l K then h.choose else 0
theorem LR{m:Mo}{l:List (Int×Int)}{K:Nat}(h:BG m Ac l K):K=kOf m l:=by
 have hx:∃K,BG m Ac l K:=⟨K,h⟩;have e:kOf m l=hx.choose:=dif_pos hx;rw[e];exact Pk h hx.choose_spec
noncomputable def stO(m:Mo)(l:List (Int×Int))(vs:List (Int×Int)):Sr:=A5 m Ac l (kOf m l) vs
def SgK(m:Mo)(l:List (Int×Int)):Prop:=SmallK m Ac l (kOf m l)
structure OutIs(m:Mo)(l vs:List (Int×Int))(b0:Bool)(f n s ag:Nat)(d h:Bool):Prop where
 small:SgK m l
 up:b0=(stO m l vs).up
 fo:f=fN m Ac l (stO m l vs).n
 th:n=(stO m l vs).n
 sa:s=(stO m l vs).s
 ag:ag=(stO m l vs).ag
 dn:d=dnS m Ac l (stO m l vs)
 ho:h=(dnS m Ac l (stO m l vs)&&decide (BS (BR m Ac l (kOf m l))=11))
structure SgC(w:E)(va vr pv fv:A)(m:Mo)(l:List (Int×Int)):Prop where
 so:∀w',S w.heap.size w w'->∀(ao:Option Addr) (nn cap:Nat) (vs:List (Int×Int)),vs.length=nn->Bv vs->OpsV w' (Y ao nn cap) vs->ZX qA 10 #[r #[va,vr,pv,fv],Y ao nn cap] w' fun e w2=>∃(b0:Bool) (f n s ag:Nat) (d h:Bool),e=C (ZZ #[r #[I b0,.int Z (f:Nat),.int Z (n:Nat),.int Z (s:Nat),.int Z (ag:Nat),.bool d,.bool h],.bool true])/\S w'.heap.size w' w2/\M (OutIs m l vs b0 f n s ag d h)
 ex:∀w',S w.heap.size w w'->ZX qA 9 #[r #[va,vr,pv,fv]] w' fun e w2=>∃(so no xo:Option Addr) (K bn an sc nc xc:Nat),e=C (ZZ #[r #[Y so K sc,.int Z (bn:Nat),Y no K nc,Y xo K xc,.int Z (an:Nat)],.int Z 0])/\S w'.heap.size w' w2/\K<=1000/\M (K=kOf m l/\bn=(AC m Ac l).length/\SgK m l)
theorem SgC.below{w w':E}{va vr pv fv:A}{m:Mo}{l:List (Int×Int)}(h:SgC w va vr pv fv m l)(hb:S w.heap.size w w'):SgC w' va vr pv fv m l:=
 ⟨fun w2 h2=>h.so w2 (hb.trans (h2.mono hb.size)),fun w2 h2=>h.ex w2 (hb.trans (h2.mono hb.size))⟩
theorem UX{m:Mo}{a b:Vr}{l:List (Int×Int)}{mm:Nat}(hG:GV a b)(hk:KTaskOk m l mm)(hvars:m.vars=[a,b])(hmm:mm<=2):(∀K,BG m Ac l K->SmallK m Ac l K)/\¬Ej m Ac l:=by
 have hspan:1<=AM a*AM b/\AM a*AM b<=16:=by
  have h1:1<=AM a/\AM a<=4:=by have:=hG.a2;have:=hG.a3;unfold AM;omega
  have h2:1<=AM b/\AM b<=4:=by have:=hG.b2;have:=hG.b3;unfold AM;omega
  obtain⟨x1,x2⟩:=h1;obtain⟨y1,y2⟩:=h2;generalize AM a=x at *;generalize AM b=y at *
  rcases(show x=1\/x=2\/x=3\/x=4 by omega)with rfl|rfl|rfl|rfl<;>omega
 have hah:(AA l).length=mm:=by obtain⟨T,hT⟩:=hk.fo;exact hT.ahead
 refine Uh (P:=(AM a*AM b).toNat) hk.code ?_ (by omega) (by omega);rw[hvars];show AK [a,b] 2=_;rw[TN];omega
theorem UY{m:Mo}{a b:Vr}{l:List (Int×Int)}{mm:Nat}{w:E}{va vr pv fv:A}(hB:0<w.heap.size)(hT:AH w)(hG:GV a b)(hk:KTaskOk m l mm)(hvars:m.vars=[a,b])(hmm:mm<=2)(hV:TaskV w va vr pv fv m Ac l):SgC w va vr pv fv m l:=by
 obtain⟨hS,hF⟩:=UX hG hk hvars hmm;have hE:∀w',S w.heap.size w w'->FN w' m Ac l va vr pv fv:=fun w' h=>Pv m Ac l w' (qE hB h.size) (hT.below h hB) hk.code hF va vr pv fv (hV.below h);refine⟨fun w' h ao nn cap vs e hm hO=>?_,fun w' h=>?_⟩
 .subst e;refine(Ul m Ac l w' va vr pv fv (fun w2 h2=>hE w2 (h.trans (h2.mono h.size))) hS vs ao cap hm hO).mono fun e w2 ⟨K,hD,e1,hb⟩=>?_;obtain rfl:=LR hD;exact⟨_,_,_,_,_,_,_,e1,hb,⟨hS _ hD,rfl,rfl,rfl,rfl,rfl,rfl,rfl⟩⟩
 .refine (hE w' h).mono fun e w2 ⟨K,so,sc,no,nc,xo,xc,hD,e1,hb,_⟩=>?_;have e2:=LR hD;have hS2:=hS K hD;exact⟨so,no,xo,K,_,_,sc,nc,xc,e1,hb,hS2.few,e2,rfl,by unfold SgK;rw[<-e2];exact hS2⟩
theorem UZ(c0 c1 c2 c3 c4 c5 c6:A)(a b:Vr)(rawv:A)(rs:List (Int×Int))(w:E)(hB:0<w.heap.size)(hT:AH w)(hG:GV a b)(hR:Raws w w.heap.size rawv rs)
  (hmd:∀w',S w.heap.size w w'->ZX qA 13 #[r #[c0,c1,c2,c3,c4,c5,c6]] w' fun e w2=>∃va vr,e=C (r #[va,vr])/\S w'.heap.size w' w2/\GModel w2 va vr [a,b]) :
  ZX qA 7 #[r #[c0,c1,c2,c3,c4,c5,c6],rawv,.int Z 2] w fun e w'=>∃(ao ro po fo:Option Addr) (rn fn ac rc fc:Nat) (m:Mo) (l:List (Int×Int)),e=C (r #[Y ao 2 ac,Y ro rn rc,Y po 3 3,Y fo fn fc])/\S w.heap.size w w'/\M (SgC w' (Y ao 2 ac) (Y ro rn rc) (Y po 3 3) (Y fo fn fc) m l):=by
 refine(VB c0 c1 c2 c3 c4 c5 c6 a b rawv rs 2 w hG (by decide) hR hmd).mono fun e w' ⟨ao,ac,ro,rn,rc,pb,fo,fn,fc,m,l,mm,e1,hb,HV,HK,hmm,_⟩=>?_;obtain⟨hok,hvars,_,_⟩:=HK.out;exact⟨ao,ro,_,fo,rn,fn,ac,rc,fc,m,l,e1,hb,UY (qE hB hb.size) (hT.below hb hB) hG hok hvars hmm HV.out⟩
theorem ME{w:E}{base:Nat}{ao:Option Addr}{n cap:Nat}{l:List (Int×Int)}(hn:l.length=n)(h:w.ownsRow base 40 2 (Y ao n cap) n (flat l)):OpsV w (Y ao n cap) l:=by
 subst hn;rcases h.2 with⟨e,h0⟩|⟨g,cap,cur,e,hb,hg,hnc,hcm,hcs,htake⟩
 .have:l=[]:=by simpa using h0
  subst this;cases e
  exact⟨V,0,rfl,⟨by simp,fun _=>⟨rfl,rfl⟩⟩,fun h=>absurd rfl h⟩
 .cases e
  refine⟨_,cap,rfl,⟨hnc,fun h=>by simp at h⟩,fun _=>⟨g,0,rfl,?_,fun i hi=>?_⟩⟩
  .exact (qG.1 hg).1
  .obtain ⟨f0,f1⟩:=Fb l i hi;rw[h.cellAt _ (by omega),h.cellAt _ (by omega)];simpa using⟨f0,f1⟩
theorem OpsV.cut{w:E}{ao:Option Addr}{n cap k:Nat}{l:List (Int×Int)}(h:OpsV w (Y ao n cap) l)(hn:l.length=n)(hk:k<=n):OpsV w (Y ao k k) (l.take k):=by
 obtain⟨ao',cap',e,⟨h1,h2⟩,h3⟩:=h;cases e
 have hl:(l.take k).length=k:=by rw[List.length_take];omega
 refine⟨ao,k,by rw[hl],⟨by omega,fun h=>?_⟩,fun hne=>?_⟩
 .obtain ⟨_,h5⟩:=h2 h;subst h5;simp at hn hl;exact⟨by omega,by simp⟩
 .have hl0:l≠[]:=by rintro rfl;simp at hne
  obtain⟨b,off,e,hlt,hat⟩:=h3 hl0;refine⟨b,off,e,hlt,fun i hi=>?_⟩;rw[hl]at hi;have:=hat i (by omega);rw[qC,List.getElem?_take_of_lt hi,<-qC];exact this
theorem Bv.app{l x:List (Int×Int)}(h:Bv l)(hx:∀v∈x,1<=v.1/\v.1<=4/\0<=v.2/\v.2<=2147483647)(hl:l.length+x.length<=5000):Bv (l++x):=by
 refine⟨by rw[qF];exact hl,fun i hi=>?_⟩;rw[qF]at hi;by_cases h1:i<l.length
 .rw[qC,List.getElem?_append_left h1,<-qC];exact h.2 i h1
 .rw[qC,List.getElem?_append_right (by omega),qH (by omega),v7];exact hx _ (qT _)
theorem Bv.nil:Bv []:=⟨by simp,fun i hi=>by simp at hi⟩
theorem Jg(m:Mo)(l a b:List (Int×Int)):stO m l (a++b)=b.foldl (mvS m Ac l (kOf m l)) (stO m l a):=Mw a b
section
variable{m:Mo}{l vs us:List (Int×Int)}{b0 b0':Bool}{f n s ag f' n' s' ag':Nat}{d h d' h':Bool}
theorem OutIs.facts(H:OutIs m l vs b0 f n s ag d h):s<=n/\n<=f/\f<=kOf m l/\(AC m Ac l).length<=f/\d=(b0&&decide (n=f))/\kOf m l<=1000:=by
 obtain⟨a1,a2,a3,a4⟩:=KW H.small vs;have a5:=PQ H.small vs;obtain⟨hs,rfl,rfl,rfl,rfl,rfl,rfl,rfl⟩:=H;exact⟨a1,a2,a3,a4,a5,hs.few⟩
theorem Ut(hs:SgK m l)(vs:List (Int×Int)):SrOk (kOf m l) (stO m l vs):=SrOk.all hs vs
end
section
variable{vs:List (Int×Int)}{k:Nat}
end
section
variable{m:Mo}{l vs:List (Int×Int)}{b0:Bool}{f n s ag:Nat}{d h:Bool}
end
def enL(cs:List Int):Nat->List (Int×Int)
 |0=>[]
 |k+1=>enL cs k++[(1,pk (cs.getD k 0) 15),(3,0),(4,0)]
def enW(cs:List Int):Nat->Nat
 |0=>0
 |k+1=>enW cs k+(pk (cs.getD k 0) 15).toNat
section
variable{m:Mo}{l:List (Int×Int)}{cs:List Int}
theorem JH(x:Int):0<=pk x 15/\pk x 15<15:=BU (by decide)
theorem Kv(cs:List Int):∀k,(enL cs k).length=3*k
 |0=>rfl
 |k+1=>by show(enL cs k++_).length=_;rw[qF,Kv cs k];simp;omega
theorem Kw(cs:List Int):∀(k:Nat) (v:Int×Int),v∈enL cs k->1<=v.1/\v.1<=4/\0<=v.2/\v.2<=2147483647
 |0,v,h=>by cases h
 |k+1,v,h=>by
  have h0:=JH (cs.getD k 0);rcases List.mem_append.1 h with h|h
  .exact Kw cs k v h
  .simp only[List.mem_cons,jU,or_false]at h;rcases h with rfl|rfl|rfl
   .exact ⟨(by decide:(1:Int)<=1),(by decide:(1:Int)<=4),h0.1,by show pk _ 15<=_;omega⟩
   .exact ⟨by decide,by decide,by decide,by decide⟩
   .exact ⟨by decide,by decide,by decide,by decide⟩
theorem IR(hs:SgK m l)(cs:List Int):∀k,(stO m l (enL cs k)).up=true/\(stO m l (enL cs k)).n=0/\(stO m l (enL cs k)).ag+((stO m l (enL cs k)).mx-(stO m l (enL cs k)).n)<=enW cs k
 |0=>⟨rfl,rfl,qB _⟩
 |k+1=>by
  obtain⟨h1,h2,h3⟩:=IR hs cs k;have h0:=JH (cs.getD k 0);have e:stO m l (enL cs (k+1))=mvS m Ac l (kOf m l) (mvS m Ac l (kOf m l) (mvS m Ac l (kOf m l) (stO m l (enL cs k)) (1,((pk (cs.getD k 0) 15).toNat:Int))) (3,0)) (4,0):=by
   show stO m l (enL cs k++[(1,pk (cs.getD k 0) 15),(3,0),(4,0)])=_;rw[Jg,Int.toNat_of_nonneg h0.1];rfl
  rw[e];exact Pa hs (Ut hs _) h1 h2 h3 _
variable{b0:Bool}{f n s ag:Nat}{d h:Bool}{k:Nat}
theorem PY{K:Nat}(hK:K=kOf m l)(H:OutIs m l (enL cs k++[(1,(K:Int))]) b0 f n s ag d h):d=true/\n=K/\ag<=enW cs k:=by
 obtain⟨h1,h2,h3⟩:=IR H.small cs k;have e:stO m l (enL cs k++[(1,(K:Int))])=wkS (kOf m l) (stO m l (enL cs k)) K:=by
  rw[Jg];show mvS m Ac l (kOf m l) (stO m l (enL cs k)) (1,(K:Int))=_;rw[Iv h1,jQ]
 have hn:n=K:=by
  rw[H.th,e];show min ((stO m l (enL cs k)).n+K) (kOf m l)=K;omega
 have hu:b0=true:=by rw[H.up,e];exact h1
 have hf:f=K:=by rw[H.fo,<-H.th,hn,hK];exact Ew H.small.done
 refine⟨?_,hn,?_⟩
 .rw[H.facts.2.2.2.2.1,hu,hn,hf];simp
 .rw[H.ag,e];show(stO m l (enL cs k)).ag+(min (min ((stO m l (enL cs k)).n+K) (kOf m l)) (stO m l (enL cs k)).mx-(stO m l (enL cs k)).n)<=_;omega
theorem PZ{K:Nat}(hK:K=kOf m l)(H:OutIs m l (enL cs k++[(1,max ((K:Int)-1) 0)]) b0 f n s ag d h):d=decide (K=0):=by
 obtain⟨h1,h2,_⟩:=IR H.small cs k;have e:stO m l (enL cs k++[(1,max ((K:Int)-1) 0)])=wkS (kOf m l) (stO m l (enL cs k)) (K-1):=by
  rw[Jg];show mvS m Ac l (kOf m l) (stO m l (enL cs k)) (1,max ((K:Int)-1) 0)=_;rw[Iv h1,show(max ((K:Int)-1) 0).toNat=K-1 by omega]
 have hn:n=K-1:=by
  rw[H.th,e];show min ((stO m l (enL cs k)).n+(K-1)) (kOf m l)=K-1;omega
 have hu:b0=true:=by rw[H.up,e];exact h1
 rw[H.facts.2.2.2.2.1,hu,Bool.true_and];by_cases h0:K=0
 .have hf:f=K:=by
   rw[H.fo,<-H.th,hn,show K-1=kOf m l by omega,hK];exact Ew H.small.done
  rw[hn,hf,h0]
 .have hf:n<f:=by
   rw[H.fo,<-H.th];exact FZ H.small.done (by omega)
  rw[decide_eq_false h0,decide_eq_false (by omega)]
end
theorem DN{w W:E}(h:S w.heap.size w W)(o:Obj):S w.heap.size w (W.alloc o):=h.alloc h.size o
theorem Bz{w W W2:E}(h:S w.heap.size w W)(h2:S W.heap.size W W2):S w.heap.size w W2:=h.trans (h2.mono h.size)
def ocB(b0:Bool)(f n s ag:Nat)(d h:Bool):Obj:=N #[I b0,.int Z (f:Nat),.int Z (n:Nat),.int Z (s:Nat),.int Z (ag:Nat),.bool d,.bool h] 50 (0,0)
structure OcAt(w wz:E)(X:Nat)(m:Mo)(l vs:List (Int×Int))(b0:Bool)(f n s ag:Nat)(d h:Bool):Prop where
 bel:S w.heap.size w wz
 box:wz.heap[X]? = U (ocB b0 f n s ag d h)
 out:OutIs m l vs b0 f n s ag d h
section
variable{w wz wy:E}{X:Nat}{m:Mo}{l vs:List (Int×Int)}{b0:Bool}{f n s ag:Nat}{d h:Bool}
theorem OcAt.on(H:OcAt w wz X m l vs b0 f n s ag d h)(hb:S wz.heap.size wz wy):OcAt w wy X m l vs b0 f n s ag d h:=
 ⟨Bz H.bel hb,(hb.block X (qG.1 H.box).1).trans H.box,H.out⟩
theorem OcAt.cells(H:OcAt w wz X m l vs b0 f n s ag d h):wz.cell? ⟨X,0,V⟩=U (.bool b0)/\wz.cell? ⟨X,1,V⟩=U (.int Z (f:Nat))/\wz.cell? ⟨X,2,V⟩=U (.int Z (n:Nat))/\wz.cell? ⟨X,3,V⟩=U (.int Z (s:Nat))/\wz.cell? ⟨X,4,V⟩=U (.int Z (ag:Nat))/\wz.cell? ⟨X,5,V⟩=U (.bool d)/\wz.cell? ⟨X,6,V⟩=U (.bool h):=CZ H.box
theorem KS{x:Nat}{a0 a1 a2 a3 a4 a5 a6:A}(hb:S w.heap.size w wz)(hx:w.heap.size<=x):S w.heap.size w (((((((wz.setCell ⟨x,0,V⟩ a0).setCell ⟨x,1,V⟩ a1).setCell ⟨x,2,V⟩ a2).setCell ⟨x,3,V⟩ a3).setCell ⟨x,4,V⟩ a4).setCell ⟨x,5,V⟩ a5).setCell ⟨x,6,V⟩ a6):=
 ((((((hb.setCell (p:=⟨x,0,V⟩) hx _).setCell (p:=⟨x,1,V⟩) hx _).setCell (p:=⟨x,2,V⟩) hx _).setCell (p:=⟨x,3,V⟩) hx _).setCell (p:=⟨x,4,V⟩) hx _).setCell (p:=⟨x,5,V⟩) hx _).setCell (p:=⟨x,6,V⟩) hx _
end
theorem ES(w:E)(o:Obj):(w.alloc o).heap[w.heap.size]? = U o:=(MapKept.heap_alloc w o).1
theorem Vz{x:Int}(h1:0<=x)(h2:x<=1000000):IntKind.i64.wrap x=x:=by
 simp[IntKind.wrap,IntKind.bits,IntKind.signed];omega
theorem Sp{w:E}{base g n k cap:Nat}{vs us:List (Int×Int)}(h:w.ownsRow base 40 2 (Y (U ⟨g,0,V⟩) (n+k) cap) (n+k) (flat vs++flat us))(hv:vs.length=n)(hu:us.length=k):OpsV w (Y (U ⟨g,0,V⟩) (n+k) cap) (vs++us):=by
 rw[<-Fa]at h;exact ME (by rw[qF,hv,hu]) h
theorem Sq{w:E}{ao:Option Addr}{n cap:Nat}{vs:List (Int×Int)}(h:OpsV w (Y ao n cap) vs)(hn:vs.length=n):(ao=V->n=0/\cap=0)/\∀b,ao=U b->∀j u,(flat vs)[j]? = U u->w.cell? (b.add j)=U u:=by
 obtain⟨ao',cap',e,⟨h1,h2⟩,h3⟩:=h;cases e
 refine⟨fun e=>?_,fun b e j u hj=>?_⟩
 .obtain ⟨h4,h5⟩:=h2 e;subst h5;exact⟨hn.symm,h4⟩
 .have hne:vs≠[]:=by rintro rfl;simp[flat]at hj
  obtain⟨b',off,e2,hlt,hat⟩:=h3 hne;rw[e]at e2;cases e2
  exact hat.cells j u hj
theorem Bv.lit{x:List (Int×Int)}(hx:∀v∈x,1<=v.1/\v.1<=4/\0<=v.2/\v.2<=2147483647)(hl:x.length<=5000):Bv x:=Bv.nil.app hx (by simpa using hl)
noncomputable def ocV(m:Mo)(l vs:List (Int×Int)):Value:=r #[I (stO m l vs).up,.int Z (fN m Ac l (stO m l vs).n:Nat),.int Z ((stO m l vs).n:Nat),.int Z ((stO m l vs).s:Nat),.int Z ((stO m l vs).ag:Nat),.bool (dnS m Ac l (stO m l vs)),.bool (dnS m Ac l (stO m l vs)&&decide (BS (BR m Ac l (kOf m l))=11))]
theorem NE{w0 w:E}{va vr pv fv:A}{m:Mo}{l:List (Int×Int)}(HC:SgC w0 va vr pv fv m l)(hb:S w0.heap.size w0 w){ao:Option Addr}{nn cap:Nat}{vs:List (Int×Int)}(hn:vs.length=nn)(hm:Bv vs)(hO:OpsV w (Y ao nn cap) vs):ZX qA 10 #[r #[va,vr,pv,fv],Y ao nn cap] w fun e w2=>e=C (ZZ #[ocV m l vs,.bool true])/\S w.heap.size w w2/\M (SgK m l):=by
 refine(HC.so w hb ao nn cap vs hn hm hO).mono fun e w2 ⟨b0,f,n,s,ag,d,h,e1,h2,h3⟩=>⟨?_,h2,h3.out.small⟩;obtain⟨_,h4,h5,h6,h7,h8,h9,h10⟩:=h3.out;rw[e1];unfold ocV;rw[h4,h5,h6,h7,h8,h9,h10]
noncomputable def ocO(m:Mo)(l vs:List (Int×Int)):Obj:=ocB (stO m l vs).up (fN m Ac l (stO m l vs).n) (stO m l vs).n (stO m l vs).s (stO m l vs).ag (dnS m Ac l (stO m l vs)) (dnS m Ac l (stO m l vs)&&decide (BS (BR m Ac l (kOf m l))=11))
inductive SqD where
 |val (x:A)
 |lit (cs:Array A) (k:Nat)
 |app (l:List (Int×Int)) (n:Nat)
 |tup (oc:A) (Sm:Prop)
def KF(cs:Array A)(k:Nat)(v:A)(w:E):Prop:=∃g,v=Y (U ⟨g,0,V⟩) k k/\w.heap[g]? = U (N cs 40 (0,0))
def J7(l:List (Int×Int))(n:Nat)(v:A)(w:E):Prop:=∃g cap,v=Y (U ⟨g,0,V⟩) n cap/\OpsV w (Y (U ⟨g,0,V⟩) n cap) l
def SqD.At:SqD->Bool->A->E->Prop
 | .val x,_,v,_=>v=x
 | .lit cs k,c,v,w=>c=true\/KF cs k v w
 | .app l n,c,v,w=>c=true\/J7 l n v w
 | .tup oc Sm,_,v,_=>v=ZZ #[oc,.bool true]/\Sm
def FL(base:Nat)(fo:Obj)(c:Bool)(v:A)(w:E):Prop:=∃g,v=ZY (U ⟨g,0,V⟩)/\base<=g/\w.heap[g]? = U (if c=true then fo else N #[I O,.int Z 0,.int Z 0,.int Z 0,.int Z 0,.bool O,.bool O] 50 (0,0))
def SqP(fs:List SqD)(bx base:Nat)(fo:Obj)(i:Nat)(_ c:Bool)(v:A)(w:E):Prop:=if i=bx then FL base fo c v w else(fs.getD i (.val .nilIface)).At c v w
theorem orF{p:Prop}(h:O=true\/p):p:=h.resolve_left (fun h=>by cases h)
section
variable{fs:List SqD}{bx base:Nat}{fo:Obj}{b:Bool}{w w':E}
theorem KJ(i:Nat)(b c:Bool)(v:A)(w w':E)(h:SqP fs bx base fo i b c v w)(hb:S w.heap.size w w'):SqP fs bx base fo i b c v w':=by
 unfold SqP at *
 by_cases hi:i=bx
 .rw[if_pos hi]at *
  obtain⟨g,h1,h0,h2⟩:=h;exact⟨g,h1,h0,(hb.block g (qG.1 h2).1).trans h2⟩
 .rw[if_neg hi]at *
  generalize fs.getD i (.val .nilIface)=F at *
  cases F with
  |val x=>exact h
  |lit cs k=>exact h.imp id fun⟨g,h1,h2⟩=>⟨g,h1,(hb.block g (qG.1 h2).1).trans h2⟩
  |app l n=>exact h.imp id fun⟨g,c,h1,h2⟩=>⟨g,c,h1,h2.below hb⟩
  |tup oc Sm=>exact h
theorem KI{ops:Array Oper}{tb g:Nat}{q:Nat->A}(hd:An ops bx=U tb)(hq:q tb=ZY (U ⟨g,0,V⟩))(hf:w'.heap[g]? = U fo)(j t:Nat)(ht:An ops j=U t)(h:SqP fs bx base fo j b O (q t) w):SqP fs bx base fo j b true (q t) w':=by
 unfold SqP at *
 by_cases hi:j=bx
 .subst hi;rw[if_pos rfl]at *;rw[hd]at ht;obtain rfl:=Option.some.inj ht;obtain⟨g',h1,h0,_⟩:=h;rw[hq]at h1
  injection h1 with h1;injection h1 with h1;injection h1 with h1;subst h1;exact⟨g,hq,h0,hf⟩
 .rw[if_neg hi]at *
  generalize fs.getD j (.val .nilIface)=F at *
  cases F with
  |val x=>exact h
  |lit cs k=>exact .inl rfl
  |app l n=>exact .inl rfl
  |tup oc Sm=>exact h
end
theorem MB{o:Oper}{a:Act}{w:E}{K:Act->E->Prop}{Q:Exit->Act->E->Prop}(s x:Operand)(ho:o.op=.call { callee:=.builtin .append,args:=#[s,x],argTypes:=#[37,37]})
  (ao:Option Addr) (n:Nat) (vs us:List (Int×Int)) (hs:a.eval s=Y ao n n) (hV:OpsV w (Y ao n n) vs) (hn:vs.length=n) (cs:Array A) (k:Nat) (hx:KF cs k (a.eval x) w) (hc:cs.toList=flat us) (hk:us.length=k) (h0:0<k) (hb:n+k<=100000)
  (hK:∀v w',S w.heap.size w w'->J7 (vs++us) (n+k) v w'->K (a.put o.dst v) w'):Oper.wp qA o a w K Q:=by
 obtain⟨L,hx,hL⟩:=hx;obtain⟨i0,hi,hz0,hz1,hz2⟩:=info_parts LK;obtain⟨f1,f2⟩:=Sq hV hn;have hnews:∀j u,(flat us)[j]? = U u->w.cell? ((⟨L,0,V⟩:Addr).add j)=U u:=fun j u hj=>World.news_of_block hL j u (by rw[hc];exact hj);have hfin:∀v' w',w'.ownsRow w.heap.size 40 2 v' (n+k) (flat vs++flat us)->w.grownBy w' V->K (a.put o.dst v') w':=fun v' w' h1 h2=>by
  obtain⟨g,cap,rfl,_,_⟩:=h1.form (by omega);exact hK _ w' (Below.grown (qD _ _) h2 (qB _) (fun z hz=>by cases hz)) ⟨g,cap,rfl,Sp h1 hn hk⟩
 have hl1:(flat vs).length=n*2:=by rw[GR,hn]
 have hl2:(flat us).length=k*2:=by rw[GR,hk]
 cases ao with
 |some b=>
  obtain⟨v',w',hrun,r1,r2⟩:=run_append_arg_grows (P:=qA) w 37 o.type 40 i0 _ 2 16 Tryz.underlying37 hi hz0 hz1 hz2 rfl (by decide) b n n (flat vs) hl1 (f2 b rfl) ⟨L,0,V⟩ k k (flat us) hl2 hnews (by omega) (by unfold maxLen;omega) (by omega);unfold Oper.wp;simp[execOp,ho,resolve,invoke,builtin,hs,hx,hrun,Result.andThen];exact hfin v' w' r1 r2
 |none=>
  obtain⟨rfl,_⟩:=f1 rfl;obtain rfl:vs=[]:=List.length_eq_zero_iff.1 hn;obtain⟨v',w',hrun,r1,r2,_⟩:=run_append_own (P:=qA) w w.heap.size 37 o.type 40 i0 _ 2 16 Tryz.underlying37 hi hz0 hz1 hz2 rfl (by decide) (Y V 0 0) 0 [] (World.ownsRow_nil w _ _ _) ⟨L,0,V⟩ k k (flat us) hl2 hnews (IW us) (by unfold maxLen;omega) (by omega) (qB _);unfold Oper.wp;simp[execOp,ho,resolve,invoke,builtin,hs,hx,hrun,Result.andThen];exact hfin v' w' r1 r2
theorem UO(c0 c1 c2 c3 c4 c5 c6:A)(a b:Vr)(rawv:A)(rs:List (Int×Int))(cv:A)(cs:List Int)(w:E)(hB:0<w.heap.size)(hT:AH w)(hG:GV a b)(hR:Raws w w.heap.size rawv rs)(hcr:IntsR w cv cs)
  (hmd:∀w',S w.heap.size w w'->ZX qA 13 #[r #[c0,c1,c2,c3,c4,c5,c6]] w' fun e w2=>∃va vr,e=C (r #[va,vr])/\S w'.heap.size w' w2/\GModel w2 va vr [a,b]) :
  ZX qA 5 #[r #[c0,c1,c2,c3,c4,c5,c6],rawv,cv] w fun e w'=>e=C (.bool true)/\S w.heap.size w w':=by
 have hA1:S w.heap.size w (w.alloc (N #[c0,c1,c2,c3,c4,c5,c6] 25)):=DN (qD _ _) _;have htk:=UZ c0 c1 c2 c3 c4 c5 c6 a b rawv rs _ (qE hB hA1.size) (hT.below hA1 hB) hG (hR.up hA1) (fun w' h=>hmd w' (Bz hA1 h));obtain⟨ra,rn0,rc0,hra⟩:∃a n c,rawv=Y a n c:=by obtain⟨⟨a,c,h,_⟩,_,_⟩:=hR;exact⟨_,_,_,h⟩
 subst hra;obtain⟨co,cc,hce,hcat⟩:=hcr.v;subst hce;have HCs:M (∀W,S w.heap.size w W->∀k,k<cs.length->∃b off,co=U ⟨b,off,V⟩/\W.cell? ⟨b,off+k,V⟩=U (.int Z (cs.getD k 0))):=fun W h k hk=>by
  obtain⟨b,off,e,hlt,hat⟩:=hcat (by rintro rfl;simp at hk);exact⟨b,off,e,(h.cell (p:=⟨b,off+k,V⟩) hlt).trans (hat k hk)⟩
 have HCr:M (∀k,k<cs.length->I64 (cs.getD k 0)):=hcr.range;have hcl:=hcr.len;obtain⟨cq,hcq⟩:∃n,n=cs.length:=⟨_,rfl⟩;have HCq:M (cq=cs.length):=hcq;rw[<-hcq]at hcl⊢;clear hcr hcat hcq;clear hmd hR hT hG;go_enter Tryz.func5,Tryz.ntmps5;go_upto_region 2 with(go_at_call 7;refine htk.mono ?_;rintro e w1 ⟨ao,ro,po,fo,rn,fn,ac,rc,fc,m,l,rfl,hb1,HC1⟩)
 have hbw1:=Bz hA1 hb1;have hbA:S w1.heap.size w1 (w1.alloc (N #[Y ao 2 ac,Y ro rn rc,Y po 3 3,Y fo fn fc] 35)):=DN (qD _ _) _;have hbw2:=Bz hbw1 hbA;have hbx:(w1.alloc (N #[Y ao 2 ac,Y ro rn rc,Y po 3 3,Y fo fn fc] 35)).heap[w1.heap.size]? = U (tkB (Y ao 2 ac) (Y ro rn rc) (Y po 3 3) (Y fo fn fc)):=ES w1 _;have HC:M (SgC (w1.alloc (N #[Y ao 2 ac,Y ro rn rc,Y po 3 3,Y fo fn fc] 35)) (Y ao 2 ac) (Y ro rn rc) (Y po 3 3) (Y fo fn fc) m l):=HC1.out.below hbA;generalize w1.alloc (N #[Y ao 2 ac,Y ro rn rc,Y po 3 3,Y fo fn fc] 35)=W2 at *;generalize w1.heap.size=X at *
 have hXl:X<W2.heap.size:=(qG.1 hbx).1;have HT2:M (∀W,S W2.heap.size W2 W->W.cell? ⟨X,0,V⟩=U (Y ao 2 ac)/\W.cell? ⟨X,1,V⟩=U (Y ro rn rc)/\W.cell? ⟨X,2,V⟩=U (Y po 3 3)/\W.cell? ⟨X,3,V⟩=U (Y fo fn fc)):=fun W h=>VI ((h.block X hXl).trans hbx);have HW2:M (S w.heap.size w W2):=hbw2;clear hbw1 hbA hbw2 hbx hA1 hb1 htk HC1 hB;obtain⟨p0,p1,p2,p3⟩:=HT2.out W2 (qD _ _);have hex:=HC.out.ex W2 (qD _ _);go_upto_region 3 with(go_at_call 9;refine hex.mono ?_;rintro e w3 ⟨so,no,xo,K,bn,an,sc,nc,xc,rfl,hb3,hK,HK⟩)
 have hbG:S W2.heap.size W2 (w3.alloc (N #[Y so K sc,.int Z (bn:Nat),Y no K nc,Y xo K xc,.int Z (an:Nat)] 45)):=DN (Bz (qD _ _) hb3) _;have hbG9:S W2.heap.size W2 (w3.alloc (N #[Y so K sc,.int Z (bn:Nat),Y no K nc,Y xo K xc,.int Z (an:Nat)] 45)):=DN hb3 _;have hbg:(w3.alloc (N #[Y so K sc,.int Z (bn:Nat),Y no K nc,Y xo K xc,.int Z (an:Nat)] 45)).heap[w3.heap.size]? = U (grB (Y so K sc) (Y no K nc) (Y xo K xc) (bn:Nat) (an:Nat)):=ES w3 _;generalize w3.alloc (N #[Y so K sc,.int Z (bn:Nat),Y no K nc,Y xo K xc,.int Z (an:Nat)] 45)=W4 at *
 generalize w3.heap.size=G at *;have hGl:G<W4.heap.size:=(qG.1 hbg).1
 have HG:M (∀W,S W4.heap.size W4 W->W.cell? ⟨G,0,V⟩=U (Y so K sc)/\W.cell? ⟨G,1,V⟩=U (.int Z (bn:Nat))):=fun W h=>by
  have h9:=EO ((h.block G hGl).trans hbg);exact⟨h9.1,h9.2.1⟩
 have HB4:M (S W2.heap.size W2 W4):=hbG;have HB42:M (S W2.heap.size W2 W4):=hbG9;clear hex p0 p1 p2 p3 hb3 hbG hbG9 hbg;obtain⟨i0,hi,hz0,hz1,hz2⟩:=info_parts LK;have HS0:M (W4.ownsRow W4.heap.size 40 2 (Y V 0 0) 0 (flat (enL cs 0))):=World.ownsRow_nil _ _ _ _;obtain⟨g0,g1⟩:=HG.out W4 (qD _ _);go_upto_region 7 with fail
 clear g0 g1;go_loopw [11,12,13] (fun os wk i wr=>∃(k n:Nat) (vo:Option Addr) (vc x:Nat),k<=cq/\k<=8/\n<=3*k/\x<=15*k/\os=Y vo n vc/\wk=.int Z (x:Int)/\i=.int Z (k:Int)/\M ((S W4.heap.size W4 wr/\x=enW cs k/\n=(enL cs k).length)/\wr.ownsRow W4.heap.size 40 2 (Y vo n vc) n (flat (enL cs k)))) (fun _ _ i _=>cq-(intOf i).toNat)
 case atStart=>exact⟨0,0,V,0,0,by omega,by omega,by omega,by omega,rfl,rfl,rfl,⟨qD _ _,rfl,rfl⟩,HS0.out⟩
 case round=>
  obtain⟨k,n,vo,vc,x,hk1,hk8,hn1,hx1,rfl,rfl,rfl,HW⟩:=hrel;have hcase:(k<cq/\k<8)\/(¬k<cq)\/(k<cq/\¬k<8):=by omega
  rcases hcase with⟨hk,hk9⟩|hout
  .have hki:(k:Int)<(cq:Int):=by omega
   have hk8i:(k:Int)<8:=by omega
   obtain⟨b,off,rfl,y0⟩:=HCs.out wr (Bz HW2.out (Bz HB4.out HW.out.1.1)) k (by rw[<-HCq.out];exact hk);have hpx:=Nv (cs.getD k 0) 15 wr (HCr.out k (by rw[<-HCq.out];exact hk)) (by decide) (by decide);have HEn:M (enL cs (k+1)=enL cs k++[(1,pk (cs.getD k 0) 15),(3,0),(4,0)]):=rfl;have HEw:M (enW cs (k+1)=enW cs k+(pk (cs.getD k 0) 15).toNat):=rfl;obtain⟨hp0,hp15⟩:=JH (cs.getD k 0);generalize pk (cs.getD k 0) 15=p at *;generalize cs.getD k 0=cv at *;obtain⟨y,hy⟩:∃y:Nat,p=(y:Int):=⟨p.toNat,by omega⟩
   subst hy;have HBr:M (S W4.heap.size W4 wr):=HW.out.1.1;have hown:=As HW.out.2 ((qD _ _).alloc (qB _) (N #[ZW Z 1,.int Z (y:Int),.int Z 3,.int Z 0,.int Z 4,.int Z 0] 40)) (qB _);have hbase:=(DN HBr.out (N #[ZW Z 1,.int Z (y:Int),.int Z 3,.int Z 0,.int Z 4,.int Z 0] 40)).size;go_upto_region 11 with(first
    |(go_at_call 11;refine hpx.mono ?_;rintro e w8 ⟨rfl,rfl⟩)
    |(at_builtin;refine wpList_append_lies _ rfl (.tmp 45) (.tmp 50) 37 (by rfl) W4.heap.size 40 i0 _ 2 16 Tryz.underlying37 hi hz0 hz1 hz2 rfl (by decide) (Y vo n vc) n (flat (enL cs k)) rfl hown ⟨w8.heap.size,0,V⟩ 3 3 [.int Z 1,.int Z (y:Int),.int Z 3,.int Z 0,.int Z 4,.int Z 0] rfl rfl (World.news_of_block (ES _ _)) (IW [(1,(y:Int)),(3,0),(4,0)]) (by decide) (by unfold maxLen;omega) (by omega) hbase (w8.heap.size+1) (by simp) ?_;intro g9 cap9 w9 ho9 hg9 hat9 hl9))
   have hb9:S W4.heap.size W4 w9:=Below.grown (DN HBr.out _) hg9 hbase (fun z hz=>(HW.out.2.lt z hz).1);have HB9:M (S W4.heap.size W4 w9):=hb9;have HW9:M (w9.ownsRow W4.heap.size 40 2 (Y (U ⟨g9,0,V⟩) (n+3) cap9) (n+3) (flat (enL cs (k+1)))):=by
    show World.ownsRow _ _ _ _ _ _ _;rw[HEn.out,Fa];exact ho9
   have HX9:M (x+y=enW cs (k+1)):=by
    show x+y=_;rw[HEw.out,<-HW.out.1.2.1,jQ]
   have HN9:M (n+3=(enL cs (k+1)).length):=by
    show n+3=_;rw[HEn.out,qF,<-HW.out.1.2.2];rfl
   have hwr:IntKind.i64.wrap ((x:Int)+(y:Int))=(x:Int)+(y:Int):=Vz (by omega) (by omega);clear hown hbase ho9 hg9 hat9 hl9 y0 hb9;go_wp2_with fail
   go_roundw
   case rel=>exact⟨k+1,n+3,U ⟨g9,0,V⟩,cap9,x+y,by omega,by omega,by omega,by omega,rfl,by go_num,by go_num,⟨HB9.out,HX9.out,HN9.out⟩,HW9.out⟩
   case measure=>simp[intOf]<;>omega
  .have hout:M (¬k<cq\/(k<cq/\¬k<8)):=hout;go_upto_region 7 with fail
   go_cut [37] (fun u wz=>u=.bool O/\wz=wr)
   case first=>
    rcases hout.out with h|⟨h,h8⟩
    .have hki:¬(k:Int)<(cq:Int):=by omega
     go_wp2_with fail
     go_meet
     exact⟨rfl,rfl⟩
    .have hki:(k:Int)<(cq:Int):=by omega
     have hk8i:¬(k:Int)<8:=by omega
     go_wp2_with fail
     go_meet
     exact⟨rfl,rfl⟩
   case rest=>
    obtain⟨rfl,rfl⟩:=hcut;obtain⟨wr,rfl⟩:∃w9,w9=wc:=⟨_,rfl⟩;have hb6:S W2.heap.size W2 wr:=Bz HB4.out HW.out.1.1;have HB6:M (S W2.heap.size W2 wr):=hb6;have hO6:OpsV wr (Y vo n vc) (enL cs k):=ME HW.out.1.2.2.symm HW.out.2;have HO6:M (OpsV wr (Y vo n vc) (enL cs k)):=hO6;have HL6:M (n=(enL cs k).length/\x=enW cs k):=⟨HW.out.1.2.2,HW.out.1.2.1⟩;have HM6:M (Bv (enL cs k)):=Bv.lit (Kw cs k) (by rw[Kv];omega);have HB46:M (S W4.heap.size W4 wr):=HW.out.1.1;have hqc:n<=vc:=by
     obtain⟨ao',cap',e,⟨h1,_⟩,_⟩:=hO6;cases e
     have:=HL6.out.1;omega
    have hmq0:(0:Int)<=(n:Int):=by omega
    have hmqc:(n:Int)<=(vc:Int):=by omega
    have hn30:n<=24:=by omega
    have HMn:M (∀W,S wr.heap.size wr W->OpsV W (Y vo n n) (enL cs k)):=fun W h=>by
     have h9:=(HO6.out.below h).cut HL6.out.1.symm (qB _);rwa[qQ (by rw[<-HL6.out.1];exact qB _)]at h9
    clear HW hO6 hb6;go_upto_region 12 with fail
    go_cut [15,16] (fun u v wz=>∃(Xo:Nat) (b0:Bool) (f n s ag:Nat) (d h:Bool),u=ZY (U ⟨Xo,0,V⟩)/\v=.bool true/\M (OcAt wr wz Xo m l (enL cs k++[(1,(K:Int))]) b0 f n s ag d h))
    case first=>
     rename_i J K' hJ hK';generalize ha0:Act.mk _ _=a0;have hsz:a0.tmps.size=118:=by rw[<-ha0];rfl
     have a7_:a0.eval (.tmp 7)=(ZY (U ⟨X,0,V⟩)):=by rw[<-ha0];rfl
     have a10_:a0.eval (.tmp 10)=(.int Z (K:Int)):=by rw[<-ha0];rfl
     have a11_:a0.eval (.tmp 11)=(Y vo n vc):=by rw[<-ha0];rfl
     have hbW0:S W2.heap.size W2 wr:=HB6.out;have hbB0:S wr.heap.size wr wr:=qD _ _;have hmvE:Bv (enL cs k++[(1,(K:Int))]):=(HM6.out.app (by simp only[yK,jU,false_imp_iff,implies_true,and_true];omega) (by have:=HL6.out.1;simp only[qV,vC];omega));have hlnE:(enL cs k++[(1,(K:Int))]).length=n+1:=(by rw[qF,<-HL6.out.1];rfl);refine Nf (by rfl) [56,57,58,59,60,61,62,63,64,65,66,67,55,68,69,15,16] 17 100 16 (by decide) (by decide) (SqP [.val (r #[Y ao 2 ac,Y ro rn rc,Y po 3 3,Y fo fn fc]),.val (Y vo n vc),.val (Y vo n vc),.val (.int Z (n:Nat)),.val (Y vo n vc),.val (.int Z (n:Nat)),.val (Y vo n n),.val (.int Z (K:Int)),.val (r #[ZW Z 1,.int Z (K:Int)]),.lit #[ZW Z 1,.int Z (K:Int)] 1,.app (enL cs k++[(1,(K:Int))]) (n+1),.tup (ocV m l (enL cs k++[(1,(K:Int))])) (SgK m l),.tup (ocV m l (enL cs k++[(1,(K:Int))])) (SgK m l),.val (ocV m l (enL cs k++[(1,(K:Int))])),.val (.bool true),.val .nilIface] 15 wr.heap.size (ocO m l (enL cs k++[(1,(K:Int))]))) (by rw[hsz];rfl) (fun i b c v w w' _ h hb=>KJ i b c v w w' h hb) ?_ (fun o h=>absurd h (by decide)) ?_ ?_
     .intro i o hlt _ hn2 ho q w' b c _ hcf hb hq;have f:∀t,[56,57,58,59,60,61,62,63,64,65,66,67,55,68,69,15,16].contains t=true->t<118->(frm a0 [56,57,58,59,60,61,62,63,64,65,66,67,55,68,69,15,16] q).eval (.tmp t)=q t:=fun t h1 h2=>Dq h1 (by rw[hsz];exact h2);have e7_:(frm a0 [56,57,58,59,60,61,62,63,64,65,66,67,55,68,69,15,16] q).eval (.tmp 7)=(ZY (U ⟨X,0,V⟩)):=(Dr rfl).trans a7_;have e10_:(frm a0 [56,57,58,59,60,61,62,63,64,65,66,67,55,68,69,15,16] q).eval (.tmp 10)=(.int Z (K:Int)):=(Dr rfl).trans a10_;have e11_:(frm a0 [56,57,58,59,60,61,62,63,64,65,66,67,55,68,69,15,16] q).eval (.tmp 11)=(Y vo n vc):=(Dr rfl).trans a11_;obtain⟨m0,m1,m2,m3⟩:=HT2.out w' (Bz hbW0 hb);have hsw:=hb.size;obtain⟨ev,hev⟩:∃ev,ev=(frm a0 [56,57,58,59,60,61,62,63,64,65,66,67,55,68,69,15,16] q).eval:=⟨_,rfl⟩;have evc:∀v,ev (.const v)=v:=fun v=>by rw[hev];rfl
      have evf:∀n,ev (.func n)=.func (.func n) #[] #[]:=fun n=>by rw[hev];rfl
      rw[<-hev]at f e7_ e10_ e11_;have hc:i=0\/i=1\/i=2\/i=3\/i=4\/i=5\/i=6\/i=7\/i=8\/i=9\/i=10\/i=11\/i=12\/i=13\/i=14\/i=15:=by omega
      rcases hc with rfl|rfl|rfl|rfl|rfl|rfl|rfl|rfl|rfl|rfl|rfl|rfl|rfl|rfl|rfl|rfl;all_goals obtain rfl:=Option.some.inj ho
      .refine Ap (w':=w') (v:=(r #[Y ao 2 ac,Y ro rn rc,Y po 3 3,Y fo fn fc])) ?_ (qD _ _) rfl;rw[<-hev];simp[execOp,e7_,m0,m1,m2,m3,go_sem]
      .refine Ap (w':=w') (v:=(Y vo n vc)) ?_ (qD _ _) rfl;rw[<-hev];simp[execOp,e11_,go_sem]
      .refine Ap (w':=w') (v:=(Y vo n vc)) ?_ (qD _ _) rfl;rw[<-hev];simp[execOp,e11_,go_sem]
      .have g58:=(f 58 rfl (by decide)).trans (hq 2 58 rfl rfl);refine Ap (w':=w') (v:=(.int Z (n:Nat))) ?_ (qD _ _) rfl;rw[<-hev];simp[execOp,g58,go_sem]
      .refine Ap (w':=w') (v:=(Y vo n vc)) ?_ (qD _ _) rfl;rw[<-hev];simp[execOp,e11_,go_sem]
      .have g60:=(f 60 rfl (by decide)).trans (hq 4 60 rfl rfl);refine Ap (w':=w') (v:=(.int Z (n:Nat))) ?_ (qD _ _) rfl;rw[<-hev];simp[execOp,g60,go_sem]
      .have g57:=(f 57 rfl (by decide)).trans (hq 1 57 rfl rfl);have g59:=(f 59 rfl (by decide)).trans (hq 3 59 rfl rfl);have g61:=(f 61 rfl (by decide)).trans (hq 5 61 rfl rfl);refine Ap (w':=w') (v:=(Y vo n n)) ?_ (qD _ _) rfl;rw[<-hev];simp[execOp,g57,g59,g61,go_sem,hmq0,hmqc]
      .refine Ap (w':=w') (v:=(.int Z (K:Int))) ?_ (qD _ _) rfl;rw[<-hev];simp[execOp,e10_,go_sem]
      .have g63:=(f 63 rfl (by decide)).trans (hq 7 63 rfl rfl);refine Ap (w':=w') (v:=(r #[ZW Z 1,.int Z (K:Int)])) ?_ (qD _ _) rfl;rw[<-hev];simp[execOp,g63,evc,go_sem]
      .have g64:=(f 64 rfl (by decide)).trans (hq 8 64 rfl rfl);refine Ap (w':=w'.alloc (N #[ZW Z 1,.int Z (K:Int)] 40)) (v:=Y (U ⟨w'.heap.size,0,V⟩) 1 1) ?_ (DN (qD _ _) _) (.inr ⟨_,rfl,ES _ _⟩);rw[<-hev];simp[execOp,g64,go_sem]
      .obtain rfl:=hcf rfl;have g62:=(f 62 rfl (by decide)).trans (hq 6 62 rfl rfl);have g65:=orF (hq 9 65 rfl rfl);rw[<-f 65 rfl (by decide)]at g65;exact MB (.tmp 62) (.tmp 65) rfl vo n (enL cs k) [(1,(K:Int))] (by rw[<-hev];exact g62) (HMn.out w' hb) HL6.out.1.symm #[ZW Z 1,.int Z (K:Int)] 1 (by rw[<-hev];exact g65) rfl rfl (by decide) (by omega) fun v w3 h1 h2=>⟨v,rfl,h1,.inr h2⟩
      .obtain rfl:=hcf rfl;have g56:=(f 56 rfl (by decide)).trans (hq 0 56 rfl rfl);obtain⟨g9,c9,hv9,hO9⟩:=orF (hq 10 66 rfl rfl);have g66:=(f 66 rfl (by decide)).trans hv9;have X9:=NE HC.out (Bz hbW0 hb) hlnE hmvE hO9;refine MA (f:=10) (args:=#[(r #[Y ao 2 ac,Y ro rn rc,Y po 3 3,Y fo fn fc]),Y (U ⟨g9,0,V⟩) (n+1) c9]) (by rw[<-hev];simp[execOp,g56,g66,evf,go_sem]) (X9.mono fun e w3 h=>⟨_,h.1,h.2.1,rfl,h.2.2.out⟩)
      .have g67:=(f 67 rfl (by decide)).trans (hq 11 67 rfl rfl).1;refine Ap (w':=w') (v:=(ZZ #[(ocV m l (enL cs k++[(1,(K:Int))])),.bool true])) ?_ (qD _ _) ⟨rfl,(hq 11 67 rfl rfl).2⟩;rw[<-hev];simp[execOp,g67,go_sem]
      .have g55:=(f 55 rfl (by decide)).trans (hq 12 55 rfl rfl).1;refine Ap (w':=w') (v:=(ocV m l (enL cs k++[(1,(K:Int))]))) ?_ (qD _ _) rfl;rw[<-hev];simp[execOp,g55,go_sem]
      .have g55:=(f 55 rfl (by decide)).trans (hq 12 55 rfl rfl).1;refine Ap (w':=w') (v:=(.bool true)) ?_ (qD _ _) rfl;rw[<-hev];simp[execOp,g55,go_sem]
      .obtain rfl:=hcf rfl;refine Ap (w':=w'.alloc (N #[I O,.int Z 0,.int Z 0,.int Z 0,.int Z 0,.bool O,.bool O] 50)) (v:=ZY (U ⟨w'.heap.size,0,V⟩)) ?_ (DN (qD _ _) _) ⟨_,rfl,hsw,ES _ _⟩;rw[<-hev];simp[execOp,go_sem]
     .intro o ho q w' b _ hb hq;have f:∀t,[56,57,58,59,60,61,62,63,64,65,66,67,55,68,69,15,16].contains t=true->t<118->(frm a0 [56,57,58,59,60,61,62,63,64,65,66,67,55,68,69,15,16] q).eval (.tmp t)=q t:=fun t h1 h2=>Dq h1 (by rw[hsz];exact h2);obtain rfl:=Option.some.inj ho;have hv9:q 68=(ocV m l (enL cs k++[(1,(K:Int))])):=hq 13 68 rfl rfl;obtain⟨b1,hv11,hbb,hbx⟩:FL _ _ O _ _:=hq 15 15 rfl rfl;rw[if_neg (by decide)]at hbx;obtain⟨y0,y1,y2,y3,y4,y5,y6⟩:=CZ hbx;have rf0:=Ai hbx 0;have rf1:=Ai hbx 1;have rf2:=Ai hbx 2;have rf3:=Ai hbx 3;have rf4:=Ai hbx 4;have rf5:=Ai hbx 5;have rf6:=Ai hbx 6;have e9:=(f 68 rfl (by decide)).trans hv9;have e11:=(f 15 rfl (by decide)).trans hv11;refine I7 (w':=(((((((w'.setCell ⟨b1,0,V⟩ (.bool (stO m l (enL cs k++[(1,(K:Int))])).up)).setCell ⟨b1,1,V⟩ (.int Z (fN m Ac l (stO m l (enL cs k++[(1,(K:Int))])).n:Nat))).setCell ⟨b1,2,V⟩ (.int Z ((stO m l (enL cs k++[(1,(K:Int))])).n:Nat))).setCell ⟨b1,3,V⟩ (.int Z ((stO m l (enL cs k++[(1,(K:Int))])).s:Nat))).setCell ⟨b1,4,V⟩ (.int Z ((stO m l (enL cs k++[(1,(K:Int))])).ag:Nat))).setCell ⟨b1,5,V⟩ (.bool (dnS m Ac l (stO m l (enL cs k++[(1,(K:Int))]))))).setCell ⟨b1,6,V⟩ (.bool (dnS m Ac l (stO m l (enL cs k++[(1,(K:Int))]))&&decide (BS (BR m Ac l (kOf m l))=11))))) rfl ?_ ⟨rfl,KS hb hbb,fun j t _ _ ht h=>KI (tb:=15) rfl hv11 (EV hbx _ _ _ _ _ _ _) j t ht h⟩;generalize(frm a0 [56,57,58,59,60,61,62,63,64,65,66,67,55,68,69,15,16] q).eval=ev at e9 e11⊢;unfold ocV at e9;simp[execOp,e9,e11,go_sem,y0,y1,y2,y3,y4,y5,y6,rf0,rf1,rf2,rf3,rf4,rf5,rf6]
     .intro q w' hb hq;have f:∀q t,[56,57,58,59,60,61,62,63,64,65,66,67,55,68,69,15,16].contains t=true->t<118->(frm a0 [56,57,58,59,60,61,62,63,64,65,66,67,55,68,69,15,16] q).eval (.tmp t)=q t:=fun q t h1 h2=>Dq h1 (by rw[hsz];exact h2);have hv10:q 69=.bool true:=hq 14 69 (by decide) rfl;obtain⟨b1,hv11,hbb,hbx⟩:FL _ _ true _ _:=hq 15 15 (by decide) rfl;rw[if_pos rfl]at hbx;have hv7:=hq 11 67 (by decide) rfl;show wpOps qA _ _ [17] _ _;rw[wpOps_cons];refine I6 rfl rfl ?_;have e10:=(f q 69 rfl (by decide)).trans hv10;refine MC (w':=w') (v:=.bool true) ?_ ?_
      .generalize (frm a0 [56,57,58,59,60,61,62,63,64,65,66,67,55,68,69,15,16] q).eval=ev at e10⊢;simp[execOp,e10,go_sem]
      rw[LW 16 rfl rfl];show K' _ _;refine hK' _ _ ?_;rw[<-ha0];go_meet
      refine⟨b1,_,_,_,_,_,_,_,(show DS q 16 (.bool true) 15=_ from(DH (by decide)).trans hv11),De q 16 _,⟨Bz hbB0 hb,hbx,⟨hv7.2,rfl,rfl,rfl,rfl,rfl,rfl,rfl⟩⟩⟩
    case rest=>
     obtain⟨Xa,b0a,fa,na,sa,aga,da,ha,rfl,rfl,HOa⟩:=hcut;obtain⟨w6,rfl⟩:∃w9,w9=wc:=⟨_,rfl⟩;have HB66:M (S W2.heap.size W2 w6):=Bz HB6.out HOa.out.bel;have HMn6:M (∀W,S w6.heap.size w6 W->OpsV W (Y vo n n) (enL cs k)):=fun W h=>HMn.out W (Bz HOa.out.bel h);have hwr:IntKind.i64.wrap ((K:Int)-1)=(K:Int)-1:=FH (by omega) (by omega);clear HMn;go_upto_region 13 with fail
     go_cut [17,18] (fun u v wz=>∃(Xo:Nat) (b0:Bool) (f n s ag:Nat) (d h:Bool),u=ZY (U ⟨Xo,0,V⟩)/\v=.bool true/\M (OcAt w6 wz Xo m l (enL cs k++[(1,max ((K:Int)-1) 0)]) b0 f n s ag d h))
     case first=>
      rename_i J K' hJ hK';generalize ha0:Act.mk _ _=a0;have hsz:a0.tmps.size=118:=by rw[<-ha0];rfl
      have a7_:a0.eval (.tmp 7)=(ZY (U ⟨X,0,V⟩)):=by rw[<-ha0];rfl
      have a10_:a0.eval (.tmp 10)=(.int Z (K:Int)):=by rw[<-ha0];rfl
      have a11_:a0.eval (.tmp 11)=(Y vo n vc):=by rw[<-ha0];rfl
      have hbW0:S W2.heap.size W2 w6:=HB66.out;have hbB0:S w6.heap.size w6 w6:=qD _ _;have hmvE:Bv (enL cs k++[(1,max ((K:Int)-1) 0)]):=(HM6.out.app (by simp only[yK,jU,false_imp_iff,implies_true,and_true];omega) (by have:=HL6.out.1;simp only[qV,vC];omega));have hlnE:(enL cs k++[(1,max ((K:Int)-1) 0)]).length=n+1:=(by rw[qF,<-HL6.out.1];rfl);refine Nf (by rfl) [71,72,73,74,75,76,77,78,79,80,81,82,83,84,70,85,86,17,18] 19 100 18 (by decide) (by decide) (SqP [.val (r #[Y ao 2 ac,Y ro rn rc,Y po 3 3,Y fo fn fc]),.val (Y vo n vc),.val (Y vo n vc),.val (.int Z (n:Nat)),.val (Y vo n vc),.val (.int Z (n:Nat)),.val (Y vo n n),.val (.int Z (K:Int)),.val (.int Z ((K:Int)-1)),.val (.int Z (max ((K:Int)-1) 0)),.val (r #[ZW Z 1,.int Z (max ((K:Int)-1) 0)]),.lit #[ZW Z 1,.int Z (max ((K:Int)-1) 0)] 1,.app (enL cs k++[(1,max ((K:Int)-1) 0)]) (n+1),.tup (ocV m l (enL cs k++[(1,max ((K:Int)-1) 0)])) (SgK m l),.tup (ocV m l (enL cs k++[(1,max ((K:Int)-1) 0)])) (SgK m l),.val (ocV m l (enL cs k++[(1,max ((K:Int)-1) 0)])),.val (.bool true),.val .nilIface] 17 w6.heap.size (ocO m l (enL cs k++[(1,max ((K:Int)-1) 0)]))) (by rw[hsz];rfl) (fun i b c v w w' _ h hb=>KJ i b c v w w' h hb) ?_ (fun o h=>absurd h (by decide)) ?_ ?_
      .intro i o hlt _ hn2 ho q w' b c _ hcf hb hq;have f:∀t,[71,72,73,74,75,76,77,78,79,80,81,82,83,84,70,85,86,17,18].contains t=true->t<118->(frm a0 [71,72,73,74,75,76,77,78,79,80,81,82,83,84,70,85,86,17,18] q).eval (.tmp t)=q t:=fun t h1 h2=>Dq h1 (by rw[hsz];exact h2);have e7_:(frm a0 [71,72,73,74,75,76,77,78,79,80,81,82,83,84,70,85,86,17,18] q).eval (.tmp 7)=(ZY (U ⟨X,0,V⟩)):=(Dr rfl).trans a7_;have e10_:(frm a0 [71,72,73,74,75,76,77,78,79,80,81,82,83,84,70,85,86,17,18] q).eval (.tmp 10)=(.int Z (K:Int)):=(Dr rfl).trans a10_;have e11_:(frm a0 [71,72,73,74,75,76,77,78,79,80,81,82,83,84,70,85,86,17,18] q).eval (.tmp 11)=(Y vo n vc):=(Dr rfl).trans a11_;obtain⟨m0,m1,m2,m3⟩:=HT2.out w' (Bz hbW0 hb);have hsw:=hb.size;obtain⟨ev,hev⟩:∃ev,ev=(frm a0 [71,72,73,74,75,76,77,78,79,80,81,82,83,84,70,85,86,17,18] q).eval:=⟨_,rfl⟩;have evc:∀v,ev (.const v)=v:=fun v=>by rw[hev];rfl
       have evf:∀n,ev (.func n)=.func (.func n) #[] #[]:=fun n=>by rw[hev];rfl
       rw[<-hev]at f e7_ e10_ e11_;have hc:i=0\/i=1\/i=2\/i=3\/i=4\/i=5\/i=6\/i=7\/i=8\/i=9\/i=10\/i=11\/i=12\/i=13\/i=14\/i=15\/i=16\/i=17:=by omega
       rcases hc with rfl|rfl|rfl|rfl|rfl|rfl|rfl|rfl|rfl|rfl|rfl|rfl|rfl|rfl|rfl|rfl|rfl|rfl;all_goals obtain rfl:=Option.some.inj ho
       .refine Ap (w':=w') (v:=(r #[Y ao 2 ac,Y ro rn rc,Y po 3 3,Y fo fn fc])) ?_ (qD _ _) rfl;rw[<-hev];simp[execOp,e7_,m0,m1,m2,m3,go_sem]
       .refine Ap (w':=w') (v:=(Y vo n vc)) ?_ (qD _ _) rfl;rw[<-hev];simp[execOp,e11_,go_sem]
       .refine Ap (w':=w') (v:=(Y vo n vc)) ?_ (qD _ _) rfl;rw[<-hev];simp[execOp,e11_,go_sem]
       .have g73:=(f 73 rfl (by decide)).trans (hq 2 73 rfl rfl);refine Ap (w':=w') (v:=(.int Z (n:Nat))) ?_ (qD _ _) rfl;rw[<-hev];simp[execOp,g73,go_sem]
       .refine Ap (w':=w') (v:=(Y vo n vc)) ?_ (qD _ _) rfl;rw[<-hev];simp[execOp,e11_,go_sem]
       .have g75:=(f 75 rfl (by decide)).trans (hq 4 75 rfl rfl);refine Ap (w':=w') (v:=(.int Z (n:Nat))) ?_ (qD _ _) rfl;rw[<-hev];simp[execOp,g75,go_sem]
       .have g72:=(f 72 rfl (by decide)).trans (hq 1 72 rfl rfl);have g74:=(f 74 rfl (by decide)).trans (hq 3 74 rfl rfl);have g76:=(f 76 rfl (by decide)).trans (hq 5 76 rfl rfl);refine Ap (w':=w') (v:=(Y vo n n)) ?_ (qD _ _) rfl;rw[<-hev];simp[execOp,g72,g74,g76,go_sem,hmq0,hmqc]
       .refine Ap (w':=w') (v:=(.int Z (K:Int))) ?_ (qD _ _) rfl;rw[<-hev];simp[execOp,e10_,go_sem]
       .have g78:=(f 78 rfl (by decide)).trans (hq 7 78 rfl rfl);refine Ap (w':=w') (v:=(.int Z ((K:Int)-1))) ?_ (qD _ _) rfl;rw[<-hev];simp[execOp,g78,evc,go_sem,hwr]
       .have g79:=(f 79 rfl (by decide)).trans (hq 8 79 rfl rfl);refine Ap (w':=w') (v:=(.int Z (max ((K:Int)-1) 0))) ?_ (qD _ _) rfl;rw[<-hev];simp[execOp,g79,evc,go_sem]
       .have g80:=(f 80 rfl (by decide)).trans (hq 9 80 rfl rfl);refine Ap (w':=w') (v:=(r #[ZW Z 1,.int Z (max ((K:Int)-1) 0)])) ?_ (qD _ _) rfl;rw[<-hev];simp[execOp,g80,evc,go_sem]
       .have g81:=(f 81 rfl (by decide)).trans (hq 10 81 rfl rfl);refine Ap (w':=w'.alloc (N #[ZW Z 1,.int Z (max ((K:Int)-1) 0)] 40)) (v:=Y (U ⟨w'.heap.size,0,V⟩) 1 1) ?_ (DN (qD _ _) _) (.inr ⟨_,rfl,ES _ _⟩);rw[<-hev];simp[execOp,g81,go_sem]
       .obtain rfl:=hcf rfl;have g77:=(f 77 rfl (by decide)).trans (hq 6 77 rfl rfl);have g82:=orF (hq 11 82 rfl rfl);rw[<-f 82 rfl (by decide)]at g82;exact MB (.tmp 77) (.tmp 82) rfl vo n (enL cs k) [(1,max ((K:Int)-1) 0)] (by rw[<-hev];exact g77) (HMn6.out w' hb) HL6.out.1.symm #[ZW Z 1,.int Z (max ((K:Int)-1) 0)] 1 (by rw[<-hev];exact g82) rfl rfl (by decide) (by omega) fun v w3 h1 h2=>⟨v,rfl,h1,.inr h2⟩
       .obtain rfl:=hcf rfl;have g71:=(f 71 rfl (by decide)).trans (hq 0 71 rfl rfl);obtain⟨g9,c9,hv9,hO9⟩:=orF (hq 12 83 rfl rfl);have g83:=(f 83 rfl (by decide)).trans hv9;have X9:=NE HC.out (Bz hbW0 hb) hlnE hmvE hO9;refine MA (f:=10) (args:=#[(r #[Y ao 2 ac,Y ro rn rc,Y po 3 3,Y fo fn fc]),Y (U ⟨g9,0,V⟩) (n+1) c9]) (by rw[<-hev];simp[execOp,g71,g83,evf,go_sem]) (X9.mono fun e w3 h=>⟨_,h.1,h.2.1,rfl,h.2.2.out⟩)
       .have g84:=(f 84 rfl (by decide)).trans (hq 13 84 rfl rfl).1;refine Ap (w':=w') (v:=(ZZ #[(ocV m l (enL cs k++[(1,max ((K:Int)-1) 0)])),.bool true])) ?_ (qD _ _) ⟨rfl,(hq 13 84 rfl rfl).2⟩;rw[<-hev];simp[execOp,g84,go_sem]
       .have g70:=(f 70 rfl (by decide)).trans (hq 14 70 rfl rfl).1;refine Ap (w':=w') (v:=(ocV m l (enL cs k++[(1,max ((K:Int)-1) 0)]))) ?_ (qD _ _) rfl;rw[<-hev];simp[execOp,g70,go_sem]
       .have g70:=(f 70 rfl (by decide)).trans (hq 14 70 rfl rfl).1;refine Ap (w':=w') (v:=(.bool true)) ?_ (qD _ _) rfl;rw[<-hev];simp[execOp,g70,go_sem]
       .obtain rfl:=hcf rfl;refine Ap (w':=w'.alloc (N #[I O,.int Z 0,.int Z 0,.int Z 0,.int Z 0,.bool O,.bool O] 50)) (v:=ZY (U ⟨w'.heap.size,0,V⟩)) ?_ (DN (qD _ _) _) ⟨_,rfl,hsw,ES _ _⟩;rw[<-hev];simp[execOp,go_sem]
      .intro o ho q w' b _ hb hq;have f:∀t,[71,72,73,74,75,76,77,78,79,80,81,82,83,84,70,85,86,17,18].contains t=true->t<118->(frm a0 [71,72,73,74,75,76,77,78,79,80,81,82,83,84,70,85,86,17,18] q).eval (.tmp t)=q t:=fun t h1 h2=>Dq h1 (by rw[hsz];exact h2);obtain rfl:=Option.some.inj ho;have hv9:q 85=(ocV m l (enL cs k++[(1,max ((K:Int)-1) 0)])):=hq 15 85 rfl rfl;obtain⟨b1,hv11,hbb,hbx⟩:FL _ _ O _ _:=hq 17 17 rfl rfl;rw[if_neg (by decide)]at hbx;obtain⟨y0,y1,y2,y3,y4,y5,y6⟩:=CZ hbx;have rf0:=Ai hbx 0;have rf1:=Ai hbx 1;have rf2:=Ai hbx 2;have rf3:=Ai hbx 3;have rf4:=Ai hbx 4;have rf5:=Ai hbx 5;have rf6:=Ai hbx 6;have e9:=(f 85 rfl (by decide)).trans hv9;have e11:=(f 17 rfl (by decide)).trans hv11;refine I7 (w':=(((((((w'.setCell ⟨b1,0,V⟩ (.bool (stO m l (enL cs k++[(1,max ((K:Int)-1) 0)])).up)).setCell ⟨b1,1,V⟩ (.int Z (fN m Ac l (stO m l (enL cs k++[(1,max ((K:Int)-1) 0)])).n:Nat))).setCell ⟨b1,2,V⟩ (.int Z ((stO m l (enL cs k++[(1,max ((K:Int)-1) 0)])).n:Nat))).setCell ⟨b1,3,V⟩ (.int Z ((stO m l (enL cs k++[(1,max ((K:Int)-1) 0)])).s:Nat))).setCell ⟨b1,4,V⟩ (.int Z ((stO m l (enL cs k++[(1,max ((K:Int)-1) 0)])).ag:Nat))).setCell ⟨b1,5,V⟩ (.bool (dnS m Ac l (stO m l (enL cs k++[(1,max ((K:Int)-1) 0)]))))).setCell ⟨b1,6,V⟩ (.bool (dnS m Ac l (stO m l (enL cs k++[(1,max ((K:Int)-1) 0)]))&&decide (BS (BR m Ac l (kOf m l))=11))))) rfl ?_ ⟨rfl,KS hb hbb,fun j t _ _ ht h=>KI (tb:=17) rfl hv11 (EV hbx _ _ _ _ _ _ _) j t ht h⟩;generalize(frm a0 [71,72,73,74,75,76,77,78,79,80,81,82,83,84,70,85,86,17,18] q).eval=ev at e9 e11⊢;unfold ocV at e9;simp[execOp,e9,e11,go_sem,y0,y1,y2,y3,y4,y5,y6,rf0,rf1,rf2,rf3,rf4,rf5,rf6]
      .intro q w' hb hq;have f:∀q t,[71,72,73,74,75,76,77,78,79,80,81,82,83,84,70,85,86,17,18].contains t=true->t<118->(frm a0 [71,72,73,74,75,76,77,78,79,80,81,82,83,84,70,85,86,17,18] q).eval (.tmp t)=q t:=fun q t h1 h2=>Dq h1 (by rw[hsz];exact h2);have hv10:q 86=.bool true:=hq 16 86 (by decide) rfl;obtain⟨b1,hv11,hbb,hbx⟩:FL _ _ true _ _:=hq 17 17 (by decide) rfl;rw[if_pos rfl]at hbx;have hv7:=hq 13 84 (by decide) rfl;show wpOps qA _ _ [19] _ _;rw[wpOps_cons];refine I6 rfl rfl ?_;have e10:=(f q 86 rfl (by decide)).trans hv10;refine MC (w':=w') (v:=.bool true) ?_ ?_
       .generalize (frm a0 [71,72,73,74,75,76,77,78,79,80,81,82,83,84,70,85,86,17,18] q).eval=ev at e10⊢;simp[execOp,e10,go_sem]
       rw[LW 18 rfl rfl];show K' _ _;refine hK' _ _ ?_;rw[<-ha0];go_meet
       refine⟨b1,_,_,_,_,_,_,_,(show DS q 18 (.bool true) 17=_ from(DH (by decide)).trans hv11),De q 18 _,⟨Bz hbB0 hb,hbx,⟨hv7.2,rfl,rfl,rfl,rfl,rfl,rfl,rfl⟩⟩⟩
     case rest=>
      obtain⟨Xb,b0b,fb,nb,sb,agb,db,hb9,rfl,rfl,HOb⟩:=hcut;obtain⟨e1,e2,e3⟩:=PY HK.out.1 HOa.out.out;have e4:=PZ HK.out.1 HOb.out.out;rw[<-HL6.out.2]at e3;obtain⟨o0,o1,o2,o3,o4,o5,o6⟩:=(HOa.out.on HOb.out.bel).cells;obtain⟨r0,r1,r2,r3,r4,r5,r6⟩:=HOb.out.cells;have HFin:M (S W2.heap.size W2 wc):=Bz HB66.out HOb.out.bel;clear HOa HOb HMn6 hwr;subst e1 e4;subst e2;have i1:(aga:Int)<=(x:Int):=by omega
      go_wp2_with fail
      go_ret;exact⟨by first|rfl|(simp;apply Bool.eq_iff_iff.2;rw[decide_eq_true_eq,beq_iff_eq];omega),Bz HW2.out HFin.out⟩
