/- Joined texts. -/
import Derived.Test.YtehfhemidmfffaaGreatDoorTopD
open Go.IntKind renaming i64→U
open Go.Obj renaming cells→Q
open Go.RowKit renaming Below→P,Hid→N
open Go.Value renaming slice→Z,bool→S,agg→M,int→Y
open _root_.Option renaming none→T,some→O
namespace Go.Proofs.YtehfhemidmfffaaGreatDoor
open _root_.Array renaming getElem?_eq_some_iff→qG
open Go.RowKit.Below renaming refl→qD
open Go.Proofs.Tryz renaming prog→qA
open Go.ChangeShapes Go.WideShapes Go.ChangeAt Go.RowKit Go.Deep Go.Maps
open Terms Tm
open Go.Addr renaming mk→L
set_option maxHeartbeats 6400000
set_option maxRecDepth 20000
theorem U9(c0 c1 c2 c3 c4 c5 c6:Value)(a b:Vr)(rawv:Value)(rs:am)(gv:Value)(gs:am)(w:World)(hB:0<w.heap.size)(hT:AF w)(hG:GV a b)(hR:Raws w w.heap.size rawv rs)(hg:Raws w w.heap.size gv gs)
  (hmd:∀w',P w.heap.size w w'->Calls qA 13 #[M #[c0,c1,c2,c3,c4,c5,c6]] w' fun e w2=>∃va vr,e=.returned (M #[va,vr])/\P w'.heap.size w' w2/\GModel w2 va vr [a,b]) :
  Calls qA 6 #[M #[c0,c1,c2,c3,c4,c5,c6],rawv,gv] w fun e w'=>e=.returned (S true)/\P w.heap.size w w':=by
 have hA1:P w.heap.size w (w.alloc (Q #[c0,c1,c2,c3,c4,c5,c6] 25)):=EZ (qD _ _) _;have htk:=VM c0 c1 c2 c3 c4 c5 c6 a b rawv rs _ (Nat.lt_of_lt_of_le hB hA1.size) (hT.below hA1 hB) hG (hR.up hA1) (fun w' h=>hmd w' (DG hA1 h));obtain⟨ra,rn0,rc0,hra⟩:∃a n c,rawv=Z a n c:=by obtain⟨⟨a,c,h,_⟩,_,_⟩:=hR;exact⟨_,_,_,h⟩
 subst hra;obtain⟨go,gn,gc,hga⟩:∃a n c,gv=Z a n c:=by obtain⟨⟨a,c,h,_⟩,_,_⟩:=hg;exact⟨_,_,_,h⟩
 subst hga;obtain⟨gvs,hg1,hg2,hg3,hg4⟩:=VK _ gs 30 30 w rfl (by decide) hg;have Hgk:N (Cp gvs/\∀v∈gvs,1<=v.1/\v.1<=4/\0<=v.2/\v.2<=119):=⟨hg1,hg3⟩;have Hgm:=(show N _ from hg4);obtain⟨gq,hgq⟩:∃n,n=gvs.length:=⟨_,rfl⟩;have Hgq:N (gq=gvs.length):=hgq;rw[<-hgq]at hg2 Hgm;clear hg1 hg3 hg4 hg hgq;clear hmd hR hT hG;go_enter Tryz.func6,Tryz.ntmps6;go_upto_region 2 with(go_at_call 7;refine htk.mono ?_;rintro e w1 ⟨ao,ro,po,fo,rn,fn,ac,rc,fc,m,l,rfl,hb1,HC1⟩)
 have hbw1:=DG hA1 hb1;have hbA:P w1.heap.size w1 (w1.alloc (Q #[Z ao 2 ac,Z ro rn rc,Z po 3 3,Z fo fn fc] 35)):=EZ (qD _ _) _;have hbw2:=DG hbw1 hbA;have hbx:(w1.alloc (Q #[Z ao 2 ac,Z ro rn rc,Z po 3 3,Z fo fn fc] 35)).heap[w1.heap.size]? = O (tkB (Z ao 2 ac) (Z ro rn rc) (Z po 3 3) (Z fo fn fc)):=Gy w1 _;have HV9:N (E3 (w1.alloc (Q #[Z ao 2 ac,Z ro rn rc,Z po 3 3,Z fo fn fc] 35)) (Z ao 2 ac) (Z ro rn rc) (Z po 3 3) (Z fo fn fc) m l):=HC1.out.2.below hbA;have HC:N (SgC (w1.alloc (Q #[Z ao 2 ac,Z ro rn rc,Z po 3 3,Z fo fn fc] 35)) (Z ao 2 ac) (Z ro rn rc) (Z po 3 3) (Z fo fn fc) m l):=HC1.out.1.below hbA;generalize w1.alloc (Q #[Z ao 2 ac,Z ro rn rc,Z po 3 3,Z fo fn fc] 35)=W2 at *;generalize w1.heap.size=X at *
 have hXl:X<W2.heap.size:=(qG.1 hbx).1;have HT2:N (∀W,P W2.heap.size W2 W->W.cell? (L X 0 T)=O (Z ao 2 ac)/\W.cell? (L X 1 T)=O (Z ro rn rc)/\W.cell? (L X 2 T)=O (Z po 3 3)/\W.cell? (L X 3 T)=O (Z fo fn fc)):=fun W h=>WH ((h.block X hXl).trans hbx);have HW2:N (P w.heap.size w W2):=hbw2;clear hbw1 hbA hbw2 hbx hA1 hb1 htk HC1 hB;obtain⟨p0,p1,p2,p3⟩:=HT2.out W2 (qD _ _);have hvc:=HV9.out W2 (qD _ _);go_upto_region 3 with(go_at_call 12;refine hvc.mono ?_;rintro e w3 ⟨vb,so1,sn1,sc1,lo1,ln1,lc1,rfl,hb3,HVb⟩)
 have hbV:P W2.heap.size W2 (w3.alloc (Q #[S vb,Z so1 sn1 sc1,Z lo1 ln1 lc1] 60)):=EZ hb3 _;have hvx:(w3.alloc (Q #[S vb,Z so1 sn1 sc1,Z lo1 ln1 lc1] 60)).cell? (L w3.heap.size 0 T)=O (S vb):=by simp[go_sem]
 generalize w3.alloc (Q #[S vb,Z so1 sn1 sc1,Z lo1 ln1 lc1] 60)=W3 at *;generalize w3.heap.size=V at *;have HB3:N (P W2.heap.size W2 W3):=hbV;have HVx:N (∀W,P W3.heap.size W3 W->W.cell? (L V 0 T)=O (S vb)):=fun W h=>(h.cell (p:=(L V 0 T)) (World.block_lt_of_cell? _ _ hvx)).trans hvx
 clear hvc p0 p1 p2 p3 hb3 hbV hvx;obtain⟨p0,p1,p2,p3⟩:=HT2.out W3 HB3.out;have hex:=HC.out.ex W3 HB3.out;go_upto_region 4 with(go_at_call 9;refine hex.mono ?_;rintro e w3 ⟨so,no,xo,K,bn,an,sc,nc,xc,rfl,hb3,hK,HK⟩)
 have hbG:P W2.heap.size W2 (w3.alloc (Q #[Z so K sc,Y U (bn:Nat),Z no K nc,Z xo K xc,Y U (an:Nat)] 45)):=EZ (DG HB3.out hb3) _;have hbG9:P W3.heap.size W3 (w3.alloc (Q #[Z so K sc,Y U (bn:Nat),Z no K nc,Z xo K xc,Y U (an:Nat)] 45)):=EZ hb3 _;have hbg:(w3.alloc (Q #[Z so K sc,Y U (bn:Nat),Z no K nc,Z xo K xc,Y U (an:Nat)] 45)).heap[w3.heap.size]? = O (grB (Z so K sc) (Z no K nc) (Z xo K xc) (bn:Nat) (an:Nat)):=Gy w3 _;generalize w3.alloc (Q #[Z so K sc,Y U (bn:Nat),Z no K nc,Z xo K xc,Y U (an:Nat)] 45)=W4 at *
 generalize w3.heap.size=G at *;have hGl:G<W4.heap.size:=(qG.1 hbg).1
 have HG:N (∀W,P W4.heap.size W4 W->W.cell? (L G 0 T)=O (Z so K sc)/\W.cell? (L G 1 T)=O (Y U (bn:Nat))):=fun W h=>by
  have h9:=Dn ((h.block G hGl).trans hbg);exact⟨h9.1,h9.2.1⟩
 have HB4:N (P W2.heap.size W2 W4):=hbG;have HB43:N (P W3.heap.size W3 W4):=hbG9;clear hex p0 p1 p2 p3 hb3 hbG hbG9 hbg;go_cut [12,13] (fun u v wz=>∃(Xo:Nat) (b0:Bool) (f n s ag:Nat) (d h:Bool),u=.pointer (O (L Xo 0 T))/\v=S true/\N (OcAt W4 wz Xo m l (gvs++[(4,0),(1,1000)]) b0 f n s ag d h))
 case first=>
  rename_i J K' hJ hK';generalize ha0:Act.mk _ _=a0;have hsz:a0.tmps.size=77:=by rw[<-ha0];rfl
  have aT:a0.eval (.tmp 7)=.pointer (O (L X 0 T)):=by rw[<-ha0];rfl
  have aG:a0.eval (.tmp 2)=(Z go gn gc):=by rw[<-ha0];rfl
  have hbW0:P W2.heap.size W2 W4:=HB4.out;have hmvE:Cp (gvs++[(4,0),(1,1000)]):=Hgk.out.1.app (by decide) (by have:=Hgq.out;simp only[List.length_cons,List.length_nil];omega);have hlnE:(gvs++[(4,0),(1,1000)]).length=gq+2:=by rw[List.length_append,<-Hgq.out];rfl
  obtain⟨i0,hi,hz0,hz1,hz2⟩:=info_parts Lk;have rlE:∀i,i<13->i<12\/i=12:=fun i hi=>by omega
  refine XD (by rfl) [28,29,30,31,32,33,34,35,27,36,37,12,13] 13 6 12 (by decide) (by decide) (fun i=>sgR (M #[Z ao 2 ac,Z ro rn rc,Z po 3 3,Z fo fn fc]) (Z go gn gc) W4.heap.size gq gvs [(4,0),(1,1000)] #[Y U 4,Y U 0,Y U 1,Y U 1000] (M #[Y U 4,Y U 0]) (M #[Y U 1,Y U 1000]) (ocV m l (gvs++[(4,0),(1,1000)])) (SgK m l) (ocO m l (gvs++[(4,0),(1,1000)])) i) (by rw[hsz];rfl) (fun i b c v w w' hi h hb=>?_) ?_ ?_ ?_ ?_
  .rcases rlE i hi with h9|rfl
   .exact VI _ b c v w w' h9 h hb
   .exact h
  .intro i o hlt hn1 hn2 ho q w' b c hbf hcf hb hq;have f:∀t,[28,29,30,31,32,33,34,35,27,36,37,12,13].contains t=true->t<77->(frm a0 [28,29,30,31,32,33,34,35,27,36,37,12,13] q).eval (.tmp t)=q t:=fun t h1 h2=>D4 h1 (by rw[hsz];exact h2);have eT:(frm a0 [28,29,30,31,32,33,34,35,27,36,37,12,13] q).eval (.tmp 7)=.pointer (O (L X 0 T)):=(Ef rfl).trans aT;have eG:(frm a0 [28,29,30,31,32,33,34,35,27,36,37,12,13] q).eval (.tmp 2)=(Z go gn gc):=(Ef rfl).trans aG;obtain⟨m0,m1,m2,m3⟩:=HT2.out w' (DG hbW0 hb);have hsw:=hb.size;obtain⟨ev,hev⟩:∃ev,ev=(frm a0 [28,29,30,31,32,33,34,35,27,36,37,12,13] q).eval:=⟨_,rfl⟩;have evc:∀v,ev (.const v)=v:=fun v=>by rw[hev];rfl
   have evf:∀n,ev (.func n)=.func (.func n) #[] #[]:=fun n=>by rw[hev];rfl
   rw[<-hev]at f eT eG;have hc:i=0\/i=1\/i=2\/i=3\/i=4\/i=5\/i=7\/i=8\/i=9\/i=10\/i=11:=by omega
   rcases hc with rfl|rfl|rfl|rfl|rfl|rfl|rfl|rfl|rfl|rfl|rfl;all_goals obtain rfl:=Option.some.inj ho
   .refine Bh (w':=w') (v:=(M #[Z ao 2 ac,Z ro rn rc,Z po 3 3,Z fo fn fc])) ?_ (qD _ _) rfl;rw[<-hev];simp[execOp,eT,m0,m1,m2,m3,go_sem]
   .refine Bh (w':=w') (v:=(Z go gn gc)) ?_ (qD _ _) rfl;rw[<-hev];simp[execOp,eG,go_sem]
   .obtain rfl:=hbf rfl;have e1:=(f 29 rfl (by decide)).trans (hq 1 29 rfl rfl);exact G6 (f:=8) (args:=#[(Z go gn gc),Y U 30]) (by rw[<-hev];simp[execOp,e1,evc,evf,go_sem]) ((Hgm.out w' (DG HW2.out (DG hbW0 hb))).mono fun e w3 ⟨mo,mc,h1,h2,h3⟩=>⟨_,h1,h2,.inr ⟨⟨mo,mc,rfl⟩,Uh h3.out hsw⟩⟩)
   .refine Bh (w':=w') (v:=(M #[Y U 4,Y U 0])) ?_ (qD _ _) rfl;rw[<-hev];simp[execOp,evc,go_sem]
   .refine Bh (w':=w') (v:=(M #[Y U 1,Y U 1000])) ?_ (qD _ _) rfl;rw[<-hev];simp[execOp,evc,go_sem]
   .have e3:=(f 31 rfl (by decide)).trans (hq 3 31 rfl rfl);have e4:=(f 32 rfl (by decide)).trans (hq 4 32 rfl rfl);refine Bh (w':=w'.alloc (Q #[Y U 4,Y U 0,Y U 1,Y U 1000] 40)) (v:=Z (O (L w'.heap.size 0 T)) 2 2) ?_ (EZ (qD _ _) _) (.inr ⟨_,rfl,Gy _ _⟩);rw[<-hev];simp[execOp,e3,e4,go_sem]
   .obtain rfl:=hcf rfl;have e0:=(f 28 rfl (by decide)).trans (hq 0 28 rfl rfl);obtain⟨g9,c9,hv9,hO9⟩:=orF (hq 6 34 rfl rfl);have e6:=(f 34 rfl (by decide)).trans hv9;exact G6 (f:=10) (args:=#[(M #[Z ao 2 ac,Z ro rn rc,Z po 3 3,Z fo fn fc]),Z (O (L g9 0 T)) (gq+2) c9]) (by rw[<-hev];simp[execOp,e0,e6,evf,go_sem]) ((Ve HC.out (DG hbW0 hb) hlnE hmvE hO9).mono fun e w3 ⟨h1,h2,h3⟩=>⟨_,h1,h2,rfl,h3.out⟩)
   .have e7:=(f 35 rfl (by decide)).trans (hq 7 35 rfl rfl).1;refine Bh (w':=w') (v:=.tuple #[(ocV m l (gvs++[(4,0),(1,1000)])),S true]) ?_ (qD _ _) rfl;rw[<-hev];simp[execOp,e7,go_sem]
   .have e8:=(f 27 rfl (by decide)).trans (hq 8 27 rfl rfl);refine Bh (w':=w') (v:=(ocV m l (gvs++[(4,0),(1,1000)]))) ?_ (qD _ _) rfl;rw[<-hev];simp[execOp,e8,go_sem]
   .have e8:=(f 27 rfl (by decide)).trans (hq 8 27 rfl rfl);refine Bh (w':=w') (v:=S true) ?_ (qD _ _) rfl;rw[<-hev];simp[execOp,e8,go_sem]
   .obtain rfl:=hcf rfl;refine Bh (w':=w'.alloc (Q #[S false,Y U 0,Y U 0,Y U 0,Y U 0,S false,S false] 50)) (v:=.pointer (O (L w'.heap.size 0 T))) ?_ (EZ (qD _ _) _) ⟨_,rfl,hsw,Gy _ _⟩;rw[<-hev];simp[execOp,go_sem]
  .intro o _ ho q w' c hcf hb hq;have f:∀t,[28,29,30,31,32,33,34,35,27,36,37,12,13].contains t=true->t<77->(frm a0 [28,29,30,31,32,33,34,35,27,36,37,12,13] q).eval (.tmp t)=q t:=fun t h1 h2=>D4 h1 (by rw[hsz];exact h2);have hsw:=hb.size;obtain rfl:=Option.some.inj ho;obtain rfl:=hcf rfl;obtain⟨_,ho2⟩:=orF (hq 2 30 rfl rfl);obtain⟨gl,hvl,hbl⟩:=orF (hq 5 33 rfl rfl);refine wp_append_lies _ (.tmp 30) (.tmp 33) 37 rfl W4.heap.size 40 i0 _ 2 16 Tryz.underlying37 hi hz0 hz1 hz2 rfl (by decide) (q 30) gq (flat gvs) (f 30 rfl (by decide)) ho2 ⟨gl,0,T⟩ 2 2 (flat [(4,0),(1,1000)]) ((f 33 rfl (by decide)).trans hvl) rfl (World.news_of_block hbl) (LS _) (by decide) (by unfold maxLen;omega) (by omega) hsw _ rfl fun g9 c9 w2 hown hgrow hat hlt9=>⟨_,rfl,hb.grown hgrow hsw (fun z hz=>(ho2.lt z hz).1),fun j t hj hje _ hp=>?_,.inr ⟨g9,c9,rfl,Ta (us:=[(4,0),(1,1000)]) (k:=2) hown Hgq.out.symm rfl⟩⟩;rcases rlE j hj with h9|rfl
   .exact VH ho2 hgrow ⟨_,rfl⟩ _ _ _ h9 (by omega) hp
   .exact hp
  .intro o ho q w' b hbt hb hq;obtain rfl:=hbt rfl;have f:∀t,[28,29,30,31,32,33,34,35,27,36,37,12,13].contains t=true->t<77->(frm a0 [28,29,30,31,32,33,34,35,27,36,37,12,13] q).eval (.tmp t)=q t:=fun t h1 h2=>D4 h1 (by rw[hsz];exact h2);obtain rfl:=Option.some.inj ho;have hv9:q 36=(ocV m l (gvs++[(4,0),(1,1000)])):=(hq 9 36 rfl rfl);obtain⟨b1,hv11,hbb,hbx⟩:GA _ _ false _ _:=(hq 11 12 rfl rfl);rw[ak (by decide)]at hbx;obtain⟨y0,y1,y2,y3,y4,y5,y6⟩:=Ck hbx;have rf0:=As hbx 0;have rf1:=As hbx 1;have rf2:=As hbx 2;have rf3:=As hbx 3;have rf4:=As hbx 4;have rf5:=As hbx 5;have rf6:=As hbx 6;have e9:=(f 36 rfl (by decide)).trans hv9;have e11:=(f 12 rfl (by decide)).trans hv11;refine JV (w':=(((((((w'.setCell (L b1 0 T) (S (stO m l (gvs++[(4,0),(1,1000)])).up)).setCell (L b1 1 T) (Y U (fN m Aj l (stO m l (gvs++[(4,0),(1,1000)])).n:Nat))).setCell (L b1 2 T) (Y U ((stO m l (gvs++[(4,0),(1,1000)])).n:Nat))).setCell (L b1 3 T) (Y U ((stO m l (gvs++[(4,0),(1,1000)])).s:Nat))).setCell (L b1 4 T) (Y U ((stO m l (gvs++[(4,0),(1,1000)])).ag:Nat))).setCell (L b1 5 T) (S (dnS m Aj l (stO m l (gvs++[(4,0),(1,1000)]))))).setCell (L b1 6 T) (S (dnS m Aj l (stO m l (gvs++[(4,0),(1,1000)]))&&decide (Ao (AY m Aj l (kOf m l))=11))))) rfl ?_ ⟨rfl,PD hb hbb,fun j t hj hje ht hp=>?_⟩
   .generalize (frm a0 [28,29,30,31,32,33,34,35,27,36,37,12,13] q).eval=ev at e9 e11⊢;unfold ocV at e9;simp[execOp,e9,e11,go_sem,y0,y1,y2,y3,y4,y5,y6,rf0,rf1,rf2,rf3,rf4,rf5,rf6]
   .rcases rlE j hj with h9|rfl
    .refine VJ _ _ h9 (fun e=>?_) hp;obtain rfl:j=11:=by omega
     obtain rfl:12=t:=Option.some.inj ht;exact⟨b1,hv11,hbb,FG hbx _ _ _ _ _ _ _⟩
    .exact absurd rfl hje
  .intro q w' hb hq;have f:∀q t,[28,29,30,31,32,33,34,35,27,36,37,12,13].contains t=true->t<77->(frm a0 [28,29,30,31,32,33,34,35,27,36,37,12,13] q).eval (.tmp t)=q t:=fun q t h1 h2=>D4 h1 (by rw[hsz];exact h2);have hv10:q 37=S true:=hq 10 37 (by decide) rfl;obtain⟨b1,hv11,hbb,hbx⟩:GA _ _ true _ _:=hq 11 12 (by decide) rfl;rw[aj rfl]at hbx;have hv7:_/\SgK m l:=hq 7 35 (by decide) rfl;show wpOps qA _ _ [13] _ _;rw[wpOps_cons];refine G5 rfl rfl ?_;have e10:=(f q 37 rfl (by decide)).trans hv10;refine Mf (w':=w') (v:=S true) ?_ ?_
   .generalize (frm a0 [28,29,30,31,32,33,34,35,27,36,37,12,13] q).eval=ev at e10⊢;simp[execOp,e10,go_sem]
   rw[Lt 13 rfl rfl];show K' _ _;refine hK' _ _ ?_;rw[<-ha0];go_meet
   refine⟨b1,_,_,_,_,_,_,_,(show Ds q 13 (S true) 12=_ from(Dd (by decide)).trans hv11),Dt q 13 _,⟨hb,hbx,⟨hv7.2,rfl,rfl,rfl,rfl,rfl,rfl,rfl⟩⟩⟩
 case rest=>
  obtain⟨Xo,b0,f,n,s,ag,d,h,rfl,rfl,HO⟩:=hcut;obtain⟨e1,e2,e3,e4,e5⟩:=WZ HO.out.out;rw[<-HK.out.1]at e2 e3;obtain⟨o0,o1,o2,o3,o4,o5,o6⟩:=HO.out.cells;obtain⟨g0,g1⟩:=HG.out wc HO.out.bel;have hb34:P W3.heap.size W3 wc:=DG HB43.out HO.out.bel;have v0:=HVx.out wc hb34;have hvh:h=vb:=e5.trans HVb.out.symm;have HFin:N (P W2.heap.size W2 wc):=DG HB4.out HO.out.bel;clear hb34 HO e5;subst e1 e4 hvh;subst e2 e3;go_wp2_with fail
  go_ret;exact⟨by first|rfl|simp,DG HW2.out HFin.out⟩
