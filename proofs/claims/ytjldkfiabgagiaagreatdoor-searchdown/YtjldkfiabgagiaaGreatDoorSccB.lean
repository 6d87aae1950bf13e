/- Joined texts. -/
import Derived.Test.YtjldkfiabgagiaaGreatDoorSccA
import Derived.Deep.RegionLaw
open Go renaming World→O,Calls→M
open Go.Ending renaming returned→Q
open Go.IntKind renaming i64→W
open Go.Obj renaming cells→S
open Go.RowKit renaming Below→U,Hid→V
open Go.Value renaming slice→Y,bool→I,agg→K,tuple→G,pointer→N
open _root_.Bool renaming false→T
open _root_.Option renaming none→Z,some→X
namespace Go.Proofs.YtjldkfiabgagiaaGreatDoor
open Go.RowKit.Below renaming refl→qD
open _root_.List renaming getD_eq_getElem?_getD→qC,getElem?_eq_getElem→qH,getElem?_eq_none→vF,getElem?_range→jW,getElem_mem→qT,getElem_of_mem→jF,mem_range→vE
open _root_.Nat renaming le_refl→qB,le_trans→qI,pow_le_pow_right→vG,pow_pos→uB,testBit_two_pow_sub_one→zP,zero_le→qJ
open Go.Proofs.Tryz renaming prog→qA
open Go.ChangeShapes Go.WideShapes Go.ChangeAt Go.RowKit Go.Deep
open Terms
set_option maxHeartbeats 6400000
set_option maxRecDepth 20000
def Fk(s t b1 b2 b3 b4 b5:Nat):TA:=⟨s,t,b1,b2,b3,b4,b5⟩
def Lr(w w5:O)(no:Option Addr)(n nc b bw bl bg bp:Nat):Prop:=TAOk (Fk w.heap.size w5.heap.size b bw bl bg bp)/\(Fk w.heap.size w5.heap.size b bw bl bg bp).s=w.heap.size/\TjW w w5 (Fk w.heap.size w5.heap.size b bw bl bg bp) (Y no n nc) n (Y Z 0 0) (Y Z 0 0) [] [] (fun _=>0) (fun _=>0) (fun _=>0) (fun _=>0) 0
theorem Ro{w W0 w5:O}{g0 g1 g3 g4 no':Value}{no:Option Addr}{n nc b b1 b2 b3 b4:Nat}(hno:no'=Y no n nc)(hbox:w5.heap[b]? = X (S (C3 g0 g1 no' g3 g4 (Y (X ⟨b1,0,Z⟩) n n) (Y (X ⟨b2,0,Z⟩) n n) (Y (X ⟨b3,0,Z⟩) n n) (Y (X ⟨b4,0,Z⟩) n n)) 246 (0,0)))(h1:w5.rowIs b1 3 n (fun _=>.int W 0))(h2:w5.rowIs b2 3 n (fun _=>.int W 0))(h3:w5.rowIs b3 3 n (fun _=>.int W 0))(h4:w5.rowIs b4 3 n (fun _=>.int W 0))
    (hs:W0.heap.size=w.heap.size+1) (hb0:U w.heap.size w W0) (hb5:U W0.heap.size W0 w5) (n0:W0.heap.size<=b/\b<w5.heap.size) (n1:W0.heap.size<=b1/\b1<w5.heap.size) (n2:W0.heap.size<=b2/\b2<w5.heap.size) (n3:W0.heap.size<=b3/\b3<w5.heap.size) (n4:W0.heap.size<=b4/\b4<w5.heap.size)
    (d1:b≠b1) (d2:b≠b2) (d3:b≠b3) (d4:b≠b4) (d5:b1≠b2) (d6:b1≠b3) (d7:b1≠b4) (d8:b2≠b3) (d9:b2≠b4) (d10:b3≠b4):Lr w w5 no n nc b b1 b2 b3 b4:=by
  subst hno;have hc:∀j,w5.cell? ⟨b,j,Z⟩=(C3 g0 g1 (Y no n nc) g3 g4 (Y (X ⟨b1,0,Z⟩) n n) (Y (X ⟨b2,0,Z⟩) n n) (Y (X ⟨b3,0,Z⟩) n n) (Y (X ⟨b4,0,Z⟩) n n))[j]?:=fun j=>by simp[World.cell?,hbox]
  have hf:∀j,w5.frozen? ⟨b,j,Z⟩=false:=fun j=>by simp[World.frozen?,hbox]
  refine⟨⟨?_,?_,?_,?_,?_,?_,?_,?_,?_,?_,d1,d2,d3,d4,d5,d6,d7,d8,d9,d10⟩,rfl,⟨hb0.trans (hb5.mono (by omega)),qB _,hf,hc 2,hc 5,hc 6,hc 7,hc 8,hc 9,hc 10,hc 11,h1,h2,h3,h4,World.ownsRow_nil _ _ _ _,World.ownsRow_nil _ _ _ _,fun k hk=>by cases hk⟩⟩;all_goals simp only[Fk]
  all_goals omega
theorem TB(so no bo:Option Addr)(sc nc bn bc:Nat)(gi gm:Int)(n:Nat)(nx:Nat->List Nat)(w:O)(hn:n<=20000)(hnx:∀i,i<n->∀k∈nx i,k<n)(hxl:∀i,i<n->(nx i).length<=140737488355328)(hR:Et w no n nx) :
  M qA 118 #[K #[Y so n sc,.int W gi,Y no n nc,Y bo bn bc,.int W gm]] w fun e w'=>∃B,e=Q (Y (X ⟨B,0,Z⟩) n n)/\U w.heap.size w w'/\V (∃pt,w.heap.size<=B/\w'.rowIs B 3 n (Cg pt)/\∀x,x<n->Ev nx x (pt x)):=by
 have hmk:=run_make_row' (P:=qA) 39 3 (.int W 0) 8 Tryz.underlying39 Bd rfl .i64 .i64 n (by omega) (by omega);obtain⟨W0,hW0⟩:∃W0,W0=w.alloc (S #[Y so n sc,.int W gi,Y no n nc,Y bo bn bc,.int W gm] 41):=⟨_,rfl⟩;have hs0:W0.heap.size=w.heap.size+1:=by rw[hW0];simp
 have hb0:U w.heap.size w W0:=by rw[hW0];exact(qD _ _).alloc (qB _) _
 have c0:W0.cell? ⟨w.heap.size,0,Z⟩=X (Y so n sc):=by rw[hW0];simp[go_sem]
 have c1:W0.cell? ⟨w.heap.size,1,Z⟩=X (.int W gi):=by rw[hW0];simp[go_sem]
 have c2:W0.cell? ⟨w.heap.size,2,Z⟩=X (Y no n nc):=by rw[hW0];simp[go_sem]
 have c3:W0.cell? ⟨w.heap.size,3,Z⟩=X (Y bo bn bc):=by rw[hW0];simp[go_sem]
 have c4:W0.cell? ⟨w.heap.size,4,Z⟩=X (.int W gm):=by rw[hW0];simp[go_sem]
 go_enter Tryz.func118,Tryz.ntmps118;go_upto_region 2 with fail
 rw[<-hW0];go_cut [4] (fun s4 wx=>∃A:TA,s4=N (X ⟨A.b,0,Z⟩)/\V (TAOk A/\A.s=w.heap.size/\TjW w wx A (Y no n nc) n (Y Z 0 0) (Y Z 0 0) [] [] (fun _=>0) (fun _=>0) (fun _=>0) (fun _=>0) 0))
 case first=>
  rename_i J K' hJ hK';generalize ha0:Act.mk _ _=a0;have hsz:a0.tmps.size=47:=by rw[<-ha0];rfl
  have a1:a0.eval (.tmp 1)=N (X ⟨w.heap.size,0,Z⟩):=by rw[<-ha0];rfl
  have a3:a0.eval (.tmp 3)=.int W (n:Int):=by rw[<-ha0];rfl
  have hl:w.heap.size<W0.heap.size:=by omega
  refine Vw (by rfl) [10,11,12,13,14,15,16,17,18,19,4] 11 (pwP (K #[Y so n sc,.int W gi,Y no n nc,Y bo bn bc,.int W gm]) n) pwN (pwR (Y so n sc) (.int W gi) (Y no n nc) (Y bo bn bc) (.int W gm)) (by rw[hsz];rfl) ?_ (fun i v w w' _ h hb=>TW _ _ _ _ _ _ h hb) ?_ ?_
  .intro i q v t u hi hk hr h9;subst h9;rw[hr rfl,C8 (hk 2 12 (by rfl) (by rfl)),C8 (hk 4 14 (by rfl) (by rfl)),C8 (hk 6 16 (by rfl) (by rfl)),C8 (hk 8 18 (by rfl) (by rfl))]
  .intro i o hi ho q w' hb hq;have f:∀t,[10,11,12,13,14,15,16,17,18,19,4].contains t=true->t<47->(frm a0 [10,11,12,13,14,15,16,17,18,19,4] q).eval (.tmp t)=q t:=fun t h1 h2=>DT h1 (by rw[hsz];exact h2);have e1:=(DZ (a:=a0) (ds:=[10,11,12,13,14,15,16,17,18,19,4]) (q:=q) (t:=1) rfl).trans a1;have e3:=(DZ (a:=a0) (ds:=[10,11,12,13,14,15,16,17,18,19,4]) (q:=q) (t:=3) rfl).trans a3;have hbw:U w'.heap.size w' w':=qD _ _;have hc:∀j,w'.cell? ⟨w.heap.size,j,Z⟩=W0.cell? ⟨w.heap.size,j,Z⟩:=fun j=>hb.cell (p:=⟨w.heap.size,j,Z⟩) hl;have hcs:i=0\/i=1\/i=2\/i=3\/i=4\/i=5\/i=6\/i=7\/i=8\/i=9\/i=10:=by omega
   rcases hcs with rfl|rfl|rfl|rfl|rfl|rfl|rfl|rfl|rfl|rfl|rfl;all_goals obtain rfl:=Option.some.inj ho
   .refine Ak (w':=w') (v:=K #[Y so n sc,.int W gi,Y no n nc,Y bo bn bc,.int W gm]) ?_ hbw ⟨pwP.val (.inl ⟨rfl,rfl⟩),(fun h=>by omega),fun b _ h=>nomatch h⟩;generalize(frm a0 [10,11,12,13,14,15,16,17,18,19,4] q).eval=ev at e1⊢;simp[execOp,e1,go_sem,hc,c0,c1,c2,c3,c4]
   .exact G7 (by omega) rfl (fun _ h=>by omega) e3
   .exact G6 11 hn (by omega) rfl (fun _ h=>by omega) ((f 11 rfl (by decide)).trans ((hq 1 11 (by rfl) (by rfl)).2.1 (by omega)))
   .exact G7 (by omega) rfl (fun _ h=>by omega) e3
   .exact G6 13 hn (by omega) rfl (fun _ h=>by omega) ((f 13 rfl (by decide)).trans ((hq 3 13 (by rfl) (by rfl)).2.1 (by omega)))
   .exact G7 (by omega) rfl (fun _ h=>by omega) e3
   .exact G6 15 hn (by omega) rfl (fun _ h=>by omega) ((f 15 rfl (by decide)).trans ((hq 5 15 (by rfl) (by rfl)).2.1 (by omega)))
   .exact G7 (by omega) rfl (fun _ h=>by omega) e3
   .exact G6 17 hn (by omega) rfl (fun _ h=>by omega) ((f 17 rfl (by decide)).trans ((hq 7 17 (by rfl) (by rfl)).2.1 (by omega)))
   .have x0:=(f 10 rfl (by decide)).trans ((hq 0 10 (by rfl) (by rfl)).1 rfl);obtain⟨r1,y1,_⟩:=(hq 2 12 (by rfl) (by rfl)).2.2.1 (by omega);obtain⟨r2,y2,_⟩:=(hq 4 14 (by rfl) (by rfl)).2.2.1 (by omega);obtain⟨r3,y3,_⟩:=(hq 6 16 (by rfl) (by rfl)).2.2.1 (by omega);obtain⟨r4,y4,_⟩:=(hq 8 18 (by rfl) (by rfl)).2.2.1 (by omega);have x1:=(f 12 rfl (by decide)).trans y1;have x2:=(f 14 rfl (by decide)).trans y2;have x3:=(f 16 rfl (by decide)).trans y3;have x4:=(f 18 rfl (by decide)).trans y4;refine Ak (w':=w') (v:=.agg (C3 (Y so n sc) (.int W gi) (Y no n nc) (Y bo bn bc) (.int W gm) (q 12) (q 14) (q 16) (q 18))) ?_ hbw ⟨pwP.val (.inr (.inr rfl)),(fun _=>rfl),fun b h _=>nomatch h⟩;rw[y1,y2,y3,y4];generalize(frm a0 [10,11,12,13,14,15,16,17,18,19,4] q).eval=ev at x0 x1 x2 x3 x4⊢;simp[execOp,x0,x1,x2,x3,x4,go_sem,C3]
   .refine Ak (w':=w'.alloc (.cells Ej 246)) (v:=N (X ⟨w'.heap.size,0,Z⟩)) ?_ (hbw.alloc (qB _) _) ⟨pwP.box (blk_alloc_new _ _),(fun h=>by omega),fun b _ h=>?_⟩
    .generalize (frm a0 [10,11,12,13,14,15,16,17,18,19,4] q).eval=ev;kernel_rfl
    .obtain rfl:w'.heap.size=b:=by simpa[blk]using h
     simp
  .intro q w' hb hp hl2 hown hdis;have f:∀t,[10,11,12,13,14,15,16,17,18,19,4].contains t=true->t<47->(frm a0 [10,11,12,13,14,15,16,17,18,19,4] q).eval (.tmp t)=q t:=fun t h1 h2=>DT h1 (by rw[hsz];exact h2);obtain⟨b1,y1,h1⟩:=(hp 2 12 (by decide) (by rfl)).2.2.1 (by omega);obtain⟨b2,y2,h2⟩:=(hp 4 14 (by decide) (by rfl)).2.2.1 (by omega);obtain⟨b3,y3,h3⟩:=(hp 6 16 (by decide) (by rfl)).2.2.1 (by omega);obtain⟨b4,y4,h4⟩:=(hp 8 18 (by decide) (by rfl)).2.2.1 (by omega);obtain⟨b,y0,h0⟩:=(hp 10 4 (by decide) (by rfl)).2.2.2 rfl;have e19:=hl2 9 19 (by decide) (by rfl) rfl;rw[y1,y2,y3,y4]at e19;have k1:blk (q 12)=X b1:=by rw[y1];rfl
   have k2:blk (q 14)=X b2:=by rw[y2];rfl
   have k3:blk (q 16)=X b3:=by rw[y3];rfl
   have k4:blk (q 18)=X b4:=by rw[y4];rfl
   have k0:blk (q 4)=X b:=by rw[y0];rfl
   have dd:∀i j t s x y,i<11->j<11->i≠j->pwN i=true->pwN j=true->Ap _ i=X t->Ap _ j=X s->blk (q t)=X x->blk (q s)=X y->x≠y:=fun i j t s x y g1 g2 g3 g4 g5 g6 g7 g8 g9 e=>hdis i j t s x g1 g2 g3 g4 g5 g6 g7 g8 (by rw[g9,e]);have u01:=dd 10 2 4 12 b b1 (by decide) (by decide) (by decide) rfl rfl rfl rfl k0 k1;have u02:=dd 10 4 4 14 b b2 (by decide) (by decide) (by decide) rfl rfl rfl rfl k0 k2;have u03:=dd 10 6 4 16 b b3 (by decide) (by decide) (by decide) rfl rfl rfl rfl k0 k3;have u04:=dd 10 8 4 18 b b4 (by decide) (by decide) (by decide) rfl rfl rfl rfl k0 k4;have u12:=dd 2 4 12 14 b1 b2 (by decide) (by decide) (by decide) rfl rfl rfl rfl k1 k2;have u13:=dd 2 6 12 16 b1 b3 (by decide) (by decide) (by decide) rfl rfl rfl rfl k1 k3;have u14:=dd 2 8 12 18 b1 b4 (by decide) (by decide) (by decide) rfl rfl rfl rfl k1 k4;have u23:=dd 4 6 14 16 b2 b3 (by decide) (by decide) (by decide) rfl rfl rfl rfl k2 k3;have u24:=dd 4 8 14 18 b2 b4 (by decide) (by decide) (by decide) rfl rfl rfl rfl k2 k4;have u34:=dd 6 8 16 18 b3 b4 (by decide) (by decide) (by decide) rfl rfl rfl rfl k3 k4;have o1:=hown 2 12 b1 (by decide) rfl rfl k1;have o2:=hown 4 14 b2 (by decide) rfl rfl k2;have o3:=hown 6 16 b3 (by decide) rfl rfl k3;have o4:=hown 8 18 b4 (by decide) rfl rfl k4;have o0:=hown 10 4 b (by decide) rfl rfl k0;show wpOps qA _ _ [11] _ _;rw[wpOps_cons];refine Hw rfl rfl ?_;obtain⟨w5,r1,r2,r3,r4⟩:=UC _ _ (frm a0 [10,11,12,13,14,15,16,17,18,19,4] q).eval w' b so no bo sc nc bn bc n gi gm b1 b2 b3 b4 ((f 4 rfl (by decide)).trans y0) ((f 19 rfl (by decide)).trans e19) h0;have hsz5:=(r4 b w' (qB _) (qD _ _)).size;have HX:V (Lr w w5 no n nc b b1 b2 b3 b4):=Ro rfl r2 (h1.of_block (r3 _ (Ne.symm u01))) (h2.of_block (r3 _ (Ne.symm u02))) (h3.of_block (r3 _ (Ne.symm u03))) (h4.of_block (r3 _ (Ne.symm u04))) hs0 hb0 (r4 _ _ o0.1 hb) ⟨o0.1,by omega⟩ ⟨o1.1,by omega⟩ ⟨o2.1,by omega⟩ ⟨o3.1,by omega⟩ ⟨o4.1,by omega⟩ u01 u02 u03 u04 u12 u13 u14 u23 u24 u34;refine Hx rfl r1 ?_;show K' _ _;refine hK' _ _ ?_;rw[<-ha0];go_meet
   exact⟨Fk w.heap.size w5.heap.size b b1 b2 b3 b4,y0,HX⟩
 case rest=>
  obtain⟨A,rfl,HA0⟩:=hcut;obtain⟨hA,hAs,hW⟩:=HA0.out;have HA:V (TAOk A):=hA;have H0:V (TjW w wc A (Y no n nc) n (Y Z 0 0) (Y Z 0 0) [] [] (fun _=>0) (fun _=>0) (fun _=>0) (fun j=>if j<0 then -1 else 0) 0):=hW;have HR:V (Et w no n nx):=hR;have HNX:V (∀i,i<n->∀k∈nx i,k<n):=hnx;have HXL:V (∀i,i<n->(nx i).length<=140737488355328):=hxl;have k11:=H0.out.cp;clear HA0 hW hmk c0 c1 c2 c3 c4 hb0 hR hnx hxl hs0 hW0;go_wp2_with fail
  go_loopw [23] (fun i wr=>∃k:Nat,k<=n/\i=.int W k/\V (TjW w wr A (Y no n nc) n (Y Z 0 0) (Y Z 0 0) [] [] (fun _=>0) (fun _=>0) (fun _=>0) (fun j=>if j<k then -1 else 0) 0)) (fun i _=>n-(intOf i).toNat)
  case atStart=>exact⟨0,qJ _,rfl,H0⟩
  case round=>
   obtain⟨k,hk,rfl,HK⟩:=hrel;by_cases hlt:k<n
   .have k11:=HK.out.cp;have r1:=HK.out.rp.cell hlt;have r2:=HK.out.rp.frozen k;have HN:V (TjW w (wr.setCell ⟨A.bp,k,Z⟩ (.int W (-1))) A (Y no n nc) n (Y Z 0 0) (Y Z 0 0) [] [] (fun _=>0) (fun _=>0) (fun _=>0) (fun j=>if j<k+1 then -1 else 0) 0):=by
     have:=HK.out.setP HA.out k (-1);have e:Eh (fun j=>if j<k then(-1:Int)else 0) k (-1)=fun j=>if j<k+1 then -1 else 0:=by
      funext j;unfold Eh;by_cases hj:j=k
      .subst hj;simp
      .rw[if_neg hj];show(if j<k then(-1:Int)else 0)=_;by_cases hjk:j<k
       .rw[if_pos hjk,if_pos (by omega)]
       .rw[if_neg hjk,if_neg (by omega)]
     rw[e]at this;exact this
    generalize Cg (fun j=>if j<k then(-1:Int)else 0) k=old at *
    clear HK;go_wp2_with fail
    go_roundw
    case rel=>exact⟨k+1,hlt,by go_num,HN⟩
    case measure=>simp[intOf];omega
   .obtain rfl:k=n:=by omega
    have HT0:V (∃wh lo go pt met,FU w wr A (Y no k nc) k nx [] wh lo go pt met/\∀x,x<0->wh x≠0):=by
     have h:=HK.out;refine⟨_,_,_,_,_,⟨Y Z 0 0,Y Z 0 0,Tj.start k nx,?_⟩,fun x hx=>by omega⟩;exact⟨h.below,h.size,h.fz,h.gn,h.dn,h.on,h.cw,h.cl,h.cg,h.cm,h.cp,h.rw,h.rl,h.rg,h.rp.congr (fun j hj=>by simp[Cg,hj]),h.od,h.oo,h.ap⟩
    clear HK H0 k11;generalize wr=w1 at *
    go_wp2_with fail
    go_loopw [32] (fun i wr=>∃q:Nat,q<=k/\i=.int W q/\V (F9 w wr A (Y no k nc) k nx (fun x=>x<q))) (fun i _=>k-(intOf i).toNat)
    case atStart=>exact⟨0,qJ _,rfl,HT0⟩
    case round=>
     obtain⟨q,hq,rfl,HE⟩:=hrel;obtain⟨wh,lo,go,pt,met,⟨dv,ov,hT,hW⟩,hseen⟩:=HE.out;have HT:V (Tj k nx [] wh lo go pt met):=hT;have HW:V (TjW w wr A (Y no k nc) k dv ov [] [] wh lo go pt met):=hW;have HS:V (∀x,x<q->wh x≠0):=hseen;clear hT hW hseen HE HT0;by_cases hlt2:q<k
     .have k7:=HW.out.cw;have r7:wr.cell? ⟨A.bw,q,Z⟩=X (.int W (wh q:Int)):=HW.out.rw.cell hlt2;by_cases hwq:wh q=0
      .have hmet:met<k:=by rw[HT.out.few];exact MH hwq hlt2
       have hme:=NP w wr A (Y no k nc) k dv ov [] [] wh lo go pt met q HA.out hlt2 (by omega) (by simp) (by simp) HW.out;have HTb:V (Tj k nx [(q,[])] (upd wh q (met+1)) (upd lo q (met+1)) go pt (met+1)):=HT.out.begin hlt2 hwq;have HSq:V (∀x,x<q+1->upd wh q (met+1) x≠0):=fun x hx=>by
        by_cases e:x=q
        .subst e;rw[A7];omega
        .rw[Al e];exact HS.out x (by omega)
       have hgo:=fun w2 (hh:TjK w w2 A (Y no k nc) k nx (fun x=>x<q+1) (2*left nx go k+1))=>VC w w2 A no nc k nx (fun x=>x<q+1) (2*left nx go k+1) HA.out hn HNX.out HXL.out (by rw[hAs];exact qB _) HR.out hh;rw[hwq]at r7;clear HT HW HS;go_wp2_with (first|(go_at_call 158;refine hme.mono ?_;rintro e w2 ⟨rfl,HW2⟩;have hgo2:=hgo w2 (by obtain⟨dv',ov',h6⟩:=HW2.out;exact⟨_,_,_,_,_,_,⟨dv',ov',HTb.out,h6⟩,rfl,HSq.out⟩))|(go_at_call 159;refine hgo2.mono ?_;rintro e w3 ⟨rfl,HW3⟩))
       go_roundw
       case rel=>exact⟨q+1,hlt2,by go_num,HW3⟩
       case measure=>simp[intOf];omega
      .have hwq2:¬(wh q:Int)=0:=by omega
       have HN:V (F9 w wr A (Y no k nc) k nx (fun x=>x<q+1)):=⟨wh,lo,go,pt,met,⟨dv,ov,HT.out,HW.out⟩,fun x hx=>by
        by_cases e:x=q
        .subst e;exact hwq
        .exact HS.out x (by omega)⟩
       generalize wh q=b at *;clear HT HW HS
       go_wp2_with fail
       go_roundw
       case rel=>exact⟨q+1,hlt2,by go_num,HN⟩
       case measure=>simp[intOf];omega
     .obtain rfl:q=k:=by omega
      have k11:=HW.out.cp;have hbw:U w.heap.size w wr:=by rw[<-hAs];exact HW.out.below
      have HF:V (∃pt,w.heap.size<=A.bp/\wr.rowIs A.bp 3 q (Cg pt)/\∀x,x<q->Ev nx x (pt x)):=⟨pt,by rw[<-hAs];exact HA.out.sp,HW.out.rp,HT.out.done HS.out⟩;clear HT HW HS;go_wp2_with fail
      go_ret;exact⟨_,rfl,hbw,HF⟩
open Go.ChangeShapes Go.WideShapes Go.ChangeAt Go.RowKit Go.Deep Go.Maps
def H9(g:Gr)(ins want:Nat->Bool)(bs:List Nat)(L:Met)(r:Int):Prop:=LOk g.spots.length ins (nxt g) bs L/\((r=-1/\Through ins want (nxt g) bs L L.length)\/∃i,i<L.length/\r=((L.getD i (0,0)).1:Int)/\want (L.getD i (0,0)).1=true)
theorem Si(L:Met){i:Nat}(hi:i<L.length):(Av (keys L))[i]? = X (.int W ((L.getD i (0,0)).1:Int)):=by
 simp[Av,keys,qC,hi]
theorem Rg(so no bo po:Option Addr)(sc nc bc pc:Nat)(g:Gr)(bs:List Nat)(fi fw:FuncId)(ci cw:Array Value)(ins want:Nat->Bool)(w:O)(hg:GOk g)(hzn:∀i,i<g.spots.length->(g.next.getD i []).length<=140737488355328)
    (hV:GraphV w (.slice so g.spots.length sc) (.slice no g.next.length nc) (.slice bo g.sets.length bc) g) (hP:Bi w (.slice po bs.length pc) bs) (hbl:bs.length<=140737488355328) (hbs:∀x∈bs,x<g.spots.length)
    (hI:FnB w w.heap.size g.spots.length (.func (.func fi) #[] ci) ins) (hW:FnB w w.heap.size g.spots.length (.func (.func fw) #[] cw) want) :
    M qA 153 #[K #[.slice so g.spots.length sc,.int W g.init,.slice no g.next.length nc,.slice bo g.sets.length bc,.int W g.many],.slice po bs.length pc,.func (.func fi) #[] ci,.func (.func fw) #[] cw] w fun e w'=>∃L r,e=Q (G #[.int W r,.map (X (w.heap.size+2))])/\U w.heap.size w w'/\V (Dn w' (w.heap.size+2) L/\H9 g ins want bs L r):=by
  have hn:=hg.head.n;have hnl:=hg.head.next
  have HMeet:V (∀(po:Option Addr) (pc:Nat) (ps:List Nat) (f:Int) (w1:O) (L:Met) (v:Value),(∀x∈ps,x<g.spots.length)->-1<=f/\f<=20000->ps.length<=140737488355328->Bi w (.slice po ps.length pc) ps->LOk g.spots.length ins (nxt g) bs L->((f=-1/\∀x∈ps,x∈bs)\/∃j,j<L.length/\f=((L.getD j (0,0)).1:Int)/\∀x∈ps,x∈nxt g (L.getD j (0,0)).1)->LookSt w w1 w.heap.size (.slice no g.next.length nc) (.func (.func fi) #[] ci) L v->
      M qA 172 #[.slice po ps.length pc,.int W f,N (X ⟨w.heap.size+3,0,Z⟩),N (X ⟨w.heap.size+1,0,Z⟩),N (X ⟨w.heap.size+4,0,Z⟩)] w1 fun e w'=>e=Q (G #[])/\∃v',LookSt w w' w.heap.size (.slice no g.next.length nc) (.func (.func fi) #[] ci) (BC ins f L ps ps.length) v'/\LOk g.spots.length ins (nxt g) bs (BC ins f L ps ps.length)):=fun po pc ps f w1 L v h1 h2 h3 h4 h5 h6 h7=>
    (R0 po pc ps f w w1 g.spots.length _ fi ci ins L v hn h1 h2 h3 h4 hI (fun k hk=>(Lw h5 h1 h6 k hk).length) h7).mono fun e w' ⟨e1,v',e2⟩=>⟨e1,v',e2,Lw h5 h1 h6 _ (qB _)⟩
  have HV:V (GraphV w (.slice so g.spots.length sc) (.slice no g.next.length nc) (.slice bo g.sets.length bc) g):=hV;have HRow:V (∀p,p<g.spots.length->∃b off,no=X ⟨b,off,Z⟩/\b<w.heap.size/\∃uo uc,w.cell? ⟨b,off+p,Z⟩=X (.slice uo (nxt g p).length uc)/\Bi w (.slice uo (nxt g p).length uc) (nxt g p)/\(nxt g p).length<=140737488355328/\∀x∈nxt g p,x<g.spots.length):=fun p hp=>by
    obtain⟨b,off,e,hb,uo,uc,h1,h2⟩:=hV.next.row (i:=p) (by rw[hnl];exact hp);have h3:=hzn p hp;refine⟨b,off,e,hb,uo,uc,by rw[FA];exact h1,My hg hp h2,by rw[FA];exact h3,fun x hx=>Fp hg hp hx⟩
  have HBs:V (∀x∈bs,x<g.spots.length):=hbs;have HP:V (Bi w (.slice po bs.length pc) bs):=hP;obtain⟨fw',cw',e1,hen,hwn⟩:=hW;injection e1 with e1 e2 e3;injection e1 with e1;subst e1 e3;clear e2;have HWn:V (∀w',U w.heap.size w w'->∀p:Nat,p<g.spots.length->M qA fw (#[.int W (p:Int)]++cw) w' fun e w2=>e=Q (.bool (want p))/\U w'.heap.size w' w2):=hwn;have HPost:V (∀L r,LOk g.spots.length ins (nxt g) bs L->((r=-1/\Through ins want (nxt g) bs L L.length)\/∃i,i<L.length/\r=((L.getD i (0,0)).1:Int)/\want (L.getD i (0,0)).1=true)->H9 g ins want bs L r):=fun L r h1 h2=>⟨h1,h2⟩
  have HTh0:V (∀f,Through ins want (nxt g) bs (BC ins f [] bs bs.length) 0):=fun f=>⟨fun x hx hy=>by
      obtain⟨k,hk,rfl⟩:=jF hx;have:=Lv (ins:=ins) (f:=f) (L:=[]) (qB bs.length) k hk;rw[qC,qH hk]at this;exact this hy,fun j hj=>by omega,fun j hj=>by omega⟩
  generalize H9 g ins want bs=LP at *;generalize nxt g=nx at *;rw[hnl]at HMeet⊢;generalize g.sets.length=bn at *;generalize g.spots.length=n at *;generalize g.init=gi at *;generalize g.many=gm at *;clear hV hg hzn hnl hbs hP hI hwn HV
  have HS1:V (LookSt w (((((w.alloc (S #[Y so n sc,.int W gi,Y no n nc,Y bo bn bc,.int W gm] 41)).alloc (S #[.func (.func fi) #[] ci] 156)).alloc (.map #[] 0)).alloc (S #[.map (X (w.heap.size+1+1))] 179)).alloc (S #[Y Z 0 0] 39)) w.heap.size (Y no n nc) (.func (.func fi) #[] ci) [] (Y Z 0 0)):=by
    refine⟨?_,by simp,by simp[go_sem],by simp[go_sem],by simp[go_sem],?_,by simp[go_sem],by simp[go_sem],World.ownsRow_nil _ _ _ _⟩
    . exact(((((qD _ _).alloc (qB _) _).alloc (by simp) _).alloc (by simp;omega) _).alloc (by simp;omega) _).alloc (by simp;omega) _
    . have h0:=World.ownsMap_made ((w.alloc (S #[Y so n sc,.int W gi,Y no n nc,Y bo bn bc,.int W gm] 41)).alloc (S #[.func (.func fi) #[] ci] 156)) qA 3 (plainElem (H:=Unit) qA 3)
      have h1:=(h0.kept (E5 ((qD _ _).alloc (qB _) (S #[.map (X (w.heap.size+1+1))] 179))) (by simp)).kept (E5 ((qD _ _).alloc (qB _) (S #[Y Z 0 0] 39))) (by simp);exact⟨_,by simpa using h1,fun x=>⟨by simp[Maps.has,keys],fun h=>by simp[keys]at h⟩⟩
  have hme:=HMeet.out po pc bs (-1) _ [] _ HBs.out (by omega) hbl HP.out (LOk.nil _ _ _ _) (.inl ⟨rfl,fun x hx=>hx⟩) HS1.out;have hmm:=@run_makeMap qA;have hmf:∀(fn:Fn) (first cap:Array Value) (w:O),(Instr.makeFunc fn first cap).run qA w=.ok (.func fn first cap) w:=fun _ _ _ _=>rfl;go_enter Tryz.func153,Tryz.ntmps153;go_wp2_with (go_at_call 172;refine hme.mono ?_;rintro e w1 ⟨rfl,v1,hst1,hok1⟩)
  have HTh:=HTh0.out (-1);generalize BC ins (-1) [] bs bs.length=L1 at *;have HI:V (∃L v,0<=L.length/\LookSt w w1 w.heap.size (Y no n nc) (.func (.func fi) #[] ci) L v/\LOk n ins nx bs L/\Through ins want nx bs L 0):=⟨L1,v1,qJ _,hst1,hok1,HTh⟩
  clear hst1 hok1 HTh HTh0 hme HS1 hmm hmf HP HBs;go_loopw [13] (fun i wr=>∃k:Nat,k<=n/\i=.int W k/\V (∃L v,k<=L.length/\LookSt w wr w.heap.size (Y no n nc) (.func (.func fi) #[] ci) L v/\LOk n ins nx bs L/\Through ins want nx bs L k)) (fun i _=>n-(intOf i).toNat)
  case atStart=>exact⟨0,qJ _,rfl,HI.out⟩
  case round=>
    obtain⟨k,hk,rfl,HK⟩:=hrel;obtain⟨L,v,hkL,hst,hok,hth⟩:=HK.out;obtain⟨lo,lc,rfl⟩:=A3 hst.ow;have hln:wr.cell? ⟨w.heap.size+1+1+1+1,0,Z⟩=X (.slice lo L.length lc):=hst.ln;have hcm:wr.cell? ⟨w.heap.size+1+1+1,0,Z⟩=X (.map (X (w.heap.size+1+1))):=hst.cm;have hgn:=hst.gn;have hLn:=hok.length;by_cases hlt:k<L.length
    . obtain⟨lb,hlo⟩:∃lb,lo=X ⟨lb,0,Z⟩:=by
        rcases hst.ow.2 with⟨e,h0⟩|⟨lb,cap,cur,e,_⟩
        . omega
        . injection e with e1 _ _;exact⟨lb,e1⟩
      subst hlo;have hcl:wr.cell? ⟨lb,k,Z⟩=X (.int W ((L.getD k (0,0)).1:Int)):=by
        rw[hst.ow.cellAt k (by omega)];exact Si L hlt
      have hpn:(L.getD k (0,0)).1<n:=hok.lt _ (RG hlt);have hwa:=HWn.out wr hst.below (L.getD k (0,0)).1 hpn;have HLa:V (∀w4,U wr.heap.size wr w4->LookSt w w4 w.heap.size (Y no n nc) (.func (.func fi) #[] ci) L (Y (X ⟨lb,0,Z⟩) L.length lc)):=fun w4 hb=>hst.later hb;have hlbs:lb<wr.heap.size:=World.block_lt_of_cell? wr _ hcl;cases hwt:want (L.getD k (0,0)).1 with
      |true=>
        rw[hwt]at hwa;have HP2:V (LP L ((L.getD k (0,0)).1:Int)):=HPost.out L _ hok (.inr ⟨k,hlt,rfl,hwt⟩);generalize(L.getD k (0,0)).1=p at *;obtain⟨q,hq⟩:∃q,q=L.length:=⟨_,rfl⟩
        rw[<-hq]at hlt hln hLn HLa;clear hst hok hth HK hwt hq hkL;go_wp2_with ((refine hwa.mono ?_;rintro e w4 ⟨rfl,hb4⟩;have hst4:=HLa.out w4 hb4;have hln4:w4.cell? ⟨w.heap.size+1+1+1+1,0,Z⟩=X (Y (X ⟨lb,0,Z⟩) q lc):=hst4.ln;have hcm4:w4.cell? ⟨w.heap.size+1+1+1,0,Z⟩=X (.map (X (w.heap.size+1+1))):=hst4.cm;have hcl4:=(hb4.cell (p:=⟨lb,k,Z⟩) hlbs).trans hcl;have hbw4:=hst4.below;have HM4:V (Dn w4 (w.heap.size+2) L):=hst4.mp;clear hst4))
        go_region
        go_wp2_with fail
        go_ret2;exact⟨L,(p:Int),rfl,by first|exact hbw4.drew|exact hbw4,HM4.out,HP2.out⟩
      |false=>
        rw[hwt]at hwa;obtain⟨nb,noff,rfl,hnb,uo,uc,hcu0,hnat,hnl,hnlt⟩:=HRow.out (L.getD k (0,0)).1 hpn;have HTh:V (∀f,Through ins want nx bs (BC ins f L (nx (L.getD k (0,0)).1) (nx (L.getD k (0,0)).1).length) (k+1)):=fun f=>hth.step hlt hwt;have HLe:V (∀f,k+1<=(BC ins f L (nx (L.getD k (0,0)).1) (nx (L.getD k (0,0)).1).length).length):=fun f=>qI hlt (Iz _ _ _ _ _).length;have hme:=fun w4 hb=>HMeet.out uo uc (nx (L.getD k (0,0)).1) ((L.getD k (0,0)).1:Int) w4 L _ hnlt (by omega) hnl hnat hok (.inr ⟨k,hlt,rfl,fun x hx=>hx⟩) (HLa.out w4 hb);generalize(L.getD k (0,0)).1=p at *;obtain⟨q,hq⟩:∃q,q=L.length:=⟨_,rfl⟩
        have HQ:V (q=L.length):=hq;rw[<-hq]at hlt hln hLn HLa;have HME:V (∀w4,U wr.heap.size wr w4->M qA 172 #[.slice uo (nx p).length uc,.int W (p:Int),N (X ⟨w.heap.size+1+1+1,0,Z⟩),N (X ⟨w.heap.size+1,0,Z⟩),N (X ⟨w.heap.size+1+1+1+1,0,Z⟩)] w4 fun e w'=>e=Q (G #[])/\∃v',LookSt w w' w.heap.size (Y (X ⟨nb,noff,Z⟩) n nc) (.func (.func fi) #[] ci) (BC ins (p:Int) L (nx p) (nx p).length) v'/\LOk n ins nx bs (BC ins (p:Int) L (nx p) (nx p).length)):=hme;clear hst hok hth HK hwt hq hkL hme hnat hnlt HRow;have HN:=HTh.out (p:Int);have HN2:=HLe.out (p:Int);generalize BC ins (p:Int) L (nx p) (nx p).length=L2 at *;generalize(nx p).length=rn at *
        have hS:∀w',U wr.heap.size wr w'->w'.cell? ⟨w.heap.size,2,Z⟩=X (Y (X ⟨nb,noff,Z⟩) n nc)/\w'.cell? ⟨w.heap.size+1+1+1+1,0,Z⟩=X (Y (X ⟨lb,0,Z⟩) q lc)/\w'.cell? ⟨lb,k,Z⟩=X (.int W (p:Int))/\w'.cell? ⟨nb,noff+p,Z⟩=X (Y uo rn uc):=fun w' hb=>by
          have hst4:=HLa.out w' hb;exact⟨hst4.gn,hst4.ln,(hb.cell (p:=⟨lb,k,Z⟩) hlbs).trans hcl,(hst4.below.cell (p:=⟨nb,noff+p,Z⟩) hnb).trans hcu0⟩
        go_wp2_with ((refine hwa.mono ?_;rintro e w4 ⟨rfl,hb4⟩;obtain⟨a1,a2,a3,a4⟩:=hS w4 hb4))
        have hm4:=HME.out w4.drew hb4.drew;have HGo:V (∀w5 v5,LookSt w w5 w.heap.size (Y (X ⟨nb,noff,Z⟩) n nc) (.func (.func fi) #[] ci) L2 v5->LOk n ins nx bs L2->∃L v,k+1<=L.length/\LookSt w w5 w.heap.size (Y (X ⟨nb,noff,Z⟩) n nc) (.func (.func fi) #[] ci) L v/\LOk n ins nx bs L/\Through ins want nx bs L (k+1)):=fun w5 v5 h1 h2=>⟨L2,v5,HN2,h1,h2,HN⟩;clear HN HN2 HTh HLe HME HMeet HLa HWn HPost hS hwa hcl hcu0 hln hcm hgn;have hkn:k<n:=by omega
        go_region_with ((go_at_call 172;refine hm4.mono ?_;rintro e w5 ⟨rfl,v5,hst5,hok5⟩;have HK5:V (∃L v,k+1<=L.length/\LookSt w w5 w.heap.size (Y (X ⟨nb,noff,Z⟩) n nc) (.func (.func fi) #[] ci) L v/\LOk n ins nx bs L/\Through ins want nx bs L (k+1)):=(HGo.out w5 v5 hst5 hok5);clear hst5 hok5))
        all_goals
          go_wp2_with fail
          go_roundw
          case rel=>exact⟨k+1,hkn,by go_num,HK5⟩
          case measure=>simp[intOf];omega
    . obtain rfl:k=L.length:=by omega
      have HF:V (Dn wr (w.heap.size+2) L/\LP L (-1)):=⟨hst.mp,HPost.out L (-1) hok (.inl ⟨rfl,hth⟩)⟩;have hbw:=hst.below;generalize L.length=q at *;clear hst hok hth HK
      go_wp2_with fail
      go_region
      go_wp2_with fail
      go_ret2;exact⟨L,-1,rfl,by first|exact hbw.drew|exact hbw,HF.out⟩
open Classical in
noncomputable def Ft(nx:Nat->List Nat)(fr:List Nat)(n:Nat):List Bool:=(List.range n).map fun j=>decide (∃f∈fr,Way nx f j)
noncomputable def Dk(g:Gr):List Bool:=Ft (nxt g) (List.range g.init.toNat) g.spots.length
structure GrLe(g:Gr):Prop where
 spots:g.spots.length<=140737488355328
 next:g.next.length<=140737488355328
 sets:g.sets.length<=140737488355328
 rows:∀i,i<g.next.length->(g.next.getD i []).length<=140737488355328
open Classical in
theorem Mk{nx:Nat->List Nat}{fr:List Nat}{n j:Nat}(hj:j<n):(Ft nx fr n).getD j T=decide (∃f∈fr,Way nx f j):=by
 simp[Ft,qC,hj]
theorem Ml(nx:Nat->List Nat)(fr:List Nat)(n:Nat):(Ft nx fr n).length=n:=by simp[Ft]
theorem Un(so no bo:Option Addr)(sc nc bc:Nat)(g:Gr)(w:O)(hz:GrLe g)(hV:GraphV w (.slice so g.spots.length sc) (.slice no g.next.length nc) (.slice bo g.sets.length bc) g)(hc:Cu g=0) :
  M qA 116 #[K #[.slice so g.spots.length sc,.int W g.init,.slice no g.next.length nc,.slice bo g.sets.length bc,.int W g.many]] w fun e w'=>∃vo vc,e=Q (G #[.slice vo g.spots.length vc,.int W 0])/\U w.heap.size w w'/\V (BoolsV w' (.slice vo g.spots.length vc) (Dk g)):=by
 have hok:=LK hc;obtain⟨W0,hW0⟩:∃W0,W0=w.alloc (S #[.slice so g.spots.length sc,.int W g.init,.slice no g.next.length nc,.slice bo g.sets.length bc,.int W g.many] 41):=⟨_,rfl⟩;have hA:U w.heap.size w W0:=by rw[hW0];exact(qD _ _).alloc (qB _) _
 have hs0:w.heap.size<W0.heap.size:=by rw[hW0];simp
 have HD:V (∀w1,U W0.heap.size W0 w1->U w.heap.size w w1/\w1.cell? ⟨w.heap.size,0,Z⟩=X (.slice so g.spots.length sc)/\w1.cell? ⟨w.heap.size,1,Z⟩=X (.int W g.init)/\w1.cell? ⟨w.heap.size,2,Z⟩=X (.slice no g.next.length nc)/\w1.cell? ⟨w.heap.size,3,Z⟩=X (.slice bo g.sets.length bc)/\w1.cell? ⟨w.heap.size,4,Z⟩=X (.int W g.many)):=fun w1 hb=>by
  have c:∀j,w1.cell? ⟨w.heap.size,j,Z⟩=W0.cell? ⟨w.heap.size,j,Z⟩:=fun j=>hb.cell (p:=⟨w.heap.size,j,Z⟩) hs0;refine⟨hA.trans (hb.mono hA.size),(c _).trans ?_,(c _).trans ?_,(c _).trans ?_,(c _).trans ?_,(c _).trans ?_⟩<;>(rw[hW0];simp[go_sem])
 have hch:=UH so no bo sc nc bc g W0 hz.spots hz.next hz.sets hz.rows (hV.below hA);rw[hc]at hch;obtain⟨gi,hgi⟩:∃gi:Nat,g.init=gi:=⟨g.init.toNat,by have:=hok.head.init0;omega⟩;have hgn:gi<=g.spots.length:=by have:=hok.head.init1;omega
 have hn:=hok.head.n;have HFi:V (∀w1,M qA 154 #[K #[.slice so g.spots.length sc,.int W (gi:Int),.slice no g.next.length nc,.slice bo g.sets.length bc,.int W g.many]] w1 fun e w'=>∃vo vc,e=Q (.slice vo (List.range gi).length vc)/\U w1.heap.size w1 w'/\Bi w' (.slice vo (List.range gi).length vc) (List.range gi)):=fun w1=>QC so no bo _ sc _ nc _ bc gi g.many w1 (by omega);have HLo:V (∀w1 vo vc,U W0.heap.size W0 w1->Bi w1 (.slice vo (List.range gi).length vc) (List.range gi)->M qA 153 #[K #[.slice so g.spots.length sc,.int W (gi:Int),.slice no g.next.length nc,.slice bo g.sets.length bc,.int W g.many],.slice vo (List.range gi).length vc,.func (.func 155) #[] #[],.func (.func 156) #[] #[]] w1 fun e w'=>∃L r,e=Q (G #[.int W r,.map (X (w1.heap.size+2))])/\U w1.heap.size w1 w'/\V (Dn w' (w1.heap.size+2) L/\∀x,x∈keys L↔∃f∈List.range gi,Way (nxt g) f x)):=fun w1 vo vc hb hN=>by
  have:=Rg so no bo vo sc nc bc vc g (List.range gi) 155 156 #[] #[] (fun _=>true) (fun _=>T) w1 hok (fun i hi=>hz.rows i (by rw[hok.head.next];exact hi)) ((hV.below hA).below hb) hN (by simp;omega) (fun x hx=>by have:=vE.1 hx;omega) (OK _ _ _) (Se _ _ _);rw[hgi]at this;refine this.mono fun e w' ⟨L,r,h1,h2,h3⟩=>⟨L,r,h1,h2,h3.out.1,?_⟩;obtain⟨p1,p2⟩:=h3.out.2;rcases p2 with⟨_,p3⟩|⟨i,_,_,p4⟩
  .exact Rh p1 p3
  .simp at p4
 have HRe:V (∀x,x<g.spots.length->∀b:Bool,(b=true↔∃f∈List.range gi,Way (nxt g) f x)->(Dk g).getD x T=b):=fun x hx b hb=>by
  classical
  unfold Dk;rw[Mk hx,hgi];show decide (∃f∈List.range gi,Way (nxt g) f x)=b;cases b with
  |true=>exact decide_eq_true (hb.1 rfl)
  |false=>exact decide_eq_false fun h=>by simp at hb;exact hb _ (vE.1 h.choose_spec.1) h.choose_spec.2
 have HRl:V ((Dk g).length=g.spots.length):=Ml _ _ _;rw[hgi]at hW0 HD hch⊢;have HHas:V (∀x,(∃f∈List.range gi,Way (nxt g) f x)=(∃f∈List.range gi,Way (nxt g) f x)):=fun _=>rfl;generalize Dk g=RL at *;generalize Way (nxt g)=WY at *;obtain⟨lr,hlr⟩:∃lr,lr=(List.range gi).length:=⟨_,rfl⟩
 rw[<-hlr]at HFi HLo;generalize g.next.length=nn at *;generalize g.sets.length=bn at *;generalize g.many=gm at *;obtain⟨n,hnn⟩:∃n,n=g.spots.length:=⟨_,rfl⟩
 rw[<-hnn]at hW0 HD hch HFi HLo HRe HRl hn hgn⊢;clear hV hz hc hok hgi hnn hlr;have hS:∀w1,U W0.heap.size W0 w1->w1.cell? ⟨w.heap.size,0,Z⟩=X (Y so n sc)/\w1.cell? ⟨w.heap.size,1,Z⟩=X (.int W (gi:Int))/\w1.cell? ⟨w.heap.size,2,Z⟩=X (Y no nn nc)/\w1.cell? ⟨w.heap.size,3,Z⟩=X (Y bo bn bc)/\w1.cell? ⟨w.heap.size,4,Z⟩=X (.int W gm):=fun w1 hb=>(HD.out w1 hb).2;have HW0:V (W0=w.alloc (S #[Y so n sc,.int W (gi:Int),Y no nn nc,Y bo bn bc,.int W gm] 41)):=hW0;rw[hW0]at hch;clear hW0;go_enter Tryz.func116,Tryz.ntmps116;go_wp2_with (go_at_call 152;refine hch.mono ?_;rintro e w1 ⟨rfl,hb1⟩;rw[<-HW0.out]at hb1;obtain⟨a0,a1,a2,a3,a4⟩:=hS w1 hb1)
 have hfi:=HFi.out w1.drew;go_region_held3 (fun w'=>w'.cell? ⟨w.heap.size,0,Z⟩=X (Y so n sc)/\w'.cell? ⟨w.heap.size,1,Z⟩=X (.int W (gi:Int))/\w'.cell? ⟨w.heap.size,2,Z⟩=X (Y no nn nc)/\w'.cell? ⟨w.heap.size,3,Z⟩=X (Y bo bn bc)/\w'.cell? ⟨w.heap.size,4,Z⟩=X (.int W gm))
  (exact hS _ (by first|exact hb1.drew|exact hb1|exact hb12|exact hb13))
  (first|(go_at_call 154;refine hfi.mono ?_;rintro e w2 ⟨vo,vc,rfl,hb2,hN2⟩;have hb12:=hb1.trans ((Eg hb2).mono hb1.size);have hlo:=HLo.out w2 vo vc hb12 hN2)|(go_at_call 153;refine hlo.mono ?_;rintro e w3 ⟨L,r,rfl,hb3,HC⟩;have hb13:=hb12.trans (hb3.mono hb12.size)))
 obtain⟨b0,b1,b2,b3,b4⟩:=hS w3 hb13;have hmk:=run_make_row' (P:=qA) 102 4 (.bool T) 1 Tryz.underlying102 Gg rfl .i64 .i64 n (by omega) (by omega);have hrow0:=World.rowIs_made w3 (.bool T) n 4;have HR0:V ((w3.alloc (S (madeCells #[I T] n) 4)).rowIs w3.heap.size 4 n (fun j=>.bool (if j<0 then RL.getD j T else T))):=hrow0.congr fun j _=>by simp
 have HB0:V (U w3.heap.size w3 (w3.alloc (S (madeCells #[I T] n) 4))):=(qD _ _).alloc (qB _) _;have hbw3:=hA.trans (hb13.mono hA.size);clear hrow0 hS hfi hlo hN2 HLo HFi hch HD hb12 hb13 hb1 hb2 hb3 hA HW0;go_wp2_with fail
 go_loopw [27] (fun i wr=>∃k:Nat,k<=n/\i=.int W k/\V (wr.rowIs w3.heap.size 4 n (fun j=>.bool (if j<k then RL.getD j T else T)))/\V (U w3.heap.size w3 wr)) (fun i _=>n-(intOf i).toNat)
 case atStart=>exact⟨0,qJ _,rfl,HR0.out,HB0.out⟩
 case round=>
  obtain⟨k,hk,rfl,HR,HB⟩:=hrel;by_cases hlt:k<n
  .have hce:=HR.out.cell hlt;have hfz:=HR.out.frozen k;obtain⟨D,hown,hcd⟩:=HC.out.1.kept (E5 HB.out) (by simp);have hkk:=HC.out.2 k;have hhas:=(hcd k).1;have hk1:=La k (by omega);have HRk:V (RL.getD k T=decide (k∈keys L)):=HRe.out k hlt (decide (k∈keys L)) (by rw[<-hkk];simp);generalize decide (k∈keys L)=bb at *
   have HN:V ((wr.setCell ⟨w3.heap.size,k,Z⟩ (.bool bb)).rowIs w3.heap.size 4 n (fun j=>.bool (if j<k+1 then RL.getD j T else T))):=(HR.out.set k (.bool bb)).congr fun j _=>by
    by_cases hj:j=k
    .subst hj;rw[if_pos rfl,if_pos (by omega),HRk.out]
    .rw[if_neg hj];by_cases hjk:j<k
     .rw[if_pos hjk,if_pos (by omega)]
     .rw[if_neg hjk,if_neg (by omega)]
   have HBn:V (U w3.heap.size w3 (wr.setCell ⟨w3.heap.size,k,Z⟩ (.bool bb))):=HB.out.setCell (qB _) _;generalize(if k<k then RL.getD k T else T)=old at *
   generalize L.length=ql at *;clear HR hcd hkk
   go_wp2_with (at_lookup;refine wpList_lookup_own_ok_int _ rfl _ _ 179 rfl 3 3 .i64 Fh Tryz.underlying179 Tryz.underlying3 (Hv _) (w2.heap.size+2) _ D rfl hown _ _ rfl hk1 ?_;intro c hat hwc;rw[hhas];clear hat hwc)
   go_roundw
   case rel=>exact⟨k+1,hlt,by go_num,HN,HBn⟩
   case measure=>simp[intOf];omega
  .obtain rfl:k=n:=by omega
   have HI:V (BoolsV wr (Y (X ⟨w3.heap.size,0,Z⟩) k k) RL):=by
    have h1:wr.rowIs w3.heap.size 4 RL.length (fun j=>.bool (RL.getD j T)):=by rw[HRl.out];exact HR.out.congr fun j hj=>by rw[if_pos hj]
    have:=IL h1;rwa[HRl.out]at this
   clear HR;go_wp2_with fail
   go_ret2;exact⟨_,_,rfl,hbw3.trans (HB.out.mono hbw3.size),HI⟩
theorem LN{w:O}{g:Gr}{so no bo:Option Addr}{sc nc bc:Nat}(h:GOk g)(hV:GraphV w (.slice so g.spots.length sc) (.slice no g.next.length nc) (.slice bo g.sets.length bc) g):Et w no g.spots.length (nxt g):=fun p hp=>by
 obtain⟨b,off,e,hb,uo,uc,hc,hi⟩:=hV.next.row (i:=p) (by rw[h.head.next];exact hp);exact⟨b,off,e,hb,uo,uc,by rw[FA];exact hc,My h hp hi⟩
def Ew(g:Gr)(pt:Nat->Int):Prop:=∀x,x<g.spots.length->Ev (nxt g) x (pt x)
theorem TC(so no bo:Option Addr)(sc nc bc:Nat)(g:Gr)(w:O)(hz:GrLe g)(hV:GraphV w (.slice so g.spots.length sc) (.slice no g.next.length nc) (.slice bo g.sets.length bc) g)(hok:GOk g) :
  M qA 118 #[K #[.slice so g.spots.length sc,.int W g.init,.slice no g.next.length nc,.slice bo g.sets.length bc,.int W g.many]] w fun e w'=>∃B,e=Q (Y (X ⟨B,0,Z⟩) g.spots.length g.spots.length)/\U w.heap.size w w'/\V (∃pt,w.heap.size<=B/\w'.rowIs B 3 g.spots.length (Cg pt)/\Ew g pt):=by
 have hn:=hok.head.next;have h:=TB so no bo sc nc g.sets.length bc g.init g.many g.spots.length (nxt g) w hok.head.n (fun i hi k hk=>Fp hok hi hk) (fun i hi=>by rw[FA];exact hz.rows i (by rw[hn];exact hi)) (LN hok hV);rw[hn];exact h
theorem Sx:∀a,a<64->∀b,b<64->bits BinOp.or IntKind.i64 ((a:Nat):Int) ((b:Nat):Int)=((a ||| b:Nat):Int):=by decide +kernel
theorem TM{m:Nat}(h:m<=6):2^m<=64:=vG (n:=2) (by decide) h
theorem GOk.sN{g:Gr}(h:GOk g){x:Nat}(hx:x<g.spots.length):g.sets.getD x 0=(sN g x:Int)/\Go.Proofs.YtjldkfiabgagiaaGreatDoor.sN g x<2^mN g:=by
 have h1:=(h.row x hx).1;unfold Es top at h1;have h2:((2^g.many.toNat:Nat):Int)=2^g.many.toNat:=by simp
 unfold Go.Proofs.YtjldkfiabgagiaaGreatDoor.sN mN;omega
theorem GOk.mN{g:Gr}(h:GOk g):mN g<=6/\g.many=(Go.Proofs.YtjldkfiabgagiaaGreatDoor.mN g:Int)/\top g=((2^Go.Proofs.YtjldkfiabgagiaaGreatDoor.mN g-1:Nat):Int):=by
 have h1:=h.head.many0;have h2:=h.head.many6;have h3:((2^g.many.toNat:Nat):Int)=2^g.many.toNat:=by simp
 have h4:0<2^g.many.toNat:=uB (by decide);unfold Go.Proofs.YtjldkfiabgagiaaGreatDoor.mN top;omega
def Bk(s pz:Nat->Nat)(p:Nat):Nat->Nat
 |0=>0
 |k+1=>if pz k=p then Bk s pz p k ||| s k else Bk s pz p k
theorem JG{s pz:Nat->Nat}{p m n:Nat}(hs:∀x,x<n->s x<2^m):∀k,k<=n->Bk s pz p k<2^m
 |0,_=>uB (by decide)
 |k+1,hk=>by
  have ih:=JG (p:=p) (pz:=pz) hs k (by omega);unfold Bk;split
  .exact Nat.or_lt_two_pow ih (hs k (by omega))
  .exact ih
theorem JF{s pz:Nat->Nat}{p i:Nat}:∀k,(Bk s pz p k).testBit i=true↔∃x,x<k/\pz x=p/\(s x).testBit i=true
 |0=>by
  unfold Bk;simp
 |k+1=>by
  have ih:=JF (s:=s) (pz:=pz) (p:=p) (i:=i) k;unfold Bk;split
  .rename_i hp;rw[Nat.testBit_or,Bool.or_eq_true,ih];constructor
   .rintro (⟨x,h1,h2⟩|h)
    .exact ⟨x,by omega,h2⟩
    .exact ⟨k,by omega,hp,h⟩
   .rintro ⟨x,h1,h2,h3⟩;by_cases e:x=k
    .subst e;exact .inr h3
    .exact .inl ⟨x,by omega,h2,h3⟩
  .rename_i hp;rw[ih];constructor
   .rintro ⟨x,h1,h2⟩;exact⟨x,by omega,h2⟩
   .rintro ⟨x,h1,h2,h3⟩;by_cases e:x=k
    .subst e;exact absurd h2 hp
    .exact ⟨x,by omega,h2,h3⟩
theorem QW{a m:Nat}(ha:a<2^m):a=2^m-1↔∀i,i<m->a.testBit i=true:=by
 constructor
 .rintro rfl i hi;rw[zP];simp[hi]
 .intro h;refine Nat.eq_of_testBit_eq fun i=>?_;rw[zP];by_cases hi:i<m
  .rw[h i hi];simp[hi]
  .rw[Nat.testBit_lt_two_pow (Nat.lt_of_lt_of_le ha (vG (by decide) (by omega)))];simp[hi]
open Classical in
noncomputable def lpB(nx:Nat->List Nat)(pz:Nat->Nat)(k q:Nat)(p:Nat):Bool:=decide ((∃x,x<k/\pz x=p/\∃y∈nx x,pz y=p)\/(pz k=p/\∃j,j<q/\j<(nx k).length/\pz ((nx k).getD j 0)=p))
theorem Rn(nx:Nat->List Nat)(pz:Nat->Nat)(p:Nat):lpB nx pz 0 0 p=false:=by
 unfold lpB;exact decide_eq_false fun h=>by
  rcases h with⟨x,hx,_⟩|⟨_,j,hj,_⟩<;>omega
theorem Rk(nx:Nat->List Nat)(pz:Nat->Nat)(k p:Nat):lpB nx pz (k+1) 0 p=lpB nx pz k (nx k).length p:=by
 unfold lpB;rw[decide_eq_decide];constructor
 .rintro (⟨x,hx,h1,y,h2,h3⟩|⟨_,j,hj,_⟩)
  .by_cases e:x=k
   .subst e;obtain⟨j,hj,rfl⟩:=jF h2;exact .inr ⟨h1,j,hj,hj,by rw[qC,qH hj];exact h3⟩
   .exact .inl ⟨x,by omega,h1,y,h2,h3⟩
  .omega
 .rintro (⟨x,hx,h⟩|⟨h1,j,_,hj,h2⟩)
  .exact .inl ⟨x,by omega,h⟩
  .refine .inl ⟨k,by omega,h1,_,?_,h2⟩;rw[qC,qH hj];exact qT _
theorem Rl{nx:Nat->List Nat}{pz:Nat->Nat}{k q p:Nat}(h:pz ((nx k).getD q 0)≠pz k):lpB nx pz k (q+1) p=lpB nx pz k q p:=by
 unfold lpB;rw[decide_eq_decide];constructor
 .rintro (h1|⟨h1,j,h2,h3,h4⟩)
  .exact .inl h1
  .by_cases e:j=q
   .subst e;exact absurd (h4.trans h1.symm) h
   .exact .inr ⟨h1,j,by omega,h3,h4⟩
 .rintro (h1|⟨h1,j,h2,h3,h4⟩)
  .exact .inl h1
  .exact .inr ⟨h1,j,by omega,h3,h4⟩
theorem Rm{nx:Nat->List Nat}{pz:Nat->Nat}{k q p:Nat}(hq:q<(nx k).length)(h:pz ((nx k).getD q 0)=pz k):lpB nx pz k (q+1) p=if p=pz k then true else lpB nx pz k q p:=by
 by_cases e:p=pz k
 .rw[if_pos e];unfold lpB;exact decide_eq_true (.inr ⟨e.symm,q,by omega,hq,h.trans e.symm⟩)
 .rw[if_neg e];unfold lpB;rw[decide_eq_decide];constructor
  .rintro (h1|⟨h1,_⟩)
   .exact .inl h1
   .exact absurd h1.symm e
  .rintro (h1|⟨h1,_⟩)
   .exact .inl h1
   .exact absurd h1.symm e
def KO(g:Gr)(pz:Nat->Nat)(p:Nat):Prop:=(∃x,x<g.spots.length/\pz x=p/\∃y∈nxt g x,pz y=p)/\∀i,i<mN g->∃x,x<g.spots.length/\pz x=p/\(sN g x).testBit i=true
open Classical in
noncomputable def EU(g:Gr)(pz:Nat->Nat)(x:Nat):Bool:=decide (KO g pz (pz x))
theorem P2{g:Gr}(hg:GOk g)(pz:Nat->Nat)(x:Nat):EU g pz x=(lpB (nxt g) pz g.spots.length 0 (pz x)&&decide (Bk (sN g) pz (pz x) g.spots.length=2^mN g-1)):=by
 have hlt:=JG (p:=pz x) (pz:=pz) (fun x hx=>(hg.sN hx).2) g.spots.length (qB _);unfold EU lpB;rw[Bool.eq_iff_iff,Bool.and_eq_true];simp only[decide_eq_true_eq];rw[QW hlt];unfold KO;constructor
 .rintro ⟨h1,h2⟩;exact⟨.inl h1,fun i hi=>(JF _).2 (h2 i hi)⟩
 .rintro ⟨h1|⟨_,j,hj,_⟩,h2⟩
  .exact ⟨h1,fun i hi=>(JF _).1 (h2 i hi)⟩
  .omega
structure FsSt(W0 wr:O)(s0 n:Nat)(nx:Nat->List Nat)(s pz:Nat->Nat)(k q kk:Nat):Prop where
 below:U s0 W0 wr
 size:s0+2<=wr.heap.size
 loops:wr.rowIs s0 4 n (fun p=>.bool (lpB nx pz k q p))
 sets:wr.rowIs (s0+1) 3 n (fun p=>.int W (Bk s pz p kk:Int))
theorem FsSt.later{W0 wr w':O}{s0 n:Nat}{nx:Nat->List Nat}{s pz:Nat->Nat}{k q kk:Nat}(h:FsSt W0 wr s0 n nx s pz k q kk)(hb:U (s0+2) wr w'):FsSt W0 w' s0 n nx s pz k q kk:=
 ⟨h.below.trans (hb.mono (by omega)),qI h.size hb.size,h.loops.of_block (hb.block _ (by omega)),h.sets.of_block (hb.block _ (by omega))⟩
theorem FsSt.drew{W0 wr:O}{s0 n:Nat}{nx:Nat->List Nat}{s pz:Nat->Nat}{k q kk:Nat}(h:FsSt W0 wr s0 n nx s pz k q kk):FsSt W0 wr.drew s0 n nx s pz k q kk:=⟨h.below.drew,h.size,h.loops,h.sets⟩
theorem FsSt.putSets{W0 wr:O}{s0 n:Nat}{nx:Nat->List Nat}{s pz:Nat->Nat}{k:Nat}(h:FsSt W0 wr s0 n nx s pz k 0 k):FsSt W0 (wr.setCell ⟨s0+1,pz k,Z⟩ (.int W ((Bk s pz (pz k) k ||| s k:Nat):Int))) s0 n nx s pz k 0 (k+1):=by
 refine⟨h.below.setCell (by show s0<=s0+1;omega) _,by simpa using h.size,h.loops.setOther (by show s0≠s0+1;omega) _,(h.sets.set (pz k) _).congr fun p _=>?_⟩;by_cases e:p=pz k
 .subst e;simp[Bk]
 .rw[if_neg e];simp[Bk,Ne.symm e]
theorem FsSt.next{W0 wr:O}{s0 n:Nat}{nx:Nat->List Nat}{s pz:Nat->Nat}{k kk:Nat}(h:FsSt W0 wr s0 n nx s pz k (nx k).length kk):FsSt W0 wr s0 n nx s pz (k+1) 0 kk:=
 ⟨h.below,h.size,h.loops.congr fun p _=>by rw[Rk],h.sets⟩
theorem FsSt.no{W0 wr:O}{s0 n:Nat}{nx:Nat->List Nat}{s pz:Nat->Nat}{k q kk:Nat}(h:FsSt W0 wr s0 n nx s pz k q kk)(hp:pz ((nx k).getD q 0)≠pz k):FsSt W0 wr s0 n nx s pz k (q+1) kk:=
 ⟨h.below,h.size,h.loops.congr fun p _=>by rw[Rl hp],h.sets⟩
theorem FsSt.yes{W0 wr:O}{s0 n:Nat}{nx:Nat->List Nat}{s pz:Nat->Nat}{k q kk:Nat}(h:FsSt W0 wr s0 n nx s pz k q kk)(hq:q<(nx k).length)(hp:pz ((nx k).getD q 0)=pz k):FsSt W0 (wr.setCell ⟨s0,pz k,Z⟩ (.bool true)) s0 n nx s pz k (q+1) kk:=by
 refine⟨h.below.setCell (qB _) _,by simpa using h.size,(h.loops.set (pz k) _).congr fun p _=>?_,h.sets.setOther (by show s0+1≠s0;omega) _⟩;rw[Rm hq hp];by_cases e:p=pz k
 .rw[if_pos e,if_pos e]
 .rw[if_neg e,if_neg e]
theorem QV(W0:O)(n:Nat)(nx:Nat->List Nat)(s pz:Nat->Nat):FsSt W0 ((W0.alloc (S (madeCells #[I T] n) 4)).alloc (S (madeCells #[.int W 0] n) 3)) W0.heap.size n nx s pz 0 0 0:=by
 refine⟨((qD _ _).alloc (qB _) _).alloc (by simp) _,by simp,?_,?_⟩
 .exact ((World.rowIs_made W0 (.bool T) n 4).alloc _).congr fun p _=>by rw[Rn]
 .have:=World.rowIs_made (W0.alloc (S (madeCells #[I T] n) 4)) (.int W 0) n 3;rw[World.size_alloc]at this;exact this
theorem P5(so no bo:Option Addr)(sc nc bc B:Nat)(g:Gr)(pz:Nat->Nat)(w:O)(hz:GrLe g)(hV:GraphV w (.slice so g.spots.length sc) (.slice no g.next.length nc) (.slice bo g.sets.length bc) g)(hok:GOk g)(hP:w.rowIs B 3 g.spots.length (CX pz))(hpz:∀x,x<g.spots.length->pz x<g.spots.length) :
  M qA 117 #[K #[.slice so g.spots.length sc,.int W g.init,.slice no g.next.length nc,.slice bo g.sets.length bc,.int W g.many],Y (X ⟨B,0,Z⟩) g.spots.length g.spots.length] w fun e w'=>∃Bf,e=Q (Y (X ⟨Bf,0,Z⟩) g.spots.length g.spots.length)/\U w.heap.size w w'/\V (w.heap.size<=Bf/\w'.rowIs Bf 4 g.spots.length (fun x=>.bool (EU g pz x))):=by
 have hn:=hok.head.n;have hmk1:=run_make_row' (P:=qA) 102 4 (.bool T) 1 Tryz.underlying102 Gg rfl .i64 .i64 g.spots.length (by omega) (by omega);have hmk2:=run_make_row' (P:=qA) 39 3 (.int W 0) 8 Tryz.underlying39 Bd rfl .i64 .i64 g.spots.length (by omega) (by omega);obtain⟨W0,hW0⟩:∃W0,W0=w.alloc (S #[.slice so g.spots.length sc,.int W g.init,.slice no g.next.length nc,.slice bo g.sets.length bc,.int W g.many] 41):=⟨_,rfl⟩;have hA:U w.heap.size w W0:=by rw[hW0];exact(qD _ _).alloc (qB _) _
 have hs0:W0.heap.size=w.heap.size+1:=by rw[hW0];simp
 have HD:V (∀w1,U (w.heap.size+1) W0 w1->U w.heap.size w w1/\w1.rowIs B 3 g.spots.length (CX pz)/\w1.cell? ⟨w.heap.size,0,Z⟩=X (.slice so g.spots.length sc)/\w1.cell? ⟨w.heap.size,1,Z⟩=X (.int W g.init)/\w1.cell? ⟨w.heap.size,2,Z⟩=X (.slice no g.next.length nc)/\w1.cell? ⟨w.heap.size,3,Z⟩=X (.slice bo g.sets.length bc)/\w1.cell? ⟨w.heap.size,4,Z⟩=X (.int W g.many)):=fun w1 hb=>by
  have c:∀j,w1.cell? ⟨w.heap.size,j,Z⟩=W0.cell? ⟨w.heap.size,j,Z⟩:=fun j=>hb.cell (p:=⟨w.heap.size,j,Z⟩) (by show w.heap.size<w.heap.size+1;omega);have hb2:=hA.trans (hb.mono (by omega));refine⟨hb2,hP.of_block (hb2.block B hP.lt),(c _).trans ?_,(c _).trans ?_,(c _).trans ?_,(c _).trans ?_,(c _).trans ?_⟩<;>(rw[hW0];simp[go_sem])
 have HRow:V (Et w no g.spots.length (nxt g)):=LN hok hV;have HNX:V (∀i,i<g.spots.length->∀k∈nxt g i,k<g.spots.length):=fun i hi k hk=>Fp hok hi hk;have HXL:V (∀i,i<g.spots.length->(nxt g i).length<=140737488355328):=fun i hi=>by rw[FA];exact hz.rows i (by rw[hok.head.next];exact hi)
 have HSet:V (∀k,k<g.spots.length->∃b off,bo=X ⟨b,off,Z⟩/\b<w.heap.size/\w.cell? ⟨b,off+k,Z⟩=X (.int W (sN g k:Int))):=fun k hk=>by
  obtain⟨b,off,e,hb,hc⟩:=hV.sets.num (i:=k) (by rw[hok.head.sets];exact hk);exact⟨b,off,e,hb,by rw[hc,(hok.sN hk).1]⟩
 have HOr:V (∀k,k<g.spots.length->bits BinOp.or IntKind.i64 (Bk (sN g) pz (pz k) k:Int) (sN g k:Int)=((Bk (sN g) pz (pz k) k ||| sN g k:Nat):Int)):=fun k hk=>by
  have h6:=TM hok.mN.1;have h1:=JG (p:=pz k) (pz:=pz) (fun x hx=>(hok.sN hx).2) k (by omega);have h2:=(hok.sN hk).2;exact Sx _ (by omega) _ (by omega)
 have HAll:V (∀w1,M qA 157 #[K #[.slice so g.spots.length sc,.int W g.init,.slice no g.next.length nc,.slice bo g.sets.length bc,.int W g.many]] w1 fun e w'=>e=Q (.int W ((2^mN g-1:Nat):Int))/\U w1.heap.size w1 w'):=fun w1=>by
  have:=KY so no bo g.spots.length sc g.next.length nc g.sets.length bc g w1 hok.head.many0 hok.head.many6;rw[hok.mN.2.2]at this;exact this
 have HFair:V (∀x,EU g pz x=(lpB (nxt g) pz g.spots.length 0 (pz x)&&decide (Bk (sN g) pz (pz x) g.spots.length=2^mN g-1))):=P2 hok pz;have HPz:V (∀x,x<g.spots.length->pz x<g.spots.length):=hpz;have H0:V (FsSt W0 ((W0.alloc (S (madeCells #[I T] g.spots.length) 4)).alloc (S (madeCells #[.int W 0] g.spots.length) 3)) (w.heap.size+1) g.spots.length (nxt g) (sN g) pz 0 0 0):=by rw[<-hs0];exact QV W0 _ _ _ _
 have hgn:=hok.head.next;generalize EU g pz=FB at *;generalize nxt g=nx at *;generalize sN g=s at *;generalize 2^mN g-1=tp at *;rw[hgn]at hW0 HD HAll⊢;have hgs:=hok.head.sets;rw[hgs]at hW0 HD HAll⊢;clear hV hok hz hP hpz hgn hgs hA;generalize g.spots.length=n at *;generalize g.init=gi at *;generalize g.many=gm at *
 go_enter Tryz.func117,Tryz.ntmps117;go_wp2_with fail
 rw[<-hW0];clear hW0;generalize(W0.alloc (S (madeCells #[I T] n) 4)).alloc (S (madeCells #[.int W 0] n) 3)=W3 at H0⊢;clear hs0;go_loopw [22] (fun i wr=>∃k:Nat,k<=n/\i=.int W k/\V (FsSt W0 wr (w.heap.size+1) n nx s pz k 0 k)) (fun i _=>n-(intOf i).toNat)
 case atStart=>exact⟨0,qJ _,rfl,H0⟩
 case round=>
  obtain⟨k,hk,rfl,HK⟩:=hrel;obtain⟨hbw,hrB,d0,d1,d2,d3,d4⟩:=HD.out wr HK.out.below;by_cases hlt:k<n
  .have hpk:=HPz.out k hlt;have e0:wr.cell? ⟨B,k,Z⟩=X (.int W (pz k:Int)):=hrB.cell hlt;have e1:wr.cell? ⟨w.heap.size+1+1,pz k,Z⟩=X (.int W (Bk s pz (pz k) k:Int)):=HK.out.sets.cell hpk;have f1:=HK.out.sets.frozen (pz k);obtain⟨sb,soff,rfl,hsb,hcs⟩:=HSet.out k hlt;have e2:=(hbw.cell (p:=⟨sb,soff+k,Z⟩) hsb).trans hcs;have hor:=HOr.out k hlt;have H5:V (FsSt W0 (wr.setCell ⟨w.heap.size+1+1,pz k,Z⟩ (.int W ((Bk s pz (pz k) k ||| s k:Nat):Int))).drew (w.heap.size+1) n nx s pz k 0 (k+1)):=HK.out.putSets.drew;rw[<-hor]at H5;obtain⟨p,hp⟩:∃p,p=pz k:=⟨_,rfl⟩;have HPk:V (p=pz k):=hp;rw[<-hp]at hpk e0 e1 f1 H5;clear hor hp hcs HK;generalize Bk s pz p k=x at *;generalize s k=y at *
   go_upto_region 6 with fail
   go_region
   generalize(wr.setCell ⟨w.heap.size+1+1,p,Z⟩ (.int W (bits BinOp.or IntKind.i64 (x:Int) (y:Int)))).drew=w5 at H5⊢;obtain⟨hbw5,hrB5,g0,g1,g2,g3,g4⟩:=HD.out w5 H5.out.below;obtain⟨nb,noff,rfl,hnb,uo,uc,hcu0,hnv0⟩:=HRow.out k hlt;have hcu:=(hbw5.cell (p:=⟨nb,noff+k,Z⟩) hnb).trans hcu0;have hxl:=HXL.out k hlt;have HNv:V (Bi w (.slice uo (nx k).length uc) (nx k)):=hnv0;obtain⟨ln,hln⟩:∃ln,ln=(nx k).length:=⟨_,rfl⟩;have HLN:V (ln=(nx k).length):=hln;rw[<-hln]at hcu hxl HNv;clear hcu0 hnv0 hln d0 d1 d2 d3 d4 e0 e1 e2 f1 hrB hbw;go_wp2_with fail
   generalize wr=wo at *
   go_loopw [44] (fun i wr=>∃q:Nat,q<=ln/\i=.int W q/\V (FsSt W0 wr (w.heap.size+1) n nx s pz k q (k+1))) (fun i _=>ln-(intOf i).toNat)
   case atStart=>exact⟨0,qJ _,rfl,H5⟩
   case round=>
    obtain⟨q,hq,rfl,HQ⟩:=hrel;obtain⟨hbwq,hrBq,_⟩:=HD.out wr HQ.out.below;by_cases hlq:q<ln
    .have hql:q<(nx k).length:=by rw[<-HLN.out];exact hlq
     obtain⟨ub,uoff,rfl,hub,hcy0⟩:=(HNv.out.below hbwq).num (i:=q) hql;have hyn:(nx k).getD q 0<n:=HNX.out k hlt _ (by rw[qC,qH hql];exact qT _);have e5:wr.cell? ⟨B,(nx k).getD q 0,Z⟩=X (.int W (pz ((nx k).getD q 0):Int)):=hrBq.cell hyn;have HYes:V (pz ((nx k).getD q 0)=p->FsSt W0 (wr.setCell ⟨w.heap.size+1,p,Z⟩ (.bool true)) (w.heap.size+1) n nx s pz k (q+1) (k+1)):=fun h=>by
      rw[HPk.out]at h⊢;exact HQ.out.yes hql h
     have HNo:V (pz ((nx k).getD q 0)≠p->FsSt W0 wr (w.heap.size+1) n nx s pz k (q+1) (k+1)):=fun h=>HQ.out.no (by rw[<-HPk.out];exact h);have l1:=HQ.out.loops.cell hpk;have l2:=HQ.out.loops.frozen p;generalize lpB nx pz k q p=old at *;generalize(nx k).getD q 0=y2 at *;generalize pz y2=p2 at *;clear HQ hrBq hbwq
     by_cases hpp:p2=p
     .subst hpp;have HN:=HYes.out rfl;have HN':V (FsSt W0 (wr.setCell ⟨w.heap.size+1,p2,Z⟩ (.bool true)) (w.heap.size+1) n nx s pz k (q+1) (k+1)):=HN;clear HN HYes HNo;go_wp2_with fail
      go_roundw
      case rel=>exact⟨q+1,hlq,by go_num,HN'⟩
      case measure=>simp[intOf];omega
     .have hpp2:¬(p2:Int)=(p:Int):=by omega
      have HN':V (FsSt W0 wr (w.heap.size+1) n nx s pz k (q+1) (k+1)):=HNo.out hpp;clear HYes HNo;go_wp2_with fail
      go_roundw
      case rel=>exact⟨q+1,hlq,by go_num,HN'⟩
      case measure=>simp[intOf];omega
    .have HN':V (FsSt W0 wr (w.heap.size+1) n nx s pz (k+1) 0 (k+1)):=by
      have h:=HQ.out;have e:q=(nx k).length:=by rw[<-HLN.out];omega
      rw[e]at h;exact h.next
     clear HQ hrBq hbwq;go_wp2_with fail
     go_roundw
     case rel=>exact⟨k+1,hlt,by go_num,HN'⟩
     case measure=>simp[intOf];omega
  .obtain rfl:k=n:=by omega
   have HE:V (FsSt W0 wr (w.heap.size+1) k nx s pz k 0 k):=HK;have hsz:=HK.out.size;have hr0:=World.rowIs_made wr (.bool T) k 4;have HR0:V ((wr.alloc (S (madeCells #[I T] k) 4)).rowIs wr.heap.size 4 k (fun j=>.bool (if j<0 then FB j else T))):=hr0.congr fun j _=>by simp
   have HB0:V (U wr.heap.size wr (wr.alloc (S (madeCells #[I T] k) 4))):=(qD _ _).alloc (qB _) _;clear hr0 d0 d1 d2 d3 d4 hrB HK;go_wp2_with fail
   generalize wr.alloc (S (madeCells #[I T] k) 4)=W5 at HR0 HB0⊢;generalize wr=wE at *
   go_loopw [64] (fun i wr=>∃q:Nat,q<=k/\i=.int W q/\V (wr.rowIs wE.heap.size 4 k (fun j=>.bool (if j<q then FB j else T)))/\V (U wE.heap.size wE wr)) (fun i _=>k-(intOf i).toNat)
   case atStart=>exact⟨0,qJ _,rfl,HR0,HB0⟩
   case round=>
    obtain⟨q,hq,rfl,HQ,HBq⟩:=hrel;have hFS:=HE.out.later (HBq.out.mono hsz);obtain⟨hbwq,hrBq,d0,d1,d2,d3,d4⟩:=HD.out wr hFS.below;by_cases hlq:q<k
    .have hpq:=HPz.out q hlq;have e0:wr.cell? ⟨B,q,Z⟩=X (.int W (pz q:Int)):=hrBq.cell hlq;have e1:wr.cell? ⟨w.heap.size+1,pz q,Z⟩=X (.bool (lpB nx pz k 0 (pz q))):=hFS.loops.cell hpq;have e2:wr.cell? ⟨w.heap.size+1+1,pz q,Z⟩=X (.int W (Bk s pz (pz q) k:Int)):=hFS.sets.cell hpq;have l1:=HQ.out.cell hlq;have l2:=HQ.out.frozen q;have HF:V (FB q=(lpB nx pz k 0 (pz q)&&decide (Bk s pz (pz q) k=tp))):=HFair.out q;have HN:V (∀w9,w9.rowIs wE.heap.size 4 k (fun j=>.bool (if j<q then FB j else T))->U wE.heap.size wE w9->(w9.setCell ⟨wE.heap.size,q,Z⟩ (.bool (FB q))).rowIs wE.heap.size 4 k (fun j=>.bool (if j<q+1 then FB j else T))/\U wE.heap.size wE (w9.setCell ⟨wE.heap.size,q,Z⟩ (.bool (FB q)))):=fun w9 h hb=>by
      refine⟨(h.set q (.bool (FB q))).congr fun j _=>?_,hb.setCell (qB _) _⟩;by_cases hj:j=q
      .subst hj;simp
      .rw[if_neg hj];by_cases hjq:j<q
       .rw[if_pos hjq,if_pos (by omega)]
       .rw[if_neg hjq,if_neg (by omega)]
     have hwl:wE.heap.size<wr.heap.size:=HQ.out.lt;generalize(if q<q then FB q else T)=old at *
     generalize pz q=p at *;generalize Bk s pz p k=x at *
     cases hb:lpB nx pz k 0 p with
     |false=>
      rw[hb]at e1 HF;have HFq:V (FB q=T):=HF.out.trans (by simp);rw[HFq.out]at HN;clear hFS HF hb;go_upto_region 18 with fail
      go_region
      go_wp2_with fail
      have HX:=HN.out wr HQ.out HBq.out;have HX1:V ((wr.setCell ⟨wE.heap.size,q,Z⟩ (.bool T)).drew.rowIs wE.heap.size 4 k (fun j=>.bool (if j<q+1 then FB j else T))):=HX.1;have HX2:V (U wE.heap.size wE (wr.setCell ⟨wE.heap.size,q,Z⟩ (.bool T)).drew):=HX.2.drew;go_roundw
      case rel=>exact⟨q+1,hlq,by go_num,HX1,HX2⟩
      case measure=>simp[intOf];omega
     |true=>
      rw[hb]at e1 HF;have HFq:V (FB q=decide (x=tp)):=HF.out.trans (by simp);have hS:∀w',U wE.heap.size wr w'->w'.cell? ⟨w.heap.size,0,Z⟩=X (Y so k sc)/\w'.cell? ⟨w.heap.size,1,Z⟩=X (.int W gi)/\w'.cell? ⟨w.heap.size,2,Z⟩=X (Y no k nc)/\w'.cell? ⟨w.heap.size,3,Z⟩=X (Y bo k bc)/\w'.cell? ⟨w.heap.size,4,Z⟩=X (.int W gm)/\w'.cell? ⟨w.heap.size+1,p,Z⟩=X (.bool true)/\w'.cell? ⟨w.heap.size+1+1,p,Z⟩=X (.int W (x:Int)):=fun w' hb=>by
       have c:∀b j,b<wE.heap.size->w'.cell? ⟨b,j,Z⟩=wr.cell? ⟨b,j,Z⟩:=fun b j h=>hb.cell (p:=⟨b,j,Z⟩) h;exact⟨(c _ _ (by omega)).trans d0,(c _ _ (by omega)).trans d1,(c _ _ (by omega)).trans d2,(c _ _ (by omega)).trans d3,(c _ _ (by omega)).trans d4,(c _ _ (by omega)).trans e1,(c _ _ (by omega)).trans e2⟩
      have hal:=HAll.out wr.drew;clear hFS HF hb;go_upto_region 18 with fail
      go_region_held3 (fun w'=>w'.cell? ⟨w.heap.size,0,Z⟩=X (Y so k sc)/\w'.cell? ⟨w.heap.size,1,Z⟩=X (.int W gi)/\w'.cell? ⟨w.heap.size,2,Z⟩=X (Y no k nc)/\w'.cell? ⟨w.heap.size,3,Z⟩=X (Y bo k bc)/\w'.cell? ⟨w.heap.size,4,Z⟩=X (.int W gm)/\w'.cell? ⟨w.heap.size+1,p,Z⟩=X (.bool true)/\w'.cell? ⟨w.heap.size+1+1,p,Z⟩=X (.int W (x:Int)))
       (exact hS _ (by first|exact(qD _ _).drew|exact qD _ _|exact hbx|exact hbx.setCell (qB _) _))
       ((go_at_call 157;refine hal.mono ?_;rintro e w4 ⟨rfl,hb4⟩;have hbx:U wE.heap.size wr w4:=((qD _ _).drew).trans (hb4.mono (Nat.le_of_lt hwl));have l14:=(hb4.cell (p:=⟨wE.heap.size,q,Z⟩) hwl).trans l1;have l24:=(hb4.frozen (p:=⟨wE.heap.size,q,Z⟩) hwl).trans l2))
      go_wp2_with fail
      have e9:((x:Int) == (tp:Int))=FB q:=by
       rw[HFq.out];show decide ((x:Int)=(tp:Int))=_;rw[decide_eq_decide];omega
      have HX:=HN.out w4 (Mx HQ.out ⟨hb4.os,hb4.tape,hb4.output,hb4.size,hb4.block⟩) (HBq.out.trans hbx);rw[<-e9]at HX;have HX1:V _:=HX.1;have HX2:V _:=HX.2;go_roundw
      case rel=>exact⟨q+1,hlq,by go_num,HX1,HX2⟩
      case measure=>simp[intOf];omega
    .obtain rfl:q=k:=by omega
     have HR:V (wr.rowIs wE.heap.size 4 q (fun x=>.bool (FB x))):=HQ.out.congr fun j hj=>by rw[if_pos hj]
     have hle:w.heap.size<=wE.heap.size:=by omega
     clear hFS;go_wp2_with fail
     go_ret;exact⟨_,rfl,hbwq,hle,HR.out⟩
theorem Ok{w:O}{bo:Option Addr}{bn bc:Nat}{l:List Bool}(h:BoolsV w (Y bo bn bc) l){i:Nat}(hi:i<l.length):∃b off,bo=X ⟨b,off,Z⟩/\b<w.heap.size/\w.cell? ⟨b,off+i,Z⟩=X (.bool (l.getD i T)):=by
 obtain⟨ao,cap,e,hr⟩:=h;obtain⟨b,off,ea,hb,hc⟩:=hr (fun h=>by rw[h]at hi;simp at hi);injection e with e1 e2 e3;exact⟨b,off,e1.trans ea,hb,hc i hi⟩
theorem Mut.lt{g:Gr}(hg:GOk g){x y:Nat}(hx:x<g.spots.length)(h:Mut g x y):y<g.spots.length:=h.1.lt (fun _ hi _ hk=>Fp hg hi hk) hx
def Ex(g:Gr)(pz:Nat->Nat):Prop:=∀x,x<g.spots.length->Ev (nxt g) x (pz x:Int)
theorem Ex.iff{g:Gr}{pz:Nat->Nat}(h:Ex g pz){x y:Nat}(hx:x<g.spots.length)(hy:y<g.spots.length):pz x=pz y↔Mut g x y:=by
 obtain⟨z,h1,h2,h3,h4⟩:=h x hx;obtain⟨z',g1,g2,g3,g4⟩:=h y hy;constructor
 .intro e;have:z=z':=by omega
  subst this;exact⟨h2.trans g3,g2.trans h3⟩
 .rintro ⟨a,b⟩;have e1:=h4 z' (a.trans g2) (g3.trans b);have e2:=g4 z (b.trans h2) (h3.trans a);omega
theorem Ex.le{g:Gr}{pz:Nat->Nat}(h:Ex g pz){x:Nat}(hx:x<g.spots.length):pz x<=x:=by
 obtain⟨z,h1,h2,h3,h4⟩:=h x hx;have:=h4 x .stay .stay;omega
theorem Ew.pz{g:Gr}{pt:Nat->Int}(h:Ew g pt):Ex g (fun x=>(pt x).toNat)/\∀x,x<g.spots.length->pt x=((pt x).toNat:Int):=by
 have h1:∀x,x<g.spots.length->pt x=((pt x).toNat:Int):=fun x hx=>by
  obtain⟨z,h1,_⟩:=h x hx;omega
 exact⟨fun x hx=>by have:=h x hx;rw[h1 x hx]at this;exact this,h1⟩
open Classical in
theorem P3{g:Gr}(hg:GOk g){pz:Nat->Nat}(h:Ex g pz){x:Nat}(hx:x<g.spots.length):EU g pz x=decide (DN g x):=by
 unfold EU;rw[decide_eq_decide];constructor
 .rintro ⟨⟨a,ha,hp,b,hb,hq⟩,h2⟩;have hbl:=Fp hg ha hb;refine⟨⟨a,b,(h.iff hx ha).1 hp.symm,(h.iff hx hbl).1 hq.symm,hb⟩,fun i hi=>?_⟩;obtain⟨y,hy,h3,h4⟩:=h2 i hi;exact⟨y,(h.iff hx hy).1 h3.symm,h4⟩
 .rintro ⟨⟨a,b,h1,h2,h3⟩,h4⟩;have hal:=h1.lt hg hx;have hbl:=h2.lt hg hx;refine⟨⟨a,hal,((h.iff hx hal).2 h1).symm,b,h3,((h.iff hx hbl).2 h2).symm⟩,fun i hi=>?_⟩;obtain⟨y,hy,h5⟩:=h4 i hi;have hyl:=hy.lt hg hx;exact⟨y,hyl,((h.iff hx hyl).2 hy).symm,h5⟩
theorem P9{p:Nat->Bool}{n k:Nat}(hk:k<n)(h:p k=true)(hno:∀j,j<k->p j=T):(List.range n).find? p=X k:=by
 rw[List.find?_eq_some_iff_append];refine⟨h,List.range k,(List.range (n-k-1)).map (· + (k+1)),?_,fun a ha=>by rw[hno a (vE.1 ha)];rfl⟩;apply List.ext_getElem?
 intro i;by_cases h1:i<k
 .rw[List.getElem?_append_left (by simpa using h1),jW (by omega),jW h1]
 .rw[List.getElem?_append_right (by simpa using h1),List.length_range];by_cases h2:i=k
  .subst h2;rw[jW hk];simp
  .obtain ⟨j,rfl⟩:∃j,i=k+(j+1):=⟨i-k-1,by omega⟩;rw[show k+(j+1)-k=j+1 by omega,List.getElem?_cons_succ,List.getElem?_map];by_cases h3:k+(j+1)<n
   .rw[jW h3,jW (by omega)];simp;omega
   .rw[vF (by simpa using h3),vF (by simp;omega)];rfl
theorem QA{p:Nat->Bool}{n:Nat}(hno:∀j,j<n->p j=T):(List.range n).find? p=none:=by
 rw[List.find?_eq_none];intro a ha;rw[hno a (vE.1 ha)];simp
open Classical in
theorem P6{g:Gr}{k:Nat}(hk:k<g.spots.length)(h:Dd g k/\DN g k)(hno:∀j,j<k->¬(Dd g j/\DN g j)):Dv g=(k:Int)/\BS g=0:=by
 have e:GS g=X k:=P9 hk (decide_eq_true h) (fun j hj=>decide_eq_false (hno j hj));unfold Dv BS;rw[e];exact⟨rfl,rfl⟩
open Classical in
theorem P7{g:Gr}(hno:∀j,j<g.spots.length->¬(Dd g j/\DN g j)):Dv g=0/\BS g=11:=by
 have e:GS g=none:=QA (fun j hj=>decide_eq_false (hno j hj));unfold Dv BS;rw[e];exact⟨rfl,rfl⟩
theorem US(so no bo:Option Addr)(sc nc bc:Nat)(g:Gr)(w:O)(hz:GrLe g)(hV:GraphV w (.slice so g.spots.length sc) (.slice no g.next.length nc) (.slice bo g.sets.length bc) g)(hc:Cu g=0) :
  M qA 89 #[K #[.slice so g.spots.length sc,.int W g.init,.slice no g.next.length nc,.slice bo g.sets.length bc,.int W g.many]] w fun e w'=>e=Q (G #[.int W (Dv g),.int W (BS g)])/\U w.heap.size w w':=by
 classical
 have hok:=LK hc;obtain⟨W0,hW0⟩:∃W0,W0=w.alloc (S #[.slice so g.spots.length sc,.int W g.init,.slice no g.next.length nc,.slice bo g.sets.length bc,.int W g.many] 41):=⟨_,rfl⟩;have hA:U w.heap.size w W0:=by rw[hW0];exact(qD _ _).alloc (qB _) _
 have hs0:w.heap.size<W0.heap.size:=by rw[hW0];simp
 have hD:∀w1,U W0.heap.size W0 w1->w1.cell? ⟨w.heap.size,0,Z⟩=X (.slice so g.spots.length sc)/\w1.cell? ⟨w.heap.size,1,Z⟩=X (.int W g.init)/\w1.cell? ⟨w.heap.size,2,Z⟩=X (.slice no g.next.length nc)/\w1.cell? ⟨w.heap.size,3,Z⟩=X (.slice bo g.sets.length bc)/\w1.cell? ⟨w.heap.size,4,Z⟩=X (.int W g.many):=fun w1 hb=>by
  have c:∀j,w1.cell? ⟨w.heap.size,j,Z⟩=W0.cell? ⟨w.heap.size,j,Z⟩:=fun j=>hb.cell (p:=⟨w.heap.size,j,Z⟩) hs0;refine⟨(c _).trans ?_,(c _).trans ?_,(c _).trans ?_,(c _).trans ?_,(c _).trans ?_⟩<;>(rw[hW0];simp[go_sem])
 have HRe:V (∀x,x<g.spots.length->((Dk g).getD x T=true↔Dd g x)):=fun x hx=>by
  unfold Dk;rw[Mk hx,decide_eq_true_iff];rfl
 have HRl:V ((Dk g).length=g.spots.length):=Ml _ _ _;have hre:=Un so no bo sc nc bc g W0 hz (hV.below hA) hc;have HPa:V (∀w1,U W0.heap.size W0 w1->M qA 118 #[K #[.slice so g.spots.length sc,.int W g.init,.slice no g.next.length nc,.slice bo g.sets.length bc,.int W g.many]] w1 fun e w'=>∃B,e=Q (Y (X ⟨B,0,Z⟩) g.spots.length g.spots.length)/\U w1.heap.size w1 w'/\V (∃pt,w1.heap.size<=B/\w'.rowIs B 3 g.spots.length (Cg pt)/\Ew g pt)):=fun w1 hb=>TC so no bo sc nc bc g w1 hz ((hV.below hA).below hb) hok;have HFs:V (∀w1 B,U W0.heap.size W0 w1->(∃pt,w1.rowIs B 3 g.spots.length (Cg pt)/\Ew g pt)->M qA 117 #[K #[.slice so g.spots.length sc,.int W g.init,.slice no g.next.length nc,.slice bo g.sets.length bc,.int W g.many],Y (X ⟨B,0,Z⟩) g.spots.length g.spots.length] w1 fun e w'=>∃Bf,e=Q (Y (X ⟨Bf,0,Z⟩) g.spots.length g.spots.length)/\U w1.heap.size w1 w'/\V (w'.rowIs Bf 4 g.spots.length (fun x=>.bool (decide (DN g x))))):=fun w1 B hb ⟨pt,h1,h2⟩=>by
  obtain⟨h3,h4⟩:=h2.pz;have h5:w1.rowIs B 3 g.spots.length (CX fun x=>(pt x).toNat):=h1.congr fun x hx=>by unfold Cg CX;rw[<-h4 x hx]
  refine(P5 so no bo sc nc bc B g _ w1 hz ((hV.below hA).below hb) hok h5 (fun x hx=>by have:=h3.le hx;show(pt x).toNat<_;have:(pt x).toNat<=x:=this;omega)).mono fun e w' ⟨Bf,e1,e2,e3⟩=>⟨Bf,e1,e2,?_⟩;exact e3.out.2.congr fun x hx=>by rw[P3 hok h3 hx]
 have HAt:V (∀k,k<g.spots.length->Dd g k/\DN g k->(∀j,j<k->¬(Dd g j/\DN g j))->Dv g=(k:Int)/\BS g=0):=fun k hk h hno=>P6 hk h hno;have HNo:V ((∀j,j<g.spots.length->¬(Dd g j/\DN g j))->Dv g=0/\BS g=11):=P7;have hn:=hok.head.n;rw[hW0]at hre;have HW0:V (W0=w.alloc (S #[.slice so g.spots.length sc,.int W g.init,.slice no g.next.length nc,.slice bo g.sets.length bc,.int W g.many] 41)):=hW0;clear hV hz hc hok hW0;generalize Dd g=RX at *;generalize DN g=FX at *;generalize Dv g=fv at *;generalize BS g=fc at *;generalize Dk g=RL at *
 generalize Ew g=PO at *;generalize g.spots.length=n at *;generalize g.next.length=nn at *;generalize g.sets.length=bn at *;generalize g.init=gi at *;generalize g.many=gm at *
 go_enter Tryz.func89,Tryz.ntmps89;go_upto_region 4 with(go_at_call 116;refine hre.mono ?_;rintro e w1 ⟨vo,vc,rfl,hb1,HRb⟩;rw[<-HW0.out]at hb1)
 have hpa:=HPa.out w1.drew hb1.drew;go_region_held3 (fun w'=>w'.cell? ⟨w.heap.size,0,Z⟩=X (Y so n sc)/\w'.cell? ⟨w.heap.size,1,Z⟩=X (.int W gi)/\w'.cell? ⟨w.heap.size,2,Z⟩=X (Y no nn nc)/\w'.cell? ⟨w.heap.size,3,Z⟩=X (Y bo bn bc)/\w'.cell? ⟨w.heap.size,4,Z⟩=X (.int W gm))
  (exact hD _ (by first|exact hb1.drew|exact hb1|exact hb12|exact hb13))
  (first|(go_at_call 118;refine hpa.mono ?_;rintro e w2 ⟨B,rfl,hb2,HB⟩;have hb12:=hb1.trans ((Eg hb2).mono hb1.size);have hfs:=HFs.out w2 B hb12 (by obtain⟨pt,h1,h2,h3⟩:=HB.out;exact⟨pt,h2,h3⟩))|(go_at_call 117;refine hfs.mono ?_;rintro e w3 ⟨Bf,rfl,hb3,HF⟩;have hb13:=hb12.trans (hb3.mono hb12.size)))
 have HRb3:V (BoolsV w3 (Y vo n vc) RL):=(HRb.out.below (Eg hb2)).below hb3;have hbw:U w.heap.size w w3:=hA.trans (hb13.mono hA.size);clear HRb hb1 hb2 hb3 hb12 hb13 hpa hfs HB hD hre HPa HFs;go_wp2_with fail
 go_loopw [22] (fun i wr=>∃k:Nat,k<=n/\i=.int W k/\V (∀j,j<k->¬(RX j/\FX j))/\∃d,wr=w3.drewN d) (fun i _=>n-(intOf i).toNat)
 case atStart=>exact⟨0,qJ _,rfl,fun j hj=>by omega,0,rfl⟩
 case round=>
  obtain⟨k,hk,rfl,HK,d,rfl⟩:=hrel;have hbd:=fun q=>below_drewN hbw q;by_cases hlt:k<n
  .obtain ⟨rb,roff,rfl,hrb,e1⟩:=Ok HRb3.out (i:=k) (by rw[HRl.out];exact hlt);have e2:=HF.out.cell hlt;have hr:=HRe.out k hlt;by_cases h1:RX k
   .rw[hr.2 h1]at e1;by_cases h2:FX k
    .rw[decide_eq_true h2]at e2;obtain⟨rfl,rfl⟩:=HAt.out k hlt ⟨h1,h2⟩ HK.out;go_wp2_with fail
     go_ret2;exact⟨rfl,hbd _⟩
    .rw[decide_eq_false h2]at e2;have HN:V (∀j,j<k+1->¬(RX j/\FX j)):=fun j hj=>by
      by_cases e:j=k
      .subst e;exact fun h=>h2 h.2
      .exact HK.out j (by omega)
     go_wp2_with fail
     go_roundw
     case rel=>exact⟨k+1,hlt,by go_num,HN,_,rfl⟩
     case measure=>simp[intOf];omega
   .have e3:RL.getD k T=false:=by
     cases hx:RL.getD k T with
     |false=>rfl
     |true=>exact absurd (hr.1 hx) h1
    rw[e3]at e1;have HN:V (∀j,j<k+1->¬(RX j/\FX j)):=fun j hj=>by
     by_cases e:j=k
     .subst e;exact fun h=>h1 h.1
     .exact HK.out j (by omega)
    go_wp2_with fail
    go_roundw
    case rel=>exact⟨k+1,hlt,by go_num,HN,_,rfl⟩
    case measure=>simp[intOf];omega
  .obtain rfl:k=n:=by omega
   obtain⟨rfl,rfl⟩:=HNo.out HK.out;go_wp2_with fail
   go_ret2;exact⟨rfl,hbd _⟩
