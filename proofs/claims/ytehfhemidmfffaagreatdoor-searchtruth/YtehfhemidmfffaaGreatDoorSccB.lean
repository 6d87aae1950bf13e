/- Joined texts. -/
import Derived.Test.YtehfhemidmfffaaGreatDoorSccA
import Derived.Shelf.Slices.Reverse
import Derived.Lib.OwnBridge
open Go renaming World→N,Value→C,Calls→M
open Go.Ending renaming returned→O
open Go.IntKind renaming i64→W
open Go.Obj renaming cells→T
open Go.RowKit renaming Below→U,Hid→V
open Go.Value renaming slice→X,bool→ZZ,agg→G,tuple→E,pointer→K,int→I
open _root_.Bool renaming false→Q
open _root_.Option renaming none→Z,some→Y
namespace Go.Proofs.YtehfhemidmfffaaGreatDoor
open Go.RowKit.Below renaming refl→qD
open _root_.Bool renaming or_eq_true→jI
open _root_.List renaming find?_eq_none→zQ,getD_eq_getElem?_getD→qC,getElem?_eq_getElem→qH,getElem?_eq_none→vF,getElem?_map→xB,getElem?_range→jX,getElem_mem→qR,getElem_of_mem→jB,length_append→qF,length_reverse→yW,map_append→vJ,map_map→kX,mem_append→qL,mem_cons→qW,mem_filter→yI,mem_map→vH,mem_of_mem_take→jD,mem_range→vA,take_length→vI,take_of_length_le→qN,take_succ_eq_append_getElem→qT
open _root_.Nat renaming eq_of_testBit_eq→yT,le_refl→qB,le_trans→qI,lt_of_lt_of_le→qE,or_lt_two_pow→zY,pow_le_pow_right→vK,pow_pos→kE,testBit_or→zM,testBit_two_pow_sub_one→zS,zero_le→qJ
open Go.Proofs.Tryz renaming prog→qA
open Go.ChangeShapes Go.WideShapes Go.ChangeAt Go.RowKit Go.Deep
open Terms
open Go.Proofs.Tryz renaming func74→gD,underlying111→fS,underlying170→cS,underlying3→bI,underlying43→aD
open IntKind renaming i64→aY
open World renaming cell?_alloc_lt→gE,cell?_of_block→eJ,ownsRow_nil→aX,rowIs_made→eL,size_alloc→fp
open _root_.List renaming range→aE
set_option maxHeartbeats 6400000
set_option maxRecDepth 20000
def Fs(s t b1 b2 b3 b4 b5:Nat):TA:=⟨s,t,b1,b2,b3,b4,b5⟩
def MB(w w5:N)(no:Option Addr)(n nc b bw bl bg bp:Nat):Prop:=TAOk (Fs w.heap.size w5.heap.size b bw bl bg bp)/\(Fs w.heap.size w5.heap.size b bw bl bg bp).s=w.heap.size/\TjW w w5 (Fs w.heap.size w5.heap.size b bw bl bg bp) (X no n nc) n (X Z 0 0) (X Z 0 0) [] [] (fun _=>0) (fun _=>0) (fun _=>0) (fun _=>0) 0
theorem SR{w W0 w5:N}{g0 g1 g3 g4 no':C}{no:Option Addr}{n nc b b1 b2 b3 b4:Nat}(hno:no'=X no n nc)(hbox:w5.heap[b]? = Y (T (C5 g0 g1 no' g3 g4 (X (Y ⟨b1,0,Z⟩) n n) (X (Y ⟨b2,0,Z⟩) n n) (X (Y ⟨b3,0,Z⟩) n n) (X (Y ⟨b4,0,Z⟩) n n)) 215 (0,0)))(h1:w5.rowIs b1 3 n (fun _=>.int W 0))(h2:w5.rowIs b2 3 n (fun _=>.int W 0))(h3:w5.rowIs b3 3 n (fun _=>.int W 0))(h4:w5.rowIs b4 3 n (fun _=>.int W 0))
    (hs:W0.heap.size=w.heap.size+1) (hb0:U w.heap.size w W0) (hb5:U W0.heap.size W0 w5) (n0:W0.heap.size<=b/\b<w5.heap.size) (n1:W0.heap.size<=b1/\b1<w5.heap.size) (n2:W0.heap.size<=b2/\b2<w5.heap.size) (n3:W0.heap.size<=b3/\b3<w5.heap.size) (n4:W0.heap.size<=b4/\b4<w5.heap.size)
    (d1:b≠b1) (d2:b≠b2) (d3:b≠b3) (d4:b≠b4) (d5:b1≠b2) (d6:b1≠b3) (d7:b1≠b4) (d8:b2≠b3) (d9:b2≠b4) (d10:b3≠b4):MB w w5 no n nc b b1 b2 b3 b4:=by
  subst hno;have hc:∀j,w5.cell? ⟨b,j,Z⟩=(C5 g0 g1 (X no n nc) g3 g4 (X (Y ⟨b1,0,Z⟩) n n) (X (Y ⟨b2,0,Z⟩) n n) (X (Y ⟨b3,0,Z⟩) n n) (X (Y ⟨b4,0,Z⟩) n n))[j]?:=fun j=>by simp[World.cell?,hbox]
  have hf:∀j,w5.frozen? ⟨b,j,Z⟩=false:=fun j=>by simp[World.frozen?,hbox]
  refine⟨⟨?_,?_,?_,?_,?_,?_,?_,?_,?_,?_,d1,d2,d3,d4,d5,d6,d7,d8,d9,d10⟩,rfl,⟨hb0.trans (hb5.mono (by omega)),qB _,hf,hc 2,hc 5,hc 6,hc 7,hc 8,hc 9,hc 10,hc 11,h1,h2,h3,h4,aX _ _ _ _,aX _ _ _ _,fun k hk=>by cases hk⟩⟩;all_goals simp only[Fs]
  all_goals omega
theorem Tv(so no bo:Option Addr)(sc nc bn bc:Nat)(gi gm:Int)(n:Nat)(nx:Nat->List Nat)(w:N)(hn:n<=20000)(hnx:∀i,i<n->∀k∈nx i,k<n)(hxl:∀i,i<n->(nx i).length<=140737488355328)(hR:ET w no n nx) :
  M qA 71 #[G #[X so n sc,.int W gi,X no n nc,X bo bn bc,.int W gm]] w fun e w'=>∃B,e=O (X (Y ⟨B,0,Z⟩) n n)/\U w.heap.size w w'/\V (∃pt,w.heap.size<=B/\w'.rowIs B 3 n (B5 pt)/\∀x,x<n->E2 nx x (pt x)):=by
 have hmk:=run_make_row' (P:=qA) 43 3 (.int W 0) 8 aD BS rfl .i64 .i64 n (by omega) (by omega);obtain⟨W0,hW0⟩:∃W0,W0=w.alloc (T #[X so n sc,.int W gi,X no n nc,X bo bn bc,.int W gm] 45):=⟨_,rfl⟩;have hs0:W0.heap.size=w.heap.size+1:=by rw[hW0];simp
 have hb0:U w.heap.size w W0:=by rw[hW0];exact ai
 have c0:W0.cell? ⟨w.heap.size,0,Z⟩=Y (X so n sc):=by rw[hW0];simp[go_sem]
 have c1:W0.cell? ⟨w.heap.size,1,Z⟩=Y (.int W gi):=by rw[hW0];simp[go_sem]
 have c2:W0.cell? ⟨w.heap.size,2,Z⟩=Y (X no n nc):=by rw[hW0];simp[go_sem]
 have c3:W0.cell? ⟨w.heap.size,3,Z⟩=Y (X bo bn bc):=by rw[hW0];simp[go_sem]
 have c4:W0.cell? ⟨w.heap.size,4,Z⟩=Y (.int W gm):=by rw[hW0];simp[go_sem]
 go_enter Tryz.func71,Tryz.ntmps71;go_upto_region 2 with fail
 rw[<-hW0];go_cut [4] (fun s4 wx=>∃A:TA,s4=K (Y ⟨A.b,0,Z⟩)/\V (TAOk A/\A.s=w.heap.size/\TjW w wx A (X no n nc) n (X Z 0 0) (X Z 0 0) [] [] (fun _=>0) (fun _=>0) (fun _=>0) (fun _=>0) 0))
 case first=>
  rename_i J K' hJ hK';generalize ha0:Act.mk _ _=a0;have hsz:a0.tmps.size=47:=by rw[<-ha0];rfl
  have a1:a0.eval (.tmp 1)=K (Y ⟨w.heap.size,0,Z⟩):=by rw[<-ha0];rfl
  have a3:a0.eval (.tmp 3)=.int W (n:Int):=by rw[<-ha0];rfl
  have hl:w.heap.size<W0.heap.size:=by omega
  refine OD (by rfl) [10,11,12,13,14,15,16,17,18,19,4] 11 (pwP (G #[X so n sc,.int W gi,X no n nc,X bo bn bc,.int W gm]) n) pwN (pwR (X so n sc) (.int W gi) (X no n nc) (X bo bn bc) (.int W gm)) (by rw[hsz];rfl) ?_ (fun i v w w' _ h hb=>UD _ _ _ _ _ _ h hb) ?_ ?_
  .intro i q v t u hi hk hr h9;subst h9;rw[hr rfl,Dd (hk 2 12 (by rfl) (by rfl)),Dd (hk 4 14 (by rfl) (by rfl)),Dd (hk 6 16 (by rfl) (by rfl)),Dd (hk 8 18 (by rfl) (by rfl))]
  .intro i o hi ho q w' hb hq;have f:∀t,[10,11,12,13,14,15,16,17,18,19,4].contains t=true->t<47->(frm a0 [10,11,12,13,14,15,16,17,18,19,4] q).eval (.tmp t)=q t:=fun t h1 h2=>D4 h1 (by rw[hsz];exact h2);have e1:=(Ef (a:=a0) (ds:=[10,11,12,13,14,15,16,17,18,19,4]) (q:=q) (t:=1) rfl).trans a1;have e3:=(Ef (a:=a0) (ds:=[10,11,12,13,14,15,16,17,18,19,4]) (q:=q) (t:=3) rfl).trans a3;have hbw:U w'.heap.size w' w':=qD _ _;have hc:∀j,w'.cell? ⟨w.heap.size,j,Z⟩=W0.cell? ⟨w.heap.size,j,Z⟩:=fun j=>hb.cell (p:=⟨w.heap.size,j,Z⟩) hl;have hcs:i=0\/i=1\/i=2\/i=3\/i=4\/i=5\/i=6\/i=7\/i=8\/i=9\/i=10:=by omega
   rcases hcs with rfl|rfl|rfl|rfl|rfl|rfl|rfl|rfl|rfl|rfl|rfl;all_goals obtain rfl:=Option.some.inj ho
   .refine Bh (w':=w') (v:=G #[X so n sc,.int W gi,X no n nc,X bo bn bc,.int W gm]) ?_ hbw ⟨pwP.val (.inl ⟨rfl,rfl⟩),(fun h=>by omega),fun b _ h=>nomatch h⟩;generalize(frm a0 [10,11,12,13,14,15,16,17,18,19,4] q).eval=ev at e1⊢;simp[execOp,e1,go_sem,hc,c0,c1,c2,c3,c4]
   .exact Hl (by omega) rfl (fun _ h=>by omega) e3
   .exact Hk 11 hn (by omega) rfl (fun _ h=>by omega) ((f 11 rfl (by decide)).trans ((hq 1 11 (by rfl) (by rfl)).2.1 (by omega)))
   .exact Hl (by omega) rfl (fun _ h=>by omega) e3
   .exact Hk 13 hn (by omega) rfl (fun _ h=>by omega) ((f 13 rfl (by decide)).trans ((hq 3 13 (by rfl) (by rfl)).2.1 (by omega)))
   .exact Hl (by omega) rfl (fun _ h=>by omega) e3
   .exact Hk 15 hn (by omega) rfl (fun _ h=>by omega) ((f 15 rfl (by decide)).trans ((hq 5 15 (by rfl) (by rfl)).2.1 (by omega)))
   .exact Hl (by omega) rfl (fun _ h=>by omega) e3
   .exact Hk 17 hn (by omega) rfl (fun _ h=>by omega) ((f 17 rfl (by decide)).trans ((hq 7 17 (by rfl) (by rfl)).2.1 (by omega)))
   .have x0:=(f 10 rfl (by decide)).trans ((hq 0 10 (by rfl) (by rfl)).1 rfl);obtain⟨r1,y1,_⟩:=(hq 2 12 (by rfl) (by rfl)).2.2.1 (by omega);obtain⟨r2,y2,_⟩:=(hq 4 14 (by rfl) (by rfl)).2.2.1 (by omega);obtain⟨r3,y3,_⟩:=(hq 6 16 (by rfl) (by rfl)).2.2.1 (by omega);obtain⟨r4,y4,_⟩:=(hq 8 18 (by rfl) (by rfl)).2.2.1 (by omega);have x1:=(f 12 rfl (by decide)).trans y1;have x2:=(f 14 rfl (by decide)).trans y2;have x3:=(f 16 rfl (by decide)).trans y3;have x4:=(f 18 rfl (by decide)).trans y4;refine Bh (w':=w') (v:=.agg (C5 (X so n sc) (.int W gi) (X no n nc) (X bo bn bc) (.int W gm) (q 12) (q 14) (q 16) (q 18))) ?_ hbw ⟨pwP.val (.inr (.inr rfl)),(fun _=>rfl),fun b h _=>nomatch h⟩;rw[y1,y2,y3,y4];generalize(frm a0 [10,11,12,13,14,15,16,17,18,19,4] q).eval=ev at x0 x1 x2 x3 x4⊢;simp[execOp,x0,x1,x2,x3,x4,go_sem,C5]
   .refine Bh (w':=w'.alloc (.cells Ev 215)) (v:=K (Y ⟨w'.heap.size,0,Z⟩)) ?_ (hbw.alloc (qB _) _) ⟨pwP.box (blk_alloc_new _ _),(fun h=>by omega),fun b _ h=>?_⟩
    .generalize (frm a0 [10,11,12,13,14,15,16,17,18,19,4] q).eval=ev;kernel_rfl
    .obtain rfl:w'.heap.size=b:=by simpa[blk]using h
     simp
  .intro q w' hb hp hl2 hown hdis;have f:∀t,[10,11,12,13,14,15,16,17,18,19,4].contains t=true->t<47->(frm a0 [10,11,12,13,14,15,16,17,18,19,4] q).eval (.tmp t)=q t:=fun t h1 h2=>D4 h1 (by rw[hsz];exact h2);obtain⟨b1,y1,h1⟩:=(hp 2 12 (by decide) (by rfl)).2.2.1 (by omega);obtain⟨b2,y2,h2⟩:=(hp 4 14 (by decide) (by rfl)).2.2.1 (by omega);obtain⟨b3,y3,h3⟩:=(hp 6 16 (by decide) (by rfl)).2.2.1 (by omega);obtain⟨b4,y4,h4⟩:=(hp 8 18 (by decide) (by rfl)).2.2.1 (by omega);obtain⟨b,y0,h0⟩:=(hp 10 4 (by decide) (by rfl)).2.2.2 rfl;have e19:=hl2 9 19 (by decide) (by rfl) rfl;rw[y1,y2,y3,y4]at e19;have k1:blk (q 12)=Y b1:=by rw[y1];rfl
   have k2:blk (q 14)=Y b2:=by rw[y2];rfl
   have k3:blk (q 16)=Y b3:=by rw[y3];rfl
   have k4:blk (q 18)=Y b4:=by rw[y4];rfl
   have k0:blk (q 4)=Y b:=by rw[y0];rfl
   have dd:∀i j t s x y,i<11->j<11->i≠j->pwN i=true->pwN j=true->Aq _ i=Y t->Aq _ j=Y s->blk (q t)=Y x->blk (q s)=Y y->x≠y:=fun i j t s x y g1 g2 g3 g4 g5 g6 g7 g8 g9 e=>hdis i j t s x g1 g2 g3 g4 g5 g6 g7 g8 (by rw[g9,e]);have u01:=dd 10 2 4 12 b b1 (by decide) (by decide) (by decide) rfl rfl rfl rfl k0 k1;have u02:=dd 10 4 4 14 b b2 (by decide) (by decide) (by decide) rfl rfl rfl rfl k0 k2;have u03:=dd 10 6 4 16 b b3 (by decide) (by decide) (by decide) rfl rfl rfl rfl k0 k3;have u04:=dd 10 8 4 18 b b4 (by decide) (by decide) (by decide) rfl rfl rfl rfl k0 k4;have u12:=dd 2 4 12 14 b1 b2 (by decide) (by decide) (by decide) rfl rfl rfl rfl k1 k2;have u13:=dd 2 6 12 16 b1 b3 (by decide) (by decide) (by decide) rfl rfl rfl rfl k1 k3;have u14:=dd 2 8 12 18 b1 b4 (by decide) (by decide) (by decide) rfl rfl rfl rfl k1 k4;have u23:=dd 4 6 14 16 b2 b3 (by decide) (by decide) (by decide) rfl rfl rfl rfl k2 k3;have u24:=dd 4 8 14 18 b2 b4 (by decide) (by decide) (by decide) rfl rfl rfl rfl k2 k4;have u34:=dd 6 8 16 18 b3 b4 (by decide) (by decide) (by decide) rfl rfl rfl rfl k3 k4;have o1:=hown 2 12 b1 (by decide) rfl rfl k1;have o2:=hown 4 14 b2 (by decide) rfl rfl k2;have o3:=hown 6 16 b3 (by decide) rfl rfl k3;have o4:=hown 8 18 b4 (by decide) rfl rfl k4;have o0:=hown 10 4 b (by decide) rfl rfl k0;show wpOps qA _ _ [11] _ _;rw[wpOps_cons];refine G5 rfl rfl ?_;obtain⟨w5,r1,r2,r3,r4⟩:=Ut _ _ (frm a0 [10,11,12,13,14,15,16,17,18,19,4] q).eval w' b so no bo sc nc bn bc n gi gm b1 b2 b3 b4 ((f 4 rfl (by decide)).trans y0) ((f 19 rfl (by decide)).trans e19) h0;have hsz5:=(r4 b w' (qB _) (qD _ _)).size;have HX:V (MB w w5 no n nc b b1 b2 b3 b4):=SR rfl r2 (h1.of_block (r3 _ (Ne.symm u01))) (h2.of_block (r3 _ (Ne.symm u02))) (h3.of_block (r3 _ (Ne.symm u03))) (h4.of_block (r3 _ (Ne.symm u04))) hs0 hb0 (r4 _ _ o0.1 hb) ⟨o0.1,by omega⟩ ⟨o1.1,by omega⟩ ⟨o2.1,by omega⟩ ⟨o3.1,by omega⟩ ⟨o4.1,by omega⟩ u01 u02 u03 u04 u12 u13 u14 u23 u24 u34;refine JV rfl r1 ?_;show K' _ _;refine hK' _ _ ?_;rw[<-ha0];go_meet
   exact⟨Fs w.heap.size w5.heap.size b b1 b2 b3 b4,y0,HX⟩
 case rest=>
  obtain⟨A,rfl,HA0⟩:=hcut;obtain⟨hA,hAs,hW⟩:=HA0.out;have HA:V (TAOk A):=hA;have H0:V (TjW w wc A (X no n nc) n (X Z 0 0) (X Z 0 0) [] [] (fun _=>0) (fun _=>0) (fun _=>0) (fun j=>if j<0 then -1 else 0) 0):=hW;have HR:V (ET w no n nx):=hR;have HNX:V (∀i,i<n->∀k∈nx i,k<n):=hnx;have HXL:V (∀i,i<n->(nx i).length<=140737488355328):=hxl;have k11:=H0.out.cp;clear HA0 hW hmk c0 c1 c2 c3 c4 hb0 hR hnx hxl hs0 hW0;go_wp2_with fail
  go_loopw [23] (fun i wr=>∃k:Nat,k<=n/\i=.int W k/\V (TjW w wr A (X no n nc) n (X Z 0 0) (X Z 0 0) [] [] (fun _=>0) (fun _=>0) (fun _=>0) (fun j=>if j<k then -1 else 0) 0)) (fun i _=>n-(intOf i).toNat)
  case atStart=>exact⟨0,qJ _,rfl,H0⟩
  case round=>
   obtain⟨k,hk,rfl,HK⟩:=hrel;by_cases hlt:k<n
   .have k11:=HK.out.cp;have r1:=HK.out.rp.cell hlt;have r2:=HK.out.rp.frozen k;have HN:V (TjW w (wr.setCell ⟨A.bp,k,Z⟩ (.int W (-1))) A (X no n nc) n (X Z 0 0) (X Z 0 0) [] [] (fun _=>0) (fun _=>0) (fun _=>0) (fun j=>if j<k+1 then -1 else 0) 0):=by
     have:=HK.out.setP HA.out k (-1);have e:Et (fun j=>if j<k then(-1:Int)else 0) k (-1)=fun j=>if j<k+1 then -1 else 0:=by
      funext j;unfold Et;by_cases hj:j=k
      .subst hj;simp
      .rw[ak hj];show(if j<k then(-1:Int)else 0)=_;by_cases hjk:j<k
       .rw[aj hjk,aj (by omega)]
       .rw[ak hjk,ak (by omega)]
     rw[e]at this;exact this
    generalize B5 (fun j=>if j<k then(-1:Int)else 0) k=old at *
    clear HK;go_wp2_with fail
    go_roundw
    case rel=>exact⟨k+1,hlt,by go_num,HN⟩
    case measure=>simp[intOf];omega
   .obtain rfl:k=n:=by omega
    have HT0:V (∃wh lo go pt met,Fa w wr A (X no k nc) k nx [] wh lo go pt met/\∀x,x<0->wh x≠0):=by
     have h:=HK.out;refine⟨_,_,_,_,_,⟨X Z 0 0,X Z 0 0,Tj.start k nx,?_⟩,fun x hx=>by omega⟩;exact⟨h.below,h.size,h.fz,h.gn,h.dn,h.on,h.cw,h.cl,h.cg,h.cm,h.cp,h.rw,h.rl,h.rg,h.rp.congr (fun j hj=>by simp[B5,hj]),h.od,h.oo,h.ap⟩
    clear HK H0 k11;generalize wr=w1 at *
    go_wp2_with fail
    go_loopw [32] (fun i wr=>∃q:Nat,q<=k/\i=.int W q/\V (GH w wr A (X no k nc) k nx (fun x=>x<q))) (fun i _=>k-(intOf i).toNat)
    case atStart=>exact⟨0,qJ _,rfl,HT0⟩
    case round=>
     obtain⟨q,hq,rfl,HE⟩:=hrel;obtain⟨wh,lo,go,pt,met,⟨dv,ov,hT,hW⟩,hseen⟩:=HE.out;have HT:V (Tj k nx [] wh lo go pt met):=hT;have HW:V (TjW w wr A (X no k nc) k dv ov [] [] wh lo go pt met):=hW;have HS:V (∀x,x<q->wh x≠0):=hseen;clear hT hW hseen HE HT0;by_cases hlt2:q<k
     .have k7:=HW.out.cw;have r7:wr.cell? ⟨A.bw,q,Z⟩=Y (.int W (wh q:Int)):=HW.out.rw.cell hlt2;by_cases hwq:wh q=0
      .have hmet:met<k:=by rw[HT.out.few];exact Mc hwq hlt2
       have hme:=Ns w wr A (X no k nc) k dv ov [] [] wh lo go pt met q HA.out hlt2 (by omega) (by simp) (by simp) HW.out;have HTb:V (Tj k nx [(q,[])] (upd wh q (met+1)) (upd lo q (met+1)) go pt (met+1)):=HT.out.begin hlt2 hwq;have HSq:V (∀x,x<q+1->upd wh q (met+1) x≠0):=fun x hx=>by
        by_cases e:x=q
        .subst e;rw[A9];omega
        .rw[Al e];exact HS.out x (by omega)
       have hgo:=fun w2 (hh:TjK w w2 A (X no k nc) k nx (fun x=>x<q+1) (2*left nx go k+1))=>WD w w2 A no nc k nx (fun x=>x<q+1) (2*left nx go k+1) HA.out hn HNX.out HXL.out (by rw[hAs];exact qB _) HR.out hh;rw[hwq]at r7;clear HT HW HS;go_wp2_with (first|(go_at_call 106;refine hme.mono ?_;rintro e w2 ⟨rfl,HW2⟩;have hgo2:=hgo w2 (by obtain⟨dv',ov',h6⟩:=HW2.out;exact⟨_,_,_,_,_,_,⟨dv',ov',HTb.out,h6⟩,rfl,HSq.out⟩))|(go_at_call 107;refine hgo2.mono ?_;rintro e w3 ⟨rfl,HW3⟩))
       go_roundw
       case rel=>exact⟨q+1,hlt2,by go_num,HW3⟩
       case measure=>simp[intOf];omega
      .have hwq2:¬(wh q:Int)=0:=by omega
       have HN:V (GH w wr A (X no k nc) k nx (fun x=>x<q+1)):=⟨wh,lo,go,pt,met,⟨dv,ov,HT.out,HW.out⟩,fun x hx=>by
        by_cases e:x=q
        .subst e;exact hwq
        .exact HS.out x (by omega)⟩
       generalize wh q=b at *;clear HT HW HS
       go_wp2_with fail
       go_roundw
       case rel=>exact⟨q+1,hlt2,by go_num,HN⟩
       case measure=>simp[intOf];omega
     .obtain rfl:q=k:=by omega
      have k11:=HW.out.cp;have hbw:U w.heap.size w wr:=by rw[<-hAs];exact HW.out.below
      have HF:V (∃pt,w.heap.size<=A.bp/\wr.rowIs A.bp 3 q (B5 pt)/\∀x,x<q->E2 nx x (pt x)):=⟨pt,by rw[<-hAs];exact HA.out.sp,HW.out.rp,HT.out.done HS.out⟩;clear HT HW HS;go_wp2_with fail
      go_ret;exact⟨_,rfl,hbw,HF⟩
open Go.ChangeShapes Go.WideShapes Go.ChangeAt Go.RowKit Go.Deep Go.Maps
def GC(g:Gr)(ins want:Nat->Bool)(bs:List Nat)(L:Met)(r:Int):Prop:=LOk g.spots.length ins (nxt g) bs L/\((r=-1/\Through ins want (nxt g) bs L L.length)\/∃i,i<L.length/\r=((L.getD i (0,0)).1:Int)/\want (L.getD i (0,0)).1=true)
theorem TR(L:Met){i:Nat}(hi:i<L.length):(AK (keys L))[i]? = Y (.int W ((L.getD i (0,0)).1:Int)):=by
 simp[AK,keys,qC,hi]
theorem L8(so no bo po:Option Addr)(sc nc bc pc:Nat)(g:Gr)(bs:List Nat)(fi fw:FuncId)(ci cw:Array C)(ins want:Nat->Bool)(w:N)(hg:GOk g)(hzn:∀i,i<g.spots.length->(g.next.getD i []).length<=140737488355328)
    (hV:GraphV w (.slice so g.spots.length sc) (.slice no g.next.length nc) (.slice bo g.sets.length bc) g) (hP:Ay w (.slice po bs.length pc) bs) (hbl:bs.length<=140737488355328) (hbs:∀x∈bs,x<g.spots.length)
    (hI:FnB w w.heap.size g.spots.length (.func (.func fi) #[] ci) ins) (hW:FnB w w.heap.size g.spots.length (.func (.func fw) #[] cw) want) :
    M qA 73 #[G #[.slice so g.spots.length sc,.int W g.init,.slice no g.next.length nc,.slice bo g.sets.length bc,.int W g.many],.slice po bs.length pc,.func (.func fi) #[] ci,.func (.func fw) #[] cw] w fun e w'=>∃L r,e=O (E #[I W r,.map (Y (w.heap.size+2))])/\U w.heap.size w w'/\V (Dv w' (w.heap.size+2) L/\GC g ins want bs L r):=by
  have hn:=hg.head.n;have hnl:=hg.head.next
  have HMeet:V (∀(po:Option Addr) (pc:Nat) (ps:List Nat) (f:Int) (w1:N) (L:Met) (v:C),(∀x∈ps,x<g.spots.length)->-1<=f/\f<=20000->ps.length<=140737488355328->Ay w (.slice po ps.length pc) ps->LOk g.spots.length ins (nxt g) bs L->((f=-1/\∀x∈ps,x∈bs)\/∃j,j<L.length/\f=((L.getD j (0,0)).1:Int)/\∀x∈ps,x∈nxt g (L.getD j (0,0)).1)->LookSt w w1 w.heap.size (.slice no g.next.length nc) (.func (.func fi) #[] ci) L v->
      M qA 108 #[.slice po ps.length pc,.int W f,K (Y ⟨w.heap.size+3,0,Z⟩),K (Y ⟨w.heap.size+1,0,Z⟩),K (Y ⟨w.heap.size+4,0,Z⟩)] w1 fun e w'=>e=O (E #[])/\∃v',LookSt w w' w.heap.size (.slice no g.next.length nc) (.func (.func fi) #[] ci) (BE ins f L ps ps.length) v'/\LOk g.spots.length ins (nxt g) bs (BE ins f L ps ps.length)):=fun po pc ps f w1 L v h1 h2 h3 h4 h5 h6 h7=>
    (Sd po pc ps f w w1 g.spots.length _ fi ci ins L v hn h1 h2 h3 h4 hI (fun k hk=>(MG h5 h1 h6 k hk).length) h7).mono fun e w' ⟨e1,v',e2⟩=>⟨e1,v',e2,MG h5 h1 h6 _ (qB _)⟩
  have HV:V (GraphV w (.slice so g.spots.length sc) (.slice no g.next.length nc) (.slice bo g.sets.length bc) g):=hV;have HRow:V (∀p,p<g.spots.length->∃b off,no=Y ⟨b,off,Z⟩/\b<w.heap.size/\∃uo uc,w.cell? ⟨b,off+p,Z⟩=Y (.slice uo (nxt g p).length uc)/\Ay w (.slice uo (nxt g p).length uc) (nxt g p)/\(nxt g p).length<=140737488355328/\∀x∈nxt g p,x<g.spots.length):=fun p hp=>by
    obtain⟨b,off,e,hb,uo,uc,h1,h2⟩:=hV.next.row (i:=p) (by rw[hnl];exact hp);have h3:=hzn p hp;refine⟨b,off,e,hb,uo,uc,by rw[EF];exact h1,NM hg hp h2,by rw[EF];exact h3,fun x hx=>FF hg hp hx⟩
  have HBs:V (∀x∈bs,x<g.spots.length):=hbs;have HP:V (Ay w (.slice po bs.length pc) bs):=hP;obtain⟨fw',cw',e1,hen,hwn⟩:=hW;injection e1 with e1 e2 e3;injection e1 with e1;subst e1 e3;clear e2;have HWn:V (∀w',U w.heap.size w w'->∀p:Nat,p<g.spots.length->M qA fw (#[I W (p:Int)]++cw) w' fun e w2=>e=O (.bool (want p))/\U w'.heap.size w' w2):=hwn;have HPost:V (∀L r,LOk g.spots.length ins (nxt g) bs L->((r=-1/\Through ins want (nxt g) bs L L.length)\/∃i,i<L.length/\r=((L.getD i (0,0)).1:Int)/\want (L.getD i (0,0)).1=true)->GC g ins want bs L r):=fun L r h1 h2=>⟨h1,h2⟩
  have HTh0:V (∀f,Through ins want (nxt g) bs (BE ins f [] bs bs.length) 0):=fun f=>⟨fun x hx hy=>by
      obtain⟨k,hk,rfl⟩:=jB hx;have:=MF (ins:=ins) (f:=f) (L:=[]) (qB bs.length) k hk;rw[qC,qH hk]at this;exact this hy,fun j hj=>by omega,fun j hj=>by omega⟩
  generalize GC g ins want bs=LP at *;generalize nxt g=nx at *;rw[hnl]at HMeet⊢;generalize g.sets.length=bn at *;generalize g.spots.length=n at *;generalize g.init=gi at *;generalize g.many=gm at *;clear hV hg hzn hnl hbs hP hI hwn HV
  have HS1:V (LookSt w (((((w.alloc (T #[X so n sc,.int W gi,X no n nc,X bo bn bc,.int W gm] 45)).alloc (T #[.func (.func fi) #[] ci] 130)).alloc (.map #[] 0)).alloc (T #[.map (Y (w.heap.size+1+1))] 170)).alloc (T #[X Z 0 0] 43)) w.heap.size (X no n nc) (.func (.func fi) #[] ci) [] (X Z 0 0)):=by
    refine⟨?_,by simp,by simp[go_sem],by simp[go_sem],by simp[go_sem],?_,by simp[go_sem],by simp[go_sem],aX _ _ _ _⟩
    . exact((((ai).alloc (by simp) _).alloc (by simp;omega) _).alloc (by simp;omega) _).alloc (by simp;omega) _
    . have h0:=World.ownsMap_made ((w.alloc (T #[X so n sc,.int W gi,X no n nc,X bo bn bc,.int W gm] 45)).alloc (T #[.func (.func fi) #[] ci] 130)) qA 3 (plainElem (H:=Unit) qA 3)
      have h1:=(h0.kept (Eg ((qD _ _).alloc (qB _) (T #[.map (Y (w.heap.size+1+1))] 170))) (by simp)).kept (Eg ((qD _ _).alloc (qB _) (T #[X Z 0 0] 43))) (by simp);exact⟨_,by simpa using h1,fun x=>⟨by simp[Maps.has,keys],fun h=>by simp[keys]at h⟩⟩
  have hme:=HMeet.out po pc bs (-1) _ [] _ HBs.out (by omega) hbl HP.out (LOk.nil _ _ _ _) (.inl ⟨rfl,fun x hx=>hx⟩) HS1.out;have hmm:=@run_makeMap qA;have hmf:∀(fn:Fn) (first cap:Array C) (w:N),(Instr.makeFunc fn first cap).run qA w=.ok (.func fn first cap) w:=fun _ _ _ _=>rfl;go_enter Tryz.func73,Tryz.ntmps73;go_wp2_with (go_at_call 108;refine hme.mono ?_;rintro e w1 ⟨rfl,v1,hst1,hok1⟩)
  have HTh:=HTh0.out (-1);generalize BE ins (-1) [] bs bs.length=L1 at *;have HI:V (∃L v,0<=L.length/\LookSt w w1 w.heap.size (X no n nc) (.func (.func fi) #[] ci) L v/\LOk n ins nx bs L/\Through ins want nx bs L 0):=⟨L1,v1,qJ _,hst1,hok1,HTh⟩
  clear hst1 hok1 HTh HTh0 hme HS1 hmm hmf HP HBs;go_loopw [13] (fun i wr=>∃k:Nat,k<=n/\i=.int W k/\V (∃L v,k<=L.length/\LookSt w wr w.heap.size (X no n nc) (.func (.func fi) #[] ci) L v/\LOk n ins nx bs L/\Through ins want nx bs L k)) (fun i _=>n-(intOf i).toNat)
  case atStart=>exact⟨0,qJ _,rfl,HI.out⟩
  case round=>
    obtain⟨k,hk,rfl,HK⟩:=hrel;obtain⟨L,v,hkL,hst,hok,hth⟩:=HK.out;obtain⟨lo,lc,rfl⟩:=Au hst.ow;have hln:wr.cell? ⟨w.heap.size+1+1+1+1,0,Z⟩=Y (.slice lo L.length lc):=hst.ln;have hcm:wr.cell? ⟨w.heap.size+1+1+1,0,Z⟩=Y (.map (Y (w.heap.size+1+1))):=hst.cm;have hgn:=hst.gn;have hLn:=hok.length;by_cases hlt:k<L.length
    . obtain⟨lb,hlo⟩:∃lb,lo=Y ⟨lb,0,Z⟩:=by
        rcases hst.ow.2 with⟨e,h0⟩|⟨lb,cap,cur,e,_⟩
        . omega
        . injection e with e1 _ _;exact⟨lb,e1⟩
      subst hlo;have hcl:wr.cell? ⟨lb,k,Z⟩=Y (.int W ((L.getD k (0,0)).1:Int)):=by
        rw[hst.ow.cellAt k (by omega)];exact TR L hlt
      have hpn:(L.getD k (0,0)).1<n:=hok.lt _ (Gu hlt);have hwa:=HWn.out wr hst.below (L.getD k (0,0)).1 hpn;have HLa:V (∀w4,U wr.heap.size wr w4->LookSt w w4 w.heap.size (X no n nc) (.func (.func fi) #[] ci) L (X (Y ⟨lb,0,Z⟩) L.length lc)):=fun w4 hb=>hst.later hb;have hlbs:lb<wr.heap.size:=World.block_lt_of_cell? wr _ hcl;cases hwt:want (L.getD k (0,0)).1 with
      |true=>
        rw[hwt]at hwa;have HP2:V (LP L ((L.getD k (0,0)).1:Int)):=HPost.out L _ hok (.inr ⟨k,hlt,rfl,hwt⟩);generalize(L.getD k (0,0)).1=p at *;obtain⟨q,hq⟩:∃q,q=L.length:=⟨_,rfl⟩
        rw[<-hq]at hlt hln hLn HLa;clear hst hok hth HK hwt hq hkL;go_wp2_with ((refine hwa.mono ?_;rintro e w4 ⟨rfl,hb4⟩;have hst4:=HLa.out w4 hb4;have hln4:w4.cell? ⟨w.heap.size+1+1+1+1,0,Z⟩=Y (X (Y ⟨lb,0,Z⟩) q lc):=hst4.ln;have hcm4:w4.cell? ⟨w.heap.size+1+1+1,0,Z⟩=Y (.map (Y (w.heap.size+1+1))):=hst4.cm;have hcl4:=(hb4.cell (p:=⟨lb,k,Z⟩) hlbs).trans hcl;have hbw4:=hst4.below;have HM4:V (Dv w4 (w.heap.size+2) L):=hst4.mp;clear hst4))
        go_region
        go_wp2_with fail
        go_ret2;exact⟨L,(p:Int),rfl,by first|exact hbw4.drew|exact hbw4,HM4.out,HP2.out⟩
      |false=>
        rw[hwt]at hwa;obtain⟨nb,noff,rfl,hnb,uo,uc,hcu0,hnat,hnl,hnlt⟩:=HRow.out (L.getD k (0,0)).1 hpn;have HTh:V (∀f,Through ins want nx bs (BE ins f L (nx (L.getD k (0,0)).1) (nx (L.getD k (0,0)).1).length) (k+1)):=fun f=>hth.step hlt hwt;have HLe:V (∀f,k+1<=(BE ins f L (nx (L.getD k (0,0)).1) (nx (L.getD k (0,0)).1).length).length):=fun f=>qI hlt (JH _ _ _ _ _).length;have hme:=fun w4 hb=>HMeet.out uo uc (nx (L.getD k (0,0)).1) ((L.getD k (0,0)).1:Int) w4 L _ hnlt (by omega) hnl hnat hok (.inr ⟨k,hlt,rfl,fun x hx=>hx⟩) (HLa.out w4 hb);generalize(L.getD k (0,0)).1=p at *;obtain⟨q,hq⟩:∃q,q=L.length:=⟨_,rfl⟩
        have HQ:V (q=L.length):=hq;rw[<-hq]at hlt hln hLn HLa;have HME:V (∀w4,U wr.heap.size wr w4->M qA 108 #[.slice uo (nx p).length uc,.int W (p:Int),K (Y ⟨w.heap.size+1+1+1,0,Z⟩),K (Y ⟨w.heap.size+1,0,Z⟩),K (Y ⟨w.heap.size+1+1+1+1,0,Z⟩)] w4 fun e w'=>e=O (E #[])/\∃v',LookSt w w' w.heap.size (X (Y ⟨nb,noff,Z⟩) n nc) (.func (.func fi) #[] ci) (BE ins (p:Int) L (nx p) (nx p).length) v'/\LOk n ins nx bs (BE ins (p:Int) L (nx p) (nx p).length)):=hme;clear hst hok hth HK hwt hq hkL hme hnat hnlt HRow;have HN:=HTh.out (p:Int);have HN2:=HLe.out (p:Int);generalize BE ins (p:Int) L (nx p) (nx p).length=L2 at *;generalize(nx p).length=rn at *
        have hS:∀w',U wr.heap.size wr w'->w'.cell? ⟨w.heap.size,2,Z⟩=Y (X (Y ⟨nb,noff,Z⟩) n nc)/\w'.cell? ⟨w.heap.size+1+1+1+1,0,Z⟩=Y (X (Y ⟨lb,0,Z⟩) q lc)/\w'.cell? ⟨lb,k,Z⟩=Y (.int W (p:Int))/\w'.cell? ⟨nb,noff+p,Z⟩=Y (X uo rn uc):=fun w' hb=>by
          have hst4:=HLa.out w' hb;exact⟨hst4.gn,hst4.ln,(hb.cell (p:=⟨lb,k,Z⟩) hlbs).trans hcl,(hst4.below.cell (p:=⟨nb,noff+p,Z⟩) hnb).trans hcu0⟩
        go_wp2_with ((refine hwa.mono ?_;rintro e w4 ⟨rfl,hb4⟩;obtain⟨a1,a2,a3,a4⟩:=hS w4 hb4))
        have hm4:=HME.out w4.drew hb4.drew;have HGo:V (∀w5 v5,LookSt w w5 w.heap.size (X (Y ⟨nb,noff,Z⟩) n nc) (.func (.func fi) #[] ci) L2 v5->LOk n ins nx bs L2->∃L v,k+1<=L.length/\LookSt w w5 w.heap.size (X (Y ⟨nb,noff,Z⟩) n nc) (.func (.func fi) #[] ci) L v/\LOk n ins nx bs L/\Through ins want nx bs L (k+1)):=fun w5 v5 h1 h2=>⟨L2,v5,HN2,h1,h2,HN⟩;clear HN HN2 HTh HLe HME HMeet HLa HWn HPost hS hwa hcl hcu0 hln hcm hgn;have hkn:k<n:=by omega
        go_region_with ((go_at_call 108;refine hm4.mono ?_;rintro e w5 ⟨rfl,v5,hst5,hok5⟩;have HK5:V (∃L v,k+1<=L.length/\LookSt w w5 w.heap.size (X (Y ⟨nb,noff,Z⟩) n nc) (.func (.func fi) #[] ci) L v/\LOk n ins nx bs L/\Through ins want nx bs L (k+1)):=(HGo.out w5 v5 hst5 hok5);clear hst5 hok5))
        all_goals
          go_wp2_with fail
          go_roundw
          case rel=>exact⟨k+1,hkn,by go_num,HK5⟩
          case measure=>simp[intOf];omega
    . obtain rfl:k=L.length:=by omega
      have HF:V (Dv wr (w.heap.size+2) L/\LP L (-1)):=⟨hst.mp,HPost.out L (-1) hok (.inl ⟨rfl,hth⟩)⟩;have hbw:=hst.below;generalize L.length=q at *;clear hst hok hth HK
      go_wp2_with fail
      go_region
      go_wp2_with fail
      go_ret2;exact⟨L,-1,rfl,by first|exact hbw.drew|exact hbw,HF.out⟩
open Classical in
noncomputable def Fz(nx:Nat->List Nat)(fr:List Nat)(n:Nat):List Bool:=(aE n).map fun j=>decide (∃f∈fr,Way nx f j)
noncomputable def Dr(g:Gr):List Bool:=Fz (nxt g) (aE g.init.toNat) g.spots.length
structure GrLe(g:Gr):Prop where
 spots:g.spots.length<=140737488355328
 next:g.next.length<=140737488355328
 sets:g.sets.length<=140737488355328
 rows:∀i,i<g.next.length->(g.next.getD i []).length<=140737488355328
open Classical in
theorem NA{nx:Nat->List Nat}{fr:List Nat}{n j:Nat}(hj:j<n):(Fz nx fr n).getD j Q=decide (∃f∈fr,Way nx f j):=by
 simp[Fz,qC,hj]
theorem NB(nx:Nat->List Nat)(fr:List Nat)(n:Nat):(Fz nx fr n).length=n:=by simp[Fz]
theorem Vg(so no bo:Option Addr)(sc nc bc:Nat)(g:Gr)(w:N)(hz:GrLe g)(hV:GraphV w (.slice so g.spots.length sc) (.slice no g.next.length nc) (.slice bo g.sets.length bc) g)(hc:CM g=0) :
  M qA 135 #[G #[.slice so g.spots.length sc,.int W g.init,.slice no g.next.length nc,.slice bo g.sets.length bc,.int W g.many]] w fun e w'=>∃vo vc,e=O (E #[.slice vo g.spots.length vc,.int W 0])/\U w.heap.size w w'/\V (BoolsV w' (.slice vo g.spots.length vc) (Dr g)):=by
 have hok:=Gj hc;obtain⟨W0,hW0⟩:∃W0,W0=w.alloc (T #[.slice so g.spots.length sc,.int W g.init,.slice no g.next.length nc,.slice bo g.sets.length bc,.int W g.many] 45):=⟨_,rfl⟩;have hA:U w.heap.size w W0:=by rw[hW0];exact ai
 have hs0:w.heap.size<W0.heap.size:=by rw[hW0];simp
 have HD:V (∀w1,U W0.heap.size W0 w1->U w.heap.size w w1/\w1.cell? ⟨w.heap.size,0,Z⟩=Y (.slice so g.spots.length sc)/\w1.cell? ⟨w.heap.size,1,Z⟩=Y (.int W g.init)/\w1.cell? ⟨w.heap.size,2,Z⟩=Y (.slice no g.next.length nc)/\w1.cell? ⟨w.heap.size,3,Z⟩=Y (.slice bo g.sets.length bc)/\w1.cell? ⟨w.heap.size,4,Z⟩=Y (.int W g.many)):=fun w1 hb=>by
  have c:∀j,w1.cell? ⟨w.heap.size,j,Z⟩=W0.cell? ⟨w.heap.size,j,Z⟩:=fun j=>hb.cell (p:=⟨w.heap.size,j,Z⟩) hs0;refine⟨ae hA hb,(c _).trans ?_,(c _).trans ?_,(c _).trans ?_,(c _).trans ?_,(c _).trans ?_⟩<;>(rw[hW0];simp[go_sem])
 have hch:=NW so no bo sc nc bc g W0 hz.spots hz.next hz.sets hz.rows (hV.below hA);rw[hc]at hch;obtain⟨gi,hgi⟩:∃gi:Nat,g.init=gi:=⟨g.init.toNat,by have:=hok.head.init0;omega⟩;have hgn:gi<=g.spots.length:=by have:=hok.head.init1;omega
 have hn:=hok.head.n;have HFi:V (∀w1,M qA 43 #[G #[.slice so g.spots.length sc,.int W (gi:Int),.slice no g.next.length nc,.slice bo g.sets.length bc,.int W g.many]] w1 fun e w'=>∃vo vc,e=O (.slice vo (aE gi).length vc)/\U w1.heap.size w1 w'/\Ay w' (.slice vo (aE gi).length vc) (aE gi)):=fun w1=>LO so no bo _ sc _ nc _ bc gi g.many w1 (by omega);have HLo:V (∀w1 vo vc,U W0.heap.size W0 w1->Ay w1 (.slice vo (aE gi).length vc) (aE gi)->M qA 73 #[G #[.slice so g.spots.length sc,.int W (gi:Int),.slice no g.next.length nc,.slice bo g.sets.length bc,.int W g.many],.slice vo (aE gi).length vc,.func (.func 44) #[] #[],.func (.func 170) #[] #[]] w1 fun e w'=>∃L r,e=O (E #[I W r,.map (Y (w1.heap.size+2))])/\U w1.heap.size w1 w'/\V (Dv w' (w1.heap.size+2) L/\∀x,x∈keys L↔∃f∈aE gi,Way (nxt g) f x)):=fun w1 vo vc hb hN=>by
  have:=L8 so no bo vo sc nc bc vc g (aE gi) 44 170 #[] #[] (fun _=>true) (fun _=>Q) w1 hok (fun i hi=>hz.rows i (by rw[hok.head.next];exact hi)) ((hV.below hA).below hb) hN (by simp;omega) (fun x hx=>by have:=vA.1 hx;omega) (Ki _ _ _) (TN _ _ _);rw[hgi]at this;refine this.mono fun e w' ⟨L,r,h1,h2,h3⟩=>⟨L,r,h1,h2,h3.out.1,?_⟩;obtain⟨p1,p2⟩:=h3.out.2;rcases p2 with⟨_,p3⟩|⟨i,_,_,p4⟩
  .exact SH p1 p3
  .simp at p4
 have HRe:V (∀x,x<g.spots.length->∀b:Bool,(b=true↔∃f∈aE gi,Way (nxt g) f x)->(Dr g).getD x Q=b):=fun x hx b hb=>by
  classical
  unfold Dr;rw[NA hx,hgi];show decide (∃f∈aE gi,Way (nxt g) f x)=b;cases b with
  |true=>exact decide_eq_true (hb.1 rfl)
  |false=>exact decide_eq_false fun h=>by simp at hb;exact hb _ (vA.1 h.choose_spec.1) h.choose_spec.2
 have HRl:V ((Dr g).length=g.spots.length):=NB _ _ _;rw[hgi]at hW0 HD hch⊢;have HHas:V (∀x,(∃f∈aE gi,Way (nxt g) f x)=(∃f∈aE gi,Way (nxt g) f x)):=fun _=>rfl;generalize Dr g=RL at *;generalize Way (nxt g)=WY at *;obtain⟨lr,hlr⟩:∃lr,lr=(aE gi).length:=⟨_,rfl⟩
 rw[<-hlr]at HFi HLo;generalize g.next.length=nn at *;generalize g.sets.length=bn at *;generalize g.many=gm at *;obtain⟨n,hnn⟩:∃n,n=g.spots.length:=⟨_,rfl⟩
 rw[<-hnn]at hW0 HD hch HFi HLo HRe HRl hn hgn⊢;clear hV hz hc hok hgi hnn hlr;have hS:∀w1,U W0.heap.size W0 w1->w1.cell? ⟨w.heap.size,0,Z⟩=Y (X so n sc)/\w1.cell? ⟨w.heap.size,1,Z⟩=Y (.int W (gi:Int))/\w1.cell? ⟨w.heap.size,2,Z⟩=Y (X no nn nc)/\w1.cell? ⟨w.heap.size,3,Z⟩=Y (X bo bn bc)/\w1.cell? ⟨w.heap.size,4,Z⟩=Y (.int W gm):=fun w1 hb=>(HD.out w1 hb).2;have HW0:V (W0=w.alloc (T #[X so n sc,.int W (gi:Int),X no nn nc,X bo bn bc,.int W gm] 45)):=hW0;rw[hW0]at hch;clear hW0;go_enter Tryz.func135,Tryz.ntmps135;go_wp2_with (go_at_call 70;refine hch.mono ?_;rintro e w1 ⟨rfl,hb1⟩;rw[<-HW0.out]at hb1;obtain⟨a0,a1,a2,a3,a4⟩:=hS w1 hb1)
 have hfi:=HFi.out w1.drew;go_region_held3 (fun w'=>w'.cell? ⟨w.heap.size,0,Z⟩=Y (X so n sc)/\w'.cell? ⟨w.heap.size,1,Z⟩=Y (.int W (gi:Int))/\w'.cell? ⟨w.heap.size,2,Z⟩=Y (X no nn nc)/\w'.cell? ⟨w.heap.size,3,Z⟩=Y (X bo bn bc)/\w'.cell? ⟨w.heap.size,4,Z⟩=Y (.int W gm))
  (exact hS _ (by first|exact hb1.drew|exact hb1|exact hb12|exact hb13))
  (first|(go_at_call 43;refine hfi.mono ?_;rintro e w2 ⟨vo,vc,rfl,hb2,hN2⟩;have hb12:=hb1.trans ((C9 hb2).mono hb1.size);have hlo:=HLo.out w2 vo vc hb12 hN2)|(go_at_call 73;refine hlo.mono ?_;rintro e w3 ⟨L,r,rfl,hb3,HC⟩;have hb13:=ae hb12 hb3))
 obtain⟨b0,b1,b2,b3,b4⟩:=hS w3 hb13;have hmk:=run_make_row' (P:=qA) 111 4 (.bool Q) 1 fS Gp rfl .i64 .i64 n (by omega) (by omega);have hrow0:=eL w3 (.bool Q) n 4;have HR0:V ((w3.alloc (T (madeCells #[ZZ Q] n) 4)).rowIs w3.heap.size 4 n (fun j=>.bool (if j<0 then RL.getD j Q else Q))):=hrow0.congr fun j _=>by simp
 have HB0:V (U w3.heap.size w3 (w3.alloc (T (madeCells #[ZZ Q] n) 4))):=ai;have hbw3:=ae hA hb13;clear hrow0 hS hfi hlo hN2 HLo HFi hch HD hb12 hb13 hb1 hb2 hb3 hA HW0;go_wp2_with fail
 go_loopw [27] (fun i wr=>∃k:Nat,k<=n/\i=.int W k/\V (wr.rowIs w3.heap.size 4 n (fun j=>.bool (if j<k then RL.getD j Q else Q)))/\V (U w3.heap.size w3 wr)) (fun i _=>n-(intOf i).toNat)
 case atStart=>exact⟨0,qJ _,rfl,HR0.out,HB0.out⟩
 case round=>
  obtain⟨k,hk,rfl,HR,HB⟩:=hrel;by_cases hlt:k<n
  .have hce:=HR.out.cell hlt;have hfz:=HR.out.frozen k;obtain⟨D,hown,hcd⟩:=HC.out.1.kept (Eg HB.out) (by simp);have hkk:=HC.out.2 k;have hhas:=(hcd k).1;have hk1:=I6 k (by omega);have HRk:V (RL.getD k Q=decide (k∈keys L)):=HRe.out k hlt (decide (k∈keys L)) (by rw[<-hkk];simp);generalize decide (k∈keys L)=bb at *
   have HN:V ((wr.setCell ⟨w3.heap.size,k,Z⟩ (.bool bb)).rowIs w3.heap.size 4 n (fun j=>.bool (if j<k+1 then RL.getD j Q else Q))):=(HR.out.set k (.bool bb)).congr fun j _=>by
    by_cases hj:j=k
    .subst hj;rw[aj rfl,aj (by omega),HRk.out]
    .rw[ak hj];by_cases hjk:j<k
     .rw[aj hjk,aj (by omega)]
     .rw[ak hjk,ak (by omega)]
   have HBn:V (U w3.heap.size w3 (wr.setCell ⟨w3.heap.size,k,Z⟩ (.bool bb))):=HB.out.setCell (qB _) _;generalize(if k<k then RL.getD k Q else Q)=old at *
   generalize L.length=ql at *;clear HR hcd hkk
   go_wp2_with (at_lookup;refine wpList_lookup_own_ok_int _ rfl _ _ 170 rfl 3 3 .i64 FA cS bI (F9 _) (w2.heap.size+2) _ D rfl hown _ _ rfl hk1 ?_;intro c hat hwc;rw[hhas];clear hat hwc)
   go_roundw
   case rel=>exact⟨k+1,hlt,by go_num,HN,HBn⟩
   case measure=>simp[intOf];omega
  .obtain rfl:k=n:=by omega
   have HI:V (BoolsV wr (X (Y ⟨w3.heap.size,0,Z⟩) k k) RL):=by
    have h1:wr.rowIs w3.heap.size 4 RL.length (fun j=>.bool (RL.getD j Q)):=by rw[HRl.out];exact HR.out.congr fun j hj=>by rw[aj hj]
    have:=Ic h1;rwa[HRl.out]at this
   clear HR;go_wp2_with fail
   go_ret2;exact⟨_,_,rfl,ae hbw3 HB.out,HI⟩
theorem I1{w:N}{g:Gr}{so no bo:Option Addr}{sc nc bc:Nat}(h:GOk g)(hV:GraphV w (.slice so g.spots.length sc) (.slice no g.next.length nc) (.slice bo g.sets.length bc) g):ET w no g.spots.length (nxt g):=fun p hp=>by
 obtain⟨b,off,e,hb,uo,uc,hc,hi⟩:=hV.next.row (i:=p) (by rw[h.head.next];exact hp);exact⟨b,off,e,hb,uo,uc,by rw[EF];exact hc,NM h hp hi⟩
def Cr(g:Gr)(pt:Nat->Int):Prop:=∀x,x<g.spots.length->E2 (nxt g) x (pt x)
theorem Mr(so no bo:Option Addr)(sc nc bc:Nat)(g:Gr)(w:N)(hz:GrLe g)(hV:GraphV w (.slice so g.spots.length sc) (.slice no g.next.length nc) (.slice bo g.sets.length bc) g)(hok:GOk g) :
  M qA 71 #[G #[.slice so g.spots.length sc,.int W g.init,.slice no g.next.length nc,.slice bo g.sets.length bc,.int W g.many]] w fun e w'=>∃B,e=O (X (Y ⟨B,0,Z⟩) g.spots.length g.spots.length)/\U w.heap.size w w'/\V (∃pt,w.heap.size<=B/\w'.rowIs B 3 g.spots.length (B5 pt)/\Cr g pt):=by
 have hn:=hok.head.next;have h:=Tv so no bo sc nc g.sets.length bc g.init g.many g.spots.length (nxt g) w hok.head.n (fun i hi k hk=>FF hok hi hk) (fun i hi=>by rw[EF];exact hz.rows i (by rw[hn];exact hi)) (I1 hok hV);rw[hn];exact h
theorem Vb(so no bo:Option Addr)(sc nc bc:Nat)(g:Gr)(w:N)(hz:GrLe g)(hV:GraphV w (.slice so g.spots.length sc) (.slice no g.next.length nc) (.slice bo g.sets.length bc) g)(hc:CM g=0) :
  M qA 40 #[G #[.slice so g.spots.length sc,.int W g.init,.slice no g.next.length nc,.slice bo g.sets.length bc,.int W g.many]] w fun e w'=>∃B,e=O (E #[X (Y ⟨B,0,Z⟩) g.spots.length g.spots.length,.int W 0])/\U w.heap.size w w'/\V (∃pt,w.heap.size<=B/\w'.rowIs B 3 g.spots.length (B5 pt)/\Cr g pt):=by
 have hok:=Gj hc;obtain⟨W0,hW0⟩:∃W0,W0=w.alloc (T #[.slice so g.spots.length sc,.int W g.init,.slice no g.next.length nc,.slice bo g.sets.length bc,.int W g.many] 45):=⟨_,rfl⟩;have hA:U w.heap.size w W0:=by rw[hW0];exact ai
 have hs0:w.heap.size<W0.heap.size:=by rw[hW0];simp
 have HD:V (∀w1,U W0.heap.size W0 w1->w1.cell? ⟨w.heap.size,0,Z⟩=Y (.slice so g.spots.length sc)/\w1.cell? ⟨w.heap.size,1,Z⟩=Y (.int W g.init)/\w1.cell? ⟨w.heap.size,2,Z⟩=Y (.slice no g.next.length nc)/\w1.cell? ⟨w.heap.size,3,Z⟩=Y (.slice bo g.sets.length bc)/\w1.cell? ⟨w.heap.size,4,Z⟩=Y (.int W g.many)):=fun w1 hb=>by
  have c:∀j,w1.cell? ⟨w.heap.size,j,Z⟩=W0.cell? ⟨w.heap.size,j,Z⟩:=fun j=>hb.cell (p:=⟨w.heap.size,j,Z⟩) hs0;refine⟨(c _).trans ?_,(c _).trans ?_,(c _).trans ?_,(c _).trans ?_,(c _).trans ?_⟩<;>(rw[hW0];simp[go_sem])
 have hch:=NW so no bo sc nc bc g W0 hz.spots hz.next hz.sets hz.rows (hV.below hA);rw[hc]at hch;have HPa:V (∀w1,U W0.heap.size W0 w1->M qA 71 #[G #[.slice so g.spots.length sc,.int W g.init,.slice no g.next.length nc,.slice bo g.sets.length bc,.int W g.many]] w1 fun e w'=>∃B,e=O (X (Y ⟨B,0,Z⟩) g.spots.length g.spots.length)/\U w1.heap.size w1 w'/\V (∃pt,w1.heap.size<=B/\w'.rowIs B 3 g.spots.length (B5 pt)/\Cr g pt)):=fun w1 hb=>Mr so no bo sc nc bc g w1 hz ((hV.below hA).below hb) hok;rw[hW0]at hch;have HW0:V (W0=w.alloc (T #[.slice so g.spots.length sc,.int W g.init,.slice no g.next.length nc,.slice bo g.sets.length bc,.int W g.many] 45)):=hW0;clear hV hz hc hok hW0;generalize Cr g=PO at *;generalize g.spots.length=sn at *;generalize g.next.length=nn at *;generalize g.sets.length=bn at *;generalize g.init=gi at *
 generalize g.many=gm at *
 go_enter Tryz.func40,Tryz.ntmps40;go_wp2_with (first|(go_at_call 70;refine hch.mono ?_;rintro e w1 ⟨rfl,hb1⟩;rw[<-HW0.out]at hb1;obtain⟨a0,a1,a2,a3,a4⟩:=HD.out w1 hb1;have hpa:=HPa.out w1 hb1)|(go_at_call 71;refine hpa.mono ?_;rintro e w2 ⟨B,rfl,hb2,HB⟩))
 go_ret2;refine⟨_,rfl,hA.trans ((ae hb1 hb2).mono hA.size),?_⟩;obtain⟨pt,h1,h2,h3⟩:=HB.out;exact⟨pt,by have:=hb1.size;omega,h2,h3⟩
theorem Mj:∀a,a<64->∀b,b<64->bits BinOp.or aY ((a:Nat):Int) ((b:Nat):Int)=((a ||| b:Nat):Int):=by decide +kernel
theorem Hj{m:Nat}(h:m<=6):2^m<=64:=vK (n:=2) (by decide) h
theorem GOk.sN{g:Gr}(h:GOk g){x:Nat}(hx:x<g.spots.length):g.sets.getD x 0=(sN g x:Int)/\Go.Proofs.YtehfhemidmfffaaGreatDoor.sN g x<2^mN g:=by
 have h1:=(h.row x hx).1;unfold Ez top at h1;have h2:((2^g.many.toNat:Nat):Int)=2^g.many.toNat:=by simp
 unfold Go.Proofs.YtehfhemidmfffaaGreatDoor.sN mN;omega
theorem GOk.mN{g:Gr}(h:GOk g):mN g<=6/\g.many=(Go.Proofs.YtehfhemidmfffaaGreatDoor.mN g:Int)/\top g=((2^Go.Proofs.YtehfhemidmfffaaGreatDoor.mN g-1:Nat):Int):=by
 have h1:=h.head.many0;have h2:=h.head.many6;have h3:((2^g.many.toNat:Nat):Int)=2^g.many.toNat:=by simp
 have h4:0<2^g.many.toNat:=kE (by decide);unfold Go.Proofs.YtehfhemidmfffaaGreatDoor.mN top;omega
def Bj(s pz:Nat->Nat)(p:Nat):Nat->Nat
 |0=>0
 |k+1=>if pz k=p then Bj s pz p k ||| s k else Bj s pz p k
theorem Ja{s pz:Nat->Nat}{p m n:Nat}(hs:∀x,x<n->s x<2^m):∀k,k<=n->Bj s pz p k<2^m
 |0,_=>kE (by decide)
 |k+1,hk=>by
  have ih:=Ja (p:=p) (pz:=pz) hs k (by omega);unfold Bj;split
  .exact zY ih (hs k (by omega))
  .exact ih
theorem JZ{s pz:Nat->Nat}{p i:Nat}:∀k,(Bj s pz p k).testBit i=true↔∃x,x<k/\pz x=p/\(s x).testBit i=true
 |0=>by
  unfold Bj;simp
 |k+1=>by
  have ih:=JZ (s:=s) (pz:=pz) (p:=p) (i:=i) k;unfold Bj;split
  .rename_i hp;rw[zM,jI,ih];constructor
   .rintro (⟨x,h1,h2⟩|h)
    .exact ⟨x,by omega,h2⟩
    .exact ⟨k,by omega,hp,h⟩
   .rintro ⟨x,h1,h2,h3⟩;by_cases e:x=k
    .subst e;exact .inr h3
    .exact .inl ⟨x,by omega,h2,h3⟩
  .rename_i hp;rw[ih];constructor
   .rintro ⟨x,h1,h2⟩;exact⟨x,by omega,h2⟩
   .rintro ⟨x,h1,h2,h3⟩;by_cases e:x=k
    .subst e;exact absurd h2 hp
    .exact ⟨x,by omega,h2,h3⟩
theorem Iw{a m:Nat}(ha:a<2^m):a=2^m-1↔∀i,i<m->a.testBit i=true:=by
 constructor
 .rintro rfl i hi;rw[zS];simp[hi]
 .intro h;refine yT fun i=>?_;rw[zS];by_cases hi:i<m
  .rw[h i hi];simp[hi]
  .rw[Nat.testBit_lt_two_pow (qE ha (vK (by decide) (by omega)))];simp[hi]
open Classical in
noncomputable def lpB(nx:Nat->List Nat)(pz:Nat->Nat)(k q:Nat)(p:Nat):Bool:=decide ((∃x,x<k/\pz x=p/\∃y∈nx x,pz y=p)\/(pz k=p/\∃j,j<q/\j<(nx k).length/\pz ((nx k).getD j 0)=p))
theorem SQ(nx:Nat->List Nat)(pz:Nat->Nat)(p:Nat):lpB nx pz 0 0 p=false:=by
 unfold lpB;exact decide_eq_false fun h=>by
  rcases h with⟨x,hx,_⟩|⟨_,j,hj,_⟩<;>omega
theorem SN(nx:Nat->List Nat)(pz:Nat->Nat)(k p:Nat):lpB nx pz (k+1) 0 p=lpB nx pz k (nx k).length p:=by
 unfold lpB;rw[decide_eq_decide];constructor
 .rintro (⟨x,hx,h1,y,h2,h3⟩|⟨_,j,hj,_⟩)
  .by_cases e:x=k
   .subst e;obtain⟨j,hj,rfl⟩:=jB h2;exact .inr ⟨h1,j,hj,hj,by rw[qC,qH hj];exact h3⟩
   .exact .inl ⟨x,by omega,h1,y,h2,h3⟩
  .omega
 .rintro (⟨x,hx,h⟩|⟨h1,j,_,hj,h2⟩)
  .exact .inl ⟨x,by omega,h⟩
  .refine .inl ⟨k,by omega,h1,_,?_,h2⟩;rw[qC,qH hj];exact qR _
theorem SO{nx:Nat->List Nat}{pz:Nat->Nat}{k q p:Nat}(h:pz ((nx k).getD q 0)≠pz k):lpB nx pz k (q+1) p=lpB nx pz k q p:=by
 unfold lpB;rw[decide_eq_decide];constructor
 .rintro (h1|⟨h1,j,h2,h3,h4⟩)
  .exact .inl h1
  .by_cases e:j=q
   .subst e;exact absurd (h4.trans h1.symm) h
   .exact .inr ⟨h1,j,by omega,h3,h4⟩
 .rintro (h1|⟨h1,j,h2,h3,h4⟩)
  .exact .inl h1
  .exact .inr ⟨h1,j,by omega,h3,h4⟩
theorem SP{nx:Nat->List Nat}{pz:Nat->Nat}{k q p:Nat}(hq:q<(nx k).length)(h:pz ((nx k).getD q 0)=pz k):lpB nx pz k (q+1) p=if p=pz k then true else lpB nx pz k q p:=by
 by_cases e:p=pz k
 .rw[aj e];unfold lpB;exact decide_eq_true (.inr ⟨e.symm,q,by omega,hq,h.trans e.symm⟩)
 .rw[ak e];unfold lpB;rw[decide_eq_decide];constructor
  .rintro (h1|⟨h1,_⟩)
   .exact .inl h1
   .exact absurd h1.symm e
  .rintro (h1|⟨h1,_⟩)
   .exact .inl h1
   .exact absurd h1.symm e
def KW(g:Gr)(pz:Nat->Nat)(p:Nat):Prop:=(∃x,x<g.spots.length/\pz x=p/\∃y∈nxt g x,pz y=p)/\∀i,i<mN g->∃x,x<g.spots.length/\pz x=p/\(sN g x).testBit i=true
open Classical in
noncomputable def Ed(g:Gr)(pz:Nat->Nat)(x:Nat):Bool:=decide (KW g pz (pz x))
theorem QZ{g:Gr}(hg:GOk g)(pz:Nat->Nat)(x:Nat):Ed g pz x=(lpB (nxt g) pz g.spots.length 0 (pz x)&&decide (Bj (sN g) pz (pz x) g.spots.length=2^mN g-1)):=by
 have hlt:=Ja (p:=pz x) (pz:=pz) (fun x hx=>(hg.sN hx).2) g.spots.length (qB _);unfold Ed lpB;rw[Bool.eq_iff_iff,Bool.and_eq_true];simp only[decide_eq_true_eq];rw[Iw hlt];unfold KW;constructor
 .rintro ⟨h1,h2⟩;exact⟨.inl h1,fun i hi=>(JZ _).2 (h2 i hi)⟩
 .rintro ⟨h1|⟨_,j,hj,_⟩,h2⟩
  .exact ⟨h1,fun i hi=>(JZ _).1 (h2 i hi)⟩
  .omega
structure FsSt(W0 wr:N)(s0 n:Nat)(nx:Nat->List Nat)(s pz:Nat->Nat)(k q kk:Nat):Prop where
 below:U s0 W0 wr
 size:s0+2<=wr.heap.size
 loops:wr.rowIs s0 4 n (fun p=>.bool (lpB nx pz k q p))
 sets:wr.rowIs (s0+1) 3 n (fun p=>.int W (Bj s pz p kk:Int))
theorem FsSt.later{W0 wr w':N}{s0 n:Nat}{nx:Nat->List Nat}{s pz:Nat->Nat}{k q kk:Nat}(h:FsSt W0 wr s0 n nx s pz k q kk)(hb:U (s0+2) wr w'):FsSt W0 w' s0 n nx s pz k q kk:=
 ⟨h.below.trans (hb.mono (by omega)),qI h.size hb.size,h.loops.of_block (hb.block _ (by omega)),h.sets.of_block (hb.block _ (by omega))⟩
theorem FsSt.drew{W0 wr:N}{s0 n:Nat}{nx:Nat->List Nat}{s pz:Nat->Nat}{k q kk:Nat}(h:FsSt W0 wr s0 n nx s pz k q kk):FsSt W0 wr.drew s0 n nx s pz k q kk:=⟨h.below.drew,h.size,h.loops,h.sets⟩
theorem FsSt.putSets{W0 wr:N}{s0 n:Nat}{nx:Nat->List Nat}{s pz:Nat->Nat}{k:Nat}(h:FsSt W0 wr s0 n nx s pz k 0 k):FsSt W0 (wr.setCell ⟨s0+1,pz k,Z⟩ (.int W ((Bj s pz (pz k) k ||| s k:Nat):Int))) s0 n nx s pz k 0 (k+1):=by
 refine⟨h.below.setCell (by show s0<=s0+1;omega) _,by simpa using h.size,h.loops.setOther (by show s0≠s0+1;omega) _,(h.sets.set (pz k) _).congr fun p _=>?_⟩;by_cases e:p=pz k
 .subst e;simp[Bj]
 .rw[ak e];simp[Bj,Ne.symm e]
theorem FsSt.next{W0 wr:N}{s0 n:Nat}{nx:Nat->List Nat}{s pz:Nat->Nat}{k kk:Nat}(h:FsSt W0 wr s0 n nx s pz k (nx k).length kk):FsSt W0 wr s0 n nx s pz (k+1) 0 kk:=
 ⟨h.below,h.size,h.loops.congr fun p _=>by rw[SN],h.sets⟩
theorem FsSt.no{W0 wr:N}{s0 n:Nat}{nx:Nat->List Nat}{s pz:Nat->Nat}{k q kk:Nat}(h:FsSt W0 wr s0 n nx s pz k q kk)(hp:pz ((nx k).getD q 0)≠pz k):FsSt W0 wr s0 n nx s pz k (q+1) kk:=
 ⟨h.below,h.size,h.loops.congr fun p _=>by rw[SO hp],h.sets⟩
theorem FsSt.yes{W0 wr:N}{s0 n:Nat}{nx:Nat->List Nat}{s pz:Nat->Nat}{k q kk:Nat}(h:FsSt W0 wr s0 n nx s pz k q kk)(hq:q<(nx k).length)(hp:pz ((nx k).getD q 0)=pz k):FsSt W0 (wr.setCell ⟨s0,pz k,Z⟩ (.bool true)) s0 n nx s pz k (q+1) kk:=by
 refine⟨h.below.setCell (qB _) _,by simpa using h.size,(h.loops.set (pz k) _).congr fun p _=>?_,h.sets.setOther (by show s0+1≠s0;omega) _⟩;rw[SP hq hp];by_cases e:p=pz k
 .rw[aj e,aj e]
 .rw[ak e,ak e]
theorem Q1(W0:N)(n:Nat)(nx:Nat->List Nat)(s pz:Nat->Nat):FsSt W0 ((W0.alloc (T (madeCells #[ZZ Q] n) 4)).alloc (T (madeCells #[I W 0] n) 3)) W0.heap.size n nx s pz 0 0 0:=by
 refine⟨(ai).alloc (by simp) _,by simp,?_,?_⟩
 .exact ((eL W0 (.bool Q) n 4).alloc _).congr fun p _=>by rw[SQ]
 .have:=eL (W0.alloc (T (madeCells #[ZZ Q] n) 4)) (.int W 0) n 3;rw[fp]at this;exact this
theorem LL(so no bo:Option Addr)(sc nc bc B:Nat)(g:Gr)(pz:Nat->Nat)(w:N)(hz:GrLe g)(hV:GraphV w (.slice so g.spots.length sc) (.slice no g.next.length nc) (.slice bo g.sets.length bc) g)(hok:GOk g)(hP:w.rowIs B 3 g.spots.length (Bb pz))(hpz:∀x,x<g.spots.length->pz x<g.spots.length) :
  M qA 41 #[G #[.slice so g.spots.length sc,.int W g.init,.slice no g.next.length nc,.slice bo g.sets.length bc,.int W g.many],X (Y ⟨B,0,Z⟩) g.spots.length g.spots.length] w fun e w'=>∃Bf,e=O (X (Y ⟨Bf,0,Z⟩) g.spots.length g.spots.length)/\U w.heap.size w w'/\V (w.heap.size<=Bf/\w'.rowIs Bf 4 g.spots.length (fun x=>.bool (Ed g pz x))):=by
 have hn:=hok.head.n;have hmk1:=run_make_row' (P:=qA) 111 4 (.bool Q) 1 fS Gp rfl .i64 .i64 g.spots.length (by omega) (by omega);have hmk2:=run_make_row' (P:=qA) 43 3 (.int W 0) 8 aD BS rfl .i64 .i64 g.spots.length (by omega) (by omega);obtain⟨W0,hW0⟩:∃W0,W0=w.alloc (T #[.slice so g.spots.length sc,.int W g.init,.slice no g.next.length nc,.slice bo g.sets.length bc,.int W g.many] 45):=⟨_,rfl⟩;have hA:U w.heap.size w W0:=by rw[hW0];exact ai
 have hs0:W0.heap.size=w.heap.size+1:=by rw[hW0];simp
 have HD:V (∀w1,U (w.heap.size+1) W0 w1->U w.heap.size w w1/\w1.rowIs B 3 g.spots.length (Bb pz)/\w1.cell? ⟨w.heap.size,0,Z⟩=Y (.slice so g.spots.length sc)/\w1.cell? ⟨w.heap.size,1,Z⟩=Y (.int W g.init)/\w1.cell? ⟨w.heap.size,2,Z⟩=Y (.slice no g.next.length nc)/\w1.cell? ⟨w.heap.size,3,Z⟩=Y (.slice bo g.sets.length bc)/\w1.cell? ⟨w.heap.size,4,Z⟩=Y (.int W g.many)):=fun w1 hb=>by
  have c:∀j,w1.cell? ⟨w.heap.size,j,Z⟩=W0.cell? ⟨w.heap.size,j,Z⟩:=fun j=>hb.cell (p:=⟨w.heap.size,j,Z⟩) (by show w.heap.size<w.heap.size+1;omega);have hb2:=hA.trans (hb.mono (by omega));refine⟨hb2,hP.of_block (hb2.block B hP.lt),(c _).trans ?_,(c _).trans ?_,(c _).trans ?_,(c _).trans ?_,(c _).trans ?_⟩<;>(rw[hW0];simp[go_sem])
 have HRow:V (ET w no g.spots.length (nxt g)):=I1 hok hV;have HNX:V (∀i,i<g.spots.length->∀k∈nxt g i,k<g.spots.length):=fun i hi k hk=>FF hok hi hk;have HXL:V (∀i,i<g.spots.length->(nxt g i).length<=140737488355328):=fun i hi=>by rw[EF];exact hz.rows i (by rw[hok.head.next];exact hi)
 have HSet:V (∀k,k<g.spots.length->∃b off,bo=Y ⟨b,off,Z⟩/\b<w.heap.size/\w.cell? ⟨b,off+k,Z⟩=Y (.int W (sN g k:Int))):=fun k hk=>by
  obtain⟨b,off,e,hb,hc⟩:=hV.sets.num (i:=k) (by rw[hok.head.sets];exact hk);exact⟨b,off,e,hb,by rw[hc,(hok.sN hk).1]⟩
 have HOr:V (∀k,k<g.spots.length->bits BinOp.or aY (Bj (sN g) pz (pz k) k:Int) (sN g k:Int)=((Bj (sN g) pz (pz k) k ||| sN g k:Nat):Int)):=fun k hk=>by
  have h6:=Hj hok.mN.1;have h1:=Ja (p:=pz k) (pz:=pz) (fun x hx=>(hok.sN hx).2) k (by omega);have h2:=(hok.sN hk).2;exact Mj _ (by omega) _ (by omega)
 have HAll:V (∀w1,M qA 72 #[G #[.slice so g.spots.length sc,.int W g.init,.slice no g.next.length nc,.slice bo g.sets.length bc,.int W g.many]] w1 fun e w'=>e=O (.int W ((2^mN g-1:Nat):Int))/\U w1.heap.size w1 w'):=fun w1=>by
  have:=IV so no bo g.spots.length sc g.next.length nc g.sets.length bc g w1 hok.head.many0 hok.head.many6;rw[hok.mN.2.2]at this;exact this
 have HFair:V (∀x,Ed g pz x=(lpB (nxt g) pz g.spots.length 0 (pz x)&&decide (Bj (sN g) pz (pz x) g.spots.length=2^mN g-1))):=QZ hok pz;have HPz:V (∀x,x<g.spots.length->pz x<g.spots.length):=hpz;have H0:V (FsSt W0 ((W0.alloc (T (madeCells #[ZZ Q] g.spots.length) 4)).alloc (T (madeCells #[I W 0] g.spots.length) 3)) (w.heap.size+1) g.spots.length (nxt g) (sN g) pz 0 0 0):=by rw[<-hs0];exact Q1 W0 _ _ _ _
 have hgn:=hok.head.next;generalize Ed g pz=FB at *;generalize nxt g=nx at *;generalize sN g=s at *;generalize 2^mN g-1=tp at *;rw[hgn]at hW0 HD HAll⊢;have hgs:=hok.head.sets;rw[hgs]at hW0 HD HAll⊢;clear hV hok hz hP hpz hgn hgs hA;generalize g.spots.length=n at *;generalize g.init=gi at *;generalize g.many=gm at *
 go_enter Tryz.func41,Tryz.ntmps41;go_wp2_with fail
 rw[<-hW0];clear hW0;generalize(W0.alloc (T (madeCells #[ZZ Q] n) 4)).alloc (T (madeCells #[I W 0] n) 3)=W3 at H0⊢;clear hs0;go_loopw [22] (fun i wr=>∃k:Nat,k<=n/\i=.int W k/\V (FsSt W0 wr (w.heap.size+1) n nx s pz k 0 k)) (fun i _=>n-(intOf i).toNat)
 case atStart=>exact⟨0,qJ _,rfl,H0⟩
 case round=>
  obtain⟨k,hk,rfl,HK⟩:=hrel;obtain⟨hbw,hrB,d0,d1,d2,d3,d4⟩:=HD.out wr HK.out.below;by_cases hlt:k<n
  .have hpk:=HPz.out k hlt;have e0:wr.cell? ⟨B,k,Z⟩=Y (.int W (pz k:Int)):=hrB.cell hlt;have e1:wr.cell? ⟨w.heap.size+1+1,pz k,Z⟩=Y (.int W (Bj s pz (pz k) k:Int)):=HK.out.sets.cell hpk;have f1:=HK.out.sets.frozen (pz k);obtain⟨sb,soff,rfl,hsb,hcs⟩:=HSet.out k hlt;have e2:=(hbw.cell (p:=⟨sb,soff+k,Z⟩) hsb).trans hcs;have hor:=HOr.out k hlt;have H5:V (FsSt W0 (wr.setCell ⟨w.heap.size+1+1,pz k,Z⟩ (.int W ((Bj s pz (pz k) k ||| s k:Nat):Int))).drew (w.heap.size+1) n nx s pz k 0 (k+1)):=HK.out.putSets.drew;rw[<-hor]at H5;obtain⟨p,hp⟩:∃p,p=pz k:=⟨_,rfl⟩;have HPk:V (p=pz k):=hp;rw[<-hp]at hpk e0 e1 f1 H5;clear hor hp hcs HK;generalize Bj s pz p k=x at *;generalize s k=y at *
   go_upto_region 6 with fail
   go_region
   generalize(wr.setCell ⟨w.heap.size+1+1,p,Z⟩ (.int W (bits BinOp.or aY (x:Int) (y:Int)))).drew=w5 at H5⊢;obtain⟨hbw5,hrB5,g0,g1,g2,g3,g4⟩:=HD.out w5 H5.out.below;obtain⟨nb,noff,rfl,hnb,uo,uc,hcu0,hnv0⟩:=HRow.out k hlt;have hcu:=(hbw5.cell (p:=⟨nb,noff+k,Z⟩) hnb).trans hcu0;have hxl:=HXL.out k hlt;have HNv:V (Ay w (.slice uo (nx k).length uc) (nx k)):=hnv0;obtain⟨ln,hln⟩:∃ln,ln=(nx k).length:=⟨_,rfl⟩;have HLN:V (ln=(nx k).length):=hln;rw[<-hln]at hcu hxl HNv;clear hcu0 hnv0 hln d0 d1 d2 d3 d4 e0 e1 e2 f1 hrB hbw;go_wp2_with fail
   generalize wr=wo at *
   go_loopw [44] (fun i wr=>∃q:Nat,q<=ln/\i=.int W q/\V (FsSt W0 wr (w.heap.size+1) n nx s pz k q (k+1))) (fun i _=>ln-(intOf i).toNat)
   case atStart=>exact⟨0,qJ _,rfl,H5⟩
   case round=>
    obtain⟨q,hq,rfl,HQ⟩:=hrel;obtain⟨hbwq,hrBq,_⟩:=HD.out wr HQ.out.below;by_cases hlq:q<ln
    .have hql:q<(nx k).length:=by rw[<-HLN.out];exact hlq
     obtain⟨ub,uoff,rfl,hub,hcy0⟩:=(HNv.out.below hbwq).num (i:=q) hql;have hyn:(nx k).getD q 0<n:=HNX.out k hlt _ (by rw[qC,qH hql];exact qR _);have e5:wr.cell? ⟨B,(nx k).getD q 0,Z⟩=Y (.int W (pz ((nx k).getD q 0):Int)):=hrBq.cell hyn;have HYes:V (pz ((nx k).getD q 0)=p->FsSt W0 (wr.setCell ⟨w.heap.size+1,p,Z⟩ (.bool true)) (w.heap.size+1) n nx s pz k (q+1) (k+1)):=fun h=>by
      rw[HPk.out]at h⊢;exact HQ.out.yes hql h
     have HNo:V (pz ((nx k).getD q 0)≠p->FsSt W0 wr (w.heap.size+1) n nx s pz k (q+1) (k+1)):=fun h=>HQ.out.no (by rw[<-HPk.out];exact h);have l1:=HQ.out.loops.cell hpk;have l2:=HQ.out.loops.frozen p;generalize lpB nx pz k q p=old at *;generalize(nx k).getD q 0=y2 at *;generalize pz y2=p2 at *;clear HQ hrBq hbwq
     by_cases hpp:p2=p
     .subst hpp;have HN:=HYes.out rfl;have HN':V (FsSt W0 (wr.setCell ⟨w.heap.size+1,p2,Z⟩ (.bool true)) (w.heap.size+1) n nx s pz k (q+1) (k+1)):=HN;clear HN HYes HNo;go_wp2_with fail
      go_roundw
      case rel=>exact⟨q+1,hlq,by go_num,HN'⟩
      case measure=>simp[intOf];omega
     .have hpp2:¬(p2:Int)=(p:Int):=by omega
      have HN':V (FsSt W0 wr (w.heap.size+1) n nx s pz k (q+1) (k+1)):=HNo.out hpp;clear HYes HNo;go_wp2_with fail
      go_roundw
      case rel=>exact⟨q+1,hlq,by go_num,HN'⟩
      case measure=>simp[intOf];omega
    .have HN':V (FsSt W0 wr (w.heap.size+1) n nx s pz (k+1) 0 (k+1)):=by
      have h:=HQ.out;have e:q=(nx k).length:=by rw[<-HLN.out];omega
      rw[e]at h;exact h.next
     clear HQ hrBq hbwq;go_wp2_with fail
     go_roundw
     case rel=>exact⟨k+1,hlt,by go_num,HN'⟩
     case measure=>simp[intOf];omega
  .obtain rfl:k=n:=by omega
   have HE:V (FsSt W0 wr (w.heap.size+1) k nx s pz k 0 k):=HK;have hsz:=HK.out.size;have hr0:=eL wr (.bool Q) k 4;have HR0:V ((wr.alloc (T (madeCells #[ZZ Q] k) 4)).rowIs wr.heap.size 4 k (fun j=>.bool (if j<0 then FB j else Q))):=hr0.congr fun j _=>by simp
   have HB0:V (U wr.heap.size wr (wr.alloc (T (madeCells #[ZZ Q] k) 4))):=ai;clear hr0 d0 d1 d2 d3 d4 hrB HK;go_wp2_with fail
   generalize wr.alloc (T (madeCells #[ZZ Q] k) 4)=W5 at HR0 HB0⊢;generalize wr=wE at *
   go_loopw [64] (fun i wr=>∃q:Nat,q<=k/\i=.int W q/\V (wr.rowIs wE.heap.size 4 k (fun j=>.bool (if j<q then FB j else Q)))/\V (U wE.heap.size wE wr)) (fun i _=>k-(intOf i).toNat)
   case atStart=>exact⟨0,qJ _,rfl,HR0,HB0⟩
   case round=>
    obtain⟨q,hq,rfl,HQ,HBq⟩:=hrel;have hFS:=HE.out.later (HBq.out.mono hsz);obtain⟨hbwq,hrBq,d0,d1,d2,d3,d4⟩:=HD.out wr hFS.below;by_cases hlq:q<k
    .have hpq:=HPz.out q hlq;have e0:wr.cell? ⟨B,q,Z⟩=Y (.int W (pz q:Int)):=hrBq.cell hlq;have e1:wr.cell? ⟨w.heap.size+1,pz q,Z⟩=Y (.bool (lpB nx pz k 0 (pz q))):=hFS.loops.cell hpq;have e2:wr.cell? ⟨w.heap.size+1+1,pz q,Z⟩=Y (.int W (Bj s pz (pz q) k:Int)):=hFS.sets.cell hpq;have l1:=HQ.out.cell hlq;have l2:=HQ.out.frozen q;have HF:V (FB q=(lpB nx pz k 0 (pz q)&&decide (Bj s pz (pz q) k=tp))):=HFair.out q;have HN:V (∀w9,w9.rowIs wE.heap.size 4 k (fun j=>.bool (if j<q then FB j else Q))->U wE.heap.size wE w9->(w9.setCell ⟨wE.heap.size,q,Z⟩ (.bool (FB q))).rowIs wE.heap.size 4 k (fun j=>.bool (if j<q+1 then FB j else Q))/\U wE.heap.size wE (w9.setCell ⟨wE.heap.size,q,Z⟩ (.bool (FB q)))):=fun w9 h hb=>by
      refine⟨(h.set q (.bool (FB q))).congr fun j _=>?_,hb.setCell (qB _) _⟩;by_cases hj:j=q
      .subst hj;simp
      .rw[ak hj];by_cases hjq:j<q
       .rw[aj hjq,aj (by omega)]
       .rw[ak hjq,ak (by omega)]
     have hwl:wE.heap.size<wr.heap.size:=HQ.out.lt;generalize(if q<q then FB q else Q)=old at *
     generalize pz q=p at *;generalize Bj s pz p k=x at *
     cases hb:lpB nx pz k 0 p with
     |false=>
      rw[hb]at e1 HF;have HFq:V (FB q=Q):=HF.out.trans (by simp);rw[HFq.out]at HN;clear hFS HF hb;go_upto_region 18 with fail
      go_region
      go_wp2_with fail
      have HX:=HN.out wr HQ.out HBq.out;have HX1:V ((wr.setCell ⟨wE.heap.size,q,Z⟩ (.bool Q)).drew.rowIs wE.heap.size 4 k (fun j=>.bool (if j<q+1 then FB j else Q))):=HX.1;have HX2:V (U wE.heap.size wE (wr.setCell ⟨wE.heap.size,q,Z⟩ (.bool Q)).drew):=HX.2.drew;go_roundw
      case rel=>exact⟨q+1,hlq,by go_num,HX1,HX2⟩
      case measure=>simp[intOf];omega
     |true=>
      rw[hb]at e1 HF;have HFq:V (FB q=decide (x=tp)):=HF.out.trans (by simp);have hS:∀w',U wE.heap.size wr w'->w'.cell? ⟨w.heap.size,0,Z⟩=Y (X so k sc)/\w'.cell? ⟨w.heap.size,1,Z⟩=Y (.int W gi)/\w'.cell? ⟨w.heap.size,2,Z⟩=Y (X no k nc)/\w'.cell? ⟨w.heap.size,3,Z⟩=Y (X bo k bc)/\w'.cell? ⟨w.heap.size,4,Z⟩=Y (.int W gm)/\w'.cell? ⟨w.heap.size+1,p,Z⟩=Y (.bool true)/\w'.cell? ⟨w.heap.size+1+1,p,Z⟩=Y (.int W (x:Int)):=fun w' hb=>by
       have c:∀b j,b<wE.heap.size->w'.cell? ⟨b,j,Z⟩=wr.cell? ⟨b,j,Z⟩:=fun b j h=>hb.cell (p:=⟨b,j,Z⟩) h;exact⟨(c _ _ (by omega)).trans d0,(c _ _ (by omega)).trans d1,(c _ _ (by omega)).trans d2,(c _ _ (by omega)).trans d3,(c _ _ (by omega)).trans d4,(c _ _ (by omega)).trans e1,(c _ _ (by omega)).trans e2⟩
      have hal:=HAll.out wr.drew;clear hFS HF hb;go_upto_region 18 with fail
      go_region_held3 (fun w'=>w'.cell? ⟨w.heap.size,0,Z⟩=Y (X so k sc)/\w'.cell? ⟨w.heap.size,1,Z⟩=Y (.int W gi)/\w'.cell? ⟨w.heap.size,2,Z⟩=Y (X no k nc)/\w'.cell? ⟨w.heap.size,3,Z⟩=Y (X bo k bc)/\w'.cell? ⟨w.heap.size,4,Z⟩=Y (.int W gm)/\w'.cell? ⟨w.heap.size+1,p,Z⟩=Y (.bool true)/\w'.cell? ⟨w.heap.size+1+1,p,Z⟩=Y (.int W (x:Int)))
       (exact hS _ (by first|exact(qD _ _).drew|exact qD _ _|exact hbx|exact hbx.setCell (qB _) _))
       ((go_at_call 72;refine hal.mono ?_;rintro e w4 ⟨rfl,hb4⟩;have hbx:U wE.heap.size wr w4:=((qD _ _).drew).trans (hb4.mono (Nat.le_of_lt hwl));have l14:=(hb4.cell (p:=⟨wE.heap.size,q,Z⟩) hwl).trans l1;have l24:=(hb4.frozen (p:=⟨wE.heap.size,q,Z⟩) hwl).trans l2))
      go_wp2_with fail
      have e9:((x:Int) == (tp:Int))=FB q:=by
       rw[HFq.out];show decide ((x:Int)=(tp:Int))=_;rw[decide_eq_decide];omega
      have HX:=HN.out w4 (EJ HQ.out ⟨hb4.os,hb4.tape,hb4.output,hb4.size,hb4.block⟩) (HBq.out.trans hbx);rw[<-e9]at HX;have HX1:V _:=HX.1;have HX2:V _:=HX.2;go_roundw
      case rel=>exact⟨q+1,hlq,by go_num,HX1,HX2⟩
      case measure=>simp[intOf];omega
    .obtain rfl:q=k:=by omega
     have HR:V (wr.rowIs wE.heap.size 4 q (fun x=>.bool (FB x))):=HQ.out.congr fun j hj=>by rw[aj hj]
     have hle:w.heap.size<=wE.heap.size:=by omega
     clear hFS;go_wp2_with fail
     go_ret;exact⟨_,rfl,hbwq,hle,HR.out⟩
theorem PM{w:N}{bo:Option Addr}{bn bc:Nat}{l:List Bool}(h:BoolsV w (X bo bn bc) l){i:Nat}(hi:i<l.length):∃b off,bo=Y ⟨b,off,Z⟩/\b<w.heap.size/\w.cell? ⟨b,off+i,Z⟩=Y (.bool (l.getD i Q)):=by
 obtain⟨ao,cap,e,hr⟩:=h;obtain⟨b,off,ea,hb,hc⟩:=hr (fun h=>by rw[h]at hi;simp at hi);injection e with e1 e2 e3;exact⟨b,off,e1.trans ea,hb,hc i hi⟩
theorem Mut.lt{g:Gr}(hg:GOk g){x y:Nat}(hx:x<g.spots.length)(h:Mut g x y):y<g.spots.length:=h.1.lt (fun _ hi _ hk=>FF hg hi hk) hx
def DX(g:Gr)(pz:Nat->Nat):Prop:=∀x,x<g.spots.length->E2 (nxt g) x (pz x:Int)
theorem DX.iff{g:Gr}{pz:Nat->Nat}(h:DX g pz){x y:Nat}(hx:x<g.spots.length)(hy:y<g.spots.length):pz x=pz y↔Mut g x y:=by
 obtain⟨z,h1,h2,h3,h4⟩:=h x hx;obtain⟨z',g1,g2,g3,g4⟩:=h y hy;constructor
 .intro e;have:z=z':=by omega
  subst this;exact⟨h2.trans g3,g2.trans h3⟩
 .rintro ⟨a,b⟩;have e1:=h4 z' (a.trans g2) (g3.trans b);have e2:=g4 z (b.trans h2) (h3.trans a);omega
theorem DX.le{g:Gr}{pz:Nat->Nat}(h:DX g pz){x:Nat}(hx:x<g.spots.length):pz x<=x:=by
 obtain⟨z,h1,h2,h3,h4⟩:=h x hx;have:=h4 x .stay .stay;omega
theorem Cr.pz{g:Gr}{pt:Nat->Int}(h:Cr g pt):DX g (fun x=>(pt x).toNat)/\∀x,x<g.spots.length->pt x=((pt x).toNat:Int):=by
 have h1:∀x,x<g.spots.length->pt x=((pt x).toNat:Int):=fun x hx=>by
  obtain⟨z,h1,_⟩:=h x hx;omega
 exact⟨fun x hx=>by have:=h x hx;rw[h1 x hx]at this;exact this,h1⟩
open Classical in
theorem LK{g:Gr}(hg:GOk g){pz:Nat->Nat}(h:DX g pz){x:Nat}(hx:x<g.spots.length):Ed g pz x=decide (BK g x):=by
 unfold Ed;rw[decide_eq_decide];constructor
 .rintro ⟨⟨a,ha,hp,b,hb,hq⟩,h2⟩;have hbl:=FF hg ha hb;refine⟨⟨a,b,(h.iff hx ha).1 hp.symm,(h.iff hx hbl).1 hq.symm,hb⟩,fun i hi=>?_⟩;obtain⟨y,hy,h3,h4⟩:=h2 i hi;exact⟨y,(h.iff hx hy).1 h3.symm,h4⟩
 .rintro ⟨⟨a,b,h1,h2,h3⟩,h4⟩;have hal:=h1.lt hg hx;have hbl:=h2.lt hg hx;refine⟨⟨a,hal,((h.iff hx hal).2 h1).symm,b,h3,((h.iff hx hbl).2 h2).symm⟩,fun i hi=>?_⟩;obtain⟨y,hy,h5⟩:=h4 i hi;have hyl:=hy.lt hg hx;exact⟨y,hyl,((h.iff hx hyl).2 hy).symm,h5⟩
theorem Qf{p:Nat->Bool}{n k:Nat}(hk:k<n)(h:p k=true)(hno:∀j,j<k->p j=Q):(aE n).find? p=Y k:=by
 rw[List.find?_eq_some_iff_append];refine⟨h,aE k,(aE (n-k-1)).map (· + (k+1)),?_,fun a ha=>by rw[hno a (vA.1 ha)];rfl⟩;apply List.ext_getElem?
 intro i;by_cases h1:i<k
 .rw[List.getElem?_append_left (by simpa using h1),jX (by omega),jX h1]
 .rw[List.getElem?_append_right (by simpa using h1),List.length_range];by_cases h2:i=k
  .subst h2;rw[jX hk];simp
  .obtain ⟨j,rfl⟩:∃j,i=k+(j+1):=⟨i-k-1,by omega⟩;rw[show k+(j+1)-k=j+1 by omega,List.getElem?_cons_succ,xB];by_cases h3:k+(j+1)<n
   .rw[jX h3,jX (by omega)];simp;omega
   .rw[vF (by simpa using h3),vF (by simp;omega)];rfl
theorem Qg{p:Nat->Bool}{n:Nat}(hno:∀j,j<n->p j=Q):(aE n).find? p=none:=by
 rw[zQ];intro a ha;rw[hno a (vA.1 ha)];simp
open Classical in
theorem Qb{g:Gr}{k:Nat}(hk:k<g.spots.length)(h:DD g k/\BK g k)(hno:∀j,j<k->¬(DD g j/\BK g j)):Dl g=(k:Int)/\Ao g=0:=by
 have e:Fh g=Y k:=Qf hk (decide_eq_true h) (fun j hj=>decide_eq_false (hno j hj));unfold Dl Ao;rw[e];exact⟨rfl,rfl⟩
open Classical in
theorem LM{g:Gr}(hno:∀j,j<g.spots.length->¬(DD g j/\BK g j)):Dl g=0/\Ao g=11:=by
 have e:Fh g=none:=Qg (fun j hj=>decide_eq_false (hno j hj));unfold Dl Ao;rw[e];exact⟨rfl,rfl⟩
theorem VF(so no bo:Option Addr)(sc nc bc:Nat)(g:Gr)(w:N)(hz:GrLe g)(hV:GraphV w (.slice so g.spots.length sc) (.slice no g.next.length nc) (.slice bo g.sets.length bc) g)(hc:CM g=0) :
  M qA 105 #[G #[.slice so g.spots.length sc,.int W g.init,.slice no g.next.length nc,.slice bo g.sets.length bc,.int W g.many]] w fun e w'=>e=O (E #[I W (Dl g),.int W (Ao g)])/\U w.heap.size w w':=by
 classical
 have hok:=Gj hc;obtain⟨W0,hW0⟩:∃W0,W0=w.alloc (T #[.slice so g.spots.length sc,.int W g.init,.slice no g.next.length nc,.slice bo g.sets.length bc,.int W g.many] 45):=⟨_,rfl⟩;have hA:U w.heap.size w W0:=by rw[hW0];exact ai
 have hs0:w.heap.size<W0.heap.size:=by rw[hW0];simp
 have hD:∀w1,U W0.heap.size W0 w1->w1.cell? ⟨w.heap.size,0,Z⟩=Y (.slice so g.spots.length sc)/\w1.cell? ⟨w.heap.size,1,Z⟩=Y (.int W g.init)/\w1.cell? ⟨w.heap.size,2,Z⟩=Y (.slice no g.next.length nc)/\w1.cell? ⟨w.heap.size,3,Z⟩=Y (.slice bo g.sets.length bc)/\w1.cell? ⟨w.heap.size,4,Z⟩=Y (.int W g.many):=fun w1 hb=>by
  have c:∀j,w1.cell? ⟨w.heap.size,j,Z⟩=W0.cell? ⟨w.heap.size,j,Z⟩:=fun j=>hb.cell (p:=⟨w.heap.size,j,Z⟩) hs0;refine⟨(c _).trans ?_,(c _).trans ?_,(c _).trans ?_,(c _).trans ?_,(c _).trans ?_⟩<;>(rw[hW0];simp[go_sem])
 have HRe:V (∀x,x<g.spots.length->((Dr g).getD x Q=true↔DD g x)):=fun x hx=>by
  unfold Dr;rw[NA hx,decide_eq_true_iff];rfl
 have HRl:V ((Dr g).length=g.spots.length):=NB _ _ _;have hre:=Vg so no bo sc nc bc g W0 hz (hV.below hA) hc;have HPa:V (∀w1,U W0.heap.size W0 w1->M qA 71 #[G #[.slice so g.spots.length sc,.int W g.init,.slice no g.next.length nc,.slice bo g.sets.length bc,.int W g.many]] w1 fun e w'=>∃B,e=O (X (Y ⟨B,0,Z⟩) g.spots.length g.spots.length)/\U w1.heap.size w1 w'/\V (∃pt,w1.heap.size<=B/\w'.rowIs B 3 g.spots.length (B5 pt)/\Cr g pt)):=fun w1 hb=>Mr so no bo sc nc bc g w1 hz ((hV.below hA).below hb) hok;have HFs:V (∀w1 B,U W0.heap.size W0 w1->(∃pt,w1.rowIs B 3 g.spots.length (B5 pt)/\Cr g pt)->M qA 41 #[G #[.slice so g.spots.length sc,.int W g.init,.slice no g.next.length nc,.slice bo g.sets.length bc,.int W g.many],X (Y ⟨B,0,Z⟩) g.spots.length g.spots.length] w1 fun e w'=>∃Bf,e=O (X (Y ⟨Bf,0,Z⟩) g.spots.length g.spots.length)/\U w1.heap.size w1 w'/\V (w'.rowIs Bf 4 g.spots.length (fun x=>.bool (decide (BK g x))))):=fun w1 B hb ⟨pt,h1,h2⟩=>by
  obtain⟨h3,h4⟩:=h2.pz;have h5:w1.rowIs B 3 g.spots.length (Bb fun x=>(pt x).toNat):=h1.congr fun x hx=>by unfold B5 Bb;rw[<-h4 x hx]
  refine(LL so no bo sc nc bc B g _ w1 hz ((hV.below hA).below hb) hok h5 (fun x hx=>by have:=h3.le hx;show(pt x).toNat<_;have:(pt x).toNat<=x:=this;omega)).mono fun e w' ⟨Bf,e1,e2,e3⟩=>⟨Bf,e1,e2,?_⟩;exact e3.out.2.congr fun x hx=>by rw[LK hok h3 hx]
 have HAt:V (∀k,k<g.spots.length->DD g k/\BK g k->(∀j,j<k->¬(DD g j/\BK g j))->Dl g=(k:Int)/\Ao g=0):=fun k hk h hno=>Qb hk h hno;have HNo:V ((∀j,j<g.spots.length->¬(DD g j/\BK g j))->Dl g=0/\Ao g=11):=LM;have hn:=hok.head.n;rw[hW0]at hre;have HW0:V (W0=w.alloc (T #[.slice so g.spots.length sc,.int W g.init,.slice no g.next.length nc,.slice bo g.sets.length bc,.int W g.many] 45)):=hW0;clear hV hz hc hok hW0;generalize DD g=RX at *;generalize BK g=FX at *;generalize Dl g=fv at *;generalize Ao g=fc at *;generalize Dr g=RL at *
 generalize Cr g=PO at *;generalize g.spots.length=n at *;generalize g.next.length=nn at *;generalize g.sets.length=bn at *;generalize g.init=gi at *;generalize g.many=gm at *
 go_enter Tryz.func105,Tryz.ntmps105;go_upto_region 4 with(go_at_call 135;refine hre.mono ?_;rintro e w1 ⟨vo,vc,rfl,hb1,HRb⟩;rw[<-HW0.out]at hb1)
 have hpa:=HPa.out w1.drew hb1.drew;go_region_held3 (fun w'=>w'.cell? ⟨w.heap.size,0,Z⟩=Y (X so n sc)/\w'.cell? ⟨w.heap.size,1,Z⟩=Y (.int W gi)/\w'.cell? ⟨w.heap.size,2,Z⟩=Y (X no nn nc)/\w'.cell? ⟨w.heap.size,3,Z⟩=Y (X bo bn bc)/\w'.cell? ⟨w.heap.size,4,Z⟩=Y (.int W gm))
  (exact hD _ (by first|exact hb1.drew|exact hb1|exact hb12|exact hb13))
  (first|(go_at_call 71;refine hpa.mono ?_;rintro e w2 ⟨B,rfl,hb2,HB⟩;have hb12:=hb1.trans ((C9 hb2).mono hb1.size);have hfs:=HFs.out w2 B hb12 (by obtain⟨pt,h1,h2,h3⟩:=HB.out;exact⟨pt,h2,h3⟩))|(go_at_call 41;refine hfs.mono ?_;rintro e w3 ⟨Bf,rfl,hb3,HF⟩;have hb13:=ae hb12 hb3))
 have HRb3:V (BoolsV w3 (X vo n vc) RL):=(HRb.out.below (C9 hb2)).below hb3;have hbw:U w.heap.size w w3:=ae hA hb13;clear HRb hb1 hb2 hb3 hb12 hb13 hpa hfs HB hD hre HPa HFs;go_wp2_with fail
 go_loopw [22] (fun i wr=>∃k:Nat,k<=n/\i=.int W k/\V (∀j,j<k->¬(RX j/\FX j))/\∃d,wr=w3.drewN d) (fun i _=>n-(intOf i).toNat)
 case atStart=>exact⟨0,qJ _,rfl,fun j hj=>by omega,0,rfl⟩
 case round=>
  obtain⟨k,hk,rfl,HK,d,rfl⟩:=hrel;have hbd:=fun q=>below_drewN hbw q;by_cases hlt:k<n
  .obtain ⟨rb,roff,rfl,hrb,e1⟩:=PM HRb3.out (i:=k) (by rw[HRl.out];exact hlt);have e2:=HF.out.cell hlt;have hr:=HRe.out k hlt;by_cases h1:RX k
   .rw[hr.2 h1]at e1;by_cases h2:FX k
    .rw[decide_eq_true h2]at e2;obtain⟨rfl,rfl⟩:=HAt.out k hlt ⟨h1,h2⟩ HK.out;go_wp2_with fail
     go_ret2;exact⟨rfl,hbd _⟩
    .rw[decide_eq_false h2]at e2;have HN:V (∀j,j<k+1->¬(RX j/\FX j)):=fun j hj=>by
      by_cases e:j=k
      .subst e;exact fun h=>h2 h.2
      .exact HK.out j (by omega)
     go_wp2_with fail
     go_roundw
     case rel=>exact⟨k+1,hlt,by go_num,HN,_,rfl⟩
     case measure=>simp[intOf];omega
   .have e3:RL.getD k Q=false:=by
     cases hx:RL.getD k Q with
     |false=>rfl
     |true=>exact absurd (hr.1 hx) h1
    rw[e3]at e1;have HN:V (∀j,j<k+1->¬(RX j/\FX j)):=fun j hj=>by
     by_cases e:j=k
     .subst e;exact fun h=>h1 h.1
     .exact HK.out j (by omega)
    go_wp2_with fail
    go_roundw
    case rel=>exact⟨k+1,hlt,by go_num,HN,_,rfl⟩
    case measure=>simp[intOf];omega
  .obtain rfl:k=n:=by omega
   obtain⟨rfl,rfl⟩:=HNo.out HK.out;go_wp2_with fail
   go_ret2;exact⟨rfl,hbd _⟩
open Go.Shelf Go.RowKit
def R7:Go.Shelf.Ren:=⟨fun|112=>74|n=>n,fun|28=>43|3=>3|4=>4|0=>0|n=>n,fun|n=>n⟩
theorem R6:Go.Proofs.Lays.n112 qA R7:={
 mixed:=by kernel_rfl
 f112:=gD.trans (congrArg Y (by kernel_rfl))
 t0:=Tryz.underlying0
 a0:=Tryz.isAgg0
 z0:=Tryz.sizeOf0
 v0:=Tryz.zeroValue0
 t3:=bI
 a3:=Tryz.isAgg3
 z3:=Tryz.sizeOf3
 v3:=Tryz.zeroValue3
 t4:=Tryz.underlying4
 a4:=Tryz.isAgg4
 z4:=Tryz.sizeOf4
 v4:=Tryz.zeroValue4
 t28:=aD
 a28:=Tryz.isAgg43
 z28:=Tryz.sizeOf43
 v28:=Tryz.zeroValue43}
open Go.Lib Go.Sort in
theorem slices_Reverse_int(blk off cap:Nat)(zs:List Int)(w:N)(hH:Holds (Value.int .i64) w blk off zs.toArray)(hsz:zs.length<=9223372036854775807) :
  M qA 74 #[X (Y ⟨blk,off,Z⟩) zs.length cap] w fun e w'=>e=O (E #[])/\∃n,w'=putRow (Value.int .i64) (Sort.ahead w n) blk off zs.reverse.toArray:=Any.slices_Reverse_int R6 blk off cap zs w hH hsz
open Go.Sort in
theorem Ub(g cap base:Nat)(l:List Nat)(w:N)(hz:l.length<=100000)(ho:w.ownsRow base 3 1 (X (Y ⟨g,0,Z⟩) l.length cap) l.length (AK l)) :
  M qA 74 #[X (Y ⟨g,0,Z⟩) l.length cap] w fun e w'=>e=O (E #[])/\w.grownBy w' (Y g)/\w'.ownsRow base 3 1 (X (Y ⟨g,0,Z⟩) l.length cap) l.length (AK l.reverse):=by
 obtain⟨zs,hzs⟩:∃zs:List Int,zs=l.map (fun x:Nat=>(x:Int)):=⟨_,rfl⟩;have hl:zs.length=l.length:=by rw[hzs];simp
 have e1:AK l=zs.map (Value.int .i64):=by rw[hzs,AK,kX];rfl
 have e2:AK l.reverse=zs.reverse.map (Value.int .i64):=by rw[hzs,AK,<-List.map_reverse,kX];rfl
 rw[e1]at ho;rw[e2];rw[<-hl]at ho hz⊢;obtain⟨g',cap',hv,hbg,hlt,hn,hm,hl2,hH⟩:=Lib.holds_of_ownsRow ho (by simp);injection hv with h1 h2 h3;injection h1 with h1;injection h1 with h1;subst h1 h3;refine(slices_Reverse_int g 0 cap zs w hH (by omega)).mono fun e w' ⟨he,q,hw⟩=>⟨he,?_,?_⟩
 .rw[hw];refine⟨rfl,rfl,rfl,by simp[putRow,mapBlock,Sort.ahead],fun k _ hne=>?_⟩;have:g≠k:=fun e=>hne (by rw[e]);simp[putRow,mapBlock,Sort.ahead,Array.getElem?_modify,this]
 .rw[hw];have h:=Lib.ownsRow_putRow (q:=q) (k:=zs.length) (ys:=zs.reverse) ho (by simp) (qB _);rw[qN (by simp)]at h;exact h
theorem Ua(ao:Option Addr)(c:Nat)(w:N) :
  M qA 74 #[X ao 0 c] w fun e w'=>e=O (E #[])/\w'=w:=by
 go_enter gD,Tryz.ntmps74;go_wp2_with fail
 go_loopw [2,3] (fun i j wr=>i=.int W 0/\j=.int W (-1)/\wr=w) (fun _ _ _=>0)
 case atStart=>exact⟨rfl,rfl,rfl⟩
 case round=>
  obtain⟨rfl,rfl,rfl⟩:=hrel;go_wp2_with fail
  go_end0
  exact⟨rfl,rfl⟩
structure WayOk(n:Nat)(ins want:Nat->Bool)(nx:Nat->List Nat)(bs l:List Nat):Prop where
 ne:l≠[]
 head:l.getD 0 0∈bs
 trail:Trail nx l
 last:want (l.getD (l.length-1) 0)=true
 ins:∀x∈l,ins x=true/\x<n
 len:l.length<=n
def DC(ins want:Nat->Bool)(nx:Nat->List Nat)(bs:List Nat):Prop:=∀f∈bs,ins f=true->∀x,Way (fun i=>(nx i).filter ins) f x->want x=Q
def Kc(n:Nat)(ins want:Nat->Bool)(nx:Nat->List Nat)(bs l:List Nat):Prop:=(l=[]/\DC ins want nx bs)\/WayOk n ins want nx bs l
theorem Through.noWay{n:Nat}{ins want:Nat->Bool}{nx:Nat->List Nat}{bs:List Nat}{L:Met}(h:Through ins want nx bs L L.length)(hl:LOk n ins nx bs L):DC ins want nx bs:=fun f hf hi x hx=>by
 obtain⟨h1,h2,h3⟩:=h.all hl;refine h3 x (Way.closed (S:=fun y=>y∈keys L) (fun y hy k hk=>?_) (h1 f hf hi) hx);obtain⟨h4,h5⟩:=yI.1 hk;exact h2 y hy k h4 h5
theorem Qy{L:Met}(h:(keys L).Nodup){i:Nat}(hi:i<L.length):DM L (L.getD i (0,0)).1=(L.getD i (0,0)).2:=by
 have hg:L.getD i (0,0)=L[i]:=by rw[qC,qH hi];rfl
 rw[hg];unfold DM;cases hf:L.find? (fun p=>decide (p.1=L[i].1))with
 |none=>
  have:=zQ.1 hf L[i] (qR hi);simp at this
 |some z=>
  have h1:=List.find?_some hf;have h2:=List.mem_of_find?_eq_some hf;obtain⟨j,hj,rfl⟩:=jB h2;simp only[decide_eq_true_eq]at h1;have hij:j=i:=by
   have e1:(keys L)[j]'(by rw[I8];exact hj)=(keys L)[i]'(by rw[I8];exact hi):=by simp[keys];exact h1
   have hp:=List.pairwise_iff_getElem.1 h;rcases Nat.lt_trichotomy j i with hlt|hlt|hlt
   .exact absurd e1 (hp j i _ _ hlt)
   .exact hlt
   .exact absurd e1.symm (hp i j _ _ hlt)
  subst hij;rfl
structure Bk(n:Nat)(ins want:Nat->Bool)(nx:Nat->List Nat)(bs:List Nat)(L:Met)(l:List Nat)(f:Int)(k:Nat):Prop where
 trail:Trail nx l
 mem:∀x∈l,x∈keys L
 last:l≠[]->want (l.getD (l.length-1) 0)=true
 next:(f=-1/\k=0/\l≠[]/\l.getD 0 0∈bs/\l.length<=L.length)\/∃i,k=i+1/\i<L.length/\f=((L.getD i (0,0)).1:Int)/\l.length+i+1<=L.length/\(l=[]->want (L.getD i (0,0)).1=true)/\(l≠[]->l.getD 0 0∈nx (L.getD i (0,0)).1)
theorem Bk.step{n:Nat}{ins want:Nat->Bool}{nx:Nat->List Nat}{bs:List Nat}{L:Met}{l:List Nat}{i:Nat}(hL:LOk n ins nx bs L)(h:Bk n ins want nx bs L l ((L.getD i (0,0)).1:Int) (i+1))(hi:i<L.length):∃k,k<i+1/\Bk n ins want nx bs L ((L.getD i (0,0)).1::l) (DM L (L.getD i (0,0)).1) k:=by
 have hn:l.length+i+1<=L.length/\(l=[]->want (L.getD i (0,0)).1=true)/\(l≠[]->l.getD 0 0∈nx (L.getD i (0,0)).1):=by
  rcases h.next with⟨h1,h2,_⟩|⟨j,h1,h2,h3,h4⟩
  .omega
  .have:j=i:=by omega
   subst this;exact h4
 obtain⟨h1,h2,h3⟩:=hn;rw[Qy hL.nodup hi];have htr:Trail nx ((L.getD i (0,0)).1::l):=by
  cases l with
  |nil=>trivial
  |cons a l=>exact⟨h3 (by simp),h.trail⟩
 have hme:∀x∈(L.getD i (0,0)).1::l,x∈keys L:=fun x hx=>by
  rcases qW.1 hx with rfl|hx
  .exact Gu hi
  .exact h.mem x hx
 have hla:(L.getD i (0,0)).1::l≠[]->want (((L.getD i (0,0)).1::l).getD (((L.getD i (0,0)).1::l).length-1) 0)=true:=fun _=>by
  cases l with
  |nil=>exact h2 rfl
  |cons a l=>
   have:=h.last (by simp);simpa using this
 rcases hL.src i hi with⟨e1,e2⟩|⟨j,hj,e1,e2⟩
 .exact ⟨0,by omega,htr,hme,hla,.inl ⟨e1,rfl,by simp,e2,by simp;omega⟩⟩
 .exact ⟨j+1,by omega,htr,hme,hla,.inr ⟨j,rfl,by omega,e1,by simp;omega,fun h=>by simp at h,fun _=>e2⟩⟩
theorem Bk.done{n:Nat}{ins want:Nat->Bool}{nx:Nat->List Nat}{bs:List Nat}{L:Met}{l:List Nat}{k:Nat}(hL:LOk n ins nx bs L)(h:Bk n ins want nx bs L l (-1) k):WayOk n ins want nx bs l:=by
 rcases h.next with⟨_,_,h1,h2,h3⟩|⟨i,_,_,h3,_⟩
 .exact ⟨h1,h2,h.trail,h.last h1,fun x hx=>⟨hL.ins x (h.mem x hx),hL.lt x (h.mem x hx)⟩,qI h3 hL.length⟩
 .omega
theorem N8(so no bo po:Option Addr)(sc nc bc pc:Nat)(g:Gr)(bs:List Nat)(fi fw:FuncId)(ci cw:Array C)(ins want:Nat->Bool)(w:N)(hg:GOk g)(hzn:∀i,i<g.spots.length->(g.next.getD i []).length<=140737488355328)
  (hV:GraphV w (.slice so g.spots.length sc) (.slice no g.next.length nc) (.slice bo g.sets.length bc) g) (hP:Ay w (.slice po bs.length pc) bs) (hbl:bs.length<=140737488355328) (hbs:∀x∈bs,x<g.spots.length)
  (hI:FnB w w.heap.size g.spots.length (.func (.func fi) #[] ci) ins) (hW:FnB w w.heap.size g.spots.length (.func (.func fw) #[] cw) want) :
  M qA 42 #[G #[.slice so g.spots.length sc,.int W g.init,.slice no g.next.length nc,.slice bo g.sets.length bc,.int W g.many],.slice po bs.length pc,.func (.func fi) #[] ci,.func (.func fw) #[] cw] w fun e w'=>∃vo vc q,e=O (X vo q vc)/\U w.heap.size w w'/\V (∃l,l.length=q/\Kc g.spots.length ins want (nxt g) bs l/\w'.ownsRow w.heap.size 3 1 (X vo q vc) q (AK l)):=by
 obtain⟨W0,hW0⟩:∃W0,W0=w.alloc (T #[.slice so g.spots.length sc,.int W g.init,.slice no g.next.length nc,.slice bo g.sets.length bc,.int W g.many] 45):=⟨_,rfl⟩;have hA:U w.heap.size w W0:=by rw[hW0];exact ai
 have fnb:∀{F:C} {p:Nat->Bool},FnB w w.heap.size g.spots.length F p->FnB W0 W0.heap.size g.spots.length F p:=fun{F p} h=>by
  obtain⟨fn,caps,h1,h2,h3⟩:=h;exact⟨fn,caps,h1,h2,fun w' hb q hq=>h3 w' (ae hA hb) q hq⟩
 have hlo:=L8 so no bo po sc nc bc pc g bs fi fw ci cw ins want W0 hg hzn (hV.below hA) (hP.below hA) hbl hbs (fnb hI) (fnb hW);have hn:=hg.head.n;obtain⟨i0,hi0,hz0,hz1,hz2⟩:=info_parts BS;clear hV hP hI hW fnb hzn;unfold GC at hlo;generalize nxt g=nx at *;generalize g.next.length=nn at *;generalize g.sets.length=bn at *
 generalize g.spots.length=n at *;generalize g.init=gi at *;generalize g.many=gm at *;subst hW0
 go_enter Tryz.func42,Tryz.ntmps42;go_wp2_with (go_at_call 73;refine hlo.mono ?_;rintro e w1 ⟨L,r,rfl,hb1,HC⟩)
 have hbw1:U w.heap.size w w1:=ae hA hb1;obtain⟨⟨D,hown,hcd⟩,hLok,hpost⟩:=HC.out;have hLn:=hLok.length;have HL:V (LOk n ins nx bs L):=hLok;have HCd:V (EQ D L):=hcd;have hwl:w.heap.size<w1.heap.size:=by have:=hb1.size;simp at this;omega
 have HOw:V (w1.ownsMap qA 3 (plainElem qA 3) (w.heap.size+1+2) L.length D):=by
  have:=hown;rw[fp]at this;exact this
 clear hown hcd hlo hb1 hA HC;rcases hpost with⟨rfl,hth⟩|⟨i,hi,rfl,hwi⟩
 .have HN:V (DC ins want nx bs):=hth.noWay hLok;clear hth hLok HL HCd HOw;go_loopg [9,11] 0 (fun _ f v wr=>f=.int W (-1)/\v=X Z 0 0/\wr=w1)
  case atStart=>exact⟨rfl,rfl,rfl⟩
  case round=>
   obtain⟨rfl,rfl,rfl⟩:=hrel;have hrv:=Ua Z 0 wr;go_wp2_with (go_at_call 74;refine hrv.mono ?_;rintro e w2 ⟨rfl,rfl⟩)
   go_ret;exact⟨_,_,_,rfl,hbw1,[],rfl,.inl ⟨rfl,HN.out⟩,aX _ _ _ _⟩
 .have HB0:V (Bk n ins want nx bs L [] ((L.getD i (0,0)).1:Int) (i+1)):=⟨trivial,fun x hx=>by simp at hx,fun h=>absurd rfl h,.inr ⟨i,rfl,hi,rfl,by simp;omega,fun _=>hwi,fun h=>absurd rfl h⟩⟩;clear hLok hwi;generalize((L.getD i (0,0)).1:Int)=f0 at *
  go_loopg [9,11] (i+1) (fun k f v wr=>∃(fI:Int) (ll:Nat),f=.int W fI/\V (∃l:List Nat,l.length=ll/\Bk n ins want nx bs L l fI k/\wr.ownsRow w1.heap.size 3 1 v ll (AK l.reverse))/\V (U w1.heap.size w1 wr))
  case atStart=>exact⟨f0,0,rfl,⟨[],rfl,HB0.out,aX _ _ _ _⟩,qD _ _⟩
  case round=>
   obtain⟨fI,ll,rfl,HBk,HBr⟩:=hrel;obtain⟨l,hll,hbk,hro⟩:=HBk.out;obtain⟨vo,vc,rfl⟩:=Au hro;have hbwr:U w.heap.size w wr:=ae hbw1 HBr.out;rcases hbk.next with⟨rfl,rfl,hne,_,hlen⟩|⟨j,rfl,hj,rfl,hlen,_,_⟩
   .have HWk:V (WayOk n ins want nx bs l):=hbk.done HL.out;obtain⟨g9,c9,hvv,hg1,hg2⟩:=hro.form (by cases l with|nil=>exact absurd rfl hne|cons a l=>simp at hll;omega);injection hvv with e1 e2 e3;subst e1 e3;have hrv:=Ub g9 vc w1.heap.size l.reverse wr (by simp;omega) (by rw[yW,hll];exact hro);rw[yW,hll,List.reverse_reverse]at hrv;clear hbk hro HBk hne;go_wp2_with (go_at_call 74;refine hrv.mono ?_;rintro e w2 ⟨rfl,hg3,ho3⟩)
    go_ret;exact⟨_,_,_,rfl,hbwr.grown hg3 hbwr.size (fun k hk=>by cases hk;omega),l,hll,.inr HWk.out,Az ho3 (by omega)⟩
   .obtain ⟨k',hk',hbk'⟩:=hbk.step HL.out hj;have hpn:(L.getD j (0,0)).1<n:=HL.out.lt _ (Gu hj);have hmem:=Gu hj;have hat0:=(HCd.out (L.getD j (0,0)).1).2 hmem;have hk1:=I6 (L.getD j (0,0)).1 (by omega);have HB':V (Bk n ins want nx bs L ((L.getD j (0,0)).1::l) (DM L (L.getD j (0,0)).1) k'):=hbk';have HK':V (k'<j+1):=hk';have HLL:V (l.length=ll):=hll;generalize DM L (L.getD j (0,0)).1=f2 at *;generalize(L.getD j (0,0)).1=p at *;have h63:ll+1<=maxLen:=by unfold maxLen;omega
    have hkb:(ll+1)*8<=140737488355328:=by omega
    have hown4:=fun o=>hro.alloc o;have hnb2:=hro.lt;have hbase:∀o,w1.heap.size<=(wr.alloc o).heap.size:=fun o=>by have:=HBr.out.size;simp;omega
    have hpm1:¬(p:Int)=-1:=by omega
    clear hbk hro HBk hbk' hk' hll;go_wp2_with (first|(at_builtin;refine wpList_append_own _ rfl (.tmp 22) (.tmp 24) 43 rfl w1.heap.size 3 i0 (.int W 0) 1 8 aD hi0 hz0 hz1 hz2 rfl (by decide) (X vo ll vc) ll _ rfl (hown4 _) ⟨wr.heap.size,0,Z⟩ 1 1 [.int W (p:Int)] rfl rfl (cell_one_new _ _ _) (by intro u hu;simp at hu;subst hu;rfl) h63 hkb (hbase _) ?_;intro v' w5 hown' hgrow _;have hb5:U w1.heap.size w1 w5:=(HBr.out.alloc HBr.out.size _).grown hgrow (hbase _) (fun z hz=>(hnb2 z hz).1);have hmo:=HOw.out.kept (Eg hb5) (by simp))|(at_lookup;refine wpList_lookup_own_int _ rfl _ _ 170 rfl 3 3 .i64 FA cS bI (F9 _) (w.heap.size+1+2) _ D rfl hmo _ _ rfl hk1 ?_;intro c hat hwc))
    have hc2:c=f2:=by rw[hat0]at hat;injection hat with hat;injection hat with _ hat;exact hat.symm
    subst hc2;go_roundg k'
    case measure=>exact HK'.out
    case rel=>exact⟨c,ll+1,rfl,⟨p::l,by simp[HLL.out],HB'.out,by rw[List.reverse_cons,AK,vJ];exact hown'⟩,hb5⟩
theorem Oo:∀a,a<64->∀b,b<64->decide (bits BinOp.andNot aY ((a:Nat):Int) ((b:Nat):Int)=0)=decide (b ||| a=b):=by decide +kernel
def orL(s:Nat->Nat)(m:Nat)(l:List Nat):Nat:=l.foldl (fun a x=>a ||| s x) m
theorem Te(s:Nat->Nat)(m:Nat)(l:List Nat)(x:Nat):orL s m (l++[x])=orL s m l ||| s x:=by simp[orL]
theorem Tc(s:Nat->Nat)(m:Nat)(l k:List Nat):orL s m (l++k)=orL s (orL s m l) k:=by simp[orL]
theorem Ha{s:Nat->Nat}{i:Nat}:∀(l:List Nat) (m:Nat),(orL s m l).testBit i=true↔m.testBit i=true\/∃x∈l,(s x).testBit i=true
 |[],m=>by simp[orL]
 |a::l,m=>by
  have:=Ha (s:=s) (i:=i) l (m ||| s a);show(orL s (m ||| s a) l).testBit i=true↔_;rw[this,zM,jI];constructor
  .rintro ((h|h)|⟨x,hx,h⟩)
   .exact .inl h
   .exact .inr ⟨a,by simp,h⟩
   .exact .inr ⟨x,by simp[hx],h⟩
  .rintro (h|⟨x,hx,h⟩)
   .exact .inl (.inl h)
   .rcases qW.1 hx with rfl|hx
    .exact .inl (.inr h)
    .exact .inr ⟨x,hx,h⟩
theorem JY{s:Nat->Nat}{k:Nat}:∀(l:List Nat) (m:Nat),m<2^k->(∀x∈l,s x<2^k)->orL s m l<2^k
 |[],_,hm,_=>hm
 |a::l,m,hm,h=>JY l (m ||| s a) (zY hm (h a (by simp))) (fun x hx=>h x (by simp[hx]))
theorem Mh{s:Nat->Nat}:∀(l:List Nat) (m:Nat),m<=orL s m l
 |[],_=>qB _
 |a::l,m=>qI Nat.left_le_or (Mh l (m ||| s a))
theorem Td{s:Nat->Nat}{m x:Nat}{l:List Nat}(hx:x∈l)(h:m ||| s x≠m):m<orL s m l:=by
 refine Nat.lt_of_le_of_ne (Mh l m) fun e=>h (yT fun i=>?_);rw[zM];cases hm:m.testBit i with
 |true=>rfl
 |false=>
  cases hs:(s x).testBit i with
  |false=>rfl
  |true=>
   have:=(Ha (s:=s) (i:=i) l m).2 (.inr ⟨x,hx,hs⟩);rw[<-e,hm]at this;cases this
theorem TH{m a i:Nat}(hm:m.testBit i=Q)(ha:a.testBit i=true):m ||| a≠m:=fun e=>by
 have:(m ||| a).testBit i=true:=by rw[zM,ha];simp
 rw[e,hm]at this;cases this
theorem Trail.append{nx:Nat->List Nat}:∀{a b:List Nat},Trail nx a->Trail nx b->(a≠[]->b≠[]->b.getD 0 0∈nx (a.getD (a.length-1) 0))->Trail nx (a++b)
 |[],_,_,hb,_=>hb
 |[x],[],_,_,_=>trivial
 |[x],y::b,_,hb,h=>⟨h (by simp) (by simp),hb⟩
 |x::y::a,b,ha,hb,h=>⟨ha.1,Trail.append (a:=y::a) ha.2 hb (fun _ hn=>by simpa using h (by simp) hn)⟩
def Dg(g:Gr)(f:Nat)(ins:Nat->Bool):Prop:=∀x,x<g.spots.length->(ins x=true↔Mut g f x)
theorem Mut.symm{g:Gr}{x y:Nat}(h:Mut g x y):Mut g y x:=⟨h.2,h.1⟩
theorem Ra{g:Gr}{f:Nat}{ins:Nat->Bool}(hg:GOk g)(hf:f<g.spots.length)(hi:Dg g f ins){x y:Nat}(hx:Mut g f x)(hw:Way (nxt g) x y)(hy:Way (nxt g) y f):Way (fun i=>(nxt g i).filter ins) x y:=by
 induction hw with
 |stay=>exact .stay
 |step hw hk ih=>
  rename_i j k;have hj:Way (nxt g) j f:=(Way.one hk).trans hy;have hkm:Mut g f k:=⟨(hx.1.trans hw).step hk,hy⟩;exact(ih hj).step (yI.2 ⟨hk,(hi k (hkm.lt hg hf)).2 hkm⟩)
theorem Hw{g:Gr}{f:Nat}{ins want:Nat->Bool}(hg:GOk g)(hf:f<g.spots.length)(hi:Dg g f ins){x k y:Nat}(hx:Mut g f x)(hk:k∈nxt g x)(hky:Way (nxt g) k y)(hy:Mut g f y)(hw:want y=true)(hno:DC ins want (nxt g) (nxt g x)):False:=by
 have hkm:Mut g f k:=⟨hx.1.step hk,hky.trans hy.2⟩;have:=hno k hk ((hi k (hkm.lt hg hf)).2 hkm) y (Ra hg hf hi hkm hky hy.2);rw[hw]at this;cases this
structure LpOk(g:Gr)(f:Nat)(lp:List Nat)(met:Nat):Prop where
 ne:lp≠[]
 head:lp.getD 0 0=f
 trail:Trail (nxt g) lp
 mem:∀x∈lp,Mut g f x/\x<g.spots.length
 met:met=orL (sN g) 0 lp
theorem ED{l:List Nat}(h:l≠[]):l.getD (l.length-1) 0∈l:=by
 have:0<l.length:=by
  cases l with
  |nil=>exact absurd rfl h
  |cons a l=>simp
 rw[qC,qH (by omega)];exact qR _
theorem LpOk.start{g:Gr}{f:Nat}(hf:f<g.spots.length):LpOk g f [f] (sN g f):=⟨by simp,rfl,trivial,fun x hx=>by simp at hx;subst hx;exact⟨⟨.stay,.stay⟩,hf⟩,by simp[orL]⟩
theorem LpOk.lt{g:Gr}{f:Nat}{lp:List Nat}{met:Nat}(hg:GOk g)(h:LpOk g f lp met):met<2^mN g:=by
 rw[h.met];exact JY lp 0 (kE (by decide)) fun x hx=>(hg.sN (h.mem x hx).2).2
theorem LpOk.more{g:Gr}{f:Nat}{lp:List Nat}{met:Nat}{ins want:Nat->Bool}(hg:GOk g)(hf:f<g.spots.length)(hF:BK g f)(hi:Dg g f ins)(h:LpOk g f lp met)(hm:met≠2^mN g-1)(hw:∀x,x<g.spots.length->want x=decide (met ||| sN g x≠met)):¬DC ins want (nxt g) (nxt g (lp.getD (lp.length-1) 0)):=fun hno=>by
 have hlm:=ED h.ne;obtain⟨hl1,hl2⟩:=h.mem _ hlm;have hbit:∃i,i<mN g/\met.testBit i=false:=by
  apply Classical.byContradiction;intro hc;refine hm ((Iw (h.lt hg)).2 fun i hi=>?_);cases e:met.testBit i with
  |true=>rfl
  |false=>exact absurd ⟨i,hi,e⟩ hc
 obtain⟨i,hi1,hi2⟩:=hbit;obtain⟨a,ha,hab⟩:=hF.2 i hi1;have han:=ha.lt hg hf;have hwa:want a=true:=by rw[hw a han];exact decide_eq_true (TH hi2 hab)
 have hwy:Way (nxt g) (lp.getD (lp.length-1) 0) a:=hl1.2.trans ha.1;rcases hwy.first with e|⟨k,hk,hka⟩
 .have:met.testBit i=true:=by rw[h.met];exact(Ha lp 0).2 (.inr ⟨_,hlm,by rw[e];exact hab⟩)
  rw[hi2]at this;cases this
 .exact Hw hg hf hi hl1 hk hka ha hwa hno
theorem LpOk.home{g:Gr}{f:Nat}{lp:List Nat}{met:Nat}{ins want:Nat->Bool}(hg:GOk g)(hf:f<g.spots.length)(hF:BK g f)(hi:Dg g f ins)(h:LpOk g f lp met)(hw:∀x,x<g.spots.length->want x=decide (x=f)):¬DC ins want (nxt g) (nxt g (lp.getD (lp.length-1) 0)):=fun hno=>by
 have hlm:=ED h.ne;obtain⟨hl1,hl2⟩:=h.mem _ hlm;have hwf:want f=true:=by rw[hw f hf];simp
 have hff:Mut g f f:=⟨.stay,.stay⟩;rcases hl1.2.first with e|⟨k,hk,hka⟩
 .obtain ⟨a,b,ha,hb,hab⟩:=hF.1;have hxa:Way (nxt g) (lp.getD (lp.length-1) 0) a:=by rw[e];exact ha.1
  rcases hxa.first with e2|⟨k,hk,hka⟩
  .exact Hw hg hf hi hl1 (k:=b) (by rw[e2];exact hab) hb.2 hff hwf hno
  .exact Hw hg hf hi hl1 hk (hka.trans ha.2) hff hwf hno
 .exact Hw hg hf hi hl1 hk hka hff hwf hno
theorem Lc{a b:List Nat}(h:a≠[]):(a++b).getD 0 0=a.getD 0 0:=by
 cases a with
 |nil=>exact absurd rfl h
 |cons x a=>rfl
theorem LpOk.put{g:Gr}{f:Nat}{lp l:List Nat}{met:Nat}{ins want:Nat->Bool}(hi:Dg g f ins)(h:LpOk g f lp met)(hl:WayOk g.spots.length ins want (nxt g) (nxt g (lp.getD (lp.length-1) 0)) l)(hw:∀x,x<g.spots.length->want x=decide (met ||| sN g x≠met)):LpOk g f (lp++l) (orL (sN g) met l)/\met<orL (sN g) met l:=by
 refine⟨⟨by simp[h.ne],(Lc h.ne).trans h.head,h.trail.append hl.trail (fun _ _=>hl.head),fun x hx=>?_,by rw[Tc,<-h.met]⟩,?_⟩
 .rcases qL.1 hx with hx|hx
  .exact h.mem x hx
  .obtain ⟨h1,h2⟩:=hl.ins x hx;exact⟨(hi x h2).1 h1,h2⟩
 .have hm:=ED hl.ne;have h1:=hl.last;rw[hw _ (hl.ins _ hm).2]at h1;exact Td hm (of_decide_eq_true h1)
structure LoopOk(g:Gr)(f:Nat)(l:List Nat):Prop where
 ne:l≠[]
 head:l.getD 0 0=f
 trail:Trail (nxt g) (l++[f])
 lt:∀x∈l,x<g.spots.length
 bits:∀i,i<mN g->∃x∈l,(sN g x).testBit i=true
theorem LpOk.close{g:Gr}{f:Nat}{lp l:List Nat}{met:Nat}{ins want:Nat->Bool}(hg:GOk g)(h:LpOk g f lp met)(hm:met=2^mN g-1)(hl:WayOk g.spots.length ins want (nxt g) (nxt g (lp.getD (lp.length-1) 0)) l)(hw:∀x,x<g.spots.length->want x=decide (x=f)):LoopOk g f (lp++l.take (l.length-1)):=by
 have hlm:=ED hl.ne;have e1:l.getD (l.length-1) 0=f:=by
  have:=hl.last;rw[hw _ (hl.ins _ hlm).2]at this;exact of_decide_eq_true this
 have hpos:0<l.length:=by
  cases l with
  |nil=>exact absurd rfl hl.ne
  |cons a l=>simp
 have e2:l.take (l.length-1)++[f]=l:=by
  rw[<-e1];have h3:l=l.take (l.length-1+1):=by rw[qN (by omega)]
  conv=>rhs;rw[h3,qT (by omega)]
  rw[qC,qH (by omega)];rfl
 refine⟨by simp[h.ne],(Lc h.ne).trans h.head,?_,fun x hx=>?_,fun i hi=>?_⟩
 .rw[List.append_assoc,e2];exact h.trail.append hl.trail (fun _ _=>hl.head)
 .rcases qL.1 hx with hx|hx
  .exact (h.mem x hx).2
  .exact (hl.ins x (jD hx)).2
 .have h1:=(Iw (h.lt hg)).1 hm i hi;rw[h.met]at h1;rcases(Ha lp 0).1 h1 with h2|⟨x,hx,h2⟩
  .simp at h2
  .exact ⟨x,qL.2 (.inl hx),h2⟩
structure LoopW(w wr:N)(s:Nat)(so no bo:Option Addr)(sc nc bc n:Nat)(gi gm:Int)(f met:Nat)(v:C)(lp:List Nat):Prop where
 below:U s w wr
 size:s+4<=wr.heap.size
 c0:wr.cell? ⟨s,0,Z⟩=Y (X so n sc)
 c1:wr.cell? ⟨s,1,Z⟩=Y (.int W gi)
 c2:wr.cell? ⟨s,2,Z⟩=Y (X no n nc)
 c3:wr.cell? ⟨s,3,Z⟩=Y (X bo n bc)
 c4:wr.cell? ⟨s,4,Z⟩=Y (.int W gm)
 cf:wr.cell? ⟨s+1,0,Z⟩=Y (.int W (f:Int))
 cm:wr.cell? ⟨s+3,0,Z⟩=Y (.int W (met:Int))
 fm:wr.frozen? ⟨s+3,0,Z⟩=Q
 ow:wr.ownsRow (s+2) 3 1 v lp.length (AK lp)
 ap:v.ownBlock≠Y (s+3)
section
variable{w wr:N}{s:Nat}{so no bo:Option Addr}{sc nc bc n:Nat}{gi gm:Int}{f met:Nat}{v:C}{lp:List Nat}
theorem LoopW.blocks(h:LoopW w wr s so no bo sc nc bc n gi gm f met v lp){w':N}(hb:U s w w')(hs:wr.heap.size<=w'.heap.size)(h0:w'.heap[s]? = wr.heap[s]?)(h1:w'.heap[s+1]? = wr.heap[s+1]?)(h3:w'.heap[s+3]? = wr.heap[s+3]?){v':C}{lp':List Nat}(ho:w'.ownsRow (s+2) 3 1 v' lp'.length (AK lp'))(ha:v'.ownBlock≠Y (s+3)):LoopW w w' s so no bo sc nc bc n gi gm f met v' lp':=by
 have c:∀j,w'.cell? ⟨s,j,Z⟩=wr.cell? ⟨s,j,Z⟩:=fun j=>eJ (a:=⟨s,j,Z⟩) h0;have d1:w'.cell? ⟨s+1,0,Z⟩=wr.cell? ⟨s+1,0,Z⟩:=eJ (a:=⟨s+1,0,Z⟩) h1;have d3:w'.cell? ⟨s+3,0,Z⟩=wr.cell? ⟨s+3,0,Z⟩:=eJ (a:=⟨s+3,0,Z⟩) h3;have hsz:=h.size;exact⟨hb,by omega,(c 0).trans h.c0,(c 1).trans h.c1,(c 2).trans h.c2,(c 3).trans h.c3,(c 4).trans h.c4,d1.trans h.cf,d3.trans h.cm,(World.frozen?_of_block (a:=⟨s+3,0,Z⟩) h3).trans h.fm,ho,ha⟩
theorem LoopW.later(h:LoopW w wr s so no bo sc nc bc n gi gm f met v lp){w':N}(hb:U wr.heap.size wr w'):LoopW w w' s so no bo sc nc bc n gi gm f met v lp:=by
 have hsz:=h.size;exact h.blocks (h.below.trans (hb.mono (by omega))) hb.size (hb.block _ (by omega)) (hb.block _ (by omega)) (hb.block _ (by omega)) (Ap h.ow hb (qB _)) h.ap
theorem LoopW.setMet(h:LoopW w wr s so no bo sc nc bc n gi gm f met v lp)(m:Nat):LoopW w (wr.setCell ⟨s+3,0,Z⟩ (.int W (m:Int))) s so no bo sc nc bc n gi gm f m v lp:=by
 have hsz:=h.size;have c:∀i j,i≠s+3->(wr.setCell ⟨s+3,0,Z⟩ (.int W (m:Int))).cell? ⟨i,j,Z⟩=wr.cell? ⟨i,j,Z⟩:=fun i j hne=>World.cell?_setCell_far _ _ _ _ (fun e=>hne e.symm);exact⟨h.below.setCell (by show s<=s+3;omega) _,by simpa using hsz,(c s 0 (by omega)).trans h.c0,(c s 1 (by omega)).trans h.c1,(c s 2 (by omega)).trans h.c2,(c s 3 (by omega)).trans h.c3,(c s 4 (by omega)).trans h.c4,(c (s+1) 0 (by omega)).trans h.cf,World.cell?_setCell_same _ _ _ (u:=.int W (met:Int)) h.cm,(World.frozen?_setCell _ _ _ _).trans h.fm,ownsRow_setCell_other h.ow (by exact h.ap) _,h.ap⟩
end
theorem TG(w0:N)(s:Nat)(bo:Option Addr)(bc n m:Nat)(g:Gr)(hok:GOk g)(hn:n=g.spots.length)(hsz:s+4<=w0.heap.size)(h3:w0.cell? ⟨s,3,Z⟩=Y (X bo n bc))(hm:w0.cell? ⟨s+3,0,Z⟩=Y (.int W (m:Int)))(hm64:m<64)(hS:∀k,k<n->∃b off,bo=Y ⟨b,off,Z⟩/\b<w0.heap.size/\w0.cell? ⟨b,off+k,Z⟩=Y (.int W (sN g k:Int))) :
  FnB w0 w0.heap.size n (.func (.func 75) #[] #[K (Y ⟨s,0,Z⟩),K (Y ⟨s+3,0,Z⟩)]) (fun p=>decide (m ||| sN g p≠m)):=by
 refine⟨_,_,rfl,fun args w=>by simp[go_sem],fun w' hb p hp=>?_⟩;show M qA 75 #[I W (p:Int),K (Y ⟨s,0,Z⟩),K (Y ⟨s+3,0,Z⟩)] w' fun e w2=>e=O (.bool (decide (m ||| sN g p≠m)))/\U w'.heap.size w' w2;obtain⟨b,off,rfl,hbl,hc⟩:=hS p hp;have e3:=(hb.cell (p:=⟨s,3,Z⟩) (by show s<_;omega)).trans h3;have em:=(hb.cell (p:=⟨s+3,0,Z⟩) (by show s+3<_;omega)).trans hm;have es:=(hb.cell (p:=⟨b,off+p,Z⟩) hbl).trans hc;have hs64:sN g p<64:=by have h1:=(hok.sN (x:=p) (by omega)).2;have h2:=Hj hok.mN.1;omega
 have hand:=Oo (sN g p) hs64 m hm64;have HA:V (decide (m ||| sN g p≠m)=!decide (bits BinOp.andNot aY (sN g p:Int) (m:Int)=0)):=by
  show _=_;rw[hand];simp
 rw[HA.out];clear hand HA hS hc h3 hm;generalize sN g p=x at *;have h63:p<n:=hp
 go_enter Tryz.func75,Tryz.ntmps75;go_wp2_with fail
 go_quiet (fail)
 go_wp2_with fail
 go_ret;exact⟨by first|rfl|simp,below_drewN (qD _ _) _⟩
theorem RM(w0:N)(s n f:Nat)(hsz:s+4<=w0.heap.size)(hf:w0.cell? ⟨s+1,0,Z⟩=Y (.int W (f:Int))) :
  FnB w0 w0.heap.size n (.func (.func 76) #[] #[K (Y ⟨s+1,0,Z⟩)]) (fun p=>decide (p=f)):=by
 refine⟨_,_,rfl,fun args w=>by simp[go_sem],fun w' hb p hp=>?_⟩;show M qA 76 #[I W (p:Int),K (Y ⟨s+1,0,Z⟩)] w' _;have ef:=(hb.cell (p:=⟨s+1,0,Z⟩) (by show s+1<_;omega)).trans hf;go_enter Tryz.func76,Tryz.ntmps76;go_wp2_with fail
 go_ret;refine⟨?_,qD _ _⟩;have e:decide (p=f)=((p:Int) == (f:Int)):=by
  show _=decide ((p:Int)=(f:Int));rw[decide_eq_decide];omega
 rw[e];first|rfl|simp
theorem LoopW.start(w:N)(so no bo:Option Addr)(sc nc bc n:Nat)(gi gm:Int)(f m:Nat):LoopW w ((((w.alloc (T #[X so n sc,.int W gi,X no n nc,X bo n bc,.int W gm] 45)).alloc (T #[I W (f:Int)] 3)).alloc (T #[I W (f:Int)] 3)).alloc (T #[I W (m:Int)] 3)) w.heap.size so no bo sc nc bc n gi gm f m (X (Y ⟨w.heap.size+1+1,0,Z⟩) 1 1) [f]:=by
 refine⟨(((ai).alloc (by simp) _).alloc (by simp;omega) _).alloc (by simp;omega) _,by simp,by simp[go_sem],by simp[go_sem],by simp[go_sem],by simp[go_sem],by simp[go_sem],by simp[go_sem],by simp[go_sem],by simp[go_sem],?_,by simp[Value.ownBlock]⟩;refine⟨rfl,.inr ⟨w.heap.size+1+1,1,#[I W (f:Int)],rfl,qB _,?_,qB _,by unfold maxLen;decide,rfl,rfl⟩⟩;have h:=blk_alloc_new ((w.alloc (T #[X so n sc,.int W gi,X no n nc,X bo n bc,.int W gm] 45)).alloc (T #[I W (f:Int)] 3)) (T #[I W (f:Int)] 3);rw[fp,fp]at h;exact(blk_alloc_lt _ _ _ (by simp)).trans h
theorem Mm{w:N}{g q:Nat}{l:List Nat}(hc:∀i,i<l.length->w.cell? ⟨g,i,Z⟩=Y (.int W (l.getD i 0:Int)))(hq:q<=l.length):∀j u,(AK (l.take q))[j]? = Y u->w.cell? ((⟨g,0,Z⟩:Addr).add j)=Y u:=fun j u hu=>by
 have hj:j<q:=by
  rcases Nat.lt_or_ge j q with h|h
  .exact h
  .rw[vF (by simp[AK];omega)]at hu;cases hu
 have h1:=hc j (by omega);have h2:(AK (l.take q))[j]? = Y (.int W (l.getD j 0:Int)):=by
  rw[AK,xB,List.getElem?_take,aj hj,qH (by omega),qC,qH (by omega)];rfl
 rw[h2]at hu;injection hu with hu;subst hu;cases j with
 |zero=>exact h1
 |succ j=>simpa[Addr.add]using h1
theorem SI(so no bo:Option Addr)(sc nc bc:Nat)(g:Gr)(f:Nat)(fi:FuncId)(ci:Array C)(ins:Nat->Bool)(w:N)(hz:GrLe g)(hV:GraphV w (.slice so g.spots.length sc) (.slice no g.next.length nc) (.slice bo g.sets.length bc) g)(hok:GOk g)(hf:f<g.spots.length)(hF:BK g f)(hIn:Dg g f ins)(hI:FnB w w.heap.size g.spots.length (.func (.func fi) #[] ci) ins) :
  M qA 46 #[G #[.slice so g.spots.length sc,.int W g.init,.slice no g.next.length nc,.slice bo g.sets.length bc,.int W g.many],.int W (f:Int),.func (.func fi) #[] ci] w fun e w'=>∃vo vc q,e=O (X vo q vc)/\U w.heap.size w w'/\V (∃l,l.length=q/\q<=2000000/\LoopOk g f l/\w'.ownsRow w.heap.size 3 1 (X vo q vc) q (AK l)):=by
 obtain⟨i0,hi0,hz0,hz1,hz2⟩:=info_parts BS;have hn:=hok.head.n;have hgn:=hok.head.next;have hgs:=hok.head.sets;have hV2:GraphV w (.slice so g.spots.length sc) (.slice no g.spots.length nc) (.slice bo g.spots.length bc) g:=by
  have:=hV;rw[hgn,hgs]at this;exact this
 obtain⟨fb,foff,hbo,hfb,hcf⟩:∃b off,bo=Y ⟨b,off,Z⟩/\b<w.heap.size/\w.cell? ⟨b,off+f,Z⟩=Y (.int W (sN g f:Int)):=by
  obtain⟨b,off,e,hb,hc⟩:=hV2.sets.num (i:=f) (by rw[hgs];exact hf);exact⟨b,off,e,hb,by rw[hc,(hok.sN hf).1]⟩
 have HSet:V (∀w1,U w.heap.size w w1->∀k,k<g.spots.length->∃b off,bo=Y ⟨b,off,Z⟩/\b<w1.heap.size/\w1.cell? ⟨b,off+k,Z⟩=Y (.int W (sN g k:Int))):=fun w1 hb k hk=>by
  obtain⟨b,off,e,hbl,hc⟩:=hV2.sets.num (i:=k) (by rw[hgs];exact hk);exact⟨b,off,e,qE hbl hb.size,by rw[(hb.cell (p:=⟨b,off+k,Z⟩) hbl),hc,(hok.sN hk).1]⟩
 have HRow:V (ET w no g.spots.length (nxt g)):=I1 hok hV;have HXL:V (∀i,i<g.spots.length->(nxt g i).length<=140737488355328):=fun i hi=>by rw[EF];exact hz.rows i (by rw[hgn];exact hi)
 have HAll:V (∀w1,M qA 72 #[G #[.slice so g.spots.length sc,.int W g.init,.slice no g.spots.length nc,.slice bo g.spots.length bc,.int W g.many]] w1 fun e w'=>e=O (.int W ((2^mN g-1:Nat):Int))/\U w1.heap.size w1 w'):=fun w1=>by
  have:=IV so no bo g.spots.length sc g.spots.length nc g.spots.length bc g w1 hok.head.many0 hok.head.many6;rw[hok.mN.2.2]at this;exact this
 have HWay:V (∀w1 po pc (x:Nat) fw cw want,U w.heap.size w w1->x<g.spots.length->Ay w1 (.slice po (nxt g x).length pc) (nxt g x)->FnB w1 w1.heap.size g.spots.length (.func (.func fw) #[] cw) want->¬DC ins want (nxt g) (nxt g x)->M qA 42 #[G #[.slice so g.spots.length sc,.int W g.init,.slice no g.spots.length nc,.slice bo g.spots.length bc,.int W g.many],.slice po (nxt g x).length pc,.func (.func fi) #[] ci,.func (.func fw) #[] cw] w1 fun e w'=>∃vo vc q,e=O (X vo q vc)/\U w1.heap.size w1 w'/\V (∃l,l.length=q/\WayOk g.spots.length ins want (nxt g) (nxt g x) l/\w'.ownsRow w1.heap.size 3 1 (X vo q vc) q (AK l))):=fun w1 po pc x fw cw want hb hx hN hW hno=>by
  have hfi:FnB w1 w1.heap.size g.spots.length (.func (.func fi) #[] ci) ins:=by
   obtain⟨fn,caps,h1,h2,h3⟩:=hI;exact⟨fn,caps,h1,h2,fun w' hb' q hq=>h3 w' (ae hb hb') q hq⟩
  have h:=N8 so no bo po sc nc bc pc g (nxt g x) fi fw ci cw ins want w1 hok (fun i hi=>hz.rows i (by rw[hgn];exact hi)) (hV.below hb) hN (by rw[EF];exact hz.rows x (by rw[hgn];exact hx)) (fun y hy=>FF hok hx hy) hfi hW;rw[hgn,hgs]at h;refine h.mono fun e w' ⟨vo,vc,q,h1,h2,h3⟩=>⟨vo,vc,q,h1,h2,?_⟩;obtain⟨l,h4,h5,h6⟩:=h3.out;rcases h5 with⟨_,h7⟩|h7
  .exact absurd h7 hno
  .exact ⟨l,h4,h7,h6⟩
 have HOr:V (∀a:Nat,a<2^mN g->∀k,k<g.spots.length->bits BinOp.or aY (a:Int) (sN g k:Int)=((a ||| sN g k:Nat):Int)):=fun a ha k hk=>by
  have h6:=Hj hok.mN.1;have h2:=(hok.sN hk).2;exact Mj _ (by omega) _ (by omega)
 have hm64:2^mN g<=64:=Hj hok.mN.1;have HOK:V (GOk g):=hok;have HF:V (BK g f):=hF;have HIn:V (Dg g f ins):=hIn;have HSN:V (∀k,k<g.spots.length->sN g k<2^mN g):=fun k hk=>(hok.sN hk).2;rw[hgn,hgs];have HL0:V (LpOk g f [f] (sN g f)):=LpOk.start hf;have H0:=LoopW.start w so no bo sc nc bc g.spots.length g.init g.many f (sN g f);have hsf:=(hok.sN hf).2;clear hV hV2 hok hz hF hIn hI hgn hgs;obtain⟨n,hnn⟩:∃n,n=g.spots.length:=⟨_,rfl⟩;have HNN:V (n=g.spots.length):=hnn;rw[<-hnn]at H0 HRow HXL HAll HWay HOr HSN HSet hf hn⊢;generalize g.init=gi at *;generalize g.many=gm at *
 have H0':V (LoopW w ((((w.alloc (T #[X so n sc,.int W gi,X no n nc,X bo n bc,.int W gm] 45)).alloc (T #[I W (f:Int)] 3)).alloc (T #[I W (f:Int)] 3)).alloc (T #[I W (sN g f:Int)] 3)) w.heap.size so no bo sc nc bc n gi gm f (sN g f) (X (Y ⟨w.heap.size+1+1,0,Z⟩) 1 1) [f]):=H0;clear H0 hnn;subst hbo;generalize sN g f=m0 at *
 have ecf:(((w.alloc (T #[X so n sc,.int W gi,X no n nc,X (Y ⟨fb,foff,Z⟩) n bc,.int W gm] 45)).alloc (T #[I W (f:Int)] 3)).alloc (T #[I W (f:Int)] 3)).cell? ⟨fb,foff+f,Z⟩=Y (.int W (m0:Int)):=by
  rw[gE,gE,gE]
  .exact hcf
  all_goals (simp;try omega)
 go_enter Tryz.func46,Tryz.ntmps46;go_wp2_with fail
 clear ecf hcf;have hk0:m0<64:=by omega
 go_loopg [7] (64-m0) (fun k v wr=>∃ll:Nat,V (∃(lp:List Nat) (met:Nat),lp.length=ll/\LpOk g f lp met/\k+met=64/\ll<=1+met*20000/\LoopW w wr w.heap.size so no (Y ⟨fb,foff,Z⟩) sc nc bc n gi gm f met v lp))
 case atStart=>exact⟨1,[f],m0,rfl,HL0.out,by omega,by omega,H0'.out⟩
 case round=>
  obtain⟨ll,HR⟩:=hrel;obtain⟨lp,met,hll,hlo,hkm,hlb,hW⟩:=HR.out;obtain⟨vo,vc,rfl⟩:=Au hW.ow;rw[hll]at hW⊢;have hmlt:met<2^mN g:=hlo.lt HOK.out;have hlb2:ll<=1260001:=by omega
  have hllpos:0<ll:=by
   have:=hlo.ne;cases lp with
   |nil=>exact absurd rfl this
   |cons a l=>simp at hll;omega
  obtain⟨gx,cx,hvv,hg1,hg2⟩:=(hll▸hW.ow:wr.ownsRow (w.heap.size+2) 3 1 (X vo ll vc) ll (AK lp)).form hllpos;injection hvv with e1 e2 e3;subst e1 e3;obtain⟨l1,hl1⟩:∃l1,ll=l1+1:=⟨ll-1,by omega⟩;obtain⟨_,_,hcl⟩:=EG (l:=lp) (by rw[hll];exact hll▸hW.ow);have hx1:=hlo.mem _ (ED hlo.ne);have hel:=hcl (lp.length-1) (by omega);obtain⟨x,hx⟩:∃x,x=lp.getD (lp.length-1) 0:=⟨_,rfl⟩;rw[<-hx]at hel hx1;have hxn:x<n:=by rw[HNN.out];exact hx1.2
  have hel':wr.cell? ⟨gx,l1,Z⟩=Y (.int W (x:Int)):=by rw[<-hel];congr 2;omega
  have HX:V (x=lp.getD (lp.length-1) 0):=hx;have HLo:V (LpOk g f lp met):=hlo;have HLW:V (LoopW w wr w.heap.size so no (Y ⟨fb,foff,Z⟩) sc nc bc n gi gm f met (X (Y ⟨gx,0,Z⟩) ll vc) lp):=hW;have HLL:V (lp.length=ll):=hll;have HKM:V (gk+met=64):=hkm;obtain⟨nb,noff,rfl,hnb,uo,uc,hcu,hnv⟩:=HRow.out x hxn;have HNv:V (Ay w (.slice uo (nxt g x).length uc) (nxt g x)):=hnv;have hxl:=HXL.out x hxn;have hszr:=hW.size;have HS:V (∀w',U wr.heap.size wr w'->LoopW w w' w.heap.size so (Y ⟨nb,noff,Z⟩) (Y ⟨fb,foff,Z⟩) sc nc bc n gi gm f met (X (Y ⟨gx,0,Z⟩) ll vc) lp/\w'.cell? ⟨gx,l1,Z⟩=Y (.int W (x:Int))/\w'.cell? ⟨nb,noff+x,Z⟩=Y (.slice uo (nxt g x).length uc)):=fun w' hb=>by
   have h1:=HLW.out.later hb;exact⟨h1,(hb.cell (p:=⟨gx,l1,Z⟩) hg2).trans hel',(h1.below.cell (p:=⟨nb,noff+x,Z⟩) hnb).trans hcu⟩
  have hS:∀w',U wr.heap.size wr w'->w'.cell? ⟨w.heap.size,0,Z⟩=Y (X so n sc)/\w'.cell? ⟨w.heap.size,1,Z⟩=Y (.int W gi)/\w'.cell? ⟨w.heap.size,2,Z⟩=Y (X (Y ⟨nb,noff,Z⟩) n nc)/\w'.cell? ⟨w.heap.size,3,Z⟩=Y (X (Y ⟨fb,foff,Z⟩) n bc)/\w'.cell? ⟨w.heap.size,4,Z⟩=Y (.int W gm)/\w'.cell? ⟨w.heap.size+1+1+1,0,Z⟩=Y (.int W (met:Int))/\w'.cell? ⟨gx,l1,Z⟩=Y (.int W (x:Int))/\w'.cell? ⟨nb,noff+x,Z⟩=Y (.slice uo (nxt g x).length uc):=fun w' hb=>by
   obtain⟨h1,h2,h3⟩:=HS.out w' hb;exact⟨h1.c0,h1.c1,h1.c2,h1.c3,h1.c4,h1.cm,h2,h3⟩
  obtain⟨ln,hln⟩:∃ln,ln=(nxt g x).length:=⟨_,rfl⟩;have HLN:V (ln=(nxt g x).length):=hln;rw[<-hln]at hS hxl;have hal:=HAll.out wr.drew;obtain⟨tp,htp⟩:∃tp,tp=2^mN g-1:=⟨_,rfl⟩;have HTP:V (tp=2^mN g-1):=htp;rw[<-htp]at hal;have hmf:∀(fn:Fn) (first cap:Array C) (w:N),(Instr.makeFunc fn first cap).run qA w=.ok (.func fn first cap) w:=fun _ _ _ _=>rfl;clear hcu hnv hel hel' hcl hx hlo hW hll hkm HR hln htp hx1;subst hl1;have j2:(l1:Int)+1-1=(l1:Int):=by omega
  have j8:aY.wrap (l1:Int)=(l1:Int):=by rw[IntKind.wrap_i64];omega
  have j6:aY.wrap ((l1:Int)+1-1)=(l1:Int):=by rw[j2];exact j8
  have k1:((l1+1:Nat):Int)-1=(l1:Int):=by omega
  have k2:aY.wrap (((l1+1:Nat):Int)-1)=(l1:Int):=by rw[k1];exact j8
  have k4:(l1:Int)<((l1+1:Nat):Int):=by omega
  have hli1:(0:Int)<=(l1:Int):=by omega
  have hli2:(l1:Int)<(l1:Int)+1:=by omega
  by_cases hmt:met=tp
  .subst hmt;go_wp2_with fail
   go_region_held3 (fun w'=>w'.cell? ⟨w.heap.size,0,Z⟩=Y (X so n sc)/\w'.cell? ⟨w.heap.size,1,Z⟩=Y (.int W gi)/\w'.cell? ⟨w.heap.size,2,Z⟩=Y (X (Y ⟨nb,noff,Z⟩) n nc)/\w'.cell? ⟨w.heap.size,3,Z⟩=Y (X (Y ⟨fb,foff,Z⟩) n bc)/\w'.cell? ⟨w.heap.size,4,Z⟩=Y (.int W gm)/\w'.cell? ⟨w.heap.size+1+1+1,0,Z⟩=Y (.int W (met:Int))/\w'.cell? ⟨gx,l1,Z⟩=Y (.int W (x:Int))/\w'.cell? ⟨nb,noff+x,Z⟩=Y (X uo ln uc))
    (exact hS _ (by first|exact(qD _ _).drew|exact qD _ _|exact C9 hb2))
    ((go_at_call 72;refine hal.mono ?_;rintro e w2 ⟨rfl,hb2⟩))
   have hb2':=C9 hb2;obtain⟨hW2,_,_⟩:=HS.out w2 hb2';have hbw2:=hW2.below;have hsz2:=hW2.size;have HB2:V (U wr.heap.size wr w2.drew):=hb2'.drew;have hno:¬DC ins (fun p=>decide (p=f)) (nxt g) (nxt g x):=by
    have:=HLo.out.home HOK.out (by rw[<-HNN.out];exact hf) HF.out HIn.out (want:=fun p=>decide (p=f)) (fun _ _=>rfl);rw[<-HX.out]at this;exact this
   have hway:=HWay.out w2.drew uo uc x _ _ _ hbw2.drew hxn (HNv.out.below hbw2.drew) (RM w2.drew w.heap.size n f hsz2 hW2.cf) hno;rw[<-HLN.out]at hway;clear hno hal hb2 hb2' HAll HWay hW2;go_wp2_with fail
   go_region_held3 (fun w'=>w'.cell? ⟨w.heap.size,0,Z⟩=Y (X so n sc)/\w'.cell? ⟨w.heap.size,1,Z⟩=Y (.int W gi)/\w'.cell? ⟨w.heap.size,2,Z⟩=Y (X (Y ⟨nb,noff,Z⟩) n nc)/\w'.cell? ⟨w.heap.size,3,Z⟩=Y (X (Y ⟨fb,foff,Z⟩) n bc)/\w'.cell? ⟨w.heap.size,4,Z⟩=Y (.int W gm)/\w'.cell? ⟨w.heap.size+1+1+1,0,Z⟩=Y (.int W (met:Int))/\w'.cell? ⟨gx,l1,Z⟩=Y (.int W (x:Int))/\w'.cell? ⟨nb,noff+x,Z⟩=Y (X uo ln uc))
    (exact hS _ (by first|exact HB2.out|exact ae HB2.out hb3))
    ((go_at_call 42;refine hway.mono ?_;rintro e w3 ⟨vo3,vc3,q3,rfl,hb3,HM⟩))
   obtain⟨l,hlq,hwo,hro3⟩:=HM.out;have hq3:0<q3:=by
    have:=hwo.ne;cases l with
    |nil=>exact absurd rfl this
    |cons a l=>simp at hlq;omega
   have hq20:q3<=20000:=by have:=hwo.len;omega
   obtain⟨g3,c3,hvv3,hg31,hg32⟩:=hro3.form hq3;injection hvv3 with e1 e2 e3;subst e1 e3;obtain⟨q,rfl⟩:∃q,q3=q+1:=⟨q3-1,by omega⟩;have hb23:U wr.heap.size wr w3:=ae HB2.out hb3;have hW3:=HLW.out.later hb23;have how3:w3.ownsRow (w.heap.size+2) 3 1 (X (Y ⟨gx,0,Z⟩) (l1+1) vc) (l1+1) (AK lp):=by
    have:=hW3.ow;rw[HLL.out]at this;exact this
   obtain⟨hqc,_,hcl3⟩:=EG (l:=l) (by rw[hlq];exact hro3);have HLoop:V (LoopOk g f (lp++l.take (l.length-1))):=HLo.out.close HOK.out HTP.out (by rw[<-HX.out];rw[<-HNN.out];exact hwo) (fun _ _=>rfl);have hnews:∀j u,(AK (l.take q))[j]? = Y u->w3.cell? ((⟨g3,0,Z⟩:Addr).add j)=Y u:=Mm hcl3 (by omega);have hone:∀u∈AK (l.take q),u.oneCell'=true:=fun u hu=>by
    obtain⟨y,_,rfl⟩:=vH.1 hu;rfl
   have hlen:(AK (l.take q)).length=q*1:=by simp[AK];omega
   have h63:l1+1+q<=maxLen:=by unfold maxLen;omega
   have hkb:(l1+1+q)*8<=140737488355328:=by omega
   have hbase:w.heap.size+2<=w3.heap.size:=by have:=hW3.size;omega
   have hlt3:=how3.lt;have hbw3:=hW3.below;have hlq':l.length-1=q:=by omega
   rw[hlq']at HLoop;have HLlen:V ((lp++l.take q).length=l1+1+q):=by show _=_;rw[qF,HLL.out,List.length_take];omega
   have hqc2:q+1<=vc3:=by omega
   clear hW3 hcl3 hro3 hwo HM hway hlq hlq' hmf hS;go_wp2_with (at_builtin;refine wpList_append_own _ rfl (.tmp 69) (.tmp 74) 43 rfl (w.heap.size+2) 3 i0 (.int W 0) 1 8 aD hi0 hz0 hz1 hz2 rfl (by decide) (X (Y ⟨gx,0,Z⟩) (l1+1) vc) (l1+1) _ rfl how3 ⟨g3,0,Z⟩ q vc3 (AK (l.take q)) rfl hlen hnews hone h63 hkb hbase ?_;intro v' w5 hown' hgrow _;obtain⟨vo5,vc5,rfl⟩:=Au hown')
   go_ret;refine⟨_,_,_,rfl,hbw3.grown hgrow hbw3.size (fun z hz=>by have:=(hlt3 z hz).1;omega),lp++l.take q,HLlen.out,by omega,HLoop.out,?_⟩;rw[AK,vJ];exact Az hown' (by omega)
  .have hmt2:¬(met:Int)=(tp:Int):=by omega
   go_wp2_with fail
   go_region_held3 (fun w'=>w'.cell? ⟨w.heap.size,0,Z⟩=Y (X so n sc)/\w'.cell? ⟨w.heap.size,1,Z⟩=Y (.int W gi)/\w'.cell? ⟨w.heap.size,2,Z⟩=Y (X (Y ⟨nb,noff,Z⟩) n nc)/\w'.cell? ⟨w.heap.size,3,Z⟩=Y (X (Y ⟨fb,foff,Z⟩) n bc)/\w'.cell? ⟨w.heap.size,4,Z⟩=Y (.int W gm)/\w'.cell? ⟨w.heap.size+1+1+1,0,Z⟩=Y (.int W (met:Int))/\w'.cell? ⟨gx,l1,Z⟩=Y (.int W (x:Int))/\w'.cell? ⟨nb,noff+x,Z⟩=Y (X uo ln uc))
    (exact hS _ (by first|exact(qD _ _).drew|exact qD _ _|exact C9 hb2))
    ((go_at_call 72;refine hal.mono ?_;rintro e w2 ⟨rfl,hb2⟩))
   have hb2':=C9 hb2;obtain⟨hW2,_,_⟩:=HS.out w2 hb2';have hbw2:=hW2.below;have hsz2:=hW2.size;have HB2:V (U wr.heap.size wr w2.drew):=hb2'.drew;have hno:¬DC ins (fun p=>decide (met ||| sN g p≠met)) (nxt g) (nxt g x):=by
    have:=HLo.out.more HOK.out (by rw[<-HNN.out];exact hf) HF.out HIn.out (by rw[<-HTP.out];exact hmt) (want:=fun p=>decide (met ||| sN g p≠met)) (fun _ _=>rfl);rw[<-HX.out]at this;exact this
   have hway:=HWay.out w2.drew uo uc x _ _ _ hbw2.drew hxn (HNv.out.below hbw2.drew) (TG w2.drew w.heap.size (Y ⟨fb,foff,Z⟩) bc n met g HOK.out HNN.out hsz2 hW2.c3 hW2.cm (by omega) (HSet.out w2.drew hbw2.drew)) hno;rw[<-HLN.out]at hway;clear hno hal hb2 hb2' HAll HWay hW2;go_wp2_with fail
   go_region_held3 (fun w'=>w'.cell? ⟨w.heap.size,0,Z⟩=Y (X so n sc)/\w'.cell? ⟨w.heap.size,1,Z⟩=Y (.int W gi)/\w'.cell? ⟨w.heap.size,2,Z⟩=Y (X (Y ⟨nb,noff,Z⟩) n nc)/\w'.cell? ⟨w.heap.size,3,Z⟩=Y (X (Y ⟨fb,foff,Z⟩) n bc)/\w'.cell? ⟨w.heap.size,4,Z⟩=Y (.int W gm)/\w'.cell? ⟨w.heap.size+1+1+1,0,Z⟩=Y (.int W (met:Int))/\w'.cell? ⟨gx,l1,Z⟩=Y (.int W (x:Int))/\w'.cell? ⟨nb,noff+x,Z⟩=Y (X uo ln uc))
    (exact hS _ (by first|exact HB2.out|exact ae HB2.out hb3))
    ((go_at_call 42;refine hway.mono ?_;rintro e w3 ⟨vo3,vc3,q3,rfl,hb3,HM⟩))
   obtain⟨l,hlq,hwo,hro3⟩:=HM.out;have hq3:0<q3:=by
    have:=hwo.ne;cases l with
    |nil=>exact absurd rfl this
    |cons a l=>simp at hlq;omega
   have hq20:q3<=20000:=by have:=hwo.len;omega
   obtain⟨g3,c3,hvv3,hg31,hg32⟩:=hro3.form hq3;injection hvv3 with e1 e2 e3;subst e1 e3;have hg31':w2.heap.size<=g3:=hg31;have hb23:U wr.heap.size wr w3:=ae HB2.out hb3;have HW3:V (LoopW w w3 w.heap.size so (Y ⟨nb,noff,Z⟩) (Y ⟨fb,foff,Z⟩) sc nc bc n gi gm f (orL (sN g) met (l.take 0)) (X (Y ⟨gx,0,Z⟩) (l1+1) vc) lp):=HLW.out.later hb23;have HRo:V (w3.ownsRow w2.heap.size 3 1 (X (Y ⟨g3,0,Z⟩) q3 vc3) q3 (AK l)):=hro3;obtain⟨HPut,hgrowm⟩:=HLo.out.put HIn.out (want:=fun p=>decide (met ||| sN g p≠met)) (l:=l) (by rw[<-HX.out,<-HNN.out];exact hwo) (fun _ _=>rfl);have HPu:V (LpOk g f (lp++l) (orL (sN g) met l)):=HPut;have HLin:V (∀j,j<q3->l.getD j 0<n):=fun j hj=>(hwo.ins _ (by rw[qC,qH (by omega)];exact qR _)).2;have HML:V (∀q,orL (sN g) met (l.take q)<2^mN g):=fun q=>JY _ _ hmlt (fun y hy=>HSN.out y (hwo.ins y (jD hy)).2);have HMS:V (∀q,q<q3->orL (sN g) met (l.take (q+1))=orL (sN g) met (l.take q) ||| sN g (l.getD q 0)):=fun q hq=>by
    rw[qT (by omega),Te,qC,qH (by omega)];rfl
   have HLq:V (l.length=q3):=hlq;clear hway HM hro3 hwo HPut hlq HB2 hS;go_wp2_with fail
   generalize wr=wo at *
   go_loopw [40] (fun i wr=>∃q:Nat,q<=q3/\i=.int W q/\V (LoopW w wr w.heap.size so (Y ⟨nb,noff,Z⟩) (Y ⟨fb,foff,Z⟩) sc nc bc n gi gm f (orL (sN g) met (l.take q)) (X (Y ⟨gx,0,Z⟩) (l1+1) vc) lp/\wr.ownsRow w2.heap.size 3 1 (X (Y ⟨g3,0,Z⟩) q3 vc3) q3 (AK l))) (fun i _=>q3-(intOf i).toNat)
   case atStart=>exact⟨0,qJ _,rfl,HW3.out,HRo.out⟩
   case round=>
    obtain⟨q,hq,rfl,HQ⟩:=hrel;obtain⟨hLWq,hroq⟩:=HQ.out;obtain⟨_,_,hclq⟩:=EG (l:=l) (by rw[HLq.out];exact hroq);by_cases hlq:q<q3
    .have e1:=hclq q (by rw[HLq.out];exact hlq);have hyn:=HLin.out q hlq;obtain⟨sb,soff,hsbe,hsb,e2⟩:=HSet.out wr hLWq.below (l.getD q 0) hyn;injection hsbe with hsbe;injection hsbe with hs1 hs2;subst hs1 hs2;have e3:=hLWq.c3;have e4:wr.cell? ⟨w.heap.size+1+1+1,0,Z⟩=Y (.int W (orL (sN g) met (l.take q):Int)):=hLWq.cm;have e5:wr.frozen? ⟨w.heap.size+1+1+1,0,Z⟩=false:=hLWq.fm;have hor:=HOr.out (orL (sN g) met (l.take q)) (HML.out q) (l.getD q 0) hyn;rw[<-HMS.out q hlq]at hor;have HN:V (LoopW w (wr.setCell ⟨w.heap.size+1+1+1,0,Z⟩ (.int W (orL (sN g) met (l.take (q+1)):Int))).drew w.heap.size so (Y ⟨nb,noff,Z⟩) (Y ⟨fb,foff,Z⟩) sc nc bc n gi gm f (orL (sN g) met (l.take (q+1))) (X (Y ⟨gx,0,Z⟩) (l1+1) vc) lp/\(wr.setCell ⟨w.heap.size+1+1+1,0,Z⟩ (.int W (orL (sN g) met (l.take (q+1)):Int))).drew.ownsRow w2.heap.size 3 1 (X (Y ⟨g3,0,Z⟩) q3 vc3) q3 (AK l)):=by
      have h9:=hLWq.setMet (orL (sN g) met (l.take (q+1)));have h10:LoopW w (wr.setCell ⟨w.heap.size+1+1+1,0,Z⟩ (.int W (orL (sN g) met (l.take (q+1)):Int))).drew w.heap.size so (Y ⟨nb,noff,Z⟩) (Y ⟨fb,foff,Z⟩) sc nc bc n gi gm f (orL (sN g) met (l.take (q+1))) (X (Y ⟨gx,0,Z⟩) (l1+1) vc) lp:=h9.blocks h9.below.drew (qB _) rfl rfl rfl h9.ow h9.ap;exact⟨h10,ownsRow_setCell_below hroq (by show w.heap.size+3<_;omega) _⟩
     rw[<-hor]at HN;clear hLWq hroq hclq HQ hor;generalize orL (sN g) met (l.take q)=mq at *;generalize l.getD q 0=y at *;generalize sN g y=sy at *
     go_upto_region 8 with fail
     go_region
     go_wp2_with fail
     go_roundw
     case rel=>exact⟨q+1,hlq,by go_num,HN⟩
     case measure=>simp[intOf];omega
    .obtain rfl:q=q3:=by omega
     have hTk:l.take q=l:=by rw[<-HLq.out];exact vI
     have hnews:∀j u,(AK l)[j]? = Y u->wr.cell? ((⟨g3,0,Z⟩:Addr).add j)=Y u:=by
      have:=Mm hclq (qB l.length);rw[vI]at this;exact this
     rw[hTk]at hLWq;have hone:∀u∈AK l,u.oneCell'=true:=fun u hu=>by
      obtain⟨y,_,rfl⟩:=vH.1 hu;rfl
     have hlen:(AK l).length=q*1:=by simp[AK];exact HLq.out
     have h63:l1+1+q<=maxLen:=by unfold maxLen;omega
     have hkb:(l1+1+q)*8<=140737488355328:=by omega
     have hszq:=hLWq.size;have hbase:w.heap.size+2<=wr.heap.size:=by omega
     have howq:wr.ownsRow (w.heap.size+2) 3 1 (X (Y ⟨gx,0,Z⟩) (l1+1) vc) (l1+1) (AK lp):=by
      have:=hLWq.ow;rw[HLL.out]at this;exact this
     have HLWq:V (LoopW w wr w.heap.size so (Y ⟨nb,noff,Z⟩) (Y ⟨fb,foff,Z⟩) sc nc bc n gi gm f (orL (sN g) met l) (X (Y ⟨gx,0,Z⟩) (l1+1) vc) lp):=hLWq;have HG:V (met<orL (sN g) met l/\orL (sN g) met l<64):=⟨hgrowm,by have:=HML.out q;rw[hTk]at this;omega⟩;clear hLWq hroq hclq HQ;go_wp2_with (at_builtin;refine wpList_append_lies _ rfl (.tmp 52) (.tmp 53) 43 rfl (w.heap.size+2) 3 i0 (.int W 0) 1 8 aD hi0 hz0 hz1 hz2 rfl (by decide) (X (Y ⟨gx,0,Z⟩) (l1+1) vc) (l1+1) _ rfl howq ⟨g3,0,Z⟩ q vc3 (AK l) rfl hlen hnews hone hq3 h63 hkb hbase _ rfl ?_;intro g5 c5 w5 hown5 hgrow5 hor5 _)
     have hap:=HLWq.out.ap;have hlt9:=howq.lt;have hgx2:w.heap.size+2<=gx/\gx<wr.heap.size:=hlt9 gx rfl;have hgx3:gx≠w.heap.size+3:=fun e=>hap (by rw[e];rfl);have hW5:LoopW w w5 w.heap.size so (Y ⟨nb,noff,Z⟩) (Y ⟨fb,foff,Z⟩) sc nc bc n gi gm f (orL (sN g) met l) (X (Y ⟨g5,0,Z⟩) (l1+1+q) c5) (lp++l):=by
      have hbl:∀i,i<wr.heap.size->i≠gx->w5.heap[i]? = wr.heap[i]?:=fun i hi hne=>hgrow5.block i hi (fun e=>hne (by injection e));refine HLWq.out.blocks (HLWq.out.below.grown hgrow5 (by omega) (fun z hz=>by have:=(hlt9 z hz).1;omega)) hgrow5.size (hbl _ (by omega) (by omega)) (hbl _ (by omega) (by omega)) (hbl _ (by omega) (fun e=>hgx3 e.symm)) ?_ ?_
      .rw[qF,HLL.out,HLq.out,AK,vJ];exact hown5
      .intro e;have e':g5=w.heap.size+3:=by injection e
       rcases hor5 with h|h
       .rw[e']at h;exact hap h
       .omega
     have HN:V (∃(lp:List Nat) (met:Nat),lp.length=l1+1+q/\LpOk g f lp met/\(64-orL (sN g) (64-gk) l)+met=64/\l1+1+q<=1+met*20000/\LoopW w w5 w.heap.size so (Y ⟨nb,noff,Z⟩) (Y ⟨fb,foff,Z⟩) sc nc bc n gi gm f met (X (Y ⟨g5,0,Z⟩) (l1+1+q) c5) lp):=by
      have h1:=HG.out;have h2:64-gk=met:=by have:=HKM.out;omega
      refine⟨lp++l,orL (sN g) met l,by rw[qF,HLL.out,HLq.out],HPu.out,by rw[h2];omega,by omega,hW5⟩
     go_roundg (64-orL (sN g) (64-gk) l)
     case measure=>
      have h1:=HG.out;have h2:64-gk=met:=by have:=HKM.out;omega
      rw[h2];have:=HKM.out;omega
     case rel=>exact⟨l1+1+q,HN⟩
