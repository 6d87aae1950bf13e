/- Joined texts. -/
import Derived.Test.YtehfhemidmfffaaGreatDoorLateD
open Go renaming World→M,Value→L,Calls→F
open Go.Ending renaming returned→J
open Go.IntKind renaming i64→V
open Go.Obj renaming cells→O
open Go.RowKit renaming Below→U,Hid→I
open Go.Value renaming slice→Z,agg→G,tuple→f,pointer→E,int→C
open _root_.Bool renaming false→H
open _root_.Option renaming none→Y,some→W
namespace Go.Proofs.YtehfhemidmfffaaGreatDoor
open _root_.Array renaming getElem?_eq_getElem→qN,getElem?_eq_none→xR,size_setIfInBounds→jD
open Go.RowKit.Below renaming refl→qD
open _root_.Bool renaming and_eq_true→qK,eq_iff_iff→jG
open _root_.Int renaming add_mul_emod_self_right→zK,emod_eq_of_lt→yS
open _root_.List renaming all_eq_true→vY,any_eq_true→vB,getD_eq_getElem?_getD→qC,getElem?_eq_getElem→qH,getElem_mem→qT,length_append→qF,mem_append→qL,mem_range→vE,mem_singleton→vI
open _root_.Nat renaming blt_eq→jX,le_refl→qB,le_trans→qI,lt_of_lt_of_le→qE,lt_or_ge→vP,pow_le_pow_right→vG
open Go.Proofs.Tryz renaming prog→qA
open Go.ChangeShapes Go.WideShapes Go.ChangeAt Go.RowKit Go.Deep Go.Maps
open Terms Tm
set_option maxHeartbeats 6400000
set_option maxRecDepth 20000
theorem Qt:(qA.info? 43).map (fun i=>(i.zero,i.size,i.bytes))=W (W (Z Y 0 0),1,24):=by kernel_rfl
theorem J2{l:List (Int×Int)}{x:List Bool}{c:Int}{y:List Bool}{st:Int}{p:Int×Int}:∀k,p∈CU l x c y st k->p.1=st/\∃d:Nat,d<k/\p.2=(d:Int)/\A8 l x c y (d:Int)=true
 |0,h=>by simp[CU]at h
 |k+1,h=>by
  rw[CU]at h;split at h
  .next hf=>
   rw[qL,vI]at h;rcases h with h|rfl
   .obtain ⟨h1,d,h2,h3⟩:=J2 k h;exact⟨h1,d,by omega,h3⟩
   .exact ⟨rfl,k,by omega,rfl,hf⟩
  .obtain ⟨h1,d,h2,h3⟩:=J2 k h;exact⟨h1,d,by omega,h3⟩
theorem Nh{m:Mo}{ps:List (List (Int×Int))}{l:List (Int×Int)}{code c:Int}{p:Int×Int}:∀i,i<=(AL m code).length->p∈C1 m ps l code c i->p.1∈AL m code/\∃d:Nat,d<2^(AA l).length/\p.2=(d:Int)/\A8 l (AJ m ps code) c (AJ m ps p.1) (d:Int)=true
 |0,_,h=>by simp[C1]at h
 |i+1,hi,h=>by
  rw[C1,qL]at h;rcases h with h|h
  .exact Nh i (by omega) h
  .obtain ⟨h1,d,h2,h3,h4⟩:=J2 _ h;refine⟨?_,d,h2,h3,by rw[h1];exact h4⟩;rw[h1,qC,qH (by omega)];exact qT _
theorem KR{m:Mo}{ps:List (List (Int×Int))}{l:List (Int×Int)}{code c:Int}(hm:mcode m=0)(hcr:0<=code/\code<AK m.vars m.vars.length){p:Int×Int}(h:p∈AX m ps l code c):(0<=p.1/\p.1<AK m.vars m.vars.length)/\∃d:Nat,d<2^(AA l).length/\p.2=(d:Int):=by
 obtain⟨h1,d,h2,h3,_⟩:=Nh _ (qB _) h;exact⟨Iy hm hcr h1,d,h2,h3⟩
theorem H9{m:Mo}{ps:List (List (Int×Int))}{l:List (Int×Int)}{code c:Int}(hm:mcode m=0)(hcr:0<=code/\code<AK m.vars m.vars.length)(h6:(AA l).length<=6):(AX m ps l code c).length<=262144:=by
 have h1:=IA (m:=m) (ps:=ps) (l:=l) (vG (show 0<2 by decide) h6) code c (AL m code).length;have h2:=Lz hm hcr;unfold AX;omega
theorem ND{m:Mo}{ps:List (List (Int×Int))}{l:List (Int×Int)}(hk:Ad m ps l=0){p:Int×Int}(h:(0<=p.1/\p.1<AK m.vars m.vars.length)/\∃d:Nat,d<2^(AA l).length/\p.2=(d:Int)):Co p:=by
 obtain⟨hp0,hl0⟩:=BX hk;obtain⟨hm0,_⟩:=Ck hp0;obtain⟨_,_,_,_,h6⟩:=CC hl0;have hpr:=((Cu hm0).prod (qB m.vars.length)).2;have hN64:2^(AA l).length<=64:=vG (show 0<2 by decide) h6;obtain⟨h1,d,h2,h3⟩:=h;unfold Co;omega
def Hq(w0:M)(base A lm B bs bl n:Nat)(va vr pv fv:L)(m:Mo)(ps:List (List (Int×Int)))(l:List (Int×Int))(ho:Option Addr)(hc:Nat)(S:List (Int×Int))(N:List (List Int))(T:List Int)(init many:Int)(code:Int)(c:Nat)(e:Ending)(w':M):Prop:=
 e=J (.int V (if 20000<(AG S (AX m ps l code (c:Int))).length then 12 else 0))/\∃sv nv tv,I (ExW w0 w' base A lm B bs bl (n+300001) va vr pv fv m ps l ho hc (AG S (AX m ps l code (c:Int))) (N++[Cl S (AX m ps l code (c:Int))]) (T++[B1 l (AJ m ps code) (c:Int)]) init many sv nv tv)
theorem Qc(w0 w:M)(base A lm B bs bl n:Nat)(va vr pv fv:L)(m:Mo)(ps:List (List (Int×Int)))(l:List (Int×Int))(ho:Option Addr)(hc:Nat)(S:List (Int×Int))(N:List (List Int))(T:List Int)(init many:Int)(sv nv tv:L)(code:Int)(c:Nat)(hB:0<w0.heap.size)(hT:AH w0)(hV:TaskV w0 va vr pv fv m ps l)(hk:Ad m ps l=0)(hX:ExW w0 w base A lm B bs bl n va vr pv fv m ps l ho hc S N T init many sv nv tv)(hn:n+600000<1000000000000)(hcr:0<=code/\code<AK m.vars m.vars.length)(hcN:c<2^(AA l).length)(hzS:S.length<=20000)(hzN:N.length<=20000)(hzT:T.length<=20000) :
  F qA 19 #[E (W ⟨A,0,Y⟩),E (W ⟨B,0,Y⟩),G #[C V code,.int V (c:Int)]] w (Hq w0 base A lm B bs bl n va vr pv fv m ps l ho hc S N T init many code c):=by
 obtain⟨hp0,hl0⟩:=BX hk;obtain⟨hm0,_⟩:=Ck hp0;obtain⟨_,_,_,_,h6⟩:=CC hl0;have hpr:=((Cu hm0).prod (qB m.vars.length)).2;have hI:-9223372036854775808<=code/\code<=9223372036854775807:=by omega
 have hbl:=H9 (ps:=ps) (c:=(c:Int)) hm0 hcr h6;have hIs:∀j,j<(AX m ps l code (c:Int)).length->Co ((AX m ps l code (c:Int)).getD j (0,0)):=fun j hj=>ND hk (KR hm0 hcr (c:=(c:Int)) (ps:=ps) (by rw[qC,qH hj];exact qT _));have hw0:=D7 hm0 hcr;obtain⟨W1,hW1⟩:∃W1,W1=w.alloc (O #[C V code,.int V (c:Int)] 82):=⟨_,rfl⟩;have hb1:U w.heap.size w W1:=by rw[hW1];exact(qD _ _).alloc (qB _) _
 have hs1:W1.cell? ⟨w.heap.size,0,Y⟩=W (.int V code)/\W1.cell? ⟨w.heap.size,1,Y⟩=W (.int V (c:Int)):=by rw[hW1];constructor<;>simp[go_sem]
 have hX1:=hX.below hb1;have hbe:F qA 34 #[E (W ⟨B,0,Y⟩),G #[C V code,.int V (c:Int)]] W1 fun e w2=>∃so sc,e=J (f #[.slice so (AX m ps l code (c:Int)).length sc,.int V 0])/\(w2.cell? ⟨w.heap.size,0,Y⟩=W (.int V code)/\w2.cell? ⟨w.heap.size,1,Y⟩=W (.int V (c:Int)))/\I (ExW w0 w2 base A lm B bs bl (n+300000) va vr pv fv m ps l ho hc S N T init many sv nv tv/\SpO w2 W1.heap.size (.slice so (AX m ps l code (c:Int)).length sc) (AX m ps l code (c:Int))):=
  (OZ w0 W1 B bs bl n va vr pv fv m ps l ho hc code c hI hB hT hV hk hX1.su (by omega) hcr hcN).mono fun e w2 ⟨h1,h2,h3⟩=>by
   rcases h3 with⟨_,so,sc,h4,h5⟩|⟨h4,_⟩
   .exact ⟨so,sc,h4,⟨h1.cell hX1.su.two hs1.1,h1.cell hX1.su.two hs1.2⟩,hX1.call h1 h2.out,h5.out⟩
   .exact absurd hw0 h4
 have HMe:I (∀w2,ExW w0 w2 base A lm B bs bl (n+300000) va vr pv fv m ps l ho hc S N T init many sv nv tv->F qA 35 #[E (W ⟨B,0,Y⟩),G #[C V code,.int V (c:Int)]] w2 fun e w3=>e=J (f #[C V (B1 l (AJ m ps code) (c:Int)),.int V 0])/\I (ExW w0 w3 base A lm B bs bl (n+300001) va vr pv fv m ps l ho hc S N T init many sv nv tv/\∀so sc,SpO w2 W1.heap.size (.slice so (AX m ps l code (c:Int)).length sc) (AX m ps l code (c:Int))->SpO w3 W1.heap.size (.slice so (AX m ps l code (c:Int)).length sc) (AX m ps l code (c:Int)))):=fun w2 hx=>
  (Rz w0 w2 B bs bl (n+300000) va vr pv fv m ps l ho hc code c hI hB hT hV hk hx.su (by omega) hcr hcN).mono fun e w3 ⟨h1,h2,h3⟩=>⟨h1,hx.call h2 h3.out,fun so sc h=>h.sk h2 hx.su.two⟩
 have HPl:I (∀w3 so sc,ExW w0 w3 base A lm B bs bl (n+300001) va vr pv fv m ps l ho hc S N T init many sv nv tv->SpO w3 W1.heap.size (.slice so (AX m ps l code (c:Int)).length sc) (AX m ps l code (c:Int))->F qA 18 #[E (W ⟨A,0,Y⟩),.slice so (AX m ps l code (c:Int)).length sc] w3.drew fun e w4=>e=J (Z (W ⟨w3.heap.size,0,Y⟩) (AX m ps l code (c:Int)).length (AX m ps l code (c:Int)).length)/\∃us sv',w4.cell? ⟨A,2,Y⟩=W nv/\(w4.alloc (O #[Z (W ⟨w3.heap.size,0,Y⟩) (AX m ps l code (c:Int)).length (AX m ps l code (c:Int)).length] 43)).cell? ⟨A,2,Y⟩=W nv/\(w4.alloc (O #[Z (W ⟨w3.heap.size,0,Y⟩) (AX m ps l code (c:Int)).length (AX m ps l code (c:Int)).length] 43)).ownsRow base 43 1 nv N.length us/\base<=(w4.alloc (O #[Z (W ⟨w3.heap.size,0,Y⟩) (AX m ps l code (c:Int)).length (AX m ps l code (c:Int)).length] 43)).heap.size/\I (∀g cap w9,World.ownsRow w9 base 43 1 (Z (W ⟨g,0,Y⟩) (N.length+1) cap) (N.length+1) (us++[Z (W ⟨w3.heap.size,0,Y⟩) (AX m ps l code (c:Int)).length (AX m ps l code (c:Int)).length])->(w4.alloc (O #[Z (W ⟨w3.heap.size,0,Y⟩) (AX m ps l code (c:Int)).length (AX m ps l code (c:Int)).length] 43)).grownBy w9 nv.ownBlock->(w9.cell? ⟨A,2,Y⟩=W nv/\w9.frozen? ⟨A,2,Y⟩=H)/\ExW w0 (w9.setCell ⟨A,2,Y⟩ (Z (W ⟨g,0,Y⟩) (N.length+1) cap)) base A lm B bs bl (n+300001) va vr pv fv m ps l ho hc (AG S (AX m ps l code (c:Int))) (N++[Cl S (AX m ps l code (c:Int))]) T init many sv' (Z (W ⟨g,0,Y⟩) (N.length+1) cap) tv)):=fun w3 so sc hx hsp=>by
  have hbd:U w3.heap.size w3 w3.drew:=(qD _ _).drew;have hx3:=hx.below hbd;have hsp3:=hsp.later hbd (qB _);have hsep:∀a,so=W a->¬atZ A lm sv a.block:=fun a e z=>by
   have hge:=MI hsp a _ _ (by rw[e]);rcases z with z|z|z
   .have:=hX1.tl.lt;omega
   .have:=hX1.tl.lies.lt;omega
   .have:=(Au hX1.tl.sp z).2.lt;omega
  refine(MU w3.drew base A lm S N T init many sv nv tv _ so sc hx3.tl hsp3.v hsep hIs (by omega)).mono fun e w4 ⟨h1,sv',h2,h3,h4,h5,h6⟩=>?_;have hx4:=hx3.put h5 h2;have hba:U w4.heap.size w4 (w4.alloc (O #[Z (W ⟨w3.heap.size,0,Y⟩) (AX m ps l code (c:Int)).length (AX m ps l code (c:Int)).length] 43)):=(qD _ _).alloc (qB _) _;have hx5:=hx4.below hba;obtain⟨us,hus⟩:=id hx5.tl.nx;have hbs3:base<=w3.heap.size:=hx.tl.base_le;refine⟨h1,us,sv',(Cz hx4.tl.box).2.2.1,(Cz hx5.tl.box).2.2.1,hus.1,hx5.tl.base_le,fun g cap w9 g1 g2=>⟨?_,?_⟩⟩
  .have hbx:w9.heap[A]? = W (atB sv' nv tv init many lm):=(g2.block A hx5.tl.lt fun e=>by have:=hx5.tl.ty.eq (Au hus.1 e.symm).2;exact absurd this (by decide)).trans hx5.tl.box;exact⟨(Cz hbx).2.2.1,Hx hbx 2⟩
  .have e:(AX m ps l code (c:Int)).length=(Cl S (AX m ps l code (c:Int))).length:=(Gv _ _).symm;have hr5:=h3.below hba;have ht5:=h4.below hba;have hr6:IntsV (w4.alloc (O #[Z (W ⟨w3.heap.size,0,Y⟩) (AX m ps l code (c:Int)).length (AX m ps l code (c:Int)).length] 43)) (Z (W ⟨w3.heap.size,0,Y⟩) (Cl S (AX m ps l code (c:Int))).length (AX m ps l code (c:Int)).length) (Cl S (AX m ps l code (c:Int))):=by rw[<-e];exact hr5
   have ht6:Ae (w4.alloc (O #[Z (W ⟨w3.heap.size,0,Y⟩) (AX m ps l code (c:Int)).length (AX m ps l code (c:Int)).length] 43)) (Z (W ⟨w3.heap.size,0,Y⟩) (Cl S (AX m ps l code (c:Int))).length (AX m ps l code (c:Int)).length) 3:=by rw[<-e];exact ht5
   refine hx5.appN hus hr6 ht6 (fun a ea=>?_) g2 (by rw[<-e];exact g1);injection ea with ea;subst ea;refine⟨fun e2=>?_,hbs3⟩;have:=(Au hx.tl.st e2).2.lt;simp only at this;omega
 clear hX hX1 hT hV hk hp0 hl0 hm0 hIs hw0;unfold Hq;generalize AX m ps l code (c:Int)=beh at *;generalize B1 l (AJ m ps code) (c:Int)=mt at *;have HPn:I (∀w' sv nv tv N T n,ExW w0 w' base A lm B bs bl n va vr pv fv m ps l ho hc (AG S beh) N T init many sv nv tv->∃vo vc,sv=.slice vo (AG S beh).length vc):=fun w' sv nv tv N T n h=>h.tl.sp.shape
 have hpn:(AG S beh).length<=300000:=by have:=(Gx beh S).2;omega
 generalize AG S beh=PS at *;generalize Cl S beh=PI at *;generalize hbn:beh.length=bn at *;have HTs:I (∀w' sv nv n S N,ExW w0 w' base A lm B bs bl n va vr pv fv m ps l ho hc S N T init many sv nv tv->∃xo xc,tv=.slice xo T.length xc):=fun w' sv nv n S N h=>A1 h.tl.st
 have HNs:I (∀w',ExW w0 w' base A lm B bs bl (n+300000) va vr pv fv m ps l ho hc S N T init many sv nv tv->∃xo xc,nv=.slice xo N.length xc):=fun w' h=>by
  obtain⟨us,h1,_⟩:=h.tl.nx;exact A1 h1
 obtain⟨i0,hi,hz0,hz1,hz2⟩:=info_parts Qt;obtain⟨j0,hj,jz0,jz1,jz2⟩:=info_parts Ba;go_enter Tryz.func19,Tryz.ntmps19;go_upto_region 7 with(first|(go_at_call 34;rw[<-hW1];refine hbe.mono ?_;rintro e w2 ⟨so,sc,rfl,⟨b0,b1⟩,HX2⟩;have hme:=HMe.out w2 HX2.out.1)|(go_at_call 35;refine hme.mono ?_;rintro e w3 ⟨rfl,HX3⟩))
 have hpl:=HPl.out w3 so sc HX3.out.1 (HX3.out.2 so sc HX2.out.2);have a2:w3.cell? ⟨A,2,Y⟩=W nv:=(Cz HX3.out.1.tl.box).2.2.1;obtain⟨no,nc,rfl⟩:=HNs.out w2 HX2.out.1;clear hbe hme HMe HPl HX2 HX3 HNs hs1 b0 b1;go_cut [] (fun wx=>∃sv' nv',I (ExW w0 wx base A lm B bs bl (n+300001) va vr pv fv m ps l ho hc PS (N++[PI]) T init many sv' nv' tv))
 case first=>
  go_region_law (first
   |(refine step_append_lies _ (by rfl) (.tmp 33) (.tmp 37) 42 (by rfl) base 43 i0 _ 1 24 Tryz.underlying42 hi hz0 hz1 hz2 (by rfl) (by decide) (.slice no N.length nc) N.length us (by rfl) hown4 ⟨w4.heap.size,0,Y⟩ 1 1 [Z (W ⟨w3.heap.size,0,Y⟩) bn bn] (by rfl) (by rfl) (cell_one_new _ _ _) (by intro u hu;simp at hu;subst hu;rfl) (by decide) (by unfold maxLen;omega) (by omega) hba4 _ rfl ?_;intro g9 cap9 w9 hown hgrow hat hlt9;obtain⟨⟨z0,zf⟩,hx9⟩:=HN4.out g9 cap9 w9 hown hgrow;have HX9:=(show I _ from hx9);clear hx9 hown hgrow hat)
   |(go_simp;go_at_call 18;refine hpl.mono ?_;rintro e w4 ⟨rfl,us,sv4,y0,y1,hown4,hba4,HN4⟩))
  all_goals go_wp2_with fail
  all_goals go_meet
  all_goals exact⟨_,_,HX9⟩
 case rest=>
  obtain⟨sv5,nv5,HX5⟩:=hcut;obtain⟨xo,xc,rfl⟩:=HTs.out wc sv5 nv5 _ PS _ HX5.out;obtain⟨vo5,vc5,rfl⟩:=HPn.out wc _ _ _ _ _ _ HX5.out;have hba:U wc.heap.size wc (wc.alloc (O #[C V mt] 3)):=(qD _ _).alloc (qB _) _;have hx6:=HX5.out.below hba;have hown6:World.ownsRow (wc.alloc (O #[C V mt] 3)) base 3 1 (.slice xo T.length xc) T.length (AB T):=hx6.tl.st;have hbs6:=hx6.tl.base_le;have a3:wc.cell? ⟨A,3,Y⟩=W (.slice xo T.length xc):=(Cz HX5.out.tl.box).2.2.2.1;have HT6:I (∀g cap w9,World.ownsRow w9 base 3 1 (Z (W ⟨g,0,Y⟩) (T.length+1) cap) (T.length+1) (AB T++[.int V mt])->(wc.alloc (O #[C V mt] 3)).grownBy w9 (Value.slice xo T.length xc).ownBlock->((Value.slice xo T.length xc).ownBlock=W g\/g=(wc.alloc (O #[C V mt] 3)).heap.size)->(w9.cell? ⟨A,3,Y⟩=W (.slice xo T.length xc)/\w9.frozen? ⟨A,3,Y⟩=H)/\(w9.setCell ⟨A,3,Y⟩ (Z (W ⟨g,0,Y⟩) (T.length+1) cap)).cell? ⟨A,0,Y⟩=W (.slice vo5 PS.length vc5)/\I (ExW w0 (w9.setCell ⟨A,3,Y⟩ (Z (W ⟨g,0,Y⟩) (T.length+1) cap)) base A lm B bs bl (n+300001) va vr pv fv m ps l ho hc PS (N++[PI]) (T++[mt]) init many (.slice vo5 PS.length vc5) nv5 (Z (W ⟨g,0,Y⟩) (T.length+1) cap))):=fun g cap w9 h1 h2 h3=>by
   have hbx:w9.heap[A]? = W (atB (.slice vo5 PS.length vc5) nv5 (.slice xo T.length xc) init many lm):=(h2.block A hx6.tl.lt fun e=>by have:=hx6.tl.ty.eq (Au hx6.tl.st e.symm).2;exact absurd this (by decide)).trans hx6.tl.box;have hxx:=hx6.appT h2 h1 (by
    rcases h3 with h|h
    .exact .inl (by rw[h];rfl)
    .exact .inr ⟨g,rfl,by omega⟩)
   exact⟨⟨(Cz hbx).2.2.2.1,Hx hbx 3⟩,(Cz hxx.tl.box).1,hxx⟩
  clear hx6 HX5 HTs HPn;by_cases hfull:20000<PS.length
  .have hfi:(20000:Int)<(PS.length:Int):=by omega
   go_wp2_with (first|(at_builtin;refine wpList_append_lies _ rfl (.tmp 47) (.tmp 49) 43 rfl base 3 j0 _ 1 8 Tryz.underlying43 hj jz0 jz1 jz2 rfl (by decide) (.slice xo T.length xc) T.length (AB T) rfl hown6 ⟨wc.heap.size,0,Y⟩ 1 1 [.int V mt] rfl rfl (cell_one_new _ _ _) (by intro u hu;simp at hu;subst hu;rfl) (by decide) (by unfold maxLen;omega) (by omega) hbs6 _ rfl ?_;intro g9 cap9 w9 hown hgrow hat hlt9;obtain⟨⟨z0,zf⟩,z1,HX9⟩:=HT6.out g9 cap9 w9 hown hgrow hat;clear hown hgrow hat))
   go_ret;exact⟨by first|rfl|simp[hfull],_,_,_,HX9⟩
  .have hfi:¬(20000:Int)<(PS.length:Int):=by omega
   go_wp2_with (first|(at_builtin;refine wpList_append_lies _ rfl (.tmp 47) (.tmp 49) 43 rfl base 3 j0 _ 1 8 Tryz.underlying43 hj jz0 jz1 jz2 rfl (by decide) (.slice xo T.length xc) T.length (AB T) rfl hown6 ⟨wc.heap.size,0,Y⟩ 1 1 [.int V mt] rfl rfl (cell_one_new _ _ _) (by intro u hu;simp at hu;subst hu;rfl) (by decide) (by unfold maxLen;omega) (by omega) hbs6 _ rfl ?_;intro g9 cap9 w9 hown hgrow hat hlt9;obtain⟨⟨z0,zf⟩,z1,HX9⟩:=HT6.out g9 cap9 w9 hown hgrow hat;clear hown hgrow hat))
   go_ret;exact⟨by first|rfl|simp[hfull],_,_,_,HX9⟩
variable{Pz:Nat -> Prop}
theorem SvOk.made{w0 w w':M}{n:Nat}{va vr pv fv:L}{m:Mo}{ps:List (List (Int×Int))}{l:List (Int×Int)}{ho:Option Addr}{hc:Nat}(hb:U w0.heap.size w0 w)(hb2:U w.heap.size w w')(hn:w.heap.size<=n)(hs:SurvAt w' (n+2) va vr pv fv (.slice ho (AA l).length hc) n (n+1))
  (ho':w'.ownsRow w.heap.size 3 1 (.slice ho (AA l).length hc) (AA l).length (AB (AA l))) (h1:w'.heap[n]? = W (.map #[] 0)) (h2:w'.heap[n+1]? = W (.map #[] 0)):SvOk (fun _=>True) w0 w' (n+2) n (n+1) 0 va vr pv fv m ps l ho hc:=by
 have:=hb.size;exact⟨hs,hb.trans (hb2.mono hb.size),by omega,by omega,by omega,Dv ho',Ae.owns ho',fun _ _=>trivial,fun _ _=>trivial,⟨_,MapIs.new _ h1,fun kl v h=>by simp at h⟩,⟨_,MapIs.new _ h2,fun kl v h=>by simp at h⟩⟩
def Bi(m:Mo)(l:List (Int×Int))(p:Int×Int):Prop:=(0<=p.1/\p.1<AK m.vars m.vars.length)/\∃d:Nat,d<2^(AA l).length/\p.2=(d:Int)
noncomputable def A9(m:Mo)(ps:List (List (Int×Int)))(l:List (Int×Int))(p:Int×Int):List (Int×Int):=AX m ps l p.1 p.2
noncomputable def xpP(m:Mo)(ps:List (List (Int×Int)))(l:List (Int×Int))(k:Nat):List (Int×Int):=exS (AC m ps l) (A9 m ps l) k
noncomputable def B7(m:Mo)(ps:List (List (Int×Int)))(l:List (Int×Int))(k:Nat):Int×Int:=(xpP m ps l k).getD k (0,0)
noncomputable def xpN(m:Mo)(ps:List (List (Int×Int)))(l:List (Int×Int)):Nat->List (List Int)
 |0=>[]
 |k+1=>xpN m ps l k++[Cl (xpP m ps l k) (A9 m ps l (B7 m ps l k))]
noncomputable def xpT(m:Mo)(ps:List (List (Int×Int)))(l:List (Int×Int)):Nat->List Int
 |0=>[]
 |k+1=>xpT m ps l k++[B1 l (AJ m ps (B7 m ps l k).1) (B7 m ps l k).2]
section
variable{m:Mo}{ps:List (List (Int×Int))}{l:List (Int×Int)}
theorem Hn(k:Nat):xpP m ps l (k+1)=AG (xpP m ps l k) (A9 m ps l (B7 m ps l k)):=rfl
theorem DT:∀k,(xpN m ps l k).length=k
 |0=>rfl
 |k+1=>by rw[xpN,qF,DT k];rfl
theorem Dg:∀k,(xpT m ps l k).length=k
 |0=>rfl
 |k+1=>by rw[xpT,qF,Dg k];rfl
theorem Hm{p:Int×Int}:∀k,p∈CA m ps l k->p.1=B9 m/\∃d:Nat,d<k/\p.2=(d:Int)/\tru l (AJ m ps (B9 m)) (d:Int) 0≠true
 |0,h=>by simp[CA]at h
 |k+1,h=>by
  rw[CA]at h;split at h
  .obtain ⟨h1,d,h2,h3⟩:=Hm k h;exact⟨h1,d,by omega,h3⟩
  .next hf=>
   rw[qL,vI]at h;rcases h with h|rfl
   .obtain ⟨h1,d,h2,h3⟩:=Hm k h;exact⟨h1,d,by omega,h3⟩
   .exact ⟨rfl,k,by omega,rfl,hf⟩
theorem KQ(hk:Ad m ps l=0){p:Int×Int}(h:p∈AC m ps l):Bi m l p:=by
 obtain⟨h1,d,h2,h3,_⟩:=Hm _ h;exact⟨by rw[h1];exact Jk hk,d,h2,h3⟩
theorem V4(hk:Ad m ps l=0){s p:Int×Int}(hs:Bi m l s)(h:p∈A9 m ps l s):Bi m l p:=KR (Ck (BX hk).1).1 hs.1 h
theorem Nr(hk:Ad m ps l=0):∀p∈xpP m ps l 0,Bi m l p:=fun p hp=>by
 rcases(EX _ _ _).1 hp with h|h
 .exact absurd h List.not_mem_nil
 .exact KQ hk h
theorem J3{k:Nat}(h:k<(xpP m ps l k).length):B7 m ps l k∈xpP m ps l k:=by
 unfold B7;rw[qC,qH h];exact qT _
theorem Nq(hk:Ad m ps l=0){k:Nat}(hl:k<(xpP m ps l k).length)(h:∀p∈xpP m ps l k,Bi m l p):∀p∈xpP m ps l (k+1),Bi m l p:=fun p hp=>by
 rw[Hn]at hp;rcases(EX _ _ _).1 hp with h1|h1
 .exact h p h1
 .exact V4 hk (h _ (J3 hl)) h1
end
def BG(m:Mo)(ps:List (List (Int×Int)))(l:List (Int×Int))(K:Nat):Prop:=(xpP m ps l K).length=K/\K<=20000/\(∀j,j<K->j<(xpP m ps l j).length)/\∀p∈xpP m ps l K,Bi m l p
def Ej(m:Mo)(ps:List (List (Int×Int)))(l:List (Int×Int)):Prop:=∃k,(∀j,j<=k->j<(xpP m ps l j).length)/\20000<(xpP m ps l (k+1)).length
def GrX(w:M)(base:Nat)(m:Mo)(ps:List (List (Int×Int)))(l:List (Int×Int))(K:Nat)(sv nv tv:L):Prop:=SpO w base sv (xpP m ps l K)/\LsAt w base nv tv (xpN m ps l K)/\w.ownsRow base 3 1 tv (xpT m ps l K).length (AB (xpT m ps l K))
def FM(w:M)(m:Mo)(ps:List (List (Int×Int)))(l:List (Int×Int))(e:Ending)(w':M):Prop:=
 (Ad m ps l=0/\∃K,BG m ps l K/\∃sv nv tv,e=J (f #[G #[sv,.int V ((AC m ps l).length:Nat),nv,tv,.int V ((AA l).length:Nat)],.int V 0])/\U w.heap.size w w'/\I (GrX w' w.heap.size m ps l K sv nv tv))\/
 (Ad m ps l=0/\Ej m ps l/\e=J (f #[G #[Z Y 0 0,.int V 0,Z Y 0 0,Z Y 0 0,.int V 0],.int V 12])/\U w.heap.size w w')\/
 (Ad m ps l≠0/\e=J (f #[G #[Z Y 0 0,.int V 0,Z Y 0 0,Z Y 0 0,.int V 0],.int V (Ad m ps l)])/\U w.heap.size w w')
def grB(sv nv tv:L)(init many:Int):Obj:=O #[sv,.int V init,nv,tv,.int V many] 45 (0,0)
section
variable{w w':M}{X:Nat}{sv nv tv:L}{init many:Int}
theorem EO(hb:w.heap[X]? = W (grB sv nv tv init many)):w.cell? ⟨X,0,Y⟩=W sv/\w.cell? ⟨X,1,Y⟩=W (.int V init)/\w.cell? ⟨X,2,Y⟩=W nv/\w.cell? ⟨X,3,Y⟩=W tv/\w.cell? ⟨X,4,Y⟩=W (.int V many):=by
 unfold grB at hb;refine⟨?_,?_,?_,?_,?_⟩<;>simp[World.cell?,hb]
theorem LD(hb:w.heap[X]? = W (grB sv nv tv init many))(i:Nat):w.frozen? ⟨X,i,Y⟩=false:=by
 unfold grB at hb;simp[World.frozen?,hb]
theorem IH(w:M)(X:Nat)(a b c d e:L):Chg (fun i=>i=X) w (((((w.setCell ⟨X,0,Y⟩ a).setCell ⟨X,1,Y⟩ b).setCell ⟨X,2,Y⟩ c).setCell ⟨X,3,Y⟩ d).setCell ⟨X,4,Y⟩ e):=
 (((((Chg.setCell w ⟨X,0,Y⟩ a).trans (Chg.setCell _ ⟨X,1,Y⟩ b)).trans (Chg.setCell _ ⟨X,2,Y⟩ c)).trans (Chg.setCell _ ⟨X,3,Y⟩ d)).trans (Chg.setCell _ ⟨X,4,Y⟩ e))
theorem GrX.chg{base K:Nat}{m:Mo}{ps:List (List (Int×Int))}{l:List (Int×Int)}(h:GrX w base m ps l K sv nv tv)(hs:Chg (fun i=>i=X) w w')(ht:TyB w X 45):GrX w' base m ps l K sv nv tv:=by
 obtain⟨h1,h2,h3⟩:=h;obtain⟨us,n1,_⟩:=id h2;have hno:∀g t,TyB w g t->t≠45->g≠X:=fun g t hg hn e=>hn (hg.eq (e▸ht));exact⟨BT h1 hs (fun g e=>hno g _ (Au h1 e).2 (by decide)),h2.chg hs (fun i z=>⟨fun e=>hno i _ (Au n1 e).2 (by decide) z,fun _ _ _ _ _ hi=>hno i _ hi (by decide) z⟩),BT h3 hs (fun g e=>hno g _ (Au h3 e).2 (by decide))⟩
theorem LsAt.mono{base base':Nat}{N:List (List Int)}(h:LsAt w base nv tv N)(hb:base'<=base):LsAt w base' nv tv N:=by
 obtain⟨us,h1,h2,h3⟩:=h;refine⟨us,A0 h1 hb,h2,fun i hi=>?_⟩;obtain⟨ao,c,e1,e2,e3,e4⟩:=h3 i hi;exact⟨ao,c,e1,e2,e3,fun a e=>⟨(e4 a e).1,qI hb (e4 a e).2⟩⟩
end
theorem Pt(va vr pv fv:L)(m:Mo)(ps:List (List (Int×Int)))(l:List (Int×Int))(w:M)(hB:0<w.heap.size)(hT:AH w)(hV:TaskV w va vr pv fv m ps l)(hk:Ad m ps l≠0) :
  F qA 9 #[G #[va,vr,pv,fv]] w (FM w m ps l):=by
 unfold FM;obtain⟨ao,ac,rfl⟩:=hV.mo.1.shape;obtain⟨ro,rc,rfl⟩:=hV.mo.2.shape;obtain⟨po,pc,rfl⟩:=hV.ps.shape;obtain⟨fo,fc,rfl,_⟩:=id hV.fo;obtain⟨W0,hW0⟩:∃W0,W0=(w.alloc (O #[.slice ao m.vars.length ac,.slice ro m.rules.length rc,.slice po ps.length pc,.slice fo l.length fc] 35)).alloc (O #[Z Y 0 0,.int V 0,Z Y 0 0,Z Y 0 0,.int V 0] 45):=⟨_,rfl⟩;have hbW:U w.heap.size w W0:=by rw[hW0];exact((qD _ _).alloc (qB _) _).alloc (by simp) _
 have hzW:W0.heap.size=w.heap.size+2:=by rw[hW0];simp
 have hX0:W0.heap[w.heap.size+1]? = W (grB (Z Y 0 0) (Z Y 0 0) (Z Y 0 0) 0 0):=by
  rw[hW0];have:=(MapKept.heap_alloc (w.alloc (O #[.slice ao m.vars.length ac,.slice ro m.rules.length rc,.slice po ps.length pc,.slice fo l.length fc] 35)) (O #[Z Y 0 0,.int V 0,Z Y 0 0,Z Y 0 0,.int V 0] 45)).1;rw[World.size_alloc]at this;exact this
 have hsv:=U2 _ _ _ _ m ps l W0 (qE hB hbW.size) (hT.below hbW hB) (hV.below hbW) hk;have HFin:I (∀w1,U W0.heap.size W0 w1->(w1.cell? ⟨w.heap.size+1,0,Y⟩=W (Z Y 0 0)/\w1.cell? ⟨w.heap.size+1,1,Y⟩=W (.int V 0)/\w1.cell? ⟨w.heap.size+1,2,Y⟩=W (Z Y 0 0)/\w1.cell? ⟨w.heap.size+1,3,Y⟩=W (Z Y 0 0)/\w1.cell? ⟨w.heap.size+1,4,Y⟩=W (.int V 0))/\(∀i,w1.frozen? ⟨w.heap.size+1,i,Y⟩=H)/\U w.heap.size w w1):=fun w1 h=>by
  have hb:=(h.block (w.heap.size+1) (by omega)).trans hX0;exact⟨EO hb,LD hb,hbW.trans (h.mono hbW.size)⟩
 have HK:I (Ad m ps l≠0):=hk;generalize Ad m ps l=tc at *;generalize m.vars.length=vn at *;generalize m.rules.length=rn at *;generalize ps.length=pn at *;generalize l.length=fn at *;clear hV hT
 go_enter Tryz.func9,Tryz.ntmps9;go_wp2_with (first|(go_at_call 16;rw[<-hW0];refine hsv.mono ?_;rintro e w1 ⟨rfl,hb1⟩;obtain⟨⟨x0,x1,x2,x3,x4⟩,xf,hbw⟩:=HFin.out w1 hb1;have f0:=xf 0;have f1:=xf 1;have f2:=xf 2;have f3:=xf 3;have f4:=xf 4))
 have hbF:U w.heap.size w (((((w1.setCell ⟨w.heap.size+1,0,Y⟩ (Z Y 0 0)).setCell ⟨w.heap.size+1,1,Y⟩ (.int V 0)).setCell ⟨w.heap.size+1,2,Y⟩ (Z Y 0 0)).setCell ⟨w.heap.size+1,3,Y⟩ (Z Y 0 0)).setCell ⟨w.heap.size+1,4,Y⟩ (.int V 0)):=hbw.trans ((IH w1 (w.heap.size+1) _ _ _ _ _).below (fun i e=>by omega) (by have:=hbw.size;omega));refine bodyPost_ret (v:=f #[G #[Z Y 0 0,.int V 0,Z Y 0 0,Z Y 0 0,.int V 0],.int V tc]) ?_ rfl (.inr (.inr ⟨HK.out,rfl,hbF⟩));simp[results,Tryz.results9,go_sem,x0,x1,x2,x3,x4]
theorem Pr(W0 w1 w2:M)(n:Nat)(va vr pv fv:L)(m:Mo)(ps:List (List (Int×Int)))(l:List (Int×Int))(ho:Option Addr)(hc:Nat)(so:Option Addr)(sc:Nat)(hk:Ad m ps l=0)(hb1:U W0.heap.size W0 w1)(hn:W0.heap.size<=n)(hs:SurvAt w1 (n+2) va vr pv fv (.slice ho (AA l).length hc) n (n+1))(hor:w1.ownsRow W0.heap.size 3 1 (.slice ho (AA l).length hc) (AA l).length (AB (AA l)))(hm:w1.heap[n]? = W (.map #[] 0)/\w1.heap[n+1]? = W (.map #[] 0))(hb2:U w1.heap.size w1 w2)(hsp:SpO w2 w1.heap.size (.slice so (AC m ps l).length sc) (AC m ps l)) :
  F qA 18 #[E (W ⟨w2.heap.size+1,0,Y⟩),.slice so (AC m ps l).length sc] ((w2.alloc (.map #[] 0)).alloc (O #[Z Y 0 0,.int V ((AC m ps l).length:Nat),Z Y 0 0,Z Y 0 0,.int V ((AA l).length:Nat),.map (W w2.heap.size)] 78)) fun e w3=>∃v sv,e=J v/\I (ExW W0 w3 w2.heap.size (w2.heap.size+1) w2.heap.size (n+2) n (n+1) (0*300001) va vr pv fv m ps l ho hc (xpP m ps l 0) (xpN m ps l 0) (xpT m ps l 0) ((AC m ps l).length:Nat) ((AA l).length:Nat) sv (Z Y 0 0) (Z Y 0 0)):=by
 have hbl:=H7 hk;have hv1:SvOk (fun _=>True) W0 w1 (n+2) n (n+1) 0 va vr pv fv m ps l ho hc:=SvOk.made (qD _ _) hb1 hn hs hor hm.1 hm.2;have hv2:=hv1.below hb2;have hl1:=hv2.box.lt;have hl2:n<w2.heap.size:=by omega
 obtain⟨WA,hWA⟩:∃WA,WA=(w2.alloc (.map #[] 0)).alloc (O #[Z Y 0 0,.int V ((AC m ps l).length:Nat),Z Y 0 0,Z Y 0 0,.int V ((AA l).length:Nat),.map (W w2.heap.size)] 78):=⟨_,rfl⟩;have hbA:U w2.heap.size w2 WA:=by rw[hWA];exact((qD _ _).alloc (qB _) _).alloc (by simp) _
 have hmA:WA.heap[w2.heap.size]? = W (.map #[] 0):=by
  rw[hWA,Below.heap_alloc _ _ _ (by simp)];exact(MapKept.heap_alloc w2 _).1
 have hxA:WA.heap[w2.heap.size+1]? = W (atB (Z Y 0 0) (Z Y 0 0) (Z Y 0 0) ((AC m ps l).length:Nat) ((AA l).length:Nat) w2.heap.size):=by
  rw[hWA];have:=(MapKept.heap_alloc (w2.alloc (.map #[] 0)) (O #[Z Y 0 0,.int V ((AC m ps l).length:Nat),Z Y 0 0,Z Y 0 0,.int V ((AA l).length:Nat),.map (W w2.heap.size)] 78)).1;rw[World.size_alloc]at this;exact this
 have hX:ExW W0 WA w2.heap.size (w2.heap.size+1) w2.heap.size (n+2) n (n+1) (0*300001) va vr pv fv m ps l ho hc [] (xpN m ps l 0) (xpT m ps l 0) ((AC m ps l).length:Nat) ((AA l).length:Nat) (Z Y 0 0) (Z Y 0 0) (Z Y 0 0):=by
  refine⟨((hv2.re (Pz':=I5 (Z Y 0 0)) (fun _ _ _ e=>by simp[Value.ownBlock]at e) (fun _ _ e=>by simp[Value.ownBlock]at e)).below hbA).mono (by omega),⟨hxA,by omega,qB _,Bp.new hmA,SpO.nil _ _,⟨[],World.ownsRow_nil _ _ _ _,rfl,fun i hi=>by simp[xpN]at hi⟩,World.ownsRow_nil _ _ _ _⟩,?_,?_,?_,?_⟩
  .have:=hv2.bel.size;omega
  .omega
  .omega
  .omega
 have hsv:=(hsp.later hbA (qB _)).v;have hIs:∀j,j<(AC m ps l).length->Co ((AC m ps l).getD j (0,0)):=fun j hj=>ND hk (KQ hk (by rw[qC,qH hj];exact qT _));have hsep:∀a,so=W a->¬atZ (w2.heap.size+1) w2.heap.size (Z Y 0 0) a.block:=fun a e z=>by
  have hlt:a.block<w2.heap.size:=by
   rcases hsp.2 with⟨h0,_⟩|⟨g,cap,cur,h1,_,h3,_⟩
   .rw[e]at h0;simp at h0
   .rw[e]at h1;injection h1 with h1 _ _;injection h1 with h1;subst h1;exact(Array.getElem?_eq_some_iff.1 h3).1
  rcases z with z|z|z
  .omega
  .omega
  .simp[Value.ownBlock]at z
 rw[<-hWA];refine(MU WA w2.heap.size (w2.heap.size+1) w2.heap.size [] _ _ _ _ _ _ _ _ so sc hX.tl hsv hsep hIs (by simp;omega)).mono fun e w3 ⟨h1,sv',h2,h3,h4,h5,h6⟩=>?_;exact⟨_,sv',h1,hX.put h5 h2⟩
theorem Pp(W0 wr:M)(base A lm B bs bl k:Nat)(va vr pv fv:L)(m:Mo)(ps:List (List (Int×Int)))(l:List (Int×Int))(ho:Option Addr)(hc:Nat)(init many:Int)(sv nv tv:L)(hB:0<W0.heap.size)(hT:AH W0)(hV:TaskV W0 va vr pv fv m ps l)(hk:Ad m ps l=0)(hX:ExW W0 wr base A lm B bs bl (k*300001) va vr pv fv m ps l ho hc (xpP m ps l k) (xpN m ps l k) (xpT m ps l k) init many sv nv tv)(hlt:k<(xpP m ps l k).length)(hz:(xpP m ps l k).length<=20000)(hsp:∀p∈xpP m ps l k,Bi m l p) :
  F qA 19 #[E (W ⟨A,0,Y⟩),E (W ⟨B,0,Y⟩),G #[C V (B7 m ps l k).1,.int V (B7 m ps l k).2]] wr fun e w'=>e=J (.int V (if 20000<(xpP m ps l (k+1)).length then 12 else 0))/\∃sv nv tv,I (ExW W0 w' base A lm B bs bl ((k+1)*300001) va vr pv fv m ps l ho hc (xpP m ps l (k+1)) (xpN m ps l (k+1)) (xpT m ps l (k+1)) init many sv nv tv):=by
 obtain⟨h1,d,h2,h3⟩:=hsp _ (J3 hlt);have hgo:=Qc W0 wr base A lm B bs bl (k*300001) va vr pv fv m ps l ho hc (xpP m ps l k) (xpN m ps l k) (xpT m ps l k) init many sv nv tv (B7 m ps l k).1 d hB hT hV hk hX (by omega) h1 h2 hz (by rw[DT];omega) (by rw[Dg];omega);unfold Hq at hgo;rw[<-h3]at hgo;refine hgo.mono fun e w' ⟨g1,sv',nv',tv',g2⟩=>⟨g1,sv',nv',tv',?_⟩;have e1:(k+1)*300001=k*300001+300001:=by omega
 rw[e1];exact g2
theorem Pu(va vr pv fv:L)(m:Mo)(ps:List (List (Int×Int)))(l:List (Int×Int))(w:M)(hB:0<w.heap.size)(hT:AH w)(hV:TaskV w va vr pv fv m ps l)(hk:Ad m ps l=0) :
  F qA 9 #[G #[va,vr,pv,fv]] w (FM w m ps l):=by
 unfold FM;obtain⟨ao,ac,rfl⟩:=hV.mo.1.shape;obtain⟨ro,rc,rfl⟩:=hV.mo.2.shape;obtain⟨po,pc,rfl⟩:=hV.ps.shape;obtain⟨fo,fc,rfl,_⟩:=id hV.fo;obtain⟨W0,hW0⟩:∃W0,W0=(w.alloc (O #[.slice ao m.vars.length ac,.slice ro m.rules.length rc,.slice po ps.length pc,.slice fo l.length fc] 35)).alloc (O #[Z Y 0 0,.int V 0,Z Y 0 0,Z Y 0 0,.int V 0] 45):=⟨_,rfl⟩;have hbW:U w.heap.size w W0:=by rw[hW0];exact((qD _ _).alloc (qB _) _).alloc (by simp) _
 have hzW:W0.heap.size=w.heap.size+2:=by rw[hW0];simp
 have hX0:W0.heap[w.heap.size+1]? = W (grB (Z Y 0 0) (Z Y 0 0) (Z Y 0 0) 0 0):=by
  rw[hW0];have:=(MapKept.heap_alloc (w.alloc (O #[.slice ao m.vars.length ac,.slice ro m.rules.length rc,.slice po ps.length pc,.slice fo l.length fc] 35)) (O #[Z Y 0 0,.int V 0,Z Y 0 0,Z Y 0 0,.int V 0] 45)).1;rw[World.size_alloc]at this;exact this
 have hB0:0<W0.heap.size:=qE hB hbW.size;have hT0:=hT.below hbW hB;have hV0:=hV.below hbW;have hsv:=U3 _ _ _ _ m ps l W0 hB0 hT0 hV0 hk;have HFin:I (∀w1,U W0.heap.size W0 w1->(w1.cell? ⟨w.heap.size+1,0,Y⟩=W (Z Y 0 0)/\w1.cell? ⟨w.heap.size+1,1,Y⟩=W (.int V 0)/\w1.cell? ⟨w.heap.size+1,2,Y⟩=W (Z Y 0 0)/\w1.cell? ⟨w.heap.size+1,3,Y⟩=W (Z Y 0 0)/\w1.cell? ⟨w.heap.size+1,4,Y⟩=W (.int V 0))/\(∀i,w1.frozen? ⟨w.heap.size+1,i,Y⟩=H)/\TyB w1 (w.heap.size+1) 45/\U w.heap.size w w1):=fun w1 h=>by
  have hb:=(h.block (w.heap.size+1) (by omega)).trans hX0;exact⟨EO hb,LD hb,⟨_,_,hb⟩,hbW.trans (h.mono hbW.size)⟩
 have HBe:I (∀(w1:M) (B bs bl:Nat) (ho:Option Addr) (hcp:Nat),U W0.heap.size W0 w1->SurvAt w1 B (.slice ao m.vars.length ac) (.slice ro m.rules.length rc) (.slice po ps.length pc) (.slice fo l.length fc) (.slice ho (AA l).length hcp) bs bl->F qA 17 #[E (W ⟨B,0,Y⟩)] w1 fun e w'=>∃so sc,e=J (f #[.slice so (AC m ps l).length sc,.int V 0])/\U w1.heap.size w1 w'/\I (SpO w' w1.heap.size (.slice so (AC m ps l).length sc) (AC m ps l))):=fun w1 B bs bl ho hcp h hs=>OY B _ _ _ _ m ps l ho hcp bs bl w1 (qE hB0 h.size) (hT0.below h hB0) (hV0.below h) hk hs;have HSt:=(show I _ from fun(w1 w2:M) (n:Nat) (ho:Option Addr) (hc:Nat) (so:Option Addr) (sc:Nat)=>Pr W0 w1 w2 n (.slice ao m.vars.length ac) (.slice ro m.rules.length rc) (.slice po ps.length pc) (.slice fo l.length fc) m ps l ho hc so sc hk);have HRd:=(show I _ from fun(wr:M) (base A lm B bs bl k:Nat) (ho:Option Addr) (hc:Nat) (sv nv tv:L)=>Pp W0 wr base A lm B bs bl k (.slice ao m.vars.length ac) (.slice ro m.rules.length rc) (.slice po ps.length pc) (.slice fo l.length fc) m ps l ho hc ((AC m ps l).length:Nat) ((AA l).length:Nat) sv nv tv hB0 hT0 hV0 hk);have HP0:I ((∀p∈xpP m ps l 0,Bi m l p)/\(xpP m ps l 0).length<=20000):=⟨Nr hk,by
  have h1:=(Gx (AC m ps l) []).2;have h2:=H7 hk;have e:xpP m ps l 0=AG [] (AC m ps l):=rfl;rw[e];simp at h1;omega⟩
 have HPn:I (∀k,k<(xpP m ps l k).length->(∀p∈xpP m ps l k,Bi m l p)->∀p∈xpP m ps l (k+1),Bi m l p):=fun k h1 h2=>Nq hk h1 h2;have HK:I (Ad m ps l=0):=hk;have hbn:=H7 hk;have han:=(CC (BX hk).2).2.2.2.2;unfold Hu at hsv;clear hV hT hV0 hT0 hk;generalize hbl:(AC m ps l).length=bn at *;generalize hal:(AA l).length=an at *;generalize m.vars.length=vn at *;generalize m.rules.length=rn at *;generalize ps.length=pn at *;generalize l.length=fn at *
 have hmm:=@run_makeMap qA;go_enter Tryz.func9,Tryz.ntmps9;go_upto_region 8 with(first|(go_at_call 16;rw[<-hW0];refine hsv.mono ?_;rintro e w1 ⟨n,ho,hcp,rfl,hb1,hn1,_,HS,HO,HM⟩;have hbe:=HBe.out w1 _ _ _ _ _ hb1 HS.out)|(go_at_call 17;refine hbe.mono ?_;rintro e w2 ⟨so,sc,rfl,hb2,HSp⟩;have hst:=HSt.out w1 w2 n ho hcp so sc hb1 hn1 HS.out HO.out HM.out hb2 HSp.out;have x4:=(HS.out.later hb2).c4))
 go_wp2_with (first|(go_at_call 18;refine hst.mono ?_;rintro e w3 ⟨v3,sv3,rfl,HX3⟩))
 generalize hA:w2.heap.size+1=A at *;generalize hlm:w2.heap.size=lm at *;generalize hBn:n+2=B at *;generalize hbs:n+1=bl at *;clear hst hsv hbe HSt HBe HS HO HM HSp x4 hb1 hb2 hmm hlm
 go_loopw [8] (fun i wr=>∃k pk:Nat,i=.int V k/\k<=pk/\pk<=20000/\I ((xpP m ps l k).length=pk/\(∀p∈xpP m ps l k,Bi m l p)/\∀j,j<k->j<(xpP m ps l j).length)/\∃vo vc nv tv,I (ExW W0 wr lm A lm B n bl (k*300001) (Z ao vn ac) (Z ro rn rc) (Z po pn pc) (Z fo fn fc) m ps l ho hcp (xpP m ps l k) (xpN m ps l k) (xpT m ps l k) (bn:Nat) (an:Nat) (Z vo pk vc) nv tv)) (fun i _=>20001-(intOf i).toNat)
 case atStart=>
  obtain⟨vo,vc,e⟩:=HX3.out.tl.sp.shape;refine⟨0,(xpP m ps l 0).length,rfl,Nat.zero_le _,HP0.out.2,⟨rfl,HP0.out.1,fun j hj=>by omega⟩,vo,vc,Z Y 0 0,Z Y 0 0,?_⟩;rw[<-e];exact HX3.out
 case round=>
  obtain⟨k,pk,rfl,hkp,hpk,HK2,vo,vc,nv,tv,HX⟩:=hrel;obtain⟨a0,a1,a2,a3,a4,a5⟩:=Cz HX.out.tl.box;by_cases hlt:k<pk
  .have hki:(k:Int)<(pk:Int):=by omega
   have hlt2:k<(xpP m ps l k).length:=by rw[HK2.out.1];exact hlt
   obtain⟨b,off,rfl,_,c0,c1⟩:=HX.out.tl.sp.v.get hlt2;have hrd:=HRd.out wr lm A lm B n bl k ho hcp _ nv tv HX.out hlt2 (by rw[HK2.out.1];exact hpk) HK2.out.2.1;have HKn:I ((∀p∈xpP m ps l (k+1),Bi m l p)/\∀j,j<k+1->j<(xpP m ps l j).length):=⟨HPn.out k hlt2 HK2.out.2.1,fun j hj=>by
    by_cases h:j<k
    .exact HK2.out.2.2 j h
    .obtain rfl:j=k:=by omega
     exact hlt2⟩
   have e1:(xpP m ps l k).getD k (0,0)=B7 m ps l k:=rfl;rw[e1]at c0 c1;clear e1 HX HRd hlt2;generalize B7 m ps l k=s at *;obtain⟨x,y⟩:=s;simp only at c0 c1 hrd
   by_cases hfull:20000<(xpP m ps l (k+1)).length
   .rw[if_pos hfull]at hrd;have HFu:I (Ej m ps l):=⟨k,fun j hj=>HKn.out.2 j (by omega),hfull⟩;clear hfull HKn HK2;go_wp2_with (first|(go_at_call 19;refine hrd.mono ?_;rintro e w4 ⟨rfl,sv4,nv4,tv4,HX4⟩;obtain⟨⟨x0,x1,x2,x3,x4⟩,xf,_,hbw⟩:=HFin.out w4 HX4.out.su.bel;have f0:=xf 0;have f1:=xf 1;have f2:=xf 2;have f3:=xf 3;have f4:=xf 4))
    have hbF:U w.heap.size w (((((w4.setCell ⟨w.heap.size+1,0,Y⟩ (Z Y 0 0)).setCell ⟨w.heap.size+1,1,Y⟩ (.int V 0)).setCell ⟨w.heap.size+1,2,Y⟩ (Z Y 0 0)).setCell ⟨w.heap.size+1,3,Y⟩ (Z Y 0 0)).setCell ⟨w.heap.size+1,4,Y⟩ (.int V 0)):=hbw.trans ((IH w4 (w.heap.size+1) _ _ _ _ _).below (fun i e=>by omega) (by have:=hbw.size;omega));refine bodyPost_ret (v:=f #[G #[Z Y 0 0,.int V 0,Z Y 0 0,Z Y 0 0,.int V 0],.int V 12]) ?_ rfl (.inr (.inl ⟨HK.out,HFu.out,rfl,hbF⟩));simp[results,Tryz.results9,go_sem,x0,x1,x2,x3,x4]
   .rw[if_neg hfull]at hrd;have HLe:I ((xpP m ps l (k+1)).length<=20000/\pk<=(xpP m ps l (k+1)).length):=⟨by omega,by
     rw[<-HK2.out.1];exact(Kz (AC m ps l) (A9 m ps l) k).length_le⟩
    clear hfull HK2;go_wp2_with (first|(go_at_call 19;refine hrd.mono ?_;rintro e w4 ⟨rfl,sv4,nv4,tv4,HX4⟩))
    go_roundw
    case rel=>
     obtain⟨vo4,vc4,e⟩:=HX4.out.tl.sp.shape;refine⟨k+1,(xpP m ps l (k+1)).length,by go_num,by have:=HLe.out.2;omega,HLe.out.1,⟨rfl,HKn.out⟩,vo4,vc4,nv4,tv4,?_⟩;rw[<-e];exact HX4.out
    case measure=>simp[intOf];omega
  .obtain rfl:k=pk:=by omega
   obtain⟨⟨x0,x1,x2,x3,x4⟩,xf,hty,hbw⟩:=HFin.out wr HX.out.su.bel;have f0:=xf 0;have f1:=xf 1;have f2:=xf 2;have f3:=xf 3;have f4:=xf 4;have HDn:I (BG m ps l k):=⟨HK2.out.1,hpk,HK2.out.2.2,HK2.out.2.1⟩;have HG:I (GrX wr w.heap.size m ps l k (Z vo k vc) nv tv):=by
    have hle:w.heap.size<=lm:=by have:=HX.out.lo.1;have:=hbW.size;omega
    exact⟨A0 HX.out.tl.sp hle,HX.out.tl.nx.mono hle,A0 HX.out.tl.st hle⟩
   obtain⟨no,nn,nc,rfl⟩:∃no nn nc,nv=Z no nn nc:=by
    obtain⟨us,h1,_⟩:=HX.out.tl.nx;obtain⟨x,y,e⟩:=A1 h1;exact⟨_,_,_,e⟩
   obtain⟨xo,xn,xc,rfl⟩:∃xo xn xc,tv=Z xo xn xc:=by
    obtain⟨x,y,e⟩:=A1 HX.out.tl.st;exact⟨_,_,_,e⟩
   have HBF:I (∀w8,Chg (fun i=>i=w.heap.size+1) wr w8->U w.heap.size w w8/\GrX w8 w.heap.size m ps l k (Z vo k vc) (Z no nn nc) (Z xo xn xc)):=fun w8 h=>⟨hbw.trans (h.below (fun i e=>by omega) (by have:=hbw.size;omega)),HG.out.chg h hty⟩;clear HX HK2 HRd HG hty;go_wp2_with fail
   obtain⟨r1,r2⟩:=HBF.out _ (IH wr (w.heap.size+1) _ _ _ _ _);refine bodyPost_ret (v:=f #[G #[Z vo k vc,.int V (bn:Nat),Z no nn nc,Z xo xn xc,.int V (an:Nat)],.int V 0]) ?_ rfl (.inl ⟨HK.out,k,HDn.out,_,_,_,rfl,r1,r2⟩);simp[results,Tryz.results9,go_sem,x0,x1,x2,x3,x4]
theorem Ps(va vr pv fv:L)(m:Mo)(ps:List (List (Int×Int)))(l:List (Int×Int))(w:M)(hB:0<w.heap.size)(hT:AH w)(hV:TaskV w va vr pv fv m ps l) :
  F qA 9 #[G #[va,vr,pv,fv]] w (FM w m ps l):=by
 by_cases hk:Ad m ps l=0
 .exact Pu va vr pv fv m ps l w hB hT hV hk
 .exact Pt va vr pv fv m ps l w hB hT hV hk
open Go.ChangeShapes Go.WideShapes Go.ChangeAt Go.RowKit Go.Deep
def tp0:Tm:=.bi 7 0 (.leaf 2 0) (.leaf 1 1)
def tp1:Tm:=.bi 7 0 (.leaf 2 0) (.leaf 2 1)
def tp2:Tm:=.bi 6 0 (.leaf 2 0) (.leaf 2 1)
def Ac:List (List (Int×Int)):=[[(7,0),(2,0),(1,1)],[(7,0),(2,0),(2,1)],[(6,0),(2,0),(2,1)]]
theorem VM:tp0.Good 2:=⟨by decide,by decide,rfl,.inr (.inl ⟨rfl,by decide,by decide⟩),.inl ⟨rfl,by decide,by decide⟩⟩
theorem VN:tp1.Good 2:=⟨by decide,by decide,rfl,.inr (.inl ⟨rfl,by decide,by decide⟩),.inr (.inl ⟨rfl,by decide,by decide⟩)⟩
theorem VO:tp2.Good 2:=⟨by decide,by decide,rfl,.inr (.inl ⟨rfl,by decide,by decide⟩),.inr (.inl ⟨rfl,by decide,by decide⟩)⟩
theorem JO{T:Tm}(hg:T.Good 2)(h60:T.size<=60)(ht:T.typed=true)(hk:mkT T.kind=true):kcode 2 T.ops true=0:=by
 rw[Ge (by decide) (by decide) hg h60 ht,if_pos hk]
theorem TP{m:Mo}(hm:mcode m=0)(hv:m.vars.length=2):CM m Ac=0:=by
 unfold CM;rw[if_pos hm,if_neg (by decide)];refine DQ fun j hj=>?_;rw[hv];have:j=0\/j=1\/j=2:=by simp[Ac]at hj;omega
 rcases this with rfl|rfl|rfl
 .exact JO VM (by decide) (by decide) (by decide)
 .exact JO VN (by decide) (by decide) (by decide)
 .exact JO VO (by decide) (by decide) (by decide)
section
variable{a b:Vr}{w:M}{va vr pv:L}
end
theorem I9(w:M)(k v:Int):OpsV (w.alloc (O #[C V k,.int V v] 100)) (Z (W ⟨w.heap.size,0,Y⟩) 1 1) [(k,v)]:=by
 refine⟨_,1,rfl,⟨qB _,fun h=>by cases h⟩,fun _=>⟨w.heap.size,0,rfl,by simp,fun i hi=>?_⟩⟩;obtain rfl:i=0:=by simpa using hi
 constructor<;>simp[go_sem]
theorem OpsV.al{w:M}{v:L}{l:List (Int×Int)}(h:OpsV w v l)(o:Obj):OpsV (w.alloc o) v l:=h.below ((qD _ _).alloc (qB _) o)
theorem TO(w:M) :
  F qA 14 #[] w fun e w'=>∃pb,e=J (Z (W ⟨pb,0,Y⟩) 3 3)/\U w.heap.size w w'/\TermsV w' (Z (W ⟨pb,0,Y⟩) 3 3) Ac:=by
 have tk1:=True.intro;have tk2:=True.intro;have tk3:=True.intro;have hA:∀o1 o2 o3 o4,U w.heap.size w ((((w.alloc o1).alloc o2).alloc o3).alloc o4):=fun o1 o2 o3 o4=>((((qD _ _).alloc (qB _) _).alloc (by simp) _).alloc (by simp;omega) _).alloc (by simp;omega) _;have hX:∀o2 o3 o4,OpsV ((((w.alloc (O #[C V 2,.int V 0] 100)).alloc o2).alloc o3).alloc o4) (Z (W ⟨w.heap.size,0,Y⟩) 1 1) [(2,0)]:=fun o2 o3 o4=>(((I9 w 2 0).al o2).al o3).al o4;have hY:∀o1 o3 o4,OpsV ((((w.alloc o1).alloc (O #[C V 2,.int V 1] 100)).alloc o3).alloc o4) (Z (W ⟨w.heap.size+1,0,Y⟩) 1 1) [(2,1)]:=fun o1 o3 o4=>by
  have:=((I9 (w.alloc o1) 2 1).al o3).al o4;rw[World.size_alloc]at this;exact this
 have hN:∀o1 o2 o4,OpsV ((((w.alloc o1).alloc o2).alloc (O #[C V 1,.int V 1] 100)).alloc o4) (Z (W ⟨w.heap.size+1+1,0,Y⟩) 1 1) [(1,1)]:=fun o1 o2 o4=>by
  have:=(I9 ((w.alloc o1).alloc o2) 1 1).al o4;rw[World.size_alloc,World.size_alloc]at this;exact this
 go_enter Tryz.func14,Tryz.ntmps14;go_wp2_with (first|(clear tk1;go_at_call 26;refine(Ig 7 _ (Z (W ⟨w.heap.size,0,Y⟩) 1 1) (Z (W ⟨w.heap.size+1+1,0,Y⟩) 1 1) [(2,0)] [(1,1)] _ (by simp[go_sem]) (by simp[go_sem]) (by simp) (by simp) (by simp) (by simp) (hX _ _ _) (hN _ _ _)).mono ?_;rintro e w5 ⟨a1,c1,rfl,hb5,hp1⟩;have hx5:=(hX _ _ _).below hb5;have hy5:=(hY _ _ _).below hb5;have hbw5:=(hA _ _ _ _).trans (hb5.mono (hA _ _ _ _).size))|(clear tk2;go_at_call 26;refine(Ig 7 _ (Z (W ⟨w.heap.size,0,Y⟩) 1 1) (Z (W ⟨w.heap.size+1,0,Y⟩) 1 1) [(2,0)] [(2,1)] _ (by simp[go_sem]) (by simp[go_sem]) (by simp) (by simp) (by simp) (by simp) (hx5.al _) (hy5.al _)).mono ?_;rintro e w6 ⟨a2,c2,rfl,hb6,hp2⟩;have hx6:=(hx5.al _).below hb6;have hy6:=(hy5.al _).below hb6;have hq6:=(hp1.al _).below hb6)|(clear tk3;go_at_call 26;refine(Ig 6 _ (Z (W ⟨w.heap.size,0,Y⟩) 1 1) (Z (W ⟨w.heap.size+1,0,Y⟩) 1 1) [(2,0)] [(2,1)] _ (by simp[go_sem]) (by simp[go_sem]) (by simp) (by simp) (by simp) (by simp) (hx6.al _) (hy6.al _)).mono ?_;rintro e w7 ⟨a3,c3,rfl,hb7,hp3⟩;have hq7:=(hq6.al _).below hb7;have hr7:=(hp2.al _).below hb7))
 go_ret;have h6:U w.heap.size w w6:=(hbw5.alloc hbw5.size _).trans (hb6.mono (hbw5.alloc hbw5.size _).size);have h7:U w.heap.size w w7:=(h6.alloc h6.size _).trans (hb7.mono (h6.alloc h6.size _).size);refine⟨w7.heap.size,rfl,h7.alloc h7.size _,_,3,rfl,fun _=>⟨w7.heap.size,0,rfl,by simp,fun i hi=>?_⟩⟩;have:i=0\/i=1\/i=2:=by simp[Ac]at hi;omega
 rcases this with rfl|rfl|rfl
 .exact ⟨_,by simp[go_sem],hq7.al _⟩
 .exact ⟨_,by simp[go_sem],hr7.al _⟩
 .exact ⟨_,by simp[go_sem],hp3.al _⟩
theorem TY{r:Ru}(h:BE 2 r=0):r.guard≠[]:=by
 intro e;have hx:∀t,Az 2 [] t≠0:=fun t=>by
  unfold Az;rw[if_neg (by decide)];have:AR (([]:List (Int×Int)).map Prod.fst)≠0:=fun h0=>(Dn h0).1 rfl;rw[if_pos this];exact this
 unfold BE at h;rw[e]at h;have hk:kcode 2 [] true≠0:=by
  unfold kcode;rw[if_neg (hx _)];exact hx _
 split at h
 .exact absurd h (by decide)
 .exact hk h
structure NilTo(g:Nat)(w w':M):Prop where
 size:w.heap.size<=w'.heap.size
 nil:∀i v,w.cell? ⟨g,i,Y⟩=W v->v=Z Y 0 0
 block:∀b,b≠g->w'.heap[b]? = w.heap[b]?
theorem NilTo.ne{g:Nat}{w w':M}(h:NilTo g w w'){b i:Nat}{v:L}(hc:w.cell? ⟨b,i,Y⟩=W v)(hv:v≠Z Y 0 0):b≠g:=by
 rintro rfl;exact hv (h.nil i v hc)
theorem NilTo.cell{g:Nat}{w w':M}(h:NilTo g w w'){b:Nat}(hb:b≠g)(i:Nat):w'.cell? ⟨b,i,Y⟩=w.cell? ⟨b,i,Y⟩:=World.cell?_of_block (h.block b hb)
theorem OpsV.nilTo{g:Nat}{w w':M}{v:L}{l:List (Int×Int)}(h:OpsV w v l)(hn:NilTo g w w'):OpsV w' v l:=by
 obtain⟨ao,cap,rfl,h0,h⟩:=h;refine⟨ao,cap,rfl,h0,fun hne=>?_⟩;obtain⟨b,off,rfl,hlt,hat⟩:=h hne;refine⟨b,off,rfl,qE hlt hn.size,fun i hi=>?_⟩;have hb:=hn.ne (hat i hi).1 (by simp);exact⟨(hn.cell hb _).trans (hat i hi).1,(hn.cell hb _).trans (hat i hi).2⟩
theorem VarsV.nilTo{g:Nat}{w w':M}{v:L}{l:List Vr}(h:VarsV w v l)(hn:NilTo g w w'):VarsV w' v l:=SlV.imp h hn.size fun b off i _ _ hi=>by
 obtain⟨h1,h2,h3,h4⟩:=hi;have hb:=hn.ne h2 (by simp);exact⟨(hn.cell hb _).trans h1,(hn.cell hb _).trans h2,(hn.cell hb _).trans h3,(hn.cell hb _).trans h4⟩
theorem SetsV.nilTo{g:Nat}{w w':M}{v:L}{l:List St}(h:SetsV w v l)(hn:NilTo g w w'):SetsV w' v l:=SlV.imp h hn.size fun b off i _ _ hi=>by
 obtain⟨h1,u,h2,h3⟩:=hi;have hb:=hn.ne h1 (by simp);exact⟨(hn.cell hb _).trans h1,u,(hn.cell hb _).trans h2,h3.nilTo hn⟩
theorem RulesV.nilTo{g:Nat}{w w':M}{v:L}{l:List Ru}(h:RulesV w v l)(hg:∀j,j<l.length->(l.getD j ru0).guard≠[])(hn:NilTo g w w'):RulesV w' v l:=SlV.imp h hn.size fun b off i _ hi hx=>by
 obtain⟨⟨u,h1,h2⟩,u',h3,h4⟩:=hx;have hb:=hn.ne h1 (by
  obtain⟨ao,cap,rfl,⟨_,h0⟩,_⟩:=h2;intro e;injection e with e _ _;exact hg i hi (h0 e).2)
 exact⟨⟨u,(hn.cell hb _).trans h1,h2.nilTo hn⟩,u',(hn.cell hb _).trans h3,h4.nilTo hn⟩
theorem TermsV.nilTo{g:Nat}{w w':M}{v:L}{ts:List (List (Int×Int))}(h:TermsV w v ts)(hg:∀j,j<ts.length->ts.getD j []≠[])(hn:NilTo g w w'):TermsV w' v ts:=by
 obtain⟨ao,cap,rfl,h⟩:=h;refine⟨ao,cap,rfl,fun hne=>?_⟩;obtain⟨b,off,rfl,hlt,hat⟩:=h hne;refine⟨b,off,rfl,qE hlt hn.size,fun i hi=>?_⟩;obtain⟨u,h1,h2⟩:=hat i hi;have hb:=hn.ne h1 (by
  obtain⟨ao,cap,rfl,⟨_,h0⟩,_⟩:=h2;intro e;injection e with e _ _;exact hg i hi (h0 e).2)
 exact⟨u,(hn.cell hb _).trans h1,h2.nilTo hn⟩
structure KTaskOk(m:Mo)(l:List (Int×Int))(mm:Nat):Prop where
 mo:mcode m=0
 vars:m.vars.length=2
 fo:∃T,FOk mm l T
 len:l.length<=59
 many:mm<=6
theorem KTaskOk.code{m:Mo}{l:List (Int×Int)}{mm:Nat}(h:KTaskOk m l mm):Ad m Ac l=0:=by
 obtain⟨T,hT⟩:=h.fo;unfold Ad;rw[TP h.mo h.vars,if_neg (by simp)];exact hT.code (by have:=h.len;omega) h.many
theorem VB(c0 c1 c2 c3 c4 c5 c6:L)(a b:Vr)(rawv:L)(rs:List (Int×Int))(tempo:Nat)(w:M)(hG:GV a b)(ht:tempo<=6)(hR:Raws w w.heap.size rawv rs)
  (hmd:∀w',U w.heap.size w w'->F qA 13 #[G #[c0,c1,c2,c3,c4,c5,c6]] w' fun e w2=>∃va vr,e=J (G #[va,vr])/\U w'.heap.size w' w2/\GModel w2 va vr [a,b]) :
  F qA 7 #[G #[c0,c1,c2,c3,c4,c5,c6],rawv,.int V (tempo:Int)] w fun e w'=>∃ao ac ro rn rc pb fo fn fc m l mm,e=J (G #[Z ao 2 ac,Z ro rn rc,Z (W ⟨pb,0,Y⟩) 3 3,Z fo fn fc])/\U w.heap.size w w'/\I (TaskV w' (Z ao 2 ac) (Z ro rn rc) (Z (W ⟨pb,0,Y⟩) 3 3) (Z fo fn fc) m Ac l)/\I (KTaskOk m l mm/\m.vars=[a,b]/\l.length=fn/\l≠[])/\mm<=tempo/\fn<=17:=by
 have HMd:I (∀w',U w.heap.size w w'->F qA 13 #[G #[c0,c1,c2,c3,c4,c5,c6]] w' fun e w2=>∃ao ac ro rn rc m,e=J (G #[Z ao 2 ac,Z ro rn rc])/\U w'.heap.size w' w2/\I (Av w2 (Z ao 2 ac) (Z ro rn rc) m/\mcode m=0/\m.vars=[a,b]/\∀j,j<m.rules.length->(m.rules.getD j ru0).guard≠[])):=fun w' h=>(hmd w' h).mono fun e w2 ⟨va,vr,h1,h2,h3⟩=>by
  obtain⟨ao,ac,ro,rn,rc,rfl,rfl,_⟩:=h3.shape;obtain⟨rules,g1,g2,g3⟩:=h3;exact⟨ao,ac,ro,rn,rc,_,h1,h2,g1,hG.mcode (by omega) g3,rfl,fun j hj=>TY (g3 j hj)⟩
 have HPr:I (∀w',F qA 14 #[] w' fun e w2=>∃pb,e=J (Z (W ⟨pb,0,Y⟩) 3 3)/\U w'.heap.size w' w2/\I (TermsV w2 (Z (W ⟨pb,0,Y⟩) 3 3) Ac)):=fun w'=>(TO w').mono fun e w2 ⟨pb,h1,h2,h3⟩=>⟨pb,h1,h2,h3⟩;have HFo:I (∀w',U w.heap.size w w'->F qA 15 #[rawv,.int V 3,.int V (tempo:Int)] w' fun e w2=>∃fo fn fc l mm,e=J (Z fo fn fc)/\mm<=tempo/\fn<=17/\U w'.heap.size w' w2/\I (OpsV w2 (Z fo fn fc) l/\(∃T,FOk mm l T)/\l.length=fn/\l≠[])):=fun w' h=>(QM rawv rs 3 tempo w' (by decide) (by decide) (by omega) (hR.up h)).mono fun e w2 ⟨fo,fc,l,mm,h1,h2,h3,h4,h5,h6⟩=>⟨fo,l.length,fc,l,mm,h1,h3,h4,h6,h5,h2.ok,rfl,h2.ne⟩;obtain⟨ra,rn0,rc0,hra⟩:∃a n c,rawv=Z a n c:=by obtain⟨⟨a,c,h,_⟩,_,_⟩:=hR;exact⟨_,_,_,h⟩
 subst hra;clear hmd hR;obtain⟨W1,hW1⟩:∃W1,W1=(w.alloc (O #[c0,c1,c2,c3,c4,c5,c6] 25)).alloc (O #[Z Y 0 0,Z Y 0 0,Z Y 0 0,Z Y 0 0] 35):=⟨_,rfl⟩;have hb1:U w.heap.size w W1:=by rw[hW1];exact((qD _ _).alloc (qB _) _).alloc (by simp) _
 have hmo:=HMd.out W1 hb1;have HBx:I (∀w',U (w.heap.size+2) W1 w'->(w'.cell? ⟨w.heap.size+1,0,Y⟩=W (Z Y 0 0)/\w'.cell? ⟨w.heap.size+1,1,Y⟩=W (Z Y 0 0)/\w'.cell? ⟨w.heap.size+1,2,Y⟩=W (Z Y 0 0)/\w'.cell? ⟨w.heap.size+1,3,Y⟩=W (Z Y 0 0))/\(w'.frozen? ⟨w.heap.size+1,0,Y⟩=H/\w'.frozen? ⟨w.heap.size+1,1,Y⟩=H/\w'.frozen? ⟨w.heap.size+1,2,Y⟩=H/\w'.frozen? ⟨w.heap.size+1,3,Y⟩=H)):=fun w' h=>by
  have hlt:w.heap.size+1<w.heap.size+2:=by omega
  refine⟨⟨?_,?_,?_,?_⟩,?_,?_,?_,?_⟩
  .exact (h.cell (p:=⟨w.heap.size+1,0,Y⟩) hlt).trans (by rw[hW1];simp[go_sem])
  .exact (h.cell (p:=⟨w.heap.size+1,1,Y⟩) hlt).trans (by rw[hW1];simp[go_sem])
  .exact (h.cell (p:=⟨w.heap.size+1,2,Y⟩) hlt).trans (by rw[hW1];simp[go_sem])
  .exact (h.cell (p:=⟨w.heap.size+1,3,Y⟩) hlt).trans (by rw[hW1];simp[go_sem])
  .exact (h.frozen (p:=⟨w.heap.size+1,0,Y⟩) hlt).trans (by rw[hW1];simp[go_sem])
  .exact (h.frozen (p:=⟨w.heap.size+1,1,Y⟩) hlt).trans (by rw[hW1];simp[go_sem])
  .exact (h.frozen (p:=⟨w.heap.size+1,2,Y⟩) hlt).trans (by rw[hW1];simp[go_sem])
  .exact (h.frozen (p:=⟨w.heap.size+1,3,Y⟩) hlt).trans (by rw[hW1];simp[go_sem])
 have hz1:W1.heap.size=w.heap.size+2:=by rw[hW1];simp
 subst hW1;go_enter Tryz.func7,Tryz.ntmps7;go_wp2_with (first
  |(go_at_call 13;refine hmo.mono ?_;rintro e w2 ⟨ao,ac,ro,rn,rc,m,rfl,hb2,HM⟩;have hbw2:=hb1.trans (hb2.mono hb1.size);have hpr:=HPr.out w2)
  |(go_at_call 14;refine hpr.mono ?_;rintro e w3 ⟨pb,rfl,hb3,HP⟩;have hbw3:=hbw2.trans (hb3.mono hbw2.size);have hfo:=HFo.out w3 hbw3)
  |(go_at_call 15;refine hfo.mono ?_;rintro e w4 ⟨fo,fn,fc,l,mm,rfl,hmm,hfn,hb4,HF⟩;have hbw4:=hbw3.trans (hb4.mono hbw3.size);have hb24:=(hb2.trans (hb3.mono hb2.size)).trans (hb4.mono (qI hb2.size hb3.size));obtain⟨⟨k0,k1,k2,k3⟩,g0,g1,g2,g3⟩:=HBx.out w4 (hb24.mono (by omega))))
 have hn:NilTo (w.heap.size+1) w4 ((((w4.setCell ⟨w.heap.size+1,0,Y⟩ (Z ao 2 ac)).setCell ⟨w.heap.size+1,1,Y⟩ (Z ro rn rc)).setCell ⟨w.heap.size+1,2,Y⟩ (Z (W ⟨pb,0,Y⟩) 3 3)).setCell ⟨w.heap.size+1,3,Y⟩ (Z fo fn fc)):=by
  refine⟨by simp,fun i v hv=>?_,fun b hb=>?_⟩
  .have hblk:=(hb24.mono (show w.heap.size+2<=_ by omega)).block (w.heap.size+1) (by omega);have hx:((w.alloc (O #[c0,c1,c2,c3,c4,c5,c6] 25)).alloc (O #[Z Y 0 0,Z Y 0 0,Z Y 0 0,Z Y 0 0] 35)).cell? ⟨w.heap.size+1,i,Y⟩=W v:=by rw[<-hv];exact(World.cell?_of_block hblk).symm
   have hy:=(MapKept.heap_alloc (w.alloc (O #[c0,c1,c2,c3,c4,c5,c6] 25)) (O #[Z Y 0 0,Z Y 0 0,Z Y 0 0,Z Y 0 0] 35)).1;rw[World.size_alloc]at hy;simp only[World.cell?,hy]at hx;have hi:i<4:=by
    rcases vP i 4 with h|h
    .exact h
    .simp[xR (show(#[Value.slice Y 0 0,Z Y 0 0,Z Y 0 0,Z Y 0 0]:Array L).size<=i from h)]at hx
   rcases(show i=0\/i=1\/i=2\/i=3 by omega)with rfl|rfl|rfl|rfl<;>simpa using hx.symm
  .rw[RowKit.Below.heap_setCell _ _ _ _ hb,RowKit.Below.heap_setCell _ _ _ _ hb,RowKit.Below.heap_setCell _ _ _ _ hb,RowKit.Below.heap_setCell _ _ _ _ hb]
 obtain⟨m1,m2,m3,m4⟩:=HM.out;obtain⟨f1,f2,f3,f4⟩:=HF.out;have hb34:U w2.heap.size w2 w4:=hb3.trans (hb4.mono hb3.size);refine bodyPost_ret (v:=G #[Z ao 2 ac,Z ro rn rc,Z (W ⟨pb,0,Y⟩) 3 3,Z fo fn fc]) ?_ rfl ⟨ao,ac,ro,rn,rc,pb,fo,fn,fc,m,l,mm,rfl,(((hbw4.setCell (p:=⟨w.heap.size+1,0,Y⟩) (by simp) _).setCell (p:=⟨w.heap.size+1,1,Y⟩) (by simp) _).setCell (p:=⟨w.heap.size+1,2,Y⟩) (by simp) _).setCell (p:=⟨w.heap.size+1,3,Y⟩) (by simp) _,⟨⟨(m1.1.below hb34).nilTo hn,(m1.2.below hb34).nilTo m4 hn⟩,(HP.out.below hb4).nilTo (fun j hj=>?_) hn,f1.nilTo hn⟩,⟨⟨m2,by rw[m3];rfl,f2,by omega,by omega⟩,m3,f3,f4⟩,hmm,hfn⟩
 .simp[results,Tryz.results7,go_sem,k0,k1,k2,k3]
 .have hj3:j<3:=hj;rcases(show j=0\/j=1\/j=2 by omega)with rfl|rfl|rfl<;>simp[Ac]
section
variable{m:Mo}{l:List (Int×Int)}{mm:Nat}
end
section
variable{m:Mo}{l:List (Int×Int)}
end
theorem Ns{m:Mo}{ps:List (List (Int×Int))}{l:List (Int×Int)}{k P:Nat}(hP:AK m.vars m.vars.length=(P:Nat))(hs:∀p∈xpP m ps l k,Bi m l p):(xpP m ps l k).length<=P*2^(AA l).length:=by
 have hnd:(xpP m ps l k).Nodup:=Ky _ _ k;have hcode:∀p∈xpP m ps l k,0<=p.1*((2^(AA l).length:Nat):Int)+p.2/\p.1*((2^(AA l).length:Nat):Int)+p.2<((P*2^(AA l).length:Nat):Int):=fun p hp=>by
  obtain⟨⟨h1,h2⟩,d,h3,h4⟩:=hs p hp;generalize 2^(AA l).length=N at *;have h5:p.1*(N:Int)<=((P:Int)-1)*N:=Int.mul_le_mul_of_nonneg_right (by omega) (by omega)
  have h6:0<=p.1*(N:Int):=Int.mul_nonneg h1 (by omega);have h7:((P:Int)-1)*(N:Int)=(P:Int)*N-N:=by rw[Int.sub_mul];omega
  have h8:((P*N:Nat):Int)=(P:Int)*N:=by push_cast;rfl
  omega
 have hnd2:((xpP m ps l k).map fun p=>p.1*((2^(AA l).length:Nat):Int)+p.2).Nodup:=by
  refine List.Pairwise.map _ (fun a b hab=>hab) ?_;refine List.Pairwise.imp_of_mem ?_ hnd;intro a b ha hb hne e;obtain⟨_,d,h3,h4⟩:=hs a ha;obtain⟨_,d',h3',h4'⟩:=hs b hb;generalize 2^(AA l).length=N at *;have hN:(0:Int)<N:=by omega
  have e1:a.2=b.2:=by
   rw[h4,h4'];have r1:((d:Int)+a.1*N) % (N:Int)=(d:Int):=by rw[zK];exact yS (by omega) (by omega)
   have r2:((d':Int)+b.1*N) % (N:Int)=(d':Int):=by rw[zK];exact yS (by omega) (by omega)
   have e':(d:Int)+a.1*N=(d':Int)+b.1*N:=by rw[h4,h4']at e;omega
   rw[<-r1,<-r2,e']
  have e2:a.1*(N:Int)=b.1*N:=by omega
  exact hne (Prod.ext (Int.eq_of_mul_eq_mul_right (by omega) e2) e1)
 have:=L0 (N:=P*2^(AA l).length) hnd2 (fun y hy=>by
  obtain⟨p,hp,rfl⟩:=List.mem_map.1 hy;exact hcode p hp)
 rw[List.length_map]at this;exact this
theorem V7{m:Mo}{ps:List (List (Int×Int))}{l:List (Int×Int)}{P:Nat}(hk:Ad m ps l=0)(hP:AK m.vars m.vars.length=(P:Nat))(hz:P*2^(AA l).length<=20000):¬Ej m ps l:=by
 rintro⟨k,h1,h2⟩;have hs:∀j,j<=k+1->∀p∈xpP m ps l j,Bi m l p:=fun j=>by
  induction j with
  |zero=>exact fun _=>Nr hk
  |succ j ih=>exact fun hj=>Nq hk (h1 j (by omega)) (ih (by omega))
 have:=Ns hP (hs (k+1) (qB _));omega
def tkB(va vr pv fv:L):Obj:=O #[va,vr,pv,fv] 35 (0,0)
theorem VI{w:M}{X:Nat}{va vr pv fv:L}(hb:w.heap[X]? = W (tkB va vr pv fv)):w.cell? ⟨X,0,Y⟩=W va/\w.cell? ⟨X,1,Y⟩=W vr/\w.cell? ⟨X,2,Y⟩=W pv/\w.cell? ⟨X,3,Y⟩=W fv:=by
 unfold tkB at hb;refine⟨?_,?_,?_,?_⟩<;>simp[World.cell?,hb]
section
variable{w1 wx w':M}{X:Nat}{va vr pv:L}{fo:Option Addr}{fn fc:Nat}{m:Mo}{l:List (Int×Int)}
end
def Jd (ops:Array Oper) (ds:List Nat) (size m e2:Nat):Bool:=
  (List.range ops.size).all (fun i=>match ops[i]? with
    |some o=>o.guard.isNone&&o.after.toList.all (fun e=>!Region.binds .any e||Nat.blt e.on i)&&(if i<m then((List.range (m+1)).any (fun k=>Nat.blt i k&&Ak ops k i)&&match o.dst with
        |some t=>i != e2&&ds.contains t&&Nat.blt t size&&(List.range m).all (fun j=>j == i||!(An ops j == W t))
        |none=>i == e2)else(i == m||Ak ops i (i-1)))
    |none=>H)&&Nat.blt m ops.size
structure ShapeM(ops:Array Oper)(ds:List Nat)(size m e2:Nat):Prop where
 lt:m<ops.size
 guard:∀(i:Nat) (o:Oper),ops[i]? = W o->o.guard=Y
 before:∀(i:Nat) (o:Oper) (e:Edge),ops[i]? = W o->e∈o.after->Region.binds .any e=true->e.on<i
 none:∀(o:Oper),e2<m->ops[e2]? = some o->o.dst=none
 dst:∀(i:Nat) (o:Oper),i<m->i≠e2->ops[i]? = W o->∃t,o.dst=W t/\ds.contains t=true/\t<size/\∀j,j<m->j≠i->An ops j≠W t
 heir:∀i,i<m->∃k,i<k/\k<=m/\Ak ops k i=true
 late:∀i,m<i->i<ops.size->Ak ops i (i-1)=true
theorem Ub {ops:Array Oper} {ds:List Nat} {size m e2:Nat} (h:Jd ops ds size m e2=true):ShapeM ops ds size m e2:=by
  unfold Jd at h;rw[qK,vY]at h;obtain⟨h1,h2⟩:=h;have hm:m<ops.size:=by simpa[jX]using h2
  have hi:∀i o,ops[i]? = W o→(o.guard.isNone&&o.after.toList.all (fun e=>!Region.binds .any e||Nat.blt e.on i)&&(if i<m then((List.range (m+1)).any (fun k=>Nat.blt i k&&Ak ops k i)&&match o.dst with
        |some t=>i != e2&&ds.contains t&&Nat.blt t size&&(List.range m).all (fun j=>j == i||!(An ops j == W t))
        |none=>i == e2)else(i == m||Ak ops i (i-1))))=true:=fun i o ho=>by
    have hlt:i<ops.size:=by
      rcases vP i ops.size with h|h
      . exact h
      . rw[xR h]at ho;cases ho
    have:=h1 i (vE.2 hlt);rw[ho]at this;exact this
  refine⟨hm,fun i o ho=>?_,fun i o e ho he hb=>?_,fun o hm2 ho=>?_,fun i o him hne2 ho=>?_,fun i him=>?_,fun i him hlt=>?_⟩
  . have:=hi i o ho
    rw[qK,qK]at this;simpa using this.1.1
  . have:=hi i o ho
    rw[qK,qK,vY]at this;have:=this.1.2 e (by simpa using he);rw[hb]at this;simpa[jX]using this
  . have:=hi e2 o ho
    rw[qK,if_pos hm2]at this;have:=this.2;rw[qK]at this;have:=this.2;cases hd:o.dst with
    |none=>rfl
    |some t=>rw[hd]at this;simp at this
  . have:=hi i o ho
    rw[qK,if_pos him]at this;have:=this.2;rw[qK]at this;have:=this.2;cases hd:o.dst with
    |none=>rw[hd]at this;exact absurd (by simpa using this) hne2
    |some t=>
      rw[hd]at this;simp only[qK,vY]at this;obtain⟨⟨⟨_,e1⟩,e2⟩,e3⟩:=this;refine⟨t,rfl,e1,by simpa[jX]using e2,fun j hj hne he=>?_⟩;have:=e3 j (vE.2 hj);rw[he]at this;simp[hne]at this
  . have hlt:i<ops.size:=by omega
    have:=hi i ops[i] (qN hlt);rw[qK,if_pos him]at this;have:=this.2;rw[qK]at this;have:=this.1;simp only[qK,vB]at this;obtain⟨k,hk,h5,h6⟩:=this;have:=vE.1 hk;exact⟨k,by simpa[jX]using h5,by omega,h6⟩
  . have:=hi i ops[i] (qN hlt)
    rw[qK,if_neg (by omega)]at this;have:=this.2;simp only[Bool.or_eq_true,beq_iff_eq]at this;rcases this with h|h
    . omega
    . exact h
theorem Mk{ops:Array Oper}{ds:List Nat}{size m e2:Nat}(hs:ShapeM ops ds size m e2){l:Array Bool}(hl:l.size=ops.size){j:Nat}(hj:j<ops.size)(hd:¬AV l j):Region.ready .any ops l≠[]:=by
 have key:∀n j,j<=n->j<ops.size->¬AV l j->∃i,i∈Region.ready .any ops l:=by
  intro n;induction n with
  |zero=>
   intro j hj0 hj hd;refine⟨j,(D4 hl).2 ⟨hj,hd,fun k hk=>?_⟩⟩;unfold Ak at hk;rw[qN hj]at hk;simp only[vB,qK,beq_iff_eq]at hk;obtain⟨e,he,hb,hon⟩:=hk;have:=hs.before j ops[j] e (qN hj) (by simpa using he) hb;omega
  |succ n ih=>
   intro j hj0 hj hd;by_cases h:∀k,Ak ops j k=true->AV l k
   .exact ⟨j,(D4 hl).2 ⟨hj,hd,h⟩⟩
   .obtain ⟨k,hk⟩:=Classical.not_forall.1 h;obtain⟨hk,hnd⟩:=Classical.not_imp.1 hk;have hk2:=hk;unfold Ak at hk;rw[qN hj]at hk;simp only[vB,qK,beq_iff_eq]at hk;obtain⟨e,he,hb,hon⟩:=hk;have:=hs.before j ops[j] e (qN hj) (by simpa using he) hb;exact ih k (by omega) (by omega) hnd
 intro h;obtain⟨i,hi⟩:=key j j (qB _) hj hd;rw[h]at hi;cases hi
theorem OC{ops:Array Oper}{ds:List Nat}{size m e2:Nat}(hs:ShapeM ops ds size m e2){l:Array Bool}(hc:∀i k,AV l i->Ak ops i k=true->AV l k)(hm:∀k,Ak ops m k=true->AV l k):∀i,i<m->AV l i:=by
 have key:∀n i,m-i<=n->i<m->AV l i:=by
  intro n;induction n with
  |zero=>intro i h1 h2;omega
  |succ n ih=>
   intro i h1 h2;obtain⟨k,h3,h4,h5⟩:=hs.heir i h2;by_cases hk:k=m
   .subst hk;exact hm i h5
   .exact hc k i (ih k (by omega) (by omega)) h5
 exact fun i hi=>key _ i (qB _) hi
structure EarlyM(ops:Array Oper)(m e1 e2:Nat)(W0:M)(post:Nat->Bool->Bool->L->M->Prop)(l:Array Bool)(q:Nat->L)(w:M):Prop where
 size:l.size=ops.size
 later:∀i,m<=i->¬AV l i
 closed:∀i k,AV l i->Ak ops i k=true->AV l k
 below:U W0.heap.size W0 w
 posts:∀b c:Bool,(b=true↔AV l e1)->(c=true↔AV l e2)->∀i t,i<m->AV l i->An ops i=W t->post i b c (q t) w
theorem Kr(l:Array Bool)(e:Nat):∃b:Bool,b=true↔AV l e:=by
 by_cases hx:AV l e
 .exact ⟨true,⟨fun _=>hx,fun _=>rfl⟩⟩
 .exact ⟨H,⟨(fun h=>by cases h),fun h=>absurd h hx⟩⟩
theorem Nf {P:Program} {id:Nat} {ops:Array Oper} {Q:Exit->Act->M->Prop} {a0:Act} {w0:M} (hmo:P.follows .mixedOrders=true) (ds:List Nat) (m e1 e2:Nat) (he2:e2 < m) (hne:e1≠e2) (post:Nat->Bool->Bool->L->M->Prop)
    (hsh:Jd ops ds a0.tmps.size m e2=true)
    (stable:∀i b c v w w',i<m->post i b c v w->U w.heap.size w w'->post i b c v w')
    (step:∀(i:Nat) (o:Oper),i<m->i≠e1->i≠e2->ops[i]? = W o->∀q w b c,(Ak ops e1 i=true->b=H)->(Ak ops e2 i=true->c=H)->U w0.heap.size w0 w->(∀k t,Ak ops i k=true->An ops k=W t->post k b c (q t) w)->Oper.wp P o (frm a0 ds q) w (fun a' w'=>∃v,a'=(frm a0 ds q).put o.dst v/\U w.heap.size w w'/\post i b c v w') Q)
    (step1:∀(o:Oper),e1<m->ops[e1]? = W o->∀q w c,(Ak ops e2 e1=true->c=H)->U w0.heap.size w0 w->(∀k t,Ak ops e1 k=true->An ops k=W t->post k H c (q t) w)->Oper.wp P o (frm a0 ds q) w (fun a' w'=>∃v,a'=(frm a0 ds q).put o.dst v/\U w0.heap.size w0 w'/\(∀j t,j<m->j≠e1->An ops j=W t->post j H c (q t) w->post j true c (q t) w')/\post e1 true c v w') Q)
    (step2:∀(o:Oper),ops[e2]? = W o->∀q w b,(Ak ops e2 e1=true->b=true)->U w0.heap.size w0 w->(∀k t,Ak ops e2 k=true->An ops k=W t->post k b H (q t) w)->Oper.wp P o (frm a0 ds q) w (fun a' w'=>a'=frm a0 ds q/\U w0.heap.size w0 w'/\∀j t,j<m->j≠e2->An ops j=W t->post j b H (q t) w->post j b true (q t) w') Q)
    (last:∀q w,U w0.heap.size w0 w->(∀i t,i<m->An ops i=W t->post i (decide (e1<m)) true (q t) w)->wpOps P ops Q ((List.range' m (ops.size-m))) (frm a0 ds q) w) :
    (Code.region id ops true).wp P Q a0 w0:=by
  have hs:=Ub hsh;refine wp_region_any hmo ?_;have hb0:U w0.heap.size w0 { w0 with drawn:=w0.drawn+1}:=⟨rfl,rfl,rfl,qB _,fun _ _=>rfl⟩;refine Jw (fun k l a w=>k=DD l/\((∃q,a=frm a0 ds q/\EarlyM ops m e1 e2 w0 post l q w)\/(l.size=ops.size/\∃j,m<=j/\j<=ops.size/\(∀i,AV l i↔i<j)/\wpOps P ops Q (List.range' j (ops.size-j)) a w))) ?_ _ _ _ _ ⟨?_,.inl ⟨_,(K8 a0 ds).symm,?_⟩⟩
  . rintro k l a w ⟨hk,hI⟩
    have hlsz:l.size=ops.size:=hI.elim (fun⟨_,_,hE⟩=>hE.size) (fun⟨h,_⟩=>h);refine⟨fun hr=>?_,fun h0=>?_,fun k' hk' i hi=>?_⟩
    . rcases hI with⟨q,rfl,hE⟩|⟨_,j,hj1,hj2,hd,hw⟩
      . exact absurd hr (Mk hs hE.size hs.lt (hE.later m (qB _)))
      . by_cases hjs:j=ops.size
        . subst hjs
          rw[Nat.sub_self]at hw;exact hw
        . exact absurd hr (Mk hs hlsz (j:=j) (by omega) (fun h=>by have:=(hd j).1 h;omega))
    . cases hr:Region.ready .any ops l with
      |nil=>rfl
      |cons x xs=>
        have hx:=(D4 hlsz (i:=x)).1 (by rw[hr];exact List.mem_cons_self);exact absurd (Le (by omega) (by omega)) hx.2.1
    . obtain ⟨h1,h2,h3⟩:=(D4 hlsz).1 hi
      have ho:ops[i]? = W ops[i]:=qN h1;have hgd:=hs.guard i _ ho;have hleft:=Lc (by omega:i<l.size) h2;have late:∀(j:Nat) (a:Act) (w:M),m<=j->j<=ops.size->(∀i,AV l i↔i<j)->wpOps P ops Q (List.range' j (ops.size-j)) a w->wpOp P ops Q i (fun a' w'=>k'=DD (l.setIfInBounds i true)/\((∃q,a'=frm a0 ds q/\EarlyM ops m e1 e2 w0 post (l.setIfInBounds i true) q w')\/((l.setIfInBounds i true).size=ops.size/\∃j,m<=j/\j<=ops.size/\(∀i',AV (l.setIfInBounds i true) i'↔i'<j)/\wpOps P ops Q (List.range' j (ops.size-j)) a' w'))) a w:=by
        intro j a w hj1 hj2 hd hw;have hij:i=j:=by
          have hge:j<=i:=by
            rcases vP i j with h|h
            . exact absurd ((hd i).2 h) h2
            . exact h
          rcases vP j i with h|h
          . have h4:=hs.late i (by omega) h1
            have:=(hd (i-1)).1 (h3 _ h4);omega
          . omega
        subst hij;rw[show ops.size-i=(ops.size-(i+1))+1 by omega,List.range'_succ,wpOps_cons]at hw;refine wpOp_mono (fun a' w' h'=>⟨by omega,.inr ⟨by rw[jD];exact hlsz,i+1,by omega,by omega,fun i'=>?_,h'⟩⟩) hw;rw[BQ (by omega),hd];omega
      rcases hI with⟨q,rfl,hE⟩|⟨_,j,hj1,hj2,hd,hw⟩
      . by_cases him:i<m
        . obtain⟨b,hb⟩:=Kr l e1
          obtain⟨c,hc⟩:=Kr l e2;have hprem:∀k t,Ak ops i k=true->An ops k=W t->post k b c (q t) w:=fun k t' hk ht'=>by
            have hkd:=h3 k hk;have hkm:k<m:=by
              rcases vP k m with h|h
              . exact h
              . exact absurd hkd (hE.later k h)
            exact hE.posts b c hb hc k t' hkm hkd ht'
          have w1:Ak ops e1 i=true->b=false:=fun hw=>by
            cases b with
            |false=>rfl
            |true=>exact absurd (hE.closed e1 i (hb.1 rfl) hw) h2
          have w2:Ak ops e2 i=true->c=false:=fun hw=>by
            cases c with
            |false=>rfl
            |true=>exact absurd (hE.closed e2 i (hc.1 rfl) hw) h2
          have later':∀i',m<=i'->¬AV (l.setIfInBounds i true) i':=fun i' hi' hd'=>by
            rcases(BQ (by omega)).1 hd' with h|h
            . omega
            . exact hE.later i' hi' h
          have closed':∀i' k,AV (l.setIfInBounds i true) i'->Ak ops i' k=true->AV (l.setIfInBounds i true) k:=fun i' k0 hd' hk0=>by
            rw[BQ (by omega)];rcases(BQ (by omega)).1 hd' with h|h
            . subst h;exact .inr (h3 k0 hk0)
            . exact .inr (hE.closed i' k0 h hk0)
          unfold wpOp;rw[ho];show if Region.wanted ops[i] (yielded ops (frm a0 ds q).tmps)=true then _ else _
          rw[if_pos (by unfold Region.wanted;rw[hgd])];refine .inl ?_;by_cases hi2:i=e2
          . subst hi2
            obtain rfl:c=false:=by
              cases c with
              |false=>rfl
              |true=>exact absurd (hc.1 rfl) h2
            refine Oper.wp_mono ?_ (step2 _ ho q w b (fun hw=>hb.2 (h3 e1 hw)) hE.below hprem);rintro a' w' ⟨rfl,hbw,hcar⟩;refine⟨by omega,.inl ⟨_,rfl,⟨by rw[jD];exact hlsz,later',closed',hbw,fun b' c' hb' hc' j t hj hd' ht=>?_⟩⟩⟩;have eb:b'=b:=by
              apply jG.2;rw[hb',hb,BQ (by omega)];exact⟨fun h=>h.elim (fun h=>absurd h hne) fun h=>h,.inr⟩
            have ec:c'=true:=hc'.2 (by rw[BQ (by omega)];exact .inl rfl);subst eb ec;have hji:j≠i:=fun e=>by
              subst e;have e9:An ops j=ops[j].dst:=by unfold An;rw[ho]
              rw[e9,hs.none _ him ho]at ht;cases ht
            rcases(BQ (by omega)).1 hd' with h|h
            . exact absurd h hji
            . exact hcar j t hj hji ht (hE.posts b' H hb ⟨(fun h=>by cases h),fun h=>absurd h h2⟩ j t hj h ht)
          . obtain⟨t,ht,hdt,hts,hdis⟩:=hs.dst i _ him hi2 ho
            have own:∀t',An ops i=W t'->t'=t:=fun t' ht'=>by
              unfold An at ht';rw[ho]at ht';exact Option.some.inj (ht'.symm.trans ht)
            by_cases hi1:i=e1
            . subst hi1
              obtain rfl:b=false:=by
                cases b with
                |false=>rfl
                |true=>exact absurd (hb.1 rfl) h2
              refine Oper.wp_mono ?_ (step1 _ him ho q w c w2 hE.below hprem);rintro a' w' ⟨v,rfl,hbw,hcar,hp⟩;rw[ht,GX hdt];refine⟨by omega,.inl ⟨_,rfl,⟨by rw[jD];exact hlsz,later',closed',hbw,fun b' c' hb' hc' j t' hj hd' ht'=>?_⟩⟩⟩;have ec:c'=c:=by
                apply jG.2;rw[hc',hc,BQ (by omega)];exact⟨fun h=>h.elim (fun h=>absurd h.symm hne) fun h=>h,.inr⟩
              have eb:b'=true:=hb'.2 (by rw[BQ (by omega)];exact .inl rfl);subst eb ec;by_cases hji:j=i
              . subst hji
                obtain rfl:=own t' ht';rw[De];exact hp
              . rcases(BQ (by omega)).1 hd' with h|h
                . exact absurd h hji
                . rw[DH (fun e=>hdis j hj hji (by rw[ht',e]))]
                  exact hcar j t' hj hji ht' (hE.posts H c' ⟨(fun h=>by cases h),fun h=>absurd h h2⟩ hc j t' hj h ht')
            . refine Oper.wp_mono ?_ (step i _ him hi1 hi2 ho q w b c w1 w2 hE.below hprem)
              rintro a' w' ⟨v,rfl,hbw,hp⟩;rw[ht,GX hdt];refine⟨by omega,.inl ⟨_,rfl,⟨by rw[jD];exact hlsz,later',closed',hE.below.trans (hbw.mono hE.below.size),fun b' c' hb' hc' j t' hj hd' ht'=>?_⟩⟩⟩;have eb:b'=b:=by
                apply jG.2;rw[hb',hb,BQ (by omega)];exact⟨fun h=>h.elim (fun h=>absurd h.symm hi1) fun h=>h,.inr⟩
              have ec:c'=c:=by
                apply jG.2;rw[hc',hc,BQ (by omega)];exact⟨fun h=>h.elim (fun h=>absurd h.symm hi2) fun h=>h,.inr⟩
              subst eb ec;by_cases hji:j=i
              . subst hji
                obtain rfl:=own t' ht';rw[De];exact hp
              . rcases(BQ (by omega)).1 hd' with h|h
                . exact absurd h hji
                . rw[DH (fun e=>hdis j hj hji (by rw[ht',e]))]
                  exact stable j _ _ _ w w' hj (hE.posts b' c' hb hc j t' hj h ht') hbw
        . have him2:i=m:=by
            rcases vP m i with h|h
            . have h4:=hs.late i h h1
              exact absurd (h3 _ h4) (hE.later (i-1) (by omega))
            . omega
          subst him2;have hall:=OC hs hE.closed h3;exact late i _ w (qB _) (by omega) (fun i'=>⟨fun h=>by
            rcases vP i' i with h'|h'
            . exact h'
            . exact absurd h (hE.later i' h'),fun h=>hall i' h⟩) (last q w hE.below fun i' t' hi' ht'=>hE.posts _ _ ⟨fun h=>hall e1 (of_decide_eq_true h),fun h=>decide_eq_true (by
              rcases vP e1 i with h'|h'
              . exact h'
              . exact absurd h (hE.later e1 h'))⟩ ⟨fun _=>hall e2 he2,fun _=>rfl⟩ i' t' hi' (hall i' hi') ht')
      . exact late j a w hj1 hj2 hd hw
  . unfold DD
    simp
  . have hnd:∀i,¬AV (Array.replicate ops.size H) i:=fun i h=>by
      unfold AV at h;rw[Array.getElem?_replicate]at h;split at h<;>cases h
    exact⟨by simp,fun i _=>hnd i,fun i _ h=>absurd h (hnd i),hb0,fun _ _ _ _ i _ _ h=>absurd h (hnd i)⟩
