/- Joined texts. -/
import Derived.Test.YtehfhemidmfffaaGreatDoorLateD
import Derived.Laws.EntriesVeiled
import Derived.Test.YtehfhemidmfffaaGreatDoorAnyOps
open Go renaming World→M,Value→J,Calls→ZZ
open Go.Ending renaming returned→I
open Go.IntKind renaming i64→V
open Go.Obj renaming cells→L
open Go.RowKit renaming Below→O,Hid→F
open Go.Value renaming slice→Z,agg→ZY,tuple→ZX,pointer→ZW,int→C
open _root_.Bool renaming false→E
open _root_.Option renaming none→Y,some→U
namespace Go.Proofs.YtehfhemidmfffaaGreatDoor
open _root_.Array renaming getElem?_eq_getElem→qQ,getElem?_eq_none→xS,size_setIfInBounds→jF
open Go.RowKit.Below renaming refl→qD
open _root_.Bool renaming and_eq_true→qK,eq_iff_iff→jS
open _root_.Int renaming add_mul_emod_self_right→zN,emod_eq_of_lt→kA
open _root_.List renaming all_eq_true→jC,any_eq_true→vD,filter_append→zP,filter_cons→jV,getD_eq_getElem?_getD→qC,getElem?_eq_getElem→qH,getElem_mem→qR,length_append→qF,length_cons→qY,length_map→qM,mem_append→qL,mem_cons→qW,mem_range→vA,take_length→vI,take_succ_eq_append_getElem→qT
open _root_.Nat renaming blt_eq→jZ,le_of_lt→qU,le_refl→qB,lt_of_lt_of_le→qE,lt_or_ge→vP,mul_comm→jK,pow_succ→jL,zero_le→qJ
open _root_.Option renaming getD_some→vW
open Go.Proofs.Tryz renaming prog→qA
open Go.ChangeShapes Go.WideShapes Go.ChangeAt Go.RowKit Go.Deep Go.Maps
open Terms Tm
open Go.Proofs.Tryz renaming func27→f5,func9→gb,ntmps27→gd,ntmps9→gh,results9→gj
open MapKept renaming heap_alloc→du
open World renaming cell?_of_block→eJ,cell?→br,ownsRow_nil→aX,size_alloc→fp
open _root_.List renaming Pairwise→fZ,range'→aF,range→aE
set_option maxHeartbeats 6400000
set_option maxRecDepth 20000
theorem QW(va vr pv fv:J)(m:Mo)(ps:List am)(l:am)(w:M)(hB:0<w.heap.size)(hT:AF w)(hV:TaskV w va vr pv fv m ps l)(hk:AX m ps l≠0) :
  ZZ qA 9 #[ZY #[va,vr,pv,fv]] w (FV w m ps l):=by
 unfold FV;obtain⟨ao,ac,rfl⟩:=hV.mo.1.shape;obtain⟨ro,rc,rfl⟩:=hV.mo.2.shape;obtain⟨po,pc,rfl⟩:=hV.ps.shape;obtain⟨fo,fc,rfl,_⟩:=id hV.fo;obtain⟨W0,hW0⟩:∃W0,W0=(w.alloc (L #[.slice ao m.vars.length ac,.slice ro m.rules.length rc,.slice po ps.length pc,.slice fo l.length fc] 35)).alloc (L #[Z Y 0 0,.int V 0,Z Y 0 0,Z Y 0 0,.int V 0] 45):=⟨_,rfl⟩;have hbW:O w.heap.size w W0:=by rw[hW0];exact(ai).alloc (by simp) _
 have hzW:W0.heap.size=w.heap.size+2:=by rw[hW0];simp
 have hX0:W0.heap[w.heap.size+1]? = U (grB (Z Y 0 0) (Z Y 0 0) (Z Y 0 0) 0 0):=by
  rw[hW0];have:=(du (w.alloc (L #[.slice ao m.vars.length ac,.slice ro m.rules.length rc,.slice po ps.length pc,.slice fo l.length fc] 35)) (L #[Z Y 0 0,.int V 0,Z Y 0 0,Z Y 0 0,.int V 0] 45)).1;rw[fp]at this;exact this
 have hsv:=Vu _ _ _ _ m ps l W0 (qE hB hbW.size) (hT.below hbW hB) (hV.below hbW) hk;have HFin:F (∀w1,O W0.heap.size W0 w1->(w1.cell? ⟨w.heap.size+1,0,Y⟩=U (Z Y 0 0)/\w1.cell? ⟨w.heap.size+1,1,Y⟩=U (.int V 0)/\w1.cell? ⟨w.heap.size+1,2,Y⟩=U (Z Y 0 0)/\w1.cell? ⟨w.heap.size+1,3,Y⟩=U (Z Y 0 0)/\w1.cell? ⟨w.heap.size+1,4,Y⟩=U (.int V 0))/\(∀i,w1.frozen? ⟨w.heap.size+1,i,Y⟩=E)/\O w.heap.size w w1):=fun w1 h=>by
  have hb:=(h.block (w.heap.size+1) (by omega)).trans hX0;exact⟨Dn hb,Le hb,ae hbW h⟩
 have HK:F (AX m ps l≠0):=hk;generalize AX m ps l=tc at *;generalize m.vars.length=vn at *;generalize m.rules.length=rn at *;generalize ps.length=pn at *;generalize l.length=fn at *;clear hV hT
 go_enter gb,gh;go_wp2_with (first|(go_at_call 16;rw[<-hW0];refine hsv.mono ?_;rintro e w1 ⟨rfl,hb1⟩;obtain⟨⟨x0,x1,x2,x3,x4⟩,xf,hbw⟩:=HFin.out w1 hb1;have f0:=xf 0;have f1:=xf 1;have f2:=xf 2;have f3:=xf 3;have f4:=xf 4))
 have hbF:O w.heap.size w (((((w1.setCell ⟨w.heap.size+1,0,Y⟩ (Z Y 0 0)).setCell ⟨w.heap.size+1,1,Y⟩ (.int V 0)).setCell ⟨w.heap.size+1,2,Y⟩ (Z Y 0 0)).setCell ⟨w.heap.size+1,3,Y⟩ (Z Y 0 0)).setCell ⟨w.heap.size+1,4,Y⟩ (.int V 0)):=hbw.trans ((Ik w1 (w.heap.size+1) _ _ _ _ _).below (fun i e=>by omega) (by have:=hbw.size;omega));refine bodyPost_ret (v:=ZX #[ZY #[Z Y 0 0,.int V 0,Z Y 0 0,Z Y 0 0,.int V 0],.int V tc]) ?_ rfl (.inr (.inr ⟨HK.out,rfl,hbF⟩));simp[results,gj,go_sem,x0,x1,x2,x3,x4]
theorem QV(W0 w1 w2:M)(n:Nat)(va vr pv fv:J)(m:Mo)(ps:List am)(l:am)(ho:Option Addr)(hc:Nat)(so:Option Addr)(sc:Nat)(hk:AX m ps l=0)(hb1:O W0.heap.size W0 w1)(hn:W0.heap.size<=n)(hs:SurvAt w1 (n+2) va vr pv fv (.slice ho (AA l).length hc) n (n+1))(hor:w1.ownsRow W0.heap.size 3 1 (.slice ho (AA l).length hc) (AA l).length (AB (AA l)))(hm:w1.heap[n]? = U (.map #[] 0)/\w1.heap[n+1]? = U (.map #[] 0))(hb2:O w1.heap.size w1 w2)(hsp:SpO w2 w1.heap.size (.slice so (AC m ps l).length sc) (AC m ps l)) :
  ZZ qA 18 #[ZW (U ⟨w2.heap.size+1,0,Y⟩),.slice so (AC m ps l).length sc] ((w2.alloc (.map #[] 0)).alloc (L #[Z Y 0 0,.int V ((AC m ps l).length:Nat),Z Y 0 0,Z Y 0 0,.int V ((AA l).length:Nat),.map (U w2.heap.size)] 78)) fun e w3=>∃v sv,e=I v/\F (ExW W0 w3 w2.heap.size (w2.heap.size+1) w2.heap.size (n+2) n (n+1) (0*300001) va vr pv fv m ps l ho hc (xpP m ps l 0) (xpN m ps l 0) (xpT m ps l 0) ((AC m ps l).length:Nat) ((AA l).length:Nat) sv (Z Y 0 0) (Z Y 0 0)):=by
 have hbl:=IZ hk;have hv1:SvOk (fun _=>True) W0 w1 (n+2) n (n+1) 0 va vr pv fv m ps l ho hc:=SvOk.made (qD _ _) hb1 hn hs hor hm.1 hm.2;have hv2:=hv1.below hb2;have hl1:=hv2.box.lt;have hl2:n<w2.heap.size:=by omega
 obtain⟨WA,hWA⟩:∃WA,WA=(w2.alloc (.map #[] 0)).alloc (L #[Z Y 0 0,.int V ((AC m ps l).length:Nat),Z Y 0 0,Z Y 0 0,.int V ((AA l).length:Nat),.map (U w2.heap.size)] 78):=⟨_,rfl⟩;have hbA:O w2.heap.size w2 WA:=by rw[hWA];exact(ai).alloc (by simp) _
 have hmA:WA.heap[w2.heap.size]? = U (.map #[] 0):=by
  rw[hWA,Below.heap_alloc _ _ _ (by simp)];exact(du w2 _).1
 have hxA:WA.heap[w2.heap.size+1]? = U (atB (Z Y 0 0) (Z Y 0 0) (Z Y 0 0) ((AC m ps l).length:Nat) ((AA l).length:Nat) w2.heap.size):=by
  rw[hWA];have:=(du (w2.alloc (.map #[] 0)) (L #[Z Y 0 0,.int V ((AC m ps l).length:Nat),Z Y 0 0,Z Y 0 0,.int V ((AA l).length:Nat),.map (U w2.heap.size)] 78)).1;rw[fp]at this;exact this
 have hX:ExW W0 WA w2.heap.size (w2.heap.size+1) w2.heap.size (n+2) n (n+1) (0*300001) va vr pv fv m ps l ho hc [] (xpN m ps l 0) (xpT m ps l 0) ((AC m ps l).length:Nat) ((AA l).length:Nat) (Z Y 0 0) (Z Y 0 0) (Z Y 0 0):=by
  refine⟨((hv2.re (Pz':=JU (Z Y 0 0)) (fun _ _ _ e=>by simp[Value.ownBlock]at e) (fun _ _ e=>by simp[Value.ownBlock]at e)).below hbA).mono (by omega),⟨hxA,by omega,qB _,Bu.new hmA,SpO.nil _ _,⟨[],aX _ _ _ _,rfl,fun i hi=>by simp[xpN]at hi⟩,aX _ _ _ _⟩,?_,?_,?_,?_⟩
  .have:=hv2.bel.size;omega
  .omega
  .omega
  .omega
 have hsv:=(hsp.later hbA (qB _)).v;have hIs:∀j,j<(AC m ps l).length->Co ((AC m ps l).getD j (0,0)):=fun j hj=>Nj hk (Kj hk (by rw[qC,qH hj];exact qR _));have hsep:∀a,so=U a->¬atZ (w2.heap.size+1) w2.heap.size (Z Y 0 0) a.block:=fun a e z=>by
  have hlt:a.block<w2.heap.size:=by
   rcases hsp.2 with⟨h0,_⟩|⟨g,cap,cur,h1,_,h3,_⟩
   .rw[e]at h0;simp at h0
   .rw[e]at h1;injection h1 with h1 _ _;injection h1 with h1;subst h1;exact(Array.getElem?_eq_some_iff.1 h3).1
  rcases z with z|z|z
  .omega
  .omega
  .simp[Value.ownBlock]at z
 rw[<-hWA];refine(M0 WA w2.heap.size (w2.heap.size+1) w2.heap.size [] _ _ _ _ _ _ _ _ so sc hX.tl hsv hsep hIs (by simp;omega)).mono fun e w3 ⟨h1,sv',h2,h3,h4,h5,h6⟩=>?_;exact⟨_,sv',h1,hX.put h5 h2⟩
theorem QU(W0 wr:M)(base A lm B bs bl k:Nat)(va vr pv fv:J)(m:Mo)(ps:List am)(l:am)(ho:Option Addr)(hc:Nat)(init many:Int)(sv nv tv:J)(hB:0<W0.heap.size)(hT:AF W0)(hV:TaskV W0 va vr pv fv m ps l)(hk:AX m ps l=0)(hX:ExW W0 wr base A lm B bs bl (k*300001) va vr pv fv m ps l ho hc (xpP m ps l k) (xpN m ps l k) (xpT m ps l k) init many sv nv tv)(hlt:k<(xpP m ps l k).length)(hz:(xpP m ps l k).length<=20000)(hsp:∀p∈xpP m ps l k,Bl m l p) :
  ZZ qA 19 #[ZW (U ⟨A,0,Y⟩),ZW (U ⟨B,0,Y⟩),ZY #[C V (Br m ps l k).1,.int V (Br m ps l k).2]] wr fun e w'=>e=I (.int V (if 20000<(xpP m ps l (k+1)).length then 12 else 0))/\∃sv nv tv,F (ExW W0 w' base A lm B bs bl ((k+1)*300001) va vr pv fv m ps l ho hc (xpP m ps l (k+1)) (xpN m ps l (k+1)) (xpT m ps l (k+1)) init many sv nv tv):=by
 obtain⟨h1,d,h2,h3⟩:=hsp _ (KP hlt);have hgo:=RA W0 wr base A lm B bs bl (k*300001) va vr pv fv m ps l ho hc (xpP m ps l k) (xpN m ps l k) (xpT m ps l k) init many sv nv tv (Br m ps l k).1 d hB hT hV hk hX (by omega) h1 h2 hz (by rw[C1];omega) (by rw[DB];omega);unfold IJ at hgo;rw[<-h3]at hgo;refine hgo.mono fun e w' ⟨g1,sv',nv',tv',g2⟩=>⟨g1,sv',nv',tv',?_⟩;have e1:(k+1)*300001=k*300001+300001:=by omega
 rw[e1];exact g2
theorem QX(va vr pv fv:J)(m:Mo)(ps:List am)(l:am)(w:M)(hB:0<w.heap.size)(hT:AF w)(hV:TaskV w va vr pv fv m ps l)(hk:AX m ps l=0) :
  ZZ qA 9 #[ZY #[va,vr,pv,fv]] w (FV w m ps l):=by
 unfold FV;obtain⟨ao,ac,rfl⟩:=hV.mo.1.shape;obtain⟨ro,rc,rfl⟩:=hV.mo.2.shape;obtain⟨po,pc,rfl⟩:=hV.ps.shape;obtain⟨fo,fc,rfl,_⟩:=id hV.fo;obtain⟨W0,hW0⟩:∃W0,W0=(w.alloc (L #[.slice ao m.vars.length ac,.slice ro m.rules.length rc,.slice po ps.length pc,.slice fo l.length fc] 35)).alloc (L #[Z Y 0 0,.int V 0,Z Y 0 0,Z Y 0 0,.int V 0] 45):=⟨_,rfl⟩;have hbW:O w.heap.size w W0:=by rw[hW0];exact(ai).alloc (by simp) _
 have hzW:W0.heap.size=w.heap.size+2:=by rw[hW0];simp
 have hX0:W0.heap[w.heap.size+1]? = U (grB (Z Y 0 0) (Z Y 0 0) (Z Y 0 0) 0 0):=by
  rw[hW0];have:=(du (w.alloc (L #[.slice ao m.vars.length ac,.slice ro m.rules.length rc,.slice po ps.length pc,.slice fo l.length fc] 35)) (L #[Z Y 0 0,.int V 0,Z Y 0 0,Z Y 0 0,.int V 0] 45)).1;rw[fp]at this;exact this
 have hB0:0<W0.heap.size:=qE hB hbW.size;have hT0:=hT.below hbW hB;have hV0:=hV.below hbW;have hsv:=Vv _ _ _ _ m ps l W0 hB0 hT0 hV0 hk;have HFin:F (∀w1,O W0.heap.size W0 w1->(w1.cell? ⟨w.heap.size+1,0,Y⟩=U (Z Y 0 0)/\w1.cell? ⟨w.heap.size+1,1,Y⟩=U (.int V 0)/\w1.cell? ⟨w.heap.size+1,2,Y⟩=U (Z Y 0 0)/\w1.cell? ⟨w.heap.size+1,3,Y⟩=U (Z Y 0 0)/\w1.cell? ⟨w.heap.size+1,4,Y⟩=U (.int V 0))/\(∀i,w1.frozen? ⟨w.heap.size+1,i,Y⟩=E)/\TyB w1 (w.heap.size+1) 45/\O w.heap.size w w1):=fun w1 h=>by
  have hb:=(h.block (w.heap.size+1) (by omega)).trans hX0;exact⟨Dn hb,Le hb,⟨_,_,hb⟩,ae hbW h⟩
 have HBe:F (∀(w1:M) (B bs bl:Nat) (ho:Option Addr) (hcp:Nat),O W0.heap.size W0 w1->SurvAt w1 B (.slice ao m.vars.length ac) (.slice ro m.rules.length rc) (.slice po ps.length pc) (.slice fo l.length fc) (.slice ho (AA l).length hcp) bs bl->ZZ qA 17 #[ZW (U ⟨B,0,Y⟩)] w1 fun e w'=>∃so sc,e=I (ZX #[.slice so (AC m ps l).length sc,.int V 0])/\O w1.heap.size w1 w'/\F (SpO w' w1.heap.size (.slice so (AC m ps l).length sc) (AC m ps l))):=fun w1 B bs bl ho hcp h hs=>PB B _ _ _ _ m ps l ho hcp bs bl w1 (qE hB0 h.size) (hT0.below h hB0) (hV0.below h) hk hs;have HSt:=(show F _ from fun(w1 w2:M) (n:Nat) (ho:Option Addr) (hc:Nat) (so:Option Addr) (sc:Nat)=>QV W0 w1 w2 n (.slice ao m.vars.length ac) (.slice ro m.rules.length rc) (.slice po ps.length pc) (.slice fo l.length fc) m ps l ho hc so sc hk);have HRd:=(show F _ from fun(wr:M) (base A lm B bs bl k:Nat) (ho:Option Addr) (hc:Nat) (sv nv tv:J)=>QU W0 wr base A lm B bs bl k (.slice ao m.vars.length ac) (.slice ro m.rules.length rc) (.slice po ps.length pc) (.slice fo l.length fc) m ps l ho hc ((AC m ps l).length:Nat) ((AA l).length:Nat) sv nv tv hB0 hT0 hV0 hk);have HP0:F ((∀p∈xpP m ps l 0,Bl m l p)/\(xpP m ps l 0).length<=20000):=⟨OP hk,by
  have h1:=(Hh (AC m ps l) []).2;have h2:=IZ hk;have e:xpP m ps l 0=AH [] (AC m ps l):=rfl;rw[e];simp at h1;omega⟩
 have HPn:F (∀k,k<(xpP m ps l k).length->(∀p∈xpP m ps l k,Bl m l p)->∀p∈xpP m ps l (k+1),Bl m l p):=fun k h1 h2=>OO hk h1 h2;have HK:F (AX m ps l=0):=hk;have hbn:=IZ hk;have han:=(B6 (BU hk).2).2.2.2.2;unfold IP at hsv;clear hV hT hV0 hT0 hk;generalize hbl:(AC m ps l).length=bn at *;generalize hal:(AA l).length=an at *;generalize m.vars.length=vn at *;generalize m.rules.length=rn at *;generalize ps.length=pn at *;generalize l.length=fn at *
 have hmm:=@run_makeMap qA;go_enter gb,gh;go_upto_region 8 with(first|(go_at_call 16;rw[<-hW0];refine hsv.mono ?_;rintro e w1 ⟨n,ho,hcp,rfl,hb1,hn1,_,HS,HO,HM⟩;have hbe:=HBe.out w1 _ _ _ _ _ hb1 HS.out)|(go_at_call 17;refine hbe.mono ?_;rintro e w2 ⟨so,sc,rfl,hb2,HSp⟩;have hst:=HSt.out w1 w2 n ho hcp so sc hb1 hn1 HS.out HO.out HM.out hb2 HSp.out;have x4:=(HS.out.later hb2).c4))
 go_wp2_with (first|(go_at_call 18;refine hst.mono ?_;rintro e w3 ⟨v3,sv3,rfl,HX3⟩))
 generalize hA:w2.heap.size+1=A at *;generalize hlm:w2.heap.size=lm at *;generalize hBn:n+2=B at *;generalize hbs:n+1=bl at *;clear hst hsv hbe HSt HBe HS HO HM HSp x4 hb1 hb2 hmm hlm
 go_loopw [8] (fun i wr=>∃k pk:Nat,i=.int V k/\k<=pk/\pk<=20000/\F ((xpP m ps l k).length=pk/\(∀p∈xpP m ps l k,Bl m l p)/\∀j,j<k->j<(xpP m ps l j).length)/\∃vo vc nv tv,F (ExW W0 wr lm A lm B n bl (k*300001) (Z ao vn ac) (Z ro rn rc) (Z po pn pc) (Z fo fn fc) m ps l ho hcp (xpP m ps l k) (xpN m ps l k) (xpT m ps l k) (bn:Nat) (an:Nat) (Z vo pk vc) nv tv)) (fun i _=>20001-(intOf i).toNat)
 case atStart=>
  obtain⟨vo,vc,e⟩:=HX3.out.tl.sp.shape;refine⟨0,(xpP m ps l 0).length,rfl,qJ _,HP0.out.2,⟨rfl,HP0.out.1,fun j hj=>by omega⟩,vo,vc,Z Y 0 0,Z Y 0 0,?_⟩;rw[<-e];exact HX3.out
 case round=>
  obtain⟨k,pk,rfl,hkp,hpk,HK2,vo,vc,nv,tv,HX⟩:=hrel;obtain⟨a0,a1,a2,a3,a4,a5⟩:=C2 HX.out.tl.box;by_cases hlt:k<pk
  .have hki:(k:Int)<(pk:Int):=by omega
   have hlt2:k<(xpP m ps l k).length:=by rw[HK2.out.1];exact hlt
   obtain⟨b,off,rfl,_,c0,c1⟩:=HX.out.tl.sp.v.get hlt2;have hrd:=HRd.out wr lm A lm B n bl k ho hcp _ nv tv HX.out hlt2 (by rw[HK2.out.1];exact hpk) HK2.out.2.1;have HKn:F ((∀p∈xpP m ps l (k+1),Bl m l p)/\∀j,j<k+1->j<(xpP m ps l j).length):=⟨HPn.out k hlt2 HK2.out.2.1,fun j hj=>by
    by_cases h:j<k
    .exact HK2.out.2.2 j h
    .obtain rfl:j=k:=by omega
     exact hlt2⟩
   have e1:(xpP m ps l k).getD k (0,0)=Br m ps l k:=rfl;rw[e1]at c0 c1;clear e1 HX HRd hlt2;generalize Br m ps l k=s at *;obtain⟨x,y⟩:=s;simp only at c0 c1 hrd
   by_cases hfull:20000<(xpP m ps l (k+1)).length
   .rw[aj hfull]at hrd;have HFu:F (DU m ps l):=⟨k,fun j hj=>HKn.out.2 j (by omega),hfull⟩;clear hfull HKn HK2;go_wp2_with (first|(go_at_call 19;refine hrd.mono ?_;rintro e w4 ⟨rfl,sv4,nv4,tv4,HX4⟩;obtain⟨⟨x0,x1,x2,x3,x4⟩,xf,_,hbw⟩:=HFin.out w4 HX4.out.su.bel;have f0:=xf 0;have f1:=xf 1;have f2:=xf 2;have f3:=xf 3;have f4:=xf 4))
    have hbF:O w.heap.size w (((((w4.setCell ⟨w.heap.size+1,0,Y⟩ (Z Y 0 0)).setCell ⟨w.heap.size+1,1,Y⟩ (.int V 0)).setCell ⟨w.heap.size+1,2,Y⟩ (Z Y 0 0)).setCell ⟨w.heap.size+1,3,Y⟩ (Z Y 0 0)).setCell ⟨w.heap.size+1,4,Y⟩ (.int V 0)):=hbw.trans ((Ik w4 (w.heap.size+1) _ _ _ _ _).below (fun i e=>by omega) (by have:=hbw.size;omega));refine bodyPost_ret (v:=ZX #[ZY #[Z Y 0 0,.int V 0,Z Y 0 0,Z Y 0 0,.int V 0],.int V 12]) ?_ rfl (.inr (.inl ⟨HK.out,HFu.out,rfl,hbF⟩));simp[results,gj,go_sem,x0,x1,x2,x3,x4]
   .rw[ak hfull]at hrd;have HLe:F ((xpP m ps l (k+1)).length<=20000/\pk<=(xpP m ps l (k+1)).length):=⟨by omega,by
     rw[<-HK2.out.1];exact(LI (AC m ps l) (BB m ps l) k).length_le⟩
    clear hfull HK2;go_wp2_with (first|(go_at_call 19;refine hrd.mono ?_;rintro e w4 ⟨rfl,sv4,nv4,tv4,HX4⟩))
    go_roundw
    case rel=>
     obtain⟨vo4,vc4,e⟩:=HX4.out.tl.sp.shape;refine⟨k+1,(xpP m ps l (k+1)).length,by go_num,by have:=HLe.out.2;omega,HLe.out.1,⟨rfl,HKn.out⟩,vo4,vc4,nv4,tv4,?_⟩;rw[<-e];exact HX4.out
    case measure=>simp[intOf];omega
  .obtain rfl:k=pk:=by omega
   obtain⟨⟨x0,x1,x2,x3,x4⟩,xf,hty,hbw⟩:=HFin.out wr HX.out.su.bel;have f0:=xf 0;have f1:=xf 1;have f2:=xf 2;have f3:=xf 3;have f4:=xf 4;have HDn:F (At m ps l k):=⟨HK2.out.1,hpk,HK2.out.2.2,HK2.out.2.1⟩;have HG:F (GrX wr w.heap.size m ps l k (Z vo k vc) nv tv):=by
    have hle:w.heap.size<=lm:=by have:=HX.out.lo.1;have:=hbW.size;omega
    exact⟨Az HX.out.tl.sp hle,HX.out.tl.nx.mono hle,Az HX.out.tl.st hle⟩
   obtain⟨no,nn,nc,rfl⟩:∃no nn nc,nv=Z no nn nc:=by
    obtain⟨us,h1,_⟩:=HX.out.tl.nx;obtain⟨x,y,e⟩:=Au h1;exact⟨_,_,_,e⟩
   obtain⟨xo,xn,xc,rfl⟩:∃xo xn xc,tv=Z xo xn xc:=by
    obtain⟨x,y,e⟩:=Au HX.out.tl.st;exact⟨_,_,_,e⟩
   have HBF:F (∀w8,Chg (fun i=>i=w.heap.size+1) wr w8->O w.heap.size w w8/\GrX w8 w.heap.size m ps l k (Z vo k vc) (Z no nn nc) (Z xo xn xc)):=fun w8 h=>⟨hbw.trans (h.below (fun i e=>by omega) (by have:=hbw.size;omega)),HG.out.chg h hty⟩;clear HX HK2 HRd HG hty;go_wp2_with fail
   obtain⟨r1,r2⟩:=HBF.out _ (Ik wr (w.heap.size+1) _ _ _ _ _);refine bodyPost_ret (v:=ZX #[ZY #[Z vo k vc,.int V (bn:Nat),Z no nn nc,Z xo xn xc,.int V (an:Nat)],.int V 0]) ?_ rfl (.inl ⟨HK.out,k,HDn.out,_,_,_,rfl,r1,r2⟩);simp[results,gj,go_sem,x0,x1,x2,x3,x4]
theorem GZ(va vr pv fv:J)(m:Mo)(ps:List am)(l:am)(w:M)(hB:0<w.heap.size)(hT:AF w)(hV:TaskV w va vr pv fv m ps l) :
  ZZ qA 9 #[ZY #[va,vr,pv,fv]] w (FV w m ps l):=by
 by_cases hk:AX m ps l=0
 .exact QX va vr pv fv m ps l w hB hT hV hk
 .exact QW va vr pv fv m ps l w hB hT hV hk
open Go.ChangeShapes Go.WideShapes Go.ChangeAt Go.RowKit Go.Deep
open Terms
theorem V2{ts:List am}{i:Nat}(hi:i<ts.length):(ts.take (i+1)).flatten=(ts.take i).flatten++ts.getD i []:=by
 rw[qT hi,List.flatten_append];simp[qC,hi]
theorem Rk(kind:Int)(v:J)(ts:List am)(w:M)(hn:ts.length<=10)(hl:∀i,i<=ts.length->(ts.take i).flatten.length<=200)(hne:∀i,i<ts.length->ts.getD i []≠[])(hV:TermsV w v ts) :
  ZZ qA 26 #[C V kind,v] w fun e w'=>∃v',e=I v'/\O w.heap.size w w'/\w'.ownsRow w.heap.size 100 2 v' ((kind,0)::ts.flatten).length (flat ((kind,0)::ts.flatten)):=by
 obtain⟨i0,hi,hz0,hz1,hz2⟩:=info_parts Ll;obtain⟨va,vc,rfl,hat⟩:=hV;obtain⟨n,hnn⟩:∃n,n=ts.length:=⟨_,rfl⟩;have HN:F (n=ts.length):=hnn;have HL:=(show F _ from hl);have HNE:=(show F _ from hne);have HA:=(show F _ from hat);rw[<-hnn]at hn⊢;clear hl hne hat hnn;go_enter Tryz.func26,Tryz.ntmps26;go_wp2_with fail
 go_loopw [5,6] (fun out c wr=>∃i:Nat,i<=n/\c=.int V i/\wr.ownsRow w.heap.size 100 2 out ((ts.take i).flatten.length+1) (flat ((kind,0)::(ts.take i).flatten))/\O w.heap.size w wr) (fun _ c _=>n-(intOf c).toNat)
 case atStart=>exact⟨0,qJ _,rfl,World.ownsRow_lit w #[C V kind,.int V 0] 1 (qB _) (by unfold maxLen;omega) rfl,ai⟩
 case round=>
  obtain⟨i,hile,rfl,hown,hbel⟩:=hrel;by_cases hlt:i<n
  .have hlt':i<ts.length:=by rw[<-HN.out];exact hlt
   obtain⟨b,off,rfl,hbl,hcs⟩:=HA.out (by intro h;rw[h]at hlt';simp at hlt');obtain⟨u,hu,hou⟩:=hcs i hlt';have hcu:=(hbel.cell (p:=⟨b,off+i,Y⟩) hbl).trans hu;obtain⟨ua,uc,hus,_,huat⟩:=hou.below hbel;obtain⟨ub,uoff,rfl,hubl,huat⟩:=huat (HNE.out i hlt');have HS:F ((ts.take (i+1)).flatten=(ts.take i).flatten++ts.getD i []):=V2 hlt';have hl1:=HL.out (i+1) (by omega);rw[HS.out,qF]at hl1;have HC:F (∀j x,(flat (ts.getD i []))[j]? = U x->wr.cell? ((⟨ub,uoff,Y⟩:Addr).add j)=U x):=huat.cells;obtain⟨m,hm⟩:∃m,m=(ts.getD i []).length:=⟨_,rfl⟩;have HM:F (m=(ts.getD i []).length):=hm;rw[<-hm]at hus hl1;subst hus;obtain⟨q,hq⟩:∃q,q=(ts.take i).flatten.length:=⟨_,rfl⟩;have HQ:F (q=(ts.take i).flatten.length):=hq;rw[<-hq]at hown hl1;clear hou hu hcs huat hm hq hlt';generalize ts.getD i []=tt at HC HM HS;go_wp2_with (at_builtin;refine wpList_append_own _ rfl (.tmp 16) (.tmp 20) 33 rfl w.heap.size 100 i0 (ZY #[C V 0,.int V 0]) 2 16 Tryz.underlying33 hi hz0 hz1 hz2 rfl (by decide) _ _ _ rfl hown ⟨ub,uoff,Y⟩ m uc (flat tt) rfl ?c0 HC.out (LS _) ?c3 ?c4 ?c5 ?_)
   case c0=>rw[LR,HM.out]
   case c3=>unfold maxLen;omega
   case c4=>omega
   case c5=>exact hbel.size
   intro v' w4 hown' hgrow _;have hb4:O w.heap.size w w4:=hbel.grown hgrow hbel.size (fun k hk=>(hown.lt k hk).1);have ho4:w4.ownsRow w.heap.size 100 2 v' ((ts.take (i+1)).flatten.length+1) (flat ((kind,0)::(ts.take (i+1)).flatten)):=by
    have e1:(ts.take (i+1)).flatten.length+1=q+1+m:=by rw[HS.out,qF,<-HQ.out,<-HM.out];omega
    have e2:flat ((kind,0)::(ts.take (i+1)).flatten)=flat ((kind,0)::(ts.take i).flatten)++flat tt:=by rw[HS.out,<-Fi];rfl
    rw[e1,e2];exact hown'
   clear hown' hgrow hown;go_wp2;go_roundw
   case rel=>exact⟨i+1,by omega,by go_num,ho4,hb4⟩
   case measure=>simp[intOf];omega
  .have hin:i=n:=by omega
   subst hin;rw[show ts.take i=ts by rw[HN.out,vI]]at hown;clear hlt hile;go_wp2_with fail
   go_ret;exact⟨_,rfl,hbel,hown⟩
theorem I5(kind:Int)(g:Nat)(lv mv:J)(l m:am)(w:M)(hc:w.cell? ⟨g,0,Y⟩=U lv)(hd:w.cell? ⟨g,1,Y⟩=U mv)(hl:l.length<=60)(hm:m.length<=60)(hne:l≠[])(hne2:m≠[])(hV:OpsV w lv l)(hM:OpsV w mv m) :
  ZZ qA 26 #[C V kind,Z (U ⟨g,0,Y⟩) 2 2] w fun e w'=>∃a c,e=I (.slice a ((kind,0)::(l++m)).length c)/\O w.heap.size w w'/\OpsV w' (.slice a ((kind,0)::(l++m)).length c) ((kind,0)::(l++m)):=by
 have hT:TermsV w (Z (U ⟨g,0,Y⟩) 2 2) [l,m]:=⟨_,2,rfl,fun _=>⟨g,0,rfl,World.block_lt_of_cell? w ⟨g,0,Y⟩ hc,fun i hi=>by
  have:i=0\/i=1:=by simp at hi;omega
  rcases this with rfl|rfl
  .exact ⟨lv,hc,hV⟩
  .exact ⟨mv,hd,hM⟩⟩⟩
 refine(Rk kind _ [l,m] w (by simp) (fun i hi=>?_) (fun i hi=>?_) hT).mono fun e w' ⟨v',he,hb,ho⟩=>?_
 .have:i=0\/i=1\/i=2:=by simp at hi;omega
  rcases this with rfl|rfl|rfl<;>simp<;>omega
 .have:i=0\/i=1:=by simp at hi;omega
  rcases this with rfl|rfl
  .exact hne
  .exact hne2
 .have h2:[l,m].flatten=l++m:=by simp
  rw[h2]at ho;obtain⟨a,c,rfl⟩:=Au ho;exact⟨a,c,he,hb,G7 ho⟩
def tp0:Tm:=.bi 7 0 (.leaf 2 0) (.leaf 1 1)
def tp1:Tm:=.bi 7 0 (.leaf 2 0) (.leaf 2 1)
def tp2:Tm:=.bi 6 0 (.leaf 2 0) (.leaf 2 1)
def Aj:List am:=[[(7,0),(2,0),(1,1)],[(7,0),(2,0),(2,1)],[(6,0),(2,0),(2,1)]]
theorem WL:tp0.Good 2:=⟨by decide,by decide,rfl,.inr (.inl ⟨rfl,by decide,by decide⟩),.inl ⟨rfl,by decide,by decide⟩⟩
theorem WM:tp1.Good 2:=⟨by decide,by decide,rfl,.inr (.inl ⟨rfl,by decide,by decide⟩),.inr (.inl ⟨rfl,by decide,by decide⟩)⟩
theorem WN:tp2.Good 2:=⟨by decide,by decide,rfl,.inr (.inl ⟨rfl,by decide,by decide⟩),.inr (.inl ⟨rfl,by decide,by decide⟩)⟩
theorem Jl{T:Tm}(hg:T.Good 2)(h60:T.size<=60)(ht:T.typed=true)(hk:mkT T.kind=true):kcode 2 T.ops true=0:=by
 rw[Gt (by decide) (by decide) hg h60 ht,aj hk]
theorem T9{m:Mo}(hm:mcode m=0)(hv:m.vars.length=2):CP m Aj=0:=by
 unfold CP;rw[aj hm,ak (by decide)];refine Da fun j hj=>?_;rw[hv];have:j=0\/j=1\/j=2:=by simp[Aj]at hj;omega
 rcases this with rfl|rfl|rfl
 .exact Jl WL (by decide) (by decide) (by decide)
 .exact Jl WM (by decide) (by decide) (by decide)
 .exact Jl WN (by decide) (by decide) (by decide)
section
variable{a b:Vr}{w:M}{va vr pv:J}
end
theorem JX(w:M)(k v:Int):OpsV (w.alloc (L #[C V k,.int V v] 100)) (Z (U ⟨w.heap.size,0,Y⟩) 1 1) [(k,v)]:=by
 refine⟨_,1,rfl,⟨qB _,fun h=>by cases h⟩,fun _=>⟨w.heap.size,0,rfl,by simp,fun i hi=>?_⟩⟩;obtain rfl:i=0:=by simpa using hi
 constructor<;>simp[go_sem]
theorem OpsV.al{w:M}{v:J}{l:am}(h:OpsV w v l)(o:Obj):OpsV (w.alloc o) v l:=h.below ((qD _ _).alloc (qB _) o)
theorem T8(w:M) :
  ZZ qA 14 #[] w fun e w'=>∃pb,e=I (Z (U ⟨pb,0,Y⟩) 3 3)/\O w.heap.size w w'/\TermsV w' (Z (U ⟨pb,0,Y⟩) 3 3) Aj:=by
 have tk1:=True.intro;have tk2:=True.intro;have tk3:=True.intro;have hA:∀o1 o2 o3 o4,O w.heap.size w ((((w.alloc o1).alloc o2).alloc o3).alloc o4):=fun o1 o2 o3 o4=>(((ai).alloc (by simp) _).alloc (by simp;omega) _).alloc (by simp;omega) _;have hX:∀o2 o3 o4,OpsV ((((w.alloc (L #[C V 2,.int V 0] 100)).alloc o2).alloc o3).alloc o4) (Z (U ⟨w.heap.size,0,Y⟩) 1 1) [(2,0)]:=fun o2 o3 o4=>(((JX w 2 0).al o2).al o3).al o4;have hY:∀o1 o3 o4,OpsV ((((w.alloc o1).alloc (L #[C V 2,.int V 1] 100)).alloc o3).alloc o4) (Z (U ⟨w.heap.size+1,0,Y⟩) 1 1) [(2,1)]:=fun o1 o3 o4=>by
  have:=((JX (w.alloc o1) 2 1).al o3).al o4;rw[fp]at this;exact this
 have hN:∀o1 o2 o4,OpsV ((((w.alloc o1).alloc o2).alloc (L #[C V 1,.int V 1] 100)).alloc o4) (Z (U ⟨w.heap.size+1+1,0,Y⟩) 1 1) [(1,1)]:=fun o1 o2 o4=>by
  have:=(JX ((w.alloc o1).alloc o2) 1 1).al o4;rw[fp,fp]at this;exact this
 go_enter Tryz.func14,Tryz.ntmps14;go_wp2_with (first|(clear tk1;go_at_call 26;refine(I5 7 _ (Z (U ⟨w.heap.size,0,Y⟩) 1 1) (Z (U ⟨w.heap.size+1+1,0,Y⟩) 1 1) [(2,0)] [(1,1)] _ (by simp[go_sem]) (by simp[go_sem]) (by simp) (by simp) (by simp) (by simp) (hX _ _ _) (hN _ _ _)).mono ?_;rintro e w5 ⟨a1,c1,rfl,hb5,hp1⟩;have hx5:=(hX _ _ _).below hb5;have hy5:=(hY _ _ _).below hb5;have hbw5:=(hA _ _ _ _).trans (hb5.mono (hA _ _ _ _).size))|(clear tk2;go_at_call 26;refine(I5 7 _ (Z (U ⟨w.heap.size,0,Y⟩) 1 1) (Z (U ⟨w.heap.size+1,0,Y⟩) 1 1) [(2,0)] [(2,1)] _ (by simp[go_sem]) (by simp[go_sem]) (by simp) (by simp) (by simp) (by simp) (hx5.al _) (hy5.al _)).mono ?_;rintro e w6 ⟨a2,c2,rfl,hb6,hp2⟩;have hx6:=(hx5.al _).below hb6;have hy6:=(hy5.al _).below hb6;have hq6:=(hp1.al _).below hb6)|(clear tk3;go_at_call 26;refine(I5 6 _ (Z (U ⟨w.heap.size,0,Y⟩) 1 1) (Z (U ⟨w.heap.size+1,0,Y⟩) 1 1) [(2,0)] [(2,1)] _ (by simp[go_sem]) (by simp[go_sem]) (by simp) (by simp) (by simp) (by simp) (hx6.al _) (hy6.al _)).mono ?_;rintro e w7 ⟨a3,c3,rfl,hb7,hp3⟩;have hq7:=(hq6.al _).below hb7;have hr7:=(hp2.al _).below hb7))
 go_ret;have h6:O w.heap.size w w6:=(hbw5.alloc hbw5.size _).trans (hb6.mono (hbw5.alloc hbw5.size _).size);have h7:O w.heap.size w w7:=(h6.alloc h6.size _).trans (hb7.mono (h6.alloc h6.size _).size);refine⟨w7.heap.size,rfl,h7.alloc h7.size _,_,3,rfl,fun _=>⟨w7.heap.size,0,rfl,by simp,fun i hi=>?_⟩⟩;have:i=0\/i=1\/i=2:=by simp[Aj]at hi;omega
 rcases this with rfl|rfl|rfl
 .exact ⟨_,by simp[go_sem],hq7.al _⟩
 .exact ⟨_,by simp[go_sem],hr7.al _⟩
 .exact ⟨_,by simp[go_sem],hp3.al _⟩
inductive ForT(props:Int):Nat->am->Prop
 |prop (v:Int):0<=v->v<props->ForT props 0 [(13,v)]
 |not (m:Nat) (a:am):ForT props m a->ForT props m ((10,0)::a)
 |bin (m n:Nat) (k:Int) (a b:am):8<=k->k<=9->ForT props m a->ForT props n b->ForT props (m+n) ((k,0)::(a++b))
 |tun (m:Nat) (k:Int) (a:am):k=14\/k=17\/k=18->ForT props m a->ForT props (m+1) ((k,0)::a)
 |tbi (m n:Nat) (k:Int) (a b:am):15<=k->k<=16->ForT props m a->ForT props n b->ForT props (m+n+1) ((k,0)::(a++b))
theorem GrownAt.factsF{w:M}{G:Nat}{rawv:J}{at':Nat}{vars props tempo:Int}{l:am}(h:GrownAt w G rawv at' vars props tempo l) :
  w.cell? ⟨G,1,Y⟩=U (.int V at')/\w.cell? ⟨G,3,Y⟩=U (.int V props)/\w.cell? ⟨G,4,Y⟩=U (.int V tempo)/\w.frozen? ⟨G,4,Y⟩=E/\G<w.heap.size:=by
 obtain⟨outv,hh,ho⟩:=h;obtain⟨_,a,b,_,f,c⟩:=D5 hh;exact⟨a,by simp[br,hh],by simp[br,hh],f 4,c⟩
theorem GrownAt.setTempo{w:M}{G:Nat}{rawv:J}{at':Nat}{vars props tempo:Int}{l:am}(h:GrownAt w G rawv at' vars props tempo l)(n:Int):GrownAt (w.setCell ⟨G,4,Y⟩ (.int V n)) G rawv at' vars props n l:=by
 obtain⟨outv,hh,ho⟩:=h;refine⟨outv,by simp[World.setCell,Array.getElem?_modify,hh],?_⟩;exact ownsRow_setCell_below ho (by simp) _
def ER(G:Nat)(rawv:J)(at':Nat)(vars props:Int)(tempo:Nat)(l:am)(d:Nat)(w:M)(e:Ending)(w':M):Prop:=
 ∃t m,e=I (ZX #[])/\ForT props m t/\m<=tempo/\(at'+t.length<=at'+1\/at'+t.length<=13+d)/\t.length+1<=2^(d+1)/\GrownAt w' G rawv (at'+t.length) vars props ((tempo-m:Nat):Int) (l++t)/\O G w w'
theorem Wg(d:Nat):2<=2^(d+1):=by
 have:2^(d+1)=2*2^d:=by rw[jL,jK]
 have:0<2^d:=Nat.two_pow_pos d;omega
theorem Jm{G:Nat}{rawv:J}{at':Nat}{vars props:Int}{tempo:Nat}{q:Int}{l:am}{d:Nat}{w w5:M}(h0:0<=q)(h1:q<props)(hb:O G w w5)(hg:GrownAt w5 G rawv (at'+1) vars props (tempo:Int) (l++[(13,q)])):ER G rawv at' vars props tempo l d w (I (ZX #[])) w5:=
 ⟨[(13,q)],0,rfl,.prop _ h0 h1,qJ _,.inl (by simp),by have:=Wg d;simpa using this,by simpa using hg,hb⟩
theorem MY{G:Nat}{rawv:J}{at':Nat}{vars props:Int}{tempo m:Nat}{l:am}{d:Nat}{w w5:M}{ta:am}(hta:ForT props m ta)(hm:m<=tempo)
  (hn:at'+1+ta.length<=13+(d+1)) (h2:ta.length+1<=2^(d+1)) (hb:O G w w5) (hg:GrownAt w5 G rawv (at'+1+ta.length) vars props ((tempo-m:Nat):Int) (l++[(10,0)]++ta)):ER G rawv at' vars props tempo l (d+1) w (I (ZX #[])) w5:=by
 have e1:at'+((10,(0:Int))::ta:am).length=at'+1+ta.length:=by simp;omega
 have e2:l++(10,(0:Int))::ta=l++[(10,0)]++ta:=by simp
 have e3:2^(d+1+1)=2*2^(d+1):=by rw[jL,jK]
 refine⟨(10,0)::ta,m,rfl,.not _ _ hta,hm,?_,?_,?_,hb⟩
 .rw[e1];omega
 .simp only[qY];rw[e3];omega
 .rw[e1,e2];exact hg
theorem Kl{G:Nat}{rawv:J}{at':Nat}{vars props:Int}{tempo m n:Nat}{K:Int}{l:am}{d:Nat}{w w5:M}{ta tb:am}(hta:ForT props m ta)(htb:ForT props n tb)(h8:8<=K)(h9:K<=9)(hm:m<=tempo)(hn':n<=tempo-m)
  (hn:at'+1+ta.length+tb.length<=13+(d+1)) (h2:ta.length+1<=2^(d+1)) (h3:tb.length+1<=2^(d+1)) (hb:O G w w5) (hg:GrownAt w5 G rawv (at'+1+ta.length+tb.length) vars props ((tempo-m-n:Nat):Int) (l++[(K,0)]++ta++tb)):ER G rawv at' vars props tempo l (d+1) w (I (ZX #[])) w5:=by
 have e1:at'+((K,(0:Int))::(ta++tb)).length=at'+1+ta.length+tb.length:=by simp;omega
 have e2:l++(K,(0:Int))::(ta++tb)=l++[(K,0)]++ta++tb:=by simp
 have e3:2^(d+1+1)=2*2^(d+1):=by rw[jL,jK]
 refine⟨(K,0)::(ta++tb),m+n,rfl,.bin _ _ _ _ _ h8 h9 hta htb,by omega,?_,?_,?_,hb⟩
 .rw[e1];omega
 .simp only[qY,qF];rw[e3];omega
 .rw[e1,e2,show tempo-(m+n)=tempo-m-n by omega];exact hg
theorem We{G:Nat}{rawv:J}{at':Nat}{vars props:Int}{tempo m:Nat}{K:Int}{l:am}{d:Nat}{w w5:M}{ta:am}(hta:ForT props m ta)(hK:K=14\/K=17\/K=18)(ht:0<tempo)(hm:m<=tempo-1)
  (hn:at'+1+ta.length<=13+(d+1)) (h2:ta.length+1<=2^(d+1)) (hb:O G w w5) (hg:GrownAt w5 G rawv (at'+1+ta.length) vars props ((tempo-1-m:Nat):Int) (l++[(K,0)]++ta)):ER G rawv at' vars props tempo l (d+1) w (I (ZX #[])) w5:=by
 have e1:at'+((K,(0:Int))::ta:am).length=at'+1+ta.length:=by simp;omega
 have e2:l++(K,(0:Int))::ta=l++[(K,0)]++ta:=by simp
 have e3:2^(d+1+1)=2*2^(d+1):=by rw[jL,jK]
 refine⟨(K,0)::ta,m+1,rfl,.tun _ _ _ hK hta,by omega,?_,?_,?_,hb⟩
 .rw[e1];omega
 .simp only[qY];rw[e3];omega
 .rw[e1,e2,show tempo-(m+1)=tempo-1-m by omega];exact hg
theorem V7{G:Nat}{rawv:J}{at':Nat}{vars props:Int}{tempo m n:Nat}{K:Int}{l:am}{d:Nat}{w w5:M}{ta tb:am}(hta:ForT props m ta)(htb:ForT props n tb)(h8:15<=K)(h9:K<=16)(ht:0<tempo)(hm:m<=tempo-1)(hn':n<=tempo-1-m)
  (hn:at'+1+ta.length+tb.length<=13+(d+1)) (h2:ta.length+1<=2^(d+1)) (h3:tb.length+1<=2^(d+1)) (hb:O G w w5) (hg:GrownAt w5 G rawv (at'+1+ta.length+tb.length) vars props ((tempo-1-m-n:Nat):Int) (l++[(K,0)]++ta++tb)):ER G rawv at' vars props tempo l (d+1) w (I (ZX #[])) w5:=by
 have e1:at'+((K,(0:Int))::(ta++tb)).length=at'+1+ta.length+tb.length:=by simp;omega
 have e2:l++(K,(0:Int))::(ta++tb)=l++[(K,0)]++ta++tb:=by simp
 have e3:2^(d+1+1)=2*2^(d+1):=by rw[jL,jK]
 refine⟨(K,0)::(ta++tb),m+n+1,rfl,.tbi _ _ _ _ _ h8 h9 hta htb,by omega,?_,?_,?_,hb⟩
 .rw[e1];omega
 .simp only[qY,qF];rw[e3];omega
 .rw[e1,e2,show tempo-(m+n+1)=tempo-1-m-n by omega];exact hg
theorem LV(G:Nat)(rawv:J)(rs:am)(at':Nat)(vars props:Int)(tempo:Nat)(l:am)(d:Nat)(w:M)(hat:at'<=60)(hl:l.length<=60)(hp1:1<=props)(hp2:props<=100)(hd:d<=100)(hleaf:d=0\/12<=at')
  (hR:Raws w G rawv rs) (h:GrownAt w G rawv at' vars props (tempo:Int) l) :
  ZZ qA 27 #[ZW (U ⟨G,0,Y⟩),.int V d] w (ER G rawv at' vars props tempo l d w):=by
 have htake:=Nn G rawv rs at' vars props tempo l w (by omega) hR h;have hlt:G<w.heap.size:=h.factsF.2.2.2.2;clear hR h;have htst:((d:Int) == 0)=true\/((d:Int) == 0)=E/\decide ((12:Int)<(at':Int)+1)=true:=by
  by_cases h0:d=0
  .left;simp[h0]
  .right;simp;omega
 clear hleaf;rcases htst with hd0|⟨hd0,h10⟩;all_goals
  go_enter f5,gd;go_wp2_with (first|(go_at_call 50;refine htake.mono ?_;rintro e w1 ⟨k,v,hk,hv,rfl,hg1,hb1⟩;obtain⟨d1,d3,d4,f4,dlt⟩:=hg1.factsF;have hg2:=hg1.alloc (L #[C V k,.int V v] 132))|(go_at_call 21;refine(FJ _ _ _ (by assumption) (by decide) (by decide)).mono ?_;rintro e w2 ⟨r,hr0,hr1,rfl,rfl⟩)|(go_at_call 51;refine(CS G rawv (at'+1) vars props tempo _ _ l _ (by omega) hg2).mono ?_;rintro e w3 ⟨rfl,hg3,hb3⟩))
  have hgd:GrownAt (w1.alloc (L #[C V k,.int V v] 132)).drew G rawv (at'+1) vars props tempo l:=hg2;clear hg1 hg2 htake;go_region_with (first|(go_at_call 21;refine(FJ _ _ _ (by assumption) (by omega) (by omega)).mono ?_;rintro e w2 ⟨q,hq0,hq1,rfl,rfl⟩)|(go_at_call 51;refine(CS G rawv (at'+1) vars props tempo _ _ l _ (by omega) hgd).mono ?_;rintro e w3 ⟨rfl,hg3,hb3⟩))
  all_goals
   go_wp2_with fail
   go_end0
   exact Jm hq0 hq1 ((hb1.alloc (qU dlt) _).drew.trans hb3) hg3
theorem Qv(G:Nat)(rawv:J)(rs:am)(vars props:Int)(hp1:1<=props)(hp2:props<=100)(d:Nat):∀(at':Nat) (tempo:Nat) (l:am) (w:M),d<=5->tempo<=100->at'<=40->l.length=at'->Raws w G rawv rs->GrownAt w G rawv at' vars props (tempo:Int) l->
  ZZ qA 27 #[ZW (U ⟨G,0,Y⟩),.int V d] w (ER G rawv at' vars props tempo l d w):=by
 induction d with
 |zero=>intro at' tempo l w _ _ ha hl hR h;exact LV G rawv rs at' vars props tempo l 0 w (by omega) (by omega) hp1 hp2 (by omega) (.inl rfl) hR h
 |succ d ih=>
  intro at' tempo l w hd htm ha hl hR h;by_cases hleaf:12<=at'
  .exact LV G rawv rs at' vars props tempo l (d+1) w (by omega) (by omega) hp1 hp2 (by omega) (.inr hleaf) hR h
  have htake:=Nn G rawv rs at' vars props tempo l w (by omega) hR h;have hlt:G<w.heap.size:=h.factsF.2.2.2.2;have HR:F (Raws w G rawv rs):=hR;have HL:F (l.length=at'):=hl;have hl98:l.length<=40:=by omega
  clear hR h hl;have hat10:at'<12:=by omega
  have hdd:((d+1:Nat):Int)=(d:Int)+1:=by omega
  rw[hdd];have hd0:((d:Int)+1 == 0)=false:=by simp;omega
  have h10:decide ((12:Int)<(at':Int)+1)=false:=by simp;omega
  clear hdd hleaf;by_cases ht0:tempo=0
  .have htt:(((tempo:Nat):Int) == 0)=true:=by simp;omega
   clear ht0;go_enter f5,gd;go_wp2_with (first|(go_at_call 50;refine htake.mono ?_;rintro e w1 ⟨k,v,hk,hv,rfl,hg1,hb1⟩;obtain⟨d1,d3,d4,f4,dlt⟩:=hg1.factsF;have hg2:=hg1.alloc (L #[C V k,.int V v] 132))|(go_at_call 21;refine(FJ _ _ _ (by assumption) (by decide) (by decide)).mono ?_;rintro e w2 ⟨r,hr0,hr1,rfl,rfl⟩;have hcs:r<=8\/r=9\/r=10\/r=11\/r=12\/13<=r:=(by omega);rcases hcs with h9|rfl|rfl|rfl|rfl|h13)|(go_at_call 51;refine(CS G rawv (at'+1) vars props tempo _ _ l _ (by omega) hg2).mono ?_;rintro e w3 ⟨rfl,hg3,hb3⟩))
   .have hgd:GrownAt (w1.alloc (L #[C V k,.int V v] 132)).drew G rawv (at'+1) vars props tempo l:=hg2;clear hg1 hg2 htake ih;go_region_with (first|(go_at_call 21;refine(FJ _ _ _ (by assumption) (by omega) (by omega)).mono ?_;rintro e w2 ⟨q,hq0,hq1,rfl,rfl⟩)|(go_at_call 51;refine(CS G rawv (at'+1) vars props tempo _ _ l _ (by omega) hgd).mono ?_;rintro e w3 ⟨rfl,hg3,hb3⟩))
    all_goals
     go_wp2_with fail
     go_end0
     exact Jm hq0 hq1 ((hb1.alloc (qU dlt) _).drew.trans hb3) hg3
   all_goals
    have hb13:=(hb1.alloc (qU dlt) (L #[C V k,.int V v] 132)).trans hb3;have hn1:=ih (at'+1) tempo _ w3 (by omega) (by omega) (by omega) (by rw[qF,HL.out];rfl) (HR.out.below hb13) hg3;clear hg1 hg2 htake;go_wp2_with (go_at_call 27;refine hn1.mono ?_;rintro e w4 ⟨ta,m,rfl,hta,hm,ha14,h2a,hg4,hb4⟩;have H2a:=(show F _ from h2a);clear h2a)
    first
     |(go_end0;exact MY hta hm (by omega) H2a.out (hb13.trans hb4) hg4)
     |(have hb14:=hb13.trans hb4;have hn2:=ih (at'+1+ta.length) (tempo-m) _ w4 (by omega) (by omega) (by omega) (by rw[qF,qF,HL.out];rfl) (HR.out.below hb14) hg4;clear hn1 ih;go_wp2_with (go_at_call 27;refine hn2.mono ?_;rintro e w5 ⟨tb,n,rfl,htb,hn,hb14',h2b,hg5,hb5⟩);go_end0;exact Kl hta htb (by omega) (by omega) hm hn (by omega) H2a.out h2b (hb14.trans hb5) hg5)
  .have htt:(((tempo:Nat):Int) == 0)=false:=by simp;omega
   have HT0:F (0<tempo):=by show 0<tempo;omega
   have HTI:F ((tempo:Int)-1=((tempo-1:Nat):Int)):=by show _=_;omega
   go_enter f5,gd;go_wp2_with (first|(go_at_call 50;refine htake.mono ?_;rintro e w1 ⟨k,v,hk,hv,rfl,hg1,hb1⟩;obtain⟨d1,d3,d4,f4,dlt⟩:=hg1.factsF;have hg2:=hg1.alloc (L #[C V k,.int V v] 132))|(go_at_call 21;refine(FJ _ _ _ (by assumption) (by decide) (by decide)).mono ?_;rintro e w2 ⟨r,hr0,hr1,rfl,rfl⟩;have hcs:r<=8\/r=9\/r=10\/r=11\/r=12\/13<=r:=(by omega);rcases hcs with h9|rfl|rfl|rfl|rfl|h13)|(go_at_call 51;refine(CS G rawv (at'+1) vars props tempo _ _ l _ (by omega) hg2).mono ?_;rintro e w3 ⟨rfl,hg3,hb3⟩))
   .have hgd:GrownAt (w1.alloc (L #[C V k,.int V v] 132)).drew G rawv (at'+1) vars props tempo l:=hg2;clear hg1 hg2 htake ih;go_region_with (first|(go_at_call 21;refine(FJ _ _ _ (by assumption) (by omega) (by omega)).mono ?_;rintro e w2 ⟨q,hq0,hq1,rfl,rfl⟩)|(go_at_call 51;refine(CS G rawv (at'+1) vars props tempo _ _ l _ (by omega) hgd).mono ?_;rintro e w3 ⟨rfl,hg3,hb3⟩))
    all_goals
     go_wp2_with fail
     go_end0
     exact Jm hq0 hq1 ((hb1.alloc (qU dlt) _).drew.trans hb3) hg3
   .have hb13:=(hb1.alloc (qU dlt) (L #[C V k,.int V v] 132)).trans hb3;have hn1:=ih (at'+1) tempo _ w3 (by omega) (by omega) (by omega) (by rw[qF,HL.out];rfl) (HR.out.below hb13) hg3;clear hg1 hg2 htake ih;go_wp2_with (go_at_call 27;refine hn1.mono ?_;rintro e w4 ⟨ta,m,rfl,hta,hm,ha14,h2a,hg4,hb4⟩;have H2a:=(show F _ from h2a);clear h2a)
    go_end0
    exact MY hta hm (by omega) H2a.out (hb13.trans hb4) hg4
   .have hb13:=(hb1.alloc (qU dlt) (L #[C V k,.int V v] 132)).trans hb3;have hn1:=ih (at'+1) tempo _ w3 (by omega) (by omega) (by omega) (by rw[qF,HL.out];rfl) (HR.out.below hb13) hg3;clear hg1 hg2 htake;go_wp2_with (go_at_call 27;refine hn1.mono ?_;rintro e w4 ⟨ta,m,rfl,hta,hm,ha14,h2a,hg4,hb4⟩;have H2a:=(show F _ from h2a);clear h2a)
    have hb14:=hb13.trans hb4;have hn2:=ih (at'+1+ta.length) (tempo-m) _ w4 (by omega) (by omega) (by omega) (by rw[qF,qF,HL.out];rfl) (HR.out.below hb14) hg4;clear hn1 ih;go_wp2_with (go_at_call 27;refine hn2.mono ?_;rintro e w5 ⟨tb,n,rfl,htb,hn,hb14',h2b,hg5,hb5⟩)
    go_end0
    exact Kl hta htb (by omega) (by omega) hm hn (by omega) H2a.out h2b (hb14.trans hb5) hg5
   iterate 4
    .have hgt:=((hg1.setTempo ((tempo:Int)-1)).alloc (L #[C V k,.int V v] 132)).alloc (L #[C V 14,.int V 17,.int V 18,.int V 17] 3);have hbt:=((hb1.setCell (p:=⟨G,4,Y⟩) (qB _) (.int V ((tempo:Int)-1))).alloc (by simp;omega) (L #[C V k,.int V v] 132)).alloc (by simp;omega) (L #[C V 14,.int V 17,.int V 18,.int V 17] 3);have hpt:=fun kk=>CS G rawv (at'+1) vars props ((tempo:Int)-1) kk 0 l _ (by omega) hgt;clear hg1 hg2 htake hgt;go_wp2_with (go_at_call 51;refine(hpt _).mono ?_;rintro e w3 ⟨rfl,hg3,hb3⟩)
     have hb13:=hbt.trans hb3;rw[HTI.out]at hg3;clear hpt;have hn1:=ih (at'+1) (tempo-1) _ w3 (by omega) (by omega) (by omega) (by rw[qF,HL.out];rfl) (HR.out.below hb13) hg3;clear ih;go_wp2_with (go_at_call 27;refine hn1.mono ?_;rintro e w4 ⟨ta,m,rfl,hta,hm,ha14,h2a,hg4,hb4⟩;have H2a:=(show F _ from h2a);clear h2a)
     go_end0
     exact We hta (by decide) HT0.out hm (by omega) H2a.out (hb13.trans hb4) hg4
   .have hgt:=(hg1.setTempo ((tempo:Int)-1)).alloc (L #[C V k,.int V v] 132);have hbt:=(hb1.setCell (p:=⟨G,4,Y⟩) (qB _) (.int V ((tempo:Int)-1))).alloc (by simp;omega) (L #[C V k,.int V v] 132);have hpt:=fun kk=>CS G rawv (at'+1) vars props ((tempo:Int)-1) kk 0 l _ (by omega) hgt;clear hg1 hg2 htake hgt;go_wp2_with (go_at_call 51;refine(hpt _).mono ?_;rintro e w3 ⟨rfl,hg3,hb3⟩)
    have hb13:=hbt.trans hb3;rw[HTI.out]at hg3;clear hpt;have hn1:=ih (at'+1) (tempo-1) _ w3 (by omega) (by omega) (by omega) (by rw[qF,HL.out];rfl) (HR.out.below hb13) hg3;go_wp2_with (go_at_call 27;refine hn1.mono ?_;rintro e w4 ⟨ta,m,rfl,hta,hm,ha14,h2a,hg4,hb4⟩;have H2a:=(show F _ from h2a);clear h2a)
    have hb14:=hb13.trans hb4;have hn2:=ih (at'+1+ta.length) ((tempo-1)-m) _ w4 (by omega) (by omega) (by omega) (by rw[qF,qF,HL.out];rfl) (HR.out.below hb14) hg4;clear hn1 ih;go_wp2_with (go_at_call 27;refine hn2.mono ?_;rintro e w5 ⟨tb,n,rfl,htb,hn,hb14',h2b,hg5,hb5⟩)
    go_end0
    exact V7 hta htb (by omega) (by omega) HT0.out hm hn (by omega) H2a.out h2b (hb14.trans hb5) hg5
theorem RC(w:M)(rawv:J)(vars props tempo:Int) :
  GrownAt (w.alloc (L #[rawv,.int V 0,.int V vars,.int V props,.int V tempo,Z Y 0 0] 104)) w.heap.size rawv 0 vars props tempo []:=
 ⟨_,blk_alloc_new _ _,aX _ _ _ _⟩
theorem Qu(rawv:J)(rs:am)(props:Int)(tempo:Nat)(w:M)(hp1:1<=props)(hp2:props<=100)(ht:tempo<=100)(hR:Raws w w.heap.size rawv rs) :
  ZZ qA 15 #[rawv,.int V props,.int V (tempo:Int)] w fun e w'=>∃a c t m,e=I (.slice a t.length c)/\ForT props m t/\m<=tempo/\t.length<=17/\OpsV w' (.slice a t.length c) t/\O w.heap.size w w':=by
 have hb0:=(qD w.heap.size w).alloc (qB _) (L #[rawv,.int V 0,.int V 0,.int V props,.int V (tempo:Int),Z Y 0 0] 104);have htr:=Qv w.heap.size rawv rs 0 props hp1 hp2 4 0 tempo [] _ (by omega) ht (by omega) rfl (hR.below hb0) (RC w rawv 0 props tempo);obtain⟨ra,rn,rc,hra⟩:∃a n c,rawv=Z a n c:=by obtain⟨⟨a,c,h,_⟩,_,_⟩:=hR;exact⟨_,_,_,h⟩
 subst hra;clear hR;go_enter Tryz.func15,Tryz.ntmps15;go_wp2_with (go_at_call 27;refine htr.mono ?_;rintro e w1 ⟨t,m,rfl,ht,hm,hlen,_,hg1,hb1⟩;obtain⟨outv,hh,ho⟩:=hg1;obtain⟨_,_,_,c5,_,hlt⟩:=D5 hh)
 go_ret;rw[List.nil_append]at ho;obtain⟨a,c,rfl⟩:=Au ho;exact⟨a,c,t,m,rfl,ht,hm,by omega,G7 ho,hb0.trans hb1⟩
structure FOk(m:Nat)(t:am)(T:Tm):Prop where
 ops:T.ops=t
 wf:T.Wf
 good:∀o,o∈t->A4 3 o=0
 many:(t.filter fun o=>Ag o.1).length=m
theorem FOk.not{m:Nat}{t:am}{T:Tm}(h:FOk m t T):FOk m ((10,0)::t) (.un 10 0 T):=by
 obtain⟨h1,h2,h3,h4⟩:=h;refine⟨by simp[Tm.ops,h1],⟨by decide,by decide,h2⟩,fun o ho=>?_,?_⟩
 .rcases qW.1 ho with rfl|ho
  .rfl
  .exact h3 o ho
 .rw[jV,ak (by decide)];exact h4
theorem FOk.tun{m:Nat}{k:Int}{t:am}{T:Tm}(hk:k=14\/k=17\/k=18)(h:FOk m t T):FOk (m+1) ((k,0)::t) (.un k 0 T):=by
 obtain⟨h1,h2,h3,h4⟩:=h;refine⟨by simp[Tm.ops,h1],?_,fun o ho=>?_,?_⟩
 .rcases hk with rfl|rfl|rfl<;>exact⟨by decide,by decide,h2⟩
 .rcases qW.1 ho with rfl|ho
  .rcases hk with rfl|rfl|rfl<;>rfl
  .exact h3 o ho
 .rw[jV,aj (by rcases hk with rfl|rfl|rfl<;>decide),qY,h4]
theorem FOk.bin{m n:Nat}{k:Int}{t s:am}{T S:Tm}(h8:8<=k)(h9:k<=9)(h:FOk m t T)(g:FOk n s S):FOk (m+n) ((k,0)::(t++s)) (.bi k 0 T S):=by
 obtain⟨h1,h2,h3,h4⟩:=h;obtain⟨g1,g2,g3,g4⟩:=g;have hk:k=8\/k=9:=by omega
 refine⟨by simp[Tm.ops,h1,g1],?_,fun o ho=>?_,?_⟩
 .rcases hk with rfl|rfl<;>exact⟨by decide,by decide,h2,g2⟩
 .rcases qW.1 ho with rfl|ho
  .rcases hk with rfl|rfl<;>rfl
  .rcases qL.1 ho with ho|ho
   .exact h3 o ho
   .exact g3 o ho
 .rw[jV,ak (by rcases hk with rfl|rfl<;>decide),zP,qF,h4,g4]
theorem FOk.tbi{m n:Nat}{k:Int}{t s:am}{T S:Tm}(h8:15<=k)(h9:k<=16)(h:FOk m t T)(g:FOk n s S):FOk (m+n+1) ((k,0)::(t++s)) (.bi k 0 T S):=by
 obtain⟨h1,h2,h3,h4⟩:=h;obtain⟨g1,g2,g3,g4⟩:=g;have hk:k=15\/k=16:=by omega
 refine⟨by simp[Tm.ops,h1,g1],?_,fun o ho=>?_,?_⟩
 .rcases hk with rfl|rfl<;>exact⟨by decide,by decide,h2,g2⟩
 .rcases qW.1 ho with rfl|ho
  .rcases hk with rfl|rfl<;>rfl
  .rcases qL.1 ho with ho|ho
   .exact h3 o ho
   .exact g3 o ho
 .rw[jV,aj (by rcases hk with rfl|rfl<;>decide),qY,zP,qF,h4,g4]
theorem ForT.ok{m:Nat}{t:am}(h:ForT 3 m t):∃T,FOk m t T:=by
 induction h with
 |prop v h0 h1=>
  refine⟨.leaf 13 v,rfl,⟨by decide,by decide⟩,fun o ho=>?_,by rw[jV,ak (by show¬Ag 13=true;decide)];rfl⟩;obtain rfl:o=(13,v):=by simpa using ho
  unfold A4;rw[ak (by show¬(13:Int)<8;decide),ak (by simp;omega)]
 |not m a _ ih=>obtain⟨T,hT⟩:=ih;exact⟨_,hT.not⟩
 |bin m n k a b h8 h9 _ _ iha ihb=>obtain⟨A,hA⟩:=iha;obtain⟨B,hB⟩:=ihb;exact⟨_,hA.bin h8 h9 hB⟩
 |tun m k a hk _ ih=>obtain⟨T,hT⟩:=ih;exact⟨_,hT.tun hk⟩
 |tbi m n k a b h8 h9 _ _ iha ihb=>obtain⟨A,hA⟩:=iha;obtain⟨B,hB⟩:=ihb;exact⟨_,hA.tbi h8 h9 hB⟩
theorem ForT.ne{props:Int}{m:Nat}{t:am}(h:ForT props m t):t≠[]:=by cases h<;>simp
theorem Oi(l:am):∀n,n<=l.length->(AO l n).length=((l.take n).filter fun o=>Ag o.1).length:=by
 intro n;induction n with
 |zero=>intro _;rfl
 |succ n ih=>
  intro hn;rw[qT (by omega),zP,qF,<-ih (by omega)];simp only[AO,qF];congr 1
  rw[qC,qH (by omega),vW,jV];cases Ag (l[n]).1<;>simp
theorem FOk.ahead{m:Nat}{t:am}{T:Tm}(h:FOk m t T):(AA t).length=m:=by
 unfold AA;rw[Oi t t.length (qB _),vI,h.many]
theorem FOk.size{m:Nat}{t:am}{T:Tm}(h:FOk m t T):T.size=t.length:=by rw[<-Tm.ops_length,h.ops]
theorem FOk.ends{m:Nat}{t:am}{T:Tm}(h:FOk m t T)(hl:t.length<=60):AU (t.map Prod.fst)=0:=by
 have h1:=Tm.one h.wf;rw[h.ops]at h1;unfold AU;rw[qM,ak (by have:=h.size;have:=T.size_pos;omega),h1,h.size];simp
theorem FOk.code{m:Nat}{t:am}{T:Tm}(h:FOk m t T)(hl:t.length<=60)(hm:m<=6):Ad 3 t=0:=by
 rw[JA (by omega) (h.ends hl) (L7 fun j hj=>h.good _ (by rw[qC,qH hj,vW];exact qR hj)),h.ahead,ak (by omega)]
open Go.ChangeShapes Go.WideShapes Go.ChangeAt Go.RowKit Go.Deep Go.Shelf
attribute [local go_sem] Oper.semAt_some
attribute [local go_sem] Oper.semAt_some
open Go.ChangeShapes Go.WideShapes Go.ChangeAt Go.RowKit Go.Deep Go.Joins
theorem Raws.up{w w':M}{v:J}{rs:am}(h:Raws w w.heap.size v rs)(hb:O w.heap.size w w'):Raws w' w'.heap.size v rs:=by
 obtain⟨⟨ao,cap,hv,h1⟩,h2,h3⟩:=h;refine⟨⟨ao,cap,hv,fun hne=>?_⟩,h2,h3⟩;obtain⟨b,off,ha,hlt,hat⟩:=h1 hne;exact⟨b,off,ha,qE hlt hb.size,hat.below hb hlt⟩
section
variable{H:Type}{enc:TypeId×J -> H}{W:M}
end
theorem UI{r:Ru}(h:BH 2 r=0):r.guard≠[]:=by
 intro e;have hx:∀t,A5 2 [] t≠0:=fun t=>by
  unfold A5;rw[ak (by decide)];have:AU (([]:am).map Prod.fst)≠0:=fun h0=>(D3 h0).1 rfl;rw[aj this];exact this
 unfold BH at h;rw[e]at h;have hk:kcode 2 [] true≠0:=by
  unfold kcode;rw[ak (hx _)];exact hx _
 split at h
 .exact absurd h (by decide)
 .exact hk h
structure NilTo(g:Nat)(w w':M):Prop where
 size:w.heap.size<=w'.heap.size
 nil:∀i v,w.cell? ⟨g,i,Y⟩=U v->v=Z Y 0 0
 block:∀b,b≠g->w'.heap[b]? = w.heap[b]?
theorem NilTo.ne{g:Nat}{w w':M}(h:NilTo g w w'){b i:Nat}{v:J}(hc:w.cell? ⟨b,i,Y⟩=U v)(hv:v≠Z Y 0 0):b≠g:=by
 rintro rfl;exact hv (h.nil i v hc)
theorem NilTo.cell{g:Nat}{w w':M}(h:NilTo g w w'){b:Nat}(hb:b≠g)(i:Nat):w'.cell? ⟨b,i,Y⟩=w.cell? ⟨b,i,Y⟩:=eJ (h.block b hb)
theorem OpsV.nilTo{g:Nat}{w w':M}{v:J}{l:am}(h:OpsV w v l)(hn:NilTo g w w'):OpsV w' v l:=by
 obtain⟨ao,cap,rfl,h0,h⟩:=h;refine⟨ao,cap,rfl,h0,fun hne=>?_⟩;obtain⟨b,off,rfl,hlt,hat⟩:=h hne;refine⟨b,off,rfl,qE hlt hn.size,fun i hi=>?_⟩;have hb:=hn.ne (hat i hi).1 (by simp);exact⟨(hn.cell hb _).trans (hat i hi).1,(hn.cell hb _).trans (hat i hi).2⟩
theorem VarsV.nilTo{g:Nat}{w w':M}{v:J}{l:List Vr}(h:VarsV w v l)(hn:NilTo g w w'):VarsV w' v l:=SlV.imp h hn.size fun b off i _ _ hi=>by
 obtain⟨h1,h2,h3,h4⟩:=hi;have hb:=hn.ne h2 (by simp);exact⟨(hn.cell hb _).trans h1,(hn.cell hb _).trans h2,(hn.cell hb _).trans h3,(hn.cell hb _).trans h4⟩
theorem SetsV.nilTo{g:Nat}{w w':M}{v:J}{l:List St}(h:SetsV w v l)(hn:NilTo g w w'):SetsV w' v l:=SlV.imp h hn.size fun b off i _ _ hi=>by
 obtain⟨h1,u,h2,h3⟩:=hi;have hb:=hn.ne h1 (by simp);exact⟨(hn.cell hb _).trans h1,u,(hn.cell hb _).trans h2,h3.nilTo hn⟩
theorem RulesV.nilTo{g:Nat}{w w':M}{v:J}{l:List Ru}(h:RulesV w v l)(hg:∀j,j<l.length->(l.getD j ru0).guard≠[])(hn:NilTo g w w'):RulesV w' v l:=SlV.imp h hn.size fun b off i _ hi hx=>by
 obtain⟨⟨u,h1,h2⟩,u',h3,h4⟩:=hx;have hb:=hn.ne h1 (by
  obtain⟨ao,cap,rfl,⟨_,h0⟩,_⟩:=h2;intro e;injection e with e _ _;exact hg i hi (h0 e).2)
 exact⟨⟨u,(hn.cell hb _).trans h1,h2.nilTo hn⟩,u',(hn.cell hb _).trans h3,h4.nilTo hn⟩
theorem TermsV.nilTo{g:Nat}{w w':M}{v:J}{ts:List am}(h:TermsV w v ts)(hg:∀j,j<ts.length->ts.getD j []≠[])(hn:NilTo g w w'):TermsV w' v ts:=by
 obtain⟨ao,cap,rfl,h⟩:=h;refine⟨ao,cap,rfl,fun hne=>?_⟩;obtain⟨b,off,rfl,hlt,hat⟩:=h hne;refine⟨b,off,rfl,qE hlt hn.size,fun i hi=>?_⟩;obtain⟨u,h1,h2⟩:=hat i hi;have hb:=hn.ne h1 (by
  obtain⟨ao,cap,rfl,⟨_,h0⟩,_⟩:=h2;intro e;injection e with e _ _;exact hg i hi (h0 e).2)
 exact⟨u,(hn.cell hb _).trans h1,h2.nilTo hn⟩
structure KTaskOk(m:Mo)(l:am)(mm:Nat):Prop where
 mo:mcode m=0
 vars:m.vars.length=2
 fo:∃T,FOk mm l T
 len:l.length<=59
 many:mm<=6
theorem KTaskOk.code{m:Mo}{l:am}{mm:Nat}(h:KTaskOk m l mm):AX m Aj l=0:=by
 obtain⟨T,hT⟩:=h.fo;unfold AX;rw[T9 h.mo h.vars,ak (by simp)];exact hT.code (by have:=h.len;omega) h.many
theorem V6(c0 c1 c2 c3 c4 c5 c6:J)(a b:Vr)(rawv:J)(rs:am)(tempo:Nat)(w:M)(hG:GV a b)(ht:tempo<=6)(hR:Raws w w.heap.size rawv rs)
  (hmd:∀w',O w.heap.size w w'->ZZ qA 13 #[ZY #[c0,c1,c2,c3,c4,c5,c6]] w' fun e w2=>∃va vr,e=I (ZY #[va,vr])/\O w'.heap.size w' w2/\GModel w2 va vr [a,b]) :
  ZZ qA 7 #[ZY #[c0,c1,c2,c3,c4,c5,c6],rawv,.int V (tempo:Int)] w fun e w'=>∃ao ac ro rn rc pb fo fn fc m l mm,e=I (ZY #[Z ao 2 ac,Z ro rn rc,Z (U ⟨pb,0,Y⟩) 3 3,Z fo fn fc])/\O w.heap.size w w'/\F (TaskV w' (Z ao 2 ac) (Z ro rn rc) (Z (U ⟨pb,0,Y⟩) 3 3) (Z fo fn fc) m Aj l)/\F (KTaskOk m l mm/\m.vars=[a,b]/\l.length=fn/\l≠[])/\mm<=tempo/\fn<=17:=by
 have HMd:F (∀w',O w.heap.size w w'->ZZ qA 13 #[ZY #[c0,c1,c2,c3,c4,c5,c6]] w' fun e w2=>∃ao ac ro rn rc m,e=I (ZY #[Z ao 2 ac,Z ro rn rc])/\O w'.heap.size w' w2/\F (A1 w2 (Z ao 2 ac) (Z ro rn rc) m/\mcode m=0/\m.vars=[a,b]/\∀j,j<m.rules.length->(m.rules.getD j ru0).guard≠[])):=fun w' h=>(hmd w' h).mono fun e w2 ⟨va,vr,h1,h2,h3⟩=>by
  obtain⟨ao,ac,ro,rn,rc,rfl,rfl,_⟩:=h3.shape;obtain⟨rules,g1,g2,g3⟩:=h3;exact⟨ao,ac,ro,rn,rc,_,h1,h2,g1,hG.mcode (by omega) g3,rfl,fun j hj=>UI (g3 j hj)⟩
 have HPr:F (∀w',ZZ qA 14 #[] w' fun e w2=>∃pb,e=I (Z (U ⟨pb,0,Y⟩) 3 3)/\O w'.heap.size w' w2/\F (TermsV w2 (Z (U ⟨pb,0,Y⟩) 3 3) Aj)):=fun w'=>(T8 w').mono fun e w2 ⟨pb,h1,h2,h3⟩=>⟨pb,h1,h2,h3⟩;have HFo:F (∀w',O w.heap.size w w'->ZZ qA 15 #[rawv,.int V 3,.int V (tempo:Int)] w' fun e w2=>∃fo fn fc l mm,e=I (Z fo fn fc)/\mm<=tempo/\fn<=17/\O w'.heap.size w' w2/\F (OpsV w2 (Z fo fn fc) l/\(∃T,FOk mm l T)/\l.length=fn/\l≠[])):=fun w' h=>(Qu rawv rs 3 tempo w' (by decide) (by decide) (by omega) (hR.up h)).mono fun e w2 ⟨fo,fc,l,mm,h1,h2,h3,h4,h5,h6⟩=>⟨fo,l.length,fc,l,mm,h1,h3,h4,h6,h5,h2.ok,rfl,h2.ne⟩;obtain⟨ra,rn0,rc0,hra⟩:∃a n c,rawv=Z a n c:=by obtain⟨⟨a,c,h,_⟩,_,_⟩:=hR;exact⟨_,_,_,h⟩
 subst hra;clear hmd hR;obtain⟨W1,hW1⟩:∃W1,W1=(w.alloc (L #[c0,c1,c2,c3,c4,c5,c6] 25)).alloc (L #[Z Y 0 0,Z Y 0 0,Z Y 0 0,Z Y 0 0] 35):=⟨_,rfl⟩;have hb1:O w.heap.size w W1:=by rw[hW1];exact(ai).alloc (by simp) _
 have hmo:=HMd.out W1 hb1;have HBx:F (∀w',O (w.heap.size+2) W1 w'->(w'.cell? ⟨w.heap.size+1,0,Y⟩=U (Z Y 0 0)/\w'.cell? ⟨w.heap.size+1,1,Y⟩=U (Z Y 0 0)/\w'.cell? ⟨w.heap.size+1,2,Y⟩=U (Z Y 0 0)/\w'.cell? ⟨w.heap.size+1,3,Y⟩=U (Z Y 0 0))/\(w'.frozen? ⟨w.heap.size+1,0,Y⟩=E/\w'.frozen? ⟨w.heap.size+1,1,Y⟩=E/\w'.frozen? ⟨w.heap.size+1,2,Y⟩=E/\w'.frozen? ⟨w.heap.size+1,3,Y⟩=E)):=fun w' h=>by
  have hlt:w.heap.size+1<w.heap.size+2:=by omega
  refine⟨⟨?_,?_,?_,?_⟩,?_,?_,?_,?_⟩
  .exact (h.cell (p:=⟨w.heap.size+1,0,Y⟩) hlt).trans (by rw[hW1];simp[go_sem])
  .exact (h.cell (p:=⟨w.heap.size+1,1,Y⟩) hlt).trans (by rw[hW1];simp[go_sem])
  .exact (h.cell (p:=⟨w.heap.size+1,2,Y⟩) hlt).trans (by rw[hW1];simp[go_sem])
  .exact (h.cell (p:=⟨w.heap.size+1,3,Y⟩) hlt).trans (by rw[hW1];simp[go_sem])
  .exact (h.frozen (p:=⟨w.heap.size+1,0,Y⟩) hlt).trans (by rw[hW1];simp[go_sem])
  .exact (h.frozen (p:=⟨w.heap.size+1,1,Y⟩) hlt).trans (by rw[hW1];simp[go_sem])
  .exact (h.frozen (p:=⟨w.heap.size+1,2,Y⟩) hlt).trans (by rw[hW1];simp[go_sem])
  .exact (h.frozen (p:=⟨w.heap.size+1,3,Y⟩) hlt).trans (by rw[hW1];simp[go_sem])
 have hz1:W1.heap.size=w.heap.size+2:=by rw[hW1];simp
 subst hW1;go_enter Tryz.func7,Tryz.ntmps7;go_wp2_with (first
  |(go_at_call 13;refine hmo.mono ?_;rintro e w2 ⟨ao,ac,ro,rn,rc,m,rfl,hb2,HM⟩;have hbw2:=ae hb1 hb2;have hpr:=HPr.out w2)
  |(go_at_call 14;refine hpr.mono ?_;rintro e w3 ⟨pb,rfl,hb3,HP⟩;have hbw3:=ae hbw2 hb3;have hfo:=HFo.out w3 hbw3)
  |(go_at_call 15;refine hfo.mono ?_;rintro e w4 ⟨fo,fn,fc,l,mm,rfl,hmm,hfn,hb4,HF⟩;have hbw4:=ae hbw3 hb4;have hb24:=(ae hb2 hb3).trans (hb4.mono (Nat.le_trans hb2.size hb3.size));obtain⟨⟨k0,k1,k2,k3⟩,g0,g1,g2,g3⟩:=HBx.out w4 (hb24.mono (by omega))))
 have hn:NilTo (w.heap.size+1) w4 ((((w4.setCell ⟨w.heap.size+1,0,Y⟩ (Z ao 2 ac)).setCell ⟨w.heap.size+1,1,Y⟩ (Z ro rn rc)).setCell ⟨w.heap.size+1,2,Y⟩ (Z (U ⟨pb,0,Y⟩) 3 3)).setCell ⟨w.heap.size+1,3,Y⟩ (Z fo fn fc)):=by
  refine⟨by simp,fun i v hv=>?_,fun b hb=>?_⟩
  .have hblk:=(hb24.mono (show w.heap.size+2<=_ by omega)).block (w.heap.size+1) (by omega);have hx:((w.alloc (L #[c0,c1,c2,c3,c4,c5,c6] 25)).alloc (L #[Z Y 0 0,Z Y 0 0,Z Y 0 0,Z Y 0 0] 35)).cell? ⟨w.heap.size+1,i,Y⟩=U v:=by rw[<-hv];exact(eJ hblk).symm
   have hy:=(du (w.alloc (L #[c0,c1,c2,c3,c4,c5,c6] 25)) (L #[Z Y 0 0,Z Y 0 0,Z Y 0 0,Z Y 0 0] 35)).1;rw[fp]at hy;simp only[br,hy]at hx;have hi:i<4:=by
    rcases vP i 4 with h|h
    .exact h
    .simp[xS (show(#[Value.slice Y 0 0,Z Y 0 0,Z Y 0 0,Z Y 0 0]:Array J).size<=i from h)]at hx
   rcases(show i=0\/i=1\/i=2\/i=3 by omega)with rfl|rfl|rfl|rfl<;>simpa using hx.symm
  .rw[RowKit.Below.heap_setCell _ _ _ _ hb,RowKit.Below.heap_setCell _ _ _ _ hb,RowKit.Below.heap_setCell _ _ _ _ hb,RowKit.Below.heap_setCell _ _ _ _ hb]
 obtain⟨m1,m2,m3,m4⟩:=HM.out;obtain⟨f1,f2,f3,f4⟩:=HF.out;have hb34:O w2.heap.size w2 w4:=ae hb3 hb4;refine bodyPost_ret (v:=ZY #[Z ao 2 ac,Z ro rn rc,Z (U ⟨pb,0,Y⟩) 3 3,Z fo fn fc]) ?_ rfl ⟨ao,ac,ro,rn,rc,pb,fo,fn,fc,m,l,mm,rfl,(((hbw4.setCell (p:=⟨w.heap.size+1,0,Y⟩) (by simp) _).setCell (p:=⟨w.heap.size+1,1,Y⟩) (by simp) _).setCell (p:=⟨w.heap.size+1,2,Y⟩) (by simp) _).setCell (p:=⟨w.heap.size+1,3,Y⟩) (by simp) _,⟨⟨(m1.1.below hb34).nilTo hn,(m1.2.below hb34).nilTo m4 hn⟩,(HP.out.below hb4).nilTo (fun j hj=>?_) hn,f1.nilTo hn⟩,⟨⟨m2,by rw[m3];rfl,f2,by omega,by omega⟩,m3,f3,f4⟩,hmm,hfn⟩
 .simp[results,Tryz.results7,go_sem,k0,k1,k2,k3]
 .have hj3:j<3:=hj;rcases(show j=0\/j=1\/j=2 by omega)with rfl|rfl|rfl<;>simp[Aj]
section
variable{m:Mo}{l:am}{mm:Nat}
end
section
variable{m:Mo}{l:am}
end
theorem OS{m:Mo}{ps:List am}{l:am}{k P:Nat}(hP:AL m.vars m.vars.length=(P:Nat))(hs:∀p∈xpP m ps l k,Bl m l p):(xpP m ps l k).length<=P*2^(AA l).length:=by
 have hnd:(xpP m ps l k).Nodup:=LH _ _ k;have hcode:∀p∈xpP m ps l k,0<=p.1*((2^(AA l).length:Nat):Int)+p.2/\p.1*((2^(AA l).length:Nat):Int)+p.2<((P*2^(AA l).length:Nat):Int):=fun p hp=>by
  obtain⟨⟨h1,h2⟩,d,h3,h4⟩:=hs p hp;generalize 2^(AA l).length=N at *;have h5:p.1*(N:Int)<=((P:Int)-1)*N:=Int.mul_le_mul_of_nonneg_right (by omega) (by omega)
  have h6:0<=p.1*(N:Int):=Int.mul_nonneg h1 (by omega);have h7:((P:Int)-1)*(N:Int)=(P:Int)*N-N:=by rw[Int.sub_mul];omega
  have h8:((P*N:Nat):Int)=(P:Int)*N:=by push_cast;rfl
  omega
 have hnd2:((xpP m ps l k).map fun p=>p.1*((2^(AA l).length:Nat):Int)+p.2).Nodup:=by
  refine fZ.map _ (fun a b hab=>hab) ?_;refine fZ.imp_of_mem ?_ hnd;intro a b ha hb hne e;obtain⟨_,d,h3,h4⟩:=hs a ha;obtain⟨_,d',h3',h4'⟩:=hs b hb;generalize 2^(AA l).length=N at *;have hN:(0:Int)<N:=by omega
  have e1:a.2=b.2:=by
   rw[h4,h4'];have r1:((d:Int)+a.1*N) % (N:Int)=(d:Int):=by rw[zN];exact kA (by omega) (by omega)
   have r2:((d':Int)+b.1*N) % (N:Int)=(d':Int):=by rw[zN];exact kA (by omega) (by omega)
   have e':(d:Int)+a.1*N=(d':Int)+b.1*N:=by rw[h4,h4']at e;omega
   rw[<-r1,<-r2,e']
  have e2:a.1*(N:Int)=b.1*N:=by omega
  exact hne (Prod.ext (Int.eq_of_mul_eq_mul_right (by omega) e2) e1)
 have:=MX (N:=P*2^(AA l).length) hnd2 (fun y hy=>by
  obtain⟨p,hp,rfl⟩:=List.mem_map.1 hy;exact hcode p hp)
 rw[qM]at this;exact this
theorem XJ{m:Mo}{ps:List am}{l:am}{P:Nat}(hk:AX m ps l=0)(hP:AL m.vars m.vars.length=(P:Nat))(hz:P*2^(AA l).length<=20000):¬DU m ps l:=by
 rintro⟨k,h1,h2⟩;have hs:∀j,j<=k+1->∀p∈xpP m ps l j,Bl m l p:=fun j=>by
  induction j with
  |zero=>exact fun _=>OP hk
  |succ j ih=>exact fun hj=>OO hk (h1 j (by omega)) (ih (by omega))
 have:=OS hP (hs (k+1) (qB _));omega
def tkB(va vr pv fv:J):Obj:=L #[va,vr,pv,fv] 35 (0,0)
theorem WH{w:M}{X:Nat}{va vr pv fv:J}(hb:w.heap[X]? = U (tkB va vr pv fv)):w.cell? ⟨X,0,Y⟩=U va/\w.cell? ⟨X,1,Y⟩=U vr/\w.cell? ⟨X,2,Y⟩=U pv/\w.cell? ⟨X,3,Y⟩=U fv:=by
 unfold tkB at hb;refine⟨?_,?_,?_,?_⟩<;>simp[br,hb]
section
variable{w1 wx w':M}{X:Nat}{va vr pv:J}{fo:Option Addr}{fn fc:Nat}{m:Mo}{l:am}
end
def J1 (ops:Array Oper) (ds:List Nat) (size m e2:Nat):Bool:=
  (aE ops.size).all (fun i=>match ops[i]? with
    |some o=>o.guard.isNone&&o.after.toList.all (fun e=>!Region.binds .any e||Nat.blt e.on i)&&(if i<m then((aE (m+1)).any (fun k=>Nat.blt i k&&Ak ops k i)&&match o.dst with
        |some t=>i != e2&&ds.contains t&&Nat.blt t size&&(aE m).all (fun j=>j == i||!(Aq ops j == U t))
        |none=>i == e2)else(i == m||Ak ops i (i-1)))
    |none=>E)&&Nat.blt m ops.size
structure ShapeM(ops:Array Oper)(ds:List Nat)(size m e2:Nat):Prop where
 lt:m<ops.size
 guard:∀(i:Nat) (o:Oper),ops[i]? = U o->o.guard=Y
 before:∀(i:Nat) (o:Oper) (e:Edge),ops[i]? = U o->e∈o.after->Region.binds .any e=true->e.on<i
 none:∀(o:Oper),e2<m->ops[e2]? = some o->o.dst=none
 dst:∀(i:Nat) (o:Oper),i<m->i≠e2->ops[i]? = U o->∃t,o.dst=U t/\ds.contains t=true/\t<size/\∀j,j<m->j≠i->Aq ops j≠U t
 heir:∀i,i<m->∃k,i<k/\k<=m/\Ak ops k i=true
 late:∀i,m<i->i<ops.size->Ak ops i (i-1)=true
theorem VP {ops:Array Oper} {ds:List Nat} {size m e2:Nat} (h:J1 ops ds size m e2=true):ShapeM ops ds size m e2:=by
  unfold J1 at h;rw[qK,jC]at h;obtain⟨h1,h2⟩:=h;have hm:m<ops.size:=by simpa[jZ]using h2
  have hi:∀i o,ops[i]? = U o→(o.guard.isNone&&o.after.toList.all (fun e=>!Region.binds .any e||Nat.blt e.on i)&&(if i<m then((aE (m+1)).any (fun k=>Nat.blt i k&&Ak ops k i)&&match o.dst with
        |some t=>i != e2&&ds.contains t&&Nat.blt t size&&(aE m).all (fun j=>j == i||!(Aq ops j == U t))
        |none=>i == e2)else(i == m||Ak ops i (i-1))))=true:=fun i o ho=>by
    have hlt:i<ops.size:=by
      rcases vP i ops.size with h|h
      . exact h
      . rw[xS h]at ho;cases ho
    have:=h1 i (vA.2 hlt);rw[ho]at this;exact this
  refine⟨hm,fun i o ho=>?_,fun i o e ho he hb=>?_,fun o hm2 ho=>?_,fun i o him hne2 ho=>?_,fun i him=>?_,fun i him hlt=>?_⟩
  . have:=hi i o ho
    rw[qK,qK]at this;simpa using this.1.1
  . have:=hi i o ho
    rw[qK,qK,jC]at this;have:=this.1.2 e (by simpa using he);rw[hb]at this;simpa[jZ]using this
  . have:=hi e2 o ho
    rw[qK,aj hm2]at this;have:=this.2;rw[qK]at this;have:=this.2;cases hd:o.dst with
    |none=>rfl
    |some t=>rw[hd]at this;simp at this
  . have:=hi i o ho
    rw[qK,aj him]at this;have:=this.2;rw[qK]at this;have:=this.2;cases hd:o.dst with
    |none=>rw[hd]at this;exact absurd (by simpa using this) hne2
    |some t=>
      rw[hd]at this;simp only[qK,jC]at this;obtain⟨⟨⟨_,e1⟩,e2⟩,e3⟩:=this;refine⟨t,rfl,e1,by simpa[jZ]using e2,fun j hj hne he=>?_⟩;have:=e3 j (vA.2 hj);rw[he]at this;simp[hne]at this
  . have hlt:i<ops.size:=by omega
    have:=hi i ops[i] (qQ hlt);rw[qK,aj him]at this;have:=this.2;rw[qK]at this;have:=this.1;simp only[qK,vD]at this;obtain⟨k,hk,h5,h6⟩:=this;have:=vA.1 hk;exact⟨k,by simpa[jZ]using h5,by omega,h6⟩
  . have:=hi i ops[i] (qQ hlt)
    rw[qK,ak (by omega)]at this;have:=this.2;simp only[Bool.or_eq_true,beq_iff_eq]at this;rcases this with h|h
    . omega
    . exact h
theorem NF{ops:Array Oper}{ds:List Nat}{size m e2:Nat}(hs:ShapeM ops ds size m e2){l:Array Bool}(hl:l.size=ops.size){j:Nat}(hj:j<ops.size)(hd:¬AW l j):Region.ready .any ops l≠[]:=by
 have key:∀n j,j<=n->j<ops.size->¬AW l j->∃i,i∈Region.ready .any ops l:=by
  intro n;induction n with
  |zero=>
   intro j hj0 hj hd;refine⟨j,(EI hl).2 ⟨hj,hd,fun k hk=>?_⟩⟩;unfold Ak at hk;rw[qQ hj]at hk;simp only[vD,qK,beq_iff_eq]at hk;obtain⟨e,he,hb,hon⟩:=hk;have:=hs.before j ops[j] e (qQ hj) (by simpa using he) hb;omega
  |succ n ih=>
   intro j hj0 hj hd;by_cases h:∀k,Ak ops j k=true->AW l k
   .exact ⟨j,(EI hl).2 ⟨hj,hd,h⟩⟩
   .obtain ⟨k,hk⟩:=Classical.not_forall.1 h;obtain⟨hk,hnd⟩:=Classical.not_imp.1 hk;have hk2:=hk;unfold Ak at hk;rw[qQ hj]at hk;simp only[vD,qK,beq_iff_eq]at hk;obtain⟨e,he,hb,hon⟩:=hk;have:=hs.before j ops[j] e (qQ hj) (by simpa using he) hb;exact ih k (by omega) (by omega) hnd
 intro h;obtain⟨i,hi⟩:=key j j (qB _) hj hd;rw[h]at hi;cases hi
theorem On{ops:Array Oper}{ds:List Nat}{size m e2:Nat}(hs:ShapeM ops ds size m e2){l:Array Bool}(hc:∀i k,AW l i->Ak ops i k=true->AW l k)(hm:∀k,Ak ops m k=true->AW l k):∀i,i<m->AW l i:=by
 have key:∀n i,m-i<=n->i<m->AW l i:=by
  intro n;induction n with
  |zero=>intro i h1 h2;omega
  |succ n ih=>
   intro i h1 h2;obtain⟨k,h3,h4,h5⟩:=hs.heir i h2;by_cases hk:k=m
   .subst hk;exact hm i h5
   .exact hc k i (ih k (by omega) (by omega)) h5
 exact fun i hi=>key _ i (qB _) hi
structure EarlyM(ops:Array Oper)(m e1 e2:Nat)(W0:M)(post:Nat->Bool->Bool->J->M->Prop)(l:Array Bool)(q:Nat->J)(w:M):Prop where
 size:l.size=ops.size
 later:∀i,m<=i->¬AW l i
 closed:∀i k,AW l i->Ak ops i k=true->AW l k
 below:O W0.heap.size W0 w
 posts:∀b c:Bool,(b=true↔AW l e1)->(c=true↔AW l e2)->∀i t,i<m->AW l i->Aq ops i=U t->post i b c (q t) w
theorem LA(l:Array Bool)(e:Nat):∃b:Bool,b=true↔AW l e:=by
 by_cases hx:AW l e
 .exact ⟨true,⟨fun _=>hx,fun _=>rfl⟩⟩
 .exact ⟨E,⟨(fun h=>by cases h),fun h=>absurd h hx⟩⟩
theorem XD {P:Program} {id:Nat} {ops:Array Oper} {Q:Exit->Act->M->Prop} {a0:Act} {w0:M} (hmo:P.follows .mixedOrders=true) (ds:List Nat) (m e1 e2:Nat) (he2:e2 < m) (hne:e1≠e2) (post:Nat->Bool->Bool->J->M->Prop)
    (hsh:J1 ops ds a0.tmps.size m e2=true)
    (stable:∀i b c v w w',i<m->post i b c v w->O w.heap.size w w'->post i b c v w')
    (step:∀(i:Nat) (o:Oper),i<m->i≠e1->i≠e2->ops[i]? = U o->∀q w b c,(Ak ops e1 i=true->b=E)->(Ak ops e2 i=true->c=E)->O w0.heap.size w0 w->(∀k t,Ak ops i k=true->Aq ops k=U t->post k b c (q t) w)->Oper.wp P o (frm a0 ds q) w (fun a' w'=>∃v,a'=(frm a0 ds q).put o.dst v/\O w.heap.size w w'/\post i b c v w') Q)
    (step1:∀(o:Oper),e1<m->ops[e1]? = U o->∀q w c,(Ak ops e2 e1=true->c=E)->O w0.heap.size w0 w->(∀k t,Ak ops e1 k=true->Aq ops k=U t->post k E c (q t) w)->Oper.wp P o (frm a0 ds q) w (fun a' w'=>∃v,a'=(frm a0 ds q).put o.dst v/\O w0.heap.size w0 w'/\(∀j t,j<m->j≠e1->Aq ops j=U t->post j E c (q t) w->post j true c (q t) w')/\post e1 true c v w') Q)
    (step2:∀(o:Oper),ops[e2]? = U o->∀q w b,(Ak ops e2 e1=true->b=true)->O w0.heap.size w0 w->(∀k t,Ak ops e2 k=true->Aq ops k=U t->post k b E (q t) w)->Oper.wp P o (frm a0 ds q) w (fun a' w'=>a'=frm a0 ds q/\O w0.heap.size w0 w'/\∀j t,j<m->j≠e2->Aq ops j=U t->post j b E (q t) w->post j b true (q t) w') Q)
    (last:∀q w,O w0.heap.size w0 w->(∀i t,i<m->Aq ops i=U t->post i (decide (e1<m)) true (q t) w)->wpOps P ops Q ((aF m (ops.size-m))) (frm a0 ds q) w) :
    (Code.region id ops true).wp P Q a0 w0:=by
  have hs:=VP hsh;refine wp_region_any hmo ?_;have hb0:O w0.heap.size w0 { w0 with drawn:=w0.drawn+1}:=⟨rfl,rfl,rfl,qB _,fun _ _=>rfl⟩;refine KJ (fun k l a w=>k=DN l/\((∃q,a=frm a0 ds q/\EarlyM ops m e1 e2 w0 post l q w)\/(l.size=ops.size/\∃j,m<=j/\j<=ops.size/\(∀i,AW l i↔i<j)/\wpOps P ops Q (aF j (ops.size-j)) a w))) ?_ _ _ _ _ ⟨?_,.inl ⟨_,(LZ a0 ds).symm,?_⟩⟩
  . rintro k l a w ⟨hk,hI⟩
    have hlsz:l.size=ops.size:=hI.elim (fun⟨_,_,hE⟩=>hE.size) (fun⟨h,_⟩=>h);refine⟨fun hr=>?_,fun h0=>?_,fun k' hk' i hi=>?_⟩
    . rcases hI with⟨q,rfl,hE⟩|⟨_,j,hj1,hj2,hd,hw⟩
      . exact absurd hr (NF hs hE.size hs.lt (hE.later m (qB _)))
      . by_cases hjs:j=ops.size
        . subst hjs
          rw[Nat.sub_self]at hw;exact hw
        . exact absurd hr (NF hs hlsz (j:=j) (by omega) (fun h=>by have:=(hd j).1 h;omega))
    . cases hr:Region.ready .any ops l with
      |nil=>rfl
      |cons x xs=>
        have hx:=(EI hlsz (i:=x)).1 (by rw[hr];exact List.mem_cons_self);exact absurd (L3 (by omega) (by omega)) hx.2.1
    . obtain ⟨h1,h2,h3⟩:=(EI hlsz).1 hi
      have ho:ops[i]? = U ops[i]:=qQ h1;have hgd:=hs.guard i _ ho;have hleft:=Lz (by omega:i<l.size) h2;have late:∀(j:Nat) (a:Act) (w:M),m<=j->j<=ops.size->(∀i,AW l i↔i<j)->wpOps P ops Q (aF j (ops.size-j)) a w->wpOp P ops Q i (fun a' w'=>k'=DN (l.setIfInBounds i true)/\((∃q,a'=frm a0 ds q/\EarlyM ops m e1 e2 w0 post (l.setIfInBounds i true) q w')\/((l.setIfInBounds i true).size=ops.size/\∃j,m<=j/\j<=ops.size/\(∀i',AW (l.setIfInBounds i true) i'↔i'<j)/\wpOps P ops Q (aF j (ops.size-j)) a' w'))) a w:=by
        intro j a w hj1 hj2 hd hw;have hij:i=j:=by
          have hge:j<=i:=by
            rcases vP i j with h|h
            . exact absurd ((hd i).2 h) h2
            . exact h
          rcases vP j i with h|h
          . have h4:=hs.late i (by omega) h1
            have:=(hd (i-1)).1 (h3 _ h4);omega
          . omega
        subst hij;rw[show ops.size-i=(ops.size-(i+1))+1 by omega,List.range'_succ,wpOps_cons]at hw;refine wpOp_mono (fun a' w' h'=>⟨by omega,.inr ⟨by rw[jF];exact hlsz,i+1,by omega,by omega,fun i'=>?_,h'⟩⟩) hw;rw[BW (by omega),hd];omega
      rcases hI with⟨q,rfl,hE⟩|⟨_,j,hj1,hj2,hd,hw⟩
      . by_cases him:i<m
        . obtain⟨b,hb⟩:=LA l e1
          obtain⟨c,hc⟩:=LA l e2;have hprem:∀k t,Ak ops i k=true->Aq ops k=U t->post k b c (q t) w:=fun k t' hk ht'=>by
            have hkd:=h3 k hk;have hkm:k<m:=by
              rcases vP k m with h|h
              . exact h
              . exact absurd hkd (hE.later k h)
            exact hE.posts b c hb hc k t' hkm hkd ht'
          have w1:Ak ops e1 i=true->b=false:=fun hw=>by
            cases b with
            |false=>rfl
            |true=>exact absurd (hE.closed e1 i (hb.1 rfl) hw) h2
          have w2:Ak ops e2 i=true->c=false:=fun hw=>by
            cases c with
            |false=>rfl
            |true=>exact absurd (hE.closed e2 i (hc.1 rfl) hw) h2
          have later':∀i',m<=i'->¬AW (l.setIfInBounds i true) i':=fun i' hi' hd'=>by
            rcases(BW (by omega)).1 hd' with h|h
            . omega
            . exact hE.later i' hi' h
          have closed':∀i' k,AW (l.setIfInBounds i true) i'->Ak ops i' k=true->AW (l.setIfInBounds i true) k:=fun i' k0 hd' hk0=>by
            rw[BW (by omega)];rcases(BW (by omega)).1 hd' with h|h
            . subst h;exact .inr (h3 k0 hk0)
            . exact .inr (hE.closed i' k0 h hk0)
          unfold wpOp;rw[ho];show if Region.wanted ops[i] (yielded ops (frm a0 ds q).tmps)=true then _ else _
          rw[aj (by unfold Region.wanted;rw[hgd])];refine .inl ?_;by_cases hi2:i=e2
          . subst hi2
            obtain rfl:c=false:=by
              cases c with
              |false=>rfl
              |true=>exact absurd (hc.1 rfl) h2
            refine Oper.wp_mono ?_ (step2 _ ho q w b (fun hw=>hb.2 (h3 e1 hw)) hE.below hprem);rintro a' w' ⟨rfl,hbw,hcar⟩;refine⟨by omega,.inl ⟨_,rfl,⟨by rw[jF];exact hlsz,later',closed',hbw,fun b' c' hb' hc' j t hj hd' ht=>?_⟩⟩⟩;have eb:b'=b:=by
              apply jS.2;rw[hb',hb,BW (by omega)];exact⟨fun h=>h.elim (fun h=>absurd h hne) fun h=>h,.inr⟩
            have ec:c'=true:=hc'.2 (by rw[BW (by omega)];exact .inl rfl);subst eb ec;have hji:j≠i:=fun e=>by
              subst e;have e9:Aq ops j=ops[j].dst:=by unfold Aq;rw[ho]
              rw[e9,hs.none _ him ho]at ht;cases ht
            rcases(BW (by omega)).1 hd' with h|h
            . exact absurd h hji
            . exact hcar j t hj hji ht (hE.posts b' E hb ⟨(fun h=>by cases h),fun h=>absurd h h2⟩ j t hj h ht)
          . obtain⟨t,ht,hdt,hts,hdis⟩:=hs.dst i _ him hi2 ho
            have own:∀t',Aq ops i=U t'->t'=t:=fun t' ht'=>by
              unfold Aq at ht';rw[ho]at ht';exact Option.some.inj (ht'.symm.trans ht)
            by_cases hi1:i=e1
            . subst hi1
              obtain rfl:b=false:=by
                cases b with
                |false=>rfl
                |true=>exact absurd (hb.1 rfl) h2
              refine Oper.wp_mono ?_ (step1 _ him ho q w c w2 hE.below hprem);rintro a' w' ⟨v,rfl,hbw,hcar,hp⟩;rw[ht,Gi hdt];refine⟨by omega,.inl ⟨_,rfl,⟨by rw[jF];exact hlsz,later',closed',hbw,fun b' c' hb' hc' j t' hj hd' ht'=>?_⟩⟩⟩;have ec:c'=c:=by
                apply jS.2;rw[hc',hc,BW (by omega)];exact⟨fun h=>h.elim (fun h=>absurd h.symm hne) fun h=>h,.inr⟩
              have eb:b'=true:=hb'.2 (by rw[BW (by omega)];exact .inl rfl);subst eb ec;by_cases hji:j=i
              . subst hji
                obtain rfl:=own t' ht';rw[Dt];exact hp
              . rcases(BW (by omega)).1 hd' with h|h
                . exact absurd h hji
                . rw[Dd (fun e=>hdis j hj hji (by rw[ht',e]))]
                  exact hcar j t' hj hji ht' (hE.posts E c' ⟨(fun h=>by cases h),fun h=>absurd h h2⟩ hc j t' hj h ht')
            . refine Oper.wp_mono ?_ (step i _ him hi1 hi2 ho q w b c w1 w2 hE.below hprem)
              rintro a' w' ⟨v,rfl,hbw,hp⟩;rw[ht,Gi hdt];refine⟨by omega,.inl ⟨_,rfl,⟨by rw[jF];exact hlsz,later',closed',hE.below.trans (hbw.mono hE.below.size),fun b' c' hb' hc' j t' hj hd' ht'=>?_⟩⟩⟩;have eb:b'=b:=by
                apply jS.2;rw[hb',hb,BW (by omega)];exact⟨fun h=>h.elim (fun h=>absurd h.symm hi1) fun h=>h,.inr⟩
              have ec:c'=c:=by
                apply jS.2;rw[hc',hc,BW (by omega)];exact⟨fun h=>h.elim (fun h=>absurd h.symm hi2) fun h=>h,.inr⟩
              subst eb ec;by_cases hji:j=i
              . subst hji
                obtain rfl:=own t' ht';rw[Dt];exact hp
              . rcases(BW (by omega)).1 hd' with h|h
                . exact absurd h hji
                . rw[Dd (fun e=>hdis j hj hji (by rw[ht',e]))]
                  exact stable j _ _ _ w w' hj (hE.posts b' c' hb hc j t' hj h ht') hbw
        . have him2:i=m:=by
            rcases vP m i with h|h
            . have h4:=hs.late i h h1
              exact absurd (h3 _ h4) (hE.later (i-1) (by omega))
            . omega
          subst him2;have hall:=On hs hE.closed h3;exact late i _ w (qB _) (by omega) (fun i'=>⟨fun h=>by
            rcases vP i' i with h'|h'
            . exact h'
            . exact absurd h (hE.later i' h'),fun h=>hall i' h⟩) (last q w hE.below fun i' t' hi' ht'=>hE.posts _ _ ⟨fun h=>hall e1 (of_decide_eq_true h),fun h=>decide_eq_true (by
              rcases vP e1 i with h'|h'
              . exact h'
              . exact absurd h (hE.later e1 h'))⟩ ⟨fun _=>hall e2 he2,fun _=>rfl⟩ i' t' hi' (hall i' hi') ht')
      . exact late j a w hj1 hj2 hd hw
  . unfold DN
    simp
  . have hnd:∀i,¬AW (Array.replicate ops.size E) i:=fun i h=>by
      unfold AW at h;rw[Array.getElem?_replicate]at h;split at h<;>cases h
    exact⟨by simp,fun i _=>hnd i,fun i _ h=>absurd h (hnd i),hb0,fun _ _ _ _ i _ _ h=>absurd h (hnd i)⟩
theorem op_at{T:Tm}{l:am}(ho:T.ops=l){q:Nat}(hq:q<T.size):l.getD q (0,0)=((T.sub q).kind,(T.sub q).val):=by
 obtain⟨r,hr⟩:=Tm.sub_drop T q hq;rw[ho]at hr;have h0:l.getD q (0,0)=(l.drop q).getD 0 (0,0):=by simp[qC]
 rw[h0,hr,<-Tm.ops_head (T.sub q) (0,0)];have hne:=Tm.ops_ne (T.sub q);cases hx:(T.sub q).ops with
 |nil=>exact absurd hx hne
 |cons x s=>simp
