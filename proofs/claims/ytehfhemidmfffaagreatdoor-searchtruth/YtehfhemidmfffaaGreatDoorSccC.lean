/- Joined texts. -/
import Derived.Test.YtehfhemidmfffaaGreatDoorSccB
open Go renaming World→M,Calls→K
open Go.Ending renaming returned→O
open Go.IntKind renaming i64→V
open Go.Obj renaming cells→T
open Go.RowKit renaming Below→U,Hid→Q
open Go.Value renaming slice→Z,agg→L,pointer→N,int→W
open _root_.Option renaming none→Y,some→X
namespace Go.Proofs.YtehfhemidmfffaaGreatDoor
open Go.RowKit.Below renaming refl→qD
open _root_.List renaming getD_eq_getElem?_getD→qC,length_take→qP,mem_range→vA
open _root_.Nat renaming le_refl→qB,lt_of_lt_of_le→qE,zero_add→qV
open Go.Proofs.Tryz renaming prog→qA
open Go.ChangeShapes Go.WideShapes Go.ChangeAt Go.RowKit Go.Deep
open Terms
open _root_.List renaming range→aE
open Go.Addr renaming mk→J
set_option maxHeartbeats 6400000
set_option maxRecDepth 20000
theorem Trail.join{nx:Nat->List Nat}{f:Nat}{r:List Nat}:∀{a:List Nat},Trail nx (a++[f])->Trail nx (f::r)->Trail nx (a++f::r)
 |[],_,h=>h
 |[_],h1,h=>⟨h1.1,h⟩
 |_::y::a,h1,h=>⟨h1.1,Trail.join (a:=y::a) h1.2 h⟩
theorem Qe(nx:Nat->List Nat):(fun i=>(nx i).filter (fun _=>true))=nx:=by
 funext i;simp
open Classical in
theorem TK{g:Gr}(h:DC (fun _=>true) (fun x=>decide (BK g x)) (nxt g) (aE g.init.toNat)):Dl g=0/\Ao g=11:=by
 refine LM fun j _ ⟨⟨f,hf,hw⟩,h2⟩=>?_;have:=h f hf rfl j (by rw[Qe];exact hw);exact absurd h2 (of_decide_eq_false this)
theorem V3{l:List Nat}(h:l≠[]):l.take (l.length-1)++[l.getD (l.length-1) 0]=l:=by
 have hpos:0<l.length:=by
  cases l with
  |nil=>exact absurd rfl h
  |cons a l=>simp
 have h3:l=l.take (l.length-1+1):=by rw[List.take_of_length_le (by omega)]
 conv=>rhs;rw[h3,List.take_succ_eq_append_getElem (by omega)]
 rw[qC,List.getElem?_eq_getElem (by omega)];rfl
open Classical in
theorem Rx{g:Gr}(hg:GOk g){l lp:List Nat}(h:WayOk g.spots.length (fun _=>true) (fun x=>decide (BK g x)) (nxt g) (aE g.init.toNat) l)(hl:LoopOk g (l.getD (l.length-1) 0) lp):LassoOk g (l.take (l.length-1)) lp/\Ao g=0:=by
 have hm:=ED h.ne;have hF:BK g (l.getD (l.length-1) 0):=of_decide_eq_true h.last;have hR:DD g (l.getD (l.length-1) 0):=⟨_,h.head,h.trail.way h.ne⟩;have htl:=V3 h.ne;generalize hf:l.getD (l.length-1) 0=f at *
 obtain⟨r,rfl⟩:∃r,lp=f::r:=by
  cases lp with
  |nil=>exact absurd rfl hl.ne
  |cons a r=>exact⟨r,by have:=hl.head;simp at this;rw[this]⟩
 have hini:=hg.head.init0;refine⟨⟨by simp,?_,?_,fun x hx=>?_,hl.bits⟩,LN (h.ins f (by rw[<-hf];exact ED h.ne)).2 ⟨hR,hF⟩⟩
 .rw[List.append_assoc];show Trail (nxt g) (l.take (l.length-1)++(f::(r++[f])));exact Trail.join (by rw[htl];exact h.trail) hl.trail
 .have e:(l.take (l.length-1)++f::r).getD 0 0=l.getD 0 0:=by
   have h1:∀a:List Nat,(a++f::r).getD 0 0=(a++[f]).getD 0 0:=fun a=>by cases a<;>rfl
   rw[h1,htl]
  rw[e];have:=vA.1 h.head;omega
 .rcases List.mem_append.1 hx with hx|hx
  .exact (h.ins x (List.mem_of_mem_take hx)).2
  .exact hl.lt x hx
theorem Qc(w0:M)(b B n:Nat)(F:Nat->Bool)(hb:b<w0.heap.size)(h:w0.cell? (J b 0 Y)=X (Z (X (J B 0 Y)) n n))(hr:w0.rowIs B 4 n (fun x=>.bool (F x))) :
    FnB w0 w0.heap.size n (.func (.func 45) #[] #[N (X (J b 0 Y))]) F:=by
  refine⟨_,_,rfl,fun args w=>by simp[go_sem],fun w' hw p hp=>?_⟩;show K qA 45 #[W V (p:Int),N (X (J b 0 Y))] w' _;have e1:=(hw.cell (p:=(J b 0 Y)) hb).trans h;have e2:=(EJ hr hw).cell hp;clear hr h;go_enter Tryz.func45,Tryz.ntmps45;go_wp2_with fail
  go_ret;exact⟨rfl,qD _ _⟩
theorem Tt(w0:M)(b b2 B n f:Nat)(pz:Nat->Nat)(hb:b<w0.heap.size)(hb2:b2<w0.heap.size)(hf:f<n)(h:w0.cell? (J b 0 Y)=X (Z (X (J B 0 Y)) n n))(h2:w0.cell? (J b2 0 Y)=X (W V (f:Int)))(hr:w0.rowIs B 3 n (Bb pz)) :
  FnB w0 w0.heap.size n (.func (.func 47) #[] #[N (X (J b 0 Y)),N (X (J b2 0 Y))]) (fun p=>decide (pz p=pz f)):=by
 refine⟨_,_,rfl,fun args w=>by simp[go_sem],fun w' hw p hp=>?_⟩;have e:decide (pz p=pz f)=((pz p:Int) == (pz f:Int)):=by
  show _=decide ((pz p:Int)=(pz f:Int));rw[decide_eq_decide];omega
 show K qA 47 #[W V (p:Int),N (X (J b 0 Y)),N (X (J b2 0 Y))] w' fun e w2=>e=O (.bool (decide (pz p=pz f)))/\U w'.heap.size w' w2;rw[e];have e1:=(hw.cell (p:=(J b 0 Y)) hb).trans h;have e2:=(hw.cell (p:=(J b2 0 Y)) hb2).trans h2;have e3:w'.cell? (J B p Y)=X (W V (pz p:Int)):=(EJ hr hw).cell hp;have e4:w'.cell? (J B f Y)=X (W V (pz f:Int)):=(EJ hr hw).cell hf;clear hr h h2 e;generalize pz p=x at *;generalize pz f=y at *
 go_enter Tryz.func47,Tryz.ntmps47;go_wp2_with fail
 go_quiet (fail)
 go_wp2_with fail
 go_ret;exact⟨rfl,below_drewN (qD _ _) _⟩
def KZ(g:Gr)(w':M)(v:Value)(c:Int):Prop:=(c=11/\Ao g=11/\v=L #[Z Y 0 0,Z Y 0 0])\/(c=0/\Ao g=0/\∃so sc lo lc st lp,v=L #[Z so st.length sc,Z lo lp.length lc]/\st.length<=20000/\lp.length<=2000000/\LassoOk g st lp/\Ay w' (Z so st.length sc) st/\Ay w' (Z lo lp.length lc) lp)
theorem MV{w:M}{base:Nat}{v:Value}{l:List Nat}(h:w.ownsRow base 3 1 v l.length (AK l)):Ay w v l:=by
 rcases h.2 with⟨e,h0⟩|⟨g,cap,cur,e,_⟩
 .exact ⟨Y,0,by rw[e,h0],fun hne=>by cases l with|nil=>exact absurd rfl hne|cons a l=>simp at h0⟩
 .subst e;obtain⟨_,_,hc⟩:=EG h;obtain⟨_,hlt⟩:=h.lt g rfl;exact⟨_,_,rfl,fun _=>⟨g,0,rfl,hlt,fun i hi=>by rw[qV];exact hc i hi⟩⟩
theorem TE{w:M}{ao:Option Addr}{c:Nat}{l:List Nat}(h:Ay w (Z ao l.length c) l){q:Nat}(hq:q<=l.length):Ay w (Z ao (l.take q).length c) (l.take q):=by
 obtain⟨ao',cap,e,h2⟩:=h;injection e with e1 e2 e3;subst e1 e3;refine⟨ao,c,rfl,fun hne=>?_⟩;obtain⟨b,off,e4,h4,h5⟩:=h2 (fun e=>hne (by rw[e];simp));refine⟨b,off,e4,h4,fun i hi=>?_⟩;have hi2:i<q:=by rw[qP]at hi;omega
 rw[h5 i (by omega)];simp[qC,hi2]
theorem VV(so no bo:Option Addr)(sc nc bc:Nat)(g:Gr)(w:M)(hz:GrLe g)(hV:GraphV w (Z so g.spots.length sc) (Z no g.next.length nc) (Z bo g.sets.length bc) g)(hc:CM g=0) :
  K qA 22 #[L #[Z so g.spots.length sc,W V g.init,Z no g.next.length nc,Z bo g.sets.length bc,W V g.many]] w fun e w'=>∃v c,e=O (.tuple #[v,W V c])/\U w.heap.size w w'/\Q (KZ g w' v c):=by
 classical
 have hok:=Gj hc;have hgn:=hok.head.next;have hgs:=hok.head.sets;have hn:=hok.head.n;obtain⟨gi,hgi⟩:∃gi:Nat,g.init=gi:=⟨g.init.toNat,by have:=hok.head.init0;omega⟩;have hgin:gi<=g.spots.length:=by have:=hok.head.init1;omega
 have hgt:g.init.toNat=gi:=by omega
 obtain⟨W0,hW0⟩:∃W0,W0=(w.alloc (T #[Z so g.spots.length sc,W V (gi:Int),Z no g.spots.length nc,Z bo g.spots.length bc,W V g.many] 45)).alloc (T #[Z Y 0 0,Z Y 0 0] 58):=⟨_,rfl⟩;have hA:U w.heap.size w W0:=by rw[hW0];exact(ai).alloc (by simp) _
 have hs0:W0.heap.size=w.heap.size+2:=by rw[hW0];simp
 have HK:Q (∀w1,U W0.heap.size W0 w1->(w1.cell? (J w.heap.size 0 Y)=X (Z so g.spots.length sc)/\w1.cell? (J w.heap.size 1 Y)=X (W V (gi:Int))/\w1.cell? (J w.heap.size 2 Y)=X (Z no g.spots.length nc)/\w1.cell? (J w.heap.size 3 Y)=X (Z bo g.spots.length bc)/\w1.cell? (J w.heap.size 4 Y)=X (W V g.many))/\w1.cell? ⟨w.heap.size+1,0,Y⟩=X (Z Y 0 0)/\w1.cell? ⟨w.heap.size+1,1,Y⟩=X (Z Y 0 0)/\w1.frozen? ⟨w.heap.size+1,0,Y⟩=false/\w1.frozen? ⟨w.heap.size+1,1,Y⟩=false):=fun w1 hb=>by
  have hlt:w.heap.size+1<W0.heap.size:=by omega
  have hlt0:w.heap.size<W0.heap.size:=by omega
  have c:∀j,w1.cell? (J w.heap.size j Y)=W0.cell? (J w.heap.size j Y):=fun j=>hb.cell (p:=(J w.heap.size j Y)) hlt0;refine⟨⟨(c _).trans ?_,(c _).trans ?_,(c _).trans ?_,(c _).trans ?_,(c _).trans ?_⟩,(hb.cell (p:=⟨w.heap.size+1,0,Y⟩) hlt).trans ?_,(hb.cell (p:=⟨w.heap.size+1,1,Y⟩) hlt).trans ?_,(hb.frozen (p:=⟨w.heap.size+1,0,Y⟩) hlt).trans ?_,(hb.frozen (p:=⟨w.heap.size+1,1,Y⟩) hlt).trans ?_⟩<;>(rw[hW0];simp[go_sem])
 have hVb:∀w1,U W0.heap.size W0 w1->GraphV w1 (Z so g.spots.length sc) (Z no g.next.length nc) (Z bo g.sets.length bc) g:=fun w1 hb=>(hV.below hA).below hb;have hpa:=Vb so no bo sc nc bc g W0 hz (hV.below hA) hc;rw[hgn,hgs,hgi]at hpa;have HFs:Q (∀(w1:M) (B:Nat) pz,U W0.heap.size W0 w1->w1.rowIs B 3 g.spots.length (Bb pz)->DX g pz->K qA 41 #[L #[Z so g.spots.length sc,W V (gi:Int),Z no g.spots.length nc,Z bo g.spots.length bc,W V g.many],Z (X (J B 0 Y)) g.spots.length g.spots.length] w1 fun e w'=>∃Bf,e=O (Z (X (J Bf 0 Y)) g.spots.length g.spots.length)/\U w1.heap.size w1 w'/\Q (w'.rowIs Bf 4 g.spots.length (fun x=>.bool (decide (BK g x))))):=fun w1 B pz hb h1 h3=>by
  have h:=LL so no bo sc nc bc B g pz w1 hz (hVb w1 hb) hok h1 (fun x hx=>Nat.lt_of_le_of_lt (h3.le hx) hx);rw[hgn,hgs,hgi]at h;exact h.mono fun e w' ⟨Bf,e1,e2,e3⟩=>⟨Bf,e1,e2,e3.out.2.congr fun x hx=>by rw[LK hok h3 hx]⟩
 have HFi:Q (∀w1,K qA 43 #[L #[Z so g.spots.length sc,W V (gi:Int),Z no g.spots.length nc,Z bo g.spots.length bc,W V g.many]] w1 fun e w'=>∃vo vc,e=O (Z vo (aE gi).length vc)/\U w1.heap.size w1 w'/\Ay w' (Z vo (aE gi).length vc) (aE gi)):=fun w1=>LO so no bo _ sc _ nc _ bc gi g.many w1 (by omega);have HWy:Q (∀w1 vo vc fw cw want,U W0.heap.size W0 w1->Ay w1 (Z vo (aE gi).length vc) (aE gi)->FnB w1 w1.heap.size g.spots.length (.func (.func fw) #[] cw) want->K qA 42 #[L #[Z so g.spots.length sc,W V (gi:Int),Z no g.spots.length nc,Z bo g.spots.length bc,W V g.many],Z vo (aE gi).length vc,.func (.func 44) #[] #[],.func (.func fw) #[] cw] w1 fun e w'=>∃vo vc q,e=O (Z vo q vc)/\U w1.heap.size w1 w'/\Q (∃l,l.length=q/\Kc g.spots.length (fun _=>true) want (nxt g) (aE gi) l/\w'.ownsRow w1.heap.size 3 1 (Z vo q vc) q (AK l))):=fun w1 vo vc fw cw want hb hN hF=>by
  have h:=N8 so no bo vo sc nc bc vc g (aE gi) 44 fw #[] cw (fun _=>true) want w1 hok (fun i hi=>hz.rows i (by rw[hgn];exact hi)) (hVb w1 hb) hN (by simp;omega) (fun x hx=>by have:=vA.1 hx;omega) (Ki _ _ _) hF;rw[hgn,hgs,hgi]at h;exact h
 have HLf:Q (∀w1 f fi ci ins,U W0.heap.size W0 w1->f<g.spots.length->BK g f->Dg g f ins->FnB w1 w1.heap.size g.spots.length (.func (.func fi) #[] ci) ins->K qA 46 #[L #[Z so g.spots.length sc,W V (gi:Int),Z no g.spots.length nc,Z bo g.spots.length bc,W V g.many],W V (f:Int),.func (.func fi) #[] ci] w1 fun e w'=>∃vo vc q,e=O (Z vo q vc)/\U w1.heap.size w1 w'/\Q (∃l,l.length=q/\q<=2000000/\LoopOk g f l/\w'.ownsRow w1.heap.size 3 1 (Z vo q vc) q (AK l))):=fun w1 f fi ci ins hb hf hF hI hFn=>by
  have h:=SI so no bo sc nc bc g f fi ci ins w1 hz (hVb w1 hb) hok hf hF hI hFn;rw[hgn,hgs,hgi]at h;exact h
 have HPz:Q (∀pt,Cr g pt->∃pz,DX g pz/\∀(w1:M) (B:Nat),w1.rowIs B 3 g.spots.length (B5 pt)->w1.rowIs B 3 g.spots.length (Bb pz)):=fun pt h=>by
  obtain⟨h3,h4⟩:=h.pz;exact⟨_,h3,fun w1 B h1=>h1.congr fun x hx=>by unfold B5 Bb;rw[<-h4 x hx]⟩
 have HNone:Q (DC (fun _=>true) (fun x=>decide (BK g x)) (nxt g) (aE gi)->Ao g=11):=fun h=>by
  rw[<-hgt]at h;exact(TK h).2
 have HSome:Q (∀l lp,WayOk g.spots.length (fun _=>true) (fun x=>decide (BK g x)) (nxt g) (aE gi) l->LoopOk g (l.getD (l.length-1) 0) lp->LassoOk g (l.take (l.length-1)) lp/\Ao g=0):=fun l lp h h2=>by
  rw[<-hgt]at h;exact Rx hok h h2
 have HIn:Q (∀pz f,DX g pz->f<g.spots.length->Dg g f (fun p=>decide (pz p=pz f))):=fun pz f hp hf x hx=>by
  rw[decide_eq_true_iff,hp.iff hx hf];exact⟨Mut.symm,Mut.symm⟩
 have HPO:Q (∀pt,Cr g pt->Cr g pt):=fun _ h=>h;rw[hgn,hgs,hgi];clear hV hVb hz hc hok hgn hgs hgi hgt;generalize hPO:Cr g=PO at *;obtain⟨lr,hlr⟩:∃lr,lr=(aE gi).length:=⟨_,rfl⟩
 have HLr:Q (lr=(aE gi).length):=hlr;rw[<-hlr]at HFi HWy;clear hPO hlr;obtain⟨n,hnn⟩:∃n,n=g.spots.length:=⟨_,rfl⟩;rw[<-hnn]at hW0 HK hpa HFs HFi HWy HLf HPz HSome HIn hn hgin⊢;generalize g.many=gm at *;rw[hW0]at hpa;have HW0:Q (W0=(w.alloc (T #[Z so n sc,W V (gi:Int),Z no n nc,Z bo n bc,W V gm] 45)).alloc (T #[Z Y 0 0,Z Y 0 0] 58)):=hW0;clear hW0 hnn
 have hmf:∀(fn:Fn) (first cap:Array Value) (w:M),(Instr.makeFunc fn first cap).run qA w=.ok (.func fn first cap) w:=fun _ _ _ _=>rfl;go_enter Tryz.func22,Tryz.ntmps22;go_upto_region 4 with(go_at_call 40;refine hpa.mono ?_;rintro e w1 ⟨B,rfl,hb1,HP⟩;rw[<-HW0.out]at hb1)
 obtain⟨pt,hBl,hrow1,hpt⟩:=HP.out;obtain⟨pz,hpz,hconv⟩:=HPz.out pt hpt;have hrow1:=hconv w1 B hrow1;have hbx:U W0.heap.size W0 (w1.alloc (T #[Z (X (J B 0 Y)) n n] 43)):=hb1.alloc hb1.size _;have hcb:(w1.alloc (T #[Z (X (J B 0 Y)) n n] 43)).cell? (J w1.heap.size 0 Y)=X (Z (X (J B 0 Y)) n n):=by simp[go_sem]
 have hs1:w1.heap.size<(w1.alloc (T #[Z (X (J B 0 Y)) n n] 43)).heap.size:=by simp
 have hrow2:(w1.alloc (T #[Z (X (J B 0 Y)) n n] 43)).rowIs B 3 n (Bb pz):=hrow1.alloc _;generalize w1.alloc (T #[Z (X (J B 0 Y)) n n] 43)=W2 at hbx hcb hs1 hrow2⊢;have HPzO:Q (DX g pz):=hpz;have HRow2:Q (W2.rowIs B 3 n (Bb pz)):=hrow2;have HBx:Q (U W0.heap.size W0 W2):=hbx;have hfs:=HFs.out W2 B pz hbx hrow2 hpz;obtain⟨⟨a0,a1,a2,a3,a4⟩,_⟩:=HK.out W2 hbx;clear HP hb1 hrow1 hconv hpt hpa hrow2 hpz HFs HPz hBl;go_upto_region 5 with(go_at_call 41;refine hfs.mono ?_;rintro e w3 ⟨Bf,rfl,hb3,HF3⟩)
 have hb23:U W0.heap.size W0 w3:=ae HBx.out hb3;have hb4:U W0.heap.size W0 (w3.alloc (T #[Z (X (J Bf 0 Y)) n n] 111)):=hb23.alloc hb23.size _;have hcf4:(w3.alloc (T #[Z (X (J Bf 0 Y)) n n] 111)).cell? (J w3.heap.size 0 Y)=X (Z (X (J Bf 0 Y)) n n):=by simp[go_sem]
 have hs4:w3.heap.size<(w3.alloc (T #[Z (X (J Bf 0 Y)) n n] 111)).heap.size:=by simp
 have hF4:(w3.alloc (T #[Z (X (J Bf 0 Y)) n n] 111)).rowIs Bf 4 n (fun x=>.bool (decide (BK g x))):=HF3.out.alloc _;have hcb4:(w3.alloc (T #[Z (X (J Bf 0 Y)) n n] 111)).cell? (J w1.heap.size 0 Y)=X (Z (X (J B 0 Y)) n n):=(((qD w3.heap.size w3).alloc (qB _) _).cell (p:=(J w1.heap.size 0 Y)) (qE hs1 hb3.size)).trans ((hb3.cell (p:=(J w1.heap.size 0 Y)) hs1).trans hcb);have hrB4:(w3.alloc (T #[Z (X (J Bf 0 Y)) n n] 111)).rowIs B 3 n (Bb pz):=(EJ HRow2.out hb3).alloc _;have hs14:w1.heap.size<(w3.alloc (T #[Z (X (J Bf 0 Y)) n n] 111)).heap.size:=by have:=hb3.size;simp;omega
 generalize w3.alloc (T #[Z (X (J Bf 0 Y)) n n] 111)=W4 at hb4 hcf4 hs4 hF4 hcb4 hrB4 hs14⊢;have HB4:Q (U W0.heap.size W0 W4):=hb4;have HAt:Q (∀w',U W4.heap.size W4 w'->w'.cell? (J w3.heap.size 0 Y)=X (Z (X (J Bf 0 Y)) n n)/\w3.heap.size<w'.heap.size/\w'.rowIs Bf 4 n (fun x=>.bool (decide (BK g x)))/\w'.cell? (J w1.heap.size 0 Y)=X (Z (X (J B 0 Y)) n n)/\w1.heap.size<w'.heap.size/\w'.rowIs B 3 n (Bb pz)/\U W0.heap.size W0 w'):=fun w' hb=>⟨(hb.cell (p:=(J w3.heap.size 0 Y)) hs4).trans hcf4,qE hs4 hb.size,EJ hF4 hb,(hb.cell (p:=(J w1.heap.size 0 Y)) hs14).trans hcb4,qE hs14 hb.size,EJ hrB4 hb,ae HB4.out hb⟩;have hS:∀w',U W4.heap.size W4 w'->w'.cell? (J w.heap.size 0 Y)=X (Z so n sc)/\w'.cell? (J w.heap.size 1 Y)=X (W V (gi:Int))/\w'.cell? (J w.heap.size 2 Y)=X (Z no n nc)/\w'.cell? (J w.heap.size 3 Y)=X (Z bo n bc)/\w'.cell? (J w.heap.size 4 Y)=X (W V gm):=fun w' hb=>(HK.out w' (HAt.out w' hb).2.2.2.2.2.2).1;have hfi:=HFi.out W4.drew;have HFn:Q (∀w',U W4.heap.size W4 w'->FnB w' w'.heap.size n (.func (.func 45) #[] #[N (X (J w3.heap.size 0 Y))]) (fun x=>decide (BK g x))):=fun w' hb=>by
  obtain⟨h1,h2,h3,_⟩:=HAt.out w' hb;exact Qc w' w3.heap.size Bf n _ h2 h1 h3
 clear hcf4 hF4 hcb4 hrB4 hb4 HF3 hfs hb3 hb23 hcb HBx HRow2 a0 a1 a2 a3 a4;go_region_held3 (fun w'=>w'.cell? (J w.heap.size 0 Y)=X (Z so n sc)/\w'.cell? (J w.heap.size 1 Y)=X (W V (gi:Int))/\w'.cell? (J w.heap.size 2 Y)=X (Z no n nc)/\w'.cell? (J w.heap.size 3 Y)=X (Z bo n bc)/\w'.cell? (J w.heap.size 4 Y)=X (W V gm))
  (exact hS _ (by first|exact(qD _ _).drew|exact qD _ _|exact hb5'|exact hb6'))
  (first|(go_at_call 43;refine hfi.mono ?_;rintro e w5 ⟨vo5,vc5,rfl,hb5,hN5⟩;have hb5':U W4.heap.size W4 w5:=C9 hb5;have hwy:=HWy.out w5 vo5 vc5 _ _ _ (HAt.out w5 hb5').2.2.2.2.2.2 (by rw[HLr.out]at hN5⊢;exact hN5) (HFn.out w5 hb5'))|(go_at_call 42;refine hwy.mono ?_;rintro e w6 ⟨vo6,vc6,q6,rfl,hb6,HM⟩;have hb6':U W4.heap.size W4 w6:=ae hb5' hb6))
 all_goals
  obtain⟨l,hlq,hpost,hro6⟩:=HM.out;obtain⟨h1,h2,h3,h4,h5,h6,hbw6⟩:=HAt.out w6 hb6';obtain⟨hk6,r0,r1,f0,f1⟩:=HK.out w6 hbw6;have hbb6:U w.heap.size w w6:=ae hA hbw6;rcases hpost with⟨rfl,hno⟩|hwo
  .have hq0:q6=0:=by rw[<-hlq];rfl
   subst hq0;have hC:=HNone.out hno;have HCC:Q (Ao g=11):=hC;clear hno hC hlq hro6 HM hwy hfi HFn hS HAt HWy HFi HLf HSome HNone;go_wp2_with fail
   refine bodyPost_ret (v:=.tuple #[L #[Z Y 0 0,Z Y 0 0],W V 11]) ?_ rfl ⟨_,_,rfl,?_,.inl ⟨rfl,HCC.out,rfl⟩⟩
   .simp only[results,Tryz.results22];simp[go_sem,r0,r1]
   .exact (hbb6.setCell (by show w.heap.size<=w.heap.size+1;omega) _).setCell (by show w.heap.size<=w.heap.size+1;omega) _
  .have hq6:0<q6:=by
    have:=hwo.ne;cases l with
    |nil=>exact absurd rfl this
    |cons a l=>simp at hlq;omega
   have hq20:q6<=20000:=by have:=hwo.len;omega
   obtain⟨g6,c6,hvv6,hg61,hg62⟩:=hro6.form hq6;injection hvv6 with e1 e2 e3;subst e1 e3;obtain⟨q,rfl⟩:∃q,q6=q+1:=⟨q6-1,by omega⟩;obtain⟨hqc,_,hcl6⟩:=EG (l:=l) (by rw[hlq];exact hro6);have hcq:=hcl6 q (by omega);have hlst:l.length-1=q:=by omega
   have hmf9:=ED hwo.ne;rw[hlst]at hmf9;have hfn:=(hwo.ins _ hmf9).2;have hFx:BK g (l.getD q 0):=by
    have:=hwo.last;rw[hlst]at this;exact of_decide_eq_true this
   have HS9:Q (∀lp,LoopOk g (l.getD q 0) lp->LassoOk g (l.take q) lp/\Ao g=0):=fun lp h=>by
    have:=HSome.out l lp hwo (by rw[hlst];exact h);rw[hlst]at this;exact this
   have hs5:w.heap.size+1<w5.heap.size:=by have h8:=(HAt.out w5 hb5').2.2.2.2.2.2.size;omega
   have HNl:Q (∀w9,U w6.heap.size w6 w9->∀x y,Ay ((w9.setCell ⟨w.heap.size+1,0,Y⟩ x).setCell ⟨w.heap.size+1,1,Y⟩ y) (Z (X (J g6 0 Y)) (l.take q).length vc6) (l.take q)):=fun w9 hb9 x y=>by
    have h9:=ownsRow_setCell_below (ownsRow_setCell_below (Ap hro6 hb9 (qB _)) (a:=⟨w.heap.size+1,0,Y⟩) hs5 x) (a:=⟨w.heap.size+1,1,Y⟩) hs5 y;exact TE (l:=l) (by rw[hlq];exact MV (by rw[hlq];exact h9)) (by omega)
   have HTl:Q ((l.take q).length=q):=by show _=_;rw[qP];omega
   generalize hff:l.getD q 0=f at *;clear hff;have hqc2:q+1<=vc6:=by omega
   clear hwo hro6 hcl6 HM hwy hfi HFn hS HWy HFi HNone hmf9 hlst hqc hlq HSome;go_upto_region 9 with fail
   have hb7:U W4.heap.size W4 (w6.alloc (T #[W V (f:Int)] 3)):=hb6'.alloc hb6'.size _;have hb67:U w6.heap.size w6 (w6.alloc (T #[W V (f:Int)] 3)):=ai;have hc7:(w6.alloc (T #[W V (f:Int)] 3)).cell? (J w6.heap.size 0 Y)=X (W V (f:Int)):=by simp[go_sem]
   have hs7:w6.heap.size<(w6.alloc (T #[W V (f:Int)] 3)).heap.size:=by simp
   generalize w6.alloc (T #[W V (f:Int)] 3)=W7 at hb7 hb67 hc7 hs7⊢;obtain⟨_,_,_,g4,g5,g6',g7⟩:=HAt.out W7 hb7;obtain⟨⟨a0,a1,a2,a3,a4⟩,_⟩:=HK.out W7 g7;have hlf:=HLf.out W7 f _ _ _ g7 hfn hFx (HIn.out pz f HPzO.out hfn) (Tt W7 w1.heap.size w6.heap.size B n f pz g5 hs7 hfn g4 hc7 g6');clear h1 h2 h3 h4 h5 h6 hk6 r0 r1 f0 f1 hcq g4 g5 g6' HLf HIn HPzO hFx;go_wp2_with (go_at_call 46;refine hlf.mono ?_;rintro e w8 ⟨vo8,vc8,q8,rfl,hb8,HL8⟩;have hb8':=ae g7 hb8;obtain⟨_,r0,r1,f0,f1⟩:=HK.out w8 hb8')
   have hb68:U w6.heap.size w6 w8:=ae hb67 hb8;have hbb8:U w.heap.size w w8:=ae hA hb8';obtain⟨lp,hlp1,hlp2,hlp3,hlp4⟩:=HL8.out;obtain⟨hLo,hC0⟩:=HS9.out lp hlp3;have hs7w:w.heap.size+1<W7.heap.size:=by have:=g7.size;omega
   have hNlp:=MV (l:=lp) (by rw[hlp1];exact ownsRow_setCell_below (ownsRow_setCell_below hlp4 (a:=⟨w.heap.size+1,0,Y⟩) hs7w (Z (X (J g6 0 Y)) q vc6)) (a:=⟨w.heap.size+1,1,Y⟩) hs7w (Z vo8 q8 vc8));have hNst:=HNl.out w8 hb68 (Z (X (J g6 0 Y)) q vc6) (Z vo8 q8 vc8);have hTl:=HTl.out;rw[hTl]at hNst;refine bodyPost_ret (v:=.tuple #[L #[Z (X (J g6 0 Y)) q vc6,Z vo8 q8 vc8],W V 0]) ?_ rfl ⟨_,_,rfl,?_,.inr ⟨rfl,hC0,X (J g6 0 Y),vc6,vo8,vc8,l.take q,lp,by rw[hTl,hlp1],by rw[hTl];omega,by rw[hlp1];exact hlp2,hLo,by rw[hTl];exact hNst,by rw[hlp1];exact hNlp⟩⟩
   .simp only[results,Tryz.results22];simp[go_sem,r0,r1]
   .exact (hbb8.setCell (by show w.heap.size<=w.heap.size+1;omega) _).setCell (by show w.heap.size<=w.heap.size+1;omega) _
theorem Vn(so no xo po:Option Addr)(sc nn nc xn xc pc:Nat)(ini man:Int)(S:am)(l:List Nat)(w:M)(hS:OpsV w (Z so S.length sc) S)(hP:Ay w (Z po l.length pc) l)(hlt:∀i,i<l.length->l.getD i 0<S.length)(hz:l.length<=2000000)(hzS:S.length<=20000) :
  K qA 23 #[L #[Z so S.length sc,W V ini,Z no nn nc,Z xo xn xc,W V man],Z po l.length pc] w fun e w'=>∃R,e=O (Z (X (J R 0 Y)) l.length l.length)/\U w.heap.size w w'/\Q (IntsV w' (Z (X (J R 0 Y)) l.length l.length) ((aE l.length).map fun(j:Nat)=>(S.getD (l.getD j 0) (0,0)).1)):=by
 obtain⟨n,hn⟩:∃n,l.length=n:=⟨_,rfl⟩;have HN:Q (l.length=n):=hn;obtain⟨W1,hW1⟩:∃W1,W1=w.alloc (T #[Z so S.length sc,W V ini,Z no nn nc,Z xo xn xc,W V man] 45):=⟨_,rfl⟩;have hb1:U w.heap.size w W1:=by rw[hW1];exact ai
 have hc1:W1.cell? (J w.heap.size 0 Y)=X (Z so S.length sc):=by rw[hW1];simp[go_sem]
 have hz1:W1.heap.size=w.heap.size+1:=by rw[hW1];simp
 have HS:Q (∀wr,U W1.heap.size W1 wr->∀i,i<S.length->∃b off,so=X (J b off Y)/\wr.cell? ⟨b,off+i*2,Y⟩=X (W V (S.getD i (0,0)).1)):=fun wr h i hi=>by
  obtain⟨ao',cap,e,_,hx⟩:=(hS.below hb1).below h;injection e with e1 _ _;subst e1;obtain⟨b,off,rfl,_,hat⟩:=hx (by rintro rfl;simp at hi);exact⟨b,off,rfl,(hat i hi).1⟩
 have HP:Q (∀wr,U W1.heap.size W1 wr->∀i,i<n->∃b off,po=X (J b off Y)/\wr.cell? ⟨b,off+i,Y⟩=X (W V ((l.getD i 0:Nat):Int))):=fun wr h i hi=>by
  have hP1:=(hP.below hb1).below h;obtain⟨b,off,e,_,hat⟩:=hP1.num (i:=i) (by omega);exact⟨b,off,e,hat⟩
 have HC:Q (∀wr,U W1.heap.size W1 wr->wr.cell? (J w.heap.size 0 Y)=X (Z so S.length sc)):=fun wr h=>(h.cell (p:=(J w.heap.size 0 Y)) (by show w.heap.size<_;omega)).trans hc1;have HL:Q (∀i,i<n->l.getD i 0<S.length):=fun i hi=>hlt i (by omega);rw[hn]at hz⊢;generalize hsn:S.length=sn at *;clear hS hP hlt hn hc1;have hmk:=run_make_row' (P:=qA) 43 3 (W V 0) 8 Tryz.underlying43 BS rfl .i64 .i64 n (by omega) (by omega)
 obtain⟨f,hf⟩:∃f:Nat->Int,f=fun j=>(S.getD (l.getD j 0) (0,0)).1:=⟨_,rfl⟩;have HF:Q (∀j,(S.getD (l.getD j 0) (0,0)).1=f j):=fun j=>by rw[hf]
 have HFe:Q ((aE n).map (fun(j:Nat)=>(S.getD (l.getD j 0) (0,0)).1)=(aE n).map f):=by rw[hf];rfl
 have HR0:Q ((W1.alloc (T (madeCells #[W V 0] n) 3)).rowIs (w.heap.size+1) 3 n (fun j=>W V (if j<0 then f j else 0))):=by
  rw[<-hz1];exact(World.rowIs_made W1 (W V 0) n 3).congr (fun j _=>by simp)
 have hb2:U W1.heap.size W1 (W1.alloc (T (madeCells #[W V 0] n) 3)):=ai;rw[HFe.out];clear hf HFe;go_enter Tryz.func23,Tryz.ntmps23;go_wp2_with fail
 rw[<-hW1];clear hW1;go_wp2_with fail
 generalize W1.alloc (T (madeCells #[W V 0] n) 3)=W2 at *
 go_loopw [13] (fun i wr=>∃k:Nat,k<=n/\i=W V k/\U W1.heap.size W1 wr/\Q (wr.rowIs (w.heap.size+1) 3 n (fun j=>W V (if j<k then f j else 0)))) (fun i _=>n-(intOf i).toNat)
 case atStart=>exact⟨0,Nat.zero_le _,rfl,hb2,HR0⟩
 case round=>
  obtain⟨k,hk,rfl,hbr,HR⟩:=hrel;by_cases hkn:k<n
  .have hki:(k:Int)<(n:Int):=by omega
   obtain⟨pb,poff,rfl,c0⟩:=HP.out wr hbr k hkn;have hpl:=HL.out k hkn;obtain⟨sb,soff,rfl,d0⟩:=HS.out wr hbr _ hpl;have g0:=HC.out wr hbr;rw[HF.out k]at d0;generalize l.getD k 0=q at *;have hqi:(q:Int)<(sn:Int):=by omega
   have f0:=HR.out.cell hkn;have f1:=HR.out.frozen k;have HR2:Q ((wr.setCell ⟨w.heap.size+1,k,Y⟩ (W V (f k))).rowIs (w.heap.size+1) 3 n (fun j=>W V (if j<k+1 then f j else 0))):=(HR.out.set k _).congr (fun j _=>by
    by_cases e:j=k
    .subst e;rw[aj rfl,aj (Nat.lt_succ_self _)]
    .rw[ak e];by_cases h1:j<k
     .rw[aj h1,aj (by omega)]
     .rw[ak h1,ak (by omega)])
   clear HR;go_wp2_with fail
   go_roundw
   case rel=>exact⟨k+1,by omega,by go_num,hbr.setCell (p:=⟨w.heap.size+1,k,Y⟩) (by show W1.heap.size<=w.heap.size+1;omega) _,HR2⟩
   case measure=>simp[intOf];omega
  .obtain rfl:k=n:=by omega
   go_wp2_with fail
   go_ret;refine⟨w.heap.size+1,rfl,ae hb1 hbr,⟨X ⟨w.heap.size+1,0,Y⟩,k,by simp,fun _=>⟨w.heap.size+1,0,rfl,HR.out.lt,fun i hi=>?_⟩⟩⟩;have hi':i<k:=by simpa using hi
   rw[qV,HR.out.cell hi',aj hi'];simp[qC,hi']
