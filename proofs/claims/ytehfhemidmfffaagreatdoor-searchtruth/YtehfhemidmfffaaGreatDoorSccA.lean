/- Joined texts. -/
import Derived.Test.YtehfhemidmfffaaGreatDoorBools
import Derived.Test.YtehfhemidmfffaaGreatDoorIntsOf
import Derived.Deep.RegionHeld3
import Derived.Deep.CutBlock
import Derived.Deep.DeepCutAuto
import Derived.Test.YtehfhemidmfffaaGreatDoorAnyOps
open Go renaming World→O,Value→T,Calls→G
open Go.Ending renaming returned→I
open Go.IntKind renaming i64→V
open Go.Obj renaming cells→ZZ
open Go.RowKit renaming Below→J,Hid→U
open Go.Value renaming slice→Y,pointer→H
open _root_.Bool renaming false→E
open _root_.Option renaming none→Z,some→X
namespace Go.Proofs.YtehfhemidmfffaaGreatDoor
open _root_.Array renaming getElem?_eq_some_iff→qG,getElem?_modify→qS
open Go.RowKit.Below renaming refl→qD
open _root_.List renaming find?_append→kB,foldl_append→xA,getD_eq_getElem?_getD→qC,getElem?_append_left→qX,getElem?_append_right→q7,getElem?_eq_getElem→qH,getElem?_map→xB,getElem_mem→qR,getElem_of_mem→jB,length_append→qF,length_cons→qY,map_append→vJ,mem_append→qL,mem_cons→qW,mem_map→vH,mem_singleton→vM,pairwise_append→jJ,pairwise_cons→vN,take_succ_eq_append_getElem→qT
open _root_.Nat renaming le_refl→qB,le_trans→qI,lt_of_lt_of_le→qE,min_eq_left→jT,min_eq_right→xX,min_le_left→zG,min_le_right→xG,not_lt_zero→yJ,zero_add→qV,zero_le→qJ
open _root_.Option renaming getD_some→vW
open Go.Proofs.Tryz renaming prog→qA
open Go.ChangeShapes Go.WideShapes Go.ChangeAt Go.RowKit Go.Deep
open Terms
open Go.Proofs.Tryz renaming func70→gy,ntmps70→gz,underlying170→cS,underlying3→bI,underlying43→aD
open World renaming cell?_of_block→eJ,cell?_setCell_far→gA,cell?_setCell_other→bM,cell?_setCell_same→bO,cell?→br,frozen?_of_block→fO,frozen?_setCell→bL,rowIs_made→eL,setCells→gC,setCell→bu
open _root_.List renaming range→aE
set_option maxHeartbeats 6400000
set_option maxRecDepth 20000
def JO:Value:=Y Z 0 0
def FZ(w:O)(us:List T)(ls:List (List Int)):Prop:=us.length=ls.length/\∀i,i<ls.length->IntsV w (us.getD i JO) (ls.getD i [])
theorem FZ.below{w w':O}{us:List T}{ls:List (List Int)}(h:FZ w us ls)(hb:J w.heap.size w w'):FZ w' us ls:=⟨h.1,fun i hi=>(h.2 i hi).below hb⟩
def Dh(w:O)(v:T)(ls:List (List Int)):Prop:=∃us ao cap,v=.slice ao ls.length cap/\(ao=Z->cap=0/\ls=[])/\FZ w us ls/\(ls≠[]->∃b off,ao=X ⟨b,off,Z⟩/\b<w.heap.size/\∀i,i<ls.length->w.cell? ⟨b,off+i,Z⟩=X (us.getD i JO))
theorem Dh.below{w w':O}{v:T}{ls:List (List Int)}(h:Dh w v ls)(hb:J w.heap.size w w'):Dh w' v ls:=by
 obtain⟨us,ao,cap,rfl,h0,hu,h⟩:=h;refine⟨us,ao,cap,rfl,h0,hu.below hb,fun hne=>?_⟩;obtain⟨b,off,rfl,hlt,hat⟩:=h hne;exact⟨b,off,rfl,qE hlt hb.size,fun i hi=>(hb.cell (p:=⟨b,_,Z⟩) hlt).trans (hat i hi)⟩
theorem Dh.at{w:O}{ao:Option Addr}{cap n:Nat}{ls:List (List Int)}(h:Dh w (Y ao n cap) ls){i:Nat}(hi:i<ls.length):∃b off,ao=X ⟨b,off,Z⟩/\b<w.heap.size/\∃u,w.cell? ⟨b,off+i,Z⟩=X u/\IntsV w u (ls.getD i []):=by
 obtain⟨us,ao',cap',hv,_,hu,h⟩:=h;injection hv with e1 e2 e3;subst e1;obtain⟨b,off,e,hlt,hat⟩:=h (by rintro rfl;simp at hi);exact⟨b,off,e,hlt,_,hat i hi,hu.2 i hi⟩
theorem SF{w:O}{base:Nat}{v:T}{us:List T}{ls:List (List Int)}(h:w.ownsRow base 43 1 v us.length us)(hu:FZ w us ls):Dh w v ls:=by
 have hlen:=hu.1;rcases h.2 with⟨rfl,h0⟩|⟨g,cap,cur,rfl,hb,hg,hnc,hcm,hcs,htake⟩
 .have:ls=[]:=List.length_eq_zero_iff.1 (by omega);subst this;exact⟨us,Z,0,rfl,fun _=>⟨rfl,rfl⟩,hu,fun h=>absurd rfl h⟩
 .refine ⟨us,_,cap,by rw[hlen],fun h=>by simp at h,hu,fun _=>⟨g,0,rfl,(qG.1 hg).1,fun i hi=>?_⟩⟩;rw[qV,h.cellAt i (by omega)];simp[qC,show i<us.length by omega]
theorem D7:(qA.info? 43).map (fun i=>(i.zero,i.size,i.bytes))=X (X (Y Z 0 0),1,24):=by kernel_rfl
theorem Tn{w:O}{base:Nat}{e:TypeId}{s n:Nat}{v:T}{xs:List T}(h:w.ownsRow base e s v n xs){p:Addr}(hp:p.block<base)(u:T):(w.setCell p u).ownsRow base e s v n xs:=by
 obtain⟨h1,h2⟩:=h;refine⟨h1,?_⟩;rcases h2 with h2|⟨g,cap,cur,hv,hg,hh,r⟩
 .exact .inl h2
 .exact .inr ⟨g,cap,cur,hv,hg,(Below.heap_setCell w p u g (by omega)).trans hh,r⟩
structure Gr where
 spots:am
 init:Int
 next:List (List Int)
 sets:List Int
 many:Int
structure GraphV(w:O)(sv nv bv:T)(g:Gr):Prop where
 spots:OpsV w sv g.spots
 next:Dh w nv g.next
 sets:IntsV w bv g.sets
theorem GraphV.below{w w':O}{sv nv bv:T}{g:Gr}(h:GraphV w sv nv bv g)(hb:J w.heap.size w w'):GraphV w' sv nv bv g:=⟨h.spots.below hb,h.next.below hb,h.sets.below hb⟩
structure GHead(g:Gr):Prop where
 n:g.spots.length<=20000
 next:g.next.length=g.spots.length
 sets:g.sets.length=g.spots.length
 init0:0<=g.init
 init1:g.init<=g.spots.length
 many0:0<=g.many
 many6:g.many<=6
def top(g:Gr):Int:=2^g.many.toNat-1
def Ez(g:Gr)(i:Nat):Prop:=0<=g.sets.getD i 0/\g.sets.getD i 0<=top g
def Dw(g:Gr)(i:Nat)(k:Nat):Prop:=0<=(g.next.getD i []).getD k 0/\(g.next.getD i []).getD k 0<g.spots.length
def Dx(g:Gr)(i:Nat):Prop:=Ez g i/\∀k,k<(g.next.getD i []).length->Dw g i k
structure GOk(g:Gr):Prop where
 head:GHead g
 row:∀i,i<g.spots.length->Dx g i
open Classical in
noncomputable def CM(g:Gr):Int:=if GOk g then 0 else 9
theorem Q3{g:Gr}(h:¬GHead g):CM g=9:=ak fun x=>h x.head
theorem Q4{g:Gr}{i:Nat}(hi:i<g.spots.length)(h:¬Dx g i):CM g=9:=ak fun x=>h (x.row i hi)
theorem Ix{g:Gr}(h:GHead g)(hr:∀i,i<g.spots.length->Dx g i):CM g=0:=aj ⟨h,hr⟩
theorem Gj{g:Gr}(h:CM g=0):GOk g:=by
 unfold CM at h;split at h
 .assumption
 .simp at h
def nxt(g:Gr)(i:Nat):List Nat:=(g.next.getD i []).map Int.toNat
theorem FF{g:Gr}(h:GOk g){i k:Nat}(hi:i<g.spots.length)(hk:k∈nxt g i):k<g.spots.length:=by
 unfold nxt at hk;obtain⟨x,hx,rfl⟩:=vH.1 hk;obtain⟨j,hj,rfl⟩:=jB hx;have:=(h.row i hi).2 j hj;unfold Dw at this;rw[qC,qH hj]at this;simp only[vW]at this;omega
theorem EF(g:Gr)(i:Nat):(nxt g i).length=(g.next.getD i []).length:=by simp[nxt]
inductive Way(nx:Nat->List Nat)(i:Nat):Nat->Prop where
 |stay:Way nx i i
 |step {j k:Nat}:Way nx i j->k∈nx j->Way nx i k
theorem Way.trans{nx:Nat->List Nat}{i j k:Nat}(h1:Way nx i j)(h2:Way nx j k):Way nx i k:=by
 induction h2 with
 |stay=>exact h1
 |step _ hk ih=>exact ih.step hk
theorem Way.one{nx:Nat->List Nat}{i j:Nat}(h:j∈nx i):Way nx i j:=Way.stay.step h
theorem Way.lt{nx:Nat->List Nat}{n i j:Nat}(hn:∀i,i<n->∀k∈nx i,k<n)(hi:i<n)(h:Way nx i j):j<n:=by
 induction h with
 |stay=>exact hi
 |step _ hk ih=>exact hn _ ih _ hk
theorem Way.closed{nx:Nat->List Nat}{S:Nat->Prop}(hS:∀i,S i->∀k∈nx i,S k){i j:Nat}(hi:S i)(h:Way nx i j):S j:=by
 induction h with
 |stay=>exact hi
 |step _ hk ih=>exact hS _ ih _ hk
theorem Way.first{nx:Nat->List Nat}{i j:Nat}(h:Way nx i j):i=j\/∃k∈nx i,Way nx k j:=by
 induction h with
 |stay=>exact .inl rfl
 |step h1 hk ih=>
  rcases ih with rfl|⟨m,hm,hw⟩
  .exact .inr ⟨_,hk,.stay⟩
  .exact .inr ⟨m,hm,hw.step hk⟩
def sN(g:Gr)(x:Nat):Nat:=(g.sets.getD x 0).toNat
def mN(g:Gr):Nat:=g.many.toNat
def Mut(g:Gr)(x y:Nat):Prop:=Way (nxt g) x y/\Way (nxt g) y x
def BK(g:Gr)(x:Nat):Prop:=(∃a b,Mut g x a/\Mut g x b/\b∈nxt g a)/\∀i,i<mN g->∃a,Mut g x a/\(sN g a).testBit i=true
def DD(g:Gr)(x:Nat):Prop:=∃f∈aE g.init.toNat,Way (nxt g) f x
open Classical in
noncomputable def Fh(g:Gr):Option Nat:=(aE g.spots.length).find? fun x=>decide (DD g x/\BK g x)
noncomputable def Dl(g:Gr):Int:=(Fh g).getD 0
noncomputable def Ao(g:Gr):Int:=if(Fh g).isSome=true then 0 else 11
theorem LN{g:Gr}{x:Nat}(hx:x<g.spots.length)(h:DD g x/\BK g x):Ao g=0:=by
 classical
 unfold Ao;rw[if_pos];unfold Fh;rw[List.find?_isSome];exact⟨x,List.mem_range.2 hx,decide_eq_true h⟩
def Trail(nx:Nat->List Nat):List Nat->Prop
 |[]=>True
 |[_]=>True
 |a::b::l=>b∈nx a/\Trail nx (b::l)
theorem Trail.way{nx:Nat->List Nat}:∀{l:List Nat},Trail nx l->l≠[]->Way nx (l.getD 0 0) (l.getD (l.length-1) 0)
 |[],_,h=>absurd rfl h
 |[_],_,_=>.stay
 |a::b::l,h,_=>by
  have h1:=Trail.way (l:=b::l) h.2 (by simp);have h2:Way nx a b:=Way.one h.1;have h3:=h2.trans h1;simpa using h3
structure LassoOk(g:Gr)(st lp:List Nat):Prop where
 ne:lp≠[]
 trail:Trail (nxt g) (st++lp++[lp.getD 0 0])
 head:((st++lp).getD 0 0:Int)<g.init
 lt:∀x∈st++lp,x<g.spots.length
 bits:∀i,i<mN g->∃x∈lp,(sN g x).testBit i=true
def upd(st:Nat->Nat)(i v:Nat):Nat->Nat:=fun j=>if j=i then v else st j
theorem A9(st:Nat->Nat)(i v:Nat):upd st i v i=v:=aj rfl
theorem Al{st:Nat->Nat}{i v j:Nat}(h:j≠i):upd st i v j=st j:=ak h
abbrev Frames:=List (Nat×List Nat)
def AE:Frames->List Nat
 |[]=>[]
 |(d,r)::F=>AE F++(d::r)
def Ah:Frames->List Nat
 |[]=>[]
 |(d,_)::F=>Ah F++[d]
def EO:Frames->Nat->Nat->Prop
 |[],_,_=>False
 |[_],_,_=>False
 |(d,_)::(d',r')::F,x,y=>(x=d'/\y=d)\/EO ((d',r')::F) x y
def KT(nx:Nat->List Nat):Frames->Prop
 |[]=>True
 |[_]=>True
 |(d,_)::(d',r')::F=>d∈nx d'/\KT nx ((d',r')::F)
def E2(nx:Nat->List Nat)(x:Nat)(m:Int):Prop:=∃z:Nat,m=(z:Int)/\Way nx x z/\Way nx z x/\∀y,Way nx x y->Way nx y x->z<=y
def Et(st:Nat->Int)(i:Nat)(v:Int):Nat->Int:=fun j=>if j=i then v else st j
def nz(wh:Nat->Nat):Nat->Nat
 |0=>0
 |n+1=>nz wh n+if wh n=0 then 0 else 1
theorem G2(wh:Nat->Nat):∀n,nz wh n<=n
 |0=>qB _
 |n+1=>by
  have:=G2 wh n;unfold nz;split<;>omega
theorem Mb{wh wh':Nat->Nat}:∀{n:Nat},(∀j,j<n->(wh j=0↔wh' j=0))->nz wh n=nz wh' n
 |0,_=>rfl
 |n+1,h=>by
  unfold nz;rw[Mb (n:=n) (fun j hj=>h j (by omega))];have:=h n (by omega);by_cases h2:wh n=0
  .rw[aj h2,aj (this.1 h2)]
  .rw[ak h2,ak (fun x=>h2 (this.2 x))]
theorem G3{wh:Nat->Nat}{z v:Nat}(hz:wh z=0)(hv:v≠0):∀{n:Nat},z<n->nz (upd wh z v) n=nz wh n+1
 |0,h=>by omega
 |n+1,h=>by
  unfold nz;by_cases hzn:z=n
  .subst hzn;rw[A9,ak hv,aj hz,Mb (wh:=upd wh z v) (wh':=wh) (fun j hj=>by rw[Al (by omega)])]
  .rw[G3 hz hv (n:=n) (by omega),Al (show n≠z by omega)];omega
theorem Md{wh:Nat->Nat}:∀{n:Nat},(∀j,wh j=0)->nz wh n=0
 |0,_=>rfl
 |n+1,h=>by unfold nz;rw[Md (n:=n) h,aj (h n)]
theorem Mc{wh:Nat->Nat}{z:Nat}(hz:wh z=0){n:Nat}(h:z<n):nz wh n<n:=by
 have h1:=G3 hz (show(1:Nat)≠0 by decide) h;have h2:=G2 (upd wh z 1) n;omega
structure Tj(n:Nat)(nx:Nat->List Nat)(F:Frames)(wh lo go:Nat->Nat)(pt:Nat->Int)(met:Nat):Prop where
 lt:∀x∈AE F,x<n
 sorted:(AE F).Pairwise (fun a b=>wh a<wh b)
 pos:∀x∈AE F,1<=wh x/\wh x<=met
 new:∀x,x<n->wh x=0->¬x∈AE F/\pt x=-1/\go x=0
 old:∀x,x<n->wh x≠0->x∈AE F\/pt x≠-1
 opn:∀x∈AE F,pt x=-1
 told:∀x,x<n->pt x≠-1->E2 nx x (pt x)/\∀y∈nx x,pt y≠-1
 chain:KT nx F
 low:∀x∈AE F,1<=lo x/\lo x<=wh x/\∃y∈AE F,wh y=lo x/\Way nx x y
 frame:∀f∈F,∀x∈f.2,lo f.1<=lo x/\lo x<wh x/\Way nx f.1 x/\go x=(nx x).length
 gone:∀x∈AE F,∀j,j<go x->pt ((nx x).getD j 0)≠-1\/((nx x).getD j 0∈AE F/\lo x<=wh ((nx x).getD j 0))\/EO F x ((nx x).getD j 0)
 gole:∀x,x<n->go x<=(nx x).length
 few:met=nz wh n
theorem B8{d:Nat}{r:List Nat}{F:Frames}:d∈AE ((d,r)::F):=by simp[AE]
theorem TY{d x:Nat}{r:List Nat}{F:Frames}(h:x∈r):x∈AE ((d,r)::F):=by simp[AE,h]
theorem CO{f:Nat×List Nat}{x:Nat}{F:Frames}(h:x∈AE F):x∈AE (f::F):=by
 obtain⟨d,r⟩:=f;simp[AE,h]
theorem Fw{F:Frames}{f:Nat×List Nat}(hf:f∈F):f.1∈AE F/\∀x∈f.2,x∈AE F:=by
 induction F with
 |nil=>simp at hf
 |cons g F ih=>
  obtain⟨d,r⟩:=g;rcases qW.1 hf with rfl|hf
  .exact ⟨B8,fun x hx=>TY hx⟩
  .exact ⟨CO (ih hf).1,fun x hx=>CO ((ih hf).2 x hx)⟩
theorem EO.mem{F:Frames}{x y:Nat}(h:EO F x y):x∈AE F/\y∈AE F:=by
 induction F with
 |nil=>exact h.elim
 |cons f F ih=>
  obtain⟨d,r⟩:=f;cases F with
  |nil=>exact h.elim
  |cons g F=>
   obtain⟨d',r'⟩:=g;rcases h with⟨rfl,rfl⟩|h
   .exact ⟨CO B8,B8⟩
   .exact ⟨CO (ih h).1,CO (ih h).2⟩
theorem Tj.nodup{n:Nat}{nx:Nat->List Nat}{F:Frames}{wh lo go:Nat->Nat}{pt:Nat->Int}{met:Nat}(h:Tj n nx F wh lo go pt met):(AE F).Nodup:=by
 refine h.sorted.imp fun{a b} hab e=>?_;subst e;omega
theorem Tj.before{n:Nat}{nx:Nat->List Nat}{d:Nat}{r:List Nat}{F:Frames}{wh lo go:Nat->Nat}{pt:Nat->Int}{met:Nat}(h:Tj n nx ((d,r)::F) wh lo go pt met):(∀x∈AE F,∀y∈d::r,wh x<wh y)/\∀x∈r,wh d<wh x:=by
 have h1:=h.sorted;unfold AE at h1;rw[jJ]at h1;refine⟨fun x hx y hy=>h1.2.2 x hx y hy,fun x hx=>?_⟩;have:=h1.2.1;rw[vN]at this;exact this.1 x hx
theorem Tj.head_ne{n:Nat}{nx:Nat->List Nat}{d:Nat}{r:List Nat}{F:Frames}{wh lo go:Nat->Nat}{pt:Nat->Int}{met:Nat}(h:Tj n nx ((d,r)::F) wh lo go pt met):∀f∈((d,r)::F),∀x∈f.2,x≠d:=by
 obtain⟨h1,h2⟩:=h.before;intro f hf x hx e;subst e;rcases qW.1 hf with rfl|hf
 .have:=h2 x hx;omega
 .have:=h1 x ((Fw hf).2 x hx) x (by simp);omega
theorem Tj.start(n:Nat)(nx:Nat->List Nat):Tj n nx [] (fun _=>0) (fun _=>0) (fun _=>0) (fun _=>-1) 0:=
 ⟨by simp[AE],by simp[AE],by simp[AE],fun x _ _=>⟨by simp[AE],rfl,rfl⟩,fun x _ h=>absurd rfl h,by simp[AE],fun x _ h=>absurd rfl h,trivial,by simp[AE],by simp,by simp[AE],fun x _=>qJ _,(Md (fun _=>rfl)).symm⟩
section
variable{n:Nat}{nx:Nat -> List Nat}{wh lo go:Nat -> Nat}{pt:Nat -> Int}{met:Nat}
theorem Tj.begin{z:Nat}(h:Tj n nx [] wh lo go pt met)(hz:z<n)(hw:wh z=0):Tj n nx [(z,[])] (upd wh z (met+1)) (upd lo z (met+1)) go pt (met+1):=by
 obtain⟨_,hp,hg⟩:=h.new z hz hw;have hm:∀x,x∈AE [(z,[])]->x=z:=fun x hx=>by simpa[AE]using hx
 refine⟨fun x hx=>?_,by simp[AE],fun x hx=>?_,fun x hx hx0=>?_,fun x hx hx0=>?_,fun x hx=>?_,h.told,trivial,fun x hx=>?_,fun f hf x hx=>?_,fun x hx j hj=>?_,h.gole,?_⟩
 .rw[hm x hx];exact hz
 .rw[hm x hx,A9];omega
 .by_cases e:x=z
  .subst e;rw[A9]at hx0;omega
  .rw[Al e]at hx0;obtain⟨_,h2,h3⟩:=h.new x hx hx0;exact⟨fun hh=>e (hm x hh),h2,h3⟩
 .by_cases e:x=z
  .subst e;exact .inl B8
  .rw[Al e]at hx0;rcases h.old x hx hx0 with h1|h1
   .simp[AE]at h1
   .exact .inr h1
 .rw[hm x hx];exact hp
 .rw[hm x hx];exact⟨by rw[A9];omega,by rw[A9,A9];exact qB _,z,B8,by rw[A9,A9],.stay⟩
 .simp at hf;subst hf;simp at hx
 .rw[hm x hx,hg]at hj;omega
 .rw[G3 hw (by omega) hz,<-h.few]
theorem Tj.descend{p z:Nat}{r:List Nat}{F:Frames}(h:Tj n nx ((p,r)::F) wh lo go pt met)(hj:go p<(nx p).length)(hzz:(nx p).getD (go p) 0=z)(hz:z<n)(hw:wh z=0) :
    Tj n nx ((z,[])::(p,r)::F) (upd wh z (met+1)) (upd lo z (met+1)) (upd go p (go p+1)) pt (met+1):=by
  obtain⟨hno,hp,hg⟩:=h.new z hz hw;have hop:∀x,x∈AE ((z,[])::(p,r)::F)->x=z\/x∈AE ((p,r)::F):=fun x hx=>by
    have:x∈AE ((p,r)::F)++[z]:=hx;rcases qL.1 this with h1|h1
    . exact .inr h1
    . exact .inl (vM.1 h1)
  have hne:∀x,x∈AE ((p,r)::F)->x≠z:=fun x hx e=>hno (e▸hx);have hpz:p≠z:=hne p B8;have hmem:z∈nx p:=by
    rw[<-hzz,qC,qH hj];exact qR _
  have hpl:=h.lt p B8;refine⟨fun x hx=>?_,?_,fun x hx=>?_,fun x hx hx0=>?_,fun x hx hx0=>?_,fun x hx=>?_,h.told,⟨hmem,h.chain⟩,fun x hx=>?_,fun f hf x hx=>?_,fun x hx j hj2=>?_,fun x hx=>?_,?_⟩
  . rcases hop x hx with rfl|h1
    . exact hz
    . exact h.lt x h1
  . show(AE ((p,r)::F)++[z]).Pairwise _
    rw[jJ];refine⟨h.sorted.imp_of_mem fun{a b} ha hb hab=>?_,by simp,fun a ha b hb=>?_⟩
    . rw[Al (hne a ha),Al (hne b hb)];exact hab
    . rw[vM]at hb;subst hb
      rw[Al (hne a ha),A9];have:=h.pos a ha;omega
  . rcases hop x hx with rfl|h1
    . rw[A9];omega
    . rw[Al (hne x h1)];have:=h.pos x h1;omega
  . by_cases e:x=z
    . subst e;rw[A9]at hx0;omega
    . rw[Al e]at hx0
      obtain⟨h1,h2,h3⟩:=h.new x hx hx0;have hxp:x≠p:=fun e=>h1 (e▸B8);refine⟨fun hh=>?_,h2,by rw[Al hxp];exact h3⟩;rcases hop x hh with h4|h4
      . exact e h4
      . exact h1 h4
  . by_cases e:x=z
    . subst e;exact .inl B8
    . rw[Al e]at hx0
      rcases h.old x hx hx0 with h1|h1
      . exact .inl (CO h1)
      . exact .inr h1
  . rcases hop x hx with rfl|h1
    . exact hp
    . exact h.opn x h1
  . rcases hop x hx with rfl|h1
    . exact⟨by rw[A9];omega,by rw[A9,A9];exact qB _,x,B8,by rw[A9,A9],.stay⟩
    . obtain⟨h2,h3,y,h4,h5,h6⟩:=h.low x h1
      refine⟨by rw[Al (hne x h1)];exact h2,by rw[Al (hne x h1),Al (hne x h1)];exact h3,y,CO h4,by rw[Al (hne x h1),Al (hne y h4)];exact h5,h6⟩
  . rcases qW.1 hf with rfl|hf
    . simp at hx
    . have hx':=(Fw hf).2 x hx
      obtain⟨h1,h2,h3,h4⟩:=h.frame f hf x hx;rw[Al (hne _ (Fw hf).1),Al (hne x hx'),Al (hne x hx'),Al (h.head_ne f hf x hx)];exact⟨h1,h2,h3,h4⟩
  . rcases hop x hx with rfl|h1
    . rw[Al (Ne.symm hpz),hg]at hj2;omega
    . have key:∀j,j<go x->pt ((nx x).getD j 0)≠-1\/((nx x).getD j 0∈AE ((z,[])::(p,r)::F)/\upd lo z (met+1) x<=upd wh z (met+1) ((nx x).getD j 0))\/EO ((z,[])::(p,r)::F) x ((nx x).getD j 0):=fun j hj3=>by
        rcases h.gone x h1 j hj3 with h2|⟨h2,h3⟩|h2
        . exact .inl h2
        . exact .inr (.inl ⟨CO h2,by rw[Al (hne x h1),Al (hne _ h2)];exact h3⟩)
        . exact .inr (.inr (.inr h2))
      by_cases e:x=p
      . subst e
        rw[A9]at hj2;by_cases hjl:j<go x
        . exact key j hjl
        . obtain rfl:j=go x:=by omega
          exact .inr (.inr (.inl ⟨rfl,hzz⟩))
      . rw[Al e]at hj2
        exact key j hj2
  . by_cases e:x=p
    . subst e;rw[A9];omega
    . rw[Al e];exact h.gole x hx
  . rw[G3 hw (by omega) hz,<-h.few]
theorem Tj.along {p y v:Nat} {r:List Nat} {F:Frames} (h:Tj n nx ((p,r):: F) wh lo go pt met) (hj:go p < (nx p).length) (hy:(nx p).getD (go p) 0=y) (hv1:v <= lo p) (hv2:v=lo p\/(v=wh y/\y∈AE ((p,r):: F))) (hv3:pt y≠-1\/(y∈AE ((p,r):: F)/\v <= wh y)) :
    Tj n nx ((p,r)::F) wh (upd lo p v) (upd go p (go p+1)) pt met:=by
  have hmem:y∈nx p:=by
    rw[<-hy,qC,qH hj];exact qR _
  have hpo:p∈AE ((p,r)::F):=B8;have hpl:=h.lt p hpo;have hle:∀x,upd lo p v x<=lo x:=fun x=>by
    by_cases e:x=p
    . subst e;rw[A9];exact hv1
    . rw[Al e];exact qB _
  refine⟨h.lt,h.sorted,h.pos,fun x hx hx0=>?_,h.old,h.opn,h.told,h.chain,fun x hx=>?_,fun f hf x hx=>?_,fun x hx j hj2=>?_,fun x hx=>?_,h.few⟩
  . obtain⟨h1,h2,h3⟩:=h.new x hx hx0
    have hxp:x≠p:=fun e=>h1 (by rw[e];exact hpo);exact⟨h1,h2,by rw[Al hxp];exact h3⟩
  . obtain⟨h1,h2,z,h3,h4,h5⟩:=h.low x hx
    by_cases e:x=p
    . subst e
      rw[A9];rcases hv2 with rfl|⟨rfl,hyo⟩
      . exact⟨h1,h2,z,h3,h4,h5⟩
      . exact⟨(h.pos y hyo).1,by omega,y,hyo,rfl,Way.one hmem⟩
    . rw[Al e];exact⟨h1,h2,z,h3,h4,h5⟩
  . obtain⟨h1,h2,h3,h4⟩:=h.frame f hf x hx
    have hxp:=h.head_ne f hf x hx;rw[Al hxp,Al hxp];exact⟨qI (hle _) h1,h2,h3,h4⟩
  . have key:∀j,j<go x->pt ((nx x).getD j 0)≠-1\/((nx x).getD j 0∈AE ((p,r)::F)/\upd lo p v x<=wh ((nx x).getD j 0))\/EO ((p,r)::F) x ((nx x).getD j 0):=fun j hj3=>by
      rcases h.gone x hx j hj3 with h2|⟨h2,h3⟩|h2
      . exact .inl h2
      . exact .inr (.inl ⟨h2,qI (hle x) h3⟩)
      . exact .inr (.inr h2)
    by_cases e:x=p
    . subst e
      rw[A9]at hj2;by_cases hjl:j<go x
      . exact key j hjl
      . obtain rfl:j=go x:=by omega
        rw[hy];rcases hv3 with h2|⟨h2,h3⟩
        . exact .inl h2
        . exact .inr (.inl ⟨h2,by rw[A9];exact h3⟩)
    . rw[Al e]at hj2
      exact key j hj2
  . by_cases e:x=p
    . subst e;rw[A9];omega
    . rw[Al e];exact h.gole x hx
theorem Tj.leave{p q:Nat}{r s:List Nat}{F:Frames}(h:Tj n nx ((p,r)::(q,s)::F) wh lo go pt met)(hg:go p=(nx p).length)(hl:lo p≠wh p) :
  Tj n nx ((q,s++p::r)::F) wh (upd lo q (min (lo q) (lo p))) go pt met:=by
 have ho:AE ((q,s++p::r)::F)=AE ((p,r)::(q,s)::F):=by simp[AE]
 have hpo:p∈AE ((p,r)::(q,s)::F):=B8;have hqo:q∈AE ((p,r)::(q,s)::F):=CO B8;have hch:=h.chain;have hqp:Way nx q p:=Way.one hch.1;have hlp:=h.low p hpo;have hle:∀x,upd lo q (min (lo q) (lo p)) x<=lo x:=fun x=>by
  by_cases e:x=q
  .subst e;rw[A9];exact zG _ _
  .rw[Al e];exact qB _
 have hnq:∀x∈s++p::r,x≠q:=fun x hx=>by
  have h1:=h.sorted;have h2:AE ((p,r)::(q,s)::F)=AE F++q::(s++p::r):=by simp[AE]
  rw[h2,jJ,vN]at h1;intro e;have:=h1.2.1.1 x hx;rw[e]at this;omega
 have hnq':∀f∈F,f.1≠q/\∀x∈f.2,x≠q:=fun f hf=>by
  have h1:=h.sorted;have h2:AE ((p,r)::(q,s)::F)=AE F++q::(s++p::r):=by simp[AE]
  rw[h2,jJ]at h1;refine⟨fun e=>?_,fun x hx e=>?_⟩
  .have:=h1.2.2 _ (Fw hf).1 q (by simp);rw[e]at this;omega
  .have:=h1.2.2 _ ((Fw hf).2 x hx) q (by simp);rw[e]at this;omega
 refine⟨by rw[ho];exact h.lt,by rw[ho];exact h.sorted,by rw[ho];exact h.pos,by rw[ho];exact h.new,by rw[ho];exact h.old,by rw[ho];exact h.opn,h.told,?_,fun x hx=>?_,fun f hf x hx=>?_,fun x hx j hj=>?_,h.gole,h.few⟩
 .have:=hch.2;cases F with
  |nil=>trivial
  |cons f F=>exact this
 .rw[ho]at hx⊢;obtain⟨h1,h2,z,h3,h4,h5⟩:=h.low x hx;by_cases e:x=q
  .subst e;rw[A9];obtain⟨g1,g2,y,g3,g4,g5⟩:=hlp;by_cases hm:lo x<=lo p
   .rw[jT hm];exact⟨h1,h2,z,h3,h4,h5⟩
   .rw[xX (by omega)];exact⟨g1,by omega,y,g3,g4,hqp.trans g5⟩
  .rw[Al e];exact⟨h1,h2,z,h3,h4,h5⟩
 .rcases qW.1 hf with rfl|hf
  .rw[Al (hnq x hx)];show upd lo q (min (lo q) (lo p)) q<=lo x/\_;rw[A9];rcases qL.1 hx with hx|hx
   .obtain ⟨h1,h2,h3,h4⟩:=h.frame (q,s) (by simp) x hx;exact⟨qI (zG _ _) h1,h2,h3,h4⟩
   .rcases qW.1 hx with rfl|hx
    .exact ⟨xG _ _,by omega,hqp,hg⟩
    .obtain ⟨h1,h2,h3,h4⟩:=h.frame (p,r) (by simp) x hx;exact⟨qI (xG _ _) h1,h2,hqp.trans h3,h4⟩
  .obtain ⟨h1,h2,h3,h4⟩:=h.frame f (by simp[hf]) x hx;obtain⟨h5,h6⟩:=hnq' f hf;rw[Al h5,Al (h6 x hx)];exact⟨h1,h2,h3,h4⟩
 .rw[ho]at hx;rcases h.gone x hx j hj with h2|⟨h2,h3⟩|h2
  .exact .inl h2
  .exact .inr (.inl ⟨by rw[ho];exact h2,qI (hle x) h3⟩)
  .rcases h2 with⟨rfl,h2⟩|h2
   .refine .inr (.inl ⟨by rw[ho,h2];exact hpo,?_⟩);rw[A9,h2];exact qI (xG _ _) hlp.2.1
   .refine .inr (.inr ?_);cases F with
    |nil=>exact h2
    |cons f F=>exact h2
theorem Tj.bottom{p:Nat}{r:List Nat}(h:Tj n nx [(p,r)] wh lo go pt met):lo p=wh p:=by
 obtain⟨_,h2,y,h3,h4,_⟩:=h.low p B8;have h5:y∈p::r:=by simpa[AE]using h3
 rcases qW.1 h5 with rfl|h5
 .omega
 .have:=h.before.2 y h5;omega
theorem Tj.part{p:Nat}{r:List Nat}{F:Frames}(h:Tj n nx ((p,r)::F) wh lo go pt met)(hnx:∀i,i<n->∀k∈nx i,k<n)(hg:go p=(nx p).length)(hl:lo p=wh p) :
  (∀x∈p::r,∀y∈nx x,y∈p::r\/pt y≠-1)/\(∀x∈p::r,Way nx p x/\Way nx x p)/\∀x∈p::r,∀y,Way nx x y->Way nx y x->y∈p::r:=by
 obtain⟨hb1,hb2⟩:=h.before;have hlo:∀x∈p::r,wh p<=lo x/\go x=(nx x).length/\Way nx p x:=fun x hx=>by
  rcases qW.1 hx with rfl|hx
  .exact ⟨by omega,hg,.stay⟩
  .obtain ⟨h1,h2,h3,h4⟩:=h.frame (p,r) (by simp) x hx;exact⟨by have:lo p<=lo x:=h1;omega,h4,h3⟩
 have hin:∀y∈AE ((p,r)::F),wh p<=wh y->y∈p::r:=fun y hy hw=>by
  have h1:y∈AE F++(p::r):=hy;rcases qL.1 h1 with h1|h1
  .have:=hb1 y h1 p (by simp);omega
  .exact h1
 have hco:∀x∈p::r,x∈AE ((p,r)::F):=fun x hx=>qL.2 (.inr hx);have hab:∀x∈p::r,∀y,¬EO ((p,r)::F) x y:=fun x hx y hxy=>by
  cases F with
  |nil=>exact hxy
  |cons f F=>
   obtain⟨q,s⟩:=f;have:x∈AE ((q,s)::F):=by
    rcases hxy with⟨rfl,rfl⟩|hxy
    .exact B8
    .exact hxy.mem.1
   have:=hb1 x this x hx;omega
 have hcl:∀x∈p::r,∀y∈nx x,y∈p::r\/pt y≠-1:=fun x hx y hy=>by
  obtain⟨h1,h2,h3⟩:=hlo x hx;obtain⟨j,hj,rfl⟩:=jB hy;have:=h.gone x (hco x hx) j (by omega);rw[qC,qH hj]at this;rcases this with h4|⟨h4,h5⟩|h4
  .exact .inr h4
  .exact .inl (hin _ h4 (by simp only[vW]at h5;omega))
  .exact absurd h4 (hab x hx _)
 have hback:∀m,∀x∈p::r,wh x<=m->Way nx x p:=fun m=>by
  induction m with
  |zero=>intro x hx hm;have:=h.pos x (hco x hx);omega
  |succ m ih=>
   intro x hx hm;rcases qW.1 hx with rfl|hx2
   .exact .stay
   .obtain ⟨h1,h2,h3,h4⟩:=h.frame (p,r) (by simp) x hx2;obtain⟨g1,g2,y,g3,g4,g5⟩:=h.low x (hco x hx);have hlx:=(hlo x hx).1;exact g5.trans (ih y (hin y g3 (by omega)) (by omega))
 refine⟨hcl,fun x hx=>⟨(hlo x hx).2.2,hback _ x hx (qB _)⟩,fun x hx y hxy hyx=>?_⟩;have hS:∀a,(a<n/\(a∈p::r\/pt a≠-1))->∀k∈nx a,(k<n/\(k∈p::r\/pt k≠-1)):=fun a ⟨ha0,ha⟩ k hk=>by
  refine⟨hnx a ha0 k hk,?_⟩;rcases ha with ha|ha
  .exact hcl a ha k hk
  .exact .inr ((h.told a ha0 ha).2 k hk)
 have hy:=Way.closed (S:=fun a=>a<n/\(a∈p::r\/pt a≠-1)) hS ⟨h.lt x (hco x hx),.inl hx⟩ hxy;rcases hy.2 with h1|h1
 .exact h1
 .have hx2:=Way.closed (S:=fun a=>a<n/\pt a≠-1) (fun a ⟨ha0,ha⟩ k hk=>⟨hnx a ha0 k hk,(h.told a ha0 ha).2 k hk⟩) ⟨hy.1,h1⟩ hyx;exact absurd (h.opn x (hco x hx)) hx2.2
def Bi(p:Nat)(l:List Nat):Nat:=l.foldl min p
theorem MK:∀(l:List Nat) (p:Nat),Bi p l<=p/\(∀x∈l,Bi p l<=x)/\(Bi p l=p\/Bi p l∈l)
 |[],p=>⟨qB _,by simp,.inl rfl⟩
 |a::l,p=>by
  obtain⟨h1,h2,h3⟩:=MK l (min p a);have e:Bi p (a::l)=Bi (min p a) l:=rfl;rw[e];refine⟨qI h1 (zG _ _),fun x hx=>?_,?_⟩
  .rcases qW.1 hx with rfl|hx
   .exact qI h1 (xG _ _)
   .exact h2 x hx
  .rcases h3 with h3|h3
   .by_cases hpa:p<=a
    .rw[h3,jT hpa];exact .inl rfl
    .rw[h3,xX (by omega)];exact .inr (by simp)
   .exact .inr (by simp[h3])
def CI(pt:Nat->Int)(l:List Nat)(m:Nat):Nat->Int:=fun x=>if x∈l then(m:Int)else pt x
theorem Tj.tell{p:Nat}{r:List Nat}{F:Frames}(h:Tj n nx ((p,r)::F) wh lo go pt met)(hnx:∀i,i<n->∀k∈nx i,k<n)(hg:go p=(nx p).length)(hl:lo p=wh p) :
  Tj n nx F wh lo go (CI pt (p::r) (Bi p (p::r))) met:=by
 obtain⟨hcl,hway,honly⟩:=h.part hnx hg hl;obtain⟨hb1,hb2⟩:=h.before;obtain⟨m1,m2,m3⟩:=MK (p::r) p;have hmin:Bi p (p::r)∈p::r:=by
  rcases m3 with m3|m3
  .rw[m3];simp
  .exact m3
 generalize Bi p (p::r)=m at *;have hno:∀x∈AE F,¬x∈p::r:=fun x hx hx2=>by have:=hb1 x hx x hx2;omega
 have hpt:∀x,CI pt (p::r) m x≠-1↔x∈p::r\/pt x≠-1:=fun x=>by
  unfold CI;by_cases hx:x∈p::r
  .rw[aj hx];exact⟨fun _=>.inl hx,fun _=>by omega⟩
  .rw[ak hx];exact⟨.inr,fun hh=>hh.resolve_left hx⟩
 have hptF:∀x,¬x∈p::r->CI pt (p::r) m x=pt x:=fun x hx=>ak hx;refine⟨fun x hx=>h.lt x (CO hx),?_,fun x hx=>h.pos x (CO hx),fun x hx hx0=>?_,fun x hx hx0=>?_,fun x hx=>?_,fun x hx hx0=>?_,?_,fun x hx=>?_,fun f hf x hx=>h.frame f (by simp[hf]) x hx,fun x hx j hj=>?_,h.gole,h.few⟩
 .have h1:=h.sorted;unfold AE at h1;rw[jJ]at h1;exact h1.1
 .obtain ⟨h1,h2,h3⟩:=h.new x hx hx0;exact⟨fun hh=>h1 (CO hh),by rw[hptF x (fun hh=>h1 (qL.2 (.inr hh)))];exact h2,h3⟩
 .rcases h.old x hx hx0 with h1|h1
  .have h2:x∈AE F++(p::r):=h1;rcases qL.1 h2 with h2|h2
   .exact .inl h2
   .exact .inr ((hpt x).2 (.inl h2))
  .exact .inr ((hpt x).2 (.inr h1))
 .rw[hptF x (hno x hx)];exact h.opn x (CO hx)
 .by_cases hxp:x∈p::r
  .refine ⟨⟨m,by unfold CI;rw[aj hxp],(hway x hxp).2.trans (hway m hmin).1,(hway m hmin).2.trans (hway x hxp).1,fun y h1 h2=>m2 y (honly x hxp y h1 h2)⟩,fun y hy=>(hpt y).2 (hcl x hxp y hy)⟩
  .rw[hptF x hxp]at hx0⊢;obtain⟨h1,h2⟩:=h.told x hx hx0;exact⟨h1,fun y hy=>(hpt y).2 (.inr (h2 y hy))⟩
 .have:=h.chain;cases F with
  |nil=>trivial
  |cons f F=>exact this.2
 .obtain ⟨h1,h2,y,h3,h4,h5⟩:=h.low x (CO hx);refine⟨h1,h2,y,?_,h4,h5⟩;have h6:y∈AE F++(p::r):=h3;rcases qL.1 h6 with h6|h6
  .exact h6
  .have:=hb1 x hx y h6;omega
 .rcases h.gone x (CO hx) j hj with h2|⟨h2,h3⟩|h2
  .exact .inl ((hpt _).2 (.inr h2))
  .have h6:(nx x).getD j 0∈AE F++(p::r):=h2;rcases qL.1 h6 with h6|h6
   .exact .inr (.inl ⟨h6,h3⟩)
   .exact .inl ((hpt _).2 (.inl h6))
  .cases F with
   |nil=>exact h2.elim
   |cons f F=>
    obtain⟨q,s⟩:=f;rcases h2 with⟨rfl,h2⟩|h2
    .exact .inl ((hpt _).2 (.inl (by rw[h2];simp)))
    .exact .inr (.inr h2)
theorem Tj.done(h:Tj n nx [] wh lo go pt met)(hw:∀x,x<n->wh x≠0):∀x,x<n->E2 nx x (pt x):=fun x hx=>by
 rcases h.old x hx (hw x hx)with h1|h1
 .simp[AE]at h1
 .exact (h.told x hx h1).1
def left(nx:Nat->List Nat)(go:Nat->Nat):Nat->Nat
 |0=>0
 |n+1=>left nx go n+((nx n).length-go n)
theorem Lx{go go':Nat->Nat}:∀{n:Nat},(∀j,j<n->go j=go' j)->left nx go n=left nx go' n
 |0,_=>rfl
 |n+1,h=>by unfold left;rw[Lx (n:=n) (fun j hj=>h j (by omega)),h n (by omega)]
theorem L0{p:Nat}(hp:go p<(nx p).length):∀{n:Nat},p<n->left nx (upd go p (go p+1)) n+1=left nx go n
 |0,h=>by omega
 |n+1,h=>by
  unfold left;by_cases e:p=n
  .subst e;rw[A9,Lx (go:=upd go p (go p+1)) (go':=go) (fun j hj=>Al (by omega))];omega
  .have:=L0 hp (n:=n) (by omega);rw[Al (show n≠p by omega)];omega
end
abbrev Met:=List (Nat×Int)
def keys(L:Met):List Nat:=L.map Prod.fst
def DM(L:Met)(x:Nat):Int:=((L.find? fun p=>decide (p.1=x)).map Prod.snd).getD 0
open Classical in
noncomputable def Ek(ins:Nat->Bool)(f:Int)(L:Met)(p:Nat):Met:=if p∈keys L\/ins p=E then L else L++[(p,f)]
noncomputable def BE(ins:Nat->Bool)(f:Int)(L:Met)(ps:List Nat)(k:Nat):Met:=(ps.take k).foldl (Ek ins f) L
theorem Gz{ins:Nat->Bool}{f:Int}{L:Met}{ps:List Nat}{k:Nat}(hk:k<ps.length):BE ins f L ps (k+1)=Ek ins f (BE ins f L ps k) (ps.getD k 0):=by
 unfold BE;rw[qT hk,xA,qC,qH hk];rfl
theorem FE{ins:Nat->Bool}{f:Int}{L:Met}{p:Nat}(h:p∈keys L\/ins p=E):Ek ins f L p=L:=aj h
theorem JG{ins:Nat->Bool}{f:Int}{L:Met}{p:Nat}(h1:¬p∈keys L)(h2:ins p=true):Ek ins f L p=L++[(p,f)]:=ak (by simp[h1,h2])
theorem I8(L:Met):(keys L).length=L.length:=by simp[keys]
theorem EC(L:Met)(p:Nat)(f:Int):keys (L++[(p,f)])=keys L++[p]:=by simp[keys]
theorem Q0{L:Met}{p x:Nat}{f:Int}(h:x∈keys L):DM (L++[(p,f)]) x=DM L x:=by
 unfold DM;rw[kB];obtain⟨q,hq,rfl⟩:=vH.1 h;cases hf:L.find? (fun p=>decide (p.1=q.1))with
 |none=>
  have:=List.find?_eq_none.1 hf q hq;simp at this
 |some z=>rfl
theorem Qz{L:Met}{p:Nat}{f:Int}(h:¬p∈keys L):DM (L++[(p,f)]) p=f:=by
 unfold DM;rw[kB];cases hf:L.find? (fun q=>decide (q.1=p))with
 |none=>simp
 |some z=>
  have h1:=List.find?_some hf;have h2:=List.mem_of_find?_eq_some hf;simp at h1;exact absurd (vH.2 ⟨z,h2,h1⟩) h
structure LOk(n:Nat)(ins:Nat->Bool)(nx:Nat->List Nat)(begin:List Nat)(L:Met):Prop where
 nodup:(keys L).Nodup
 lt:∀x∈keys L,x<n
 ins:∀x∈keys L,ins x=true
 src:∀i,i<L.length->((L.getD i (0,0)).2=-1/\(L.getD i (0,0)).1∈begin)\/∃j,j<i/\(L.getD i (0,0)).2=((L.getD j (0,0)).1:Int)/\(L.getD i (0,0)).1∈nx (L.getD j (0,0)).1
theorem LOk.nil(n:Nat)(ins:Nat->Bool)(nx:Nat->List Nat)(begin:List Nat):LOk n ins nx begin []:=⟨by simp[keys],by simp[keys],by simp[keys],fun i hi=>by simp at hi⟩
theorem I0{α:Type}(L:List α)(x d:α){i:Nat}(hi:i<L.length):(L++[x]).getD i d=L.getD i d:=by simp[qC,qX hi]
theorem Q6{α:Type}(L:List α)(x d:α):(L++[x]).getD L.length d=x:=by simp[qC]
theorem LOk.snoc{n:Nat}{ins:Nat->Bool}{nx:Nat->List Nat}{begin:List Nat}{L:Met}{p:Nat}{f:Int}(h:LOk n ins nx begin L)(hp:p<n)(h1:¬p∈keys L)(h2:ins p=true)(hs:(f=-1/\p∈begin)\/∃j,j<L.length/\f=((L.getD j (0,0)).1:Int)/\p∈nx (L.getD j (0,0)).1):LOk n ins nx begin (L++[(p,f)]):=by
 refine⟨?_,?_,?_,fun i hi=>?_⟩
 .rw[EC,List.nodup_append];refine⟨h.nodup,by simp,fun a ha b hb=>?_⟩;simp at hb;subst hb;exact fun e=>h1 (e▸ha)
 .intro x hx;rw[EC]at hx;rcases qL.1 hx with hx|hx
  .exact h.lt x hx
  .simp at hx;subst hx;exact hp
 .intro x hx;rw[EC]at hx;rcases qL.1 hx with hx|hx
  .exact h.ins x hx
  .simp at hx;subst hx;exact h2
 .by_cases hl:i<L.length
  .rw[I0 L _ _ hl];rcases h.src i hl with h3|⟨j,hj,h4⟩
   .exact .inl h3
   .exact .inr ⟨j,hj,by rw[I0 L _ _ (by omega)];exact h4⟩
  .obtain rfl:i=L.length:=by simp at hi;omega
   rw[Q6];rcases hs with h3|⟨j,hj,h4⟩
   .exact .inl h3
   .exact .inr ⟨j,hj,by rw[I0 L _ _ hj];exact h4⟩
def CV(L L':Met):Prop:=∃m,L'=L++m
theorem CV.refl(L:Met):CV L L:=⟨[],by simp⟩
theorem CV.trans{A B C:Met}(h:CV A B)(h':CV B C):CV A C:=by
 obtain⟨m,rfl⟩:=h;obtain⟨k,rfl⟩:=h';exact⟨m++k,by simp⟩
theorem CV.keys{L L':Met}(h:CV L L'){x:Nat}(hx:x∈keys L):x∈keys L':=by
 obtain⟨m,rfl⟩:=h;simp only[Go.Proofs.YtehfhemidmfffaaGreatDoor.keys,vJ,qL];exact .inl hx
theorem CV.getD{L L':Met}(h:CV L L'){i:Nat}(hi:i<L.length):L'.getD i (0,0)=L.getD i (0,0):=by
 obtain⟨m,rfl⟩:=h;simp[qC,qX hi]
theorem CV.length{L L':Met}(h:CV L L'):L.length<=L'.length:=by
 obtain⟨m,rfl⟩:=h;simp
theorem JH(ins:Nat->Bool)(f:Int)(L:Met)(ps:List Nat)(k:Nat):CV L (BE ins f L ps k):=by
 induction k with
 |zero=>exact CV.refl _
 |succ k ih=>
  by_cases hk:k<ps.length
  .rw[Gz hk];refine ih.trans ?_;by_cases h:ps.getD k 0∈keys (BE ins f L ps k)\/ins (ps.getD k 0)=E
   .rw[FE h];exact CV.refl _
   .unfold Ek;rw[ak h];exact⟨_,rfl⟩
  .unfold BE at *
   rw[List.take_of_length_le (by omega)]at *
   exact ih
theorem MF{ins:Nat->Bool}{f:Int}{L:Met}{ps:List Nat}{k:Nat}(hk:k<=ps.length):∀j,j<k->ins (ps.getD j 0)=true->ps.getD j 0∈keys (BE ins f L ps k):=by
 induction k with
 |zero=>intro j hj;omega
 |succ k ih=>
  intro j hj hi;rw[Gz (by omega)];by_cases hjk:j<k
  .have:=ih (by omega) j hjk hi;by_cases h:ps.getD k 0∈keys (BE ins f L ps k)\/ins (ps.getD k 0)=E
   .rw[FE h];exact this
   .unfold Ek;rw[ak h,EC];exact qL.2 (.inl this)
  .obtain rfl:j=k:=by omega
   by_cases h:ps.getD j 0∈keys (BE ins f L ps j)
   .rw[FE (.inl h)];exact h
   .rw[JG h hi,EC];simp
theorem MG{n:Nat}{ins:Nat->Bool}{nx:Nat->List Nat}{begin:List Nat}{L:Met}{f:Int}{ps:List Nat}(h:LOk n ins nx begin L)(hp:∀x∈ps,x<n)(hs:(f=-1/\∀x∈ps,x∈begin)\/∃j,j<L.length/\f=((L.getD j (0,0)).1:Int)/\∀x∈ps,x∈nx (L.getD j (0,0)).1)(k:Nat)(hk:k<=ps.length):LOk n ins nx begin (BE ins f L ps k):=by
 induction k with
 |zero=>exact h
 |succ k ih=>
  rw[Gz (by omega)];have ih:=ih (by omega);have hmem:ps.getD k 0∈ps:=by rw[qC,qH (by omega)];exact qR _
  by_cases h1:ps.getD k 0∈keys (BE ins f L ps k)\/ins (ps.getD k 0)=E
  .rw[FE h1];exact ih
  .have h2:ins (ps.getD k 0)=true:=by
    cases hx:ins (ps.getD k 0)with
    |true=>rfl
    |false=>exact absurd (.inr hx) h1
   have h3:¬ps.getD k 0∈keys (BE ins f L ps k):=fun x=>h1 (.inl x);rw[JG h3 h2];refine ih.snoc (hp _ hmem) h3 h2 ?_;rcases hs with⟨h4,h5⟩|⟨j,hj,h4,h5⟩
   .exact .inl ⟨h4,h5 _ hmem⟩
   .have hg:=JH ins f L ps k;exact .inr ⟨j,qE hj hg.length,by rw[hg.getD hj];exact⟨h4,h5 _ hmem⟩⟩
theorem JP:∀{n:Nat} {l:List Nat},l.Nodup->(∀x∈l,x<n)->l.length<=n
 |0,l,_,h2=>by
  cases l with
  |nil=>simp
  |cons x l=>have:=h2 x (by simp);omega
 |n+1,l,h1,h2=>by
  have h3:=JP (n:=n) (l:=l.erase n) (h1.erase n) (fun x hx=>by
   have h4:=h2 x (List.mem_of_mem_erase hx);have h5:x≠n:=by
    rintro rfl;exact(List.Nodup.not_mem_erase h1) hx
   omega)
  have:=List.length_erase (l:=l) (a:=n);split at this<;>omega
theorem LOk.length{n:Nat}{ins:Nat->Bool}{nx:Nat->List Nat}{begin:List Nat}{L:Met}(h:LOk n ins nx begin L):L.length<=n:=by
 have:=JP h.nodup h.lt;rwa[I8]at this
theorem Gu{L:Met}{i:Nat}(hi:i<L.length):(L.getD i (0,0)).1∈keys L:=by
 rw[qC,qH hi];exact vH.2 ⟨_,qR _,rfl⟩
theorem I7{L:Met}{x:Nat}(hx:x∈keys L):∃i,i<L.length/\(L.getD i (0,0)).1=x:=by
 obtain⟨q,hq,rfl⟩:=vH.1 hx;obtain⟨i,hi,rfl⟩:=jB hq;exact⟨i,hi,by rw[qC,qH hi];rfl⟩
structure Through(ins want:Nat->Bool)(nx:Nat->List Nat)(begin:List Nat)(L:Met)(i:Nat):Prop where
 first:∀x∈begin,ins x=true->x∈keys L
 next:∀j,j<i->∀x∈nx (L.getD j (0,0)).1,ins x=true->x∈keys L
 none:∀j,j<i->want (L.getD j (0,0)).1=false
theorem Through.step{ins want:Nat->Bool}{nx:Nat->List Nat}{begin:List Nat}{L:Met}{i:Nat}(h:Through ins want nx begin L i)(hi:i<L.length)(hw:want (L.getD i (0,0)).1=E){f:Int}:Through ins want nx begin (BE ins f L (nx (L.getD i (0,0)).1) (nx (L.getD i (0,0)).1).length) (i+1):=by
 have hg:=JH ins f L (nx (L.getD i (0,0)).1) (nx (L.getD i (0,0)).1).length;refine⟨fun x hx hy=>hg.keys (h.first x hx hy),fun j hj x hx hy=>?_,fun j hj=>?_⟩
 .rw[hg.getD (by omega)]at hx;by_cases hji:j<i
  .exact hg.keys (h.next j hji x hx hy)
  .obtain rfl:j=i:=by omega
   obtain⟨k,hk,rfl⟩:=jB hx;have:=MF (ins:=ins) (f:=f) (L:=L) (qB (nx (L.getD j (0,0)).1).length) k hk;rw[qC,qH hk]at this;exact this hy
 .rw[hg.getD (by omega)];by_cases hji:j<i
  .exact h.none j hji
  .obtain rfl:j=i:=by omega
   exact hw
theorem Through.all{n:Nat}{ins want:Nat->Bool}{nx:Nat->List Nat}{begin:List Nat}{L:Met}(h:Through ins want nx begin L L.length)(_hl:LOk n ins nx begin L):(∀x∈begin,ins x=true->x∈keys L)/\(∀x∈keys L,∀y∈nx x,ins y=true->y∈keys L)/\∀x∈keys L,want x=false:=by
 refine⟨h.first,fun x hx y hy hi=>?_,fun x hx=>?_⟩
 .obtain ⟨i,hi',rfl⟩:=I7 hx;exact h.next i hi' y hy hi
 .obtain ⟨i,hi',rfl⟩:=I7 hx;exact h.none i hi'
theorem IV(so no bo:Option Addr)(sn sc nn nc bn bc:Nat)(g:Gr)(w:O)(h0:0<=g.many)(h6:g.many<=6) :
  G qA 72 #[.agg #[Y so sn sc,.int V g.init,Y no nn nc,Y bo bn bc,.int V g.many]] w fun e w'=>e=I (.int V (top g))/\J w.heap.size w w':=by
 have hA:∀o,J w.heap.size w (w.alloc o):=fun o=>(qD _ _).alloc (qB _) o;have h7:g.many=0\/g.many=1\/g.many=2\/g.many=3\/g.many=4\/g.many=5\/g.many=6:=by omega
 unfold top;generalize g.init=gi at *
 rcases h7 with h|h|h|h|h|h|h;all_goals
  rw[h];clear h h0 h6;go_enter Tryz.func72,Tryz.ntmps72;go_wp2;go_ret;exact⟨rfl,hA _⟩
theorem Uy(so no bo:Option Addr)(sc nc bc:Nat)(g:Gr)(w:O)(hh:¬GHead g)(hz1:g.spots.length<=140737488355328)(hz2:g.next.length<=140737488355328)(_hz3:g.sets.length<=140737488355328) :
  G qA 70 #[.agg #[.slice so g.spots.length sc,.int V g.init,.slice no g.next.length nc,.slice bo g.sets.length bc,.int V g.many]] w fun e w'=>e=I (.int V (CM g))/\J w.heap.size w w':=by
 have hA:∀o,J w.heap.size w (w.alloc o):=fun o=>(qD _ _).alloc (qB _) o;rw[Q3 hh];have h7:(20000:Int)<(g.spots.length:Int)\/(¬(20000:Int)<(g.spots.length:Int)/\¬(g.next.length:Int)=(g.spots.length:Int))\/(¬(20000:Int)<(g.spots.length:Int)/\g.next.length=g.spots.length/\¬(g.sets.length:Int)=(g.spots.length:Int))\/(¬(20000:Int)<(g.spots.length:Int)/\g.next.length=g.spots.length/\g.sets.length=g.spots.length/\(g.init<0\/(¬g.init<0/\(g.spots.length:Int)<g.init)\/(¬g.init<0/\¬(g.spots.length:Int)<g.init/\g.many<0)\/(¬g.init<0/\¬(g.spots.length:Int)<g.init/\¬g.many<0/\6<g.many))):=by
  refine Classical.byContradiction fun hc=>hh ⟨?_,?_,?_,?_,?_,?_,?_⟩<;>omega
 generalize g.spots.length=sn at *;generalize g.next.length=nn at *;generalize g.sets.length=bn at *;generalize g.init=gi at *;generalize g.many=gm at *;clear hh
 rcases h7 with h1|⟨h1,h2⟩|⟨h1,h2,h3⟩|⟨h1,h2,h3,h4|⟨h4,h5⟩|⟨h4,h5,h6⟩|⟨h4,h5,h6,h7⟩⟩
 .go_enter gy,gz;go_wp2;go_ret;exact⟨rfl,hA _⟩
 .have h2':¬(nn:Int)=(sn:Int):=h2;go_enter gy,gz;go_wp2;go_ret;exact⟨rfl,hA _⟩
 .subst h2;go_enter gy,gz;go_wp2;go_ret;exact⟨rfl,hA _⟩
 all_goals
  subst h2 h3;go_enter gy,gz;go_wp2;go_ret;exact⟨rfl,hA _⟩
theorem C9{a b:O}(h:J a.drew.heap.size a.drew b):J a.heap.size a b:=⟨h.os,h.tape,h.output,h.size,h.block⟩
theorem Dh.row{w:O}{no:Option Addr}{nn nc:Nat}{ls:List (List Int)}(h:Dh w (Y no nn nc) ls){i:Nat}(hi:i<ls.length):∃b off,no=X ⟨b,off,Z⟩/\b<w.heap.size/\∃uo uc,w.cell? ⟨b,off+i,Z⟩=X (.slice uo (ls.getD i []).length uc)/\IntsV w (.slice uo (ls.getD i []).length uc) (ls.getD i []):=by
 obtain⟨b,off,e,hlt,u,hc,hu⟩:=h.at hi;have hu':=hu;obtain⟨uo,uc,rfl,_⟩:=hu;exact⟨b,off,e,hlt,uo,uc,hc,hu'⟩
theorem IntsV.num{w:O}{bo:Option Addr}{bn bc:Nat}{l:List Int}(h:IntsV w (Y bo bn bc) l){i:Nat}(hi:i<l.length):∃b off,bo=X ⟨b,off,Z⟩/\b<w.heap.size/\w.cell? ⟨b,off+i,Z⟩=X (.int V (l.getD i 0)):=by
 obtain⟨ao,cap,hv,h⟩:=h;injection hv with e1 e2 e3;subst e1;obtain⟨b,off,e,hlt,hat⟩:=h (by rintro rfl;simp at hi);exact⟨b,off,e,hlt,hat i hi⟩
theorem NW (so no bo:Option Addr) (sc nc bc:Nat) (g:Gr) (w:O) (hz1:g.spots.length <= 140737488355328) (hz2:g.next.length <= 140737488355328) (hz3:g.sets.length <= 140737488355328) (hzn:∀ i,i < g.next.length->(g.next.getD i []).length <= 140737488355328)
    (hV:GraphV w (.slice so g.spots.length sc) (.slice no g.next.length nc) (.slice bo g.sets.length bc) g) :
    G qA 70 #[.agg #[.slice so g.spots.length sc,.int V g.init,.slice no g.next.length nc,.slice bo g.sets.length bc,.int V g.many]] w fun e w'=>e=I (.int V (CM g))/\J w.heap.size w w':=by
  by_cases hh0:¬GHead g
  . exact Uy so no bo sc nc bc g w hh0 hz1 hz2 hz3
  . have hh:=Classical.not_not.1 hh0
    clear hh0;obtain⟨W0,hW0⟩:∃W0,W0=w.alloc (ZZ #[.slice so g.spots.length sc,.int V g.init,.slice no g.next.length nc,.slice bo g.sets.length bc,.int V g.many] 45):=⟨_,rfl⟩;have hA:J w.heap.size w W0:=by rw[hW0];exact ai
    have HSt:U (∀w1,J W0.heap.size W0 w1->w1.cell? ⟨w.heap.size,0,Z⟩=X (.slice so g.spots.length sc)/\w1.cell? ⟨w.heap.size,1,Z⟩=X (.int V g.init)/\w1.cell? ⟨w.heap.size,2,Z⟩=X (.slice no g.next.length nc)/\w1.cell? ⟨w.heap.size,3,Z⟩=X (.slice bo g.sets.length bc)/\w1.cell? ⟨w.heap.size,4,Z⟩=X (.int V g.many)):=fun w1 hb=>by
      have hz:w.heap.size<W0.heap.size:=by rw[hW0];simp
      refine⟨(hb.cell (p:=⟨w.heap.size,0,Z⟩) hz).trans ?_,(hb.cell (p:=⟨w.heap.size,1,Z⟩) hz).trans ?_,(hb.cell (p:=⟨w.heap.size,2,Z⟩) hz).trans ?_,(hb.cell (p:=⟨w.heap.size,3,Z⟩) hz).trans ?_,(hb.cell (p:=⟨w.heap.size,4,Z⟩) hz).trans ?_⟩<;>(rw[hW0];simp[go_sem])
    have HRow:U (∀i,i<g.spots.length->¬Dx g i->CM g=9):=fun i hi h=>Q4 hi h;have HOk:U ((∀i,i<g.spots.length->Dx g i)->CM g=0):=Ix hh;have HV:U (∀w1,J w.heap.size w w1->GraphV w1 (.slice so g.spots.length sc) (.slice no g.next.length nc) (.slice bo g.sets.length bc) g):=fun w1 hb=>hV.below hb;have HAll:U (∀w1,G qA 72 #[.agg #[.slice so g.spots.length sc,.int V g.init,.slice no g.next.length nc,.slice bo g.sets.length bc,.int V g.many]] w1 fun e w'=>e=I (.int V (top g))/\J w1.heap.size w1 w'):=fun w1=>IV so no bo _ sc _ nc _ bc g w1 hh.many0 hh.many6;have h1:¬(20000:Int)<(g.spots.length:Int):=by have:=hh.n;omega
    have h2:=hh.next;have h3:=hh.sets;have h4:¬g.init<0:=by have:=hh.init0;omega
    have h5:¬(g.spots.length:Int)<g.init:=by have:=hh.init1;omega
    have h6:¬g.many<0:=by have:=hh.many0;omega
    have h7:¬6<g.many:=by have:=hh.many6;omega
    have hn20:g.spots.length<=20000:=hh.n;have HN:U (g.next.length=g.spots.length):=h2;have HS:U (g.sets.length=g.spots.length):=h3;rw[h2,h3]at HSt HV HAll hW0⊢;have HZ:U (∀i,i<g.spots.length->(g.next.getD i []).length<=140737488355328):=fun i hi=>hzn i (by rw[h2];exact hi);have HTop:U (0<=top g/\top g<=63):=by
      have h8:g.many.toNat<=6:=by omega
      unfold top;have:g.many.toNat=0\/g.many.toNat=1\/g.many.toNat=2\/g.many.toNat=3\/g.many.toNat=4\/g.many.toNat=5\/g.many.toNat=6:=by omega
      rcases this with h|h|h|h|h|h|h<;>rw[h]<;>exact⟨by decide,by decide⟩
    have HGS:U (∀i,Ez g i↔(0<=g.sets.getD i 0/\g.sets.getD i 0<=top g)):=fun i=>Iff.rfl;generalize g.init=gi at *;generalize g.many=gm at *;obtain⟨sn,hsn⟩:∃sn,sn=g.spots.length:=⟨_,rfl⟩
    have HSN:U (sn=g.spots.length):=hsn;rw[<-hsn]at HSt HV HAll hW0 HN HS HZ HRow HOk h1 h5 hn20⊢;clear hh h2 h3 hV hz1 hz2 hz3 hzn hsn;have HW0:U (W0=w.alloc (ZZ #[Y so sn sc,.int V gi,Y no sn nc,Y bo sn bc,.int V gm] 45)):=hW0;obtain⟨top,htop⟩:∃t,t=top g:=⟨_,rfl⟩;rw[<-htop]at HAll HTop HGS;clear htop;obtain⟨k0,k1,k2,k3,k4⟩:=HSt.out W0 (qD _ _);generalize CM g=gc at *
    go_enter gy,gz;go_wp2;rw[<-hW0];clear hW0 k0 k1 k2 k3 k4 h1 h4 h5 h6 h7;go_loopw [46] (fun i wr=>∃k:Nat,k<=sn/\i=.int V k/\U (∀j,j<k->Dx g j)/\U (J W0.heap.size W0 wr)) (fun i _=>sn-(intOf i).toNat)
    case atStart=>exact⟨0,qJ _,rfl,fun j hj=>absurd hj (yJ _),qD _ _⟩
    case round=>
      obtain⟨k,hk,rfl,HRs,HB⟩:=hrel;have hbw:=ae hA HB.out;by_cases hlt:k<sn
      . have hVr:=HV.out wr hbw
        obtain⟨bb,boff,rfl,hbb,hcb⟩:=hVr.sets.num (i:=k) (by rw[HS.out];exact hlt);obtain⟨nb,noff,rfl,hnb,uo,uc,hcn,hui⟩:=hVr.next.row (i:=k) (by rw[HN.out];exact hlt);have hzk:=HZ.out k hlt;have hgs:=HGS.out k;have hal:=HAll.out wr.drew;have hS:∀w',J wr.heap.size wr w'->w'.cell? ⟨w.heap.size,0,Z⟩=X (Y so sn sc)/\w'.cell? ⟨w.heap.size,1,Z⟩=X (.int V gi)/\w'.cell? ⟨w.heap.size,2,Z⟩=X (Y (X ⟨nb,noff,Z⟩) sn nc)/\w'.cell? ⟨w.heap.size,3,Z⟩=X (Y (X ⟨bb,boff,Z⟩) sn bc)/\w'.cell? ⟨w.heap.size,4,Z⟩=X (.int V gm)/\w'.cell? ⟨bb,boff+k,Z⟩=X (.int V (g.sets.getD k 0))/\w'.cell? ⟨nb,noff+k,Z⟩=X (.slice uo (g.next.getD k []).length uc):=fun w' hb=>by
          obtain⟨a0,a1,a2,a3,a4⟩:=HSt.out w' (ae HB.out hb);exact⟨a0,a1,a2,a3,a4,(hb.cell (p:=⟨bb,boff+k,Z⟩) hbb).trans hcb,(hb.cell (p:=⟨nb,noff+k,Z⟩) hnb).trans hcn⟩
        generalize g.sets.getD k 0=x at *;have HRn:U (¬Ez g k->gc=9):=fun h=>HRow.out k (by rw[<-HSN.out]at *;exact hlt) fun h'=>h h'.1
        by_cases hlo:x<0
        . have HG:U (gc=9):=HRn.out (by rw[hgs];omega)
          obtain⟨a0,a1,a2,a3,a4,a5,a6⟩:=hS wr (qD _ _);clear hVr hgs hui HRn hal HRow HOk;go_wp2_with fail
          go_region
          go_wp2_with fail
          go_ret;rw[HG.out];exact⟨rfl,by first|exact hbw.drew|exact hbw⟩
        . by_cases hhi:top<x
          . have HG:U (gc=9):=HRn.out (by rw[hgs];omega)
            clear hVr hgs hui HRn HRow HOk;go_wp2_with fail
            have t0:decide (x<0)=false:=decide_eq_false (by omega);have t1:decide (top<x)=true:=decide_eq_true hhi;go_region_held3 (fun w'=>w'.cell? ⟨w.heap.size,0,Z⟩=X (Y so sn sc)/\w'.cell? ⟨w.heap.size,1,Z⟩=X (.int V gi)/\w'.cell? ⟨w.heap.size,2,Z⟩=X (Y (X ⟨nb,noff,Z⟩) sn nc)/\w'.cell? ⟨w.heap.size,3,Z⟩=X (Y (X ⟨bb,boff,Z⟩) sn bc)/\w'.cell? ⟨w.heap.size,4,Z⟩=X (.int V gm)/\w'.cell? ⟨bb,boff+k,Z⟩=X (.int V x)/\w'.cell? ⟨nb,noff+k,Z⟩=X (.slice uo (g.next.getD k []).length uc)) (exact hS _ (by first|exact(qD _ _).drew|exact qD _ _|exact C9 hb4)) ((go_at_call 72;refine hal.mono ?_;rintro e w4 ⟨rfl,hb4⟩))
            go_wp2_with fail
            go_ret;rw[HG.out];exact⟨rfl,hbw.trans ((C9 hb4).mono hbw.size)⟩
          . have HGk:U (Ez g k):=hgs.2 ⟨by omega,by omega⟩
            have HRk:U (∀j,j<(g.next.getD k []).length->¬Dw g k j->gc=9):=fun j hj h=>HRow.out k (by rw[<-HSN.out]at *;exact hlt) fun h'=>h (h'.2 j hj);have HGN:U (∀j,Dw g k j↔(0<=(g.next.getD k []).getD j 0/\(g.next.getD k []).getD j 0<sn)):=fun j=>by unfold Dw;rw[HSN.out]
            have HAdd:U ((∀j,j<(g.next.getD k []).length->Dw g k j)->∀j,j<k+1->Dx g j):=fun h j hj=>by
              by_cases hjk:j<k
              . exact HRs.out j hjk
              . obtain rfl:j=k:=by omega
                exact⟨HGk.out,h⟩
            have HUI:U (IntsV wr (.slice uo (g.next.getD k []).length uc) (g.next.getD k [])):=hui;obtain⟨ln,hln⟩:∃ln,ln=(g.next.getD k []).length:=⟨_,rfl⟩;have HLN:U (ln=(g.next.getD k []).length):=hln;rw[<-hln]at hS HUI hzk HRk HAdd;clear hVr hgs hui HRn HRow HOk hcn hln;go_wp2_with fail
            have t0:decide (x<0)=false:=decide_eq_false (by omega);have t1:decide (top<x)=false:=decide_eq_false (by omega);go_region_held3 (fun w'=>w'.cell? ⟨w.heap.size,0,Z⟩=X (Y so sn sc)/\w'.cell? ⟨w.heap.size,1,Z⟩=X (.int V gi)/\w'.cell? ⟨w.heap.size,2,Z⟩=X (Y (X ⟨nb,noff,Z⟩) sn nc)/\w'.cell? ⟨w.heap.size,3,Z⟩=X (Y (X ⟨bb,boff,Z⟩) sn bc)/\w'.cell? ⟨w.heap.size,4,Z⟩=X (.int V gm)/\w'.cell? ⟨bb,boff+k,Z⟩=X (.int V x)/\w'.cell? ⟨nb,noff+k,Z⟩=X (Y uo ln uc)) (exact hS _ (by first|exact(qD _ _).drew|exact qD _ _|exact C9 hb4)) ((go_at_call 72;refine hal.mono ?_;rintro e w4 ⟨rfl,hb4⟩))
            have hb4':=C9 hb4;obtain⟨a0,a1,a2,a3,a4,a5,a6⟩:=hS w4 hb4';have HI4:U (IntsV w4 (Y uo ln uc) (g.next.getD k [])):=HUI.out.below hb4';have HB4:U (J W0.heap.size W0 w4):=ae HB.out hb4';have hbw4:=ae hbw hb4';clear t0 t1 hS hal hb4 HUI;go_wp2_with fail
            go_loop [71] (fun i=>∃q:Nat,q<=ln/\i=.int V q/\U (∀j,j<q->Dw g k j)) (fun i=>ln-(intOf i).toNat)
            case atStart=>exact⟨0,qJ _,rfl,fun j hj=>absurd hj (yJ _)⟩
            case round=>
              obtain⟨q,hq,rfl,HQ⟩:=hrel;by_cases hlq:q<ln
              . obtain ⟨ub,uoff,rfl,hub,hcu⟩:=HI4.out.num (i:=q) (by rw [<- HLN.out];exact hlq)
                have hgn:=HGN.out q;have hrk:=HRk.out q hlq;generalize(g.next.getD k []).getD q 0=y at *
                by_cases hy0:y<0
                . have HG:U (gc=9):=hrk (by rw[hgn];omega)
                  clear hgn hrk;go_wp2_with fail
                  go_ret;rw[HG.out];exact⟨rfl,hbw4⟩
                . by_cases hy1:(sn:Int)<=y
                  . have HG:U (gc=9):=hrk (by rw[hgn];omega)
                    clear hgn hrk;go_wp2_with fail
                    go_ret;rw[HG.out];exact⟨rfl,hbw4⟩
                  . have HQ':U (∀j,j<q+1->Dw g k j):=fun j hj=>by
                      by_cases hjk:j<q
                      . exact HQ.out j hjk
                      . obtain rfl:j=q:=by omega
                        exact hgn.2 ⟨by omega,by omega⟩
                    clear hgn hrk HQ;go_wp2_with fail
                    go_round
                    case rel=>exact⟨q+1,hlq,by go_num,HQ'⟩
                    case measure=>simp[intOf];omega
              . obtain rfl:q=ln:=by omega
                have HN':U (∀j,j<k+1->Dx g j):=HAdd.out HQ.out;clear HQ;go_wp2_with fail
                go_roundw
                case rel=>exact⟨k+1,hlt,by go_num,HN',HB4⟩
                case measure=>simp[intOf];omega
      . obtain rfl:k=sn:=by omega
        have HW:U (gc=0):=HOk.out HRs.out;go_wp2_with fail
        go_ret;rw[HW.out];exact⟨rfl,hbw⟩
open Go.ChangeShapes Go.WideShapes Go.ChangeAt Go.RowKit Go.Deep Go.Maps
theorem FA:Keyed qA 3:=int_keyed bI
theorem I6(x:Nat)(h:x<=20000):keyOf qA 3 (.int V (x:Int))=X (.int V (x:Int)):=keyOf_int_mk bI (WalkArith.wf_i64 (by omega))
theorem F9(w:O):(zeroValue 3).run qA w=.ok (.int V 0) w:=by kernel_rfl
def EQ(D:DataW Unit)(L:Met):Prop:=∀x:Nat,Maps.has D (.int V (x:Int))=decide (x∈keys L)/\(x∈keys L->D.atKey (.int V (x:Int)) (.lit (.int V 0))=.lit (.int V (DM L x)))
def Dv(w:O)(b:Nat)(L:Met):Prop:=∃D:DataW Unit,w.ownsMap qA 3 (plainElem qA 3) b L.length D/\EQ D L
theorem EQ.put{D:DataW Unit}{L:Met}{p:Nat}{f:Int}(h:EQ D L)(hD:IsMap D)(hp:¬p∈keys L):EQ (D.put (.int V (p:Int)) (.lit (.int V f))) (L++[(p,f)]):=by
 intro x;by_cases hxp:x=p
 .subst hxp;rw[has_put_same hD (by simp[WideAt.IsKeyLit]),atKey_put_same hD (by simp[WideAt.IsKeyLit]),Qz hp,EC];simp
 .have hne:(Lit.int .i64 (x:Int))≠.int V (p:Int):=by simp;omega
  rw[has_put_other hne,atKey_put_other hne,(h x).1,EC];refine⟨by simp[hxp],fun hx=>?_⟩;have hx':x∈keys L:=by simpa[hxp]using hx
  rw[(h x).2 hx',Q0 hx']
theorem Dv.kept{w w':O}{b:Nat}{L:Met}{row:Option Nat}(h:Dv w b L)(hg:w.grownBy w' row)(hne:X b≠row):Dv w' b L:=by
 obtain⟨D,h1,h2⟩:=h;exact⟨D,h1.kept hg hne,h2⟩
theorem Eg{w w':O}(hb:J w.heap.size w w'):w.grownBy w' none:=⟨hb.os,hb.tape,hb.output,hb.size,fun i hi _=>hb.block i hi⟩
def AK(l:List Nat):List Value:=l.map fun x:Nat=>.int V (x:Int)
structure LookSt(w0 w:O)(s:Nat)(nv F:T)(L:Met)(v:T):Prop where
 below:J s w0 w
 size:s+5<=w.heap.size
 gn:w.cell? ⟨s,2,Z⟩=X nv
 fi:w.cell? ⟨s+1,0,Z⟩=X F
 cm:w.cell? ⟨s+3,0,Z⟩=X (.map (X (s+2)))
 mp:Dv w (s+2) L
 ln:w.cell? ⟨s+4,0,Z⟩=X v
 fz:w.frozen? ⟨s+4,0,Z⟩=E
 ow:w.ownsRow (s+5) 3 1 v L.length (AK (keys L))
theorem LookSt.later{w0 w w':O}{s:Nat}{nv F:T}{L:Met}{v:T}(h:LookSt w0 w s nv F L v)(hb:J w.heap.size w w'):LookSt w0 w' s nv F L v:=by
 have hs:=h.size;exact⟨h.below.trans (hb.mono (by omega)),qI hs hb.size,(hb.cell (p:=⟨s,2,Z⟩) (by show s<_;omega)).trans h.gn,(hb.cell (p:=⟨s+1,0,Z⟩) (by show s+1<_;omega)).trans h.fi,(hb.cell (p:=⟨s+3,0,Z⟩) (by show s+3<_;omega)).trans h.cm,h.mp.kept (Eg hb) (by simp),(hb.cell (p:=⟨s+4,0,Z⟩) (by show s+4<_;omega)).trans h.ln,(hb.frozen (p:=⟨s+4,0,Z⟩) (by show s+4<_;omega)).trans h.fz,Ap h.ow hb (qB _)⟩
theorem LookSt.put{w0 w w1 w2:O}{s:Nat}{nv F:T}{L:Met}{v v':T}{D:DataW Unit}{p:Nat}{f:Int}{o:Obj}(h:LookSt w0 w s nv F L v)(hp:¬p∈keys L)(hD:EQ D L)(hI:IsMap D)
  (hm:w1.ownsMap qA 3 (plainElem qA 3) (s+2) (L.length+1) (D.put (.int V (p:Int)) (.lit (.int V f)))) (hg1:w.grownBy w1 (X (s+2))) (hg2:(w1.alloc o).grownBy w2 v.ownBlock) (ho:w2.ownsRow (s+5) 3 1 v' (L.length+1) (AK (keys L)++[.int V (p:Int)])) :
  LookSt w0 (w2.setCell ⟨s+4,0,Z⟩ v') s nv F (L++[(p,f)]) v':=by
 have hs:=h.size;have hs1:=hg1.size;have hlt:=h.ow.lt;have hblk:∀i,i<s+5->i≠s+2->w2.heap[i]? = w.heap[i]?:=fun i hi hne=>by
  have e1:w2.heap[i]? = (w1.alloc o).heap[i]?:=hg2.block i (by simp;omega) (fun e=>by have:=(hlt i e.symm).1;omega);have e2:(w1.alloc o).heap[i]? = w1.heap[i]?:=((qD w1.heap.size w1).alloc (qB _) o).block i (by omega);exact e1.trans (e2.trans (hg1.block i (by omega) (fun e=>hne (Option.some.inj e))))
 have hsz2:s+5<=w2.heap.size:=by have:=hg2.size;simp at this;omega
 have hc:∀i j,i<s+5->i≠s+2->w2.cell? ⟨i,j,Z⟩=w.cell? ⟨i,j,Z⟩:=fun i j hi hne=>eJ (a:=⟨i,j,Z⟩) (hblk i hi hne);have hfar:∀i j,i≠s+4->(w2.setCell ⟨s+4,0,Z⟩ v').cell? ⟨i,j,Z⟩=w2.cell? ⟨i,j,Z⟩:=fun i j hne=>gA _ _ _ _ (fun e=>hne e.symm);have hm2:w2.ownsMap qA 3 (plainElem qA 3) (s+2) (L.length+1) (D.put (.int V (p:Int)) (.lit (.int V f))):=by
  have:=hm.kept (Eg ((qD w1.heap.size w1).alloc (qB _) o)) (by simp);exact this.kept hg2 (fun e=>by have:=(hlt (s+2) e.symm).1;omega)
 refine⟨?_,by simpa using hsz2,(hfar s 2 (by omega)).trans ((hc s 2 (by omega) (by omega)).trans h.gn),(hfar (s+1) 0 (by omega)).trans ((hc (s+1) 0 (by omega) (by omega)).trans h.fi),(hfar (s+3) 0 (by omega)).trans ((hc (s+3) 0 (by omega) (by omega)).trans h.cm),⟨_,?_,hD.put hI hp⟩,?_,?_,?_⟩
 .refine Below.setCell ?_ (by show s<=s+4;omega) _;exact h.below.trans ⟨hg2.os.trans ((show(w1.alloc o).os=w1.os from rfl).trans hg1.os),hg2.tape.trans ((show(w1.alloc o).tape=w1.tape from rfl).trans hg1.tape),hg2.output.trans ((show(w1.alloc o).output=w1.output from rfl).trans hg1.output),by have:=hg2.size;simp at this;omega,fun i hi=>hblk i (by omega) (by omega)⟩
 .rw[qF];exact hm2.setCell (by simp) _
 .exact bO _ _ _ (u:=v) ((hc (s+4) 0 (by omega) (by omega)).trans h.ln)
 .rw[bL];exact(fO (a:=⟨s+4,0,Z⟩) (hblk (s+4) (by omega) (by omega))).trans h.fz
 .rw[qF,EC,AK,vJ];exact Tn ho (by show s+4<_;omega) _
def FnB(w0:O)(s n:Nat)(F:T)(ins:Nat->Bool):Prop:=∃fn caps,F=.func (.func fn) #[] caps/\(∀args w,(callFunc fn args).run qA w=.ok (.enter fn args) w)/\∀w',J s w0 w'->∀p:Nat,p<n->G qA fn (#[.int V (p:Int)]++caps) w' fun e w2=>e=I (.bool (ins p))/\J w'.heap.size w' w2
def Ay(w:O)(v:T)(l:List Nat):Prop:=∃ao cap,v=.slice ao l.length cap/\(l≠[]->∃b off,ao=X ⟨b,off,Z⟩/\b<w.heap.size/\∀i,i<l.length->w.cell? ⟨b,off+i,Z⟩=X (.int V (l.getD i 0:Int)))
theorem Ay.below{w w':O}{v:T}{l:List Nat}(h:Ay w v l)(hb:J w.heap.size w w'):Ay w' v l:=by
 obtain⟨ao,cap,rfl,h⟩:=h;refine⟨ao,cap,rfl,fun hne=>?_⟩;obtain⟨b,off,rfl,hlt,hat⟩:=h hne;exact⟨b,off,rfl,qE hlt hb.size,fun i hi=>(hb.cell (p:=⟨b,_,Z⟩) hlt).trans (hat i hi)⟩
theorem Ay.num{w:O}{bo:Option Addr}{bn bc:Nat}{l:List Nat}(h:Ay w (Y bo bn bc) l){i:Nat}(hi:i<l.length):∃b off,bo=X ⟨b,off,Z⟩/\b<w.heap.size/\w.cell? ⟨b,off+i,Z⟩=X (.int V (l.getD i 0:Int)):=by
 obtain⟨ao,cap,hv,h⟩:=h;injection hv with e1 e2 e3;subst e1;obtain⟨b,off,e,hlt,hat⟩:=h (by rintro rfl;simp at hi);exact⟨b,off,e,hlt,hat i hi⟩
theorem Sd(po:Option Addr)(pc:Nat)(ps:List Nat)(f:Int)(w0 w:O)(n:Nat)(nv:T)(fn:FuncId)(caps:Array T)(ins:Nat->Bool)(L:Met)(v:T)(hn:n<=20000)(hps:∀x∈ps,x<n)(hf:-1<=f/\f<=20000)(hpl:ps.length<=140737488355328)
  (hP:Ay w0 (.slice po ps.length pc) ps) (hF:FnB w0 w0.heap.size n (.func (.func fn) #[] caps) ins) (hL:∀k,k<=ps.length->(BE ins f L ps k).length<=n) (hS:LookSt w0 w w0.heap.size nv (.func (.func fn) #[] caps) L v) :
  G qA 108 #[.slice po ps.length pc,.int V f,H (X ⟨w0.heap.size+3,0,Z⟩),H (X ⟨w0.heap.size+1,0,Z⟩),H (X ⟨w0.heap.size+4,0,Z⟩)] w fun e w'=>e=I (.tuple #[])/\∃v',LookSt w0 w' w0.heap.size nv (.func (.func fn) #[] caps) (BE ins f L ps ps.length) v':=by
 obtain⟨f',caps',e1,hen,hfn⟩:=hF;injection e1 with e1 e2 e3;injection e1 with e1;subst e1 e3;clear e2;obtain⟨m,hm⟩:∃m,m=ps.length:=⟨_,rfl⟩;have HM:U (m=ps.length):=hm;have HP:U (Ay w0 (Y po m pc) ps):=by rw[hm];exact hP
 have HFn:U (∀w',J w0.heap.size w0 w'->∀p:Nat,p<n->G qA fn (#[.int V (p:Int)]++caps) w' fun e w2=>e=I (.bool (ins p))/\J w'.heap.size w' w2):=hfn;have HL:U (∀k,k<=m->(BE ins f L ps k).length<=n):=by rw[hm];exact hL
 have HPs:U (∀k,k<m->ps.getD k 0<n):=fun k hk=>hps _ (by rw[qC,qH (by omega)];exact qR _);have HSu:U (∀k,k<m->BE ins f L ps (k+1)=Ek ins f (BE ins f L ps k) (ps.getD k 0)):=fun k hk=>Gz (by omega);have HS0:U (LookSt w0 w w0.heap.size nv (.func (.func fn) #[] caps) (BE ins f L ps 0) v):=hS;rw[<-hm]at hpl⊢;clear hm hP hfn hL hps hS;generalize BE ins f L ps=MT at *;obtain⟨i0,hi,hz0,hz1,hz2⟩:=info_parts BS
 go_enter Tryz.func108,Tryz.ntmps108;go_wp2_with fail
 go_loopw [13] (fun i wr=>∃k:Nat,k<=m/\i=.int V k/\U (∃v',LookSt w0 wr w0.heap.size nv (.func (.func fn) #[] caps) (MT k) v')) (fun i _=>m-(intOf i).toNat)
 case atStart=>exact⟨0,qJ _,rfl,v,HS0.out⟩
 case round=>
  obtain⟨k,hk,rfl,HSt⟩:=hrel;obtain⟨v1,hst⟩:=HSt.out;by_cases hlt:k<m
  .obtain ⟨pb,poff,rfl,hpb,hcp0⟩:=HP.out.num (i:=k) (by rw[<-HM.out];exact hlt);have hcp:=(hst.below.cell (p:=⟨pb,poff+k,Z⟩) hpb).trans hcp0;have hpn:=HPs.out k hlt;have hll:=HL.out k hk;have hsu:=HSu.out k hlt;generalize ps.getD k 0=p at *;obtain⟨D,hown,hcd⟩:=hst.mp;have hk1:=I6 p (by omega)
   have hhas:=(hcd p).1;have hcm:=hst.cm;have hfi:=hst.fi;by_cases hin:p∈keys (MT k)
   .have HE:U (MT (k+1)=MT k):=hsu.trans (FE (.inl hin));rw[decide_eq_true hin]at hhas;clear hcp0 hcd hsu hin;go_wp2_with (at_lookup;refine wpList_lookup_own_ok_int _ rfl _ _ 170 rfl 3 3 .i64 FA cS bI (F9 _) (w0.heap.size+2) _ D rfl hown _ _ rfl hk1 ?_;intro c hat hwc;rw[hhas];clear hat hwc)
    go_roundw
    case rel=>exact⟨k+1,hlt,by go_num,by rw[HE.out];exact HSt⟩
    case measure=>simp[intOf];omega
   .rw[decide_eq_false hin]at hhas;have hca:=HFn.out wr hst.below p hpn;cases hip:ins p with
    |false=>
     rw[hip]at hca;have HE:U (MT (k+1)=MT k):=hsu.trans (FE (.inr hip));have HLa:U (∀w4,J wr.heap.size wr w4->LookSt w0 w4 w0.heap.size nv (.func (.func fn) #[] caps) (MT k) v1):=fun w4 hb=>hst.later hb;clear hcp0 hcd hsu hin hip hst HSt;go_wp2_with (first|(at_lookup;refine wpList_lookup_own_ok_int _ rfl _ _ 170 rfl 3 3 .i64 FA cS bI (F9 _) (w0.heap.size+2) _ D rfl hown _ _ rfl hk1 ?_;intro c hat hwc;rw[hhas];clear hat hwc)|(refine hca.mono ?_;rintro e w4 ⟨rfl,hb4⟩))
     go_roundw
     case rel=>exact⟨k+1,hlt,by go_num,v1,by rw[HE.out];exact HLa.out w4 hb4⟩
     case measure=>simp[intOf];omega
    |true=>
     rw[hip]at hca;have HE:U (MT (k+1)=MT k++[(p,f)]):=hsu.trans (JG hin hip);have HLa:U (∀w4,J wr.heap.size wr w4->LookSt w0 w4 w0.heap.size nv (.func (.func fn) #[] caps) (MT k) v1):=fun w4 hb=>hst.later hb;have HCd:U (EQ D (MT k)):=hcd;have HPut:U (∀(w4 w5 w6:O) (v':T) (o:Obj),J wr.heap.size wr w4->w5.ownsMap qA 3 (plainElem qA 3) (w0.heap.size+2) ((MT k).length+1) (D.put (.int V (p:Int)) (.lit (.int V f)))->w4.grownBy w5 (X (w0.heap.size+2))->(w5.alloc o).grownBy w6 v1.ownBlock->w6.ownsRow (w0.heap.size+5) 3 1 v' ((MT k).length+1) (AK (keys (MT k))++[.int V (p:Int)])->LookSt w0 (w6.setCell ⟨w0.heap.size+4,0,Z⟩ v') w0.heap.size nv (.func (.func fn) #[] caps) (MT k++[(p,f)]) v'):=fun w4 w5 w6 v' o hb h1 h2 h3 h4=>(hst.later hb).put hin hcd hown.isMap h1 h2 h3 h4;have hkm:(MT k).length<maxLen:=by unfold maxLen;omega
     have h63:(MT k).length+1<=maxLen:=by unfold maxLen;omega
     have hkb:((MT k).length+1)*8<=140737488355328:=by omega
     have hwf:(Lit.int .i64 f).wf=true:=WalkArith.wf_i64 (by omega);obtain⟨lo,lc,rfl⟩:=Au hst.ow;have hst':=(show U _ from hst);have hszr:=hst.size;obtain⟨q,hq⟩:∃q,q=(MT k).length:=⟨_,rfl⟩;have HQ:U (q=(MT k).length):=hq;rw[<-hq]at hkm h63 hkb hll hown HPut HLa hst';clear hcp0 hcd hsu hin hip hst HSt hq;go_wp2_with (first
      |(at_lookup;refine wpList_lookup_own_ok_int _ rfl _ _ 170 rfl 3 3 .i64 FA cS bI (F9 _) (w0.heap.size+2) _ D rfl hown _ _ rfl hk1 ?_;intro c hat hwc;rw[hhas];clear hat hwc)
      |(refine hca.mono ?_;rintro e w4 ⟨rfl,hb4⟩;have hst4:=HLa.out w4 hb4;have hcm4:=hst4.cm;have hln4:=hst4.ln;have hfz4:=hst4.fz;have hsz4:=hst4.size;have hlt4:=hst4.ow.lt;have how4:=hst4.ow;rw[<-HQ.out]at how4;have hown4:=hown.kept (Eg hb4) (by simp);clear hst4 hca)
      |(at_mapUpdate;refine wpList_mapUpdate_own _ rfl _ _ _ 170 rfl 3 3 FA cS _ (w0.heap.size+2) q D rfl hown4 hkm _ _ _ rfl rfl hk1 _ [] (plainElem_int bI hwf) ?_;intro w5 hown5 hg5;have hln5:w5.cell? ⟨w0.heap.size+4,0,Z⟩=X (Y lo q lc):=((eJ (a:=⟨w0.heap.size+4,0,Z⟩) (hg5.block (w0.heap.size+4) (by omega) (by simp))).trans hln4);have hfz5:w5.frozen? ⟨w0.heap.size+4,0,Z⟩=false:=((fO (a:=⟨w0.heap.size+4,0,Z⟩) (hg5.block (w0.heap.size+4) (by omega) (by simp))).trans hfz4);have how5:=how4.kept hg5 (.inr (fun e=>by have:=(hlt4 (w0.heap.size+2) e).1;omega));have how5':=fun o=>how5.alloc o;have hsz5:=hg5.size;have hbase:∀o,w0.heap.size+5<=(w5.alloc o).heap.size:=(fun o=>by simp;omega))
      |(at_builtin;refine wpList_append_own _ rfl (.tmp 33) (.tmp 35) 43 rfl (w0.heap.size+5) 3 i0 (.int V 0) 1 8 aD hi hz0 hz1 hz2 rfl (by decide) (Y lo q lc) q _ rfl (how5' _) ⟨w5.heap.size,0,Z⟩ 1 1 [.int V p] rfl rfl (cell_one_new _ _ _) (by intro u hu;simp at hu;subst hu;rfl) h63 hkb (hbase _) ?_;intro v' w6 hown6 hg6 _;obtain⟨lo',lc',rfl⟩:=Au hown6;have hblk6:w6.heap[w0.heap.size+4]? = w5.heap[w0.heap.size+4]?:=((hg6.block (w0.heap.size+4) (by simp;omega) (fun e=>by have:=(hlt4 (w0.heap.size+4) e.symm).1;omega)).trans (((qD w5.heap.size w5).alloc (qB _) _).block _ (by omega)));have hln6:w6.cell? ⟨w0.heap.size+4,0,Z⟩=X (Y lo q lc):=((eJ (a:=⟨w0.heap.size+4,0,Z⟩) hblk6).trans hln5);have hfz6:w6.frozen? ⟨w0.heap.size+4,0,Z⟩=false:=((fO (a:=⟨w0.heap.size+4,0,Z⟩) hblk6).trans hfz5)))
     have HN:=(show U _ from HPut.out w4 w5 w6 (.slice lo' (q+1) lc') _ hb4 hown5 hg5 hg6 hown6);go_roundw
     case rel=>exact⟨k+1,hlt,by go_num,_,by rw[HE.out];exact HN.out⟩
     case measure=>simp[intOf];omega
  .obtain rfl:k=m:=by omega
   go_wp2_with fail
   go_end0
   exact⟨rfl,HSt.out⟩
theorem TC{w:O}{v:T}{l:List Int}(h:IntsV w v l)(h0:∀i,i<l.length->0<=l.getD i 0):Ay w v (l.map Int.toNat):=by
 obtain⟨ao,cap,rfl,h⟩:=h;refine⟨ao,cap,by simp,fun hne=>?_⟩;obtain⟨b,off,rfl,hlt,hat⟩:=h (by rintro rfl;simp at hne);refine⟨b,off,rfl,hlt,fun i hi=>?_⟩;have hi':i<l.length:=by simpa using hi
 have h1:=h0 i hi';rw[hat i hi'];have:((l.map Int.toNat).getD i 0:Int)=l.getD i 0:=by
  simp only[qC,xB,qH hi',Option.map_some,vW]at h1⊢;omega
 rw[this]
theorem NM{w:O}{g:Gr}(h:GOk g){uo:Option Addr}{uc i:Nat}(hi:i<g.spots.length)(hu:IntsV w (.slice uo (g.next.getD i []).length uc) (g.next.getD i [])):Ay w (.slice uo (nxt g i).length uc) (nxt g i):=by
 rw[EF];exact TC hu fun k hk=>((h.row i hi).2 k hk).1
theorem EJ{w w':O}{b t n:Nat}{f:Nat->T}(h:w.rowIs b t n f)(hb:J w.heap.size w w'):w'.rowIs b t n f:=h.of_block (hb.block b h.lt)
theorem LOk.way{n:Nat}{ins:Nat->Bool}{nx:Nat->List Nat}{bs:List Nat}{L:Met}(h:LOk n ins nx bs L):∀i,i<L.length->∃f∈bs,Way nx f (L.getD i (0,0)).1:=by
 intro i;induction i using Nat.strongRecOn with
 |_ i ih=>
  intro hi;rcases h.src i hi with⟨_,hb⟩|⟨j,hj,_,hm⟩
  .exact ⟨_,hb,.stay⟩
  .obtain ⟨f,hf,hw⟩:=ih j hj (by omega);exact⟨f,hf,hw.step hm⟩
theorem SH{n:Nat}{nx:Nat->List Nat}{bs:List Nat}{L:Met}(h:LOk n (fun _=>true) nx bs L)(ht:Through (fun _=>true) (fun _=>E) nx bs L L.length)(x:Nat):x∈keys L↔∃f∈bs,Way nx f x:=by
 obtain⟨h1,h2,_⟩:=ht.all h;constructor
 .intro hx;obtain⟨i,hi,rfl⟩:=I7 hx;exact h.way i hi
 .rintro ⟨f,hf,hw⟩;exact Way.closed (S:=fun y=>y∈keys L) (fun y hy k hk=>h2 y hy k hk rfl) (h1 f hf rfl) hw
theorem Ki(w0:O)(s n:Nat):FnB w0 s n (.func (.func 44) #[] #[]) (fun _=>true):=by
 refine⟨_,_,rfl,fun args w=>by simp[go_sem],fun w' _ p _=>?_⟩;show G qA 44 #[.int V (p:Int)] w' _;go_enter Tryz.func44,Tryz.ntmps44;go_wp2;go_ret;exact⟨rfl,qD _ _⟩
theorem TN(w0:O)(s n:Nat):FnB w0 s n (.func (.func 170) #[] #[]) (fun _=>E):=by
 refine⟨_,_,rfl,fun args w=>by simp[go_sem],fun w' _ p _=>?_⟩;show G qA 170 #[.int V (p:Int)] w' _;go_enter Tryz.func170,Tryz.ntmps170;go_wp2;go_ret;exact⟨rfl,qD _ _⟩
theorem TD{w:O}{B n:Nat}(h:w.rowIs B 3 n (fun j=>.int V (j:Int))):Ay w (Y (X ⟨B,0,Z⟩) (aE n).length n) (aE n):=
 ⟨X ⟨B,0,Z⟩,n,rfl,fun _=>⟨B,0,rfl,h.lt,fun i hi=>by
  have hi':i<n:=by simpa using hi
  rw[qV,h.cell hi'];simp[qC,hi']⟩⟩
theorem LO(so no bo:Option Addr)(sn sc nn nc bn bc gi:Nat)(gm:Int)(w:O)(hgi:gi<=20000) :
  G qA 43 #[.agg #[Y so sn sc,.int V (gi:Int),Y no nn nc,Y bo bn bc,.int V gm]] w fun e w'=>∃vo vc,e=I (.slice vo (aE gi).length vc)/\J w.heap.size w w'/\Ay w' (.slice vo (aE gi).length vc) (aE gi):=by
 have hmk:=run_make_row' (P:=qA) 43 3 (.int V 0) 8 aD BS rfl .i64 .i64 gi (by omega) (by omega);obtain⟨W0,hW0⟩:∃W0,W0=w.alloc (ZZ #[Y so sn sc,.int V (gi:Int),Y no nn nc,Y bo bn bc,.int V gm] 45):=⟨_,rfl⟩;have hrow0:=eL W0 (.int V 0) gi 3;have hs0:W0.heap.size=w.heap.size+1:=by rw[hW0];simp
 have hb0:J w.heap.size w W0:=by rw[hW0];exact ai
 rw[hs0]at hrow0;have HR0:U ((W0.alloc (ZZ (madeCells #[.int V 0] gi) 3)).rowIs (w.heap.size+1) 3 gi (fun j=>.int V (if j<0 then(j:Int)else 0))):=hrow0.congr fun j _=>by simp
 have HB0:U (J w.heap.size w (W0.alloc (ZZ (madeCells #[.int V 0] gi) 3))):=hb0.alloc (by omega) _;clear hs0 hb0 hrow0;have hlen:(aE gi).length=gi:=List.length_range;have HFin:U (∀w1:O,w1.rowIs (w.heap.size+1) 3 gi (fun j=>.int V (j:Int))->Ay w1 (Y (X ⟨w.heap.size+1,0,Z⟩) gi gi) (aE gi)):=fun w1 h=>by
  have:=TD h;rwa[hlen]at this
 rw[hlen];clear hlen;go_enter Tryz.func43,Tryz.ntmps43;go_wp2_with fail
 rw[<-hW0];clear hW0 hmk;go_loopw [10] (fun i wr=>∃k:Nat,k<=gi/\i=.int V k/\U (wr.rowIs (w.heap.size+1) 3 gi (fun j=>.int V (if j<k then(j:Int)else 0)))/\U (J w.heap.size w wr)) (fun i _=>gi-(intOf i).toNat)
 case atStart=>exact⟨0,qJ _,rfl,HR0.out,HB0.out⟩
 case round=>
  obtain⟨k,hk,rfl,HR,HB⟩:=hrel;by_cases hlt:k<gi
  .have hce:=HR.out.cell hlt;have hfz:=HR.out.frozen k;have HN:U ((wr.setCell ⟨w.heap.size+1,k,Z⟩ (.int V (k:Int))).rowIs (w.heap.size+1) 3 gi (fun j=>.int V (if j<k+1 then(j:Int)else 0))):=(HR.out.set k (.int V (k:Int))).congr fun j _=>by
    by_cases hj:j=k
    .subst hj;simp
    .rw[ak hj];by_cases hjk:j<k
     .rw[aj hjk,aj (by omega)]
     .rw[ak hjk,ak (by omega)]
   have HBn:U (J w.heap.size w (wr.setCell ⟨w.heap.size+1,k,Z⟩ (.int V (k:Int)))):=HB.out.setCell (by show w.heap.size<=w.heap.size+1;omega) _;generalize(if k<k then(k:Int)else 0)=old at *
   clear HR;go_wp2_with fail
   go_roundw
   case rel=>exact⟨k+1,hlt,by go_num,HN,HBn⟩
   case measure=>simp[intOf];omega
  .obtain rfl:k=gi:=by omega
   have HI:U (Ay wr (Y (X ⟨w.heap.size+1,0,Z⟩) k k) (aE k)):=HFin.out wr (HR.out.congr fun j hj=>by rw[aj hj]);clear HR;go_wp2_with fail
   go_ret;exact⟨_,_,rfl,HB.out,HI.out⟩
structure TA where
 s:Nat
 t:Nat
 b:Nat
 bw:Nat
 bl:Nat
 bg:Nat
 bp:Nat
structure TAOk(A:TA):Prop where
 sb:A.s<=A.b
 sw:A.s<=A.bw
 sl:A.s<=A.bl
 sg:A.s<=A.bg
 sp:A.s<=A.bp
 tb:A.b<A.t
 tw:A.bw<A.t
 tl:A.bl<A.t
 tg:A.bg<A.t
 tp:A.bp<A.t
 bw:A.b≠A.bw
 bl:A.b≠A.bl
 bg:A.b≠A.bg
 bp:A.b≠A.bp
 wl:A.bw≠A.bl
 wg:A.bw≠A.bg
 wp:A.bw≠A.bp
 lg:A.bl≠A.bg
 lp:A.bl≠A.bp
 gp:A.bg≠A.bp
def FU(u v:T):Prop:=∀k,u.ownBlock=X k->v.ownBlock≠X k
def Bb(f:Nat->Nat):Nat->Value:=fun j=>.int V (f j:Int)
def B5(f:Nat->Int):Nat->Value:=fun j=>.int V (f j)
theorem JM(f:Nat->Nat)(i v:Nat):Bb (upd f i v)=fun j=>if j=i then .int V (v:Int)else Bb f j:=by
 funext j;unfold Bb upd;by_cases h:j=i
 .simp[h]
 .simp[h]
theorem Rb(f:Nat->Int)(i:Nat)(v:Int):B5 (Et f i v)=fun j=>if j=i then .int V v else B5 f j:=by
 funext j;unfold B5 Et;by_cases h:j=i
 .simp[h]
 .simp[h]
structure TjW(w0 w:O)(A:TA)(nv:T)(n:Nat)(dv ov:T)(dl ol:List Nat)(wh lo go:Nat->Nat)(pt:Nat->Int)(met:Nat):Prop where
 below:J A.s w0 w
 size:A.t<=w.heap.size
 fz:∀i,w.frozen? ⟨A.b,i,Z⟩=E
 gn:w.cell? ⟨A.b,2,Z⟩=X nv
 dn:w.cell? ⟨A.b,5,Z⟩=X dv
 on:w.cell? ⟨A.b,6,Z⟩=X ov
 cw:w.cell? ⟨A.b,7,Z⟩=X (Y (X ⟨A.bw,0,Z⟩) n n)
 cl:w.cell? ⟨A.b,8,Z⟩=X (Y (X ⟨A.bl,0,Z⟩) n n)
 cg:w.cell? ⟨A.b,9,Z⟩=X (Y (X ⟨A.bg,0,Z⟩) n n)
 cm:w.cell? ⟨A.b,10,Z⟩=X (.int V (met:Int))
 cp:w.cell? ⟨A.b,11,Z⟩=X (Y (X ⟨A.bp,0,Z⟩) n n)
 rw:w.rowIs A.bw 3 n (Bb wh)
 rl:w.rowIs A.bl 3 n (Bb lo)
 rg:w.rowIs A.bg 3 n (Bb go)
 rp:w.rowIs A.bp 3 n (B5 pt)
 od:w.ownsRow A.t 3 1 dv dl.length (AK dl)
 oo:w.ownsRow A.t 3 1 ov ol.length (AK ol)
 ap:FU dv ov
section
variable{w0 w:O}{A:TA}{nv:T}{n:Nat}{dv ov:T}{dl ol:List Nat}{wh lo go:Nat -> Nat}{pt:Nat -> Int}{met:Nat}
theorem TjW.drew(h:TjW w0 w A nv n dv ov dl ol wh lo go pt met):TjW w0 w.drew A nv n dv ov dl ol wh lo go pt met:=
 ⟨h.below.drew,h.size,h.fz,h.gn,h.dn,h.on,h.cw,h.cl,h.cg,h.cm,h.cp,h.rw,h.rl,h.rg,h.rp,h.od,h.oo,h.ap⟩
theorem TjW.drewN(h:TjW w0 w A nv n dv ov dl ol wh lo go pt met)(q:Nat):TjW w0 (w.drewN q) A nv n dv ov dl ol wh lo go pt met:=
 ⟨⟨h.below.os,h.below.tape,h.below.output,h.below.size,h.below.block⟩,h.size,h.fz,h.gn,h.dn,h.on,h.cw,h.cl,h.cg,h.cm,h.cp,h.rw,h.rl,h.rg,h.rp,h.od,h.oo,h.ap⟩
theorem Mp{w':O}{base:Nat}{e:TypeId}{s k:Nat}{v:T}{xs:List T}(h:w.ownsRow base e s v k xs)(hb:∀g,v.ownBlock=X g->w'.heap[g]? = w.heap[g]?):w'.ownsRow base e s v k xs:=by
 refine⟨h.1,?_⟩;rcases h.2 with h1|⟨g,cap,cur,h1,h2,h3,h4⟩
 .exact .inl h1
 .exact .inr ⟨g,cap,cur,h1,h2,(hb g (by rw[h1];rfl)).trans h3,h4⟩
theorem Mq{base:Nat}{e:TypeId}{k j:Nat}{ao:Option Addr}{c:Nat}{xs:List T}(h:w.ownsRow base e 1 (Y ao k c) k xs)(hj:j<=k):w.ownsRow base e 1 (Y ao j c) j (xs.take j):=by
 obtain⟨h0,h1⟩:=h;refine⟨by rw[List.length_take];omega,?_⟩;rcases h1 with⟨h1,h2⟩|⟨g,cap,cur,h1,h2,h3,h4,h5,h6,h7⟩
 .injection h1 with e1 e2 e3;subst e1 e3;exact .inl ⟨by congr 1;omega,by omega⟩
 .injection h1 with e1 e2 e3;subst e1 e3;refine .inr ⟨g,c,cur,rfl,h2,h3,by omega,h5,h6,?_⟩;rw[<-h7,List.take_take];congr 1
  omega
theorem TjW.box(h:TjW w0 w A nv n dv ov dl ol wh lo go pt met)(hA:TAOk A)(i:Nat)(x:T) :
  J A.s w0 (w.setCell ⟨A.b,i,Z⟩ x)/\A.t<=(w.setCell ⟨A.b,i,Z⟩ x).heap.size/\(∀j,(w.setCell ⟨A.b,i,Z⟩ x).frozen? ⟨A.b,j,Z⟩=E)/\(∀j,j≠i->(w.setCell ⟨A.b,i,Z⟩ x).cell? ⟨A.b,j,Z⟩=w.cell? ⟨A.b,j,Z⟩)/\
  (w.setCell ⟨A.b,i,Z⟩ x).rowIs A.bw 3 n (Bb wh)/\(w.setCell ⟨A.b,i,Z⟩ x).rowIs A.bl 3 n (Bb lo)/\(w.setCell ⟨A.b,i,Z⟩ x).rowIs A.bg 3 n (Bb go)/\(w.setCell ⟨A.b,i,Z⟩ x).rowIs A.bp 3 n (B5 pt)/\
  (w.setCell ⟨A.b,i,Z⟩ x).ownsRow A.t 3 1 dv dl.length (AK dl)/\(w.setCell ⟨A.b,i,Z⟩ x).ownsRow A.t 3 1 ov ol.length (AK ol):=by
 refine⟨h.below.setCell hA.sb _,by simpa using h.size,fun j=>(bL _ _ _ _).trans (h.fz j),fun j hj=>bM _ _ _ _ (fun e=>hj (by injection e with e1 e2 e3;exact e2.symm)),h.rw.setOther (Ne.symm hA.bw) _,h.rl.setOther (Ne.symm hA.bl) _,h.rg.setOther (Ne.symm hA.bg) _,h.rp.setOther (Ne.symm hA.bp) _,ownsRow_setCell_below h.od hA.tb _,ownsRow_setCell_below h.oo hA.tb _⟩
theorem TjW.setMet(h:TjW w0 w A nv n dv ov dl ol wh lo go pt met)(hA:TAOk A)(m:Nat):TjW w0 (w.setCell ⟨A.b,10,Z⟩ (.int V (m:Int))) A nv n dv ov dl ol wh lo go pt m:=by
 obtain⟨h1,h2,h3,h4,h5,h6,h7,h8,h9,h10⟩:=h.box hA 10 (.int V (m:Int));exact⟨h1,h2,h3,(h4 2 (by decide)).trans h.gn,(h4 5 (by decide)).trans h.dn,(h4 6 (by decide)).trans h.on,(h4 7 (by decide)).trans h.cw,(h4 8 (by decide)).trans h.cl,(h4 9 (by decide)).trans h.cg,bO _ _ _ (u:=.int V (met:Int)) h.cm,(h4 11 (by decide)).trans h.cp,h5,h6,h7,h8,h9,h10,h.ap⟩
theorem TjW.setDown(h:TjW w0 w A nv n dv ov dl ol wh lo go pt met)(hA:TAOk A){dv':T}{dl':List Nat}(ho:w.ownsRow A.t 3 1 dv' dl'.length (AK dl'))(ha:FU dv' ov):TjW w0 (w.setCell ⟨A.b,5,Z⟩ dv') A nv n dv' ov dl' ol wh lo go pt met:=by
 obtain⟨h1,h2,h3,h4,h5,h6,h7,h8,h9,h10⟩:=h.box hA 5 dv';exact⟨h1,h2,h3,(h4 2 (by decide)).trans h.gn,bO _ _ _ (u:=dv) h.dn,(h4 6 (by decide)).trans h.on,(h4 7 (by decide)).trans h.cw,(h4 8 (by decide)).trans h.cl,(h4 9 (by decide)).trans h.cg,(h4 10 (by decide)).trans h.cm,(h4 11 (by decide)).trans h.cp,h5,h6,h7,h8,ownsRow_setCell_below ho hA.tb _,h10,ha⟩
theorem TjW.setOpen(h:TjW w0 w A nv n dv ov dl ol wh lo go pt met)(hA:TAOk A){ov':T}{ol':List Nat}(ho:w.ownsRow A.t 3 1 ov' ol'.length (AK ol'))(ha:FU dv ov'):TjW w0 (w.setCell ⟨A.b,6,Z⟩ ov') A nv n dv ov' dl ol' wh lo go pt met:=by
 obtain⟨h1,h2,h3,h4,h5,h6,h7,h8,h9,h10⟩:=h.box hA 6 ov';exact⟨h1,h2,h3,(h4 2 (by decide)).trans h.gn,(h4 5 (by decide)).trans h.dn,bO _ _ _ (u:=ov) h.on,(h4 7 (by decide)).trans h.cw,(h4 8 (by decide)).trans h.cl,(h4 9 (by decide)).trans h.cg,(h4 10 (by decide)).trans h.cm,(h4 11 (by decide)).trans h.cp,h5,h6,h7,h8,h9,ownsRow_setCell_below ho hA.tb _,ha⟩
theorem TjW.row(h:TjW w0 w A nv n dv ov dl ol wh lo go pt met){c:Nat}(hs:A.s<=c)(ht:c<A.t)(hb:A.b≠c)(i:Nat)(x:T) :
  J A.s w0 (w.setCell ⟨c,i,Z⟩ x)/\A.t<=(w.setCell ⟨c,i,Z⟩ x).heap.size/\(∀j,(w.setCell ⟨c,i,Z⟩ x).frozen? ⟨A.b,j,Z⟩=E)/\(∀j,(w.setCell ⟨c,i,Z⟩ x).cell? ⟨A.b,j,Z⟩=w.cell? ⟨A.b,j,Z⟩)/\
  (w.setCell ⟨c,i,Z⟩ x).ownsRow A.t 3 1 dv dl.length (AK dl)/\(w.setCell ⟨c,i,Z⟩ x).ownsRow A.t 3 1 ov ol.length (AK ol):=
 ⟨h.below.setCell hs _,by simpa using h.size,fun j=>(bL _ _ _ _).trans (h.fz j),fun j=>gA _ _ _ _ (fun e=>hb e.symm),ownsRow_setCell_below h.od ht _,ownsRow_setCell_below h.oo ht _⟩
theorem TjW.setW(h:TjW w0 w A nv n dv ov dl ol wh lo go pt met)(hA:TAOk A)(i v:Nat):TjW w0 (w.setCell ⟨A.bw,i,Z⟩ (.int V (v:Int))) A nv n dv ov dl ol (upd wh i v) lo go pt met:=by
 obtain⟨h1,h2,h3,h4,h5,h6⟩:=h.row hA.sw hA.tw hA.bw i (.int V (v:Int));exact⟨h1,h2,h3,(h4 2).trans h.gn,(h4 5).trans h.dn,(h4 6).trans h.on,(h4 7).trans h.cw,(h4 8).trans h.cl,(h4 9).trans h.cg,(h4 10).trans h.cm,(h4 11).trans h.cp,by rw[JM];exact h.rw.set i _,h.rl.setOther (Ne.symm hA.wl) _,h.rg.setOther (Ne.symm hA.wg) _,h.rp.setOther (Ne.symm hA.wp) _,h5,h6,h.ap⟩
theorem TjW.setL(h:TjW w0 w A nv n dv ov dl ol wh lo go pt met)(hA:TAOk A)(i v:Nat):TjW w0 (w.setCell ⟨A.bl,i,Z⟩ (.int V (v:Int))) A nv n dv ov dl ol wh (upd lo i v) go pt met:=by
 obtain⟨h1,h2,h3,h4,h5,h6⟩:=h.row hA.sl hA.tl hA.bl i (.int V (v:Int));exact⟨h1,h2,h3,(h4 2).trans h.gn,(h4 5).trans h.dn,(h4 6).trans h.on,(h4 7).trans h.cw,(h4 8).trans h.cl,(h4 9).trans h.cg,(h4 10).trans h.cm,(h4 11).trans h.cp,h.rw.setOther hA.wl _,by rw[JM];exact h.rl.set i _,h.rg.setOther (Ne.symm hA.lg) _,h.rp.setOther (Ne.symm hA.lp) _,h5,h6,h.ap⟩
theorem TjW.setG(h:TjW w0 w A nv n dv ov dl ol wh lo go pt met)(hA:TAOk A)(i v:Nat):TjW w0 (w.setCell ⟨A.bg,i,Z⟩ (.int V (v:Int))) A nv n dv ov dl ol wh lo (upd go i v) pt met:=by
 obtain⟨h1,h2,h3,h4,h5,h6⟩:=h.row hA.sg hA.tg hA.bg i (.int V (v:Int));exact⟨h1,h2,h3,(h4 2).trans h.gn,(h4 5).trans h.dn,(h4 6).trans h.on,(h4 7).trans h.cw,(h4 8).trans h.cl,(h4 9).trans h.cg,(h4 10).trans h.cm,(h4 11).trans h.cp,h.rw.setOther hA.wg _,h.rl.setOther hA.lg _,by rw[JM];exact h.rg.set i _,h.rp.setOther (Ne.symm hA.gp) _,h5,h6,h.ap⟩
theorem TjW.setP(h:TjW w0 w A nv n dv ov dl ol wh lo go pt met)(hA:TAOk A)(i:Nat)(v:Int):TjW w0 (w.setCell ⟨A.bp,i,Z⟩ (.int V v)) A nv n dv ov dl ol wh lo go (Et pt i v) met:=by
 obtain⟨h1,h2,h3,h4,h5,h6⟩:=h.row hA.sp hA.tp hA.bp i (.int V v);exact⟨h1,h2,h3,(h4 2).trans h.gn,(h4 5).trans h.dn,(h4 6).trans h.on,(h4 7).trans h.cw,(h4 8).trans h.cl,(h4 9).trans h.cg,(h4 10).trans h.cm,(h4 11).trans h.cp,h.rw.setOther hA.wp _,h.rl.setOther hA.lp _,h.rg.setOther hA.gp _,by rw[Rb];exact h.rp.set i _,h5,h6,h.ap⟩
theorem TjW.kept{w2:O}(h:TjW w0 w A nv n dv ov dl ol wh lo go pt met)(hs:w.heap.size<=w2.heap.size){row:Option Nat}(hr:∀k,row=X k->A.t<=k)(hk:∀i,i<w.heap.size->X i≠row->w2.heap[i]? = w.heap[i]?) :
  A.t<=w2.heap.size/\(∀i j,i<A.t->w2.cell? ⟨i,j,Z⟩=w.cell? ⟨i,j,Z⟩)/\(∀i,w2.frozen? ⟨A.b,i,Z⟩=E\/¬TAOk A)/\(∀(c:Nat) (f:Nat->T),c<A.t->w.rowIs c 3 n f->w2.rowIs c 3 n f):=by
 have ht:=h.size;have hkk:∀i,i<A.t->w2.heap[i]? = w.heap[i]?:=fun i hi=>hk i (by omega) (fun e=>by have:=hr i e.symm;omega);refine⟨by omega,fun i j hi=>eJ (a:=⟨i,j,Z⟩) (hkk i hi),fun i=>?_,fun c f hc hr=>hr.of_block (hkk c hc)⟩;by_cases hA:TAOk A
 .exact .inl ((fO (a:=⟨A.b,i,Z⟩) (hkk A.b hA.tb)).trans (h.fz i))
 .exact .inr hA
theorem TjW.grew{w2:O}{o:Obj}{row:Option Nat}(h:TjW w0 w A nv n dv ov dl ol wh lo go pt met)(hA:TAOk A)(hg:(w.alloc o).grownBy w2 row)(hr:∀k,row=X k->A.t<=k)(j:Nat):w2.cell? ⟨A.b,j,Z⟩=w.cell? ⟨A.b,j,Z⟩/\w2.frozen? ⟨A.b,j,Z⟩=false:=by
 have ht:=h.size;have hsz:w.heap.size<=w2.heap.size:=by have:=hg.size;simp at this;omega
 have hk:∀i,i<w.heap.size->X i≠row->w2.heap[i]? = w.heap[i]?:=fun i hi hne=>(hg.block i (by simp;omega) hne).trans (((qD w.heap.size w).alloc (qB _) o).block i hi);obtain⟨k1,k2,k3,k4⟩:=h.kept hsz (row:=row) hr hk;exact⟨k2 A.b j hA.tb,(k3 j).resolve_right (fun x=>x hA)⟩
theorem TjW.pushDown{w2:O}{o:Obj}{dv':T}{p:Nat}(h:TjW w0 w A nv n dv ov dl ol wh lo go pt met)(hA:TAOk A)(hg:(w.alloc o).grownBy w2 dv.ownBlock)(ho:w2.ownsRow A.t 3 1 dv' (dl.length+1) (AK dl++[.int V (p:Int)]))(ha:∀g,dv'.ownBlock=X g->dv.ownBlock=X g\/g=(w.alloc o).heap.size) :
  TjW w0 (w2.setCell ⟨A.b,5,Z⟩ dv') A nv n dv' ov (dl++[p]) ol wh lo go pt met:=by
 have ht:=h.size;have hst:=hA.tb;have hsb:=hA.sb;have hlt:=h.od.lt;have hlo:=h.oo.lt;have hsz:w.heap.size<=w2.heap.size:=by have:=hg.size;simp at this;omega
 have hk:∀i,i<w.heap.size->X i≠dv.ownBlock->w2.heap[i]? = w.heap[i]?:=fun i hi hne=>(hg.block i (by simp;omega) hne).trans (((qD w.heap.size w).alloc (qB _) o).block i hi);have hb2:J A.s w0 w2:=(h.below.alloc (by omega) o).grown hg (by simp;omega) (fun k hk=>by have:=(hlt k hk).1;omega);obtain⟨k1,k2,k3,k4⟩:=h.kept hsz (row:=dv.ownBlock) (fun k hk=>(hlt k hk).1) hk;have hap:FU dv' ov:=fun g hg1 hg2=>by
  rcases ha g hg1 with h1|h1
  .exact h.ap g h1 hg2
  .have:=(hlo g hg2).2;simp at h1;omega
 have hoo:w2.ownsRow A.t 3 1 ov ol.length (AK ol):=Mp h.oo fun g hg1=>hk g (hlo g hg1).2 (fun e=>h.ap g e.symm hg1);have hod:w2.ownsRow A.t 3 1 dv' (dl++[p]).length (AK (dl++[p])):=by
  rw[qF,AK,vJ];exact ho
 have hfar:∀j,j≠5->(w2.setCell ⟨A.b,5,Z⟩ dv').cell? ⟨A.b,j,Z⟩=w.cell? ⟨A.b,j,Z⟩:=fun j hj=>(bM _ _ _ _ (fun e=>hj (by injection e with e1 e2 e3;exact e2.symm))).trans (k2 A.b j hst);have hfz:∀i,w2.frozen? ⟨A.b,i,Z⟩=false:=fun i=>(k3 i).resolve_right (fun x=>x hA);exact⟨hb2.setCell hsb _,by simpa using k1,fun i=>(bL _ _ _ _).trans (hfz i),(hfar 2 (by decide)).trans h.gn,bO _ _ _ (u:=dv) ((k2 A.b 5 hst).trans h.dn),(hfar 6 (by decide)).trans h.on,(hfar 7 (by decide)).trans h.cw,(hfar 8 (by decide)).trans h.cl,(hfar 9 (by decide)).trans h.cg,(hfar 10 (by decide)).trans h.cm,(hfar 11 (by decide)).trans h.cp,(k4 _ _ hA.tw h.rw).setOther (Ne.symm hA.bw) _,(k4 _ _ hA.tl h.rl).setOther (Ne.symm hA.bl) _,(k4 _ _ hA.tg h.rg).setOther (Ne.symm hA.bg) _,(k4 _ _ hA.tp h.rp).setOther (Ne.symm hA.bp) _,ownsRow_setCell_below hod hst _,ownsRow_setCell_below hoo hst _,hap⟩
theorem TjW.pushOpen{w2:O}{o:Obj}{ov':T}{p:Nat}(h:TjW w0 w A nv n dv ov dl ol wh lo go pt met)(hA:TAOk A)(hg:(w.alloc o).grownBy w2 ov.ownBlock)(ho:w2.ownsRow A.t 3 1 ov' (ol.length+1) (AK ol++[.int V (p:Int)]))(ha:∀g,ov'.ownBlock=X g->ov.ownBlock=X g\/g=(w.alloc o).heap.size) :
  TjW w0 (w2.setCell ⟨A.b,6,Z⟩ ov') A nv n dv ov' dl (ol++[p]) wh lo go pt met:=by
 have ht:=h.size;have hst:=hA.tb;have hsb:=hA.sb;have hlt:=h.oo.lt;have hlo:=h.od.lt;have hsz:w.heap.size<=w2.heap.size:=by have:=hg.size;simp at this;omega
 have hk:∀i,i<w.heap.size->X i≠ov.ownBlock->w2.heap[i]? = w.heap[i]?:=fun i hi hne=>(hg.block i (by simp;omega) hne).trans (((qD w.heap.size w).alloc (qB _) o).block i hi);have hb2:J A.s w0 w2:=(h.below.alloc (by omega) o).grown hg (by simp;omega) (fun k hk=>by have:=(hlt k hk).1;omega);obtain⟨k1,k2,k3,k4⟩:=h.kept hsz (row:=ov.ownBlock) (fun k hk=>(hlt k hk).1) hk;have hap:FU dv ov':=fun g hg1 hg2=>by
  rcases ha g hg2 with h1|h1
  .exact h.ap g hg1 h1
  .have:=(hlo g hg1).2;simp at h1;omega
 have hoo:w2.ownsRow A.t 3 1 dv dl.length (AK dl):=Mp h.od fun g hg1=>hk g (hlo g hg1).2 (fun e=>h.ap g hg1 e.symm);have hod:w2.ownsRow A.t 3 1 ov' (ol++[p]).length (AK (ol++[p])):=by
  rw[qF,AK,vJ];exact ho
 have hfar:∀j,j≠6->(w2.setCell ⟨A.b,6,Z⟩ ov').cell? ⟨A.b,j,Z⟩=w.cell? ⟨A.b,j,Z⟩:=fun j hj=>(bM _ _ _ _ (fun e=>hj (by injection e with e1 e2 e3;exact e2.symm))).trans (k2 A.b j hst);have hfz:∀i,w2.frozen? ⟨A.b,i,Z⟩=false:=fun i=>(k3 i).resolve_right (fun x=>x hA);exact⟨hb2.setCell hsb _,by simpa using k1,fun i=>(bL _ _ _ _).trans (hfz i),(hfar 2 (by decide)).trans h.gn,(hfar 5 (by decide)).trans h.dn,bO _ _ _ (u:=ov) ((k2 A.b 6 hst).trans h.on),(hfar 7 (by decide)).trans h.cw,(hfar 8 (by decide)).trans h.cl,(hfar 9 (by decide)).trans h.cg,(hfar 10 (by decide)).trans h.cm,(hfar 11 (by decide)).trans h.cp,(k4 _ _ hA.tw h.rw).setOther (Ne.symm hA.bw) _,(k4 _ _ hA.tl h.rl).setOther (Ne.symm hA.bl) _,(k4 _ _ hA.tg h.rg).setOther (Ne.symm hA.bg) _,(k4 _ _ hA.tp h.rp).setOther (Ne.symm hA.bp) _,ownsRow_setCell_below hoo hst _,ownsRow_setCell_below hod hst _,hap⟩
end
theorem EG{w:O}{base:Nat}{e:TypeId}{g c:Nat}{l:List Nat}(h:w.ownsRow base e 1 (Y (X ⟨g,0,Z⟩) l.length c) l.length (AK l)):l.length<=c/\base<=g/\∀i,i<l.length->w.cell? ⟨g,i,Z⟩=X (.int V (l.getD i 0:Int)):=by
 rcases h.2 with⟨h1,_⟩|⟨g',cap,cur,h1,h2,h3,h4,h5,h6,h7⟩
 .injection h1 with e1;cases e1
 .injection h1 with e1 e2 e3;injection e1 with e1;injection e1 with e1;subst e1 e3;refine⟨h4,h2,fun i hi=>?_⟩;have h8:cur.toList[i]? = (AK l)[i]?:=by
   rw[<-h7,List.getElem?_take,aj (by omega)]
  have h9:(AK l)[i]? = X (.int V (l.getD i 0:Int)):=by
   rw[AK,xB,qH hi,qC,qH hi];rfl
  rw[h9]at h8;have h10:cur[i]? = X (.int V (l.getD i 0:Int)):=by rw[<-Array.getElem?_toList];exact h8
  simp[br,h3,h10]
theorem V8(pt:Nat->Int)(m:Nat):CI pt [] m=pt:=by funext x;simp[CI]
theorem V9(pt:Nat->Int)(l:List Nat)(m i:Nat)(hi:i<l.length):Et (CI pt (l.take i) m) (l.getD i 0) (m:Int)=CI pt (l.take (i+1)) m:=by
 funext x;have hmem:x∈l.take (i+1)↔x∈l.take i\/x=l.getD i 0:=by
  rw[qT hi,qC,qH hi,qL,vM];rfl
 unfold Et CI;by_cases hx:x=l.getD i 0
 .rw[aj hx,aj (hmem.2 (.inr hx))]
 .rw[ak hx];by_cases hx2:x∈l.take i
  .rw[aj hx2,aj (hmem.2 (.inl hx2))]
  .rw[ak hx2,ak (fun h=>(hmem.1 h).elim hx2 hx)]
theorem Su(p:Nat)(l:List Nat)(i:Nat)(hi:i<l.length):Bi p (l.take (i+1))=min (Bi p (l.take i)) (l.getD i 0):=by
 unfold Bi;rw[qT hi,xA,qC,qH hi];rfl
theorem WG(w0 w:O)(A:TA)(nv:T)(n:Nat)(dv ov:T)(dl ob r:List Nat)(wh lo go:Nat->Nat)(pt:Nat->Int)(met p:Nat)(hA:TAOk A)(hl:∀x∈p::r,x<n)(hr:¬p∈r)(hol:(ob++p::r).length<=20000)(h:TjW w0 w A nv n dv ov dl (ob++p::r) wh lo go pt met) :
  G qA 171 #[H (X ⟨A.b,0,Z⟩),.int V (p:Int)] w fun e w'=>e=I (.tuple #[])/\U (∃ov',TjW w0 w' A nv n dv ov' dl ob wh lo go (CI pt (p::r) (Bi p (p::r))) met):=by
 have hf:=h.oo.form (by simp;omega);obtain⟨g,c,rfl,hgt,hgl⟩:=hf;obtain⟨hNc,hg,hcell⟩:=EG h.oo;have hLp:(ob++p::r).getD ob.length 0=p:=by simp[qC]
 have hLr:∀i,ob.length<i->i<(ob++p::r).length->(ob++p::r).getD i 0≠p:=fun i h1 h2 e=>by
  obtain⟨j,rfl⟩:∃j,i=ob.length+(j+1):=⟨i-ob.length-1,by omega⟩;rw[qC,q7 (by omega)]at e;have e2:ob.length+(j+1)-ob.length=j+1:=by omega
  have hj:j<r.length:=by simp at h2;omega
  rw[e2,List.getElem?_cons_succ,qH hj]at e;exact hr (e▸qR hj)
 have hLj:∀j,j<(p::r).length->(ob++p::r).getD (ob.length+j) 0=(p::r).getD j 0:=fun j hj=>by
  rw[qC,q7 (by omega),Nat.add_sub_cancel_left,qC]
 obtain⟨N,hN⟩:∃N,N=(ob++p::r).length:=⟨_,rfl⟩;obtain⟨K,hK⟩:∃K,K=ob.length:=⟨_,rfl⟩;have hNK:N=K+(p::r).length:=by rw[hN,hK,qF]
 have hm1:(p::r).length=r.length+1:=rfl;obtain⟨L,hL⟩:∃L,L=p::r:=⟨_,rfl⟩;have HA:U (TAOk A):=hA;have H0:U (TjW w0 w A nv n dv (Y (X ⟨g,0,Z⟩) N c) dl (ob++p::r) wh lo go pt met):=by rw[hN];exact h
 have HC:U (∀i,i<N->w.cell? ⟨g,i,Z⟩=X (.int V ((ob++p::r).getD i 0:Int))):=by rw[hN];exact hcell
 have HLr:U (∀i,K<i->i<N->(ob++p::r).getD i 0≠p):=by rw[hN,hK];exact hLr
 have HLp:U ((ob++p::r).getD K 0=p):=by rw[hK];exact hLp
 have HLj:U (∀j,j<L.length->(ob++p::r).getD (K+j) 0=L.getD j 0):=by rw[hK,hL];exact hLj
 have HLl:U (∀j,j<L.length->L.getD j 0<n):=fun j hj=>hl _ (by rw[<-hL,qC,qH hj];exact qR _);have HOT:U (w.ownsRow A.t 3 1 (Y (X ⟨g,0,Z⟩) K c) ob.length (AK ob)):=by
  have:=Mq h.oo (j:=ob.length) (by simp);have e:(AK (ob++p::r)).take ob.length=AK ob:=by simp[AK]
  rw[e]at this;rw[hK];exact this
 obtain⟨M,hM⟩:∃M,M=L.length:=⟨_,rfl⟩;have HM:U (M=L.length):=hM;have hNM:N=K+M:=by rw[hM,hL];exact hNK
 have hM1:1<=M:=by rw[hM,hL];simp
 have hpn:p<n:=hl p (by simp);have HLe:U (L=p::r):=hL;have k6:=H0.out.on;have kf6:=H0.out.fz 6;have hNc':N<=c:=by rw[hN];exact hNc
 have hN2:N<=20000:=by rw[hN];exact hol
 clear h hcell hLr hLp hLj hL hl hr hol hK hNK hN hm1 hM hNc;generalize hob:ob++p::r=ol at *;have HOb:U (ob++p::r=ol):=hob;clear hob
 go_enter Tryz.func171,Tryz.ntmps171;go_wp2_with fail
 go_loopw [4] (fun i wr=>∃k:Nat,K<=k/\k<N/\i=.int V k/\wr=w) (fun i _=>(intOf i).toNat)
 case atStart=>exact⟨N-1,by omega,by omega,by congr 1;omega,rfl⟩
 case round=>
  obtain⟨k,hk1,hk2,rfl,rfl⟩:=hrel;have hck:=HC.out k hk2;by_cases hkK:k=K
  .subst hkK;rw[HLp.out]at hck;have H1:U (TjW w0 (wr.setCell ⟨A.b,6,Z⟩ (Y (X ⟨g,0,Z⟩) k c)) A nv n dv (Y (X ⟨g,0,Z⟩) k c) dl ob wh lo go pt met):=H0.out.setOpen hA HOT.out (fun q h1 h2=>H0.out.ap q h1 (by rw[<-h2];rfl));have hgb:g≠A.b:=by have:=hA.tb;omega
   have hgp:g≠A.bp:=by have:=hA.tp;omega
   have HC1:U (∀j,j<M->(wr.setCell ⟨A.b,6,Z⟩ (Y (X ⟨g,0,Z⟩) k c)).cell? ⟨g,k+j,Z⟩=X (.int V (L.getD j 0:Int))):=fun j hj=>by
    rw[gA _ _ _ _ (fun e=>hgb e.symm),HC.out (k+j) (by omega),HLj.out j (by rw[<-HM.out];exact hj)]
   have hkc:k<c:=by omega
   have hkc2:¬c=k:=by omega
   have hkc3:¬c-k=0:=by omega
   go_wp2_with fail
   generalize wr.setCell ⟨A.b,6,Z⟩ (Y (X ⟨g,0,Z⟩) k c)=w1 at H1 HC1⊢;clear HC H0 k6 kf6 hck HLr HLp HLj HOT hgl;go_loopw [6,46] (fun v i wr=>∃q:Nat,q<=M/\i=.int V q/\v=.int V (Bi p (L.take q):Int)/\wr=w1) (fun _ i _=>M-(intOf i).toNat)
   case atStart=>exact⟨0,qJ _,rfl,rfl,rfl⟩
   case round=>
    obtain⟨q,hq,rfl,rfl,hwr⟩:=hrel;subst hwr;by_cases hqM:q<M
    .have hcq:=HC1.out q hqM;have HMS:U (Bi p (L.take (q+1))=min (Bi p (L.take q)) (L.getD q 0)):=Su p L q (by rw[<-HM.out];exact hqM);generalize Bi p (L.take q)=m0 at *;generalize L.getD q 0=x at *
     rcases Nat.le_total m0 x with hmx|hmx
     .have h1:(m0:Int)<=(x:Int):=by omega
      rw[jT hmx]at HMS;go_wp2_with fail
      go_roundw
      case rel=>exact⟨q+1,hqM,by go_num,by first|(rw[HMS.out];done)|(rw[HMS.out];congr 1;omega),trivial⟩
      case measure=>simp[intOf];omega
     .rw[xX hmx]at HMS;by_cases hmx2:m0=x
      .subst hmx2;go_wp2_with fail
       go_roundw
       case rel=>exact⟨q+1,hqM,by go_num,by first|(rw[HMS.out];done)|(rw[HMS.out];congr 1;omega),trivial⟩
       case measure=>simp[intOf];omega
      .have h1:¬(m0:Int)<=(x:Int):=by omega
       have h2:(x:Int)<(m0:Int):=by omega
       go_wp2_with fail
       go_roundw
       case rel=>exact⟨q+1,hqM,by go_num,by first|(rw[HMS.out];done)|(rw[HMS.out];congr 1;omega),trivial⟩
       case measure=>simp[intOf];omega
    .obtain rfl:q=M:=by omega
     have HE:U (L.take q=L):=by show _=_;rw[HM.out,List.take_length]
     rw[HE.out];obtain⟨m,hm⟩:∃m,m=Bi p L:=⟨_,rfl⟩;have HMm:U (m=Bi p L):=hm;rw[<-hm];clear hm;have H2:U (TjW w0 wr A nv n dv (Y (X ⟨g,0,Z⟩) k c) dl ob wh lo go (CI pt (L.take 0) m) met):=by rw[List.take_zero,V8];exact H1.out
     go_wp2_with fail
     generalize wr=w1 at *
     go_loopw [56] (fun i wr=>∃j:Nat,j<=q/\i=.int V j/\U (TjW w0 wr A nv n dv (Y (X ⟨g,0,Z⟩) k c) dl ob wh lo go (CI pt (L.take j) m) met)/\U (∀j,j<q->wr.cell? ⟨g,k+j,Z⟩=X (.int V (L.getD j 0:Int)))) (fun i _=>q-(intOf i).toNat)
     case atStart=>exact⟨0,qJ _,rfl,H2,HC1⟩
     case round=>
      obtain⟨j,hj,rfl,HT,HCr⟩:=hrel;by_cases hjq:j<q
      .have hcj:=HCr.out j hjq;have hx:=HLl.out j (by rw[<-HM.out];exact hjq);have k11:=HT.out.cp;have r1:=HT.out.rp.cell hx;have r2:=HT.out.rp.frozen (L.getD j 0);have HT2:U (TjW w0 (wr.setCell ⟨A.bp,L.getD j 0,Z⟩ (.int V (m:Int))) A nv n dv (Y (X ⟨g,0,Z⟩) k c) dl ob wh lo go (CI pt (L.take (j+1)) m) met):=by
        rw[<-V9 pt L m j (by rw[<-HM.out];exact hjq)];exact HT.out.setP hA (L.getD j 0) (m:Int)
       have HC2:U (∀i,i<q->(wr.setCell ⟨A.bp,L.getD j 0,Z⟩ (.int V (m:Int))).cell? ⟨g,k+i,Z⟩=X (.int V (L.getD i 0:Int))):=fun i hi=>by
        rw[gA _ _ _ _ (fun e=>hgp e.symm)];exact HCr.out i hi
       generalize B5 (CI pt (L.take j) m) (L.getD j 0)=old at *;generalize L.getD j 0=x at *
       go_wp2_with fail
       go_roundw
       case rel=>exact⟨j+1,hjq,by go_num,HT2,HC2⟩
       case measure=>simp[intOf];omega
      .obtain rfl:j=q:=by omega
       have HF:U (TjW w0 wr A nv n dv (Y (X ⟨g,0,Z⟩) k c) dl ob wh lo go (CI pt (p::r) (Bi p (p::r))) met):=by
        have:=HT.out;rw[HE.out,HMm.out,HLe.out]at this;exact this
       go_wp2_with fail
       go_end0
       exact⟨rfl,_,HF.out⟩
  .have hne:ol.getD k 0≠p:=HLr.out k (by omega) hk2;generalize ol.getD k 0=x at *;have hne2:¬(x:Int)=(p:Int):=by omega
   go_wp2_with fail
   go_roundw
   case rel=>exact⟨k-1,by omega,by omega,by congr 1;omega,trivial⟩
   case measure=>simp[intOf];omega
theorem Ns(w0 w:O)(A:TA)(nv:T)(n:Nat)(dv ov:T)(dl ol:List Nat)(wh lo go:Nat->Nat)(pt:Nat->Int)(met p:Nat)(hA:TAOk A)(hp:p<n)(hm:met<20000)(hdl:dl.length<=20000)(hol:ol.length<=20000)(h:TjW w0 w A nv n dv ov dl ol wh lo go pt met) :
  G qA 106 #[H (X ⟨A.b,0,Z⟩),.int V (p:Int)] w fun e w'=>e=I (.tuple #[])/\U (∃dv' ov',TjW w0 w' A nv n dv' ov' (dl++[p]) (ol++[p]) (upd wh p (met+1)) (upd lo p (met+1)) go pt (met+1)):=by
 obtain⟨i0,hi,hz0,hz1,hz2⟩:=info_parts BS;have HA:U (TAOk A):=hA;have H0:U (TjW w0 w A nv n dv ov dl ol wh lo go pt met):=h;have H1:U (TjW w0 (w.setCell ⟨A.b,10,Z⟩ (.int V ((met+1:Nat):Int))) A nv n dv ov dl ol wh lo go pt (met+1)):=h.setMet hA (met+1);have e1:((met+1:Nat):Int)=(met:Int)+1:=by omega
 rw[e1]at H1;have k10:=h.cm;have kf:=h.fz 10;clear h e1;go_enter Tryz.func106,Tryz.ntmps106;go_wp2_with fail
 generalize w.setCell ⟨A.b,10,Z⟩ (.int V ((met:Int)+1))=w1 at H1⊢;have H2:U (TjW w0 (w1.setCell ⟨A.bw,p,Z⟩ (.int V ((met+1:Nat):Int))).drew A nv n dv ov dl ol (upd wh p (met+1)) lo go pt (met+1)):=(H1.out.setW hA p (met+1)).drew;have e1:((met+1:Nat):Int)=(met:Int)+1:=by omega
 rw[e1]at H2;have k7:=H1.out.cw;have k10:=H1.out.cm;rw[e1]at k10;have r1:=H1.out.rw.cell hp;have r2:=H1.out.rw.frozen p;generalize Bb wh p=old1 at r1;clear kf;go_region
 go_wp2_with fail
 clear k7 k10 r1 r2 H1;generalize(w1.setCell ⟨A.bw,p,Z⟩ (.int V ((met:Int)+1))).drew=w2 at H2⊢;have H3:U (TjW w0 (w2.setCell ⟨A.bl,p,Z⟩ (.int V ((met+1:Nat):Int))).drew A nv n dv ov dl ol (upd wh p (met+1)) (upd lo p (met+1)) go pt (met+1)):=(H2.out.setL hA p (met+1)).drew;rw[e1]at H3;have k8:=H2.out.cl;have k10:=H2.out.cm;rw[e1]at k10;have r1:=H2.out.rl.cell hp;have r2:=H2.out.rl.frozen p;generalize Bb lo p=old2 at r1;go_region
 clear k8 k10 r1 r2 H2 e1;generalize(w2.setCell ⟨A.bl,p,Z⟩ (.int V ((met:Int)+1))).drew=w3 at H3⊢;obtain⟨ao,dc,rfl⟩:=Au H3.out.od;obtain⟨oo,oc,rfl⟩:=Au H3.out.oo;have k5:=H3.out.dn;have hod:=fun o=>H3.out.od.alloc o;have hsz:=H3.out.size;have hbase:∀o,A.t<=(w3.alloc o).heap.size:=fun o=>by simp;omega
 have h63:dl.length+1<=maxLen:=by unfold maxLen;omega
 have hkb:(dl.length+1)*8<=140737488355328:=by omega
 have HRd:U (∀k,(Value.slice ao dl.length dc).ownBlock=X k->A.t<=k):=fun k hk=>(H3.out.od.lt k hk).1;have HRo:U (∀k,(Value.slice oo ol.length oc).ownBlock=X k->A.t<=k):=fun k hk=>(H3.out.oo.lt k hk).1;go_upto_region 4 with(at_builtin;refine wpList_append_lies _ rfl (.tmp 35) (.tmp 37) 43 rfl A.t 3 i0 (.int V 0) 1 8 aD hi hz0 hz1 hz2 rfl (by decide) (.slice ao dl.length dc) dl.length _ rfl (hod _) ⟨w3.heap.size,0,Z⟩ 1 1 [.int V (p:Int)] rfl rfl (cell_one_new _ _ _) (by intro u hu;simp at hu;subst hu;rfl) (by decide) h63 hkb (hbase _) _ rfl ?_;intro g4 c4 w4 hown4 hgrow4 hor4 _;obtain⟨k45,kf4⟩:=H3.out.grew hA hgrow4 HRd.out 5;rw[k5]at k45)
 have H4:U (TjW w0 (w4.setCell ⟨A.b,5,Z⟩ (Y (X ⟨g4,0,Z⟩) (dl.length+1) c4)) A nv n (Y (X ⟨g4,0,Z⟩) (dl.length+1) c4) (.slice oo ol.length oc) (dl++[p]) ol (upd wh p (met+1)) (upd lo p (met+1)) go pt (met+1)):=H3.out.pushDown hA hgrow4 hown4 (fun g hg=>(by injection hg with hg;subst hg;exact hor4));clear hown4 hgrow4 hor4 k45 kf4 hod hbase h63 hkb k5 hsz H3 H0;generalize w4.setCell ⟨A.b,5,Z⟩ (Y (X ⟨g4,0,Z⟩) (dl.length+1) c4)=w5 at H4⊢;have k56:=H4.out.on;have hod5:=fun o=>H4.out.oo.alloc o;have hsz5:=H4.out.size;have hbase5:∀o,A.t<=(w5.alloc o).heap.size:=fun o=>by rw[World.size_alloc];omega
 have h632:ol.length+1<=maxLen:=by unfold maxLen;omega
 have hkb2:(ol.length+1)*8<=140737488355328:=by omega
 go_wp2_with (at_builtin;refine wpList_append_lies _ rfl (.tmp 45) (.tmp 47) 43 rfl A.t 3 i0 (.int V 0) 1 8 aD hi hz0 hz1 hz2 rfl (by decide) (.slice oo ol.length oc) ol.length _ rfl (hod5 _) ⟨w5.heap.size,0,Z⟩ 1 1 [.int V (p:Int)] rfl rfl (cell_one_new _ _ _) (by intro u hu;simp at hu;subst hu;rfl) (by decide) h632 hkb2 (hbase5 _) _ rfl ?_;intro g6 c6 w6 hown6 hgrow6 hor6 _;obtain⟨k66,kf6⟩:=H4.out.grew hA hgrow6 HRo.out 6;rw[k56]at k66)
 go_end0
 have H6:=H4.out.pushOpen hA hgrow6 hown6 (fun g hg=>by injection hg with hg;subst hg;exact hor6);exact⟨rfl,_,_,H6⟩
def Fa(w0 w:O)(A:TA)(nv:T)(n:Nat)(nx:Nat->List Nat)(F:Frames)(wh lo go:Nat->Nat)(pt:Nat->Int)(met:Nat):Prop:=∃dv ov,Tj n nx F wh lo go pt met/\TjW w0 w A nv n dv ov (Ah F) (AE F) wh lo go pt met
theorem GS:∀F:Frames,(Ah F).length<=(AE F).length
 |[]=>qB _
 |(d,r)::F=>by
  have:=GS F;simp only[Ah,AE,qF,qY,List.length_nil];omega
theorem Tj.few_opens{n:Nat}{nx:Nat->List Nat}{F:Frames}{wh lo go:Nat->Nat}{pt:Nat->Int}{met:Nat}(h:Tj n nx F wh lo go pt met):(AE F).length<=n:=JP h.nodup h.lt
theorem WE(w0 w:O)(A:TA)(nv:T)(n:Nat)(nx:Nat->List Nat)(p:Nat)(r:List Nat)(F:Frames)(wh lo go:Nat->Nat)(pt:Nat->Int)(met:Nat)(hA:TAOk A)(hn:n<=20000)(hnx:∀i,i<n->∀k∈nx i,k<n)(hg:go p=(nx p).length)(h:Fa w0 w A nv n nx ((p,r)::F) wh lo go pt met) :
  G qA 136 #[H (X ⟨A.b,0,Z⟩),.int V (p:Int)] w fun e w'=>e=I (.tuple #[])/\U (∃F' lo' pt',F'.length=F.length/\Fa w0 w' A nv n nx F' wh lo' go pt' met):=by
 obtain⟨dv,ov,hT,hW⟩:=h;have hpo:p∈AE ((p,r)::F):=B8;have hpn:=hT.lt p hpo;have hfew:=hT.few_opens;have hdn:=GS ((p,r)::F);have hlp:=hT.low p hpo;have hwp:=hT.pos p hpo;have hmn:met<=n:=by rw[hT.few];exact G2 _ _
 have hDl:(Ah ((p,r)::F)).length=(Ah F).length+1:=by simp[Ah]
 obtain⟨g,c,rfl,hgt,hgl⟩:=hW.od.form (by omega);obtain⟨hNc,hgA,hcell⟩:=EG hW.od;rw[hDl]at hW hNc hcell;have HOT:U (w.ownsRow A.t 3 1 (Y (X ⟨g,0,Z⟩) (Ah F).length c) (Ah F).length (AK (Ah F))):=by
  have:=hW.od;rw[hDl]at this;have:=Mq this (j:=(Ah F).length) (by omega);have e:(AK (Ah ((p,r)::F))).take (Ah F).length=AK (Ah F):=by simp[AK,Ah]
  rwa[e]at this
 have H1:U (TjW w0 (w.setCell ⟨A.b,5,Z⟩ (Y (X ⟨g,0,Z⟩) (Ah F).length c)).drew A nv n (Y (X ⟨g,0,Z⟩) (Ah F).length c) ov (Ah F) (AE ((p,r)::F)) wh lo go pt met):=(hW.setDown hA HOT.out (fun q h1 h2=>hW.ap q (by rw[<-h1];rfl) h2)).drew;have HT:U (Tj n nx ((p,r)::F) wh lo go pt met):=hT;have HG:U (go p=(nx p).length):=hg;have HNX:U (∀i,i<n->∀k∈nx i,k<n):=hnx;have HCd:U (∀q s F',F=(q,s)::F'->0<(Ah F).length/\(Ah F).getD ((Ah F).length-1) 0=q):=fun q s F' e=>by
  subst e;simp[Ah,qC]
 have HCell:U (∀i,i<(Ah F).length->w.cell? ⟨g,i,Z⟩=X (.int V ((Ah F).getD i 0:Int))):=fun i hi=>by
  rw[hcell i (by omega)];simp[Ah,qC,qX hi]
 have k5:=hW.dn;have kf5:=hW.fz 5;obtain⟨D,hD⟩:∃D,D=(Ah F).length:=⟨_,rfl⟩;have HDe:U (D=(Ah F).length):=hD;rw[<-hD]at H1 HOT k5 hNc HCd HCell;have hD2:D+1<=20000:=by omega
 clear hW hT hcell hD hg hnx hDl hdn hfew;go_enter Tryz.func136,Tryz.ntmps136;go_wp2_with fail
 go_region
 have hgb:g≠A.b:=by have:=hA.tb;omega
 have HC1:U (∀i,i<D->(w.setCell ⟨A.b,5,Z⟩ (Y (X ⟨g,0,Z⟩) D c)).drew.cell? ⟨g,i,Z⟩=X (.int V ((Ah F).getD i 0:Int))):=fun i hi=>by
  show(w.setCell ⟨A.b,5,Z⟩ (Y (X ⟨g,0,Z⟩) D c)).cell? _=_;rw[gA _ _ _ _ (fun e=>hgb e.symm)];exact HCell.out i hi
 generalize(w.setCell ⟨A.b,5,Z⟩ (Y (X ⟨g,0,Z⟩) D c)).drew=w1 at H1 HC1⊢;clear HCell k5 kf5 HOT;have k7:=H1.out.cw;have k8:=H1.out.cl;have r7:w1.cell? ⟨A.bw,p,Z⟩=X (.int V (wh p:Int)):=H1.out.rw.cell hpn;have r8:w1.cell? ⟨A.bl,p,Z⟩=X (.int V (lo p:Int)):=H1.out.rl.cell hpn;obtain⟨hl0,hl1,_⟩:=hlp;obtain⟨hw0,hw1⟩:=hwp;by_cases hlw:lo p=wh p
 .have HTT:=HT.out.tell HNX.out HG.out hlw;have HTe:U (Tj n nx F wh lo go (CI pt (p::r) (Bi p (p::r))) met):=HTT;have HRn:U (¬p∈r):=fun hh=>by have:=HT.out.before.2 p hh;omega
  have HTl:=fun w' (hh:TjW w0 w' A nv n (Y (X ⟨g,0,Z⟩) D c) ov (Ah F) (AE F++p::r) wh lo go pt met)=>WG w0 w' A nv n (Y (X ⟨g,0,Z⟩) D c) ov (Ah F) (AE F) r wh lo go pt met p hA (fun x hx=>HT.out.lt x (qL.2 (.inr hx))) HRn.out (by have:=HT.out.few_opens;exact qI this hn) hh;have H1':U (∀q,TjW w0 (w1.drewN q) A nv n (Y (X ⟨g,0,Z⟩) D c) ov (Ah F) (AE F++p::r) wh lo go pt met):=fun q=>H1.out.drewN q;clear HTT;generalize lo p=a at *;generalize wh p=b at *;subst hlw
  go_wp2_with fail
  go_quiet (fail)
  have hta:=HTl (w1.drewN nq) (H1'.out nq);clear HTl H1';go_wp2_with (go_at_call 171;refine hta.mono ?_;rintro e w2 ⟨rfl,HW2⟩)
  refine bodyPost_ret (results_none rfl _ _ _) rfl ?_;obtain⟨ov',h2⟩:=HW2.out;exact⟨rfl,F,lo,_,rfl,_,ov',HTe.out,h2⟩
 .cases F with
  |nil=>exact absurd HT.out.bottom hlw
  |cons f F=>
   obtain⟨q,s⟩:=f;obtain⟨hD0,hDq⟩:=HCd.out q s F rfl;have hcq:=HC1.out (D-1) (by omega);rw[hDq]at hcq;obtain⟨D',rfl⟩:∃D',D=D'+1:=⟨D-1,by omega⟩;simp only[Nat.add_sub_cancel]at hcq;have hqo:q∈AE ((p,r)::(q,s)::F):=CO B8;have hqn:=HT.out.lt q hqo;have hlq:=(HT.out.low q hqo).2.1;have hwq:=(HT.out.pos q hqo).2;have HTL:U (Tj n nx ((q,s++p::r)::F) wh (upd lo q (min (lo q) (lo p))) go pt met):=HT.out.leave HG.out hlw;have HWL:U (∀m,TjW w0 ((w1.drewN m).setCell ⟨A.bl,q,Z⟩ (.int V ((min (lo q) (lo p):Nat):Int))) A nv n (Y (X ⟨g,0,Z⟩) (D'+1) c) ov (Ah ((q,s++p::r)::F)) (AE ((q,s++p::r)::F)) wh (upd lo q (min (lo q) (lo p))) go pt met):=fun m=>by
    have e1:AE ((q,s++p::r)::F)=AE ((p,r)::(q,s)::F):=by simp[AE]
    have e2:Ah ((q,s++p::r)::F)=Ah ((q,s)::F):=rfl;rw[e1,e2];exact(H1.out.drewN m).setL hA q _
   have k5:=H1.out.dn;have r9:w1.cell? ⟨A.bl,q,Z⟩=X (.int V (lo q:Int)):=H1.out.rl.cell hqn;have f9:=H1.out.rl.frozen q;have hlw2:¬(lo p:Int)=(wh p:Int):=by omega
   generalize wh p=b at *;generalize lo p=a at *;generalize lo q=a2 at *;obtain⟨mm,hmm⟩:∃mm,mm=min a2 a:=⟨_,rfl⟩
   rw[<-hmm]at HTL HWL;have hmi:min (a2:Int) (a:Int)=(mm:Int):=by omega
   clear hmm HCd HC1 HDe H1;go_wp2_with fail
   go_quiet (fail)
   go_wp2_with fail
   go_quiet (fail)
   go_wp2_with fail
   go_region
   go_end0
   have e:(if a<a2 then(a:Int)else(a2:Int))=(mm:Int):=by split<;>omega
   rw[e];exact⟨rfl,(q,s++p::r)::F,_,_,rfl,_,_,HTL.out,HWL.out _⟩
def ET(w:O)(no:Option Addr)(n:Nat)(nx:Nat->List Nat):Prop:=∀p,p<n->∃b off,no=X ⟨b,off,Z⟩/\b<w.heap.size/\∃uo uc,w.cell? ⟨b,off+p,Z⟩=X (.slice uo (nx p).length uc)/\Ay w (.slice uo (nx p).length uc) (nx p)
def TjK(w0 w:O)(A:TA)(nv:T)(n:Nat)(nx:Nat->List Nat)(seen:Nat->Prop)(k:Nat):Prop:=∃F wh lo go pt met,Fa w0 w A nv n nx F wh lo go pt met/\k=2*left nx go n+F.length/\∀x,seen x->wh x≠0
def GH(w0 w:O)(A:TA)(nv:T)(n:Nat)(nx:Nat->List Nat)(seen:Nat->Prop):Prop:=∃wh lo go pt met,Fa w0 w A nv n nx [] wh lo go pt met/\∀x,seen x->wh x≠0
theorem WD(w0 w:O)(A:TA)(no:Option Addr)(nc:Nat)(n:Nat)(nx:Nat->List Nat)(seen:Nat->Prop)(k0:Nat)(hA:TAOk A)(hn:n<=20000)(hnx:∀i,i<n->∀k∈nx i,k<n)(hxl:∀i,i<n->(nx i).length<=140737488355328)(hs:w0.heap.size<=A.s)(hR:ET w0 no n nx)(h:TjK w0 w A (Y no n nc) n nx seen k0) :
  G qA 107 #[H (X ⟨A.b,0,Z⟩)] w fun e w'=>e=I (.tuple #[])/\U (GH w0 w' A (Y no n nc) n nx seen):=by
 have HNX:U (∀i,i<n->∀k∈nx i,k<n):=hnx;have HXL:U (∀i,i<n->(nx i).length<=140737488355328):=hxl;have HR:U (ET w0 no n nx):=hR;have H0:U (TjK w0 w A (Y no n nc) n nx seen k0):=h;clear hnx hxl hR h;go_enter Tryz.func107,Tryz.ntmps107;go_wp2_with fail
 go_loopg [] k0 (fun k wr=>U (TjK w0 wr A (Y no n nc) n nx seen k))
 case atStart=>exact H0
 case round=>
  obtain⟨F,wh,lo,go,pt,met,⟨dv,ov,hT,hW⟩,hgk,hseen⟩:=hrel.out;have HT:U (Tj n nx F wh lo go pt met):=hT;have HW:U (TjW w0 wr A (Y no n nc) n dv ov (Ah F) (AE F) wh lo go pt met):=hW;have HK:U (gk=2*left nx go n+F.length):=hgk;have HS:U (∀x,seen x->wh x≠0):=hseen;clear hrel hT hW hgk hseen H0;cases F with
  |nil=>
   obtain⟨ao,dc,rfl⟩:=Au HW.out.od;have k5:wr.cell? ⟨A.b,5,Z⟩=X (Y ao 0 dc):=HW.out.dn;have HE:U (GH w0 wr A (Y no n nc) n nx seen):=⟨wh,lo,go,pt,met,⟨_,_,HT.out,HW.out⟩,HS.out⟩;clear HW HT HK HS;go_wp2_with fail
   go_end0
   exact⟨rfl,HE⟩
  |cons f F=>
   obtain⟨p,r⟩:=f;have hpo:p∈AE ((p,r)::F):=B8;have hpn:=HT.out.lt p hpo;have hfew:=HT.out.few_opens;have hdn:=GS ((p,r)::F);have hDl:(Ah ((p,r)::F)).length=(Ah F).length+1:=by simp[Ah]
   obtain⟨g,c,rfl,hgt,hgl⟩:=HW.out.od.form (by omega);obtain⟨hNc,hgA,hcell⟩:=EG HW.out.od;have hcp:=hcell (Ah F).length (by omega);have e1:(Ah ((p,r)::F)).getD (Ah F).length 0=p:=by simp[Ah,qC]
   rw[e1]at hcp;rw[hDl]at HW;have k5:=HW.out.dn;obtain⟨D,hD⟩:∃D,D=(Ah F).length:=⟨_,rfl⟩;rw[<-hD]at HW k5 hcp;have hD2:D+1<=20000:=by omega
   have hb0:=(HW.out.below.mono hs);obtain⟨nb,noff,rfl,hnb,uo,uc,hcu0,hnv0⟩:=HR.out p hpn;have hcu:=(hb0.cell (p:=⟨nb,noff+p,Z⟩) hnb).trans hcu0;have hnv:=hnv0.below hb0;have k2:=HW.out.gn;have k9:=HW.out.cg;have r9:wr.cell? ⟨A.bg,p,Z⟩=X (.int V (go p:Int)):=HW.out.rg.cell hpn;have hgo:=HT.out.gole p hpn;have hxp:=HXL.out p hpn;have HGl:U (go p<=(nx p).length):=hgo;clear hcell hDl e1 hdn hfew hNc hcu0 hnv0 hb0 hD;obtain⟨ln,hln⟩:∃ln,ln=(nx p).length:=⟨_,rfl⟩;have HLN:U (ln=(nx p).length):=hln;rw[<-hln]at hcu hnv hgo hxp;obtain⟨gp,hgp⟩:∃gp,gp=go p:=⟨_,rfl⟩;have HGP:U (gp=go p):=hgp;rw[<-hgp]at r9 hgo;clear hln hgp;by_cases hgl2:gp=ln
   .have hleave:=fun q=>WE w0 (wr.drewN q) A (Y (X ⟨nb,noff,Z⟩) n nc) n nx p r F wh lo go pt met hA hn HNX.out (by rw[<-HGP.out,<-HLN.out];exact hgl2) ⟨_,_,HT.out,HW.out.drewN q⟩;subst hgl2;go_wp2_with fail
    go_quiet (fail)
    go_wp2_with fail
    go_quiet (fail)
    go_wp2_with (go_at_call 136;refine(hleave _).mono ?_;rintro e w2 ⟨rfl,HW2⟩)
    go_roundg (2*left nx go n+F.length)
    case measure=>rw[HK.out];simp
    case rel=>
     obtain⟨F',lo',pt',h1,h2⟩:=HW2.out;exact⟨F',wh,lo',go,pt',met,h2,by rw[h1],HS.out⟩
   .have hgl3:gp<ln:=by omega
    have hgj:go p<(nx p).length:=by rw[<-HGP.out,<-HLN.out];exact hgl3
    obtain⟨ub,uoff,rfl,hub,hcy⟩:=hnv.num (i:=gp) (by rw[<-HLN.out];exact hgl3);obtain⟨y,hy⟩:∃y,y=(nx p).getD gp 0:=⟨_,rfl⟩;rw[<-hy]at hcy;have hyn:y<n:=by
     rw[hy];refine HNX.out p hpn _ ?_;rw[qC,qH (by rw[<-HLN.out];exact hgl3)];exact qR _
    have HY:U ((nx p).getD (go p) 0=y):=by show _=_;rw[<-HGP.out];exact hy.symm
    have H1:U (∀m,TjW w0 ((wr.drewN m).setCell ⟨A.bg,p,Z⟩ (.int V ((gp+1:Nat):Int))) A (Y (X ⟨nb,noff,Z⟩) n nc) n (Y (X ⟨g,0,Z⟩) (D+1) c) ov (Ah ((p,r)::F)) (AE ((p,r)::F)) wh lo (upd go p (gp+1)) pt met):=fun m=>(HW.out.drewN m).setG hA p (gp+1);have e1:((gp+1:Nat):Int)=(gp:Int)+1:=by omega
    rw[e1]at H1;have f9:=HW.out.rg.frozen p;have HLft:U (left nx (upd go p (gp+1)) n+1=left nx go n):=by
     have:=L0 (nx:=nx) (go:=go) hgj hpn;rw[<-HGP.out]at this;exact this
    have hmet:met<=n:=by rw[HT.out.few];exact G2 _ _
    clear hy e1 hnv;go_wp2_with fail
    go_quiet (fail)
    generalize nq=nq1;go_wp2_with fail
    go_quiet (fail)
    generalize nq=nq2;go_wp2_with fail
    go_quiet (fail)
    generalize nq=nq3;go_upto_region 6 with fail
    have H5:U _:=H1.out (nq1+nq2+nq3);clear H1 HW hcp k5 hcu k2 k9 r9 hcy f9 hub;generalize(wr.drewN (nq1+nq2+nq3)).setCell ⟨A.bg,p,Z⟩ (.int V ((gp:Int)+1))=w5 at H5⊢;have k7:=H5.out.cw;have r7:w5.cell? ⟨A.bw,y,Z⟩=X (.int V (wh y:Int)):=H5.out.rw.cell hyn;by_cases hwy:wh y=0
    .have HTd:U (Tj n nx ((y,[])::(p,r)::F) (upd wh y (met+1)) (upd lo y (met+1)) (upd go p (gp+1)) pt (met+1)):=by
      have:=HT.out.descend hgj HY.out hyn hwy;rw[<-HGP.out]at this;exact this
     have hlt:met<n:=by rw[HT.out.few];exact Mc hwy hyn
     have hfw:=HT.out.few_opens;have hdw:=GS ((p,r)::F);have hme:=Ns w0 w5 A (Y (X ⟨nb,noff,Z⟩) n nc) n (Y (X ⟨g,0,Z⟩) (D+1) c) ov (Ah ((p,r)::F)) (AE ((p,r)::F)) wh lo (upd go p (gp+1)) pt met y hA hyn (by omega) (by omega) (by omega) H5.out;rw[hwy]at r7;have HSy:U (∀x,seen x->upd wh y (met+1) x≠0):=fun x hx=>by
      by_cases e:x=y
      .subst e;rw[A9];omega
      .rw[Al e];exact HS.out x hx
     have HLf2:U (2*left nx (upd go p (gp+1)) n+((y,[])::(p,r)::F).length<gk):=by
      show _<_;have h1:=HLft.out;rw[HK.out];simp only[qY];omega
     clear HLft HK HT HS H5 hwy;go_wp2_with (go_at_call 106;refine hme.mono ?_;rintro e w6 ⟨rfl,HW6⟩)
     go_roundg (2*left nx (upd go p (gp+1)) n+((y,[])::(p,r)::F).length)
     case measure=>exact HLf2.out
     case rel=>
      obtain⟨dv',ov',h6⟩:=HW6.out;exact⟨(y,[])::(p,r)::F,_,_,_,_,_,⟨dv',ov',HTd.out,h6⟩,rfl,HSy.out⟩
    .have hwy2:¬(wh y:Int)=0:=by omega
     have HLf2:U (2*left nx (upd go p (gp+1)) n+((p,r)::F).length<gk):=by
      show _<_;have h1:=HLft.out;rw[HK.out];omega
     have k11:=H5.out.cp;have r11:w5.cell? ⟨A.bp,y,Z⟩=X (.int V (pt y)):=H5.out.rp.cell hyn;by_cases hpy:pt y=-1
     .have hyo:y∈AE ((p,r)::F):=(HT.out.old y hyn hwy).resolve_right (fun x=>x hpy);have HTa:U (Tj n nx ((p,r)::F) wh (upd lo p (min (lo p) (wh y))) (upd go p (gp+1)) pt met):=by
       have:=HT.out.along (v:=min (lo p) (wh y)) hgj HY.out (zG _ _) (by
        by_cases hm:lo p<=wh y
        .exact .inl (jT hm)
        .exact .inr ⟨xX (by omega),hyo⟩) (.inr ⟨hyo,xG _ _⟩)
       rw[<-HGP.out]at this;exact this
      have HWa:U (TjW w0 (w5.setCell ⟨A.bl,p,Z⟩ (.int V ((min (lo p) (wh y):Nat):Int))).drew A (Y (X ⟨nb,noff,Z⟩) n nc) n (Y (X ⟨g,0,Z⟩) (D+1) c) ov (Ah ((p,r)::F)) (AE ((p,r)::F)) wh (upd lo p (min (lo p) (wh y))) (upd go p (gp+1)) pt met):=(H5.out.setL hA p _).drew;have k8:=H5.out.cl;have r8:w5.cell? ⟨A.bl,p,Z⟩=X (.int V (lo p:Int)):=H5.out.rl.cell hpn;have f8:=H5.out.rl.frozen p;rw[hpy]at r11;clear HLft HK HT H5 hwy hpy;generalize wh y=b at *;generalize lo p=a at *;obtain⟨mm,hmm⟩:∃mm,mm=min a b:=⟨_,rfl⟩
      rw[<-hmm]at HTa HWa;by_cases hba:b<a
      .obtain rfl:mm=b:=by omega
       have h1:(mm:Int)<(a:Int):=by omega
       clear hmm;go_wp2_with fail
       go_region
       go_wp2_with fail
       go_roundg (2*left nx (upd go p (gp+1)) n+((p,r)::F).length)
       case measure=>exact HLf2.out
       case rel=>exact⟨(p,r)::F,_,_,_,_,_,⟨_,_,HTa.out,HWa.out⟩,rfl,HS.out⟩
      .obtain rfl:mm=a:=by omega
       have h1:¬(b:Int)<(mm:Int):=by omega
       clear hmm;go_wp2_with fail
       go_region
       go_wp2_with fail
       go_roundg (2*left nx (upd go p (gp+1)) n+((p,r)::F).length)
       case measure=>exact HLf2.out
       case rel=>exact⟨(p,r)::F,_,_,_,_,_,⟨_,_,HTa.out,HWa.out⟩,rfl,HS.out⟩
     .have HTa:U (Tj n nx ((p,r)::F) wh lo (upd go p (gp+1)) pt met):=by
       have:=HT.out.along (v:=lo p) hgj HY.out (qB _) (.inl rfl) (.inl hpy);have e:upd lo p (lo p)=lo:=by
        funext x;by_cases hx:x=p
        .subst hx;rw[A9]
        .rw[Al hx]
       rw[e,<-HGP.out]at this;exact this
      generalize wh y=b at *;generalize pt y=c1 at *;clear HLft HK HT
      go_wp2_with fail
      go_roundg (2*left nx (upd go p (gp+1)) n+((p,r)::F).length)
      case measure=>exact HLf2.out
      case rel=>exact⟨(p,r)::F,_,_,_,_,_,⟨_,_,HTa.out,H5.out⟩,rfl,HS.out⟩
def Ev:Array Value:=#[Y Z 0 0,.int V 0,Y Z 0 0,Y Z 0 0,.int V 0,Y Z 0 0,Y Z 0 0,Y Z 0 0,Y Z 0 0,Y Z 0 0,.int V 0,Y Z 0 0]
def C5(g0 g1 g2 g3 g4 v1 v2 v3 v4:T):Array Value:=#[g0,g1,g2,g3,g4,Y Z 0 0,Y Z 0 0,v1,v2,v3,.int V 0,v4]
theorem Ut(s:String)(af:Array Edge)(ev:Operand->T)(w:O)(b:Nat)(so no bo:Option Addr)(sc nc bn bc n:Nat)(gi gm:Int)(b1 b2 b3 b4:Nat)(h4:ev (.tmp 4)=H (X ⟨b,0,Z⟩))(h19:ev (.tmp 19)=.agg (C5 (Y so n sc) (.int V gi) (Y no n nc) (Y bo bn bc) (.int V gm) (Y (X ⟨b1,0,Z⟩) n n) (Y (X ⟨b2,0,Z⟩) n n) (Y (X ⟨b3,0,Z⟩) n n) (Y (X ⟨b4,0,Z⟩) n n)))(hb:w.heap[b]? = X (.cells Ev 215 (0,0))):∃w',(execOp ev ⟨Z,.store 215 (.tmp 4) (.tmp 19),0,s,af,Z⟩).run qA w=.ok .skip w'/\w'.heap[b]? = X (ZZ (C5 (Y so n sc) (.int V gi) (Y no n nc) (Y bo bn bc) (.int V gm) (Y (X ⟨b1,0,Z⟩) n n) (Y (X ⟨b2,0,Z⟩) n n) (Y (X ⟨b3,0,Z⟩) n n) (Y (X ⟨b4,0,Z⟩) n n)) 215 (0,0))/\(∀i,i≠b->w'.heap[i]? = w.heap[i]?)/\∀B W,B<=b->J B W w->J B W w':=by
 have hc:∀j,w.cell? ⟨b,j,Z⟩=Ev[j]?:=fun j=>by simp[br,hb]
 have hf:∀j,w.frozen? ⟨b,j,Z⟩=false:=fun j=>by simp[World.frozen?,hb]
 refine⟨w.setCells b 0 (C5 (Y so n sc) (.int V gi) (Y no n nc) (Y bo bn bc) (.int V gm) (Y (X ⟨b1,0,Z⟩) n n) (Y (X ⟨b2,0,Z⟩) n n) (Y (X ⟨b3,0,Z⟩) n n) (Y (X ⟨b4,0,Z⟩) n n)).toList,?_,?_,?_,?_⟩
 .simp[execOp,h4,h19,go_sem,hc,hf,Ev,C5,gC]
 .simp[C5,gC,bu,qS,hb,Ev]
 .intro i hi;simp[C5,gC,bu,qS,Ne.symm hi]
 .intro B W hB h;simp only[C5,gC];repeat (first|refine Below.setCell ?_ hB _|exact h)
def pwP(g:T)(n i:Nat)(v:T)(w:O):Prop:=(i=0->v=g)/\(i=1\/i=3\/i=5\/i=7->v=.int V (n:Int))/\(i=2\/i=4\/i=6\/i=8->∃b,v=Y (X ⟨b,0,Z⟩) n n/\w.rowIs b 3 n (fun _=>.int V 0))/\(i=10->∃b,v=H (X ⟨b,0,Z⟩)/\w.heap[b]? = X (.cells Ev 215 (0,0)))
theorem UD(g:T)(n i:Nat)(v:T)(w w':O)(h:pwP g n i v w)(hb:J w.heap.size w w'):pwP g n i v w':=by
 obtain⟨h0,h1,h2,h3⟩:=h;refine⟨h0,h1,fun hi=>?_,fun hi=>?_⟩
 .obtain ⟨b,e,hr⟩:=h2 hi;exact⟨b,e,EJ hr hb⟩
 .obtain ⟨b,e,hr⟩:=h3 hi;exact⟨b,e,(hb.block b (qG.1 hr).1).trans hr⟩
theorem pwP.val{g:T}{n i:Nat}{v:T}{w:O}(h:(i=0/\v=g)\/((i=1\/i=3\/i=5\/i=7)/\v=.int V (n:Int))\/i=9):pwP g n i v w:=by
 refine⟨fun hi=>?_,fun hi=>?_,fun hi=>?_,fun hi=>?_⟩
 .rcases h with⟨_,h⟩|⟨h,_⟩|h
  .exact h
  .omega
  .omega
 .rcases h with⟨h,_⟩|⟨_,h⟩|h
  .omega
  .exact h
  .omega
 .omega
 .omega
theorem pwP.row{g:T}{n i b:Nat}{w:O}(hi:i=2\/i=4\/i=6\/i=8)(h:w.rowIs b 3 n (fun _=>.int V 0)):pwP g n i (Y (X ⟨b,0,Z⟩) n n) w:=⟨fun _=>by omega,fun _=>by omega,fun _=>⟨b,rfl,h⟩,fun _=>by omega⟩
theorem pwP.box{g:T}{n b:Nat}{w:O}(h:w.heap[b]? = X (.cells Ev 215 (0,0))):pwP g n 10 (H (X ⟨b,0,Z⟩)) w:=⟨fun _=>by omega,fun _=>by omega,fun _=>by omega,fun _=>⟨b,rfl,h⟩⟩
def pwR(g0 g1 g2 g3 g4:T)(i:Nat)(q:Nat->T)(v:T):Prop:=i=9->v=.agg (C5 g0 g1 g2 g3 g4 (q 12) (q 14) (q 16) (q 18))
def pwN(i:Nat):Bool:=[2,4,6,8,10].contains i
theorem Hk{o:Oper}{a:Act}{w:O}{n i:Nat}{g:T}{rl:T->Prop}{Q:Exit->Act->O->Prop}(t:Nat)(hn:n<=20000)(hi:i=2\/i=4\/i=6\/i=8)(ho:o.op=.makeSlice 43 (.tmp t) (.tmp t))(hl:∀v,rl v)(h:a.eval (.tmp t)=.int V (n:Int)):Oper.wp qA o a w (fun a' w'=>∃v,a'=a.put o.dst v/\J w.heap.size w w'/\pwP g n i v w'/\rl v/\∀b,pwN i=true->blk v=X b->w.heap.size<=b/\b<w'.heap.size) Q:=by
 have hmk:=run_make_row' (P:=qA) 43 3 (.int V 0) 8 aD BS rfl .i64 .i64 n (by omega) (by omega) w;refine Bh (v:=Y (X ⟨w.heap.size,0,Z⟩) n n) (w':=w.alloc (ZZ (madeCells #[.int V 0] n) 3)) ?_ (ai) ⟨pwP.row hi (eL _ _ _ _),hl _,fun b _ hb=>?_⟩
 .generalize a.eval=ev at h⊢;simp[execOp,ho,h,go_sem,hmk]
 .obtain rfl:w.heap.size=b:=by simpa[blk]using hb
  simp
theorem Hl{o:Oper}{a:Act}{w:O}{n i:Nat}{g:T}{rl:T->Prop}{Q:Exit->Act->O->Prop}(hi:i=1\/i=3\/i=5\/i=7)(ho:o.op=.move (.tmp 3))(hl:∀v,rl v)(h:a.eval (.tmp 3)=.int V (n:Int)):Oper.wp qA o a w (fun a' w'=>∃v,a'=a.put o.dst v/\J w.heap.size w w'/\pwP g n i v w'/\rl v/\∀b,pwN i=true->blk v=X b->w.heap.size<=b/\b<w'.heap.size) Q:=by
 refine Bh (v:=.int V (n:Int)) (w':=w) ?_ (qD _ _) ⟨pwP.val (.inr (.inl ⟨hi,rfl⟩)),hl _,fun b _ h=>nomatch h⟩;generalize a.eval=ev at h⊢;simp[execOp,ho,h,go_sem]
