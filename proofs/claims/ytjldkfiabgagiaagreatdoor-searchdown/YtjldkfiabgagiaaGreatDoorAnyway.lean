import Derived.Test.YtjldkfiabgagiaaGreatDoorMem
import Derived.Deep.AppendLies
open Go renaming World→W,Value→Y
open _root_.Bool renaming false→X
open _root_.Option renaming some→Z
namespace Go.Proofs.YtjldkfiabgagiaaGreatDoor
open _root_.Array renaming all_eq_true_iff_forall_mem→xU,getD_eq_getD_getElem?→vH,getElem?_eq_getElem→qO,getElem?_setIfInBounds→zJ,getElem?_toList→jO,size_setIfInBounds→jD
open _root_.Bool renaming and_eq_true→qK
open _root_.List renaming all_eq_true→jB,any_eq_true→vC,getElem?_eq_getElem→qH,getElem?_toArray→j9,mem_range→vE
open _root_.Nat renaming blt_eq→jX,le_refl→qB,lt_or_ge→vP,zero_add→qV
open _root_.Option renaming getD_some→vQ,map_some→yC
open Go.ChangeShapes Go.WideShapes Go.ChangeAt Go.RowKit Go.Deep
set_option maxHeartbeats 6400000
set_option maxRecDepth 20000
section
theorem J0{P:Program}{md:Region.Mode}{ops:Array Oper}{Q:Exit->Act->W->Prop}(I:Nat->Array Bool->Act->W->Prop)
  (hs:∀k l a w,I k l a w->(Region.ready md ops l=[]->Q .normal a w)/\(k=0->Region.ready md ops l=[])/\∀k',k=k'+1->∀i∈Region.ready md ops l,wpOp P ops Q i (fun a' w'=>I k' (l.setIfInBounds i true) a' w') a w) :
  ∀k l a w,I k l a w->wpAny P md ops Q k l a w
 |0,l,a,w,h=>⟨(hs 0 l a w h).2.1 rfl,(hs 0 l a w h).1 ((hs 0 l a w h).2.1 rfl)⟩
 |k+1,l,a,w,h=>⟨(hs _ l a w h).1,fun i hi=>wpOp_mono (fun a' w' h'=>J0 I hs k _ a' w' h') ((hs _ l a w h).2.2 k rfl i hi)⟩
def mix(ds:List Nat)(q:Nat->Y):Nat->List Y->List Y
 |_,[]=>[]
 |t,v::l=>(if ds.contains t then q t else v)::mix ds q (t+1) l
def frm(a:Act)(ds:List Nat)(q:Nat->Y):Act:=⟨(mix ds q 0 a.tmps.toList).toArray,a.defers⟩
theorem Fo(ds:List Nat)(q:Nat->Y):∀(l:List Y) (t j:Nat),(mix ds q t l)[j]? = (l[j]?).map fun v=>if ds.contains (t+j)then q (t+j)else v
 |[],t,j=>by simp[mix]
 |v::l,t,0=>by simp[mix]
 |v::l,t,j+1=>by
  show(mix ds q (t+1) l)[j]? = (l[j]?).map _;rw[Fo ds q l (t+1) j,show t+1+j=t+(j+1) by omega]
theorem L0(ds:List Nat)(q:Nat->Y):∀(l:List Y) (t:Nat),(mix ds q t l).length=l.length
 |[],t=>rfl
 |v::l,t=>by show(mix ds q (t+1) l).length+1=_;rw[L0 ds q l (t+1)];rfl
theorem DT{a:Act}{ds:List Nat}{q:Nat->Y}{t:Nat}(h:ds.contains t=true)(ht:t<a.tmps.size):(frm a ds q).eval (.tmp t)=q t:=by
 show(mix ds q 0 a.tmps.toList).toArray.getD t undef=q t;rw[vH,j9,Fo,qV,h];have:a.tmps.toList[t]? = Z (a.tmps.toList[t]'(by simpa using ht)):=qH _;rw[this];rfl
theorem DZ{a:Act}{ds:List Nat}{q:Nat->Y}{t:Nat}(h:ds.contains t=X):(frm a ds q).eval (.tmp t)=a.eval (.tmp t):=by
 show(mix ds q 0 a.tmps.toList).toArray.getD t undef=a.tmps.getD t undef;rw[vH,j9,Fo,qV,h,vH,<-jO];cases a.tmps.toList[t]?<;>rfl
theorem L3{ds:List Nat}:∀(l:List Y) (q:Nat->Y) (t:Nat),(∀j,j<l.length->q (t+j)=l.getD j undef)->mix ds q t l=l
 |[],_,_,_=>rfl
 |v::l,q,t,h=>by
  show(if ds.contains t then q t else v)::mix ds q (t+1) l=v::l;rw[L3 l q (t+1) (fun j hj=>by have:=h (j+1) (by simp;omega);rw[show t+1+j=t+(j+1) by omega];exact this)];have:=h 0 (by simp);have h0:q t=v:=this;rw[h0];split<;>rfl
theorem LG(a:Act)(ds:List Nat):frm a ds (fun t=>a.eval (.tmp t))=a:=by
 unfold frm;rw[L3];intro j hj;show a.tmps.getD (0+j) undef=a.tmps.toList.getD j undef;rw[qV,vH,List.getD_eq_getElem?_getD,jO]
def DM(q:Nat->Y)(t:Nat)(v:Y):Nat->Value:=fun s=>if s=t then v else q s
theorem DY(q:Nat->Y)(t:Nat)(v:Y):DM q t v t=v:=if_pos rfl
theorem C8{q:Nat->Y}{s t:Nat}{v:Y}(h:s≠t):DM q t v s=q s:=if_neg h
theorem Gb{a:Act}{ds:List Nat}{q:Nat->Y}{t:Nat}{v:Y}(h:ds.contains t=true):(frm a ds q).put (Z t) v=frm a ds (DM q t v):=by
 show Act.mk ((mix ds q 0 a.tmps.toList).toArray.setIfInBounds t v) a.defers=Act.mk (mix ds (DM q t v) 0 a.tmps.toList).toArray a.defers;congr 1
 apply Array.ext_getElem?
 intro j;rw[zJ,j9,j9,Fo,Fo,qV];by_cases hj:t=j
 .subst hj;rw[if_pos rfl,h];simp only[List.size_toArray,L0,Array.length_toList];by_cases hs:t<a.tmps.size
  .rw[if_pos hs];rw[show a.tmps.toList[t]? = Z (a.tmps.toList[t]'(by simpa using hs))from qH _];simp[DM]
  .rw[if_neg hs,List.getElem?_eq_none (by simpa using hs)];rfl
 .rw[if_neg hj];cases a.tmps.toList[j]? with
  |none=>rfl
  |some u=>
   show Z _=Z _;rw[C8 (fun e=>hj e.symm)]
def Am(ops:Array Oper)(i k:Nat):Bool:=match ops[i]? with|some o=>o.after.toList.any (fun e=>Region.binds .any e&&e.on == k)|none=>X
def Ap(ops:Array Oper)(k:Nat):Option Nat:=match ops[k]? with|some o=>o.dst|none=>none
def Jg (ops:Array Oper) (ds:List Nat) (size m:Nat):Bool:=
  (List.range ops.size).all (fun i=>match ops[i]? with
    |some o=>o.guard.isNone&&o.after.toList.all (fun e=>!Region.binds .any e||Nat.blt e.on i)&&(if i<m then(match o.dst with
        |some t=>ds.contains t&&Nat.blt t size&&(List.range m).all (fun j=>j == i||!(Ap ops j == Z t))&&(List.range (m+1)).any (fun k=>Nat.blt i k&&Am ops k i)
        |none=>X)else(List.range i).all (fun j=>Nat.blt j m&&i == m||Am ops i j))
    |none=>X)&&Nat.blt m ops.size
structure Shape(ops:Array Oper)(ds:List Nat)(size m:Nat):Prop where
 lt:m<ops.size
 guard:∀(i:Nat) (o:Oper),ops[i]? = Z o->o.guard=none
 before:∀(i:Nat) (o:Oper) (e:Edge),ops[i]? = Z o->e∈o.after->Region.binds .any e=true->e.on<i
 dst:∀(i:Nat) (o:Oper),i<m->ops[i]? = Z o->∃t,o.dst=Z t/\ds.contains t=true/\t<size/\∀j,j<m->j≠i->Ap ops j≠Z t
 heir:∀i,i<m->∃k,i<k/\k<=m/\Am ops k i=true
 late:∀i j,m<=i->i<ops.size->j<i->(j<m/\i=m)\/Am ops i j=true
theorem UY {ops:Array Oper} {ds:List Nat} {size m:Nat} (h:Jg ops ds size m=true):Shape ops ds size m:=by
  unfold Jg at h;rw[qK,jB]at h;obtain⟨h1,h2⟩:=h;have hm:m<ops.size:=by simpa[jX]using h2
  have hi:∀i o,ops[i]? = Z o→(o.guard.isNone&&o.after.toList.all (fun e=>!Region.binds .any e||Nat.blt e.on i)&&(if i<m then(match o.dst with
        |some t=>ds.contains t&&Nat.blt t size&&(List.range m).all (fun j=>j == i||!(Ap ops j == Z t))&&(List.range (m+1)).any (fun k=>Nat.blt i k&&Am ops k i)
        |none=>X)else(List.range i).all (fun j=>Nat.blt j m&&i == m||Am ops i j)))=true:=fun i o ho=>by
    have hlt:i<ops.size:=by
      rcases vP i ops.size with h|h
      . exact h
      . rw[Array.getElem?_eq_none h]at ho;cases ho
    have:=h1 i (vE.2 hlt);rw[ho]at this;exact this
  refine⟨hm,fun i o ho=>?_,fun i o e ho he hb=>?_,fun i o him ho=>?_,fun i him=>?_,fun i j him hlt hj=>?_⟩
  . have:=hi i o ho
    rw[qK,qK]at this;simpa using this.1.1
  . have:=hi i o ho
    rw[qK,qK,jB]at this;have:=this.1.2 e (by simpa using he);rw[hb]at this;simpa[jX]using this
  . have:=hi i o ho
    rw[qK,if_pos him]at this;have:=this.2;cases hd:o.dst with
    |none=>rw[hd]at this;cases this
    |some t=>
      rw[hd]at this;simp only[qK,jB]at this;obtain⟨⟨⟨e1,e2⟩,e3⟩,e4⟩:=this;refine⟨t,rfl,e1,by simpa[jX]using e2,fun j hj hne he=>?_⟩;have:=e3 j (vE.2 hj);rw[he]at this;simp[hne]at this
  . have hlt:i<ops.size:=by omega
    have:=hi i ops[i] (qO hlt);rw[qK,if_pos him]at this;have:=this.2;cases hd:ops[i].dst with
    |none=>rw[hd]at this;cases this
    |some t=>
      rw[hd]at this;simp only[qK,vC]at this;obtain⟨_,k,hk,h5,h6⟩:=this;have:=vE.1 hk;exact⟨k,by simpa[jX]using h5,by omega,h6⟩
  . have:=hi i ops[i] (qO hlt)
    rw[qK,if_neg (by omega),jB]at this;have:=this.2 j (vE.2 hj);simp only[Bool.or_eq_true,qK,beq_iff_eq,jX]at this;exact this
def AV(l:Array Bool)(i:Nat):Prop:=l[i]? = Z true
theorem D9{ops:Array Oper}{l:Array Bool}(hl:l.size=ops.size){i:Nat}:i∈Region.ready .any ops l↔i<ops.size/\¬AV l i/\∀k,Am ops i k=true->AV l k:=by
 unfold Region.ready;rw[List.mem_filter,vE];constructor
 .rintro ⟨h1,h2⟩;have hi:i<l.size:=by omega
  rw[qK]at h2;obtain⟨h2,h3⟩:=h2;refine⟨h1,fun hd=>?_,fun k hk=>?_⟩
  .unfold AV at hd;rw[vH,hd]at h2;simp at h2
  .unfold Am at hk;rw[qO h1]at h3 hk;simp only[yC,vQ,xU]at h3;simp only[vC,qK,beq_iff_eq]at hk;obtain⟨e,he,hb,hon⟩:=hk;have:=h3 e (by simpa using he);rw[hb,hon]at this;simp only[Bool.not_true,Bool.false_or,vH]at this;unfold AV;cases hx:l[k]? with
   |none=>rw[hx]at this;simp at this
   |some b=>rw[hx]at this;simp at this;rw[this]
 .rintro ⟨h1,h2,h3⟩;have hi:i<l.size:=by omega
  refine⟨h1,?_⟩;rw[qK];constructor
  .rw[vH,qO hi];unfold AV at h2;rw[qO hi]at h2;cases hx:l[i]with
   |true=>rw[hx]at h2;exact absurd rfl h2
   |false=>rfl
  .rw[qO h1];simp only[yC,vQ,xU];intro e he;cases hb:Region.binds .any e with
   |false=>rfl
   |true=>
    have:=h3 e.on (by unfold Am;rw[qO h1];simp only[vC,qK,beq_iff_eq];exact⟨e,by simpa using he,hb,rfl⟩);unfold AV at this;rw[vH,this];rfl
def DG(l:Array Bool):Nat:=l.toList.count X
theorem Lj{l:Array Bool}{i:Nat}(hi:i<l.size)(h:¬AV l i):DG (l.setIfInBounds i true)+1=DG l:=by
 unfold DG;rw[Array.toList_setIfInBounds];have hl:i<l.toList.length:=by simpa using hi
 have hf:l.toList[i]=false:=by
  unfold AV at h;rw[qO hi]at h;have e:l.toList[i]=l[i]:=Array.getElem_toList _;rw[e];cases hx:l[i]with
  |true=>rw[hx]at h;exact absurd rfl h
  |false=>rfl
 have hpos:0<l.toList.count false:=List.count_pos_iff.2 (hf▸List.getElem_mem hl);rw[List.count_set hl,hf];show l.toList.count X-1+0+1=l.toList.count X;omega
theorem Ll{l:Array Bool}(h:DG l=0){i:Nat}(hi:i<l.size):AV l i:=by
 unfold DG at h;have h0:X∉l.toList:=List.count_eq_zero.1 h;unfold AV;rw[qO hi];cases hx:l[i]with
 |true=>rfl
 |false=>exact absurd (by rw[<-hx];exact Array.getElem_mem_toList hi) h0
theorem BV{l:Array Bool}{i j:Nat}(hi:i<l.size):AV (l.setIfInBounds i true) j↔j=i\/AV l j:=by
 unfold AV;rw[zJ];by_cases h:i=j
 .subst h;simp[hi]
 .rw[if_neg h];constructor
  .exact .inr
  .rintro (h2|h2)
   .exact absurd h2.symm h
   .exact h2
def blk:Y->Option Nat
 | .slice (Z a) _ _=>Z a.block
 | .pointer (Z a)=>Z a.block
 |_=>none
structure Early(ops:Array Oper)(m:Nat)(W0:W)(post:Nat->Y->W->Prop)(new:Nat->Bool)(rel:Nat->(Nat->Y)->Y->Prop)(l:Array Bool)(q:Nat->Y)(w:W):Prop where
 size:l.size=ops.size
 later:∀i,m<=i->¬AV l i
 closed:∀i k,AV l i->Am ops i k=true->AV l k
 below:Below W0.heap.size W0 w
 posts:∀i t,i<m->AV l i->Ap ops i=Z t->post i (q t) w
 links:∀i t,i<m->AV l i->Ap ops i=Z t->rel i q (q t)
 own:∀i t b,i<m->AV l i->new i=true->Ap ops i=Z t->blk (q t)=Z b->W0.heap.size<=b/\b<w.heap.size
 dis:∀i j t s b,i<m->j<m->i≠j->AV l i->AV l j->new i=true->new j=true->Ap ops i=Z t->Ap ops j=Z s->blk (q t)=Z b->blk (q s)≠Z b
theorem Mp{ops:Array Oper}{ds:List Nat}{size m:Nat}(hs:Shape ops ds size m){l:Array Bool}(hl:l.size=ops.size){j:Nat}(hj:j<ops.size)(hd:¬AV l j):Region.ready .any ops l≠[]:=by
 have key:∀n j,j<=n->j<ops.size->¬AV l j->∃i,i∈Region.ready .any ops l:=by
  intro n;induction n with
  |zero=>
   intro j hj0 hj hd;refine⟨j,(D9 hl).2 ⟨hj,hd,fun k hk=>?_⟩⟩;unfold Am at hk;rw[qO hj]at hk;simp only[vC,qK,beq_iff_eq]at hk;obtain⟨e,he,hb,hon⟩:=hk;have:=hs.before j ops[j] e (qO hj) (by simpa using he) hb;omega
  |succ n ih=>
   intro j hj0 hj hd;by_cases h:∀k,Am ops j k=true->AV l k
   .exact ⟨j,(D9 hl).2 ⟨hj,hd,h⟩⟩
   .obtain ⟨k,hk⟩:=Classical.not_forall.1 h;obtain⟨hk,hnd⟩:=Classical.not_imp.1 hk;have hk2:=hk;unfold Am at hk;rw[qO hj]at hk;simp only[vC,qK,beq_iff_eq]at hk;obtain⟨e,he,hb,hon⟩:=hk;have:=hs.before j ops[j] e (qO hj) (by simpa using he) hb;exact ih k (by omega) (by omega) hnd
 intro h;obtain⟨i,hi⟩:=key j j (qB _) hj hd;rw[h]at hi;cases hi
theorem OG{ops:Array Oper}{ds:List Nat}{size m:Nat}(hs:Shape ops ds size m){l:Array Bool}(hc:∀i k,AV l i->Am ops i k=true->AV l k)(hm:∀k,Am ops m k=true->AV l k):∀i,i<m->AV l i:=by
 have key:∀n i,m-i<=n->i<m->AV l i:=by
  intro n;induction n with
  |zero=>intro i h1 h2;omega
  |succ n ih=>
   intro i h1 h2;obtain⟨k,h3,h4,h5⟩:=hs.heir i h2;by_cases hk:k=m
   .subst hk;exact hm i h5
   .exact hc k i (ih k (by omega) (by omega)) h5
 exact fun i hi=>key _ i (qB _) hi
theorem Jy{ops:Array Oper}{ds:List Nat}{size m:Nat}(hs:Shape ops ds size m){i k:Nat}(h:Am ops i k=true):k<i:=by
 unfold Am at h;cases ho:ops[i]? with
 |none=>rw[ho]at h;cases h
 |some o=>
  rw[ho]at h;simp only[vC,qK,beq_iff_eq]at h;obtain⟨e,he,hb,hon⟩:=h;have:=hs.before i o e ho (by simpa using he) hb;omega
theorem Vw {P:Program} {id:Nat} {ops:Array Oper} {Q:Exit->Act->W->Prop} {a0:Act} {w0:W} (hmo:P.follows .mixedOrders=true) (ds:List Nat) (m:Nat) (post:Nat->Y->W->Prop) (new:Nat->Bool) (rel:Nat->(Nat->Y)->Y->Prop)
    (hsh:Jg ops ds a0.tmps.size m=true)
    (hrel:∀i q v t u,i<m->(∀k s,Am ops i k=true->Ap ops k=Z s->s≠t)->rel i q v->rel i (DM q t u) v)
    (stable:∀i v w w',i<m->post i v w->Below w.heap.size w w'->post i v w')
    (step:∀(i:Nat) (o:Oper),i<m->ops[i]? = Z o->∀q w,Below w0.heap.size w0 w->(∀k t,Am ops i k=true->Ap ops k=Z t->post k (q t) w)->Oper.wp P o (frm a0 ds q) w (fun a' w'=>∃v,a'=(frm a0 ds q).put o.dst v/\Below w.heap.size w w'/\post i v w'/\rel i q v/\∀b,new i=true->blk v=Z b->w.heap.size<=b/\b<w'.heap.size) Q)
    (last:∀q w,Below w0.heap.size w0 w->(∀i t,i<m->Ap ops i=Z t->post i (q t) w)->(∀i t,i<m->Ap ops i=Z t->rel i q (q t))->(∀i t b,i<m->new i=true->Ap ops i=Z t->blk (q t)=Z b->w0.heap.size<=b/\b<w.heap.size)->(∀i j t s b,i<m->j<m->i≠j->new i=true->new j=true->Ap ops i=Z t->Ap ops j=Z s->blk (q t)=Z b->blk (q s)≠Z b)->wpOps P ops Q ((List.range' m (ops.size-m))) (frm a0 ds q) w) :
    (Code.region id ops true).wp P Q a0 w0:=by
  have hs:=UY hsh;refine wp_region_any hmo ?_;have hb0:Below w0.heap.size w0 { w0 with drawn:=w0.drawn+1}:=⟨rfl,rfl,rfl,qB _,fun _ _=>rfl⟩;refine J0 (fun k l a w=>k=DG l/\((∃q,a=frm a0 ds q/\Early ops m w0 post new rel l q w)\/(l.size=ops.size/\∃j,m<=j/\j<=ops.size/\(∀i,AV l i↔i<j)/\wpOps P ops Q (List.range' j (ops.size-j)) a w))) ?_ _ _ _ _ ⟨?_,.inl ⟨_,(LG a0 ds).symm,?_⟩⟩
  . rintro k l a w ⟨hk,hI⟩
    have hlsz:l.size=ops.size:=hI.elim (fun⟨_,_,hE⟩=>hE.size) (fun⟨h,_⟩=>h);refine⟨fun hr=>?_,fun h0=>?_,fun k' hk' i hi=>?_⟩
    . rcases hI with⟨q,rfl,hE⟩|⟨_,j,hj1,hj2,hd,hw⟩
      . exact absurd hr (Mp hs hE.size hs.lt (hE.later m (qB _)))
      . by_cases hjs:j=ops.size
        . subst hjs
          rw[Nat.sub_self]at hw;exact hw
        . exact absurd hr (Mp hs hlsz (j:=j) (by omega) (fun h=>by have:=(hd j).1 h;omega))
    . cases hr:Region.ready .any ops l with
      |nil=>rfl
      |cons x xs=>
        have hx:=(D9 hlsz (i:=x)).1 (by rw[hr];exact List.mem_cons_self);exact absurd (Ll (by omega) (by omega)) hx.2.1
    . obtain ⟨h1,h2,h3⟩:=(D9 hlsz).1 hi
      have ho:ops[i]? = Z ops[i]:=qO h1;have hgd:=hs.guard i _ ho;have hleft:=Lj (by omega:i<l.size) h2;have late:∀(j:Nat) (a:Act) (w:W),m<=j->j<=ops.size->(∀i,AV l i↔i<j)->wpOps P ops Q (List.range' j (ops.size-j)) a w->wpOp P ops Q i (fun a' w'=>k'=DG (l.setIfInBounds i true)/\((∃q,a'=frm a0 ds q/\Early ops m w0 post new rel (l.setIfInBounds i true) q w')\/((l.setIfInBounds i true).size=ops.size/\∃j,m<=j/\j<=ops.size/\(∀i',AV (l.setIfInBounds i true) i'↔i'<j)/\wpOps P ops Q (List.range' j (ops.size-j)) a' w'))) a w:=by
        intro j a w hj1 hj2 hd hw;have hij:i=j:=by
          have hge:j<=i:=by
            rcases vP i j with h|h
            . exact absurd ((hd i).2 h) h2
            . exact h
          rcases vP j i with h|h
          . rcases hs.late i j (by omega) h1 h with h4|h4
            . omega
            . have:=(hd j).1 (h3 j h4);omega
          . omega
        subst hij;rw[show ops.size-i=(ops.size-(i+1))+1 by omega,List.range'_succ,wpOps_cons]at hw;refine wpOp_mono (fun a' w' h'=>⟨by omega,.inr ⟨by rw[jD];exact hlsz,i+1,by omega,by omega,fun i'=>?_,h'⟩⟩) hw;rw[BV (by omega),hd];omega
      rcases hI with⟨q,rfl,hE⟩|⟨_,j,hj1,hj2,hd,hw⟩
      . by_cases him:i<m
        . obtain⟨t,ht,hdt,hts,hne⟩:=hs.dst i _ him ho
          have hst:=step i _ him ho q w hE.below (fun k t' hk ht'=>by
            have hkd:=h3 k hk;have hkm:k<m:=by
              rcases vP k m with h|h
              . exact h
              . exact absurd hkd (hE.later k h)
            exact hE.posts k t' hkm hkd ht')
          unfold wpOp;rw[ho];show if Region.wanted ops[i] (yielded ops (frm a0 ds q).tmps)=true then _ else _
          rw[if_pos (by unfold Region.wanted;rw[hgd])];refine .inl (Oper.wp_mono ?_ hst);rintro a' w' ⟨v,rfl,hb,hp,hrl,hnw⟩;rw[ht,Gb hdt];have hdst:Ap ops i=Z t:=by unfold Ap;rw[ho];exact ht
          have same:∀i' t',i'<m->Ap ops i'=Z t'->i'≠i->DM q t v t'=q t':=fun i' t' hi' ht' hii=>C8 (fun e=>hne i' hi' hii (by rw[ht',e]));refine⟨by omega,.inl ⟨_,rfl,⟨by rw[jD];exact hlsz,fun i' hi' hd'=>?_,fun i' k0 hd' hk0=>?_,hE.below.trans (hb.mono hE.below.size),fun i' t' hi' hd' ht'=>?_,fun i' t' hi' hd' ht'=>?_,fun i' t' b' hi' hd' hn' ht' hb'=>?_,fun i' j' t' s' b' hi' hj' hij hd' he' hn' hm' ht' hs' hb'=>?_⟩⟩⟩
          . rcases(BV (by omega)).1 hd' with h|h
            . omega
            . exact hE.later i' hi' h
          . rw[BV (by omega)]
            rcases(BV (by omega)).1 hd' with h|h
            . subst h;exact .inr (h3 k0 hk0)
            . exact .inr (hE.closed i' k0 h hk0)
          . by_cases hii:i'=i
            . subst hii
              have:t'=t:=by
                unfold Ap at ht';rw[ho]at ht';exact Option.some.inj (ht'.symm.trans ht)
              subst this;rw[DY];exact hp
            . rcases(BV (by omega)).1 hd' with h|h
              . exact absurd h hii
              . rw[C8 (fun e=>hne i' hi' hii (by rw[ht',e]))]
                exact stable i' _ w w' hi' (hE.posts i' t' hi' h ht') hb
          . by_cases hii:i'=i
            . subst hii
              rw[(Option.some.inj ((hdst).symm.trans ht')).symm,DY];exact hrel i' q v t v hi' (fun k s hk hs' e=>hne k (by have:=Jy hs hk;omega) (by have:=Jy hs hk;omega) (by rw[hs',e])) hrl
            . have hdi:=((BV (by omega)).1 hd').resolve_left hii
              rw[same i' t' hi' ht' hii];exact hrel i' q _ t v hi' (fun k s hk hs' e=>hne k (by have:=Jy hs hk;omega) (fun e2=>h2 (e2▸hE.closed i' k hdi hk)) (by rw[hs',e])) (hE.links i' t' hi' hdi ht')
          . have hq:=same i' t' hi' ht'
            by_cases hii:i'=i
            . subst hii
              rw[(Option.some.inj ((hdst).symm.trans ht')).symm,DY]at hb';obtain⟨g1,g2⟩:=hnw b' hn' hb';exact⟨Nat.le_trans hE.below.size g1,g2⟩
            . rw[hq hii]at hb'
              obtain⟨g1,g2⟩:=hE.own i' t' b' hi' (((BV (by omega)).1 hd').resolve_left hii) hn' ht' hb';exact⟨g1,Nat.lt_of_lt_of_le g2 hb.size⟩
          . by_cases h1:i'=i
            . subst h1
              rw[(Option.some.inj ((hdst).symm.trans ht')).symm,DY]at hb';rw[same j' s' hj' hs' (fun e=>hij e.symm)];intro hb2;have g1:=hE.own j' s' b' hj' (((BV (by omega)).1 he').resolve_left (fun e=>hij e.symm)) hm' hs' hb2;have g2:=hnw b' hn' hb';omega
            . rw[same i' t' hi' ht' h1]at hb'
              have g1:=hE.own i' t' b' hi' (((BV (by omega)).1 hd').resolve_left h1) hn' ht' hb';by_cases h2':j'=i
              . subst h2'
                rw[(Option.some.inj ((hdst).symm.trans hs')).symm,DY];intro hb2;have g2:=hnw b' hm' hb2;omega
              . rw[same j' s' hj' hs' h2']
                exact hE.dis i' j' t' s' b' hi' hj' hij (((BV (by omega)).1 hd').resolve_left h1) (((BV (by omega)).1 he').resolve_left h2') hn' hm' ht' hs' hb'
        . have him2:i=m:=by
            rcases vP m i with h|h
            . rcases hs.late i m (by omega) h1 h with h4|h4
              . omega
              . exact absurd (h3 m h4) (hE.later m (qB _))
            . omega
          subst him2;have hall:=OG hs hE.closed h3;exact late i _ w (qB _) (by omega) (fun i'=>⟨fun h=>by
            rcases vP i' i with h'|h'
            . exact h'
            . exact absurd h (hE.later i' h'),fun h=>hall i' h⟩) (last q w hE.below (fun i' t' hi' ht'=>hE.posts i' t' hi' (hall i' hi') ht') (fun i' t' hi' ht'=>hE.links i' t' hi' (hall i' hi') ht') (fun i' t' b' hi' hn' ht' hb'=>hE.own i' t' b' hi' (hall i' hi') hn' ht' hb') fun i' j' t' s' b' hi' hj' hij hn' hm' ht' hs' hb'=>hE.dis i' j' t' s' b' hi' hj' hij (hall i' hi') (hall j' hj') hn' hm' ht' hs' hb')
      . exact late j a w hj1 hj2 hd hw
  . unfold DG
    simp
  . have hnd:∀i,¬AV (Array.replicate ops.size X) i:=fun i h=>by
      unfold AV at h;rw[Array.getElem?_replicate]at h;split at h<;>cases h
    exact⟨by simp,fun i _=>hnd i,fun i _ h=>absurd h (hnd i),hb0,fun i _ _ h=>absurd h (hnd i),fun i _ _ h=>absurd h (hnd i),fun i _ _ _ h=>absurd h (hnd i),fun i _ _ _ _ _ _ _ h=>absurd h (hnd i)⟩
end
