import Derived.Test.YtehfhemidmfffaaGreatDoorMem
import Derived.Deep.AppendLies
open Go renaming World→X,Value→Y
open Go.RowKit renaming Below→V
open _root_.Bool renaming false→W
open _root_.Option renaming some→Z
namespace Go.Proofs.YtehfhemidmfffaaGreatDoor
open _root_.Array renaming all_eq_true_iff_forall_mem→xV,getD_eq_getD_getElem?→vL,getElem?_eq_getElem→qQ,getElem?_setIfInBounds→zK,getElem?_toList→xC,size_setIfInBounds→jF
open _root_.Bool renaming and_eq_true→qK
open _root_.List renaming all_eq_true→jC,any_eq_true→vD,getElem?_eq_getElem→qH,getElem?_toArray→xD,mem_range→vA
open _root_.Nat renaming blt_eq→jZ,le_refl→qB,lt_or_ge→vP,zero_add→qV
open _root_.Option renaming getD_some→vW,map_some→yK
open Go.ChangeShapes Go.WideShapes Go.ChangeAt Go.RowKit Go.Deep
open _root_.List renaming range'→aF,range→aE
open _root_.Nat renaming blt→aH
open _root_.Option renaming some→aI
set_option maxHeartbeats 6400000
set_option maxRecDepth 20000
section
theorem KJ{P:Program}{md:Region.Mode}{ops:Array Oper}{Q:Exit->Act->X->Prop}(I:Nat->Array Bool->Act->X->Prop)
  (hs:∀k l a w,I k l a w->(Region.ready md ops l=[]->Q .normal a w)/\(k=0->Region.ready md ops l=[])/\∀k',k=k'+1->∀i∈Region.ready md ops l,wpOp P ops Q i (fun a' w'=>I k' (l.setIfInBounds i true) a' w') a w) :
  ∀k l a w,I k l a w->wpAny P md ops Q k l a w
 |0,l,a,w,h=>⟨(hs 0 l a w h).2.1 rfl,(hs 0 l a w h).1 ((hs 0 l a w h).2.1 rfl)⟩
 |k+1,l,a,w,h=>⟨(hs _ l a w h).1,fun i hi=>wpOp_mono (fun a' w' h'=>KJ I hs k _ a' w' h') ((hs _ l a w h).2.2 k rfl i hi)⟩
def mix(ds:List Nat)(q:Nat->Y):Nat->List Y->List Y
 |_,[]=>[]
 |t,v::l=>(if ds.contains t then q t else v)::mix ds q (t+1) l
def frm(a:Act)(ds:List Nat)(q:Nat->Y):Act:=⟨(mix ds q 0 a.tmps.toList).toArray,a.defers⟩
theorem Fv(ds:List Nat)(q:Nat->Y):∀(l:List Y) (t j:Nat),(mix ds q t l)[j]? = (l[j]?).map fun v=>if ds.contains (t+j)then q (t+j)else v
 |[],t,j=>by simp[mix]
 |v::l,t,0=>by simp[mix]
 |v::l,t,j+1=>by
  show(mix ds q (t+1) l)[j]? = (l[j]?).map _;rw[Fv ds q l (t+1) j,show t+1+j=t+(j+1) by omega]
theorem ML(ds:List Nat)(q:Nat->Y):∀(l:List Y) (t:Nat),(mix ds q t l).length=l.length
 |[],t=>rfl
 |v::l,t=>by show(mix ds q (t+1) l).length+1=_;rw[ML ds q l (t+1)];rfl
theorem D4{a:Act}{ds:List Nat}{q:Nat->Y}{t:Nat}(h:ds.contains t=true)(ht:t<a.tmps.size):(frm a ds q).eval (.tmp t)=q t:=by
 show(mix ds q 0 a.tmps.toList).toArray.getD t undef=q t;rw[vL,xD,Fv,qV,h];have:a.tmps.toList[t]? = Z (a.tmps.toList[t]'(by simpa using ht)):=qH _;rw[this];rfl
theorem Ef{a:Act}{ds:List Nat}{q:Nat->Y}{t:Nat}(h:ds.contains t=W):(frm a ds q).eval (.tmp t)=a.eval (.tmp t):=by
 show(mix ds q 0 a.tmps.toList).toArray.getD t undef=a.tmps.getD t undef;rw[vL,xD,Fv,qV,h,vL,<-xC];cases a.tmps.toList[t]?<;>rfl
theorem MM{ds:List Nat}:∀(l:List Y) (q:Nat->Y) (t:Nat),(∀j,j<l.length->q (t+j)=l.getD j undef)->mix ds q t l=l
 |[],_,_,_=>rfl
 |v::l,q,t,h=>by
  show(if ds.contains t then q t else v)::mix ds q (t+1) l=v::l;rw[MM l q (t+1) (fun j hj=>by have:=h (j+1) (by simp;omega);rw[show t+1+j=t+(j+1) by omega];exact this)];have:=h 0 (by simp);have h0:q t=v:=this;rw[h0];split<;>rfl
theorem LZ(a:Act)(ds:List Nat):frm a ds (fun t=>a.eval (.tmp t))=a:=by
 unfold frm;rw[MM];intro j hj;show a.tmps.getD (0+j) undef=a.tmps.toList.getD j undef;rw[qV,vL,List.getD_eq_getElem?_getD,xC]
def Ds(q:Nat->Y)(t:Nat)(v:Y):Nat->Value:=fun s=>if s=t then v else q s
theorem Dt(q:Nat->Y)(t:Nat)(v:Y):Ds q t v t=v:=aj rfl
theorem Dd{q:Nat->Y}{s t:Nat}{v:Y}(h:s≠t):Ds q t v s=q s:=ak h
theorem Gi{a:Act}{ds:List Nat}{q:Nat->Y}{t:Nat}{v:Y}(h:ds.contains t=true):(frm a ds q).put (Z t) v=frm a ds (Ds q t v):=by
 show Act.mk ((mix ds q 0 a.tmps.toList).toArray.setIfInBounds t v) a.defers=Act.mk (mix ds (Ds q t v) 0 a.tmps.toList).toArray a.defers;congr 1
 apply Array.ext_getElem?
 intro j;rw[zK,xD,xD,Fv,Fv,qV];by_cases hj:t=j
 .subst hj;rw[aj rfl,h];simp only[List.size_toArray,ML,Array.length_toList];by_cases hs:t<a.tmps.size
  .rw[aj hs];rw[show a.tmps.toList[t]? = Z (a.tmps.toList[t]'(by simpa using hs))from qH _];simp[Ds]
  .rw[ak hs,List.getElem?_eq_none (by simpa using hs)];rfl
 .rw[ak hj];cases a.tmps.toList[j]? with
  |none=>rfl
  |some u=>
   show Z _=Z _;rw[Dd (fun e=>hj e.symm)]
def Ak(ops:Array Oper)(i k:Nat):Bool:=match ops[i]? with|some o=>o.after.toList.any (fun e=>Region.binds .any e&&e.on == k)|none=>W
def Aq(ops:Array Oper)(k:Nat):Option Nat:=match ops[k]? with|some o=>o.dst|none=>none
def Hp (ops:Array Oper) (ds:List Nat) (size m:Nat):Bool:=
  (aE ops.size).all (fun i=>match ops[i]? with
    |some o=>o.guard.isNone&&o.after.toList.all (fun e=>!Region.binds .any e||aH e.on i)&&(if i<m then(match o.dst with
        |some t=>ds.contains t&&aH t size&&(aE m).all (fun j=>j == i||!(Aq ops j == Z t))&&(aE (m+1)).any (fun k=>aH i k&&Ak ops k i)
        |none=>W)else(aE i).all (fun j=>aH j m&&i == m||Ak ops i j))
    |none=>W)&&aH m ops.size
structure Shape(ops:Array Oper)(ds:List Nat)(size m:Nat):Prop where
 lt:m<ops.size
 guard:∀(i:Nat) (o:Oper),ops[i]? = Z o->o.guard=none
 before:∀(i:Nat) (o:Oper) (e:Edge),ops[i]? = Z o->e∈o.after->Region.binds .any e=true->e.on<i
 dst:∀(i:Nat) (o:Oper),i<m->ops[i]? = Z o->∃t,o.dst=Z t/\ds.contains t=true/\t<size/\∀j,j<m->j≠i->Aq ops j≠Z t
 heir:∀i,i<m->∃k,i<k/\k<=m/\Ak ops k i=true
 late:∀i j,m<=i->i<ops.size->j<i->(j<m/\i=m)\/Ak ops i j=true
theorem VO {ops:Array Oper} {ds:List Nat} {size m:Nat} (h:Hp ops ds size m=true):Shape ops ds size m:=by
  unfold Hp at h;rw[qK,jC]at h;obtain⟨h1,h2⟩:=h;have hm:m<ops.size:=by simpa[jZ]using h2
  have hi:∀i o,ops[i]? = Z o→(o.guard.isNone&&o.after.toList.all (fun e=>!Region.binds .any e||aH e.on i)&&(if i<m then(match o.dst with
        |some t=>ds.contains t&&aH t size&&(aE m).all (fun j=>j == i||!(Aq ops j == Z t))&&(aE (m+1)).any (fun k=>aH i k&&Ak ops k i)
        |none=>W)else(aE i).all (fun j=>aH j m&&i == m||Ak ops i j)))=true:=fun i o ho=>by
    have hlt:i<ops.size:=by
      rcases vP i ops.size with h|h
      . exact h
      . rw[Array.getElem?_eq_none h]at ho;cases ho
    have:=h1 i (vA.2 hlt);rw[ho]at this;exact this
  refine⟨hm,fun i o ho=>?_,fun i o e ho he hb=>?_,fun i o him ho=>?_,fun i him=>?_,fun i j him hlt hj=>?_⟩
  . have:=hi i o ho
    rw[qK,qK]at this;simpa using this.1.1
  . have:=hi i o ho
    rw[qK,qK,jC]at this;have:=this.1.2 e (by simpa using he);rw[hb]at this;simpa[jZ]using this
  . have:=hi i o ho
    rw[qK,aj him]at this;have:=this.2;cases hd:o.dst with
    |none=>rw[hd]at this;cases this
    |some t=>
      rw[hd]at this;simp only[qK,jC]at this;obtain⟨⟨⟨e1,e2⟩,e3⟩,e4⟩:=this;refine⟨t,rfl,e1,by simpa[jZ]using e2,fun j hj hne he=>?_⟩;have:=e3 j (vA.2 hj);rw[he]at this;simp[hne]at this
  . have hlt:i<ops.size:=by omega
    have:=hi i ops[i] (qQ hlt);rw[qK,aj him]at this;have:=this.2;cases hd:ops[i].dst with
    |none=>rw[hd]at this;cases this
    |some t=>
      rw[hd]at this;simp only[qK,vD]at this;obtain⟨_,k,hk,h5,h6⟩:=this;have:=vA.1 hk;exact⟨k,by simpa[jZ]using h5,by omega,h6⟩
  . have:=hi i ops[i] (qQ hlt)
    rw[qK,ak (by omega),jC]at this;have:=this.2 j (vA.2 hj);simp only[Bool.or_eq_true,qK,beq_iff_eq,jZ]at this;exact this
def AW(l:Array Bool)(i:Nat):Prop:=l[i]? = Z true
theorem EI{ops:Array Oper}{l:Array Bool}(hl:l.size=ops.size){i:Nat}:i∈Region.ready .any ops l↔i<ops.size/\¬AW l i/\∀k,Ak ops i k=true->AW l k:=by
 unfold Region.ready;rw[List.mem_filter,vA];constructor
 .rintro ⟨h1,h2⟩;have hi:i<l.size:=by omega
  rw[qK]at h2;obtain⟨h2,h3⟩:=h2;refine⟨h1,fun hd=>?_,fun k hk=>?_⟩
  .unfold AW at hd;rw[vL,hd]at h2;simp at h2
  .unfold Ak at hk;rw[qQ h1]at h3 hk;simp only[yK,vW,xV]at h3;simp only[vD,qK,beq_iff_eq]at hk;obtain⟨e,he,hb,hon⟩:=hk;have:=h3 e (by simpa using he);rw[hb,hon]at this;simp only[Bool.not_true,Bool.false_or,vL]at this;unfold AW;cases hx:l[k]? with
   |none=>rw[hx]at this;simp at this
   |some b=>rw[hx]at this;simp at this;rw[this]
 .rintro ⟨h1,h2,h3⟩;have hi:i<l.size:=by omega
  refine⟨h1,?_⟩;rw[qK];constructor
  .rw[vL,qQ hi];unfold AW at h2;rw[qQ hi]at h2;cases hx:l[i]with
   |true=>rw[hx]at h2;exact absurd rfl h2
   |false=>rfl
  .rw[qQ h1];simp only[yK,vW,xV];intro e he;cases hb:Region.binds .any e with
   |false=>rfl
   |true=>
    have:=h3 e.on (by unfold Ak;rw[qQ h1];simp only[vD,qK,beq_iff_eq];exact⟨e,by simpa using he,hb,rfl⟩);unfold AW at this;rw[vL,this];rfl
def DN(l:Array Bool):Nat:=l.toList.count W
theorem Lz{l:Array Bool}{i:Nat}(hi:i<l.size)(h:¬AW l i):DN (l.setIfInBounds i true)+1=DN l:=by
 unfold DN;rw[Array.toList_setIfInBounds];have hl:i<l.toList.length:=by simpa using hi
 have hf:l.toList[i]=false:=by
  unfold AW at h;rw[qQ hi]at h;have e:l.toList[i]=l[i]:=Array.getElem_toList _;rw[e];cases hx:l[i]with
  |true=>rw[hx]at h;exact absurd rfl h
  |false=>rfl
 have hpos:0<l.toList.count false:=List.count_pos_iff.2 (hf▸List.getElem_mem hl);rw[List.count_set hl,hf];show l.toList.count W-1+0+1=l.toList.count W;omega
theorem L3{l:Array Bool}(h:DN l=0){i:Nat}(hi:i<l.size):AW l i:=by
 unfold DN at h;have h0:W∉l.toList:=List.count_eq_zero.1 h;unfold AW;rw[qQ hi];cases hx:l[i]with
 |true=>rfl
 |false=>exact absurd (by rw[<-hx];exact Array.getElem_mem_toList hi) h0
theorem BW{l:Array Bool}{i j:Nat}(hi:i<l.size):AW (l.setIfInBounds i true) j↔j=i\/AW l j:=by
 unfold AW;rw[zK];by_cases h:i=j
 .subst h;simp[hi]
 .rw[ak h];constructor
  .exact .inr
  .rintro (h2|h2)
   .exact absurd h2.symm h
   .exact h2
def blk:Y->Option Nat
 | .slice (Z a) _ _=>Z a.block
 | .pointer (Z a)=>Z a.block
 |_=>none
structure Early(ops:Array Oper)(m:Nat)(W0:X)(post:Nat->Y->X->Prop)(new:Nat->Bool)(rel:Nat->(Nat->Y)->Y->Prop)(l:Array Bool)(q:Nat->Y)(w:X):Prop where
 size:l.size=ops.size
 later:∀i,m<=i->¬AW l i
 closed:∀i k,AW l i->Ak ops i k=true->AW l k
 below:V W0.heap.size W0 w
 posts:∀i t,i<m->AW l i->Aq ops i=Z t->post i (q t) w
 links:∀i t,i<m->AW l i->Aq ops i=Z t->rel i q (q t)
 own:∀i t b,i<m->AW l i->new i=true->Aq ops i=Z t->blk (q t)=Z b->W0.heap.size<=b/\b<w.heap.size
 dis:∀i j t s b,i<m->j<m->i≠j->AW l i->AW l j->new i=true->new j=true->Aq ops i=Z t->Aq ops j=Z s->blk (q t)=Z b->blk (q s)≠Z b
theorem NE{ops:Array Oper}{ds:List Nat}{size m:Nat}(hs:Shape ops ds size m){l:Array Bool}(hl:l.size=ops.size){j:Nat}(hj:j<ops.size)(hd:¬AW l j):Region.ready .any ops l≠[]:=by
 have key:∀n j,j<=n->j<ops.size->¬AW l j->∃i,i∈Region.ready .any ops l:=by
  intro n;induction n with
  |zero=>
   intro j hj0 hj hd;refine⟨j,(EI hl).2 ⟨hj,hd,fun k hk=>?_⟩⟩;unfold Ak at hk;rw[qQ hj]at hk;simp only[vD,qK,beq_iff_eq]at hk;obtain⟨e,he,hb,hon⟩:=hk;have:=hs.before j ops[j] e (qQ hj) (by simpa using he) hb;omega
  |succ n ih=>
   intro j hj0 hj hd;by_cases h:∀k,Ak ops j k=true->AW l k
   .exact ⟨j,(EI hl).2 ⟨hj,hd,h⟩⟩
   .obtain ⟨k,hk⟩:=Classical.not_forall.1 h;obtain⟨hk,hnd⟩:=Classical.not_imp.1 hk;have hk2:=hk;unfold Ak at hk;rw[qQ hj]at hk;simp only[vD,qK,beq_iff_eq]at hk;obtain⟨e,he,hb,hon⟩:=hk;have:=hs.before j ops[j] e (qQ hj) (by simpa using he) hb;exact ih k (by omega) (by omega) hnd
 intro h;obtain⟨i,hi⟩:=key j j (qB _) hj hd;rw[h]at hi;cases hi
theorem Om{ops:Array Oper}{ds:List Nat}{size m:Nat}(hs:Shape ops ds size m){l:Array Bool}(hc:∀i k,AW l i->Ak ops i k=true->AW l k)(hm:∀k,Ak ops m k=true->AW l k):∀i,i<m->AW l i:=by
 have key:∀n i,m-i<=n->i<m->AW l i:=by
  intro n;induction n with
  |zero=>intro i h1 h2;omega
  |succ n ih=>
   intro i h1 h2;obtain⟨k,h3,h4,h5⟩:=hs.heir i h2;by_cases hk:k=m
   .subst hk;exact hm i h5
   .exact hc k i (ih k (by omega) (by omega)) h5
 exact fun i hi=>key _ i (qB _) hi
theorem KH{ops:Array Oper}{ds:List Nat}{size m:Nat}(hs:Shape ops ds size m){i k:Nat}(h:Ak ops i k=true):k<i:=by
 unfold Ak at h;cases ho:ops[i]? with
 |none=>rw[ho]at h;cases h
 |some o=>
  rw[ho]at h;simp only[vD,qK,beq_iff_eq]at h;obtain⟨e,he,hb,hon⟩:=h;have:=hs.before i o e ho (by simpa using he) hb;omega
theorem OD {P:Program} {id:Nat} {ops:Array Oper} {Q:Exit->Act->X->Prop} {a0:Act} {w0:X} (hmo:P.follows .mixedOrders=true) (ds:List Nat) (m:Nat) (post:Nat->Y->X->Prop) (new:Nat->Bool) (rel:Nat->(Nat->Y)->Y->Prop)
    (hsh:Hp ops ds a0.tmps.size m=true)
    (hrel:∀i q v t u,i<m->(∀k s,Ak ops i k=true->Aq ops k=Z s->s≠t)->rel i q v->rel i (Ds q t u) v)
    (stable:∀i v w w',i<m->post i v w->V w.heap.size w w'->post i v w')
    (step:∀(i:Nat) (o:Oper),i<m->ops[i]? = Z o->∀q w,V w0.heap.size w0 w->(∀k t,Ak ops i k=true->Aq ops k=Z t->post k (q t) w)->Oper.wp P o (frm a0 ds q) w (fun a' w'=>∃v,a'=(frm a0 ds q).put o.dst v/\V w.heap.size w w'/\post i v w'/\rel i q v/\∀b,new i=true->blk v=Z b->w.heap.size<=b/\b<w'.heap.size) Q)
    (last:∀q w,V w0.heap.size w0 w->(∀i t,i<m->Aq ops i=Z t->post i (q t) w)->(∀i t,i<m->Aq ops i=Z t->rel i q (q t))->(∀i t b,i<m->new i=true->Aq ops i=Z t->blk (q t)=Z b->w0.heap.size<=b/\b<w.heap.size)->(∀i j t s b,i<m->j<m->i≠j->new i=true->new j=true->Aq ops i=Z t->Aq ops j=Z s->blk (q t)=Z b->blk (q s)≠Z b)->wpOps P ops Q ((aF m (ops.size-m))) (frm a0 ds q) w) :
    (Code.region id ops true).wp P Q a0 w0:=by
  have hs:=VO hsh;refine wp_region_any hmo ?_;have hb0:V w0.heap.size w0 { w0 with drawn:=w0.drawn+1}:=⟨rfl,rfl,rfl,qB _,fun _ _=>rfl⟩;refine KJ (fun k l a w=>k=DN l/\((∃q,a=frm a0 ds q/\Early ops m w0 post new rel l q w)\/(l.size=ops.size/\∃j,m<=j/\j<=ops.size/\(∀i,AW l i↔i<j)/\wpOps P ops Q (aF j (ops.size-j)) a w))) ?_ _ _ _ _ ⟨?_,.inl ⟨_,(LZ a0 ds).symm,?_⟩⟩
  . rintro k l a w ⟨hk,hI⟩
    have hlsz:l.size=ops.size:=hI.elim (fun⟨_,_,hE⟩=>hE.size) (fun⟨h,_⟩=>h);refine⟨fun hr=>?_,fun h0=>?_,fun k' hk' i hi=>?_⟩
    . rcases hI with⟨q,rfl,hE⟩|⟨_,j,hj1,hj2,hd,hw⟩
      . exact absurd hr (NE hs hE.size hs.lt (hE.later m (qB _)))
      . by_cases hjs:j=ops.size
        . subst hjs
          rw[Nat.sub_self]at hw;exact hw
        . exact absurd hr (NE hs hlsz (j:=j) (by omega) (fun h=>by have:=(hd j).1 h;omega))
    . cases hr:Region.ready .any ops l with
      |nil=>rfl
      |cons x xs=>
        have hx:=(EI hlsz (i:=x)).1 (by rw[hr];exact List.mem_cons_self);exact absurd (L3 (by omega) (by omega)) hx.2.1
    . obtain ⟨h1,h2,h3⟩:=(EI hlsz).1 hi
      have ho:ops[i]? = Z ops[i]:=qQ h1;have hgd:=hs.guard i _ ho;have hleft:=Lz (by omega:i<l.size) h2;have late:∀(j:Nat) (a:Act) (w:X),m<=j->j<=ops.size->(∀i,AW l i↔i<j)->wpOps P ops Q (aF j (ops.size-j)) a w->wpOp P ops Q i (fun a' w'=>k'=DN (l.setIfInBounds i true)/\((∃q,a'=frm a0 ds q/\Early ops m w0 post new rel (l.setIfInBounds i true) q w')\/((l.setIfInBounds i true).size=ops.size/\∃j,m<=j/\j<=ops.size/\(∀i',AW (l.setIfInBounds i true) i'↔i'<j)/\wpOps P ops Q (aF j (ops.size-j)) a' w'))) a w:=by
        intro j a w hj1 hj2 hd hw;have hij:i=j:=by
          have hge:j<=i:=by
            rcases vP i j with h|h
            . exact absurd ((hd i).2 h) h2
            . exact h
          rcases vP j i with h|h
          . rcases hs.late i j (by omega) h1 h with h4|h4
            . omega
            . have:=(hd j).1 (h3 j h4);omega
          . omega
        subst hij;rw[show ops.size-i=(ops.size-(i+1))+1 by omega,List.range'_succ,wpOps_cons]at hw;refine wpOp_mono (fun a' w' h'=>⟨by omega,.inr ⟨by rw[jF];exact hlsz,i+1,by omega,by omega,fun i'=>?_,h'⟩⟩) hw;rw[BW (by omega),hd];omega
      rcases hI with⟨q,rfl,hE⟩|⟨_,j,hj1,hj2,hd,hw⟩
      . by_cases him:i<m
        . obtain⟨t,ht,hdt,hts,hne⟩:=hs.dst i _ him ho
          have hst:=step i _ him ho q w hE.below (fun k t' hk ht'=>by
            have hkd:=h3 k hk;have hkm:k<m:=by
              rcases vP k m with h|h
              . exact h
              . exact absurd hkd (hE.later k h)
            exact hE.posts k t' hkm hkd ht')
          unfold wpOp;rw[ho];show if Region.wanted ops[i] (yielded ops (frm a0 ds q).tmps)=true then _ else _
          rw[aj (by unfold Region.wanted;rw[hgd])];refine .inl (Oper.wp_mono ?_ hst);rintro a' w' ⟨v,rfl,hb,hp,hrl,hnw⟩;rw[ht,Gi hdt];have hdst:Aq ops i=Z t:=by unfold Aq;rw[ho];exact ht
          have same:∀i' t',i'<m->Aq ops i'=Z t'->i'≠i->Ds q t v t'=q t':=fun i' t' hi' ht' hii=>Dd (fun e=>hne i' hi' hii (by rw[ht',e]));refine⟨by omega,.inl ⟨_,rfl,⟨by rw[jF];exact hlsz,fun i' hi' hd'=>?_,fun i' k0 hd' hk0=>?_,hE.below.trans (hb.mono hE.below.size),fun i' t' hi' hd' ht'=>?_,fun i' t' hi' hd' ht'=>?_,fun i' t' b' hi' hd' hn' ht' hb'=>?_,fun i' j' t' s' b' hi' hj' hij hd' he' hn' hm' ht' hs' hb'=>?_⟩⟩⟩
          . rcases(BW (by omega)).1 hd' with h|h
            . omega
            . exact hE.later i' hi' h
          . rw[BW (by omega)]
            rcases(BW (by omega)).1 hd' with h|h
            . subst h;exact .inr (h3 k0 hk0)
            . exact .inr (hE.closed i' k0 h hk0)
          . by_cases hii:i'=i
            . subst hii
              have:t'=t:=by
                unfold Aq at ht';rw[ho]at ht';exact aI.inj (ht'.symm.trans ht)
              subst this;rw[Dt];exact hp
            . rcases(BW (by omega)).1 hd' with h|h
              . exact absurd h hii
              . rw[Dd (fun e=>hne i' hi' hii (by rw[ht',e]))]
                exact stable i' _ w w' hi' (hE.posts i' t' hi' h ht') hb
          . by_cases hii:i'=i
            . subst hii
              rw[(aI.inj ((hdst).symm.trans ht')).symm,Dt];exact hrel i' q v t v hi' (fun k s hk hs' e=>hne k (by have:=KH hs hk;omega) (by have:=KH hs hk;omega) (by rw[hs',e])) hrl
            . have hdi:=((BW (by omega)).1 hd').resolve_left hii
              rw[same i' t' hi' ht' hii];exact hrel i' q _ t v hi' (fun k s hk hs' e=>hne k (by have:=KH hs hk;omega) (fun e2=>h2 (e2▸hE.closed i' k hdi hk)) (by rw[hs',e])) (hE.links i' t' hi' hdi ht')
          . have hq:=same i' t' hi' ht'
            by_cases hii:i'=i
            . subst hii
              rw[(aI.inj ((hdst).symm.trans ht')).symm,Dt]at hb';obtain⟨g1,g2⟩:=hnw b' hn' hb';exact⟨Nat.le_trans hE.below.size g1,g2⟩
            . rw[hq hii]at hb'
              obtain⟨g1,g2⟩:=hE.own i' t' b' hi' (((BW (by omega)).1 hd').resolve_left hii) hn' ht' hb';exact⟨g1,Nat.lt_of_lt_of_le g2 hb.size⟩
          . by_cases h1:i'=i
            . subst h1
              rw[(aI.inj ((hdst).symm.trans ht')).symm,Dt]at hb';rw[same j' s' hj' hs' (fun e=>hij e.symm)];intro hb2;have g1:=hE.own j' s' b' hj' (((BW (by omega)).1 he').resolve_left (fun e=>hij e.symm)) hm' hs' hb2;have g2:=hnw b' hn' hb';omega
            . rw[same i' t' hi' ht' h1]at hb'
              have g1:=hE.own i' t' b' hi' (((BW (by omega)).1 hd').resolve_left h1) hn' ht' hb';by_cases h2':j'=i
              . subst h2'
                rw[(aI.inj ((hdst).symm.trans hs')).symm,Dt];intro hb2;have g2:=hnw b' hm' hb2;omega
              . rw[same j' s' hj' hs' h2']
                exact hE.dis i' j' t' s' b' hi' hj' hij (((BW (by omega)).1 hd').resolve_left h1) (((BW (by omega)).1 he').resolve_left h2') hn' hm' ht' hs' hb'
        . have him2:i=m:=by
            rcases vP m i with h|h
            . rcases hs.late i m (by omega) h1 h with h4|h4
              . omega
              . exact absurd (h3 m h4) (hE.later m (qB _))
            . omega
          subst him2;have hall:=Om hs hE.closed h3;exact late i _ w (qB _) (by omega) (fun i'=>⟨fun h=>by
            rcases vP i' i with h'|h'
            . exact h'
            . exact absurd h (hE.later i' h'),fun h=>hall i' h⟩) (last q w hE.below (fun i' t' hi' ht'=>hE.posts i' t' hi' (hall i' hi') ht') (fun i' t' hi' ht'=>hE.links i' t' hi' (hall i' hi') ht') (fun i' t' b' hi' hn' ht' hb'=>hE.own i' t' b' hi' (hall i' hi') hn' ht' hb') fun i' j' t' s' b' hi' hj' hij hn' hm' ht' hs' hb'=>hE.dis i' j' t' s' b' hi' hj' hij (hall i' hi') (hall j' hj') hn' hm' ht' hs' hb')
      . exact late j a w hj1 hj2 hd hw
  . unfold DN
    simp
  . have hnd:∀i,¬AW (Array.replicate ops.size W) i:=fun i h=>by
      unfold AW at h;rw[Array.getElem?_replicate]at h;split at h<;>cases h
    exact⟨by simp,fun i _=>hnd i,fun i _ h=>absurd h (hnd i),hb0,fun i _ _ h=>absurd h (hnd i),fun i _ _ h=>absurd h (hnd i),fun i _ _ _ h=>absurd h (hnd i),fun i _ _ _ _ _ _ _ h=>absurd h (hnd i)⟩
theorem XC{P:Program}{id:Nat}{ops:Array Oper}{Q:Exit->Act->X->Prop}{a0:Act}{w0:X}(hmo:P.follows .mixedOrders=true)(ds:List Nat)(m:Nat)(post:Nat->Y->X->Prop)
  (hsh:Hp ops ds a0.tmps.size m=true)
  (stable:∀i v w w',i<m->post i v w->V w.heap.size w w'->post i v w')
  (step:∀(i:Nat) (o:Oper),i<m->ops[i]? = Z o->∀q w,V w0.heap.size w0 w->(∀k t,Ak ops i k=true->Aq ops k=Z t->post k (q t) w)->Oper.wp P o (frm a0 ds q) w (fun a' w'=>∃v,a'=(frm a0 ds q).put o.dst v/\V w.heap.size w w'/\post i v w') Q)
  (last:∀q w,V w0.heap.size w0 w->(∀i t,i<m->Aq ops i=Z t->post i (q t) w)->wpOps P ops Q ((aF m (ops.size-m))) (frm a0 ds q) w) :
  (Code.region id ops true).wp P Q a0 w0:=
 OD hmo ds m post (fun _=>W) (fun _ _ _=>True) hsh (fun _ _ _ _ _ _ _ _=>trivial) stable (fun i o hi ho q w hb hq=>Oper.wp_mono (fun _ _ ⟨v,h1,h2,h3⟩=>⟨v,h1,h2,h3,trivial,fun _ h=>nomatch h⟩) (step i o hi ho q w hb hq)) fun q w hb hp _ _ _=>last q w hb hp
end
