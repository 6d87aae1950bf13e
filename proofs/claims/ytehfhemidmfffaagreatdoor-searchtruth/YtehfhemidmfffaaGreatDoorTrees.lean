import Derived.Test.YtehfhemidmfffaaGreatDoorTerms
open _root_.Bool renaming and_eq_true→aJ
open _root_.List renaming drop_succ_cons→aK,getD_eq_getElem?_getD→aL,length_append→aN,length_drop→aO,length_map→aQ,length→aM,map_drop→aR,mem_cons→aS
open _root_.Prod renaming fst→aW
namespace Go.Proofs.YtehfhemidmfffaaGreatDoor.Terms
set_option maxHeartbeats 6400000
set_option maxRecDepth 20000
inductive Tm where
 |leaf (k v:Int)
 |un (k v:Int) (a:Tm)
 |bi (k v:Int) (a b:Tm)
namespace Tm
def ops:Tm->List (Int×Int)
 |leaf k v=>[(k,v)]
 |un k v a=>(k,v)::a.ops
 |bi k v a b=>(k,v)::(a.ops++b.ops)
def size:Tm->Nat
 |leaf _ _=>1
 |un _ _ a=>1+a.size
 |bi _ _ a b=>1+a.size+b.size
def kind:Tm->Int
 |leaf k _=>k
 |un k _ _=>k
 |bi k _ _ _=>k
def val:Tm->Int
 |leaf _ v=>v
 |un _ v _=>v
 |bi _ v _ _=>v
def Wf:Tm->Prop
 |leaf k _=>okK k=true/\pn k=0
 |un k _ a=>okK k=true/\pn k=1/\a.Wf
 |bi k _ a b=>okK k=true/\pn k=2/\a.Wf/\b.Wf
theorem size_pos(t:Tm):1<=t.size:=by cases t<;>simp[size]<;>omega
theorem ops_length(t:Tm):t.ops.length=t.size:=by
 induction t with
 |leaf k v=>rfl
 |un k v a ih=>simp[ops,size,ih];omega
 |bi k v a b iha ihb=>simp[ops,size,iha,ihb];omega
theorem ops_ne(t:Tm):t.ops≠[]:=by cases t<;>simp[ops]
theorem ops_head(t:Tm)(d:Int×Int):t.ops.getD 0 d=(t.kind,t.val):=by cases t<;>rfl
theorem ops_head_app(t:Tm)(r:List (Int×Int))(d:Int×Int):(t.ops++r).getD 0 d=(t.kind,t.val):=by cases t<;>rfl
theorem count{t:Tm}(h:t.Wf):∀(r:List Int) (w:Nat),cnt (t.ops.map aW++r) (w+1)=(cnt r w).up t.size:=by
 induction t with
 |leaf k v=>
  intro r w;obtain⟨h1,h2⟩:=h;show cnt (k::r) (w+1)=_;rw[DJ,if_pos h1,h2];rfl
 |un k v a ih=>
  intro r w;obtain⟨h1,h2,h3⟩:=h;show cnt (k::(a.ops.map aW++r)) (w+1)=_;rw[DJ,if_pos h1,h2,ih h3,R.up_up];congr 1
  simp[size];omega
 |bi k v a b iha ihb=>
  intro r w;obtain⟨h1,h2,h3,h4⟩:=h;have e:(bi k v a b).ops.map aW++r=k::(a.ops.map aW++(b.ops.map aW++r)):=by simp[ops]
  rw[e,DJ,if_pos h1,h2,iha h3,ihb h4,R.up_up,R.up_up];congr 1
  simp[size];omega
theorem one{t:Tm}(h:t.Wf):cnt (t.ops.map aW) 1=.ok t.size:=by
 have:=count h [] 0;rw[List.append_nil,E4]at this;simpa[R.up]using this
theorem parse:∀(b m:Nat) (l:List (Int×Int)),m<=b->cnt (l.map aW) 1=.ok m->∃t:Tm,t.Wf/\t.ops=l.take m:=by
 intro b;induction b with
 |zero=>intro m l hb h;have:=(DK _ _ _ h).1;omega
 |succ b ih=>
  intro m l hb h;obtain⟨hl,hk,hm,hp⟩:=TT h;cases l with
  |nil=>simp at hl
  |cons p r=>
   obtain⟨k,v⟩:=p;simp only[List.map_cons,List.getD_cons_zero,List.drop_one,List.tail_cons]at hk hp;obtain⟨m,rfl⟩:∃m',m=m'+1:=⟨m-1,by omega⟩;rw[Nat.add_sub_cancel]at hp;have h2:=Jk k;have hc:pn k=0\/pn k=1\/pn k=2:=by omega
   rcases hc with h0|h0|h0
   .rw[h0,E4]at hp;simp only[R.ok.injEq]at hp;subst hp;exact⟨leaf k v,⟨hk,h0⟩,rfl⟩
   .rw[h0]at hp;obtain⟨t,ht,ho⟩:=ih m r (by omega) hp;exact⟨un k v t,⟨hk,h0,ht⟩,by simp[ops,ho]⟩
   .rw[h0]at hp;obtain⟨m1,m2,a,c,e⟩:=K3 (a:=1) (b:=1) hp;have l1:=DK _ _ _ a;have l2:=DK _ _ _ c;obtain⟨t,ht,ho⟩:=ih m1 r (by omega) a;rw[<-aR]at c;obtain⟨s,hs,ho'⟩:=ih m2 (r.drop m1) (by omega) c;refine⟨bi k v t s,⟨hk,h0,ht,hs⟩,?_⟩;subst e;simp only[ops,List.take_succ_cons,ho,ho'];rw[List.take_add]
def sub:Tm->Nat->Tm
 |t,0=>t
 |leaf k v,_+1=>leaf k v
 |un _ _ a,q+1=>a.sub q
 |bi _ _ a b,q+1=>if q<a.size then a.sub q else b.sub (q-a.size)
theorem sub_zero(t:Tm):t.sub 0=t:=by cases t<;>rfl
theorem sub_wf{t:Tm}(h:t.Wf):∀q,(t.sub q).Wf:=by
 induction t with
 |leaf k v=>intro q;cases q<;>exact h
 |un k v a ih=>intro q;cases q with
  |zero=>exact h
  |succ q=>exact ih h.2.2 q
 |bi k v a b iha ihb=>intro q;cases q with
  |zero=>exact h
  |succ q=>
   simp only[sub];split
   .exact iha h.2.2.1 q
   .exact ihb h.2.2.2 _
theorem sub_drop(t:Tm):∀q,q<t.size->∃r,t.ops.drop q=(t.sub q).ops++r:=by
 induction t with
 |leaf k v=>intro q hq;simp[size]at hq;subst hq;exact⟨[],rfl⟩
 |un k v a ih=>intro q hq;cases q with
  |zero=>exact⟨[],by simp[sub_zero]⟩
  |succ q=>
   simp only[size]at hq;obtain⟨r,hr⟩:=ih q (by omega);exact⟨r,by simpa[ops,sub]using hr⟩
 |bi k v a b iha ihb=>intro q hq;cases q with
  |zero=>exact⟨[],by simp[sub_zero]⟩
  |succ q=>
   simp only[size]at hq;simp only[sub,ops,aK];by_cases hl:q<a.size
   .rw[if_pos hl];obtain⟨r,hr⟩:=iha q hl;refine⟨r++b.ops,?_⟩;rw[List.drop_append_of_le_length (by rw[ops_length];omega),hr,List.append_assoc]
   .rw[if_neg hl];obtain⟨r,hr⟩:=ihb (q-a.size) (by omega);refine⟨r,?_⟩;rw[List.drop_append,ops_length,hr,List.drop_eq_nil_of_le (by rw[ops_length];omega)];rfl
theorem end_at{t:Tm}(h:t.Wf){q:Nat}(hq:q<t.size):An (t.ops.map aW) q=q+(t.sub q).size/\q+(t.sub q).size<=t.size:=by
 obtain⟨r,hr⟩:=t.sub_drop q hq;have hc:cnt ((t.ops.map aW).drop q) 1=.ok (t.sub q).size:=by
  rw[<-aR,hr,List.map_append,count (sub_wf h q),E4];simp[R.up]
 refine⟨It hc,?_⟩;have:=(DK _ _ _ hc).2;rw[aO,aQ,ops_length]at this;omega
theorem op_at(t:Tm){q:Nat}(hq:q<t.size)(d:Int×Int):t.ops.getD q d=((t.sub q).kind,(t.sub q).val):=by
 obtain⟨r,hr⟩:=t.sub_drop q hq;rw[<-ops_head_app (t.sub q) r d,<-hr];simp[aL]
theorem sub_sub(t:Tm):∀q p,q<t.size->p<(t.sub q).size->t.sub (q+p)=(t.sub q).sub p:=by
 induction t with
 |leaf k v=>intro q p hq hp;simp[size]at hq;subst hq;rw[Nat.zero_add,sub_zero]
 |un k v a ih=>intro q p hq hp;cases q with
  |zero=>rw[Nat.zero_add,sub_zero]
  |succ q=>
   simp only[size]at hq;rw[show q+1+p=(q+p)+1 by omega];exact ih q p (by omega) hp
 |bi k v a b iha ihb=>intro q p hq hp;cases q with
  |zero=>rw[Nat.zero_add,sub_zero]
  |succ q=>
   simp only[size]at hq;rw[show q+1+p=(q+p)+1 by omega];simp only[sub]at hp⊢;by_cases hl:q<a.size
   .rw[if_pos hl]at hp⊢;have hle:q+(a.sub q).size<=a.size:=by
     obtain⟨r,hr⟩:=a.sub_drop q hl;have:=congrArg aM hr;simp only[aO,aN,ops_length]at this;omega
    rw[if_pos (by omega)];exact iha q p hl hp
   .rw[if_neg hl]at hp⊢;rw[if_neg (by omega),show q+p-a.size=(q-a.size)+p by omega];exact ihb _ p (by omega) hp
def mkT(k:Int):Bool:=decide (6<=k/\k<=12)
def tkT(k:Int):Bool:=decide (8<=k/\k<=10)
def headFit:Tm->Bool
 |leaf _ _=>true
 |un k _ a=>mkT a.kind == tkT k
 |bi k _ a b=>(mkT a.kind == tkT k)&&(mkT b.kind == tkT k)
def typed:Tm->Bool
 |leaf _ _=>true
 |un k _ a=>(mkT a.kind == tkT k)&&a.typed
 |bi k _ a b=>((mkT a.kind == tkT k)&&a.typed)&&((mkT b.kind == tkT k)&&b.typed)
theorem typed_iff(t:Tm):t.typed=true↔∀q,q<t.size->(t.sub q).headFit=true:=by
 induction t with
 |leaf k v=>exact⟨fun _ q _=>by cases q<;>rfl,fun _=>rfl⟩
 |un k v a ih=>
  simp only[typed,aJ];rw[ih];constructor
  .rintro ⟨h1,h2⟩ q hq;cases q with
   |zero=>exact h1
   |succ q=>exact h2 q (by simp only[size]at hq;omega)
  .intro h;exact⟨h 0 (by simp only[size];omega),fun q hq=>h (q+1) (by simp only[size];omega)⟩
 |bi k v a b iha ihb=>
  simp only[typed,aJ];rw[iha,ihb];constructor
  .rintro ⟨⟨h1,h2⟩,h3,h4⟩ q hq;cases q with
   |zero=>simp only[sub_zero,headFit,aJ];exact⟨h1,h3⟩
   |succ q=>
    simp only[size]at hq;simp only[sub];split
    .exact h2 q (by omega)
    .exact h4 _ (by omega)
  .intro h;have h0:=h 0 (by simp only[size];omega);simp only[sub_zero,headFit,aJ]at h0;refine⟨⟨h0.1,fun q hq=>?_⟩,h0.2,fun q hq=>?_⟩
   .have:=h (q+1) (by simp only[size];omega);simpa only[sub,if_pos hq]using this
   .have:=h (a.size+q+1) (by simp only[size];omega);simpa only[sub,if_neg (show¬a.size+q<a.size by omega),show a.size+q-a.size=q by omega]using this
def opErr(vars:Int)(p:Int×Int):Int:=
 if 12<p.1 then 13 else if p.1=1 then(if -1000<=p.2/\p.2<=1000 then 0 else 2)else if p.1=2 then(if 0<=p.2/\p.2<=vars-1 then 0 else 2)else if p.2=0 then 0 else 2
def firstErr(vars:Int):List (Int×Int)->Int
 |[]=>0
 |p::l=>if opErr vars p=0 then firstErr vars l else opErr vars p
theorem firstErr_skip(vars:Int)(l:List (Int×Int)):∀i,i<=l.length->(∀j,j<i->opErr vars (l.getD j (0,0))=0)->firstErr vars l=firstErr vars (l.drop i):=by
 induction l with
 |nil=>intro i _ _;simp
 |cons p l ih=>
  intro i hi h;cases i with
  |zero=>rfl
  |succ i=>
   have h0:opErr vars p=0:=by simpa using h 0 (by omega)
   rw[aK,<-ih i (by simpa using hi) (fun j hj=>by simpa using h (j+1) (by omega))];simp[firstErr,h0]
theorem firstErr_at{vars:Int}{l:List (Int×Int)}{i:Nat}(hi:i<l.length)(h:∀j,j<i->opErr vars (l.getD j (0,0))=0)(hne:opErr vars (l.getD i (0,0))≠0):firstErr vars l=opErr vars (l.getD i (0,0)):=by
 rw[firstErr_skip vars l i (by omega) h,List.drop_eq_getElem_cons hi];have e:l.getD i (0,0)=l[i]:=by simp[aL,hi]
 rw[e]at hne⊢;simp[firstErr,hne]
theorem firstErr_none{vars:Int}{l:List (Int×Int)}(h:∀j,j<l.length->opErr vars (l.getD j (0,0))=0):firstErr vars l=0:=by
 rw[firstErr_skip vars l l.length (Nat.le_refl _) h,List.drop_length];rfl
theorem firstErr_all{vars:Int}{l:List (Int×Int)}(h:firstErr vars l=0):∀p∈l,opErr vars p=0:=by
 induction l with
 |nil=>intro p hp;simp at hp
 |cons q l ih=>
  simp only[firstErr]at h;split at h
  .rename_i h0;intro p hp;simp only[aS]at hp;rcases hp with rfl|hp
   .exact h0
   .exact ih h p hp
  .rename_i h0;exact absurd h h0
theorem firstErr_of{vars:Int}{l:List (Int×Int)}(h:∀p∈l,opErr vars p=0):firstErr vars l=0:=by
 induction l with
 |nil=>rfl
 |cons q l ih=>simp only[firstErr,if_pos (h q (by simp))];exact ih (fun p hp=>h p (by simp[hp]))
def Good(vars:Int):Tm->Prop
 |leaf k v=>(k=1/\-1000<=v/\v<=1000)\/(k=2/\0<=v/\v<=vars-1)\/((k=11\/k=12)/\v=0)
 |un k v a=>k=10/\v=0/\a.Good vars
 |bi k v a b=>3<=k/\k<=9/\v=0/\a.Good vars/\b.Good vars
theorem opErr_zero{vars k v:Int}(h:opErr vars (k,v)=0):k<=12/\(k=1->-1000<=v/\v<=1000)/\(k=2->0<=v/\v<=vars-1)/\(k≠1->k≠2->v=0):=by
 unfold opErr at h;simp only at h;repeat' split at h
 all_goals first|omega|(refine⟨by omega,fun _=>by omega,fun _=>by omega,fun _ _=>by omega⟩)
theorem good_of{vars:Int}{t:Tm}(hw:t.Wf)(h:∀p∈t.ops,opErr vars p=0):t.Good vars:=by
 induction t with
 |leaf k v=>
  obtain⟨h1,h2⟩:=hw;obtain⟨a,b,c,d⟩:=opErr_zero (h (k,v) (by simp[ops]));simp only[okK,decide_eq_true_eq]at h1;simp only[pn]at h2;simp only[Good];split at h2
  .omega
  .split at h2
   .omega
   .omega
 |un k v a ih=>
  obtain⟨h1,h2,h3⟩:=hw;obtain⟨a1,b,c,d⟩:=opErr_zero (h (k,v) (by simp[ops]));have hk:k=10:=by
   simp only[pn]at h2;split at h2
   .omega
   .split at h2<;>omega
  exact⟨hk,d (by omega) (by omega),ih h3 (fun p hp=>h p (by simp[ops,hp]))⟩
 |bi k v a b iha ihb=>
  obtain⟨h1,h2,h3,h4⟩:=hw;obtain⟨a1,b1,c,d⟩:=opErr_zero (h (k,v) (by simp[ops]));have hk:3<=k/\k<=9:=by
   simp only[pn]at h2;split at h2
   .omega
   .split at h2<;>omega
  exact⟨hk.1,hk.2,d (by omega) (by omega),iha h3 (fun p hp=>h p (by simp[ops,hp])),ihb h4 (fun p hp=>h p (by simp[ops,hp]))⟩
theorem Good.wf{vars:Int}{t:Tm}(h:t.Good vars):t.Wf:=by
 induction t with
 |leaf k v=>
  simp only[Good]at h;refine⟨by simp[okK];omega,?_⟩;unfold pn;rw[if_neg (by omega),if_neg (by omega)]
 |un k v a ih=>
  obtain⟨rfl,_,h⟩:=h;exact⟨by decide,by decide,ih h⟩
 |bi k v a b iha ihb=>
  obtain⟨h1,h2,_,h3,h4⟩:=h;refine⟨by simp[okK];omega,?_,iha h3,ihb h4⟩;unfold pn;rw[if_neg (by omega),if_pos (by omega)]
theorem Good.ops{vars:Int}{t:Tm}(h:t.Good vars):∀p∈t.ops,opErr vars p=0:=by
 induction t with
 |leaf k v=>
  simp only[Good]at h;intro p hp;simp[Tm.ops]at hp;subst hp;unfold opErr;simp only;repeat' split
  all_goals omega
 |un k v a ih=>
  obtain⟨rfl,rfl,h⟩:=h;intro p hp;simp only[Tm.ops,aS]at hp;rcases hp with rfl|hp
  .rfl
  .exact ih h p hp
 |bi k v a b iha ihb=>
  obtain⟨h1,h2,rfl,h3,h4⟩:=h;intro p hp;simp only[Tm.ops,aS,List.mem_append]at hp;rcases hp with rfl|hp|hp
  .unfold opErr;simp only;rw[if_neg (by omega),if_neg (by omega),if_neg (by omega)];rfl
  .exact iha h3 p hp
  .exact ihb h4 p hp
theorem Good.sub{vars:Int}{t:Tm}(h:t.Good vars):∀q,(t.sub q).Good vars:=by
 induction t with
 |leaf k v=>intro q;cases q<;>exact h
 |un k v a ih=>intro q;cases q with
  |zero=>exact h
  |succ q=>exact ih h.2.2 q
 |bi k v a b iha ihb=>intro q;cases q with
  |zero=>exact h
  |succ q=>
   simp only[Tm.sub];split
   .exact iha h.2.2.2.1 q
   .exact ihb h.2.2.2.2 _
def bin(k x y:Int):Int:=
 if k=3 then x+y else if k=4 then x-y else if k=5 then x*y
 else if k=6 then(if x=y then 1 else 0)else if k=7 then(if x<y then 1 else 0)
 else if k=8 then(if x=1/\y=1 then 1 else 0)else(if x=1\/y=1 then 1 else 0)
def lid(m:Int):Option Int:=if -1000000<=m/\m<=1000000 then some m else none
def eval(env:List Int):Tm->Option Int
 |leaf k v=>some (if k=1 then v else if k=2 then env.getD v.toNat 0 else if k=11 then 1 else 0)
 |un _ _ a=>match a.eval env with
  |some x=>some (1-x)
  |none=>none
 |bi k _ a b=>match a.eval env,b.eval env with
  |some x,some y=>lid (bin k x y)
  |_,_=>none
def EnvOk(env:List Int):Prop:=∀i,i<env.length->-1000000<=env.getD i 0/\env.getD i 0<=1000000
theorem bin_truth{k x y:Int}(h:6<=k):bin k x y=0\/bin k x y=1:=by
 unfold bin;rw[if_neg (by omega),if_neg (by omega),if_neg (by omega)];repeat' split
 all_goals simp
theorem lid_le{m x:Int}(h:lid m=some x):x=m/\-1000000<=m/\m<=1000000:=by
 unfold lid at h;split at h
 .simp at h;omega
 .simp at h
theorem eval_le{vars:Nat}{env:List Int}{t:Tm}(he:EnvOk env)(hv:env.length=vars)(h:t.Good vars)(ht:t.typed=true):∀x,t.eval env=some x->(-1000000<=x/\x<=1000000)/\(mkT t.kind=true->x=0\/x=1):=by
 induction t with
 |leaf k v=>
  intro x hx;simp only[eval,Option.some.injEq]at hx;simp only[Good]at h;have hb:=fun(h2:0<=v/\v<=(vars:Int)-1)=>he v.toNat (by omega);subst hx;refine⟨?_,fun hm=>?_⟩
  .by_cases h1:k=1
   .rw[if_pos h1];omega
   .rw[if_neg h1];by_cases h2:k=2
    .rw[if_pos h2];exact hb (by omega)
    .rw[if_neg h2];split<;>omega
  .have hm':6<=k/\k<=12:=of_decide_eq_true hm;rw[if_neg (by omega),if_neg (by omega)];split<;>simp
 |un k v a ih=>
  intro x hx;simp only[typed,aJ,beq_iff_eq]at ht;obtain⟨rfl,rfl,ha⟩:=h;simp only[eval]at hx;cases hy:a.eval env with
  |none=>rw[hy]at hx;simp at hx
  |some y=>
   rw[hy]at hx;simp only[Option.some.injEq]at hx;have:=(ih ha ht.2 y hy).2 (by rw[ht.1];rfl);subst hx;refine⟨by omega,fun _=>by omega⟩
 |bi k v a b iha ihb=>
  intro x hx;obtain⟨h1,h2,rfl,ha,hb⟩:=h;simp only[eval]at hx;cases hy:a.eval env with
  |none=>rw[hy]at hx;simp at hx
  |some y=>
   cases hz:b.eval env with
   |none=>rw[hy,hz]at hx;simp at hx
   |some z=>
    rw[hy,hz]at hx;obtain⟨rfl,h3,h4⟩:=lid_le hx;refine⟨⟨h3,h4⟩,fun hm=>?_⟩;have hm':6<=k/\k<=12:=of_decide_eq_true hm;exact bin_truth (by omega)
def kids:Tm->List Tm
 |leaf _ _=>[]
 |un _ _ a=>[a]
 |bi _ _ a b=>[a,b]
def koff(t:Tm)(i:Nat):Nat:=1+((t.kids.take i).map size).sum
theorem koff_zero(t:Tm):t.koff 0=1:=by simp[koff]
theorem koff_last(t:Tm):t.koff t.kids.length=t.size:=by
 cases t with
 |leaf k v=>rfl
 |un k v a=>simp[koff,kids,size]
 |bi k v a b=>simp[koff,kids,size];omega
theorem kid_at(t:Tm){i:Nat}(hi:i<t.kids.length):1<=t.koff i/\t.koff i<t.size/\t.sub (t.koff i)=t.kids.getD i t/\t.koff (i+1)=t.koff i+(t.kids.getD i t).size/\t.koff (i+1)<=t.size:=by
 cases t with
 |leaf k v=>simp[kids]at hi
 |un k v a=>
  simp[kids]at hi;subst hi;have:=a.size_pos;simp[koff,kids,size,sub,sub_zero];omega
 |bi k v a b=>
  have:=a.size_pos;have:=b.size_pos;have h2:i=0\/i=1:=by simp[kids]at hi;omega
  rcases h2 with rfl|rfl
  .simp[koff,kids,size,sub,sub_zero];omega
  .have e:koff (bi k v a b) 1=a.size+1:=by simp[koff,kids];omega
   rw[e];simp[koff,kids,size,sub,sub_zero];omega
theorem headFit_iff(t:Tm):t.headFit=true↔∀i,i<t.kids.length->mkT (t.kids.getD i t).kind=tkT t.kind:=by
  cases t with
  |leaf k v=>simp[headFit,kids]
  |un k v a=>
    simp only[headFit,kids,kind,beq_iff_eq,List.length_singleton]
    exact ⟨fun h i hi => by obtain rfl : i = 0 := by omega
                            exact h,fun h=>h 0 (by omega)⟩
  |bi k v a b=>
    simp only[headFit,kids,kind,beq_iff_eq,aJ,List.length_cons,List.length_nil];refine⟨fun h i hi=>?_,fun h=>⟨h 0 (by omega),h 1 (by omega)⟩⟩;have h2:i=0\/i=1:=by omega
    rcases h2 with rfl|rfl
    . exact h.1
    . exact h.2
theorem sub_fits(t:Tm){q:Nat}(hq:q<t.size):q+(t.sub q).size<=t.size:=by
 obtain⟨r,hr⟩:=t.sub_drop q hq;have:=congrArg aM hr;simp only[aO,aN,ops_length]at this;omega
theorem kid_in{t:Tm}(h:t.Wf){p i:Nat}(hp:p<t.size)(hi:i<(t.sub p).kids.length) :
  p+(t.sub p).koff i<t.size/\t.sub (p+(t.sub p).koff i)=(t.sub p).kids.getD i (t.sub p)/\An (t.ops.map aW) (p+(t.sub p).koff i)=p+(t.sub p).koff (i+1)/\(t.sub p).koff i<(t.sub p).koff (i+1)/\p+(t.sub p).koff (i+1)<=t.size/\(t.sub p).koff i<(t.sub p).size:=by
 obtain⟨h1,h2,h3,h4,h5⟩:=(t.sub p).kid_at hi;have hf:=t.sub_fits hp;have hss:=t.sub_sub p _ hp h2;rw[h3]at hss;have hsp:=((t.sub p).kids.getD i (t.sub p)).size_pos;have he:=(end_at h (q:=p+(t.sub p).koff i) (by omega)).1;rw[hss]at he;exact⟨by omega,hss,by omega,by omega,by omega,h2⟩
theorem Good.kind{vars:Int}{t:Tm}(h:t.Good vars):1<=t.kind/\t.kind<=12:=by
 cases t with
 |leaf k v=>simp only[Good]at h;simp only[Tm.kind];omega
 |un k v a=>obtain⟨rfl,_⟩:=h;simp[Tm.kind]
 |bi k v a b=>obtain⟨h1,h2,_⟩:=h;simp only[Tm.kind];omega
theorem Good.kid{vars:Int}{t:Tm}(h:t.Good vars){i:Nat}(hi:i<t.kids.length):(t.kids.getD i t).Good vars:=by
 rw[<-(t.kid_at hi).2.2.1];exact h.sub _
end Tm
theorem WP{l:List (Int×Int)}(h:cnt (l.map aW) 1=.ok (l.map aW).length):∃t:Tm,t.Wf/\t.ops=l:=by
 obtain⟨t,h1,h2⟩:=Tm.parse _ _ l (Nat.le_refl _) h;exact⟨t,h1,by rw[h2,aQ,List.take_length]⟩
