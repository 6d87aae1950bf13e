import Derived.Test.YtehfhemidmfffaaGreatDoorCodes
open _root_.Bool renaming false→Z
namespace Go.Proofs.YtehfhemidmfffaaGreatDoor
open _root_.List renaming all_eq_true→jC,mem_range→vA
open Terms Tm
set_option maxHeartbeats 6400000
set_option maxRecDepth 20000
def A2(f:Nat->Int):Nat->Int
 |0=>0
 |n+1=>if A2 f n=0 then f n else A2 f n
theorem Da{f:Nat->Int}{n:Nat}(h:∀j,j<n->f j=0):A2 f n=0:=by
 induction n with
 |zero=>rfl
 |succ n ih=>
  simp only[A2];rw[aj (ih fun j hj=>h j (by omega))];exact h n (by omega)
theorem Gc{f:Nat->Int}{n i:Nat}(hi:i<n)(h:∀j,j<i->f j=0)(hne:f i≠0):A2 f n=f i:=by
 induction n with
 |zero=>omega
 |succ n ih=>
  simp only[A2];by_cases hin:i=n
  .subst hin;rw[aj (Da h)]
  .rw[ih (by omega),ak hne]
theorem Iu{f:Nat->Int}{n:Nat}(h:A2 f n=0):∀j,j<n->f j=0:=by
 induction n with
 |zero=>intro j hj;omega
 |succ n ih=>
  simp only[A2]at h;split at h
  .rename_i h0;intro j hj;by_cases hjn:j=n
   .subst hjn;exact h
   .exact ih h0 j (by omega)
  .rename_i h0;exact absurd h h0
theorem N0(l:am):∃t:Tm,AU (l.map Prod.fst)=0->t.Wf/\t.ops=l:=by
 by_cases hz:AU (l.map Prod.fst)=0
 .obtain ⟨t,h1,h2⟩:=WP (Fe hz).2;exact⟨t,fun _=>⟨h1,h2⟩⟩
 .exact ⟨.leaf 0 0,fun h=>absurd h hz⟩
noncomputable def C0(l:am):Tm:=Classical.choose (N0 l)
theorem KA(l:am):AU (l.map Prod.fst)=0->(C0 l).Wf/\(C0 l).ops=l:=Classical.choose_spec (N0 l)
noncomputable def kcode(vars:Int)(l:am)(tr:Bool):Int:=
 if A5 vars l (C0 l)=0 then(if mkT (C0 l).kind=tr then 0 else 5)else A5 vars l (C0 l)
def DY(i:Nat)(c:Int):Bool:=decide ((97<=c/\c<=122)\/(i≠0/\48<=c/\c<=57))
def CZ(s:ByteArray):Bool:=decide (1<=s.size/\s.size<=8)&&(!(s.toList == [121,101,115])&&!(s.toList == [110,111]))
def DI(s:ByteArray)(i:Nat):Int:=((s.data.toList.getD i 0).toNat:Int)
theorem PQ(s:ByteArray){i:Nat}(h:i<s.size):DI s i=(s[i].toNat:Int):=by
 unfold DI;rw[List.getD_eq_getElem?_getD,List.getElem?_eq_getElem (by simpa using h)];rfl
def BO(s:ByteArray):Bool:=CZ s&&(List.range s.size).all fun i=>DY i (DI s i)
theorem S6{s:ByteArray}(h:CZ s=true)(h2:∀i,i<s.size->DY i (DI s i)=true):BO s=true:=by
 simp only[BO,h,Bool.true_and,jC,vA];exact h2
theorem JL{s:ByteArray}(h:CZ s=Z):BO s=false:=by simp[BO,h]
theorem S5{s:ByteArray}{i:Nat}(hi:i<s.size)(h:DY i (DI s i)=Z):BO s=false:=by
 rw[Bool.eq_false_iff];intro hn;simp only[BO,Bool.and_eq_true,jC,vA]at hn;rw[hn.2 i hi]at h;exact absurd h (by decide)
structure Vr where
 name:ByteArray
 lo:Int
 hi:Int
 ini:Int
def vr0:Vr:=⟨ByteArray.empty,0,0,0⟩
structure St where
 var:Int
 val:am
def st0:St:=⟨0,[]⟩
structure Ru where
 guard:am
 sets:List St
def ru0:Ru:=⟨[],[]⟩
structure Mo where
 vars:List Vr
 rules:List Ru
def AN(v:Vr):Int:=v.hi-v.lo+1
def CJ(v:Vr):Bool:=decide (-1000<=v.lo/\v.hi<=1000/\v.lo<=v.hi/\v.lo<=v.ini/\v.ini<=v.hi)
def Cj(l:List Vr)(i:Nat)(s:ByteArray):Bool:=(List.range i).any fun j=>decide ((l.getD j vr0).name=s)
def CN(l:List St)(i:Nat)(x:Int):Bool:=(List.range i).any fun j=>decide ((l.getD j st0).var=x)
def AL(l:List Vr):Nat->Int
 |0=>1
 |i+1=>AL l i*AN (l.getD i vr0)
def vAt(l:List Vr)(i:Nat):Int:=
 if BO (l.getD i vr0).name=Z then 6 else if Cj l i (l.getD i vr0).name=true then 7 else if CJ (l.getD i vr0)=Z then 2
 else if 64<AN (l.getD i vr0)\/4096<AL l (i+1)then 1 else 0
def vcode(l:List Vr):Int:=if 6<l.length then 1 else A2 (vAt l) l.length
noncomputable def sAt(vars:Int)(l:List St)(i:Nat):Int:=
 if(l.getD i st0).var<0\/vars<=(l.getD i st0).var then 2 else if CN l i (l.getD i st0).var=true then 7 else kcode vars (l.getD i st0).val Z
noncomputable def BH(vars:Int)(r:Ru):Int:=
 if 6<r.sets.length then 1 else if kcode vars r.guard true=0 then A2 (sAt vars r.sets) r.sets.length else kcode vars r.guard true
noncomputable def mcode(m:Mo):Int:=
 if vcode m.vars=0 then(if 12<m.rules.length then 1 else A2 (fun i=>BH m.vars.length (m.rules.getD i ru0)) m.rules.length)else vcode m.vars
noncomputable def CP(m:Mo)(ps:List am):Int:=
 if mcode m=0 then(if 6<ps.length then 1 else A2 (fun i=>kcode m.vars.length (ps.getD i []) true) ps.length)else mcode m
theorem N4{l:List Vr}{i:Nat}(h:vAt l i=0):BO (l.getD i vr0).name=true/\Cj l i (l.getD i vr0).name=Z/\CJ (l.getD i vr0)=true/\AN (l.getD i vr0)<=64/\AL l (i+1)<=4096:=by
 unfold vAt at h;split at h
 .simp at h
 .rename_i h1;split at h
  .simp at h
  .rename_i h2;split at h
   .simp at h
   .rename_i h3;split at h
    .simp at h
    .rename_i h4;exact⟨by simpa using h1,by simpa using h2,by simpa using h3,by omega,by omega⟩
theorem KE{l:List Vr}{k:Nat}{x:Vr}{st:Int}(hx:l.getD k vr0=x)(hst:AL l k=st) :
  (BO x.name=Z->vAt l k=6)/\(BO x.name=true->Cj l k x.name=true->vAt l k=7)/\(BO x.name=true->Cj l k x.name=Z->CJ x=Z->vAt l k=2)/\
  (BO x.name=true->Cj l k x.name=Z->CJ x=true->64<AN x\/4096<st*AN x->vAt l k=1)/\(BO x.name=true->Cj l k x.name=Z->CJ x=true->¬(64<AN x\/4096<st*AN x)->vAt l k=0):=by
 subst hx hst;refine⟨fun h1=>?_,fun h1 h2=>?_,fun h1 h2 h3=>?_,fun h1 h2 h3 h4=>?_,fun h1 h2 h3 h4=>?_⟩;all_goals unfold vAt
 .rw[aj h1]
 .rw[ak (by rw[h1];decide),aj h2]
 .rw[ak (by rw[h1];decide),ak (by rw[h2];decide),aj h3]
 .rw[ak (by rw[h1];decide),ak (by rw[h2];decide),ak (by rw[h3];decide),show AL l (k+1)=AL l k*AN (l.getD k vr0)from rfl,aj h4]
 .rw[ak (by rw[h1];decide),ak (by rw[h2];decide),ak (by rw[h3];decide),show AL l (k+1)=AL l k*AN (l.getD k vr0)from rfl,ak h4]
theorem KG{v:Vr}(h:CJ v=true):1<=AN v/\AN v<=2001/\-1000<=v.lo/\v.hi<=1000/\v.lo<=v.hi/\v.lo<=v.ini/\v.ini<=v.hi:=by
 simp only[CJ,decide_eq_true_eq]at h;unfold AN;omega
theorem M3{l:List Vr}{i:Nat}(h:∀j,j<i->vAt l j=0):1<=AL l i/\AL l i<=4096:=by
 induction i with
 |zero=>simp[AL]
 |succ i ih=>
  have h0:=N4 (h i (by omega));have h1:=ih fun j hj=>h j (by omega);have h2:=KG h0.2.2.1;refine⟨?_,h0.2.2.2.2⟩;simp only[AL];have:=Int.mul_le_mul h1.1 h2.1 (by omega) (by omega);simpa using this
def Bz(l:List Vr):Prop:=l.length<=6/\∀j,j<l.length->vAt l j=0
theorem N5{l:List Vr}(h:vcode l=0):Bz l:=by
 unfold vcode at h;split at h
 .simp at h
 .exact ⟨by omega,Iu h⟩
theorem Cw{m:Mo}(h:mcode m=0):Bz m.vars:=by
 unfold mcode at h;split at h
 .rename_i h0;exact N5 h0
 .rename_i h0;exact absurd h h0
theorem Bz.at{l:List Vr}(h:Bz l){j:Nat}(hj:j<l.length):1<=AN (l.getD j vr0)/\AN (l.getD j vr0)<=64/\-1000<=(l.getD j vr0).lo/\(l.getD j vr0).hi<=1000/\(l.getD j vr0).lo<=(l.getD j vr0).hi/\(l.getD j vr0).lo<=(l.getD j vr0).ini/\(l.getD j vr0).ini<=(l.getD j vr0).hi:=by
 have h0:=N4 (h.2 j hj);have h1:=KG h0.2.2.1;omega
theorem Bz.prod{l:List Vr}(h:Bz l){j:Nat}(hj:j<=l.length):1<=AL l j/\AL l j<=4096:=M3 fun i hi=>h.2 i (by omega)
