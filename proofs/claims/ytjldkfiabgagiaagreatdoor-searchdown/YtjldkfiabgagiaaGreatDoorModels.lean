import Derived.Test.YtjldkfiabgagiaaGreatDoorCodes
open _root_.Bool renaming false→Z
namespace Go.Proofs.YtjldkfiabgagiaaGreatDoor
open _root_.List renaming all_eq_true→jB,mem_range→vE
open Terms Tm
set_option maxHeartbeats 6400000
set_option maxRecDepth 20000
def Ay(f:Nat->Int):Nat->Int
 |0=>0
 |n+1=>if Ay f n=0 then f n else Ay f n
theorem DS{f:Nat->Int}{n:Nat}(h:∀j,j<n->f j=0):Ay f n=0:=by
 induction n with
 |zero=>rfl
 |succ n ih=>
  simp only[Ay];rw[if_pos (ih fun j hj=>h j (by omega))];exact h n (by omega)
theorem GT{f:Nat->Int}{n i:Nat}(hi:i<n)(h:∀j,j<i->f j=0)(hne:f i≠0):Ay f n=f i:=by
 induction n with
 |zero=>omega
 |succ n ih=>
  simp only[Ay];by_cases hin:i=n
  .subst hin;rw[if_pos (DS h)]
  .rw[ih (by omega),if_neg hne]
theorem Ig{f:Nat->Int}{n:Nat}(h:Ay f n=0):∀j,j<n->f j=0:=by
 induction n with
 |zero=>intro j hj;omega
 |succ n ih=>
  simp only[Ay]at h;split at h
  .rename_i h0;intro j hj;by_cases hjn:j=n
   .subst hjn;exact h
   .exact ih h0 j (by omega)
  .rename_i h0;exact absurd h h0
theorem NX(l:List (Int×Int)):∃t:Tm,AR (l.map Prod.fst)=0->t.Wf/\t.ops=l:=by
 by_cases hz:AR (l.map Prod.fst)=0
 .obtain ⟨t,h1,h2⟩:=VN (FZ hz).2;exact⟨t,fun _=>⟨h1,h2⟩⟩
 .exact ⟨.leaf 0 0,fun h=>absurd h hz⟩
noncomputable def Cz(l:List (Int×Int)):Tm:=Classical.choose (NX l)
theorem Jq(l:List (Int×Int)):AR (l.map Prod.fst)=0->(Cz l).Wf/\(Cz l).ops=l:=Classical.choose_spec (NX l)
noncomputable def kcode(vars:Int)(l:List (Int×Int))(tr:Bool):Int:=
 if A1 vars l (Cz l)=0 then(if mkT (Cz l).kind=tr then 0 else 5)else A1 vars l (Cz l)
def DQ(i:Nat)(c:Int):Bool:=decide ((97<=c/\c<=122)\/(i≠0/\48<=c/\c<=57))
def CY(s:ByteArray):Bool:=decide (1<=s.size/\s.size<=8)&&(!(s.toList == [121,101,115])&&!(s.toList == [110,111]))
def DC(s:ByteArray)(i:Nat):Int:=((s.data.toList.getD i 0).toNat:Int)
theorem On(s:ByteArray){i:Nat}(h:i<s.size):DC s i=(s[i].toNat:Int):=by
 unfold DC;rw[List.getD_eq_getElem?_getD,List.getElem?_eq_getElem (by simpa using h)];rfl
def BM(s:ByteArray):Bool:=CY s&&(List.range s.size).all fun i=>DQ i (DC s i)
theorem SR{s:ByteArray}(h:CY s=true)(h2:∀i,i<s.size->DQ i (DC s i)=true):BM s=true:=by
 simp only[BM,h,Bool.true_and,jB,vE];exact h2
theorem I3{s:ByteArray}(h:CY s=Z):BM s=false:=by simp[BM,h]
theorem SQ{s:ByteArray}{i:Nat}(hi:i<s.size)(h:DQ i (DC s i)=Z):BM s=false:=by
 rw[Bool.eq_false_iff];intro hn;simp only[BM,Bool.and_eq_true,jB,vE]at hn;rw[hn.2 i hi]at h;exact absurd h (by decide)
structure Vr where
 name:ByteArray
 lo:Int
 hi:Int
 ini:Int
def vr0:Vr:=⟨ByteArray.empty,0,0,0⟩
structure St where
 var:Int
 val:List (Int×Int)
def st0:St:=⟨0,[]⟩
structure Ru where
 guard:List (Int×Int)
 sets:List St
def ru0:Ru:=⟨[],[]⟩
structure Mo where
 vars:List Vr
 rules:List Ru
def AM(v:Vr):Int:=v.hi-v.lo+1
def CH(v:Vr):Bool:=decide (-1000<=v.lo/\v.hi<=1000/\v.lo<=v.hi/\v.lo<=v.ini/\v.ini<=v.hi)
def Ci(l:List Vr)(i:Nat)(s:ByteArray):Bool:=(List.range i).any fun j=>decide ((l.getD j vr0).name=s)
def CK(l:List St)(i:Nat)(x:Int):Bool:=(List.range i).any fun j=>decide ((l.getD j st0).var=x)
def AK(l:List Vr):Nat->Int
 |0=>1
 |i+1=>AK l i*AM (l.getD i vr0)
def vAt(l:List Vr)(i:Nat):Int:=
 if BM (l.getD i vr0).name=Z then 6 else if Ci l i (l.getD i vr0).name=true then 7 else if CH (l.getD i vr0)=Z then 2
 else if 64<AM (l.getD i vr0)\/4096<AK l (i+1)then 1 else 0
def vcode(l:List Vr):Int:=if 6<l.length then 1 else Ay (vAt l) l.length
noncomputable def sAt(vars:Int)(l:List St)(i:Nat):Int:=
 if(l.getD i st0).var<0\/vars<=(l.getD i st0).var then 2 else if CK l i (l.getD i st0).var=true then 7 else kcode vars (l.getD i st0).val Z
noncomputable def BG(vars:Int)(r:Ru):Int:=
 if 6<r.sets.length then 1 else if kcode vars r.guard true=0 then Ay (sAt vars r.sets) r.sets.length else kcode vars r.guard true
noncomputable def mcode(m:Mo):Int:=
 if vcode m.vars=0 then(if 12<m.rules.length then 1 else Ay (fun i=>BG m.vars.length (m.rules.getD i ru0)) m.rules.length)else vcode m.vars
noncomputable def CM(m:Mo)(ps:List (List (Int×Int))):Int:=
 if mcode m=0 then(if 6<ps.length then 1 else Ay (fun i=>kcode m.vars.length (ps.getD i []) true) ps.length)else mcode m
theorem Nb{l:List Vr}{i:Nat}(h:vAt l i=0):BM (l.getD i vr0).name=true/\Ci l i (l.getD i vr0).name=Z/\CH (l.getD i vr0)=true/\AM (l.getD i vr0)<=64/\AK l (i+1)<=4096:=by
 unfold vAt at h;split at h
 .simp at h
 .rename_i h1;split at h
  .simp at h
  .rename_i h2;split at h
   .simp at h
   .rename_i h3;split at h
    .simp at h
    .rename_i h4;exact⟨by simpa using h1,by simpa using h2,by simpa using h3,by omega,by omega⟩
theorem Ju{l:List Vr}{k:Nat}{x:Vr}{st:Int}(hx:l.getD k vr0=x)(hst:AK l k=st) :
  (BM x.name=Z->vAt l k=6)/\(BM x.name=true->Ci l k x.name=true->vAt l k=7)/\(BM x.name=true->Ci l k x.name=Z->CH x=Z->vAt l k=2)/\
  (BM x.name=true->Ci l k x.name=Z->CH x=true->64<AM x\/4096<st*AM x->vAt l k=1)/\(BM x.name=true->Ci l k x.name=Z->CH x=true->¬(64<AM x\/4096<st*AM x)->vAt l k=0):=by
 subst hx hst;refine⟨fun h1=>?_,fun h1 h2=>?_,fun h1 h2 h3=>?_,fun h1 h2 h3 h4=>?_,fun h1 h2 h3 h4=>?_⟩;all_goals unfold vAt
 .rw[if_pos h1]
 .rw[if_neg (by rw[h1];decide),if_pos h2]
 .rw[if_neg (by rw[h1];decide),if_neg (by rw[h2];decide),if_pos h3]
 .rw[if_neg (by rw[h1];decide),if_neg (by rw[h2];decide),if_neg (by rw[h3];decide),show AK l (k+1)=AK l k*AM (l.getD k vr0)from rfl,if_pos h4]
 .rw[if_neg (by rw[h1];decide),if_neg (by rw[h2];decide),if_neg (by rw[h3];decide),show AK l (k+1)=AK l k*AM (l.getD k vr0)from rfl,if_neg h4]
theorem Jw{v:Vr}(h:CH v=true):1<=AM v/\AM v<=2001/\-1000<=v.lo/\v.hi<=1000/\v.lo<=v.hi/\v.lo<=v.ini/\v.ini<=v.hi:=by
 simp only[CH,decide_eq_true_eq]at h;unfold AM;omega
theorem Md{l:List Vr}{i:Nat}(h:∀j,j<i->vAt l j=0):1<=AK l i/\AK l i<=4096:=by
 induction i with
 |zero=>simp[AK]
 |succ i ih=>
  have h0:=Nb (h i (by omega));have h1:=ih fun j hj=>h j (by omega);have h2:=Jw h0.2.2.1;refine⟨?_,h0.2.2.2.2⟩;simp only[AK];have:=Int.mul_le_mul h1.1 h2.1 (by omega) (by omega);simpa using this
def Bu(l:List Vr):Prop:=l.length<=6/\∀j,j<l.length->vAt l j=0
theorem Nc{l:List Vr}(h:vcode l=0):Bu l:=by
 unfold vcode at h;split at h
 .simp at h
 .exact ⟨by omega,Ig h⟩
theorem Cv{m:Mo}(h:mcode m=0):Bu m.vars:=by
 unfold mcode at h;split at h
 .rename_i h0;exact Nc h0
 .rename_i h0;exact absurd h h0
theorem Bu.at{l:List Vr}(h:Bu l){j:Nat}(hj:j<l.length):1<=AM (l.getD j vr0)/\AM (l.getD j vr0)<=64/\-1000<=(l.getD j vr0).lo/\(l.getD j vr0).hi<=1000/\(l.getD j vr0).lo<=(l.getD j vr0).hi/\(l.getD j vr0).lo<=(l.getD j vr0).ini/\(l.getD j vr0).ini<=(l.getD j vr0).hi:=by
 have h0:=Nb (h.2 j hj);have h1:=Jw h0.2.2.1;omega
theorem Bu.prod{l:List Vr}(h:Bu l){j:Nat}(hj:j<=l.length):1<=AK l j/\AK l j<=4096:=Md fun i hi=>h.2 i (by omega)
