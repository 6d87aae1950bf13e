import Derived.WalkKit
namespace Go.Proofs.YtehfhemidmfffaaGreatDoor.Terms
set_option maxHeartbeats 6400000
set_option maxRecDepth 20000
def pn(k:Int):Nat:=if k=10\/k=14\/k=17\/k=18 then 1 else if(3<=k/\k<=9)\/k=15\/k=16 then 2 else 0
def okK(k:Int):Bool:=decide (1<=k/\k<=18)
theorem Jk(k:Int):pn k<=2:=by
 unfold pn;split
 .omega
 .split<;>omega
inductive R where
 |ok (n:Nat)
 |no (e:Int)
def R.up:R->Nat->R
 | .ok m,j=>.ok (m+j)
 | .no e,_=>.no e
theorem R.up_up(r:R)(i j:Nat):(r.up i).up j=r.up (i+j):=by cases r<;>simp[R.up,Nat.add_assoc]
theorem R.up_zero(r:R):r.up 0=r:=by cases r<;>rfl
def cnt:List Int->Nat->R
 |_,0=>.ok 0
 |[],_+1=>.no 4
 |k::r,w+1=>if okK k=true then(cnt r (w+pn k)).up 1 else .no 13
theorem E4(l:List Int):cnt l 0=.ok 0:=by cases l<;>rfl
theorem DJ(k:Int)(r:List Int)(w:Nat):cnt (k::r) (w+1)=if okK k=true then(cnt r (w+pn k)).up 1 else .no 13:=rfl
theorem GQ(l:List Int):∀a b:Nat,cnt l (a+b)=match cnt l a with
  | .ok m=>(cnt (l.drop m) b).up m
  | .no e=>.no e:=by
 induction l with
 |nil=>
  intro a b;cases a with
  |zero=>simp[cnt,R.up_zero]
  |succ a=>rw[show a+1+b=(a+b)+1 by omega];rfl
 |cons k r ih=>
  intro a b;cases a with
  |zero=>simp[E4,R.up_zero]
  |succ a=>
   rw[show a+1+b=(a+b)+1 by omega,DJ,DJ];by_cases hk:okK k=true
   .rw[if_pos hk,if_pos hk,show a+b+pn k=(a+pn k)+b by omega,ih];cases cnt r (a+pn k)with
    |ok m=>show((cnt (r.drop m) b).up m).up 1=(cnt ((k::r).drop (m+1)) b).up (m+1);rw[R.up_up];rfl
    |no e=>rfl
   .rw[if_neg hk,if_neg hk]
theorem DK(l:List Int):∀(w m:Nat),cnt l w=.ok m->w<=m/\m<=l.length:=by
 induction l with
 |nil=>
  intro w m h;cases w with
  |zero=>simp[cnt]at h;omega
  |succ w=>simp[cnt]at h
 |cons k r ih=>
  intro w m h;cases w with
  |zero=>simp[cnt]at h;simp;omega
  |succ w=>
   rw[DJ]at h;split at h
   .cases hr:cnt r (w+pn k)with
    |ok m'=>
     rw[hr]at h;simp only[R.up,R.ok.injEq]at h;have:=ih _ _ hr;simp;omega
    |no e=>rw[hr]at h;simp[R.up]at h
   .simp at h
theorem K2(l:List Int):∀(w:Nat) (e:Int),cnt l w=.no e->e=4\/e=13:=by
 induction l with
 |nil=>
  intro w e h;cases w with
  |zero=>simp[cnt]at h
  |succ w=>simp[cnt]at h;omega
 |cons k r ih=>
  intro w e h;cases w with
  |zero=>simp[cnt]at h
  |succ w=>
   rw[DJ]at h;split at h
   .cases hr:cnt r (w+pn k)with
    |ok m'=>rw[hr]at h;simp[R.up]at h
    |no e'=>rw[hr]at h;simp only[R.up,R.no.injEq]at h;subst h;exact ih _ _ hr
   .simp at h;omega
theorem Pr (l:List Int):∀ (w m j:Nat),cnt l w=.ok m->j < m->∃ m',cnt (l.drop j) 1=.ok m'/\1 <= m'/\j+m' <= m:=by
 induction l with
 |nil=>
  intro w m j h hj;have:=DK _ _ _ h;simp at this;omega
 | cons k r ih=>
  intro w m j h hj;cases w with
  |zero=>simp[E4]at h;omega
  |succ w=>
   rw[DJ]at h;split at h
   .rename_i hk;cases hr:cnt r (w+pn k)with
    |no e=>rw[hr]at h;simp[R.up]at h
    |ok m1=>
     rw[hr]at h;simp only[R.up,R.ok.injEq]at h;subst h;cases j with
     |zero=>
      have h2:=hr;rw[show w+pn k=pn k+w by omega,GQ]at h2;cases h3:cnt r (pn k)with
      |no e=>rw[h3]at h2;simp at h2
      |ok m2=>
       rw[h3]at h2;simp only at h2;refine⟨m2+1,?_,by omega,?_⟩
       .rw[List.drop_zero,DJ,if_pos hk,show 0+pn k=pn k by omega,h3];rfl
       .cases h4:cnt (r.drop m2) w with
        |no e=>rw[h4]at h2;simp[R.up]at h2
        |ok m3=>rw[h4]at h2;simp only[R.up,R.ok.injEq]at h2;omega
     |succ j=>
      obtain⟨m',a,b,c⟩:=ih _ _ j hr (by omega);exact⟨m',by simpa using a,b,by omega⟩
   .simp at h
def An(ks:List Int)(q:Nat):Nat:=match cnt (ks.drop q) 1 with
 | .ok m=>q+m
 | .no _=>0
theorem It{ks:List Int}{q m:Nat}(h:cnt (ks.drop q) 1=.ok m):An ks q=q+m:=by simp[An,h]
theorem Im{ks:List Int}{q:Nat}(hq:q<ks.length):cnt (ks.drop q) 1=if okK (ks.getD q 0)=true then(cnt (ks.drop (q+1)) (pn (ks.getD q 0))).up 1 else .no 13:=by
 rw[List.drop_eq_getElem_cons hq,DJ];simp[List.getD_eq_getElem?_getD,hq]
theorem K4{ks:List Int}{q:Nat}(hq:ks.length<=q)(w:Nat):cnt (ks.drop q) (w+1)=.no 4:=by
 rw[List.drop_eq_nil_of_le hq];rfl
theorem Ps{l:List Int}{c m:Nat}(h:cnt l c=.ok m):cnt l (c+1)=(cnt (l.drop m) 1).up m:=by rw[GQ,h]
theorem Pt{l:List Int}{c d:Nat}{e:Int}(h:cnt l c=.no e)(hd:c<=d):cnt l d=.no e:=by
 rw[show d=c+(d-c) by omega,GQ,h]
theorem K3{l:List Int}{a b m:Nat}(h:cnt l (a+b)=.ok m):∃m1 m2,cnt l a=.ok m1/\cnt (l.drop m1) b=.ok m2/\m=m1+m2:=by
 rw[GQ]at h;cases h1:cnt l a with
 |no e=>rw[h1]at h;simp at h
 |ok m1=>
  rw[h1]at h;simp only at h;cases h2:cnt (l.drop m1) b with
  |no e=>rw[h2]at h;simp[R.up]at h
  |ok m2=>
   rw[h2]at h;simp only[R.up,R.ok.injEq]at h;exact⟨m1,m2,rfl,h2,by omega⟩
def pos(ks:List Int)(j:Nat):Nat:=match cnt (ks.drop 1) j with
 | .ok m=>1+m
 | .no _=>0
theorem TT{ks:List Int}{n:Nat}(h:cnt ks 1=.ok n):0<ks.length/\okK (ks.getD 0 0)=true/\1<=n/\cnt (ks.drop 1) (pn (ks.getD 0 0))=.ok (n-1):=by
 cases ks with
 |nil=>simp[cnt]at h
 |cons k r=>
  rw[DJ]at h;simp only[List.getD_cons_zero,List.drop_one,List.tail_cons,List.length_cons];split at h
  .rename_i hk;refine⟨by omega,hk,?_⟩;rw[Nat.zero_add]at h;cases hr:cnt r (pn k)with
   |no e=>rw[hr]at h;simp[R.up]at h
   |ok m=>rw[hr]at h;simp only[R.up,R.ok.injEq]at h;subst h;simp
  .simp at h
def MD:Nat->(Nat->Nat)->Nat
 |0,_=>0
 |n+1,g=>max (MD n g) (g n)
def dep:Nat->List Int->Nat
 |0,_=>0
 |f+1,ks=>1+MD (pn (ks.getD 0 0)) (fun j=>dep f (ks.drop (pos ks j)))
def D(ks:List Int):Nat:=dep ks.length ks
