import Derived.Test.YtehfhemidmfffaaGreatDoorModels
namespace Go.Proofs.YtehfhemidmfffaaGreatDoor
open _root_.Int renaming mul_assoc→kJ,mul_le_mul→jC
open Terms Tm
set_option maxHeartbeats 6400000
set_option maxRecDepth 20000
theorem FH{x:Int}(h1:-9223372036854775808<=x)(h2:x<=9223372036854775807):IntKind.i64.wrap x=x:=by
 rw[IntWalk.i64_left];exact IntWalk.wrap64_in x ⟨h1,h2⟩
def CO(l:List Vr)(a:Nat):Nat->Int
 |0=>1
 |c+1=>CO l a c*AM (l.getD (a+c) vr0)
theorem TK(l:List Vr)(a c:Nat):CO l a (c+1)=AM (l.getD a vr0)*CO l (a+1) c:=by
 induction c with
 |zero=>simp[CO]
 |succ c ih=>
  rw[CO,ih,CO,kJ,show a+(c+1)=a+1+c by omega]
theorem TM(l:List Vr)(a c:Nat):AK l a*CO l a c=AK l (a+c):=by
 induction c with
 |zero=>simp[CO]
 |succ c ih=>
  rw[CO,<-kJ,ih];rfl
def Bu(l:List Vr)(i:Nat):Int:=CO l i (l.length-i)
theorem UR{l:List Vr}{i:Nat}(h:i<l.length):Bu l i=AM (l.getD i vr0)*Bu l (i+1):=by
 unfold Bu;rw[show l.length-i=(l.length-(i+1))+1 by omega,TK]
theorem UQ(l:List Vr):Bu l l.length=1:=by simp[Bu,CO]
theorem MW{l:List Vr}(h:Br l){a c:Nat}(hc:a+c<=l.length):1<=CO l a c:=by
 induction c with
 |zero=>simp[CO]
 |succ c ih=>
  have h1:=ih (by omega);have h2:=(h.at (j:=a+c) (by omega)).1;have:=jC h1 h2 (by omega) (by omega);simpa[CO]using this
theorem TL{l:List Vr}(h:Br l){a c:Nat}(hc:a+c<=l.length):CO l a c<=4096:=by
 have h1:=h.prod (j:=a+c) hc;have h2:=h.prod (j:=a) (by omega);have h3:=MW h hc;rw[<-TM]at h1;have:=jC h2.1 (Int.le_refl (CO l a c)) (by omega) (by omega);omega
theorem M6{l:List Vr}(h:Br l){i:Nat}(hi:i<=l.length):1<=Bu l i/\Bu l i<=4096:=⟨MW h (by omega),TL h (by omega)⟩
def dig(l:List Vr)(vals:List Int)(i:Nat):Int:=vals.getD i 0-(l.getD i vr0).lo
def inB(l:List Vr)(vals:List Int)(i:Nat):Prop:=(l.getD i vr0).lo<=vals.getD i 0/\vals.getD i 0<=(l.getD i vr0).hi
def Bk(l:List Vr)(vals:List Int):Nat->Int
 |0=>0
 |k+1=>Bk l vals k*AM (l.getD k vr0)+dig l vals k
theorem PP{l:List Vr}{vals:List Int}(h:Br l){i:Nat}(hi:i<l.length)(hb:inB l vals i):0<=dig l vals i/\dig l vals i<AM (l.getD i vr0)/\dig l vals i<=63:=by
 have:=h.at hi;unfold inB at hb;unfold dig;unfold AM at *;omega
theorem IK{l:List Vr}{vals:List Int}(h:Br l){k:Nat}(hk:k<=l.length)(hb:∀i,i<k->inB l vals i):0<=Bk l vals k/\Bk l vals k<AK l k:=by
 induction k with
 |zero=>simp[Bk,AK]
 |succ k ih=>
  obtain⟨h1,h2⟩:=ih (by omega) (fun i hi=>hb i (by omega));obtain⟨h3,h4,_⟩:=PP h (by omega) (hb k (by omega));have h5:=(h.at (j:=k) (by omega)).1;simp only[Bk,AK];have h6:0<=Bk l vals k*AM (l.getD k vr0):=Int.mul_nonneg h1 (by omega);have h7:(Bk l vals k+1)*AM (l.getD k vr0)<=AK l k*AM (l.getD k vr0):=Int.mul_le_mul_of_nonneg_right (by omega) (by omega);rw[Int.add_mul,Int.one_mul]at h7;omega
def F1(l:List Vr)(code:Int)(i:Nat):Int:=(l.getD i vr0).lo+(code / Bu l (i+1)) % AM (l.getD i vr0)
theorem TU{l:List Vr}(h:Br l)(code:Int){i:Nat}(hi:i<l.length):code / Bu l (i+1) / AM (l.getD i vr0)=code / Bu l i:=by
 have h1:=(M6 h (i:=i+1) (by omega)).1;rw[UR hi,Int.ediv_ediv_of_nonneg (by omega),Int.mul_comm]
def A7(l:List Vr)(code:Int):List Int:=(List.range l.length).map (F1 l code)
def Bd(l:List Vr):List Int:=l.map Vr.ini
theorem LN{l:List Vr}(h:Br l):∀i,i<l.length->inB l (Bd l) i:=by
 intro i hi;have:=h.at hi;unfold inB Bd;rw[show(l.map Vr.ini).getD i 0=(l.getD i vr0).ini by simp[List.getD_eq_getElem?_getD,hi]];omega
