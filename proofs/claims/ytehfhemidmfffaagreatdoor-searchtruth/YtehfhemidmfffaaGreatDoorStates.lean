import Derived.Test.YtehfhemidmfffaaGreatDoorModels
namespace Go.Proofs.YtehfhemidmfffaaGreatDoor
open _root_.Int renaming mul_assoc→kS,mul_le_mul→jE
open Terms Tm
set_option maxHeartbeats 6400000
set_option maxRecDepth 20000
theorem F8{x:Int}(h1:-9223372036854775808<=x)(h2:x<=9223372036854775807):IntKind.i64.wrap x=x:=by
 rw[IntWalk.i64_left];exact IntWalk.wrap64_in x ⟨h1,h2⟩
def CR(l:List Vr)(a:Nat):Nat->Int
 |0=>1
 |c+1=>CR l a c*AN (l.getD (a+c) vr0)
theorem T4(l:List Vr)(a c:Nat):CR l a (c+1)=AN (l.getD a vr0)*CR l (a+1) c:=by
 induction c with
 |zero=>simp[CR]
 |succ c ih=>
  rw[CR,ih,CR,kS,show a+(c+1)=a+1+c by omega]
theorem T6(l:List Vr)(a c:Nat):AL l a*CR l a c=AL l (a+c):=by
 induction c with
 |zero=>simp[CR]
 |succ c ih=>
  rw[CR,<-kS,ih];rfl
def B1(l:List Vr)(i:Nat):Int:=CR l i (l.length-i)
theorem VB{l:List Vr}{i:Nat}(h:i<l.length):B1 l i=AN (l.getD i vr0)*B1 l (i+1):=by
 unfold B1;rw[show l.length-i=(l.length-(i+1))+1 by omega,T4]
theorem VA(l:List Vr):B1 l l.length=1:=by simp[B1,CR]
theorem M2{l:List Vr}(h:Bz l){a c:Nat}(hc:a+c<=l.length):1<=CR l a c:=by
 induction c with
 |zero=>simp[CR]
 |succ c ih=>
  have h1:=ih (by omega);have h2:=(h.at (j:=a+c) (by omega)).1;have:=jE h1 h2 (by omega) (by omega);simpa[CR]using this
theorem T5{l:List Vr}(h:Bz l){a c:Nat}(hc:a+c<=l.length):CR l a c<=4096:=by
 have h1:=h.prod (j:=a+c) hc;have h2:=h.prod (j:=a) (by omega);have h3:=M2 h hc;rw[<-T6]at h1;have:=jE h2.1 (Int.le_refl (CR l a c)) (by omega) (by omega);omega
theorem Na{l:List Vr}(h:Bz l){i:Nat}(hi:i<=l.length):1<=B1 l i/\B1 l i<=4096:=⟨M2 h (by omega),T5 h (by omega)⟩
def dig(l:List Vr)(vals:List Int)(i:Nat):Int:=vals.getD i 0-(l.getD i vr0).lo
def inB(l:List Vr)(vals:List Int)(i:Nat):Prop:=(l.getD i vr0).lo<=vals.getD i 0/\vals.getD i 0<=(l.getD i vr0).hi
def Bn(l:List Vr)(vals:List Int):Nat->Int
 |0=>0
 |k+1=>Bn l vals k*AN (l.getD k vr0)+dig l vals k
theorem P8{l:List Vr}{vals:List Int}(h:Bz l){i:Nat}(hi:i<l.length)(hb:inB l vals i):0<=dig l vals i/\dig l vals i<AN (l.getD i vr0)/\dig l vals i<=63:=by
 have:=h.at hi;unfold inB at hb;unfold dig;unfold AN at *;omega
theorem Io{l:List Vr}{vals:List Int}(h:Bz l){k:Nat}(hk:k<=l.length)(hb:∀i,i<k->inB l vals i):0<=Bn l vals k/\Bn l vals k<AL l k:=by
 induction k with
 |zero=>simp[Bn,AL]
 |succ k ih=>
  obtain⟨h1,h2⟩:=ih (by omega) (fun i hi=>hb i (by omega));obtain⟨h3,h4,_⟩:=P8 h (by omega) (hb k (by omega));have h5:=(h.at (j:=k) (by omega)).1;simp only[Bn,AL];have h6:0<=Bn l vals k*AN (l.getD k vr0):=Int.mul_nonneg h1 (by omega);have h7:(Bn l vals k+1)*AN (l.getD k vr0)<=AL l k*AN (l.getD k vr0):=Int.mul_le_mul_of_nonneg_right (by omega) (by omega);rw[Int.add_mul,Int.one_mul]at h7;omega
def F7(l:List Vr)(code:Int)(i:Nat):Int:=(l.getD i vr0).lo+(code / B1 l (i+1)) % AN (l.getD i vr0)
theorem UE{l:List Vr}(h:Bz l)(code:Int){i:Nat}(hi:i<l.length):code / B1 l (i+1) / AN (l.getD i vr0)=code / B1 l i:=by
 have h1:=(Na h (i:=i+1) (by omega)).1;rw[VB hi,Int.ediv_ediv_of_nonneg (by omega),Int.mul_comm]
def BA(l:List Vr)(code:Int):List Int:=(List.range l.length).map (F7 l code)
def Bg(l:List Vr):List Int:=l.map Vr.ini
theorem Ln{l:List Vr}(h:Bz l):∀i,i<l.length->inB l (Bg l) i:=by
 intro i hi;have:=h.at hi;unfold inB Bg;rw[show(l.map Vr.ini).getD i 0=(l.getD i vr0).ini by simp[List.getD_eq_getElem?_getD,hi]];omega
