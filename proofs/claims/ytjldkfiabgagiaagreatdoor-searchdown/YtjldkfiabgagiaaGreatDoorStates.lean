import Derived.Test.YtjldkfiabgagiaaGreatDoorModels
namespace Go.Proofs.YtjldkfiabgagiaaGreatDoor
open _root_.Int renaming mul_assoc→kM,mul_le_mul→jC
open Terms Tm
set_option maxHeartbeats 6400000
set_option maxRecDepth 20000
theorem F2{x:Int}(h1:-9223372036854775808<=x)(h2:x<=9223372036854775807):IntKind.i64.wrap x=x:=by
 rw[IntWalk.i64_left];exact IntWalk.wrap64_in x ⟨h1,h2⟩
def CO(l:List Vr)(a:Nat):Nat->Int
 |0=>1
 |c+1=>CO l a c*AM (l.getD (a+c) vr0)
theorem TN(l:List Vr)(a c:Nat):CO l a (c+1)=AM (l.getD a vr0)*CO l (a+1) c:=by
 induction c with
 |zero=>simp[CO]
 |succ c ih=>
  rw[CO,ih,CO,kM,show a+(c+1)=a+1+c by omega]
theorem TP(l:List Vr)(a c:Nat):AK l a*CO l a c=AK l (a+c):=by
 induction c with
 |zero=>simp[CO]
 |succ c ih=>
  rw[CO,<-kM,ih];rfl
def Bz(l:List Vr)(i:Nat):Int:=CO l i (l.length-i)
theorem UO{l:List Vr}{i:Nat}(h:i<l.length):Bz l i=AM (l.getD i vr0)*Bz l (i+1):=by
 unfold Bz;rw[show l.length-i=(l.length-(i+1))+1 by omega,TN]
theorem UN(l:List Vr):Bz l l.length=1:=by simp[Bz,CO]
theorem Mc{l:List Vr}(h:Bu l){a c:Nat}(hc:a+c<=l.length):1<=CO l a c:=by
 induction c with
 |zero=>simp[CO]
 |succ c ih=>
  have h1:=ih (by omega);have h2:=(h.at (j:=a+c) (by omega)).1;have:=jC h1 h2 (by omega) (by omega);simpa[CO]using this
theorem TO{l:List Vr}(h:Bu l){a c:Nat}(hc:a+c<=l.length):CO l a c<=4096:=by
 have h1:=h.prod (j:=a+c) hc;have h2:=h.prod (j:=a) (by omega);have h3:=Mc h hc;rw[<-TP]at h1;have:=jC h2.1 (Int.le_refl (CO l a c)) (by omega) (by omega);omega
theorem NA{l:List Vr}(h:Bu l){i:Nat}(hi:i<=l.length):1<=Bz l i/\Bz l i<=4096:=⟨Mc h (by omega),TO h (by omega)⟩
def dig(l:List Vr)(vals:List Int)(i:Nat):Int:=vals.getD i 0-(l.getD i vr0).lo
def inB(l:List Vr)(vals:List Int)(i:Nat):Prop:=(l.getD i vr0).lo<=vals.getD i 0/\vals.getD i 0<=(l.getD i vr0).hi
def Bn(l:List Vr)(vals:List Int):Nat->Int
 |0=>0
 |k+1=>Bn l vals k*AM (l.getD k vr0)+dig l vals k
theorem PW{l:List Vr}{vals:List Int}(h:Bu l){i:Nat}(hi:i<l.length)(hb:inB l vals i):0<=dig l vals i/\dig l vals i<AM (l.getD i vr0)/\dig l vals i<=63:=by
 have:=h.at hi;unfold inB at hb;unfold dig;unfold AM at *;omega
theorem IY{l:List Vr}{vals:List Int}(h:Bu l){k:Nat}(hk:k<=l.length)(hb:∀i,i<k->inB l vals i):0<=Bn l vals k/\Bn l vals k<AK l k:=by
 induction k with
 |zero=>simp[Bn,AK]
 |succ k ih=>
  obtain⟨h1,h2⟩:=ih (by omega) (fun i hi=>hb i (by omega));obtain⟨h3,h4,_⟩:=PW h (by omega) (hb k (by omega));have h5:=(h.at (j:=k) (by omega)).1;simp only[Bn,AK];have h6:0<=Bn l vals k*AM (l.getD k vr0):=Int.mul_nonneg h1 (by omega);have h7:(Bn l vals k+1)*AM (l.getD k vr0)<=AK l k*AM (l.getD k vr0):=Int.mul_le_mul_of_nonneg_right (by omega) (by omega);rw[Int.add_mul,Int.one_mul]at h7;omega
def F1(l:List Vr)(code:Int)(i:Nat):Int:=(l.getD i vr0).lo+(code / Bz l (i+1)) % AM (l.getD i vr0)
theorem TX{l:List Vr}(h:Bu l)(code:Int){i:Nat}(hi:i<l.length):code / Bz l (i+1) / AM (l.getD i vr0)=code / Bz l i:=by
 have h1:=(NA h (i:=i+1) (by omega)).1;rw[UO hi,Int.ediv_ediv_of_nonneg (by omega),Int.mul_comm]
def A8(l:List Vr)(code:Int):List Int:=(List.range l.length).map (F1 l code)
def Bg(l:List Vr):List Int:=l.map Vr.ini
theorem LW{l:List Vr}(h:Bu l):∀i,i<l.length->inB l (Bg l) i:=by
 intro i hi;have:=h.at hi;unfold inB Bg;rw[show(l.map Vr.ini).getD i 0=(l.getD i vr0).ini by simp[List.getD_eq_getElem?_getD,hi]];omega
