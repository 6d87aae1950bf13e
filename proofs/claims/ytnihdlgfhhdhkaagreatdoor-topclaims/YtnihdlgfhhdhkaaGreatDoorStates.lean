import Derived.Test.YtnihdlgfhhdhkaaGreatDoorModels
namespace Go.Proofs.YtnihdlgfhhdhkaaGreatDoor
open Terms Tm
set_option maxHeartbeats 6400000
set_option maxRecDepth 20000
theorem zIk {x:Int} (h1:-9223372036854775808 <= x) (h2:x <= 9223372036854775807):IntKind.i64.wrap x=x:=by
 rw [IntWalk.i64_left];exact IntWalk.wrap64_in x ⟨h1,h2⟩
def zBR (l:List Vr) (a:Nat):Nat->Int
 | 0=>1
 | c+1=>zBR l a c*zAK (l.getD (a+c) vr0)
theorem zH7 (l:List Vr) (a c:Nat):zBR l a (c+1)=zAK (l.getD a vr0)*zBR l (a+1) c:=by
 induction c with
 | zero=>simp [zBR]
 | succ c ih=>
  rw [zBR,ih,zBR,Int.mul_assoc,show a+(c+1)=a+1+c by omega]
theorem zKr (l:List Vr) (a c:Nat):zAC l a*zBR l a c=zAC l (a+c):=by
 induction c with
 | zero=>simp [zBR]
 | succ c ih=>
  rw [zBR,<- Int.mul_assoc,ih];rfl
def zCI (l:List Vr) (i:Nat):Int:=zBR l i (l.length - i)
theorem zLd {l:List Vr} {i:Nat} (h:i < l.length):zCI l i=zAK (l.getD i vr0)*zCI l (i+1):=by
 unfold zCI;rw [show l.length - i=(l.length - (i+1))+1 by omega,zH7]
theorem zM6 (l:List Vr):zCI l l.length=1:=by simp [zCI,zBR]
theorem zF0 {l:List Vr} (h:zBK l) {a c:Nat} (hc:a+c <= l.length):1 <= zBR l a c:=by
 induction c with
 | zero=>simp [zBR]
 | succ c ih=>
  have h1:=ih (by omega)
  have h2:=(h.at (j:=a+c) (by omega)).1
  have:=Int.mul_le_mul h1 h2 (by omega) (by omega)
  simpa [zBR] using this
theorem zKW {l:List Vr} (h:zBK l) {a c:Nat} (hc:a+c <= l.length):zBR l a c <= 4096:=by
 have h1:=h.prod (j:=a+c) hc;have h2:=h.prod (j:=a) (by omega)
 have h3:=zF0 h hc;rw [<- zKr] at h1;have:=Int.mul_le_mul h2.1 (Int.le_refl (zBR l a c)) (by omega) (by omega)
 omega
theorem zFq {l:List Vr} (h:zBK l) {i:Nat} (hi:i <= l.length):1 <= zCI l i/\zCI l i <= 4096:=⟨zF0 h (by omega),zKW h (by omega)⟩
def dig (l:List Vr) (vals:List Int) (i:Nat):Int:=vals.getD i 0 - (l.getD i vr0).lo
def inB (l:List Vr) (vals:List Int) (i:Nat):Prop:=(l.getD i vr0).lo <= vals.getD i 0/\vals.getD i 0 <= (l.getD i vr0).hi
def zA3 (l:List Vr) (vals:List Int):Nat->Int
 | 0=>0
 | k+1=>zA3 l vals k*zAK (l.getD k vr0)+dig l vals k
theorem zLN {l:List Vr} {vals:List Int} (h:zBK l) {i:Nat} (hi:i < l.length) (hb:inB l vals i):0 <= dig l vals i/\dig l vals i < zAK (l.getD i vr0)/\dig l vals i <= 63:=by
 have:=h.at hi;unfold inB at hb;unfold dig;unfold zAK at *;omega
theorem zDK {l:List Vr} {vals:List Int} (h:zBK l) {k:Nat} (hk:k <= l.length) (hb:∀ i,i < k->inB l vals i):0 <= zA3 l vals k/\zA3 l vals k < zAC l k:=by
 induction k with
 | zero=>simp [zA3,zAC]
 | succ k ih=>
  obtain ⟨h1,h2⟩:=ih (by omega) (fun i hi=>hb i (by omega))
  obtain ⟨h3,h4,_⟩:=zLN h (by omega) (hb k (by omega))
  have h5:=(h.at (j:=k) (by omega)).1
  simp only [zA3,zAC];have h6:0 <= zA3 l vals k*zAK (l.getD k vr0):=Int.mul_nonneg h1 (by omega)
  have h7:(zA3 l vals k+1)*zAK (l.getD k vr0) <= zAC l k*zAK (l.getD k vr0):=Int.mul_le_mul_of_nonneg_right (by omega) (by omega)
  rw [Int.add_mul,Int.one_mul] at h7;omega
def zGo (l:List Vr) (code:Int) (i:Nat):Int:=(l.getD i vr0).lo+(code / zCI l (i+1)) % zAK (l.getD i vr0)
theorem zNs {l:List Vr} (h:zBK l) (code:Int) {i:Nat} (hi:i < l.length):code / zCI l (i+1) / zAK (l.getD i vr0)=code / zCI l i:=by
 have h1:=(zFq h (i:=i+1) (by omega)).1
 rw [zLd hi,Int.ediv_ediv_of_nonneg (by omega),Int.mul_comm]
def zAt (l:List Vr) (code:Int):List Int:=(List.range l.length).map (zGo l code)
def zAv (l:List Vr):List Int:=l.map Vr.ini
theorem zGP {l:List Vr} (h:zBK l):∀ i,i < l.length->inB l (zAv l) i:=by
 intro i hi;have:=h.at hi;unfold inB zAv;rw [show (l.map Vr.ini).getD i 0=(l.getD i vr0).ini by simp [List.getD_eq_getElem?_getD,hi]]
 omega
