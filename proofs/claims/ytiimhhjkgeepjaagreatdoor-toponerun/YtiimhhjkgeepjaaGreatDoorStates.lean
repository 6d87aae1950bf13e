import Derived.Test.YtiimhhjkgeepjaaGreatDoorModels
namespace Go.Proofs.YtiimhhjkgeepjaaGreatDoor
open Terms Tm
set_option maxHeartbeats 6400000
set_option maxRecDepth 20000
theorem zKI {x:Int} (h1:-9223372036854775808 <= x) (h2:x <= 9223372036854775807):IntKind.i64.wrap x=x:=by
 rw [IntWalk.i64_left];exact IntWalk.wrap64_in x ⟨h1,h2⟩
def zBj (l:List Vr) (a:Nat):Nat->Int
 | 0=>1
 | c+1=>zBj l a c*zAH (l.getD (a+c) vr0)
theorem zJd (l:List Vr) (a c:Nat):zBj l a (c+1)=zAH (l.getD a vr0)*zBj l (a+1) c:=by
 induction c with
 | zero=>simp [zBj]
 | succ c ih=>
  rw [zBj,ih,zBj,Int.mul_assoc,show a+(c+1)=a+1+c by omega]
theorem zMp (l:List Vr) (a c:Nat):zAC l a*zBj l a c=zAC l (a+c):=by
 induction c with
 | zero=>simp [zBj]
 | succ c ih=>
  rw [zBj,<- Int.mul_assoc,ih];rfl
def zCh (l:List Vr) (i:Nat):Int:=zBj l i (l.length - i)
theorem zPX {l:List Vr} {i:Nat} (h:i < l.length):zCh l i=zAH (l.getD i vr0)*zCh l (i+1):=by
 unfold zCh;rw [show l.length - i=(l.length - (i+1))+1 by omega,zJd]
theorem zQc (l:List Vr):zCh l l.length=1:=by simp [zCh,zBj]
theorem zHL {l:List Vr} (h:zBZ l) {a c:Nat} (hc:a+c <= l.length):1 <= zBj l a c:=by
 induction c with
 | zero=>simp [zBj]
 | succ c ih=>
  have h1:=ih (by omega)
  have h2:=(h.at (j:=a+c) (by omega)).1
  have:=Int.mul_le_mul h1 h2 (by omega) (by omega)
  simpa [zBj] using this
theorem zM3 {l:List Vr} (h:zBZ l) {a c:Nat} (hc:a+c <= l.length):zBj l a c <= 4096:=by
 have h1:=h.prod (j:=a+c) hc;have h2:=h.prod (j:=a) (by omega)
 have h3:=zHL h hc;rw [<- zMp] at h1;have:=Int.mul_le_mul h2.1 (Int.le_refl (zBj l a c)) (by omega) (by omega)
 omega
theorem zG8 {l:List Vr} (h:zBZ l) {i:Nat} (hi:i <= l.length):1 <= zCh l i/\zCh l i <= 4096:=⟨zHL h (by omega),zM3 h (by omega)⟩
def dig (l:List Vr) (vals:List Int) (i:Nat):Int:=vals.getD i 0 - (l.getD i vr0).lo
def inB (l:List Vr) (vals:List Int) (i:Nat):Prop:=(l.getD i vr0).lo <= vals.getD i 0/\vals.getD i 0 <= (l.getD i vr0).hi
def zBF (l:List Vr) (vals:List Int):Nat->Int
 | 0=>0
 | k+1=>zBF l vals k*zAH (l.getD k vr0)+dig l vals k
theorem zNh {l:List Vr} {vals:List Int} (h:zBZ l) {i:Nat} (hi:i < l.length) (hb:inB l vals i):0 <= dig l vals i/\dig l vals i < zAH (l.getD i vr0)/\dig l vals i <= 63:=by
 have:=h.at hi;unfold inB at hb;unfold dig;unfold zAH at *;omega
theorem zD4 {l:List Vr} {vals:List Int} (h:zBZ l) {k:Nat} (hk:k <= l.length) (hb:∀ i,i < k->inB l vals i):0 <= zBF l vals k/\zBF l vals k < zAC l k:=by
 induction k with
 | zero=>simp [zBF,zAC]
 | succ k ih=>
  obtain ⟨h1,h2⟩:=ih (by omega) (fun i hi=>hb i (by omega))
  obtain ⟨h3,h4,_⟩:=zNh h (by omega) (hb k (by omega))
  have h5:=(h.at (j:=k) (by omega)).1
  simp only [zBF,zAC];have h6:0 <= zBF l vals k*zAH (l.getD k vr0):=Int.mul_nonneg h1 (by omega)
  have h7:(zBF l vals k+1)*zAH (l.getD k vr0) <= zAC l k*zAH (l.getD k vr0):=Int.mul_le_mul_of_nonneg_right (by omega) (by omega)
  rw [Int.add_mul,Int.one_mul] at h7;omega
def zHz (l:List Vr) (code:Int) (i:Nat):Int:=(l.getD i vr0).lo+(code / zCh l (i+1)) % zAH (l.getD i vr0)
theorem zQ2 {l:List Vr} (h:zBZ l) (code:Int) {i:Nat} (hi:i < l.length):code / zCh l (i+1) / zAH (l.getD i vr0)=code / zCh l i:=by
 have h1:=(zG8 h (i:=i+1) (by omega)).1
 rw [zPX hi,Int.ediv_ediv_of_nonneg (by omega),Int.mul_comm]
def zA0 (l:List Vr) (code:Int):List Int:=(List.range l.length).map (zHz l code)
def zA7 (l:List Vr):List Int:=l.map Vr.ini
theorem zHV {l:List Vr} (h:zBZ l):∀ i,i < l.length->inB l (zA7 l) i:=by
 intro i hi;have:=h.at hi;unfold inB zA7;rw [show (l.map Vr.ini).getD i 0=(l.getD i vr0).ini by simp [List.getD_eq_getElem?_getD,hi]]
 omega
