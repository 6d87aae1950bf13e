import Derived.Test.YtfnobbpbmelgnaaGreatDoorModels
namespace Go.Proofs.YtfnobbpbmelgnaaGreatDoor
open Terms Tm
set_option maxHeartbeats 6400000
set_option maxRecDepth 20000
theorem wr64 {x:Int} (h1:-9223372036854775808 <= x) (h2:x <= 9223372036854775807):IntKind.i64.wrap x=x:=by
 rw [IntWalk.i64_left];exact IntWalk.wrap64_in x ⟨h1,h2⟩
def prodSeg (l:List Vr) (a:Nat):Nat->Int
 | 0=>1
 | c+1=>prodSeg l a c*vspan (l.getD (a+c) vr0)
theorem prodSeg_first (l:List Vr) (a c:Nat):prodSeg l a (c+1)=vspan (l.getD a vr0)*prodSeg l (a+1) c:=by
 induction c with
 | zero=>simp [prodSeg]
 | succ c ih=>
  rw [prodSeg,ih,prodSeg,Int.mul_assoc,show a+(c+1)=a+1+c by omega]
theorem prodTo_seg (l:List Vr) (a c:Nat):prodTo l a*prodSeg l a c=prodTo l (a+c):=by
 induction c with
 | zero=>simp [prodSeg]
 | succ c ih=>
  rw [prodSeg,<- Int.mul_assoc,ih];rfl
def segP (l:List Vr) (i:Nat):Int:=prodSeg l i (l.length - i)
theorem segP_step {l:List Vr} {i:Nat} (h:i < l.length):segP l i=vspan (l.getD i vr0)*segP l (i+1):=by
 unfold segP;rw [show l.length - i=(l.length - (i+1))+1 by omega,prodSeg_first]
theorem segP_end (l:List Vr):segP l l.length=1:=by simp [segP,prodSeg]
theorem prodSeg_pos {l:List Vr} (h:VarsOk l) {a c:Nat} (hc:a+c <= l.length):1 <= prodSeg l a c:=by
 induction c with
 | zero=>simp [prodSeg]
 | succ c ih=>
  have h1:=ih (by omega)
  have h2:=(h.at (j:=a+c) (by omega)).1
  have:=Int.mul_le_mul h1 h2 (by omega) (by omega)
  simpa [prodSeg] using this
theorem prodSeg_le {l:List Vr} (h:VarsOk l) {a c:Nat} (hc:a+c <= l.length):prodSeg l a c <= 4096:=by
 have h1:=h.prod (j:=a+c) hc;have h2:=h.prod (j:=a) (by omega)
 have h3:=prodSeg_pos h hc;rw [<- prodTo_seg] at h1;have:=Int.mul_le_mul h2.1 (Int.le_refl (prodSeg l a c)) (by omega) (by omega)
 omega
theorem segP_bounds {l:List Vr} (h:VarsOk l) {i:Nat} (hi:i <= l.length):1 <= segP l i/\segP l i <= 4096:=⟨prodSeg_pos h (by omega),prodSeg_le h (by omega)⟩
def dig (l:List Vr) (vals:List Int) (i:Nat):Int:=vals.getD i 0 - (l.getD i vr0).lo
def inB (l:List Vr) (vals:List Int) (i:Nat):Prop:=(l.getD i vr0).lo <= vals.getD i 0/\vals.getD i 0 <= (l.getD i vr0).hi
def codeTo (l:List Vr) (vals:List Int):Nat->Int
 | 0=>0
 | k+1=>codeTo l vals k*vspan (l.getD k vr0)+dig l vals k
theorem dig_bounds {l:List Vr} {vals:List Int} (h:VarsOk l) {i:Nat} (hi:i < l.length) (hb:inB l vals i):0 <= dig l vals i/\dig l vals i < vspan (l.getD i vr0)/\dig l vals i <= 63:=by
 have:=h.at hi;unfold inB at hb;unfold dig;unfold vspan at *;omega
theorem code_bounds {l:List Vr} {vals:List Int} (h:VarsOk l) {k:Nat} (hk:k <= l.length) (hb:∀ i,i < k->inB l vals i):0 <= codeTo l vals k/\codeTo l vals k < prodTo l k:=by
 induction k with
 | zero=>simp [codeTo,prodTo]
 | succ k ih=>
  obtain ⟨h1,h2⟩:=ih (by omega) (fun i hi=>hb i (by omega))
  obtain ⟨h3,h4,_⟩:=dig_bounds h (by omega) (hb k (by omega))
  have h5:=(h.at (j:=k) (by omega)).1
  simp only [codeTo,prodTo];have h6:0 <= codeTo l vals k*vspan (l.getD k vr0):=Int.mul_nonneg h1 (by omega)
  have h7:(codeTo l vals k+1)*vspan (l.getD k vr0) <= prodTo l k*vspan (l.getD k vr0):=Int.mul_le_mul_of_nonneg_right (by omega) (by omega)
  rw [Int.add_mul,Int.one_mul] at h7;omega
def valAt (l:List Vr) (code:Int) (i:Nat):Int:=(l.getD i vr0).lo+(code / segP l (i+1)) % vspan (l.getD i vr0)
theorem quo_step {l:List Vr} (h:VarsOk l) (code:Int) {i:Nat} (hi:i < l.length):code / segP l (i+1) / vspan (l.getD i vr0)=code / segP l i:=by
 have h1:=(segP_bounds h (i:=i+1) (by omega)).1
 rw [segP_step hi,Int.ediv_ediv_of_nonneg (by omega),Int.mul_comm]
theorem valAt_in {l:List Vr} (h:VarsOk l) (code:Int) {i:Nat} (hi:i < l.length):(l.getD i vr0).lo <= valAt l code i/\valAt l code i <= (l.getD i vr0).hi:=by
 have h1:=(h.at hi).1;have h2:=Int.emod_nonneg (code / segP l (i+1)) (show vspan (l.getD i vr0)≠0 by omega)
 have h3:=Int.emod_lt_of_pos (code / segP l (i+1)) (show 0 < vspan (l.getD i vr0) by omega)
 unfold valAt;unfold vspan at *;omega
def valsL (l:List Vr) (code:Int):List Int:=(List.range l.length).map (valAt l code)
def initsL (l:List Vr):List Int:=l.map Vr.ini
theorem inits_in {l:List Vr} (h:VarsOk l):∀ i,i < l.length->inB l (initsL l) i:=by
 intro i hi;have:=h.at hi;unfold inB initsL;rw [show (l.map Vr.ini).getD i 0=(l.getD i vr0).ini by simp [List.getD_eq_getElem?_getD,hi]]
 omega
