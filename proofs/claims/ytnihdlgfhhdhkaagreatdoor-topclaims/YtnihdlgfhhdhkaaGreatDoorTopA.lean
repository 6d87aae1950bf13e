/- Joined texts. -/
import Derived.Test.YtnihdlgfhhdhkaaGreatDoorSccA
import Derived.Test.YtnihdlgfhhdhkaaGreatDoorLateG
namespace Go.Proofs.YtnihdlgfhhdhkaaGreatDoor
open Go.ChangeShapes Go.WideShapes Go.ChangeAt Go.RowKit Go.Deep Go.Maps
open Terms Tm
set_option maxHeartbeats 6400000
set_option maxRecDepth 20000
noncomputable def zCF (m:Mo) (ps:List (List (Int × Int))) (l:List (Int × Int)) (K:Nat):Gr:=⟨xpP m ps l K,((zAd m ps l).length:Nat),xpN m ps l K,xpT m ps l K,((zAA l).length:Nat)⟩
section
variable {m : Mo} {ps : List (List (Int × Int))} {l : List (Int × Int)} {K : Nat}
theorem zJ8 (h:zCa m ps l K) {i:Nat} (hi:i < K):zCL m ps l i=(xpP m ps l K).getD i (0,0):=
 (zPl (zAd m ps l) (zCB m ps l) (Nat.le_of_lt hi) (h.2.2.1 i hi)).symm
theorem zOL {K:Nat}:∀ {j:Nat},j < K->(xpN m ps l K).getD j []=zC1 (xpP m ps l j) (zCB m ps l (zCL m ps l j)):=by
 induction K with
 | zero=>intro j h;omega
 | succ K ih=>
  intro j h;rw [xpN,List.getD_eq_getElem?_getD]
  by_cases hj:j < K
  ·rw [List.getElem?_append_left (by rw [zCg];exact hj),<- List.getD_eq_getElem?_getD]
   exact ih hj
  ·obtain rfl:j=K:=by omega
   rw [List.getElem?_append_right (by rw [zCg];exact Nat.le_refl _),zCg]
   simp
theorem zJs {K:Nat}:∀ {j:Nat},j < K->(xpT m ps l K).getD j 0=zCA l (zAG m ps (zCL m ps l j).1) (zCL m ps l j).2:=by
 induction K with
 | zero=>intro j h;omega
 | succ K ih=>
  intro j h;rw [xpT,List.getD_eq_getElem?_getD]
  by_cases hj:j < K
  ·rw [List.getElem?_append_left (by rw [zC7];exact hj),<- List.getD_eq_getElem?_getD]
   exact ih hj
  ·obtain rfl:j=K:=by omega
   rw [List.getElem?_append_right (by rw [zC7];exact Nat.le_refl _),zC7]
   simp
theorem zKt (m:Mo) (ps:List (List (Int × Int))) (l:List (Int × Int)):(zAd m ps l).Nodup:=by
 have key:∀ k,(zBk m ps l k).Nodup:=fun k=>by
  induction k with
  | zero=>simp [zBk]
  | succ k ih=>
   rw [zBk]
   split
   ·exact ih
   ·refine List.nodup_append.2 ⟨ih,by simp,fun a ha b hb e=>?_⟩
    rw [List.mem_singleton] at hb;subst hb;subst e;obtain ⟨_,d,h2,h3,_⟩:=zFh _ ha;simp only at h3
    omega
 exact key _
theorem zHB (h:zCa m ps l K) {i:Nat} (hi:i < K):((xpN m ps l K).getD i []).length=(zCB m ps l ((xpP m ps l K).getD i (0,0))).length/\∀ q,q < (zCB m ps l ((xpP m ps l K).getD i (0,0))).length->((xpN m ps l K).getD i []).getD q 0=(((xpP m ps l K).idxOf ((zCB m ps l ((xpP m ps l K).getD i (0,0))).getD q (0,0)):Nat):Int)/\(zCB m ps l ((xpP m ps l K).getD i (0,0))).getD q (0,0)∈xpP m ps l K:=by
 rw [zOL hi,<- zJ8 h hi];refine ⟨zEV _ _,fun q hq=>?_⟩
 have hmem:(zCB m ps l (zCL m ps l i)).getD q (0,0)∈xpP m ps l (i+1):=by
  rw [zGN,zDp];refine .inr ?_
  rw [List.getD_eq_getElem?_getD,List.getElem?_eq_getElem hq]
  exact List.getElem_mem _
 have hpre:xpP m ps l (i+1) <+: xpP m ps l K:=zGw _ _ hi;refine ⟨?_,hpre.subset hmem⟩
 rw [zKM hq,<- zGN,zFd hpre hmem]
theorem zK4 (l:List (Int × Int)) (letter:List Bool) (c:Int):0 <= zCA l letter c/\zCA l letter c < (2:Int) ^ (zAA l).length:=by
 unfold zCA
 split
 ·exact zFV _ _ _
 ·exact ⟨by omega,Int.pow_pos (by decide)⟩
theorem zOj (hk:zAO m ps l=0) (h:zCa m ps l K):GOk (zCF m ps l K):=by
 have h6:=(zAl (zAx hk).2).2.2.2.2
 have hbl:(zAd m ps l).length <= (xpP m ps l K).length:=by
  have h1:=(zGw (zAd m ps l) (zCB m ps l) (Nat.zero_le K)).length_le
  have h2:(zAd m ps l).length <= (exS (zAd m ps l) (zCB m ps l) 0).length:=by
   show _ <= (zAW [] (zAd m ps l)).length
   have hnd:=zEl (zAd m ps l) [] List.nodup_nil;have hsub:zAd m ps l ⊆ zAW [] (zAd m ps l):=fun x hx=>(zDp _ _ _).2 (.inr hx)
   exact (zKt m ps l).length_le_of_subset hsub
  exact Nat.le_trans h2 h1
 refine ⟨⟨by show (xpP m ps l K).length <= _;rw [h.1];exact h.2.1,by show (xpN m ps l K).length=(xpP m ps l K).length;rw [zCg,h.1],by show (xpT m ps l K).length=(xpP m ps l K).length;rw [zC7,h.1],by show (0:Int) <= ((zAd m ps l).length:Nat);omega,by show (((zAd m ps l).length:Nat):Int) <= ((xpP m ps l K).length:Nat);omega,by show (0:Int) <= ((zAA l).length:Nat);omega,by show (((zAA l).length:Nat):Int) <= 6;omega⟩,fun i hi=>?_⟩
 have hiK:i < K:=by have:i < (xpP m ps l K).length:=hi;rw [h.1] at this;exact this
 refine ⟨?_,fun q hq=>?_⟩
 ·unfold zPi top
  show 0 <= (xpT m ps l K).getD i 0/\(xpT m ps l K).getD i 0 <= 2 ^ (((zAA l).length:Nat):Int).toNat - 1
  rw [zJs hiK];have:=zK4 l (zAG m ps (zCL m ps l i).1) (zCL m ps l i).2;rw [Int.toNat_natCast];omega
 ·obtain ⟨r1,r2⟩:=zHB h hiK
  have hq':q < (zCB m ps l ((xpP m ps l K).getD i (0,0))).length:=by rw [<- r1];exact hq
  obtain ⟨r3,r4⟩:=r2 q hq'
  show 0 <= ((xpN m ps l K).getD i []).getD q 0/\((xpN m ps l K).getD i []).getD q 0 < ((xpP m ps l K).length:Nat)
  rw [r3];have:=List.idxOf_lt_length_of_mem r4;omega
theorem zHd (h:zCa m ps l K) {s x:Int × Int} (hs:s∈xpP m ps l K) (hx:x∈zCB m ps l s):x∈xpP m ps l K/\(xpP m ps l K).idxOf x∈nxt (zCF m ps l K) ((xpP m ps l K).idxOf s):=by
 have hi:=List.idxOf_lt_length_of_mem hs;have hiK:(xpP m ps l K).idxOf s < K:=by rw [h.1] at hi;exact hi
 have he:(xpP m ps l K).getD ((xpP m ps l K).idxOf s) (0,0)=s:=by
  rw [List.getD_eq_getElem?_getD,List.getElem?_eq_getElem hi]
  exact List.getElem_idxOf hi
 obtain ⟨r1,r2⟩:=zHB h hiK;rw [he] at r1 r2;obtain ⟨q,hq,rfl⟩:=List.getElem_of_mem hx;have hg:(zCB m ps l s).getD q (0,0)=(zCB m ps l s)[q]:=by rw [List.getD_eq_getElem?_getD,List.getElem?_eq_getElem hq];rfl
 obtain ⟨r3,r4⟩:=r2 q hq;rw [hg] at r3 r4;refine ⟨r4,?_⟩
 unfold nxt;rw [List.mem_map];refine ⟨((xpN m ps l K).getD ((xpP m ps l K).idxOf s) []).getD q 0,?_,by rw [r3];rfl⟩
 show ((xpN m ps l K).getD ((xpP m ps l K).idxOf s) []).getD q 0∈(xpN m ps l K).getD ((xpP m ps l K).idxOf s) []
 generalize (xpN m ps l K).getD ((xpP m ps l K).idxOf s) []=row at *;rw [List.getD_eq_getElem?_getD,List.getElem?_eq_getElem (by rw [r1];exact hq)]
 exact List.getElem_mem _
end
theorem SpO.ops {w:World} {base:Nat} {v:Value} {x:List (Int × Int)} (h:SpO w base v x):zAX w v x:=by
 rcases h.2 with ⟨rfl,h0⟩ | ⟨g,cap,cur,rfl,hb,hg,hnc,hcm,hcs,htake⟩
 ·have:x=[]:=by simpa using h0
  subst this;exact ⟨none,0,rfl,⟨by simp,fun _=>⟨rfl,rfl⟩⟩,fun h=>absurd rfl h⟩
 ·refine ⟨_,cap,rfl,⟨hnc,fun h=>by simp at h⟩,fun _=>⟨g,0,rfl,(Array.getElem?_eq_some_iff.1 hg).1,fun i hi=>?_⟩⟩
  obtain ⟨f0,f1⟩:=zEm x i hi;rw [World.ownsRow.cellAt h _ (by omega),World.ownsRow.cellAt h _ (by omega)]
  simpa using ⟨f0,f1⟩
theorem GrX.graph {w:World} {base K:Nat} {m:Mo} {ps:List (List (Int × Int))} {l:List (Int × Int)} {sv nv tv:Value} (h:GrX w base m ps l K sv nv tv):GraphV w sv nv tv (zCF m ps l K):=by
 obtain ⟨h1,⟨us,n1,n2,n3⟩,h3⟩:=h;refine ⟨h1.ops,?_,zA4 h3⟩
 have n1':w.ownsRow base 27 1 nv us.length us:=by rw [n2];exact n1
 refine zHH n1' ⟨n2,fun i hi=>?_⟩
 obtain ⟨ao,c,e1,e2,_,_⟩:=n3 i hi;have e1':us.getD i zNp=.slice ao ((xpN m ps l K).getD i []).length c:=e1;rw [e1'];exact e2
end Go.Proofs.YtnihdlgfhhdhkaaGreatDoor
namespace Go.Proofs.YtnihdlgfhhdhkaaGreatDoor
open Go.ChangeShapes Go.WideShapes Go.ChangeAt Go.RowKit Go.Deep
open Terms Tm
set_option maxHeartbeats 6400000
set_option maxRecDepth 20000
structure PRun (m:Mo) (path:List Int) (s:Nat):Prop where
 lt:s < path.length
 first:path.getD 0 0=zB4 m
 step:∀ i,i < path.length->path.getD (zBO s path.length (i+1)) 0∈zAB m (path.getD i 0)
structure PWay (m:Mo) (ps:List (List (Int × Int))) (l:List (Int × Int)) (K:Nat) (x:List Nat) (s:Nat):Prop where
 lt:s < x.length
 all:∀ i,i < x.length->x.getD i 0 < K
 first:x.getD 0 0 < (zAd m ps l).length
 step:∀ i,i < x.length->x.getD (zBO s x.length (i+1)) 0∈nxt (zCF m ps l K) (x.getD i 0)
 met:∀ k,k < (zAA l).length->∃ i,s <= i/\i < x.length/\zC8 ((xpT m ps l K).getD (x.getD i 0) 0) k=true
section
variable {m : Mo} {ps : List (List (Int × Int))} {l : List (Int × Int)} {K : Nat}
noncomputable def spA (m:Mo) (ps:List (List (Int × Int))) (l:List (Int × Int)) (K i:Nat):Int × Int:=(xpP m ps l K).getD i (0,0)
theorem zKO {s:Int × Int} (hs:s∈xpP m ps l K):spA m ps l K ((xpP m ps l K).idxOf s)=s:=by
 have hi:=List.idxOf_lt_length_of_mem hs;unfold spA;rw [List.getD_eq_getElem?_getD,List.getElem?_eq_getElem hi]
 exact List.getElem_idxOf hi
theorem zJr {x:List Bool} {c:Int} {y:List Bool} {st:Int} {d:Nat} (hf:zA7 l x c y (d:Int)=true):∀ k,d < k->(st,(d:Int))∈zCO l x c y st k
 | 0,h=>by omega
 | k+1,h=>by
  rw [zCO]
  by_cases e:d=k
  ·subst e
   rw [if_pos hf];exact List.mem_append_right _ (List.mem_singleton.2 rfl)
  ·have:=zJr hf (st:=st) k (by omega)
   split
   ·exact List.mem_append_left _ this
   ·exact this
theorem zPd {code c y:Int} {d:Nat} (hy:y∈zAB m code) (hd:d < 2 ^ (zAA l).length) (hf:zA7 l (zAG m ps code) c (zAG m ps y) (d:Int)=true):(y,(d:Int))∈zAf m ps l code c:=by
 obtain ⟨q,hq,rfl⟩:=List.getElem_of_mem hy;have hg:(zAB m code).getD q 0=(zAB m code)[q]:=by rw [List.getD_eq_getElem?_getD,List.getElem?_eq_getElem hq];rfl
 have key:∀ i,q < i->i <= (zAB m code).length->((zAB m code)[q],(d:Int))∈zCN m ps l code c i:=fun i=>by
  induction i with
  | zero=>intro h;omega
  | succ i ih=>
   intro h1 h2;rw [zCN,List.mem_append]
   by_cases e:q=i
   ·subst e
    refine .inr ?_
    rw [hg];exact zJr hf _ hd
   ·exact .inl (ih (by omega) (by omega))
 exact key _ hq (Nat.le_refl _)
theorem zPI {d:Nat} (hd:d < 2 ^ (zAA l).length) (hf:tru l (zAG m ps (zB4 m)) (d:Int) 0≠true):(zB4 m,(d:Int))∈zAd m ps l:=by
 have key:∀ k,d < k->(zB4 m,(d:Int))∈zBk m ps l k:=fun k=>by
  induction k with
  | zero=>intro h;omega
  | succ k ih=>
   intro h;rw [zBk]
   by_cases e:d=k
   ·subst e
    rw [if_neg hf];exact List.mem_append_right _ (List.mem_singleton.2 rfl)
   ·have:=ih (by omega)
    split
    ·exact this
    ·exact List.mem_append_left _ this
 exact key _ hd
theorem zPK (hk:zAO m ps l=0) {x y:Int} {c d:Nat} (hx:0 <= x/\x < zAC m.vars m.vars.length) (hy:0 <= y/\y < zAC m.vars m.vars.length) (hc:c < 2 ^ (zAA l).length) (hd:d < 2 ^ (zAA l).length):zBV l (zAG m ps x) (c:Int) (zAG m ps y) (d:Int)=0:=by
 unfold zBV;rw [if_neg (by rw [(zDX hk hx).2,(zDX hk hy).2];simp),if_neg (by rw [(zE4 hk hx hc).1];simp)]
 exact (zE4 hk hy hd).1
end
section
variable {m : Mo} {ps : List (List (Int × Int))} {l : List (Int × Int)} {K : Nat}
theorem zKA {s:Int × Int} (hs:s∈zAd m ps l):(xpP m ps l K).idxOf s < (zAd m ps l).length/\s∈xpP m ps l K:=by
 have h0:s∈xpP m ps l 0:=(zDp _ _ _).2 (.inr hs);have hpre:xpP m ps l 0 <+: xpP m ps l K:=zGw _ _ (Nat.zero_le K);refine ⟨?_,hpre.subset h0⟩
 rw [zFd hpre h0];have h1:=List.idxOf_lt_length_of_mem h0
 have h2:(xpP m ps l 0).length <= (zAd m ps l).length:=by
  have:=(zDL (zAd m ps l) []).2
  show (zAW [] (zAd m ps l)).length <= _
  simpa using this
 omega
theorem zIO {α β:Type} (f:α->β) (x:List α) (d:α) (e:β) {i:Nat} (hi:i < x.length):(x.map f).getD i e=f (x.getD i d):=by
 simp [List.getD_eq_getElem?_getD,hi]
theorem sub_zero (T:Tm):T.sub 0=T:=by cases T <;> rfl
theorem zOV {T:Tm} (hw:T.Wf) (ho:T.ops=l) (hz:zAD (l.map Prod.fst)=0) (hv:∀ q,q < l.length->(l.getD q (0,0)).1=13->0 <= (l.getD q (0,0)).2) (h8:∀ q,q < l.length->8 <= (l.getD q (0,0)).1) (hk:zAO m ps l=0) (h:zCa m ps l K) {path:List Int} {s:Nat} (hr:PRun m path s) (hno:T.hb (sig (path.map (zAG m ps)) s) 0=false) :
  ∃ x:List Nat,x.length=path.length/\PWay m ps l K x s/\∀ i,i < path.length->spA m ps l K (x.getD i 0)=(path.getD i 0,zAo (zAA l) (fun q=>(T.sub q).hb (sig (path.map (zAG m ps)) s)) i (zAA l).length):=by
 obtain ⟨hm0,_⟩:=zBA (zAx hk).1;have hln:(path.map (zAG m ps)).length=path.length:=List.length_map _;have hls:∀ i,i < path.length->(path.map (zAG m ps)).getD i []=zAG m ps (path.getD i 0):=fun i hi=>zIO _ _ 0 [] hi
 have h0:0 < path.length:=Nat.lt_of_le_of_lt (Nat.zero_le _) hr.lt;have hmo:∀ i,zBO s path.length i < path.length:=fun i=>zHL hr.lt
 obtain ⟨mine,hmine⟩:∃ mine:Nat->Int,mine=fun i=>zAo (zAA l) (fun q=>(T.sub q).hb (sig (path.map (zAG m ps)) s)) i (zAA l).length:=⟨_,rfl⟩
 obtain ⟨f1,f2⟩:=zK6 hw ho hz hv h8 (ls:=path.map (zAG m ps)) (s:=s) (by rw [hln];exact hr.lt) mine (fun i _=>by rw [hmine])
 rw [hln] at f1 f2;have hpw:((2 ^ (zAA l).length:Nat):Int)=(2:Int) ^ (zAA l).length:=by push_cast;rfl
 have hmd:∀ i,∃ d:Nat,d < 2 ^ (zAA l).length/\mine i=(d:Int):=fun i=>by
  obtain ⟨c0,c1⟩:=zDw (zAA l) (fun q=>(T.sub q).hb (sig (path.map (zAG m ps)) s)) i (zAA l).length
  have e:mine i=zAo (zAA l) (fun q=>(T.sub q).hb (sig (path.map (zAG m ps)) s)) i (zAA l).length:=by rw [hmine]
  rw [<- e] at c0 c1;exact ⟨(mine i).toNat,by rw [<- hpw] at c1;omega,by omega⟩
 have hst:∀ i,i < path.length->0 <= path.getD i 0/\path.getD i 0 < zAC m.vars m.vars.length:=fun i=>by
  induction i with
  | zero=>intro _;rw [hr.first];exact zGY hk
  | succ i ih=>
   intro hi;have h1:=hr.step i (by omega)
   rw [zCV hi] at h1;exact zET hm0 (ih (by omega)) h1
 have hbh:∀ i,i < path.length->(path.getD (zBO s path.length (i+1)) 0,mine (zBO s path.length (i+1)))∈zCB m ps l (path.getD i 0,mine i):=fun i hi=>by
  obtain ⟨c,c1,c2⟩:=hmd i;obtain ⟨d,d1,d2⟩:=hmd (zBO s path.length (i+1));rw [d2];refine zPd (hr.step i hi) d1 ?_
  show zA7 l (zAG m ps (path.getD i 0)) (mine i) (zAG m ps (path.getD (zBO s path.length (i+1)) 0)) (d:Int)=true
  rw [<- d2];refine zIH ?_ ?_
  ·rw [c2,d2]
   exact zPK hk (hst i hi) (hst _ (hmo _)) c1 d1
  ·intro p hp hb
   have:=f1 i hi p hp hb;rw [hls i hi,hls _ (hmo _)] at this;exact this
 have hbeg:(path.getD 0 0,mine 0)∈zAd m ps l:=by
  obtain ⟨d,d1,d2⟩:=hmd 0;rw [hr.first,d2];refine zPI d1 ?_
  have htr:=zBi hw ho hz hv h8 (ls:=path.map (zAG m ps)) (s:=s) (i:=0) (by rw [hln];exact h0) (p:=0) (zK0 hk)
  have e:mine 0=zAo (zAA l) (fun q=>(T.sub q).hb (sig (path.map (zAG m ps)) s)) 0 (zAA l).length:=by rw [hmine]
  rw [<- e,hls 0 h0,sub_zero,hno,hr.first,d2] at htr;rw [htr]
  simp
 have hmem:∀ i,i < path.length->(path.getD i 0,mine i)∈xpP m ps l K:=fun i=>by
  induction i with
  | zero=>intro _;exact (zKA hbeg).2
  | succ i ih=>
   intro hi;have h1:=hbh i (by omega)
   rw [zCV hi] at h1;exact (zHd h (ih (by omega)) h1).1
 have hxl:((List.range path.length).map fun i=>(xpP m ps l K).idxOf (path.getD i 0,mine i)).length=path.length:=by simp
 have hx:∀ i,i < path.length->((List.range path.length).map fun i=>(xpP m ps l K).idxOf (path.getD i 0,mine i)).getD i 0=(xpP m ps l K).idxOf (path.getD i 0,mine i):=fun i hi=>by simp [List.getD_eq_getElem?_getD,hi]
 refine ⟨(List.range path.length).map fun i=>(xpP m ps l K).idxOf (path.getD i 0,mine i),hxl,⟨by rw [hxl];exact hr.lt,fun i hi=>?_,?_,fun i hi=>?_,fun k hkk=>?_⟩,fun i hi=>by rw [hx i hi,zKO (hmem i hi),hmine]⟩
 ·rw [hxl] at hi
  rw [hx i hi];have:=List.idxOf_lt_length_of_mem (hmem i hi);rw [h.1] at this;exact this
 ·rw [hx 0 h0]
  exact (zKA hbeg).1
 ·rw [hxl] at hi ⊢
  rw [hx i hi,hx _ (hmo _)];exact (zHd h (hmem i hi) (hbh i hi)).2
 ·obtain ⟨p,e1,e2,e3,e4⟩:=zB5 l l.length k hkk
  have e1':(zAA l).getD k 0=(p:Int):=e1;obtain ⟨i,i1,i2,i3⟩:=f2 p e2 e3;refine ⟨i,i1,by rw [hxl];exact i2,?_⟩
  have hiK:(xpP m ps l K).idxOf (path.getD i 0,mine i) < K:=by
   have:=List.idxOf_lt_length_of_mem (hmem i i2);rw [h.1] at this;exact this
  have hsp:spA m ps l K ((xpP m ps l K).idxOf (path.getD i 0,mine i))=(path.getD i 0,mine i):=zKO (hmem i i2);have hsp':(xpP m ps l K).getD ((xpP m ps l K).idxOf (path.getD i 0,mine i)) (0,0)=(path.getD i 0,mine i):=hsp;rw [hx i i2,zJs hiK,zJ8 h hiK,hsp'];simp only
  obtain ⟨d,d1,d2⟩:=hmd i;rw [hls i i2] at i3;unfold zCA;rw [d2] at i3 ⊢;rw [if_pos (zE4 hk (hst i i2) d1).1,zOR _ _ hkk,e1'];unfold zDN;simp only [Int.toNat_natCast];rw [i3];rfl
end
section
variable {m : Mo} {ps : List (List (Int × Int))} {l : List (Int × Int)} {K : Nat}
end
def zOw (m:Mo) (ps:List (List (Int × Int))) (T:Tm):Prop:=∀ (path:List Int) (s:Nat),PRun m path s->T.hb (sig (path.map (zAG m ps)) s) 0=true
section
variable {m : Mo} {ps : List (List (Int × Int))} {l : List (Int × Int)} {K : Nat}
theorem zLZ (x:Int):zAB m x≠[]:=fun h=>by
 have hs:=(zEh (zEC m x)).2
 have hr:zEC m x=[]:=by
  apply List.eq_nil_iff_forall_not_mem.2
  intro y hy;have:=(hs y).2 hy;have h':upL (zEC m x)=[]:=h;rw [h'] at this;exact absurd this List.not_mem_nil
 unfold zEC at hr
 split at hr
 ·simp at hr
 ·next h2=>exact h2 (by simpa using hr)
end
end Go.Proofs.YtnihdlgfhhdhkaaGreatDoor
namespace Go.Proofs.YtnihdlgfhhdhkaaGreatDoor
open Go.ChangeShapes Go.WideShapes Go.ChangeAt Go.RowKit Go.Deep Go.Maps
open Terms Tm
set_option maxHeartbeats 6400000
set_option maxRecDepth 20000
section
variable {m : Mo} {ps : List (List (Int × Int))} {l : List (Int × Int)} {K : Nat}
end
def laB (sv lv:Value):Obj:=.cells #[sv,lv] 38 (0,0)
theorem zEB {w:World} {X:Nat} {sv lv:Value} (hb:w.heap[X]? = some (laB sv lv)):w.cell? ⟨X,0,none⟩=some sv/\w.cell? ⟨X,1,none⟩=some lv:=by
 unfold laB at hb;refine ⟨?_,?_⟩ <;> simp [World.cell?,hb]
end Go.Proofs.YtnihdlgfhhdhkaaGreatDoor
namespace Go.Proofs.YtnihdlgfhhdhkaaGreatDoor
open Go.ChangeShapes Go.WideShapes Go.ChangeAt Go.RowKit Go.Deep
open Terms Tm
set_option maxHeartbeats 6400000
set_option maxRecDepth 20000
section
variable {m : Mo} {ss ll : List Int}
theorem zCP {x y:List Int} {i:Nat} (h:i < x.length):(x++y).getD i 0=x.getD i 0:=by
 simp [List.getD_eq_getElem?_getD,List.getElem?_append_left,h]
theorem zCf {x y:List Int} (i:Nat):(x++y).getD (x.length+i) 0=y.getD i 0:=by
 simp [List.getD_eq_getElem?_getD,List.getElem?_append_right]
theorem zKD {i:Nat} (h:i < (ss++ll).length):(rvd ss ll).getD i 0=(ss++ll).getD i 0:=zCP h
theorem zM5:(rvd ss ll).getD (ss++ll).length 0=ll.getD 0 0:=by
 have h:=zCf (x:=ss++ll) (y:=[ll.getD 0 0]) 0;rw [Nat.add_zero] at h;exact h
theorem zIt (s n:Nat):zBO s n n=s:=by
 unfold zBO;rw [if_neg (by omega),Nat.mod_self,Nat.add_zero]
theorem zLr (h:ll≠[]) {i:Nat} (hi:i < (ss++ll).length):(rvd ss ll).getD (i+1) 0=(ss++ll).getD (zBO ss.length (ss++ll).length (i+1)) 0:=by
 have hl:=List.length_pos_iff.2 h;have hn:ss.length < (ss++ll).length:=by rw [List.length_append];omega
 by_cases h1:i+1 < (ss++ll).length
 ·rw [zKD h1,zCV h1]
 ·have h2:i+1=(ss++ll).length:=by omega
  rw [h2,zM5,zIt];have h3:=zCf (x:=ss) (y:=ll) 0;rw [Nat.add_zero] at h3;exact h3.symm
open Classical in
theorem zN7 (h:zBb m ss ll=true):PRun m (ss++ll) ss.length:=by
 obtain ⟨hm,hll,h0,hl⟩:=of_decide_eq_true h;have hl1:=List.length_pos_iff.2 hll;have hlen:(rvd ss ll).length - 1=(ss++ll).length:=by rw [zDB,List.length_append];omega
 rw [hlen] at hl;refine ⟨by rw [List.length_append];omega,by rw [<- zM4 hll,h0];rfl,fun i hi=>?_⟩
 have h1:=hl i hi;have hr:=(show zAc m (rvd ss ll) i from fun j hj=>hl j (by omega)).range hm (by rw [h0];exact zC5 hm)
 rw [zCT hm hr,zLr hll hi,zKD hi] at h1;exact h1
end
section
variable {m : Mo} {xs : List Int}
structure WayX (m:Mo) (xs:List Int) (k:Nat):Prop where
 len:xs.length=k+1
 first:xs.getD 0 0=zBq m
 lead:zAc m xs k
theorem WayX.one (m:Mo):WayX m [zBq m] 0:=⟨rfl,rfl,zAc.zero _ _⟩
theorem WayX.range (hm:mcode m=0) {k:Nat} (h:WayX m xs k):∀ {i:Nat},i <= k->0 <= xs.getD i 0/\xs.getD i 0 < zAC m.vars m.vars.length:=fun {i} hi=>
 zAc.range hm (by rw [h.first];exact zC5 hm) (fun j hj=>h.lead j (by omega))
theorem zIg {xs:List Int} {k:Nat} (hlen:xs.length=k+1) {c:Int} (h:zAc m xs k) (hm:mcode m=0) (hr:0 <= xs.getD k 0/\xs.getD k 0 < zAC m.vars m.vars.length) (hc:c∈zAB m (xs.getD k 0)):zAc m (xs++[c]) (k+1):=fun i hi=>by
 have e0:(xs++[c]).getD i 0=xs.getD i 0:=zCP (by omega)
 rw [e0]
 by_cases h1:i=k
 ·subst h1
  have e1:(xs++[c]).getD (i+1) 0=c:=by
   rw [<- hlen];have h2:=zCf (x:=xs) (y:=[c]) 0;rw [Nat.add_zero] at h2;exact h2
  rw [e1,zCT hm hr];exact hc
 ·rw [zCP (by omega)]
  exact h i (by omega)
theorem WayX.more (hm:mcode m=0) {k:Nat} (h:WayX m xs k) {c:Int} (hc:c∈zAB m (xs.getD k 0)):WayX m (xs++[c]) (k+1):=
 ⟨by rw [List.length_append,h.len];rfl,by rw [zCP (by rw [h.len];omega)];exact h.first,zIg h.len h.lead hm (h.range hm (Nat.le_refl _)) hc⟩
open Classical in
theorem WayX.run (hm:mcode m=0) {k:Nat} (h:WayX m xs k) {c:Int} (hc:c∈zAB m (xs.getD k 0)) {q:Nat} (hq:q <= k) (he:xs.getD q 0=c):zBb m (xs.take q) (xs.drop q)=true:=by
 have hlen:=h.len
 have hne:xs.drop q≠[]:=by
  intro e;have:=congrArg List.length e;rw [List.length_drop] at this;simp at this
  omega
 have hd:(xs.drop q).getD 0 0=c:=by
  rw [<- he];simp [List.getD_eq_getElem?_getD]
 have hrv:rvd (xs.take q) (xs.drop q)=xs++[c]:=by
  unfold rvd;rw [List.take_append_drop,hd]
 have h0:(rvd (xs.take q) (xs.drop q)).getD 0 0=zBq m:=by
  rw [hrv,zCP (by omega)]
  exact h.first
 rw [zHm hm hne h0,hrv];refine decide_eq_true ?_
 have:=zIg hlen h.lead hm (h.range hm (Nat.le_refl _)) hc;rw [List.length_append,hlen];exact this
end
section
theorem zBJ.take {w:World} {b off:Nat} {l:List Int} (h:zBJ w b off l) (q:Nat):zBJ w b off (l.take q):=fun i hi=>by
 have h1:i < l.length/\i < q:=by rw [List.length_take] at hi;omega
 rw [h i h1.1]
 congr 2
 simp [List.getD_eq_getElem?_getD,h1.2]
theorem zBJ.drop {w:World} {b off:Nat} {l:List Int} (h:zBJ w b off l) (q:Nat):zBJ w b (off+q) (l.drop q):=fun i hi=>by
 rw [List.length_drop] at hi;have h1:=h (q+i) (by omega)
 rw [show off+q+i=off+(q+i) by omega,h1]
 congr 2
 simp [List.getD_eq_getElem?_getD,List.getElem?_drop]
theorem zLq {w:World} {g n cap:Nat} {xs:List Int} (hn:xs.length=n) (hcap:n <= cap) (hg:g < w.heap.size) (hat:zBJ w g 0 xs) {q:Nat} (hq:q < n) :
  zBM w (.slice (some ⟨g,0,none⟩) q q) (xs.take q)/\zBM w (.slice (some ⟨g,q,none⟩) (n - q) (cap - q)) (xs.drop q):=by
 have e1:(xs.take q).length=q:=by rw [List.length_take];omega
 have e2:(xs.drop q).length=n - q:=by rw [List.length_drop,hn]
 refine ⟨⟨some ⟨g,0,none⟩,q,by rw [e1],by rw [e1];exact Nat.le_refl _,(fun h=>nomatch h),fun _=>⟨g,0,rfl,hg,hat.take q⟩⟩,⟨some ⟨g,q,none⟩,cap - q,by rw [e2],by rw [e2];omega,(fun h=>nomatch h),fun _=>⟨g,q,rfl,hg,?_⟩⟩⟩
 have:=hat.drop q;rw [Nat.zero_add] at this;exact this
end
section
variable {σ : Nat -> Nat -> Bool} {v : Int} {a b : Tm} {i : Nat}
end
def Kp (m:Mo) (T:Tm) (b:Bool):Prop:=(b=true↔zOw m zAH T)/\zAO m zAH [(11,0)]=0
theorem zMn {m:Mo} {a b:Vr} {l:List (Int × Int)} {mm:Nat} (hG:GV a b) (hk:KTaskOk m l mm) (hvars:m.vars=[a,b]):¬ zG6 m zAH l:=by
 have hspan:1 <= zAK a*zAK b/\zAK a*zAK b <= 16:=by
  have h1:1 <= zAK a/\zAK a <= 4:=by have:=hG.a2;have:=hG.a3;unfold zAK;omega
  have h2:1 <= zAK b/\zAK b <= 4:=by have:=hG.b2;have:=hG.b3;unfold zAK;omega
  obtain ⟨x1,x2⟩:=h1;obtain ⟨y1,y2⟩:=h2;generalize zAK a=x at *;generalize zAK b=y at *
  rcases (show x=1\/x=2\/x=3\/x=4 by omega) with rfl | rfl | rfl | rfl <;> omega
 have hah:(zAA l).length=mm:=by obtain ⟨T,hT⟩:=hk.fo;exact hT.ahead
 refine zPZ (P:=(zAK a*zAK b).toNat) hk.code ?_ ?_
 ·rw [hvars]
  show zAC [a,b] 2=_
  rw [zNN];omega
 ·rw [hah]
  have:2 ^ mm <= 2 ^ 6:=Nat.pow_le_pow_right (by decide) hk.many
  have h3:(zAK a*zAK b).toNat * 2 ^ mm <= 16*64:=Nat.mul_le_mul (by omega) (by omega)
  omega
section
variable {o : Oper} {a : Act} {w : World} {Q : Exit -> Act -> World -> Prop} {m : Mo}
end
section
variable {m : Mo} {A B : Tm} {a b c d : Bool}
end
theorem zHi (n many:Int) (w:World) (hn:I64 n) (hm:0 < many) (hm2:many <= 10000) :
  Calls Tryz.prog 15 #[.int .i64 n,.int .i64 many] w fun e w'=>e=.returned (.int .i64 (pk n many))/\w'=w:=by
 have hp:=zAp n many w hn hm hm2;generalize pk n many=r at *
 go_enter Tryz.func15,Tryz.ntmps15
 go_wp2_with (go_at_call 29;refine hp.mono ?_;rintro e w1 ⟨rfl,rfl⟩)
 go_ret
 exact ⟨rfl,rfl⟩
section
variable {o : Oper} {a : Act} {w : World} {Q : Exit -> Act -> World -> Prop} {m : Mo}
end
theorem zFH {w:World} {base xb n xc:Nat} {xs:List Int} (h:w.ownsRow base 3 1 (.slice (some ⟨xb,0,none⟩) n xc) n (zAE xs)) (hn:xs.length=n) (h0:0 < n):n <= xc/\xb < w.heap.size/\zBJ w xb 0 xs:=by
 subst hn;have h1:=zEw h;obtain ⟨ao,cap,e,hc,_,h2⟩:=h1
 cases e
 obtain ⟨b,off,e2,hb,hat⟩:=h2 (List.length_pos_iff.1 h0)
 cases e2
 exact ⟨hc,hb,hat⟩
def zFP (w:World) (m:Mo) (e:Ending) (w':World):Prop:=∃ so sn sc lo ln lc ss ll,e=.returned (.tuple #[.agg #[.slice so sn sc,.slice lo ln lc],.bool true])/\Below w.heap.size w w'/\sn+ln <= 12/\Hid (zBM w' (.slice so sn sc) ss/\zBM w' (.slice lo ln lc) ll/\ss.length=sn/\ll.length=ln/\(ln≠0->zBb m ss ll=true))
theorem zOA (va vr:Value) (m:Mo) (lo:Option Addr) (ln lc:Nat) (rs:List Int) (w:World) (hB:0 < w.heap.size) (hT:zAJ w) (hV:zAU w va vr m) (hm:mcode m=0) (hR:IntsR w (.slice lo ln lc) rs) (hln:rs.length=ln) :
  Calls Tryz.prog 5 #[.agg #[va,vr],.slice lo ln lc] w (zFP w m):=by
 obtain ⟨i0,hi,hz0,hz1,hz2⟩:=info_parts zBd;obtain ⟨ao,ac,rfl⟩:=hV.1.shape;obtain ⟨ro,rc,rfl⟩:=hV.2.shape
 have HFi:Hid (∀ w',Below w.heap.size w w'->Calls Tryz.prog 13 #[.agg #[.slice ao m.vars.length ac,.slice ro m.rules.length rc]] w' fun e w2=>e=.returned (.tuple #[.int .i64 (zBq m),.int .i64 0])/\Below w'.heap.size w' w2):=fun w' h=>by
  have h1:=zDg _ _ m w' (Nat.lt_of_lt_of_le hB h.size) (hT.below h hB) (hV.below h);rw [if_pos hm,hm] at h1;exact h1
 have HNe:Hid (∀ (w1:World) (code:Int),Below w.heap.size w w1->(0 <= code/\code < zAC m.vars m.vars.length)->Calls Tryz.prog 14 #[.agg #[.slice ao m.vars.length ac,.slice ro m.rules.length rc],.int .i64 code] w1 fun e w'=>∃ no nn nc,e=.returned (.tuple #[.slice no nn nc,.int .i64 0])/\Below w1.heap.size w1 w'/\1 <= nn/\nn <= 13/\Hid (nn=(zAB m code).length/\zAI w' (.slice no nn nc) (zAB m code))):=fun w1 code h hcr=>by
  refine (zGS _ _ m code w1 (Nat.lt_of_lt_of_le hB h.size) (hT.below h hB) (hV.below h) hm).mono fun e w' ⟨v,q1,q2,q3⟩=>?_
  have q4:=zA4 q3;have q5:=zFu m code;have q6:=(zEI hm).1;rw [zCT hm hcr] at q4 q5;have q7:=List.length_pos_iff.2 (zLZ (m:=m) code);obtain ⟨no,nc,rfl,hx⟩:=q4;exact ⟨no,_,nc,by rw [q1,zBT hm hcr],q2,q7,by omega,rfl,⟨no,nc,rfl,hx⟩⟩
 have HPk:Hid (∀ (w':World) (n many:Int),I64 n->0 < many->many <= 10000->Calls Tryz.prog 15 #[.int .i64 n,.int .i64 many] w' fun e w2=>∃ r:Nat,(r:Int) < many/\e=.returned (.int .i64 (r:Int))/\w2=w'):=fun w' n many h1 h2 h3=>(zHi n many w' h1 h2 h3).mono fun e w2 ⟨g1,g2⟩=>by
  obtain ⟨p0,p1⟩:=zAj (n:=n) h2;exact ⟨(pk n many).toNat,by omega,by rw [g1];congr 2;omega,g2⟩
 obtain ⟨W2,hW2⟩:∃ W2,W2=(w.alloc (.cells #[.slice ao m.vars.length ac,.slice ro m.rules.length rc] 31)).alloc (.cells #[.slice none 0 0,.slice none 0 0] 38):=⟨_,rfl⟩
 have hb2:Below w.heap.size w W2:=by rw [hW2];exact ((Below.refl _ _).alloc (Nat.le_refl _) _).alloc (by simp) _
 have hz2':W2.heap.size=w.heap.size+2:=by rw [hW2];simp
 have HBx:Hid (∀ w',Below (w.heap.size+2) W2 w'->Below w.heap.size w w'/\(w'.cell? ⟨w.heap.size,0,none⟩=some (.slice ao m.vars.length ac)/\w'.cell? ⟨w.heap.size,1,none⟩=some (.slice ro m.rules.length rc))/\(w'.cell? ⟨w.heap.size+1,0,none⟩=some (.slice none 0 0)/\w'.cell? ⟨w.heap.size+1,1,none⟩=some (.slice none 0 0))/\(w'.frozen? ⟨w.heap.size+1,0,none⟩=false/\w'.frozen? ⟨w.heap.size+1,1,none⟩=false)):=fun w' h=>by
  have hl0:w.heap.size < w.heap.size+2:=by omega
  have hl1:w.heap.size+1 < w.heap.size+2:=by omega
  refine ⟨hb2.trans (h.mono (by omega)),⟨?_,?_⟩,⟨?_,?_⟩,?_,?_⟩
  ·exact (h.cell (p:=⟨w.heap.size,0,none⟩) hl0).trans (by rw [hW2];simp [go_sem])
  ·exact (h.cell (p:=⟨w.heap.size,1,none⟩) hl0).trans (by rw [hW2];simp [go_sem])
  ·exact (h.cell (p:=⟨w.heap.size+1,0,none⟩) hl1).trans (by rw [hW2];simp [go_sem])
  ·exact (h.cell (p:=⟨w.heap.size+1,1,none⟩) hl1).trans (by rw [hW2];simp [go_sem])
  ·exact (h.frozen (p:=⟨w.heap.size+1,0,none⟩) hl1).trans (by rw [hW2];simp [go_sem])
  ·exact (h.frozen (p:=⟨w.heap.size+1,1,none⟩) hl1).trans (by rw [hW2];simp [go_sem])
 have HLs:Hid (∀ w',Below w.heap.size w w'->∀ k,k < ln->∃ b off x,lo=some ⟨b,off,none⟩/\b < w'.heap.size/\w'.cell? ⟨b,off+k,none⟩=some (.int .i64 x)/\I64 x):=fun w' h k hk=>by
  obtain ⟨ao',cap',e1,e2⟩:=(hR.below h).v;rw [<- hln] at hk
  cases e1
  obtain ⟨b,off,e3,e4,e5⟩:=e2 (by rintro rfl;simp at hk)
  exact ⟨b,off,_,e3,e4,e5 k hk,hR.range k hk⟩
 have hlm:ln <= 140737488355328:=by rw [<- hln];exact hR.len
 have HRg:Hid (∀ (xs:List Int) (k:Nat),WayX m xs k->0 <= xs.getD k 0/\xs.getD k 0 < zAC m.vars m.vars.length):=fun xs k h=>h.range hm (Nat.le_refl _)
 have HMo:Hid (∀ (xs:List Int) (k:Nat) (c:Int),WayX m xs k->c∈zAB m (xs.getD k 0)->WayX m (xs++[c]) (k+1)):=fun xs k c h hc=>h.more hm hc
 have HRu:Hid (∀ (xs:List Int) (k q:Nat) (c:Int),WayX m xs k->c∈zAB m (xs.getD k 0)->q <= k->xs.getD q 0=c->zBb m (xs.take q) (xs.drop q)=true):=fun xs k q c h hc hq he=>h.run hm hc hq he
 have HRes:Hid (∀ (e:Ending) (w':World),zFP w m e w'->zFP w m e w'):=fun _ _ h=>h
 have hfi:=HFi.out W2 hb2;rw [hW2] at hfi;have H1:Hid (WayX m [zBq m] 0):=WayX.one m;generalize zBq m=c0 at *;generalize m.vars.length=vn at *;generalize m.rules.length=rn at *;have HW2:=(show Hid (W2=_) from hW2)
 clear hT hV hR hm hln hW2 HFi hB
 go_enter Tryz.func5,Tryz.ntmps5
 go_upto_region 2 with (first | (go_at_call 13;rw [<- HW2.out] at hfi ⊢;refine hfi.mono ?_;rintro e w3 ⟨rfl,hb3⟩))
 rw [hz2'] at hb3;have hw3:w.heap.size+2 <= w3.heap.size:=by have:=hb3.size;omega
 have HO3:Hid ((w3.alloc (.cells #[.int .i64 c0] 3)).ownsRow (w.heap.size+2) 3 1 (.slice (some ⟨w3.heap.size,0,none⟩) (0+1) 1) (0+1) (zAE [c0])):=by
  show World.ownsRow _ _ _ _ _ _ _
  exact World.ownsRow_lit w3 #[.int .i64 c0] 1 hw3 (by unfold maxLen;decide) rfl
 have HB3:Hid (Below (w.heap.size+2) W2 (w3.alloc (.cells #[.int .i64 c0] 3))):=hb3.alloc hw3 _;clear hfi hb3 HW2
 go_upto_region 4 with fail
 generalize w3.alloc (.cells #[.int .i64 c0] 3)=W3 at *;generalize w3.heap.size=g3 at *
 go_loopw [6,8,9] (fun cv pv i wr=>∃ (k:Nat) (xs:List Int) (xb xc:Nat) (x:Int),k <= 12/\cv=.int .i64 x/\pv=.slice (some ⟨xb,0,none⟩) (k+1) xc/\i=.int .i64 (k:Int)/\Hid (x=xs.getD k 0/\WayX m xs k/\wr.ownsRow (w.heap.size+2) 3 1 (.slice (some ⟨xb,0,none⟩) (k+1) xc) (k+1) (zAE xs)/\Below (w.heap.size+2) W2 wr)) (fun _ _ i _=>12 - (intOf i).toNat)
 case atStart=>exact ⟨0,[c0],g3,1,c0,by omega,rfl,rfl,rfl,rfl,H1.out,HO3.out,HB3.out⟩
 case round=>
  obtain ⟨k,xs,xb,xc,x,hk,rfl,rfl,rfl,HI⟩:=hrel
  by_cases hk12:k < 12
  ·have hki:(k:Int) < (12:Int):=by omega
   obtain ⟨hx,hway,hown,hbel⟩:=HI.out;obtain ⟨hbw,⟨b0,b1⟩,⟨l0,l1⟩,f0,f1⟩:=HBx.out wr hbel;have hne:=HNe.out wr x hbw (by rw [hx];exact HRg.out xs k hway)
   clear hx hway hown hbel
   go_upto_region 7 with (first | (go_at_call 14;refine hne.mono ?_;rintro e w4 ⟨no,nn,nc,rfl,hb4,hn1,hn2,HNx⟩))
   have HI4:Hid (x=xs.getD k 0/\WayX m xs k/\w4.ownsRow (w.heap.size+2) 3 1 (.slice (some ⟨xb,0,none⟩) (k+1) xc) (k+1) (zAE xs)/\Below (w.heap.size+2) W2 w4):=by
    obtain ⟨hx,hway,hown,hbel⟩:=HI.out;exact ⟨hx,hway,zAR hown hb4 (Nat.le_refl _),hbel.trans (hb4.mono (by have:=hbel.size;omega))⟩
   have hbw4:=hbw.trans (hb4.mono hbw.size);clear HI hne b0 b1 l0 l1 f0 f1 hb4;generalize wr=wo at *;have hnn:¬ nn=0:=by omega
   have hnni:¬ (nn:Int)=0:=by omega
   go_upto_region 9 with fail
   go_upto_region 10 with fail
   go_upto_if 46 with fail
   go_cut [12] (fun u wz=>∃ j:Nat,j < nn/\u=.int .i64 (j:Int)/\wz=w4)
   case first=>
    by_cases hl:k < ln
    ·have hli:(k:Int) < (ln:Int):=by omega
     obtain ⟨lb,lf,y,rfl,hlb,hcy,hy⟩:=HLs.out w4 hbw4 k hl;have hpk:=HPk.out w4 y (nn:Int) hy (by omega) (by omega)
     go_wp2_with (first | (go_at_call 15;refine hpk.mono ?_;rintro e w5 ⟨r,hr,rfl,rfl⟩))
     all_goals go_meet
     all_goals exact ⟨r,by omega,rfl,rfl⟩
    ·have hli:¬ (k:Int) < (ln:Int):=by omega
     go_wp2_with fail
     all_goals go_meet
     all_goals exact ⟨0,by omega,rfl,rfl⟩
   obtain ⟨j,hj,rfl,hwz⟩:=hcut;subst hwz;obtain ⟨w4,rfl⟩:∃ w4,w4=wc:=⟨_,rfl⟩
   obtain ⟨hnl,hnv⟩:=HNx.out;obtain ⟨nb,nf,rfl,hnb,hnn9,hnat⟩:=zAI.atV hnv (k:=j) (by omega)
   clear hnn9;have hcj:=hnat j (by omega)
   have HMem:Hid ((zAB m x).getD j 0∈zAB m x):=zHW (by omega)
   clear hnv hnat hnl HNx;generalize (zAB m x).getD j 0=c at *;obtain ⟨hx4,hway4,hown4,hbel4⟩:=HI4.out;have hmem4:c∈zAB m (xs.getD k 0):=by rw [<- hx4];exact HMem.out
   obtain ⟨hcap,hxb,hat⟩:=zFH hown4 hway4.len (Nat.succ_pos k);have hxg:=(hown4.lt xb rfl).1;have HAt:Hid (zBJ w4 xb 0 xs/\xs.length=k+1):=⟨hat,hway4.len⟩;have HRun:Hid (∀ q,q <= k->xs.getD q 0=c->zBb m (xs.take q) (xs.drop q)=true):=fun q hq he=>HRu.out xs k q c hway4 hmem4 hq he
   have HNew:Hid (WayX m (xs++[c]) (k+1)/\(xs++[c]).getD (k+1) 0=c/\zAE (xs++[c])=zAE xs++[.int .i64 c]):=⟨HMo.out xs k c hway4 hmem4,by rw [<- hway4.len];have h2:=zCf (x:=xs) (y:=[c]) 0;rw [Nat.add_zero] at h2;exact h2,by simp [zAE]⟩
   have HOwn:Hid (w4.ownsRow (w.heap.size+2) 3 1 (.slice (some ⟨xb,0,none⟩) (k+1) xc) (k+1) (zAE xs)/\Below (w.heap.size+2) W2 w4):=⟨hown4,hbel4⟩;obtain ⟨_,_,⟨l0,l1⟩,f0,f1⟩:=HBx.out w4 hbel4;clear hx4 hway4 hown4 hmem4 hat HI4 HMem hbel4
   go_upto_region 14 with fail
   go_loopw [13] (fun av wr=>∃ av':Int,av=.int .i64 av'/\-1 <= av'/\av' <= (k:Int)/\wr=w4) (fun av _=>(intOf av+1).toNat)
   case atStart=>exact ⟨(k:Int),by go_num,by omega,by omega,rfl⟩
   case round=>
    obtain ⟨av,rfl,ha1,ha2,hwr⟩:=hrel;subst hwr
    by_cases ha0:av < 0
    ·have ha0':¬ 0 <= av:=by omega
     have hrow:=HOwn.out.1.alloc (.cells #[.int .i64 c] 3);have hbA:Below (w.heap.size+2) W2 (wr.alloc (.cells #[.int .i64 c] 3)):=HOwn.out.2.alloc (by have:=HOwn.out.2.size;omega) _
     have hbs:w.heap.size+2 <= wr.heap.size+1:=by have:=HOwn.out.2.size;omega
     go_wp2_with (at_builtin;refine wpList_append_lies _ rfl (.tmp 93) (.tmp 95) 27 rfl (w.heap.size+2) 3 i0 _ 1 8 Tryz.underlying27 hi hz0 hz1 hz2 rfl (by decide) (.slice (some ⟨xb,0,none⟩) (k+1) xc) (k+1) _ rfl hrow ⟨wr.heap.size,0,none⟩ 1 1 [.int .i64 c] rfl rfl (zNA _ _ _) (by intro u hu;simp at hu;subst hu;rfl) (by decide) (by unfold maxLen;omega) (by omega) (by simpa using hbs) (wr.heap.size+1) (by simp) ?_;intro g6 cp6 w6 ho6 hg6 hat6 hgl6)
     have HO6:Hid (w6.ownsRow (w.heap.size+2) 3 1 (.slice (some ⟨g6,0,none⟩) (k+1+1) cp6) (k+1+1) (zAE (xs++[c]))/\Below (w.heap.size+2) W2 w6):=⟨by rw [HNew.out.2.2];exact ho6,hbA.grown hg6 (by have:=hbA.size;omega) (fun z hz=>(hrow.lt z hz).1)⟩
     clear hrow hg6 hat6 hgl6 ho6 l0 l1 f0 f1
     go_wp2_with fail
     go_roundw
     case rel=>exact ⟨k+1,xs++[c],g6,cp6,c,by omega,rfl,by go_num,by go_num,HNew.out.2.1.symm,HNew.out.1,HO6.out.1,HO6.out.2⟩
     case measure=>simp [intOf];omega
    ·obtain ⟨p,rfl⟩:∃ p:Nat,av=(p:Int):=⟨av.toNat,by omega⟩
     have ha0':0 <= (p:Int):=by omega
     have hpk:p <= k:=by omega
     have d0:=HAt.out.1 p (by rw [HAt.out.2];omega)
     rw [Nat.zero_add] at d0;have HR1:Hid (xs.getD p 0=c->zBb m (xs.take p) (xs.drop p)=true):=HRun.out p hpk
     have HRet:Hid (xs.getD p 0=c->∀ w',w'=((wr.setCell ⟨w.heap.size+1,0,none⟩ (.slice (some ⟨xb,0,none⟩) p p)).setCell ⟨w.heap.size+1,1,none⟩ (.slice (some ⟨xb,p,none⟩) (k+1 - p) (xc - p))).drew->zFP w m (.returned (.tuple #[.agg #[.slice (some ⟨xb,0,none⟩) p p,.slice (some ⟨xb,p,none⟩) (k+1 - p) (xc - p)],.bool true])) w'):=fun hc w' hw'=>by
      have hat':zBJ w' xb 0 xs:=fun i hi=>by
       rw [hw']
       show ((wr.setCell ⟨w.heap.size+1,0,none⟩ (.slice (some ⟨xb,0,none⟩) p p)).setCell ⟨w.heap.size+1,1,none⟩ (.slice (some ⟨xb,p,none⟩) (k+1 - p) (xc - p))).cell? _=_
       rw [World.cell?_setCell_other _ _ _ _ (by intro e;injection e with e1;omega),World.cell?_setCell_other _ _ _ _ (by intro e;injection e with e1;omega)]
       exact HAt.out.1 i hi
      have hsz':w'.heap.size=wr.heap.size:=by
       rw [hw']
       show ((wr.setCell ⟨w.heap.size+1,0,none⟩ (.slice (some ⟨xb,0,none⟩) p p)).setCell ⟨w.heap.size+1,1,none⟩ (.slice (some ⟨xb,p,none⟩) (k+1 - p) (xc - p))).heap.size=_
       simp
      obtain ⟨i1,i2⟩:=zLq (w:=w') HAt.out.2 hcap (by rw [hsz'];exact hxb) hat' (q:=p) (by omega)
      refine ⟨_,_,_,_,_,_,xs.take p,xs.drop p,rfl,?_,by omega,i1,i2,by rw [List.length_take,HAt.out.2];omega,by rw [List.length_drop,HAt.out.2],fun _=>HRun.out p hpk hc⟩
      rw [hw'];exact ((hbw4.setCell (p:=⟨w.heap.size+1,0,none⟩) (by show w.heap.size <= w.heap.size+1;omega) _).setCell (p:=⟨w.heap.size+1,1,none⟩) (by show w.heap.size <= w.heap.size+1;omega) _).drew
     have HLs4:Hid _:=HLs.out wr hbw4 k;have HPk4:Hid _:=HPk.out wr;clear HR1 HRun HAt HNew HOwn;generalize xs.getD p 0=y at *
     by_cases hyc:y=c
     ·subst hyc
      have HRet2:Hid _:=HRet.out rfl;have hp1:¬ (p:Int) < 0:=by omega
      have hp2:¬ (k:Int)+1 < (p:Int):=by omega
      have hp3:¬ xc < p:=by omega
      by_cases hl:k < ln
      ·have hli:(k:Int) < (ln:Int):=by omega
       obtain ⟨lb,lf,z,rfl,hlb,hcz,hz⟩:=HLs4.out hl;have hpk3:=zHi z 3 wr hz (by decide) (by decide)
       clear HLs HLs4 HPk HPk4 HNe HMo HRu HRg HBx;generalize pk z 3=r at *
       by_cases hr0:0 < r
       ·clear HRet
        go_wp2_with (go_at_call 15;refine hpk3.mono ?_;rintro e wr ⟨rfl,rfl⟩)
        go_region
        all_goals go_wp2_with fail
        all_goals (refine bodyPost_ret (v:=.tuple #[.agg #[.slice (some ⟨xb,0,none⟩) p p,.slice (some ⟨xb,p,none⟩) (k+1 - p) (xc - p)],.bool true]) ?_ rfl (HRes.out _ _ (HRet2.out _ rfl)))
        all_goals simp [results,Tryz.results5,go_sem,l0,l1]
       ·clear HRet HRet2
        go_wp2_with (go_at_call 15;refine hpk3.mono ?_;rintro e wr ⟨rfl,rfl⟩)
        go_roundw
        case rel=>exact ⟨(p:Int) - 1,by go_num,by omega,by omega,by trivial⟩
        case measure=>simp [intOf]
      ·have hli:¬ (k:Int) < (ln:Int):=by omega
       have hli2:(ln:Int) <= (k:Int):=by omega
       clear HLs HLs4 HPk HPk4 HNe HMo HRu HRg HBx
       go_wp2_with fail
       go_region
       all_goals go_wp2_with fail
       all_goals (refine bodyPost_ret (v:=.tuple #[.agg #[.slice (some ⟨xb,0,none⟩) p p,.slice (some ⟨xb,p,none⟩) (k+1 - p) (xc - p)],.bool true]) ?_ rfl (HRes.out _ _ (HRet2.out _ rfl)))
       all_goals simp [results,Tryz.results5,go_sem,l0,l1]
     ·clear HRet
      go_wp2_with fail
      go_roundw
      case rel=>exact ⟨(p:Int) - 1,by go_num,by omega,by omega,by trivial⟩
      case measure=>simp [intOf]
  ·obtain rfl:k=12:=by omega
   obtain ⟨hx,hway,hown,hbel⟩:=HI.out;obtain ⟨hbw,⟨b0,b1⟩,⟨l0,l1⟩,f0,f1⟩:=HBx.out wr hbel;clear hx hway hown hbel HI
   go_wp2_with fail
   refine bodyPost_ret (v:=.tuple #[.agg #[.slice none 0 0,.slice none 0 0],.bool true]) ?_ rfl (HRes.out _ _ ⟨none,0,0,none,0,0,[],[],rfl,(hbw.setCell (p:=⟨w.heap.size+1,0,none⟩) (by show w.heap.size <= w.heap.size+1;omega) _).setCell (p:=⟨w.heap.size+1,1,none⟩) (by show w.heap.size <= w.heap.size+1;omega) _,by omega,⟨none,0,rfl,Nat.le_refl _,fun _=>⟨rfl,rfl⟩,fun h=>absurd rfl h⟩,⟨none,0,rfl,Nat.le_refl _,fun _=>⟨rfl,rfl⟩,fun h=>absurd rfl h⟩,rfl,rfl,fun h=>absurd rfl h⟩)
   simp [results,Tryz.results5,go_sem,l0,l1]
end Go.Proofs.YtnihdlgfhhdhkaaGreatDoor
namespace Go.Proofs.YtnihdlgfhhdhkaaGreatDoor
open Go.ChangeShapes Go.WideShapes Go.ChangeAt Go.RowKit Go.Deep Go.Maps
open Terms Tm
set_option maxHeartbeats 6400000
set_option maxRecDepth 20000
theorem zBn {w w':World} {X:Nat} {o:Obj} (hb:Below w.heap.size w w') (h:w.heap[X]? = some o):w'.heap[X]? = some o:=(hb.block X (Array.getElem?_eq_some_iff.1 h).1).trans h
section
variable {m : Mo} {ps : List (List (Int × Int))} {l : List (Int × Int)} {K K' : Nat}
end
end Go.Proofs.YtnihdlgfhhdhkaaGreatDoor
namespace Go.Proofs.YtnihdlgfhhdhkaaGreatDoor
open Go.ChangeShapes Go.WideShapes Go.ChangeAt Go.RowKit Go.Deep
open Terms Tm
set_option maxHeartbeats 6400000
set_option maxRecDepth 20000
section
variable {m : Mo} {ps : List (List (Int × Int))} {l : List (Int × Int)} {K : Nat}
theorem zOy (h:zCa m ps l K) {i j:Nat} (hi:i < K) (hj:j < K) (e:spA m ps l K i=spA m ps l K j):i=j:=by
 have hnd:(xpP m ps l K).Nodup:=zHf _ _ K;have hl:(xpP m ps l K).length=K:=h.1;unfold spA at e;rw [List.getD_eq_getElem?_getD,List.getD_eq_getElem?_getD,List.getElem?_eq_getElem (by omega),List.getElem?_eq_getElem (by omega),Option.getD_some,Option.getD_some] at e
 have hp:=List.pairwise_iff_getElem.1 hnd
 rcases Nat.lt_trichotomy i j with h1 | h1 | h1
 ·exact absurd e (hp i j _ _ h1)
 ·exact h1
 ·exact absurd e.symm (hp j i _ _ h1)
noncomputable def zIX (m:Mo) (ps:List (List (Int × Int))) (l:List (Int × Int)) (T:Tm) (ss ll:List Int) (j:Nat):Int:=zAo (zAA l) (fun q=>(T.sub q).hb (sig (lets m ps ss++lets m ps ll) ss.length)) j (zAA l).length
structure ClWay (m:Mo) (ps:List (List (Int × Int))) (l:List (Int × Int)) (K:Nat) (T:Tm) (ss ll:List Int) (x:List Nat):Prop where
 len:x.length=(ss++ll).length
 lt:∀ i,i < (ss++ll).length->x.getD i 0 < K
 first:x.getD 0 0 < (zAd m ps l).length
 spot:∀ i,i < (ss++ll).length->spA m ps l K (x.getD i 0)=((ss++ll).getD i 0,zIX m ps l T ss ll i)
 step:∀ i,i+1 < (ss++ll).length->x.getD (i+1) 0∈nxt (zCF m ps l K) (x.getD i 0)
 last:x.getD ss.length 0∈nxt (zCF m ps l K) (x.getD ((ss++ll).length - 1) 0)
theorem zPY {T:Tm} {ss ll:List Int} (hw:T.Wf) (ho:T.ops=l) (hz:zAD (l.map Prod.fst)=0) (hv:∀ q,q < l.length->(l.getD q (0,0)).1=13->0 <= (l.getD q (0,0)).2) (h8:∀ q,q < l.length->8 <= (l.getD q (0,0)).1) (hk:zAO m ps l=0) (h:zCa m ps l K) (hr:zBb m ss ll=true) (hno:T.hb (sig (lets m ps ss++lets m ps ll) ss.length) 0=false):∃ x,ClWay m ps l K T ss ll x:=by
 have hp:=zN7 hr;have e:(ss++ll).map (zAG m ps)=lets m ps ss++lets m ps ll:=List.map_append;obtain ⟨x,hx,hW,hs⟩:=zOV hw ho hz hv h8 hk h hp (by rw [e];exact hno)
 rw [e] at hs;have hlt:=hp.lt;refine ⟨x,hx,fun i hi=>hW.all i (by omega),hW.first,hs,fun i hi=>?_,?_⟩
 ·have h1:=hW.step i (by omega)
  rw [hx,zCV hi] at h1;exact h1
 ·have h1:=hW.step ((ss++ll).length - 1) (by omega)
  rw [hx,show (ss++ll).length - 1+1=(ss++ll).length by omega,zIt] at h1
  exact h1
end
section
variable {m : Mo} {l : List (Int × Int)} {K : Nat} {w w' : World} {sb nb : Nat}
structure RdG (w:World) (m:Mo) (l:List (Int × Int)) (K sb nb:Nat):Prop where
 spot:∀ s,s < K->w.cell? ⟨sb,s*2,none⟩=some (.int .i64 (spA m zAH l K s).1)/\w.cell? ⟨sb,s*2+1,none⟩=some (.int .i64 (spA m zAH l K s).2)
 next:∀ s,s < K->∃ uo uc,w.cell? ⟨nb,s,none⟩=some (.slice uo (nxt (zCF m zAH l K) s).length uc)/\∀ j,j < (nxt (zCF m zAH l K) s).length->∃ ub uf,uo=some ⟨ub,uf,none⟩/\w.cell? ⟨ub,uf+j,none⟩=some (.int .i64 ((nxt (zCF m zAH l K) s).getD j 0:Nat))
theorem RdG.below (h:RdG w m l K sb nb) (hb:Below w.heap.size w w'):RdG w' m l K sb nb:=
 ⟨fun s hs=>⟨zD3 hb (h.spot s hs).1,zD3 hb (h.spot s hs).2⟩,fun s hs=>by
  obtain ⟨uo,uc,h1,h2⟩:=h.next s hs
  exact ⟨uo,uc,zD3 hb h1,fun j hj=>by obtain ⟨ub,uf,e,h3⟩:=h2 j hj;exact ⟨ub,uf,e,zD3 hb h3⟩⟩⟩
end
theorem zHD (m:Mo) (a b:Vr) (l:List (Int × Int)) (mm:Nat) (w:World) (hB:0 < w.heap.size) (hT:zAJ w) (hG:GV a b) (hvars:m.vars=[a,b]) (hK:KTaskOk m l mm) (va vr pv fv:Value) (hV:TaskV w va vr pv fv m zAH l) :
  Calls Tryz.prog 6 #[.agg #[va,vr,pv,fv]] w fun e w2=>∃ K so sc no nc xo xc,e=.returned (.tuple #[.agg #[.slice so K sc,.int .i64 ((zAd m zAH l).length:Nat),.slice no K nc,.slice xo K xc,.int .i64 ((zAA l).length:Nat)],.int .i64 0])/\Below w.heap.size w w2/\K <= 20000/\Hid (zCa m zAH l K/\(0 < K->∃ sb nb,so=some ⟨sb,0,none⟩/\no=some ⟨nb,0,none⟩/\RdG w2 m l K sb nb)):=by
 have hnf:=zMn hG hK hvars;have hk:=hK.code;refine (zJS va vr pv fv m zAH l w hB hT hV).mono fun e w2 hx=>?_
 rcases hx with ⟨_,K,hD,sv,nv,tv,e1,h2,HG⟩ | ⟨_,hf,_,_⟩ | ⟨h1,_,_⟩
 ·have hGr:=HG.out.graph
  obtain ⟨so,sc,rfl⟩:=HG.out.1.shape;obtain ⟨us,n1,n2,n3⟩:=HG.out.2.1;obtain ⟨no,nc,rfl⟩:=zAm n1;obtain ⟨xo,xc,rfl⟩:=zAm HG.out.2.2;have hS:=HG.out.1;have eK:(xpP m zAH l K).length=K:=hD.1;rw [hD.1,zCg,zC7] at e1 hGr;rw [zCg] at n1;unfold SpO at hS;rw [eK] at hS;have hok:=zOj hk hD
  refine ⟨K,so,sc,no,nc,xo,xc,e1,h2,by have:=hD.2.1;omega,hD,fun h0=>?_⟩
  obtain ⟨sb,cap,f1,_,_⟩:=hS.form h0;obtain ⟨nb,cap',f2,_,_⟩:=n1.form h0
  injection f1 with f1 _ _
  injection f2 with f2 _ _
  subst f1 f2;refine ⟨sb,nb,rfl,rfl,fun s hs=>?_,fun s hs=>?_⟩
  ·obtain ⟨ao',cap2,e3,_,h3⟩:=hGr.spots
   injection e3 with e3 _ _
   obtain ⟨b',off,e4,_,hat⟩:=h3 (by intro h;have:(xpP m zAH l K).length=0:=congrArg List.length h;omega)
   rw [<- e3] at e4
   injection e4 with e4
   injection e4 with e5 e6
   subst e5 e6;have:=hat s (by show s < (xpP m zAH l K).length;omega)
   rw [Nat.zero_add] at this;exact this
  ·obtain ⟨us',ao',cap2,e3,_,hu,h3⟩:=hGr.next
   injection e3 with e3 _ _
   have hl:(zCF m zAH l K).next.length=K:=zCg K;obtain ⟨b',off,e4,_,hat⟩:=h3 (by intro h;rw [h] at hl;simp at hl;omega)
   rw [<- e3] at e4
   injection e4 with e4
   injection e4 with e5 e6
   subst e5 e6;have hc:=hat s (by omega)
   rw [Nat.zero_add] at hc;obtain ⟨uo,uc,e7,h8⟩:=hu.2 s (by omega)
   rw [e7] at hc;have hlen:(nxt (zCF m zAH l K) s).length=((zCF m zAH l K).next.getD s []).length:=List.length_map _;refine ⟨uo,uc,by rw [hc,hlen],fun j hj=>?_⟩
   rw [hlen] at hj;obtain ⟨ub,uf,e9,_,hat2⟩:=h8 (by intro h;rw [h] at hj;simp at hj)
   refine ⟨ub,uf,e9,?_⟩
   rw [hat2 j hj]
   congr 2
   have hge:0 <= ((zCF m zAH l K).next.getD s []).getD j 0:=by
    exact ((hok.row s (by rw [show (zCF m zAH l K).spots.length=K from hD.1];exact hs)).2 j hj).1
   have e2:(nxt (zCF m zAH l K) s).getD j 0=(((zCF m zAH l K).next.getD s []).getD j 0).toNat:=zIO Int.toNat _ 0 0 hj;rw [e2];omega
 ·exact absurd hf hnf
 ·exact absurd hk h1
def Kt (t:TypeId) (w w':World):Prop:=w.heap.size <= w'.heap.size/\∀ (b:Nat) (cs:Array Value) (te:TypeId) (fr:Nat × Nat),w.heap[b]? = some (Obj.cells cs te fr)->te≠t->w'.heap[b]? = some (Obj.cells cs te fr)
section
variable {t te : TypeId} {w w' w'' : World}
theorem Kt.below (hb:Below w.heap.size w w'):Kt t w w':=⟨hb.size,fun b _ _ _ h _=>(hb.block b (Array.getElem?_eq_some_iff.1 h).1).trans h⟩
theorem Kt.grown {base n:Nat} {v:Value} {xs:List Value} (ho:w.ownsRow base t 1 v n xs) (hg:w.grownBy w' v.ownBlock):Kt t w w':=⟨hg.size,fun b cs te fr hb hne=>by
 rw [hg.block b (Array.getElem?_eq_some_iff.1 hb).1 (fun e=>?_)]
 ·exact hb
 ·rcases ho.2 with ⟨rfl,_⟩ | ⟨g,cap,cur,rfl,_,hg',_⟩
  ·cases e
  ·have:g=b:=by simpa [Value.ownBlock] using e.symm
   subst this;rw [hb] at hg'
   injection hg' with hg'
   injection hg' with _ h3 _
   exact hne h3⟩
def zB2 (w:World) (v:Value) (l:List Bool):Prop:=zAM w v l/\zAS w v 4
theorem zAS.kt {v:Value} (h:zAS w v te) (hk:Kt t w w') (hne:te≠t):zAS w' v te:=fun a n c e=>by
 obtain ⟨cs,fr,hb⟩:=h a n c e;exact ⟨cs,fr,hk.2 _ _ _ _ hb hne⟩
theorem zB2.kt {v:Value} {l:List Bool} (h:zB2 w v l) (hk:Kt t w w') (hne:4≠t):zB2 w' v l:=by
 refine ⟨?_,h.2.kt hk hne⟩
 obtain ⟨⟨ao,cap,rfl,h1⟩,h2⟩:=h;refine ⟨ao,cap,rfl,fun hne'=>?_⟩
 obtain ⟨b,off,rfl,hlt,hat⟩:=h1 hne';obtain ⟨cs,fr,hb⟩:=h2 _ _ _ rfl;have hb':=hk.2 _ _ _ _ hb hne;refine ⟨b,off,rfl,Nat.lt_of_lt_of_le hlt hk.1,fun i hi=>?_⟩
 rw [<- hat i hi];exact World.cell?_of_block (hb'.trans hb.symm)
end
def zDY (t:TypeId) (w0 wr:World) (vo:Value) (k:Nat) (Pz:Nat->Value->World->Prop):Prop:=∃ us:List Value,us.length=k/\wr.ownsRow w0.heap.size t 1 vo k us/\∀ c,c < k->Pz c (us.getD c .nilIface) wr
section
variable {t : TypeId} {w0 wr w2 w3 : World} {vo vo' v : Value} {k : Nat} {Pz : Nat -> Value -> World -> Prop}
theorem zDY.nil:zDY t w0 wr (.slice none 0 0) 0 Pz:=⟨[],rfl,World.ownsRow_nil _ _ _ _,fun c hc=>by omega⟩
theorem zDY.below (hP:∀ c v w w',Pz c v w->Kt t w w'->Pz c v w') (h:zDY t w0 wr vo k Pz) (hb:Below wr.heap.size wr w2):zDY t w0 w2 vo k Pz:=by
 obtain ⟨us,h1,h2,h3⟩:=h;exact ⟨us,h1,zAR h2 hb (Nat.le_refl _),fun c hc=>hP _ _ _ _ (h3 c hc) (Kt.below hb)⟩
theorem zDY.step (hP:∀ c v w w',Pz c v w->Kt t w w'->Pz c v w') {us:List Value} (h1:us.length=k) (h2:wr.ownsRow w0.heap.size t 1 vo k us) (h3:∀ c,c < k->Pz c (us.getD c .nilIface) wr) (hv:Pz k v wr) (hg:wr.grownBy w2 vo.ownBlock) (ho:w2.ownsRow w0.heap.size t 1 vo' (k+1) (us++[v])):zDY t w0 w2 vo' (k+1) Pz:=by
 refine ⟨us++[v],by rw [List.length_append,h1];rfl,ho,fun c hc=>?_⟩
 have hk:=Kt.grown h2 hg
 by_cases hck:c < k
 ·have e:(us++[v]).getD c .nilIface=us.getD c .nilIface:=by simp only [List.getD_eq_getElem?_getD];rw [List.getElem?_append_left (by omega)]
  rw [e];exact hP _ _ _ _ (h3 c hck) hk
 ·obtain rfl:c=k:=by omega
  have e:(us++[v]).getD c .nilIface=v:=by simp only [List.getD_eq_getElem?_getD];rw [List.getElem?_append_right (by omega),h1,Nat.sub_self];rfl
  rw [e];exact hP _ _ _ _ hv hk
end
structure Exc (Q:Nat) (w w':World):Prop where
 os:w'.os=w.os
 tape:w'.tape=w.tape
 out:w'.output=w.output
 size:w.heap.size <= w'.heap.size
 block:∀ b,b < w.heap.size->b≠Q->w'.heap[b]? = w.heap[b]?
section
variable {Q : Nat} {w w' w'' : World}
theorem Exc.refl:Exc Q w w:=⟨rfl,rfl,rfl,Nat.le_refl _,fun _ _ _=>rfl⟩
theorem Exc.below {B:Nat} (h:Exc Q w w') (hb:Below B w' w'') (hB:w.heap.size <= B):Exc Q w w'':=
 ⟨hb.os.trans h.os,hb.tape.trans h.tape,hb.output.trans h.out,Nat.le_trans h.size hb.size,fun b h1 h2=>(hb.block b (by omega)).trans (h.block b h1 h2)⟩
theorem Exc.set (h:Exc Q w w') (i:Nat) (v:Value):Exc Q w (w'.setCell ⟨Q,i,none⟩ v):=
 ⟨h.os,h.tape,h.out,by simpa using h.size,fun b h1 h2=>(Below.heap_setCell w' ⟨Q,i,none⟩ v b h2).trans (h.block b h1 h2)⟩
theorem Exc.cell (h:Exc Q w w') {b i:Nat} {v:Value} (hc:w.cell? ⟨b,i,none⟩=some v) (hb:b≠Q):w'.cell? ⟨b,i,none⟩=some v:=
 (World.cell?_of_block (h.block b (World.block_lt_of_cell? w ⟨b,i,none⟩ hc) hb)).trans hc
theorem Exc.to {w0:World} {B:Nat} (hb:Below B w0 w) (h:Exc Q w w') (hQ:B <= Q) (hB:B <= w.heap.size):Below B w0 w':=
 ⟨h.os.trans hb.os,h.tape.trans hb.tape,h.out.trans hb.output,Nat.le_trans hb.size h.size,fun b h1=>(h.block b (by omega) (by omega)).trans (hb.block b h1)⟩
end
def LtJ (m:Mo) (cs:List Int) (w0 wr:World) (v:Value) (k:Nat):Prop:=zDY 53 w0 wr v k (fun j u w=>zB2 w u (zAG m zAH (cs.getD j 0)))
section
variable {m : Mo} {cs : List Int} {w0 w w' : World} {v : Value} {k : Nat}
theorem LtJ.below (h:LtJ m cs w0 w v k) (hb:Below w.heap.size w w'):LtJ m cs w0 w' v k:=zDY.below (fun _ _ _ _ h k=>h.kt k (by decide)) h hb
theorem LtJ.set {Q:Nat} (h:LtJ m cs w0 w v k) (hQ:Q < w0.heap.size) {cs':Array Value} {fr:Nat × Nat} (hq:w.heap[Q]? = some (Obj.cells cs' 52 fr)) (i:Nat) (u:Value):LtJ m cs w0 (w.setCell ⟨Q,i,none⟩ u) v k:=by
 obtain ⟨us,h1,h2,h3⟩:=h
 have hk:Kt 52 w (w.setCell ⟨Q,i,none⟩ u):=⟨by simp,fun b cs te f hb hne=>by
  by_cases e:b=Q
  ·subst e
   rw [hq] at hb
   injection hb with hb
   injection hb with _ e2 _
   exact absurd e2.symm hne
  ·exact (Below.heap_setCell w ⟨Q,i,none⟩ u b e).trans hb⟩
 refine ⟨us,h1,zMB h2 (fun g hg _=>Below.heap_setCell w ⟨Q,i,none⟩ u g (by show g≠Q;omega)),fun c hc=>(h3 c hc).kt hk (by decide)⟩
theorem LtJ.done (h:LtJ m cs w0 w v cs.length):zAN w v (lets m zAH cs):=by
 obtain ⟨us,h1,h2,h3⟩:=h;rw [<- h1] at h2
 have h4:=zCp (ls:=lets m zAH cs) h2 ⟨by rw [zCS,h1],fun i hi=>by
  rw [zCS] at hi;have h5:=(h3 i hi).1;rw [zKH hi];rw [List.getD_eq_getElem?_getD,List.getElem?_eq_getElem (by omega)] at h5 ⊢
  exact h5⟩
 exact h4
theorem LtJ.other {base n:Nat} {v2:Value} {xs:List Value} (h:LtJ m cs w0 w v k) (ho:w.ownsRow base 53 1 v2 n xs) (hg:w.grownBy w' v2.ownBlock) (hne:∀ b,v.ownBlock=some b->v2.ownBlock≠some b):LtJ m cs w0 w' v k:=by
 obtain ⟨us,h1,⟨h2,h3⟩,h4⟩:=h;refine ⟨us,h1,⟨h2,?_⟩,fun c hc=>(h4 c hc).kt (Kt.grown ho hg) (by decide)⟩
 rcases h3 with h5 | ⟨g,cap,cur,rfl,hb,hg',r⟩
 ·exact .inl h5
 ·exact .inr ⟨g,cap,cur,rfl,hb,(hg.block g (Array.getElem?_eq_some_iff.1 hg').1 (fun e=>hne g rfl e.symm)).trans hg',r⟩
theorem LtJ.more {us:List Value} {v' u:Value} (h1:us.length=k) (h2:w.ownsRow w0.heap.size 53 1 v k us) (h3:∀ c,c < k->zB2 w (us.getD c .nilIface) (zAG m zAH (cs.getD c 0))) (hu:zB2 w u (zAG m zAH (cs.getD k 0))) (hg:w.grownBy w' v.ownBlock) (ho:w'.ownsRow w0.heap.size 53 1 v' (k+1) (us++[u])):LtJ m cs w0 w' v' (k+1):=
 zDY.step (t:=53) (Pz:=fun j u w=>zB2 w u (zAG m zAH (cs.getD j 0))) (fun _ _ _ _ h k=>h.kt k (by decide)) h1 h2 h3 hu hg ho
def WyJ (m:Mo) (ss ll:List Int) (Q:Nat) (w9 wr:World) (k:Nat):Prop:=∃ so sn sc lo ln lc,wr.heap[Q]? = some (.cells #[.slice so sn sc,.slice lo ln lc] 52 (0,0))/\Exc Q w9 wr/\
 ((k <= ss.length/\sn=k/\LtJ m ss w9 wr (.slice so sn sc) k/\lo=none/\ln=0/\lc=0)\/(ss.length <= k/\sn=ss.length/\ln=k - ss.length/\LtJ m ss w9 wr (.slice so sn sc) ss.length/\∃ wS:World,w9.heap.size <= wS.heap.size/\wS.heap.size <= wr.heap.size/\(∀ b,(Value.slice so sn sc).ownBlock=some b->b < wS.heap.size)/\LtJ m ll wS wr (.slice lo ln lc) (k - ss.length)))
end
section
variable {Q : Nat} {w w' : World} {a b : Value}
theorem zD8 (h:w.heap[Q]? = some (.cells #[a,b] 52 (0,0))):w.cell? ⟨Q,0,none⟩=some a/\w.cell? ⟨Q,1,none⟩=some b/\w.frozen? ⟨Q,0,none⟩=false/\w.frozen? ⟨Q,1,none⟩=false:=by
 refine ⟨?_,?_,?_,?_⟩ <;> simp [World.cell?,World.frozen?,h]
theorem zNx (h:w.heap[Q]? = some (.cells #[a,b] 52 (0,0))) (v:Value):(w.setCell ⟨Q,0,none⟩ v).heap[Q]? = some (.cells #[v,b] 52 (0,0)):=by
 simp [World.setCell,Array.getElem?_modify,h]
theorem zNB (h:w.heap[Q]? = some (.cells #[a,b] 52 (0,0))) (v:Value):(w.setCell ⟨Q,1,none⟩ v).heap[Q]? = some (.cells #[a,v] 52 (0,0)):=by
 simp [World.setCell,Array.getElem?_modify,h]
end
section
variable {m : Mo} {ss ll : List Int} {Q k : Nat} {w9 wr wx w2 : World} {so lo uo : Option Addr} {sn sc ln lc uc xb xc2 : Nat} {us : List Value}
theorem zFn {base:Nat} {v:Value} {n:Nat} (h9:Exc Q w9 wr) (hb:Below wr.heap.size wr wx) (hQ:Q < base) (hbs:w9.heap.size <= base) (hbx:base <= wx.heap.size) (_hw:w9.heap.size <= wx.heap.size) (h2:wx.ownsRow base 53 1 v n us) (hg:World.grownBy (wx.alloc (.cells #[.slice uo 3 uc] 53)) w2 v.ownBlock) (hx:Q < wr.heap.size) :
  w2.heap[Q]? = wr.heap[Q]?/\Exc Q w9 w2:=by
 have hbz:Below wx.heap.size wx (wx.alloc (.cells #[.slice uo 3 uc] 53)):=(Below.refl _ _).alloc (Nat.le_refl _) _;have hz:=hb.trans (hbz.mono hb.size);have e1:=hz.block Q hx;have e2:=hg.block Q (Nat.lt_of_lt_of_le hx hz.size) (fun e=>by have:=(h2.lt Q e.symm).1;omega)
 have hbg:Below base (wx.alloc (.cells #[.slice uo 3 uc] 53)) w2:=Below.grown (Below.refl _ _) hg (by have:=hbz.size;omega) (fun z hz=>(h2.lt z hz).1)
 exact ⟨e2.trans e1,(h9.below hz h9.size).below hbg hbs⟩
theorem WyJ.stem (hbox:wr.heap[Q]? = some (.cells #[.slice so k sc,.slice none 0 0] 52 (0,0))) (hex:Exc Q w9 wr) (hk:k < ss.length) (hb:Below wr.heap.size wr wx) (hu:zB2 wx (.slice uo 3 uc) (zAG m zAH (ss.getD k 0)))
  (h1:us.length=k) (h2:wx.ownsRow w9.heap.size 53 1 (.slice so k sc) k us) (h3:∀ c,c < k->zB2 wx (us.getD c .nilIface) (zAG m zAH (ss.getD c 0)))
  (hg:World.grownBy (wx.alloc (.cells #[.slice uo 3 uc] 53)) w2 (Value.slice so k sc).ownBlock) (ho:w2.ownsRow w9.heap.size 53 1 (.slice (some ⟨xb,0,none⟩) (k+1) xc2) (k+1) (us++[.slice uo 3 uc])) (hQ:Q < w9.heap.size) :
  WyJ m ss ll Q w9 (w2.setCell ⟨Q,0,none⟩ (.slice (some ⟨xb,0,none⟩) (k+1) xc2)) (k+1):=by
 have hbz:Below wx.heap.size wx (wx.alloc (.cells #[.slice uo 3 uc] 53)):=(Below.refl _ _).alloc (Nat.le_refl _) _;have hs:=hex.size;have hs2:=hb.size;obtain ⟨e1,e2⟩:=zFn hex hb hQ (Nat.le_refl _) (by omega) (by omega) h2 hg (by omega)
 rw [hbox] at e1;have hL:LtJ m ss w9 w2 (.slice (some ⟨xb,0,none⟩) (k+1) xc2) (k+1):=LtJ.more h1 (h2.alloc _) (fun c hc=>(h3 c hc).kt (Kt.below (t:=53) hbz) (by decide)) (hu.kt (Kt.below (t:=53) hbz) (by decide)) hg ho
 exact ⟨_,_,_,_,_,_,zNx e1 _,e2.set _ _,.inl ⟨hk,rfl,hL.set hQ e1 _ _,rfl,rfl,rfl⟩⟩
theorem WyJ.loop {wS:World} {q:Nat} (hbox:wr.heap[Q]? = some (.cells #[.slice so ss.length sc,.slice lo q lc] 52 (0,0))) (hex:Exc Q w9 wr) (hb:Below wr.heap.size wr wx) (hu:zB2 wx (.slice uo 3 uc) (zAG m zAH (ll.getD q 0)))
  (h9:w9.heap.size <= wS.heap.size) (hS:wS.heap.size <= wr.heap.size) (hsb:∀ b,(Value.slice so ss.length sc).ownBlock=some b->b < wS.heap.size) (hst:LtJ m ss w9 wr (.slice so ss.length sc) ss.length)
  (h1:us.length=q) (h2:wx.ownsRow wS.heap.size 53 1 (.slice lo q lc) q us) (h3:∀ c,c < q->zB2 wx (us.getD c .nilIface) (zAG m zAH (ll.getD c 0)))
  (hg:World.grownBy (wx.alloc (.cells #[.slice uo 3 uc] 53)) w2 (Value.slice lo q lc).ownBlock) (ho:w2.ownsRow wS.heap.size 53 1 (.slice (some ⟨xb,0,none⟩) (q+1) xc2) (q+1) (us++[.slice uo 3 uc])) (hQ:Q < w9.heap.size) :
  WyJ m ss ll Q w9 (w2.setCell ⟨Q,1,none⟩ (.slice (some ⟨xb,0,none⟩) (q+1) xc2)) (ss.length+q+1):=by
 have hbz:Below wx.heap.size wx (wx.alloc (.cells #[.slice uo 3 uc] 53)):=(Below.refl _ _).alloc (Nat.le_refl _) _;have hs:=hex.size;have hs2:=hb.size;obtain ⟨e1,e2⟩:=zFn hex hb (Nat.lt_of_lt_of_le hQ h9) h9 (by omega) (by omega) h2 hg (by omega)
 rw [hbox] at e1;have hL:LtJ m ll wS w2 (.slice (some ⟨xb,0,none⟩) (q+1) xc2) (q+1):=LtJ.more h1 (h2.alloc _) (fun c hc=>(h3 c hc).kt (Kt.below (t:=53) hbz) (by decide)) (hu.kt (Kt.below (t:=53) hbz) (by decide)) hg ho
 have hst2:LtJ m ss w9 w2 (.slice so ss.length sc) ss.length:=((hst.below hb).below hbz).other (h2.alloc _) hg (fun b hb e=>by have:=hsb b hb;have:=(h2.lt b e).1;omega)
 have e3:ss.length+q+1 - ss.length=q+1:=by omega
 refine ⟨_,_,_,_,_,_,zNB e1 _,e2.set _ _,.inr ⟨by omega,rfl,e3.symm,hst2.set hQ e1 _ _,wS,h9,?_,hsb,?_⟩⟩
 ·have h5:=hg.size
  have h6:=hbz.size;simp only [World.setCell,Array.size_modify];omega
 ·rw [e3]
  exact hL.set (Nat.lt_of_lt_of_le hQ h9) e1 _ _
end
theorem zJ0 {m:Mo} {ss ll:List Int} {w9 wr:World} {k sn sc ln lc:Nat} {so lo:Option Addr} (h:(k <= ss.length/\sn=k/\LtJ m ss w9 wr (.slice so sn sc) k/\lo=none/\ln=0/\lc=0)\/(ss.length <= k/\sn=ss.length/\ln=k - ss.length/\LtJ m ss w9 wr (.slice so sn sc) ss.length/\∃ wS:World,w9.heap.size <= wS.heap.size/\wS.heap.size <= wr.heap.size/\(∀ b,(Value.slice so sn sc).ownBlock=some b->b < wS.heap.size)/\LtJ m ll wS wr (.slice lo ln lc) (k - ss.length))) (hk:ss.length <= k) (hs:w9.heap.size <= wr.heap.size) :
  sn=ss.length/\k=ss.length+ln/\LtJ m ss w9 wr (.slice so ss.length sc) ss.length/\∃ wS:World,w9.heap.size <= wS.heap.size/\wS.heap.size <= wr.heap.size/\(∀ b,(Value.slice so ss.length sc).ownBlock=some b->b < wS.heap.size)/\LtJ m ll wS wr (.slice lo ln lc) ln:=by
 rcases h with ⟨h1,h2,h3,rfl,rfl,rfl⟩ | ⟨h1,h2,h3,h4,wS,h5,h6,h7,h8⟩
 ·obtain rfl:k=ss.length:=by omega
  subst h2;refine ⟨rfl,rfl,h3,wr,hs,Nat.le_refl _,fun b e=>?_,zDY.nil⟩
  obtain ⟨us,e1,e2,_⟩:=h3;exact (e2.lt b e).2
 ·subst h2
  rw [<- h3] at h8;exact ⟨rfl,by omega,h4,wS,h5,h6,h7,h8⟩
end Go.Proofs.YtnihdlgfhhdhkaaGreatDoor
namespace Go.Proofs.YtnihdlgfhhdhkaaGreatDoor
open Go.ChangeShapes Go.WideShapes Go.ChangeAt Go.RowKit Go.Deep Go.Maps
open Terms Tm
set_option maxHeartbeats 6400000
set_option maxRecDepth 20000
theorem zFw {w:World} {so:Option Addr} {n c:Nat} {l:List Int} (h:zBM w (.slice so n c) l) (hn:l.length=n) (h0:0 < n):∃ b off,so=some ⟨b,off,none⟩/\∀ W:World,Below w.heap.size w W->∀ (j:Nat) (u:Value),(zAE l)[j]? = some u->W.cell? ((⟨b,off,none⟩:Addr).add j)=some u:=by
 obtain ⟨ao,cap,e,_,_,h3⟩:=h
 injection e with e1 _ _
 subst e1;obtain ⟨b,off,e2,hb,hat⟩:=h3 (by rintro rfl;simp at hn;omega)
 refine ⟨b,off,e2,fun W hW j u hj=>?_⟩
 have hjl:j < l.length:=by have:=(List.getElem?_eq_some_iff.1 hj).1;simpa [zAE] using this
 have hu:u=.int .i64 (l.getD j 0):=by
  simp only [zAE,List.getElem?_map,List.getElem?_eq_getElem hjl,Option.map_some,Option.some.injEq] at hj
  rw [<- hj,List.getD_eq_getElem?_getD,List.getElem?_eq_getElem hjl,Option.getD_some]
 have ha:(⟨b,off,none⟩:Addr).add j=⟨b,off+j,none⟩:=by unfold Addr.add;split <;> simp_all
 rw [ha,hu];exact (hW.cell (p:=⟨b,off+j,none⟩) hb).trans (hat j hjl)
theorem zHE (c0 c1 c2 c3 c4 c5 c6:Value) (a b:Vr) (rawv lv:Value) (rs:List (Int × Int)) (ns:List Int) (w:World) (hB:0 < w.heap.size) (hT:zAJ w) (hG:GV a b) (hR:Raws w w.heap.size rawv rs) (hN:IntsR w lv ns)
  (hmd:∀ w',Below w.heap.size w w'->Calls Tryz.prog 10 #[.agg #[c0,c1,c2,c3,c4,c5,c6]] w' fun e w2=>∃ va vr,e=.returned (.agg #[va,vr])/\Below w'.heap.size w' w2/\zFD w2 va vr [a,b]) :
  Calls Tryz.prog 3 #[.agg #[c0,c1,c2,c3,c4,c5,c6],rawv,lv] w fun e w'=>e=.returned (.bool true)/\Below w.heap.size w w':=by
 have hA1:Below w.heap.size w (w.alloc (.cells #[c0,c1,c2,c3,c4,c5,c6] 25)):=(Below.refl _ _).alloc (Nat.le_refl _) _;have htk:=zLG c0 c1 c2 c3 c4 c5 c6 a b rawv rs 3 _ hG (by decide) (hR.up hA1) (fun w' h=>hmd w' (hA1.trans (h.mono hA1.size)))
 obtain ⟨ra,rn0,rc0,hra⟩:∃ a n c,rawv=.slice a n c:=by obtain ⟨⟨a,c,h,_⟩,_,_⟩:=hR;exact ⟨_,_,_,h⟩
 subst hra;have HSd:Hid (∀ (w':World) (va vr pv fv:Value) (m:Mo) (l:List (Int × Int)) (mm:Nat),Below w.heap.size w w'->KTaskOk m l mm->m.vars=[a,b]->TaskV w' va vr pv fv m zAH l->_):=fun w' va vr pv fv m l mm h hk hvars hv=>zHD m a b l mm w' (Nat.lt_of_lt_of_le hB h.size) (hT.below h hB) hG hvars hk va vr pv fv hv
 obtain ⟨lo,lc,rfl,_⟩:=id hN.v;have HWk:Hid (∀ (w':World) (va vr:Value) (m:Mo),Below w.heap.size w w'->mcode m=0->zAU w' va vr m->Calls Tryz.prog 5 #[.agg #[va,vr],.slice lo ns.length lc] w' (zFP w' m)):=fun w' va vr m h hm hv=>zOA va vr m lo ns.length lc ns w' (Nat.lt_of_lt_of_le hB h.size) (hT.below h hB) hv hm (hN.below h) rfl
 generalize ns.length=nn at *
 have HKe:Hid (∀ (w':World) (va vr pv fv sv lv:Value) (m:Mo) (l:List (Int × Int)) (mm:Nat) (T:Tm) (ss ll:List Int),Below w.heap.size w w'->TaskV w' va vr pv fv m zAH l->KTaskOk m l mm->FOk mm l T->zBM w' sv ss->zBM w' lv ll->ss.length <= 12->ll.length <= 12->zBb m ss ll=true->Calls Tryz.prog 7 #[.agg #[va,vr,pv,fv],.agg #[sv,lv]] w' fun e w2=>e=.returned (.tuple #[.bool (T.hb (sig (lets m zAH ss++lets m zAH ll) ss.length) 0),.int .i64 0])/\Below w'.heap.size w' w2):=fun w' va vr pv fv sv lv m l mm T ss ll h hV hK hF hS hL h1 h2 hr=>zNh va vr pv fv sv lv m zAH l ss ll T w' (Nat.lt_of_lt_of_le hB h.size) (hT.below h hB) hV hK.code hS hL h1 h2 hr hF.wf hF.ops
 have HLe:Hid (∀ (w':World) (va vr pv:Value) (m:Mo) (l:List (Int × Int)) (mm:Nat) (code:Int),Below w.heap.size w w'->zAU w' va vr m->zBB w' pv zAH->KTaskOk m l mm->0 <= code/\code < zAC m.vars m.vars.length->Calls Tryz.prog 8 #[.agg #[va,vr],pv,.int .i64 code] w' fun e w2=>∃ uo uc,e=.returned (.tuple #[.slice uo 3 uc,.int .i64 0])/\Below w'.heap.size w' w2/\Hid (zB2 w2 (.slice uo 3 uc) (zAG m zAH code))):=fun w' va vr pv m l mm code h hV hP hK hcr=>by
  obtain ⟨h1,h2⟩:=zFe hK.code hcr;refine (zEt va vr pv m zAH code w' (Nat.lt_of_lt_of_le hB h.size) (hT.below h hB) hV hP).mono fun e w2 ⟨v,g1,g2,g3,g4⟩=>?_
  obtain ⟨uo,uc,rfl,g5⟩:=id g3;refine ⟨uo,uc,by rw [g1,h1,h2];rfl,g2,?_⟩
  rw [h2] at g3 g4;exact ⟨g3,g4⟩
 have HCl:Hid (∀ (w':World) (fv sv lv:Value) (m:Mo) (l:List (Int × Int)) (mm:Nat) (T:Tm) (ss ll:List Int),Below w.heap.size w w'->zAX w' fv l->KTaskOk m l mm->FOk mm l T->zAN w' sv (lets m zAH ss)->zAN w' lv (lets m zAH ll)->ss.length <= 12->ll.length <= 12->zBb m ss ll=true->Calls Tryz.prog 9 #[fv,.agg #[sv,lv],.int .i64 3] w' fun e w2=>∃ rb,e=.returned (.tuple #[.slice (some ⟨rb,0,none⟩) (ss.length+ll.length) (ss.length+ll.length),.int .i64 0])/\Below w'.heap.size w' w2/\Hid (w2.rowIs rb 3 (ss.length+ll.length) (fun j=>.int .i64 (zIX m zAH l T ss ll j)))):=fun w' fv sv lv m l mm T ss ll h hO hK hF hS hL h1 h2 hr=>by
  have h9:=zL7 fv sv lv l (lets m zAH ss) (lets m zAH ll) 3 T w' (Nat.lt_of_lt_of_le hB h.size) (hT.below h hB) hO hS hL (zIL hK.code h1 h2 hr) hF.wf hF.ops;rw [zCS,zCS] at h9;exact h9
 obtain ⟨i0,hi,hz0,hz1,hz2⟩:=info_parts zBd;obtain ⟨i1,hi1,hy0,hy1,hy2⟩:=info_parts zDO;clear hmd hR hT hG hN
 go_enter Tryz.func3,Tryz.ntmps3
 go_upto_region 2 with (first | (go_at_call 4;refine htk.mono ?_;rintro e w1 ⟨ao,ac,ro,rn,rc,pb,fo,fn,fc,m,l,mm,rfl,hb1,HV,HK,hmm,hfn⟩))
 have hbw1:=hA1.trans (hb1.mono hA1.size);have hbA:Below w1.heap.size w1 (w1.alloc (.cells #[.slice ao 2 ac,.slice ro rn rc,.slice (some ⟨pb,0,none⟩) 3 3,.slice fo fn fc] 35)):=(Below.refl _ _).alloc (Nat.le_refl _) _;have hbw2:=hbw1.trans (hbA.mono hbw1.size)
 have HX2:Hid ((w1.alloc (.cells #[.slice ao 2 ac,.slice ro rn rc,.slice (some ⟨pb,0,none⟩) 3 3,.slice fo fn fc] 35)).heap[w1.heap.size]? = some (tkB (.slice ao 2 ac) (.slice ro rn rc) (.slice (some ⟨pb,0,none⟩) 3 3) (.slice fo fn fc))):=(MapKept.heap_alloc w1 _).1;have hV2:=HV.out.below hbA;obtain ⟨hok,hvars,_,_⟩:=HK.out;obtain ⟨T,hFT⟩:=hok.fo
 have HFT:Hid (FOk mm l T):=hFT;have HOk:Hid (KTaskOk m l mm):=hok;have hwk:=HWk.out _ _ _ m hbw2 hok.mo hV2.mo;have HV2:Hid (TaskV (w1.alloc (.cells #[.slice ao 2 ac,.slice ro rn rc,.slice (some ⟨pb,0,none⟩) 3 3,.slice fo fn fc] 35)) (.slice ao 2 ac) (.slice ro rn rc) (.slice (some ⟨pb,0,none⟩) 3 3) (.slice fo fn fc) m zAH l):=hV2
 have HVr:Hid (m.vars=[a,b]):=hvars;generalize w1.alloc (.cells #[.slice ao 2 ac,.slice ro rn rc,.slice (some ⟨pb,0,none⟩) 3 3,.slice fo fn fc] 35)=W2 at *;generalize w1.heap.size=X at *;obtain ⟨p0,p1,p2,p3⟩:=zDU HX2.out;clear hok hvars HK HV htk hV2 HWk hFT
 go_upto_region 3 with (first | (go_at_call 5;refine hwk.mono ?_;rintro e w3 ⟨so,sn,sc,lo,ln,lc,ss,ll,rfl,hb3,hle,HW⟩))
 have hbE:Below w3.heap.size w3 (w3.alloc (.cells #[.slice so sn sc,.slice lo ln lc] 38)):=(Below.refl _ _).alloc (Nat.le_refl _) _;have hb24:=hb3.trans (hbE.mono hb3.size);have hbw4:=hbw2.trans (hb24.mono hbw2.size)
 have HL4:Hid ((w3.alloc (.cells #[.slice so sn sc,.slice lo ln lc] 38)).heap[w3.heap.size]? = some (laB (.slice so sn sc) (.slice lo ln lc))):=(MapKept.heap_alloc w3 _).1
 have HW4:Hid (zBM (w3.alloc (.cells #[.slice so sn sc,.slice lo ln lc] 38)) (.slice so sn sc) ss/\zBM (w3.alloc (.cells #[.slice so sn sc,.slice lo ln lc] 38)) (.slice lo ln lc) ll/\ss.length=sn/\ll.length=ln/\(ln≠0->zBb m ss ll=true)):=⟨HW.out.1.below hbE,HW.out.2.1.below hbE,HW.out.2.2⟩;generalize w3.alloc (.cells #[.slice so sn sc,.slice lo ln lc] 38)=W4 at *
 generalize w3.heap.size=LL at *;have hsd:=HSd.out W4 _ _ _ _ m l mm hbw4 HOk.out HVr.out (HV2.out.below hb24);clear p0 p1 p2 p3 hwk HW HSd;obtain ⟨p0,p1,p2,p3⟩:=zDU (zBn hb24 HX2.out);generalize hbn0:(zAd m zAH l).length=bn at *;have HBn:Hid ((zAd m zAH l).length=bn):=hbn0;clear hbn0;generalize (zAA l).length=an at *
 go_upto_region 4 with (first | (go_at_call 6;refine hsd.mono ?_;rintro e w5 ⟨K,gs,gsc,gn,gnc,gt,gtc,rfl,hb5,hK2,HE⟩))
 have hbG:Below w5.heap.size w5 (w5.alloc (.cells #[.slice gs K gsc,.int .i64 (bn:Nat),.slice gn K gnc,.slice gt K gtc,.int .i64 (an:Nat)] 44)):=(Below.refl _ _).alloc (Nat.le_refl _) _;have hb46:=hb5.trans (hbG.mono hb5.size);have hb26:=hb24.trans (hb46.mono hb24.size);have hbw6:=hbw4.trans (hb46.mono hbw4.size)
 have HG6:Hid ((w5.alloc (.cells #[.slice gs K gsc,.int .i64 (bn:Nat),.slice gn K gnc,.slice gt K gtc,.int .i64 (an:Nat)] 44)).heap[w5.heap.size]? = some (grB (.slice gs K gsc) (.slice gn K gnc) (.slice gt K gtc) (bn:Nat) (an:Nat))):=(MapKept.heap_alloc w5 _).1
 have HE6:Hid (zCa m zAH l K/\(0 < K->∃ sb nb,gs=some ⟨sb,0,none⟩/\gn=some ⟨nb,0,none⟩/\RdG (w5.alloc (.cells #[.slice gs K gsc,.int .i64 (bn:Nat),.slice gn K gnc,.slice gt K gtc,.int .i64 (an:Nat)] 44)) m l K sb nb)):=⟨HE.out.1,fun h=>by obtain ⟨sb,nb,e1,e2,h3⟩:=HE.out.2 h;exact ⟨sb,nb,e1,e2,h3.below hbG⟩⟩
 generalize w5.alloc (.cells #[.slice gs K gsc,.int .i64 (bn:Nat),.slice gn K gnc,.slice gt K gtc,.int .i64 (an:Nat)] 44)=W6 at *;generalize w5.heap.size=G at *;clear hsd p0 p1 p2 p3 HE hbG hb5;obtain ⟨p0,p1,p2,p3⟩:=zDU (zBn hb26 HX2.out);obtain ⟨l0,l1⟩:=zEB (zBn hb46 HL4.out)
 by_cases h0:ln=0
 ·subst h0
  clear HX2 HL4 HW4 HG6 HE6 HKe HLe HCl HV2 HFT HOk
  go_wp2_with fail
  go_ret
  exact ⟨by first | rfl | simp,hbw6⟩
 ·have hrun:=HW4.out.2.2.2.2 h0
  have h0i:¬ (ln:Int)=0:=by omega
  have HRn:Hid (zBb m ss ll=true):=hrun;have hke:=HKe.out W6 _ _ _ _ _ _ m l mm T ss ll hbw6 (HV2.out.below hb26) HOk.out HFT.out (HW4.out.1.below hb46) (HW4.out.2.1.below hb46) (by have:=HW4.out.2.2.1;omega) (by have:=HW4.out.2.2.2.1;omega) hrun
  obtain ⟨kb,hkb⟩:∃ kb,kb=T.hb (sig (lets m zAH ss++lets m zAH ll) ss.length) 0:=⟨_,rfl⟩
  have HKb:Hid (kb=T.hb (sig (lets m zAH ss++lets m zAH ll) ss.length) 0):=hkb;rw [<- hkb] at hke;clear hkb hrun HKe
  go_upto_region 9 with (first | (go_at_call 7;refine hke.mono ?_;rintro e w7 ⟨rfl,hb7⟩))
  have hbw7:=hbw6.trans (hb7.mono hbw6.size);have hb27:=hb26.trans (hb7.mono hb26.size);have hb47:=hb46.trans (hb7.mono hb46.size);clear hke p0 p1 p2 p3 l0 l1
  go_upto_region 10 with fail
  have hbQ:Below w7.heap.size w7 (w7.alloc (.cells #[.slice none 0 0,.slice none 0 0] 52)):=(Below.refl _ _).alloc (Nat.le_refl _) _;have HQ8:Hid ((w7.alloc (.cells #[.slice none 0 0,.slice none 0 0] 52)).heap[w7.heap.size]? = some (.cells #[.slice none 0 0,.slice none 0 0] 52 (0,0))):=(MapKept.heap_alloc w7 _).1
  have hq8:w7.heap.size < (w7.alloc (.cells #[.slice none 0 0,.slice none 0 0] 52)).heap.size:=by simp
  have hbw8:=hbw7.trans (hbQ.mono hbw7.size);have hb28:=hb27.trans (hbQ.mono hb27.size);have hb48:=hb47.trans (hbQ.mono hb47.size);have hwQ:w.heap.size <= w7.heap.size:=hbw7.size;have h2Q:W2.heap.size <= w7.heap.size:=hb27.size;have h4Q:W4.heap.size <= w7.heap.size:=hb47.size;have h6Q:W6.heap.size <= w7.heap.size:=hb7.size
  generalize w7.alloc (.cells #[.slice none 0 0,.slice none 0 0] 52)=W8 at *;have hb68:Below W6.heap.size W6 W8:=hb7.trans (hbQ.mono hb7.size);generalize w7.heap.size=Q at *;obtain ⟨nm,hnm⟩:∃ nm,nm=sn+ln:=⟨_,rfl⟩
  have HNm:Hid (nm=sn+ln):=hnm;have hnm24:nm <= 12:=by omega
  have hnm1:1 <= nm:=by omega
  obtain ⟨sb0,lcell⟩:∃ x:Unit,True:=⟨(),trivial⟩
  have hS8:=HW4.out.1.below hb48;have hL8:=HW4.out.2.1.below hb48;have HLs:Hid (ss.length=sn/\ll.length=ln):=⟨HW4.out.2.2.1,HW4.out.2.2.2.1⟩;obtain ⟨lb,loff,rfl,hlcell⟩:=zFw hL8 HLs.out.2 (by omega)
  have HVc:Hid (∀ W:World,Below W8.heap.size W8 W->∀ (j:Nat) (u:Value),(zAE ll)[j]? = some u->W.cell? ((⟨lb,loff,none⟩:Addr).add j)=some u):=hlcell
  have HBx:Hid (∀ W:World,Below W8.heap.size W8 W->W.cell? ⟨LL,0,none⟩=some (.slice so sn sc)/\W.cell? ⟨LL,1,none⟩=some (.slice (some ⟨lb,loff,none⟩) ln lc)):=fun W h=>zEB (zBn (hb48.trans (h.mono hb48.size)) HL4.out)
  have HOu:Hid (∀ u∈zAE ss,u.oneCell'=true):=zE7 ss
  have HOv:Hid (∀ u∈zAE ll,u.oneCell'=true):=zE7 ll
  have HUl:Hid ((zAE ss).length=sn*1):=by show _=_;simp [zAE,HLs.out.1]
  have HVl:Hid ((zAE ll).length=ln*1):=by show _=_;simp [zAE,HLs.out.2]
  have HEnd:Hid (∀ (W:World) (g cp:Nat),W.ownsRow W8.heap.size 3 1 (.slice (some ⟨g,0,none⟩) nm cp) nm (zAE ss++zAE ll)->g < W.heap.size/\W8.heap.size <= g/\zBJ W g 0 (ss++ll)):=fun W g cp ho=>by
   rw [show zAE ss++zAE ll=zAE (ss++ll) by simp [zAE]] at ho
   obtain ⟨_,h2,h3⟩:=zFH ho (by rw [List.length_append,HLs.out.1,HLs.out.2];exact HNm.out.symm) hnm1
   exact ⟨h2,(ho.lt g rfl).1,h3⟩
  have hb0:Below W8.heap.size W8 W8.drew:=(Below.refl _ _).drew;have tk1:=True.intro;have tk2:=True.intro
  go_cut [15] (fun u wx=>∃ g cp,u=.slice (some ⟨g,0,none⟩) nm cp/\Hid (g < wx.heap.size/\W8.heap.size <= g/\zBJ wx g 0 (ss++ll))/\Hid (Below W8.heap.size W8 wx))
  case first=>
   clear hlcell hnm
   by_cases hz:0 < sn
   ·obtain ⟨sb,soff,rfl,hscell⟩:=zFw hS8 HLs.out.1 hz
    have HUc:Hid (∀ W:World,Below W8.heap.size W8 W->∀ (j:Nat) (u:Value),(zAE ss)[j]? = some u->W.cell? ((⟨sb,soff,none⟩:Addr).add j)=some u):=hscell
    clear hscell hS8 hL8
    go_region_held3 (fun W=>W.cell? ⟨LL,0,none⟩=some (.slice (some ⟨sb,soff,none⟩) sn sc)/\W.cell? ⟨LL,1,none⟩=some (.slice (some ⟨lb,loff,none⟩) ln lc))
     (exact HBx.out _ (by first | exact hbB | exact hbA | exact hb0 | exact Below.refl _ _))
     (first
      | (clear tk1;refine step_append_lies _ (by rfl) (.const (.slice none 0 0)) (.tmp 60) 27 (by rfl) W8.heap.size 3 i0 _ 1 8 Tryz.underlying27 hi hz0 hz1 hz2 (by rfl) (by decide) (.slice none 0 0) 0 [] (by rfl) (World.ownsRow_nil _ _ _ _) ⟨sb,soff,none⟩ sn sc (zAE ss) (by rfl) HUl.out (HUc.out _ (by first | exact hb0 | exact Below.refl _ _)) HOu.out hz (by unfold maxLen;omega) (by omega) (Nat.le_refl _) _ rfl ?_;intro gA capA wA howA hgrA hatA hltA;have hbA:Below W8.heap.size W8 wA:=Below.grown (by first | exact hb0 | exact Below.refl _ _) hgrA (Nat.le_refl _) (fun z hz=>by cases hz);rw [Nat.zero_add,List.nil_append] at howA;have hwA:=hbA.size)
      | (clear tk2;refine step_append_lies _ (by rfl) (.tmp 61) (.tmp 63) 27 (by rfl) W8.heap.size 3 i0 _ 1 8 Tryz.underlying27 hi hz0 hz1 hz2 (by rfl) (by decide) (.slice (some ⟨gA,0,none⟩) sn capA) sn (zAE ss) (by first | rfl | (show Value.slice (some ⟨gA,0,none⟩) (0+sn) capA=_;rw [Nat.zero_add])) howA ⟨lb,loff,none⟩ ln lc (zAE ll) (by rfl) HVl.out (HVc.out _ hbA) HOv.out (by omega) (by unfold maxLen;omega) (by omega) hwA _ rfl ?_;intro gB capB wB howB hgrB hatB hltB;have hbB:Below W8.heap.size W8 wB:=Below.grown hbA hgrB hwA (fun z hz=>(howA.lt z hz).1);rw [<- HNm.out] at howB))
    all_goals go_wp2_with fail
    all_goals go_meet
    all_goals exact ⟨gB,capB,by rw [HNm.out],HEnd.out _ _ _ howB,hbB⟩
   ·obtain rfl:sn=0:=by omega
    have hu0:ss=[]:=List.length_eq_zero_iff.1 HLs.out.1;clear hS8 hL8
    go_region_held3 (fun W=>W.cell? ⟨LL,0,none⟩=some (.slice so 0 sc)/\W.cell? ⟨LL,1,none⟩=some (.slice (some ⟨lb,loff,none⟩) ln lc))
     (exact HBx.out _ (by first | exact hbB | exact hb0 | exact Below.refl _ _))
     (first
      | (clear tk1;refine zLl rfl (.tmp 60) 27 rfl 3 i0 Tryz.underlying27 hi so sc (by rfl) ?_)
      | (clear tk2;refine step_append_lies _ rfl (.tmp 61) (.tmp 63) 27 rfl W8.heap.size 3 i0 _ 1 8 Tryz.underlying27 hi hz0 hz1 hz2 (by rfl) (by decide) (.slice none 0 0) 0 [] (by rfl) (World.ownsRow_nil _ _ _ _) ⟨lb,loff,none⟩ ln lc (zAE ll) (by rfl) HVl.out (HVc.out _ (by first | exact hb0 | exact Below.refl _ _)) HOv.out (by omega) (by unfold maxLen;omega) (by omega) (Nat.le_refl _) _ rfl ?_;intro gB capB wB howB hgrB hatB hltB;have hbB:Below W8.heap.size W8 wB:=Below.grown (by first | exact hb0 | exact Below.refl _ _) hgrB (Nat.le_refl _) (fun z hz=>by cases hz);rw [<- HNm.out,List.nil_append] at howB))
    all_goals go_wp2_with fail
    all_goals go_meet
    all_goals exact ⟨gB,capB,by have h9:=HNm.out;congr 1;omega,HEnd.out _ _ _ (by rw [hu0];exact howB),hbB⟩
  case rest=>
   obtain ⟨gS,cpS,rfl,HSt,HB9⟩:=hcut;obtain ⟨W9,rfl⟩:∃ w4,w4=wc:=⟨_,rfl⟩
   have HQ9:Hid (W9.heap[Q]? = some (.cells #[.slice none 0 0,.slice none 0 0] 52 (0,0))):=(HB9.out.block Q hq8).trans HQ8.out;have hb9s:=HB9.out.size
   have HRd:Hid (∀ wr,Exc Q W9 wr->Below w.heap.size w wr/\Below W2.heap.size W2 wr/\Below W4.heap.size W4 wr/\Below W6.heap.size W6 wr):=fun wr h=>⟨h.to (hbw8.trans (HB9.out.mono hbw8.size)) hwQ (by omega),h.to (hb28.trans (HB9.out.mono hb28.size)) h2Q (by omega),h.to (hb48.trans (HB9.out.mono hb48.size)) h4Q (by omega),h.to (hb68.trans (HB9.out.mono hb68.size)) h6Q (by omega)⟩
   have HSr:Hid (∀ wr,Exc Q W9 wr->∀ i,i < nm->wr.cell? ⟨gS,i,none⟩=some (.int .i64 ((ss++ll).getD i 0))):=fun wr h i hi=>by
    have h1:=HSt.out.2.2 i (by rw [List.length_append,HLs.out.1,HLs.out.2];have:=HNm.out;omega)
    rw [Nat.zero_add] at h1;exact h.cell h1 (by have:=HSt.out.2.1;omega)
   have HSg:Hid (∀ i,i < nm->0 <= (ss++ll).getD i 0/\(ss++ll).getD i 0 < zAC m.vars m.vars.length):=fun i hi=>by
    obtain ⟨r1,r2⟩:=zD1 HRn.out
    by_cases his:i < ss.length
    ·rw [zCP his];exact r1 i his
    ·have h1:=zCf (x:=ss) (y:=ll) (i - ss.length)
     rw [show ss.length+(i - ss.length)=i by omega] at h1
     rw [h1];exact r2 _ (by have:=HNm.out;have:=HLs.out;omega)
   have HJ0:Hid (WyJ m ss ll Q W9 W9 0):=⟨none,0,0,none,0,0,HQ9.out,Exc.refl,.inl ⟨Nat.zero_le _,rfl,zDY.nil,rfl,rfl,rfl⟩⟩;clear HQ8 HQ9 hS8 hL8 hlcell HVc HOu HOv HUl HVl HEnd hb0 tk1 tk2 hnm HSt
   go_upto_region 12 with fail
   go_loopw [16] (fun iv wr=>∃ k:Nat,k <= nm/\iv=.int .i64 (k:Int)/\Hid (WyJ m ss ll Q W9 wr k)) (fun iv _=>nm - (intOf iv).toNat)
   case atStart=>exact ⟨0,Nat.zero_le _,rfl,HJ0.out⟩
   case round=>
    obtain ⟨k,hk,rfl,HJ⟩:=hrel
    by_cases hkn:k < nm
    ·have hki:(k:Int) < (nm:Int):=by omega
     obtain ⟨ao1,an1,ac1,bo1,bn1,bc1,hq1,hexc,hph⟩:=HJ.out;have HQr:Hid (wr.heap[Q]? = some (.cells #[.slice ao1 an1 ac1,.slice bo1 bn1 bc1] 52 (0,0))):=hq1;have HEx:Hid (Exc Q W9 wr):=hexc;have HPh:=(show Hid _ from hph)
     obtain ⟨hbwr,hb2r,hb4r,hb6r⟩:=HRd.out wr hexc;have hle:=HLe.out wr _ _ _ m l mm _ hbwr (HV2.out.mo.below hb2r) (HV2.out.ps.below hb2r) HOk.out (HSg.out k hkn)
     have HBoxR:Hid (∀ W,Below wr.heap.size wr W->(W.cell? ⟨X,0,none⟩=some (.slice ao 2 ac)/\W.cell? ⟨X,1,none⟩=some (.slice ro rn rc)/\W.cell? ⟨X,2,none⟩=some (.slice (some ⟨pb,0,none⟩) 3 3))/\W.cell? ⟨gS,k,none⟩=some (.int .i64 ((ss++ll).getD k 0))):=fun W h=>by
      obtain ⟨t0,t1,t2,_⟩:=zDU (zBn (hb2r.trans (h.mono hb2r.size)) HX2.out);exact ⟨⟨t0,t1,t2⟩,zD3 h (HSr.out wr HEx.out k hkn)⟩
     have HLeD:Hid (∀ W,Below wr.heap.size wr W->Calls Tryz.prog 8 #[.agg #[.slice ao 2 ac,.slice ro rn rc],.slice (some ⟨pb,0,none⟩) 3 3,.int .i64 ((ss++ll).getD k 0)] W fun e w2=>∃ uo uc,e=.returned (.tuple #[.slice uo 3 uc,.int .i64 0])/\Below W.heap.size W w2/\Hid (zB2 w2 (.slice uo 3 uc) (zAG m zAH ((ss++ll).getD k 0)))):=fun W h=>HLe.out W _ _ _ m l mm _ (hbwr.trans (h.mono hbwr.size)) (HV2.out.mo.below (hb2r.trans (h.mono hb2r.size))) (HV2.out.ps.below (hb2r.trans (h.mono hb2r.size))) HOk.out (HSg.out k hkn)
     have hbd:Below wr.heap.size wr wr.drew:=(Below.refl _ _).drew;clear hq1 hexc hph HJ hle
     go_upto_region 14 with fail
     go_cut [17,18] (fun u v wx=>∃ uo uc,u=.slice uo 3 uc/\v=.int .i64 0/\Hid (Below wr.heap.size wr wx/\zB2 wx (.slice uo 3 uc) (zAG m zAH ((ss++ll).getD k 0))))
     case first=>
      generalize (ss++ll).getD k 0=cc at *
      go_region_held3 (fun W=>(W.cell? ⟨X,0,none⟩=some (.slice ao 2 ac)/\W.cell? ⟨X,1,none⟩=some (.slice ro rn rc)/\W.cell? ⟨X,2,none⟩=some (.slice (some ⟨pb,0,none⟩) 3 3))/\W.cell? ⟨gS,k,none⟩=some (.int .i64 cc))
       (exact HBoxR.out _ (by first | exact hbE1 | exact hbd | exact Below.refl _ _))
       (first | (go_simp;go_at_call 8;refine (HLeD.out _ (by first | exact hbd | exact Below.refl _ _)).mono ?_;rintro e w2 ⟨uo,uc,rfl,hbx,HBt⟩;have hbE1:Below wr.heap.size wr w2:=(by first | exact hbd.trans hbx | exact hbx)))
      all_goals go_wp2_with fail
      all_goals go_meet
      all_goals exact ⟨uo,uc,rfl,rfl,hbE1,HBt.out⟩
     case rest=>
      obtain ⟨uo,uc,rfl,rfl,HLt⟩:=hcut;obtain ⟨W10,rfl⟩:∃ w4,w4=wc:=⟨_,rfl⟩
      have hbx:=HLt.out.1;have HLL:=zBn (hb4r.trans (hbx.mono hb4r.size)) HL4.out;obtain ⟨l0,l1⟩:=zEB HLL;have HQx:=zBn hbx HQr.out;obtain ⟨q0,q1,f0,f1⟩:=zD8 HQx;have hqlt:Q < W10.heap.size:=(Array.getElem?_eq_some_iff.1 HQx).1
      have hneQ:¬ Q=W10.heap.size:=by omega
      have hllt:LL < W10.heap.size:=(Array.getElem?_eq_some_iff.1 HLL).1
      have hneL:¬ LL=W10.heap.size:=by omega
      have hx9:W9.heap.size <= W10.heap.size:=Nat.le_trans HEx.out.size hbx.size;have hQ9:Q < W9.heap.size:=by omega
      have hssn:=HLs.out.1;have hlln:=HLs.out.2;clear hbd HLeD HBoxR HLL HQx
      by_cases hkS:k < sn
      ·have hkSi:(k:Int) < (sn:Int):=by omega
       obtain ⟨_,ean,hLt,rfl,rfl,rfl⟩:=HPh.out.resolve_right (by intro h;have:=h.1;omega)
       subst ean;obtain ⟨us,hu1,hu2,hu3⟩:=hLt.below hbx;have HU3:=(show Hid _ from hu3)
       have h24:(an1+1)*24 <= 140737488355328:=by omega
       have h63:an1+1 <= maxLen:=by unfold maxLen;omega
       clear hu3 hLt;have tk1:=True.intro
       go_wp2_with (first | (clear tk1;at_builtin;refine wpList_append_lies _ rfl (.tmp 91) (.tmp 93) 50 (by rfl) W9.heap.size 53 i1 _ 1 24 Tryz.underlying50 hi1 hy0 hy1 hy2 (by rfl) (by decide) (.slice ao1 an1 ac1) an1 us (by rfl) (hu2.alloc _) ⟨W10.heap.size,0,none⟩ 1 1 [.slice uo 3 uc] (by rfl) (by rfl) (cell_one_new _ _ _) (by intro u hu;simp at hu;subst hu;rfl) (by decide) h63 h24 (by show W9.heap.size <= (W10.alloc _).heap.size;simp;omega) _ rfl ?_;intro xb xc2 w2 ho2 hg2 _ _;obtain ⟨d0,_,y0,_⟩:=zD8 ((zFn HEx.out hbx hQ9 (Nat.le_refl _) hx9 hx9 hu2 hg2 (Nat.lt_of_lt_of_le hQ9 HEx.out.size)).1.trans HQr.out)))
       all_goals go_roundw
       case rel=>exact ⟨an1+1,by omega,by go_num,WyJ.stem HQr.out HEx.out (by omega) hbx (by have h9:=HLt.out.2;rw [zCP (by omega)] at h9;exact h9) hu1 hu2 HU3.out hg2 ho2 hQ9⟩
       case measure=>simp [intOf];omega
      ·have hkSi:¬ (k:Int) < (sn:Int):=by omega
       obtain ⟨ean,ek,hLt,wS,h91,h92,hsb,hLl⟩:=zJ0 HPh.out (by omega) HEx.out.size
       subst ean;have HLt2:=(show Hid _ from hLt)
       have HSb:=(show Hid _ from hsb)
       obtain ⟨us,hu1,hu2,hu3⟩:=hLl.below hbx;have HU3:=(show Hid _ from hu3)
       have h24:(bn1+1)*24 <= 140737488355328:=by omega
       have h63:bn1+1 <= maxLen:=by unfold maxLen;omega
       have hxS:wS.heap.size <= W10.heap.size:=Nat.le_trans h92 hbx.size;have hQS:Q < wS.heap.size:=by omega
       clear hu3 hLt hsb hLl;have tk1:=True.intro
       go_wp2_with (first | (clear tk1;at_builtin;refine wpList_append_lies _ rfl (.tmp 97) (.tmp 99) 50 (by rfl) wS.heap.size 53 i1 _ 1 24 Tryz.underlying50 hi1 hy0 hy1 hy2 (by rfl) (by decide) (.slice bo1 bn1 bc1) bn1 us (by rfl) (hu2.alloc _) ⟨W10.heap.size,0,none⟩ 1 1 [.slice uo 3 uc] (by rfl) (by rfl) (cell_one_new _ _ _) (by intro u hu;simp at hu;subst hu;rfl) (by decide) h63 h24 (by show wS.heap.size <= (W10.alloc _).heap.size;simp;omega) _ rfl ?_;intro xb xc2 w2 ho2 hg2 _ _;obtain ⟨_,d1,_,y1⟩:=zD8 ((zFn HEx.out hbx hQS h91 hxS hx9 hu2 hg2 (Nat.lt_of_lt_of_le hQ9 HEx.out.size)).1.trans HQr.out)))
       all_goals go_roundw
       case rel=>exact ⟨ss.length+bn1+1,by omega,by first | go_num | (congr 1;omega),WyJ.loop HQr.out HEx.out hbx (by have h9:=HLt.out.2;rw [ek,zCf] at h9;exact h9) h91 h92 HSb.out HLt2.out hu1 hu2 HU3.out hg2 ho2 hQ9⟩
       case measure=>simp [intOf];omega
    ·obtain rfl:k=nm:=by omega
     have hki:¬ (k:Int) < (k:Int):=by omega
     obtain ⟨ao1,an1,ac1,bo1,bn1,bc1,hq1,hexc,hph⟩:=HJ.out;obtain ⟨ean,ek,hLt,wS,_,_,_,hLl⟩:=zJ0 hph (by have:=HLs.out;have:=HNm.out;omega) hexc.size
     obtain rfl:bn1=ll.length:=by have:=HLs.out;have:=HNm.out;omega
     subst ean;obtain ⟨hbwr,hb2r,hb4r,hb6r⟩:=HRd.out wr hexc;have hcl:=HCl.out wr _ _ _ m l mm T ss ll hbwr (HV2.out.fo.below hb2r) HOk.out HFT.out hLt.done hLl.done (by have:=HLs.out;omega) (by have:=HLs.out;omega) HRn.out
     obtain ⟨t0,t1,t2,t3⟩:=zDU (zBn hb2r HX2.out);obtain ⟨q0,q1,f0,f1⟩:=zD8 hq1;have HEx:Hid (Exc Q W9 wr):=hexc;rw [<- ek] at hcl;have HEk:Hid (k=ss.length+ll.length):=ek;clear ek;clear hLt hLl hph hq1 hexc hbwr
     go_upto_region 21 with (first | (go_at_call 9;refine hcl.mono ?_;rintro e w11 ⟨rb,rfl,hb11,HRb⟩))
     obtain ⟨W11,rfl⟩:∃ w4,w4=w11:=⟨_,rfl⟩
     have hb211:=hb2r.trans (hb11.mono hb2r.size);have hb411:=hb4r.trans (hb11.mono hb4r.size);have hb611:=hb6r.trans (hb11.mono hb6r.size);have hbw11:=hbw2.trans (hb211.mono hbw2.size)
     have HRc:Hid (∀ W,Below W11.heap.size W11 W->(∀ i,i < k->W.cell? ⟨gS,i,none⟩=some (.int .i64 ((ss++ll).getD i 0))/\W.cell? ⟨rb,i,none⟩=some (.int .i64 (zIX m zAH l T ss ll i)))/\W.cell? ⟨LL,0,none⟩=some (.slice so sn sc)/\(W.cell? ⟨G,0,none⟩=some (.slice gs K gsc)/\W.cell? ⟨G,1,none⟩=some (.int .i64 (bn:Nat))/\W.cell? ⟨G,2,none⟩=some (.slice gn K gnc))/\(0 < K->∃ sb nb,gs=some ⟨sb,0,none⟩/\gn=some ⟨nb,0,none⟩/\RdG W m l K sb nb)):=fun W h=>by
      refine ⟨fun i hi=>⟨zD3 h (zD3 hb11 (HSr.out wr HEx.out i hi)),?_⟩,(zEB (zBn (hb411.trans (h.mono hb411.size)) HL4.out)).1,?_,fun hK=>?_⟩
      ·exact zD3 h (HRb.out.cell hi)
      ·obtain ⟨g0,g1,g2,_⟩:=zFJ (zBn (hb611.trans (h.mono hb611.size)) HG6.out)
       exact ⟨g0,g1,g2⟩
      ·obtain ⟨sb,nb,e1,e2,h3⟩:=HE6.out.2 hK
       exact ⟨sb,nb,e1,e2,h3.below (hb611.trans (h.mono hb611.size))⟩
     clear hb2r hb4r hb6r hcl t0 t1 t2 t3 q0 q1 f0 f1
     cases kb with
     | true=>
      go_wp2_with fail
      go_ret
      exact ⟨by first | rfl | simp,hbw11⟩
     | false=>
      obtain ⟨x,hx⟩:=zPY HFT.out.wf HFT.out.ops (HFT.out.ends (by have:=HOk.out.len;omega)) (zHo HFT.out).1 (zHo HFT.out).2 HOk.out.code HE6.out.1 HRn.out HKb.out.symm
      have HX:Hid (ClWay m zAH l K T ss ll x):=hx;have HAl:Hid ((ss++ll).length=k):=by show _=_;rw [List.length_append];exact HEk.out.symm
      have hK0:0 < K:=Nat.lt_of_le_of_lt (Nat.zero_le _) (hx.lt 0 (by rw [HAl.out];omega))
      obtain ⟨sb,nb,rfl,rfl,_⟩:=HE6.out.2 hK0
      have HRg:Hid (∀ W,Below W11.heap.size W11 W->RdG W m l K sb nb):=fun W h=>by
       obtain ⟨sb',nb',e1,e2,h3⟩:=(HRc.out W h).2.2.2 hK0
       injection e1 with e1
       injection e2 with e2
       injection e1 with e1 _ _
       injection e2 with e2 _ _
       subst e1;subst e2;exact h3
      have hsk:sn < k:=by have:=HNm.out;omega
      have HB0:Hid (Below W11.heap.size W11 W11):=Below.refl _ _;clear hx hki
      go_upto_region 27 with fail
      go_loopw [21,22] (fun av iv wr=>∃ i:Nat,i <= k+1/\iv=.int .i64 (i:Int)/\av=.int .i64 (if i=0 then -1 else if i=k+1 then ((x.getD sn 0:Nat):Int) else ((x.getD (i - 1) 0:Nat):Int))/\Hid (Below W11.heap.size W11 wr)) (fun _ iv _=>k+1 - (intOf iv).toNat)
      case atStart=>exact ⟨0,Nat.zero_le _,rfl,rfl,HB0.out⟩
      case round=>
       obtain ⟨i,hi1,rfl,rfl,HBr⟩:=hrel
       by_cases hik:i <= k
       ·have hiki:(i:Int) <= (k:Int):=by omega
        obtain ⟨at0,hat0⟩:∃ z:Int,z=if i=0 then -1 else if i=k+1 then ((x.getD sn 0:Nat):Int) else ((x.getD (i - 1) 0:Nat):Int):=⟨_,rfl⟩
        have HAt0:=(show Hid _ from hat0)
        rw [<- hat0];clear hat0;obtain ⟨kk,hkk⟩:∃ kk,kk=if i=k then sn else i:=⟨_,rfl⟩
        have HKk:=(show Hid _ from hkk)
        have hkkk:kk < k:=by rw [hkk];split <;> omega
        clear hkk;obtain ⟨l0,g0,g1,g2⟩:wr.cell? ⟨LL,0,none⟩=some (.slice so sn sc)/\wr.cell? ⟨G,0,none⟩=some (.slice (some ⟨sb,0,none⟩) K gsc)/\wr.cell? ⟨G,1,none⟩=some (.int .i64 (bn:Nat))/\wr.cell? ⟨G,2,none⟩=some (.slice (some ⟨nb,0,none⟩) K gnc):=⟨(HRc.out wr HBr.out).2.1,(HRc.out wr HBr.out).2.2.1⟩
        go_upto_if 133 with fail
        go_cut [23] (fun u wx=>u=.int .i64 (kk:Int)/\wx=wr)
        case first=>
         by_cases hie:i=k
         ·have hiei:(i:Int)=(k:Int):=by omega
          have e9:kk=sn:=by rw [HKk.out,if_pos hie]
          go_wp2_with fail
          all_goals go_meet
          all_goals exact ⟨by rw [e9],rfl⟩
         ·have hiei:¬ (i:Int)=(k:Int):=by omega
          have e9:kk=i:=by rw [HKk.out,if_neg hie]
          go_wp2_with fail
          all_goals go_meet
          all_goals exact ⟨by rw [e9],rfl⟩
        case rest=>
         obtain ⟨rfl,rfl⟩:=hcut
         go_upto_region 34 with fail
         obtain ⟨y,hy⟩:∃ y,y=x.getD kk 0:=⟨_,rfl⟩
         have HY:Hid (y=x.getD kk 0):=hy;clear hy;have hyK:y < K:=by rw [HY.out];exact HX.out.lt kk (by rw [HAl.out];exact hkkk)
         have HSp:Hid (∀ j,j < K->(spA m zAH l K j=((ss++ll).getD kk 0,zIX m zAH l T ss ll kk)↔j=y)):=fun j hj=>by
          have h1:=HX.out.spot kk (by rw [HAl.out];exact hkkk)
          rw [<- HY.out] at h1;rw [<- h1];exact ⟨fun e=>zOy HE6.out.1 hj hyK e,fun e=>by rw [e]⟩
         go_loopw [24,25] (fun tv jv wz=>∃ j:Nat,j <= K/\jv=.int .i64 (j:Int)/\tv=.int .i64 (if y < j then (y:Int) else -1)/\Hid (Below W11.heap.size W11 wz)) (fun _ jv _=>K - (intOf jv).toNat)
         case atStart=>exact ⟨0,Nat.zero_le _,rfl,by rw [if_neg (by omega)],HBr.out⟩
         case round=>
          obtain ⟨j,hj1,rfl,rfl,HBz⟩:=hrel;obtain ⟨tv0,htv0⟩:∃ z:Int,z=if y < j then (y:Int) else -1:=⟨_,rfl⟩
          have HTv:=(show Hid _ from htv0)
          rw [<- htv0];clear htv0 l0 g0 g1 g2;obtain ⟨g0,g1,g2⟩:=(HRc.out wr HBz.out).2.2.1
          by_cases hjK:j < K
          ·have hjKi:(j:Int) < (K:Int):=by omega
           obtain ⟨s1,s2⟩:=(HRg.out wr HBz.out).spot j hjK;obtain ⟨c1,c2⟩:=(HRc.out wr HBz.out).1 kk hkkk;have HSj:=(show Hid _ from HSp.out j hjK)
           have hkki:(kk:Int) < (k:Int):=by omega
           generalize (ss++ll).getD kk 0=cs at *;generalize zIX m zAH l T ss ll kk=cl at *;generalize spA m zAH l K j=sp at *;obtain ⟨sA,sB⟩:=sp;simp only at s1 s2
           by_cases hjy:j=y
           ·have e9:=HSj.out.2 hjy
            injection e9 with e91 e92
            subst e91 e92;have HTn:Hid ((j:Int)=if y < j+1 then (y:Int) else -1):=by show _=_;rw [if_pos (by omega),hjy]
            clear hjy HSj
            go_wp2_with fail
            go_quiet (fail)
            all_goals go_wp2_with fail
            all_goals go_roundw
            case rel=>exact ⟨j+1,by omega,by go_num,by rw [<- HTn.out],⟨HBz.out.os,HBz.out.tape,HBz.out.output,HBz.out.size,HBz.out.block⟩⟩
            case measure=>simp [intOf];omega
           ·have hne:¬ (sA=cs/\sB=cl):=fun h=>hjy (HSj.out.1 (by rw [h.1,h.2]))
            have HTn:Hid (tv0=if y < j+1 then (y:Int) else -1):=by
             show _=_
             rw [HTv.out]
             by_cases h:y < j
             ·rw [if_pos h,if_pos (by omega)]
             ·rw [if_neg h,if_neg (by omega)]
            clear hjy HSj
            go_wp2_with fail
            by_cases hA:sA=cs
            ·subst hA
             have hne2:¬ sB=cl:=fun h=>hne ⟨rfl,h⟩
             clear hne
             go_quiet (fail)
             all_goals go_wp2_with fail
             all_goals go_roundw
             case rel=>exact ⟨j+1,by omega,by go_num,by rw [<- HTn.out],⟨HBz.out.os,HBz.out.tape,HBz.out.output,HBz.out.size,HBz.out.block⟩⟩
             case measure=>simp [intOf];omega
            ·clear hne
             go_quiet (fail)
             all_goals go_wp2_with fail
             all_goals go_roundw
             case rel=>exact ⟨j+1,by omega,by go_num,by rw [<- HTn.out],⟨HBz.out.os,HBz.out.tape,HBz.out.output,HBz.out.size,HBz.out.block⟩⟩
             case measure=>simp [intOf];omega
          ·obtain rfl:K=j:=by omega
           have e9:tv0=(y:Int):=by rw [HTv.out,if_pos hyK]
           subst e9;have hy0:¬ (y:Int) < 0:=by omega
           clear HTv
           by_cases hi0:i=0
           ·subst hi0
            have e8:kk=0:=by rw [HKk.out,if_neg (by omega)]
            have hyb:¬ (bn:Int) <= (y:Int):=by
             have h1:=HX.out.first;rw [HBn.out] at h1;have h2:y=x.getD 0 0:=by rw [HY.out,e8]
             omega
            go_wp2_with fail
            go_loopw [26,27] (fun ov sv wz=>ov=.bool true/\sv=.int .i64 0/\Hid (Below W11.heap.size W11 wz)) (fun _ _ _=>0)
            case atStart=>exact ⟨rfl,rfl,HBz.out⟩
            case round=>
             obtain ⟨rfl,rfl,HBy⟩:=hrel
             go_wp2_with fail
             go_roundw
             case rel=>exact ⟨1,by omega,rfl,by rw [if_neg (by omega),if_neg (by omega),HY.out,e8],HBy.out⟩
             case measure=>simp [intOf]
           ·have hi0i:¬ (i:Int)=0:=by omega
            have hi0p:(0:Int) < (i:Int):=by omega
            have e7:at0=((x.getD (i - 1) 0:Nat):Int):=by rw [HAt0.out,if_neg hi0,if_neg (by omega)]
            obtain ⟨a0,ha0⟩:∃ a0,a0=x.getD (i - 1) 0:=⟨_,rfl⟩
            rw [<- ha0] at e7;subst e7;have haK:a0 < K:=by rw [ha0];exact HX.out.lt _ (by rw [HAl.out];omega)
            have hmem:y∈nxt (zCF m zAH l K) a0:=by
             rw [HY.out,ha0]
             by_cases hik2:i=k
             ·have h1:=HX.out.last
              rw [HAl.out,HLs.out.1] at h1;rw [HKk.out,if_pos hik2,hik2];exact h1
             ·have h1:=HX.out.step (i - 1) (by rw [HAl.out];omega)
              rw [HKk.out,if_neg hik2];rw [show i - 1+1=i by omega] at h1
              exact h1
            have haKi:(a0:Int) < (K:Int):=by omega
            obtain ⟨uo,uc,n0,hrow⟩:=(HRg.out wr HBz.out).next a0 haK;obtain ⟨nx,hnx⟩:∃ nx,nx=nxt (zCF m zAH l K) a0:=⟨_,rfl⟩
            have HMem:Hid (y∈nx):=by rw [hnx];exact hmem
            have HNx:Hid (∀ wz,Below W11.heap.size W11 wz->(wz.cell? ⟨G,2,none⟩=some (.slice (some ⟨nb,0,none⟩) K gnc))/\∃ uo uc,wz.cell? ⟨nb,a0,none⟩=some (.slice uo nx.length uc)/\∀ j,j < nx.length->∃ ub uf,uo=some ⟨ub,uf,none⟩/\wz.cell? ⟨ub,uf+j,none⟩=some (.int .i64 (nx.getD j 0:Nat))):=fun wz h=>by
             rw [hnx];exact ⟨(HRc.out wz h).2.2.1.2.2,(HRg.out wz h).next a0 haK⟩
            have hnl:nx.length <= 262144:=by
             have hD:=HE6.out.1;have h1:(nxt (zCF m zAH l K) a0).length=((xpN m zAH l K).getD a0 []).length:=List.length_map _;rw [hnx,h1,(zHB hD haK).1];have hk0:=HOk.out.code;refine zJA (zBA (zAx hk0).1).1 ?_ (zAl (zAx hk0).2).2.2.2.2
             refine (hD.2.2.2 _ ?_).1
             rw [List.getD_eq_getElem?_getD,List.getElem?_eq_getElem (by rw [hD.1];exact haK)]
             exact List.getElem_mem _
            clear hnx hmem n0 hrow ha0;generalize hln:nx.length=lq at *;have HLn:Hid (nx.length=lq):=hln;clear hln
            go_wp2_with fail
            go_loopw [26,27] (fun ov sv wz=>∃ e:Nat,e <= lq/\sv=.int .i64 (e:Int)/\ov=.bool (decide (y∈nx.take e))/\Hid (Below W11.heap.size W11 wz)) (fun _ sv _=>lq - (intOf sv).toNat)
            case atStart=>exact ⟨0,Nat.zero_le _,rfl,by simp [hi0],HBz.out⟩
            case round=>
             obtain ⟨e,he,rfl,rfl,HBy⟩:=hrel;obtain ⟨g2,uo,uc,n0,hrow⟩:=HNx.out wr HBy.out
             by_cases hel:e < lq
             ·have heli:(e:Int) < (lq:Int):=by omega
              obtain ⟨ub,uf,rfl,n1⟩:=hrow e hel;obtain ⟨z,hz⟩:∃ z,z=nx.getD e 0:=⟨_,rfl⟩
              rw [<- hz] at n1
              have HT:Hid (nx.take (e+1)=nx.take e++[z]):=by
               show _=_
               rw [List.take_add_one,List.getElem?_eq_getElem (by rw [HLn.out];exact hel),hz,List.getD_eq_getElem?_getD,List.getElem?_eq_getElem (by rw [HLn.out];exact hel)]
               rfl
              obtain ⟨ob,hob⟩:∃ ob,ob=decide (y∈nx.take e):=⟨_,rfl⟩
              have HOb:Hid (ob=decide (y∈nx.take e)):=hob;rw [<- hob];clear hob hz hrow
              cases ob with
              | true=>
               go_wp2_with fail
               go_roundw
               case rel=>exact ⟨e+1,by omega,by go_num,by congr 1;rw [HT.out];have h1:=of_decide_eq_true HOb.out.symm;simp [h1],HBy.out⟩
               case measure=>simp [intOf];omega
              | false=>
               have HOb2:Hid (¬ y∈nx.take e):=of_decide_eq_false HOb.out.symm
               by_cases hzy:z=y
               ·have hzyi:(z:Int)=(y:Int):=by omega
                go_wp2_with fail
                go_roundw
                case rel=>exact ⟨e+1,by omega,by go_num,by congr 1;rw [HT.out];simp [hzy],HBy.out⟩
                case measure=>simp [intOf];omega
               ·have hzyi:¬ (z:Int)=(y:Int):=by omega
                go_wp2_with fail
                go_roundw
                case rel=>exact ⟨e+1,by omega,by go_num,by congr 1;rw [HT.out];have h1:=HOb2.out;have h2:¬ y=z:=fun h=>hzy h.symm;simp [h1,h2,hzyi],HBy.out⟩
                case measure=>simp [intOf];omega
             ·obtain rfl:lq=e:=by omega
              have eob:decide (y∈nx.take lq)=true:=by rw [<- HLn.out,List.take_length];exact decide_eq_true HMem.out
              rw [eob];clear eob
              go_wp2_with fail
              go_roundw
              case rel=>
               refine ⟨i+1,by omega,by go_num,?_,HBy.out⟩
               rw [if_neg (by omega),HY.out,HKk.out]
               by_cases h:i=k
               ·rw [if_pos h,if_pos (by omega)]
               ·rw [if_neg h,if_neg (by omega)]
                rfl
              case measure=>simp [intOf];omega
       ·have hiki:¬ (i:Int) <= (k:Int):=by omega
        have hbr:=hbw11.trans (HBr.out.mono hbw11.size)
        go_wp2_with fail
        go_ret
        exact ⟨by first | rfl | simp,hbr⟩
